/- What package fix's small helpers answer: Right, answer, allRight, for every argument. -/
import Derived.Test.YtjlogbpnehbbbabDoorProg
import Derived.Test.YtjlogbpnehbbbabDoorBase
import Derived.WalkKit
import Derived.ProofKit
import Derived.OpenShut
namespace Go.Proofs.YtjlogbpnehbbbabDoor
open Go.ChangeShapes Go.WideShapes Go.ChangeAt Go.RowKit

theorem right_any (n : Int) (w : World) : Calls Tryd.prog 5 #[.int .i64 n] w fun e w' => e = .returned (.bool (rightB n)) ∧ w' = w := by
  by_cases h1 : -4611686018427387904 ≤ n
  · by_cases h2 : n ≤ 4611686018427387903
    · have hr : Hid (rightB n = true) := right_yes ⟨h1, h2⟩
      go_enter Tryd.func5, Tryd.ntmps5
      go_wp2
      go_ret
      exact ⟨ret_bool hr.out.symm, rfl⟩
    · have hr : Hid (rightB n = false) := right_no (by omega)
      go_enter Tryd.func5, Tryd.ntmps5
      go_wp2
      go_ret
      exact ⟨ret_bool hr.out.symm, rfl⟩
  · have hr : Hid (rightB n = false) := right_no (by omega)
    go_enter Tryd.func5, Tryd.ntmps5
    go_wp2
    go_ret
    exact ⟨ret_bool hr.out.symm, rfl⟩
theorem answer_any (n : Int) (w : World) : Calls Tryd.prog 20 #[.int .i64 n] w fun e w' => e = .returned (.tuple #[.int .i64 (ansV n), .int .i64 (ansE n)]) ∧ w' = w := by
  rcases right_cases n with ⟨hr, _⟩ | ⟨hr, _⟩
  · have hv := hide (ansV_yes hr)
    have he := hide (ansE_yes hr)
    go_enter Tryd.func20, Tryd.ntmps20
    go_wp2_with (go_at_call 5; refine (right_any _ _).mono ?_; rintro e w' ⟨rfl, rfl⟩)
    go_ret2
    exact ⟨ret_two hv.out.symm he.out.symm, rfl⟩
  · have hv := hide (ansV_no hr)
    have he := hide (ansE_no hr)
    go_enter Tryd.func20, Tryd.ntmps20
    go_wp2_with (go_at_call 5; refine (right_any _ _).mono ?_; rintro e w' ⟨rfl, rfl⟩)
    go_ret2
    exact ⟨ret_two hv.out.symm he.out.symm, rfl⟩

theorem allRight_nil (a : Option Addr) (cap : Nat) (w : World) :
    Calls Tryd.prog 18 #[.slice a 0 cap] w fun e w' => e = .returned (.bool true) ∧ w' = w := by
  go_enter Tryd.func18, Tryd.ntmps18
  go_wp2
  go_loop [7] (fun i => i = .int .i64 0) (fun _ => 0)
  case atStart => rfl
  case round =>
    subst hrel
    go_wp2
    go_ret
    exact ⟨rfl, rfl⟩

theorem allRight_any (b off cap : Nat) (zs : List Int) (w : World) (hl : zs.length ≤ maxLen)
    (hc : ∀ j, j < zs.length → w.cell? ⟨b, off + j, none⟩ = some (.int .i64 (zs.getD j 0))) :
    Calls Tryd.prog 18 #[.slice (some ⟨b, off, none⟩) zs.length cap] w fun e w' => e = .returned (.bool (zs.all rightB)) ∧ w' = w := by
  unfold maxLen at hl
  have HC := hide hc
  clear hc
  go_enter Tryd.func18, Tryd.ntmps18
  go_wp2
  go_loop [7] (fun i => ∃ k : Nat, k ≤ zs.length ∧ i = .int .i64 k ∧ (zs.take k).all rightB = true) (fun i => zs.length - (intOf i).toNat)
  case atStart => exact ⟨0, Nat.zero_le _, rfl, by simp⟩
  case round =>
    obtain ⟨k, hk, rfl, ha⟩ := hrel
    have HA := hide ha
    clear ha
    by_cases hlt : k < zs.length
    · obtain ⟨z, hcell, HS, HO⟩ : ∃ z, w.cell? ⟨b, off + k, none⟩ = some (.int .i64 z) ∧ Hid ((zs.take (k + 1)).all rightB = ((zs.take k).all rightB && rightB z)) ∧ Hid (rightB z = false → zs.all rightB = false) :=
        ⟨zs.getD k 0, HC.out k hlt, all_snoc zs k hlt, all_out zs k hlt⟩
      rcases right_cases z with ⟨hr, _⟩ | ⟨hr, _⟩
      · have HR := hide hr
        go_wp2_with (go_at_call 5; refine (right_any _ _).mono ?_; rintro e w' ⟨rfl, rfl⟩)
        go_round
        case rel => exact ⟨k + 1, by omega, by go_num, by rw [HS.out, HA.out, HR.out]; rfl⟩
        case measure => simp [intOf]; omega
      · have HR := hide hr
        go_wp2_with (go_at_call 5; refine (right_any _ _).mono ?_; rintro e w' ⟨rfl, rfl⟩)
        go_ret
        exact ⟨ret_bool (HO.out HR.out).symm, rfl⟩
    · go_wp2
      go_ret
      refine ⟨ret_bool ?_, rfl⟩
      have hz := HA.out
      rw [List.take_of_length_le (by omega)] at hz
      exact hz.symm
end Go.Proofs.YtjlogbpnehbbbabDoor
