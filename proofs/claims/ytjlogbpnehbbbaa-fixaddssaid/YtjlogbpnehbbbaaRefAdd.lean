/- What the document's own sum of many answers. -/
import Derived.Test.YtjlogbpnehbbbaaProg
import Derived.Test.YtjlogbpnehbbbaaBase
import Derived.Test.YtjlogbpnehbbbaaRight
import Derived.Test.YtjlogbpnehbbbaaDiv
import Derived.Test.YtjlogbpnehbbbaaAdd
import Derived.Test.YtjlogbpnehbbbaaRef
import Derived.WalkKit
import Derived.ProofKit
import Derived.OpenShut
namespace Go.Proofs.Ytjlogbpnehbbbaa
open Go.ChangeShapes Go.WideShapes Go.ChangeAt Go.RowKit

theorem radd_nil (a : Option Addr) (cap : Nat) (w : World) : Calls Try.prog 8 #[.slice a 0 cap] w fun e w' => e = .returned (.tuple #[.int .i64 0, .int .i64 0]) ∧ w' = w := by
  go_enter Try.func8, Try.ntmps8
  go_wp2
  go_loop [4] (fun i => i = .int .i64 0) (fun _ => 0)
  case atStart => rfl
  case round =>
    subst hrel
    go_wp2
    go_loop [5, 6] (fun s i => i = .int .i64 0 ∧ s = .int .i64 0) (fun _ _ => 0)
    case atStart => exact ⟨rfl, rfl⟩
    case round =>
      obtain ⟨rfl, rfl⟩ := hrel
      go_wp2
      go_ret2
      exact ⟨rfl, rfl⟩

set_option maxHeartbeats 1000000 in
theorem radd_any (b off cap : Nat) (zs : List Int) (w : World) (hl : zs.length ≤ maxLen)
    (hc : ∀ j, j < zs.length → w.cell? ⟨b, off + j, none⟩ = some (.int .i64 (zs.getD j 0))) :
    Calls Try.prog 8 #[.slice (some ⟨b, off, none⟩) zs.length cap] w fun e w' => e = .returned (.tuple #[.int .i64 (addR zs).1, .int .i64 (addR zs).2]) ∧ w' = w := by
  unfold maxLen at hl
  have HC := hide hc
  clear hc
  have HD : Hid (addR zs = if zs.all rightB then addGo 0 zs else (0, 1)) := rfl
  go_enter Try.func8, Try.ntmps8
  go_wp2
  go_loop [4] (fun i => ∃ k : Nat, k ≤ zs.length ∧ i = .int .i64 k ∧ (zs.take k).all rightB = true) (fun i => zs.length - (intOf i).toNat)
  case atStart => exact ⟨0, Nat.zero_le _, rfl, by simp⟩
  case round =>
    obtain ⟨k, hk, rfl, ha⟩ := hrel
    have HA := hide ha
    clear ha
    by_cases hlt : k < zs.length
    · obtain ⟨z, hcell, HS, HO⟩ : ∃ z, w.cell? ⟨b, off + k, none⟩ = some (.int .i64 z) ∧ Hid ((zs.take (k + 1)).all rightB = ((zs.take k).all rightB && rightB z)) ∧ Hid (rightB z = false → zs.all rightB = false) :=
        ⟨zs.getD k 0, HC.out k hlt, all_snoc zs k hlt, all_out zs k hlt⟩
      rcases right_cases z with ⟨hr, _⟩ | ⟨hr, _⟩
      · have HR := hide hr
        go_wp2_with (go_at_call 19; refine (rright_any _ _).mono ?_; rintro e w' ⟨rfl, rfl⟩)
        go_round
        case rel => exact ⟨k + 1, by omega, by go_num, by rw [HS.out, HA.out, HR.out]; rfl⟩
        case measure => simp [intOf]; omega
      · have HR := hide hr
        go_wp2_with (go_at_call 19; refine (rright_any _ _).mono ?_; rintro e w' ⟨rfl, rfl⟩)
        go_ret2
        have e1 : addR zs = (0, 1) := by rw [HD.out, HO.out HR.out]; rfl
        exact ⟨ret_two (by rw [e1]) (by rw [e1]), rfl⟩
    · have HALL : Hid (zs.all rightB = true) := by
        have hz := HA.out
        rw [List.take_of_length_le (by omega)] at hz
        exact hz
      have hkk : k = zs.length := by omega
      clear HA
      subst hkk
      go_wp2
      go_loop [5, 6] (fun s i => ∃ (k : Nat) (n : Int), k ≤ zs.length ∧ i = .int .i64 k ∧ s = .int .i64 n ∧ (-4611686018427387904 ≤ n ∧ n ≤ 4611686018427387903) ∧ addGo 0 zs = addGo n (zs.drop k)) (fun _ i => zs.length - (intOf i).toNat)
      case atStart => exact ⟨0, 0, Nat.zero_le _, rfl, rfl, by omega, by simp⟩
      case round =>
        obtain ⟨k, n, hk, rfl, rfl, hn, hg⟩ := hrel
        have HG := hide hg
        clear hg
        by_cases hlt : k < zs.length
        · obtain ⟨z, hcell, HS, hz⟩ : ∃ z, w.cell? ⟨b, off + k, none⟩ = some (.int .i64 z) ∧ Hid (addGo n (zs.drop k) = if rightB (n + z) then addGo (n + z) (zs.drop (k + 1)) else (0, 10)) ∧ (-4611686018427387904 ≤ z ∧ z ≤ 4611686018427387903) :=
            ⟨zs.getD k 0, HC.out k hlt, addGo_drop n zs k hlt, right_iff.mp (all_at zs k hlt HALL.out)⟩
          rcases right_cases (n + z) with ⟨hr, hrb⟩ | ⟨hr, _⟩
          · have HR := hide hr
            have v1 := ansV_yes hr
            have v2 := ansE_yes hr
            clear hr
            go_wp2_with (go_at_call 31; refine (told_any _ _).mono ?_; rintro e w' ⟨rfl, rfl⟩)
            go_round
            case rel => exact ⟨k + 1, n + z, by omega, by go_num, rfl, hrb, by rw [HG.out, HS.out, if_pos HR.out]⟩
            case measure => simp [intOf]; omega
          · have HR := hide hr
            have v1 := ansV_no hr
            have v2 := ansE_no hr
            clear hr
            go_wp2_with (go_at_call 31; refine (told_any _ _).mono ?_; rintro e w' ⟨rfl, rfl⟩)
            go_ret2
            have e1 : addR zs = (0, 10) := by rw [HD.out, if_pos HALL.out, HG.out, HS.out, HR.out]; rfl
            exact ⟨ret_two (by rw [e1]) (by rw [e1]), rfl⟩
        · go_wp2
          go_ret2
          have e1 : addR zs = (n, 0) := by rw [HD.out, if_pos HALL.out, HG.out, List.drop_of_length_le (by omega)]; rfl
          exact ⟨ret_two (by rw [e1]) (by rw [e1]), rfl⟩
end Go.Proofs.Ytjlogbpnehbbbaa
