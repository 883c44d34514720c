/- What package fix's sums, differences and products answer, for every argument. -/
import Derived.Test.YtjlogbpnehbbbabDoorProg
import Derived.Test.YtjlogbpnehbbbabDoorBase
import Derived.Test.YtjlogbpnehbbbabDoorRight
import Derived.Test.YtjlogbpnehbbbabDoorDiv
import Derived.WalkKit
import Derived.ProofKit
import Derived.OpenShut
namespace Go.Proofs.YtjlogbpnehbbbabDoor
open Go.ChangeShapes Go.WideShapes Go.ChangeAt Go.RowKit

theorem add_nil (a : Option Addr) (cap : Nat) (w : World) : Calls Tryd.prog 10 #[.slice a 0 cap] w fun e w' => e = .returned (.tuple #[.int .i64 0, .int .i64 0]) ∧ w' = w := by
  go_enter Tryd.func10, Tryd.ntmps10
  go_wp2_with (go_at_call 18; refine (allRight_nil _ _ _).mono ?_; rintro e w' ⟨rfl, rfl⟩)
  go_loop [4, 12] (fun s i => i = .int .i64 0 ∧ s = .int .i64 0) (fun _ _ => 0)
  case atStart => exact ⟨rfl, rfl⟩
  case round =>
    obtain ⟨rfl, rfl⟩ := hrel
    go_wp2
    go_ret2
    exact ⟨rfl, rfl⟩

theorem add_any (b off cap : Nat) (zs : List Int) (w : World) (hl : zs.length ≤ maxLen)
    (hc : ∀ j, j < zs.length → w.cell? ⟨b, off + j, none⟩ = some (.int .i64 (zs.getD j 0))) :
    Calls Tryd.prog 10 #[.slice (some ⟨b, off, none⟩) zs.length cap] w fun e w' => e = .returned (.tuple #[.int .i64 (addR zs).1, .int .i64 (addR zs).2]) ∧ w' = w := by
  have HL := hide hl
  unfold maxLen at hl
  have HC := hide hc
  clear hc
  have HD : Hid (addR zs = if zs.all rightB then addGo 0 zs else (0, 1)) := rfl
  cases hall : zs.all rightB
  · have HALL := hide hall
    go_enter Tryd.func10, Tryd.ntmps10
    go_wp2_with (go_at_call 18; refine (allRight_any _ _ _ zs _ HL.out HC.out).mono ?_; rintro e w' ⟨rfl, rfl⟩)
    go_ret2
    exact ⟨ret_two (by rw [HD.out, HALL.out]; rfl) (by rw [HD.out, HALL.out]; rfl), rfl⟩
  · have HALL := hide hall
    go_enter Tryd.func10, Tryd.ntmps10
    go_wp2_with (go_at_call 18; refine (allRight_any _ _ _ zs _ HL.out HC.out).mono ?_; rintro e w' ⟨rfl, rfl⟩)
    go_loop [4, 12] (fun s i => ∃ (k : Nat) (n : Int), k ≤ zs.length ∧ i = .int .i64 k ∧ s = .int .i64 n ∧ (-4611686018427387904 ≤ n ∧ n ≤ 4611686018427387903) ∧ addGo 0 zs = addGo n (zs.drop k)) (fun _ i => zs.length - (intOf i).toNat)
    case atStart => exact ⟨0, 0, Nat.zero_le _, rfl, rfl, by omega, by simp⟩
    case round =>
      obtain ⟨k, n, hk, rfl, rfl, hn, hg⟩ := hrel
      have HG := hide hg
      clear hg
      by_cases hlt : k < zs.length
      · obtain ⟨z, hcell, HS, hz⟩ : ∃ z, w'.cell? ⟨b, off + k, none⟩ = some (.int .i64 z) ∧ Hid (addGo n (zs.drop k) = if rightB (n + z) then addGo (n + z) (zs.drop (k + 1)) else (0, 10)) ∧ (-4611686018427387904 ≤ z ∧ z ≤ 4611686018427387903) :=
          ⟨zs.getD k 0, HC.out k hlt, addGo_drop n zs k hlt, right_iff.mp (all_at zs k hlt HALL.out)⟩
        rcases right_cases (n + z) with ⟨hr, hrb⟩ | ⟨hr, _⟩
        · have HR := hide hr
          go_wp2_with (go_at_call 5; refine (right_any _ _).mono ?_; rintro e w' ⟨rfl, rfl⟩)
          go_round
          case rel => exact ⟨k + 1, n + z, by omega, by go_num, rfl, hrb, by rw [HG.out, HS.out, if_pos HR.out]⟩
          case measure => simp [intOf]; omega
        · have HR := hide hr
          go_wp2_with (go_at_call 5; refine (right_any _ _).mono ?_; rintro e w' ⟨rfl, rfl⟩)
          go_ret2
          have e1 : addR zs = (0, 10) := by rw [HD.out, if_pos HALL.out, HG.out, HS.out, HR.out]; rfl
          exact ⟨ret_two (by rw [e1]) (by rw [e1]), rfl⟩
      · go_wp2
        go_ret2
        have e1 : addR zs = (n, 0) := by rw [HD.out, if_pos HALL.out, HG.out, List.drop_of_length_le (by omega)]; rfl
        exact ⟨ret_two (by rw [e1]) (by rw [e1]), rfl⟩

theorem add_new2 (x y : Int) (w : World) : Calls Tryd.prog 10 #[.slice (some ⟨w.heap.size, 0, none⟩) 2 2] (w.alloc (.cells #[.int .i64 x, .int .i64 y] 2)) fun e w' => e = .returned (.tuple #[.int .i64 (addR [x, y]).1, .int .i64 (addR [x, y]).2]) ∧ Grown w w' := by
  refine (add_any w.heap.size 0 2 [x, y] _ (by unfold maxLen; simp) ?_).mono ?_
  · intro j hj
    have : j = 0 ∨ j = 1 := by simp at hj; omega
    rcases this with rfl | rfl <;> simp
  · rintro e w' ⟨rfl, rfl⟩
    exact ⟨rfl, grown_new _ _⟩

theorem add_new3 (x y z : Int) (w : World) : Calls Tryd.prog 10 #[.slice (some ⟨w.heap.size, 0, none⟩) 3 3] (w.alloc (.cells #[.int .i64 x, .int .i64 y, .int .i64 z] 2)) fun e w' => e = .returned (.tuple #[.int .i64 (addR [x, y, z]).1, .int .i64 (addR [x, y, z]).2]) ∧ Grown w w' := by
  refine (add_any w.heap.size 0 3 [x, y, z] _ (by unfold maxLen; simp) ?_).mono ?_
  · intro j hj
    have : j = 0 ∨ j = 1 ∨ j = 2 := by simp at hj; omega
    rcases this with rfl | rfl | rfl <;> simp
  · rintro e w' ⟨rfl, rfl⟩
    exact ⟨rfl, grown_new _ _⟩

/-- 'alive': 2 + 3 - 7 is -2, and -7 by 2 rounded down is -4. -/
theorem alive_any (w : World) : Calls Tryd.prog 6 #[] w fun e w' => e = .returned (.bool true) ∧ Grown w w' := by
  have h1 : (addR [2, 3, -7]).1 = -2 := by decide
  have h2 : (addR [2, 3, -7]).2 = 0 := by decide
  have h3 : divV (-7) 2 = -4 := by decide
  have h4 : divF (-7) 2 = 0 := by decide
  go_enter Tryd.func6, Tryd.ntmps6
  go_wp2_with (first | (go_at_call 10; refine (add_new3 _ _ _ _).mono ?_; rintro e w1 ⟨rfl, g1⟩) | (go_at_call 11; refine (div_any _ _ _).mono ?_; rintro e w' ⟨rfl, hg⟩))
  go_ret
  exact ⟨rfl, grown_trans (by assumption) (by assumption)⟩
end Go.Proofs.YtjlogbpnehbbbabDoor
