/- What package fix's divisions answer, for every two numbers. -/
import Derived.Test.YtjlogbpnehbbbabDoorProg
import Derived.Test.YtjlogbpnehbbbabDoorBase
import Derived.Test.YtjlogbpnehbbbabDoorRight
import Derived.WalkKit
import Derived.ProofKit
import Derived.OpenShut
namespace Go.Proofs.YtjlogbpnehbbbabDoor
open Go.ChangeShapes Go.WideShapes Go.ChangeAt Go.RowKit

theorem allRight_new2 (x y : Int) (w : World) : Calls Tryd.prog 18 #[.slice (some ⟨w.heap.size, 0, none⟩) 2 2] (w.alloc (.cells #[.int .i64 x, .int .i64 y] 2)) fun e w' => e = .returned (.bool (rightB x && rightB y)) ∧ w' = w.alloc (.cells #[.int .i64 x, .int .i64 y] 2) := by
  refine (allRight_any w.heap.size 0 2 [x, y] _ (by unfold maxLen; simp) ?_).mono ?_
  · intro j hj
    have : j = 0 ∨ j = 1 := by simp at hj; omega
    rcases this with rfl | rfl <;> simp
  · rintro e w' ⟨rfl, rfl⟩
    exact ⟨ret_bool (by simp), rfl⟩

theorem grown_new {w : World} (c : Array Value) (t : TypeId) : Grown w (w.alloc (.cells c t)) := (Grown.refl w).alloc c t

theorem divisible_any (a b : Int) (w : World) : Calls Tryd.prog 19 #[.int .i64 a, .int .i64 b] w fun e w' => e = .returned (.int .i64 (divE a b)) ∧ Grown w w' := by
  rcases right_cases a with ⟨ha, _⟩ | ⟨ha, _⟩ <;> rcases right_cases b with ⟨hb, _⟩ | ⟨hb, _⟩ <;> cases h0 : b == 0
  all_goals
    have HE : Hid (divE a b = if rightB a && rightB b then (if b == 0 then 11 else 0) else 1) := rfl
    have HA := hide ha
    have HB := hide hb
    have H0 := hide h0
    go_enter Tryd.func19, Tryd.ntmps19
    go_wp2_with (go_at_call 18; refine (allRight_new2 _ _ _).mono ?_; rintro e w' ⟨rfl, rfl⟩)
    go_ret
    exact ⟨ret_int (by rw [HE.out, HA.out, HB.out, H0.out]; rfl), grown_new _ _⟩

theorem div_any (a b : Int) (w : World) : Calls Tryd.prog 11 #[.int .i64 a, .int .i64 b] w fun e w' => e = .returned (.tuple #[.int .i64 (divV a b), .int .i64 (divF a b)]) ∧ Grown w w' := by
  have HV : Hid (divV a b = if divE a b = 0 then ansV (dq a b) else 0) := rfl
  have HE : Hid (divF a b = if divE a b = 0 then ansE (dq a b) else divE a b) := rfl
  rcases divE_cases a b with ⟨hd, ha, hb, h0⟩ | hd
  · have HD := hide hd
    have hq := tdiv_wrap a b ha
    have hqb := tdiv_bd a b ha
    cases hr : a.tmod b != 0 <;> cases hsa : decide (a < 0) <;> cases hsb : decide (b < 0)
    all_goals
      have HR := hide hr
      have HSA := hide hsa
      have HSB := hide hsb
      go_enter Tryd.func11, Tryd.ntmps11
      go_wp2_with (first | (go_at_call 19; refine (divisible_any _ _ _).mono ?_; rintro e w' ⟨rfl, hg⟩) | (go_at_call 20; refine (answer_any _ _).mono ?_; rintro e w'' ⟨rfl, rfl⟩))
      go_ret2
      have h1 := HR.out
      have h2 := HSA.out
      have h3 := HSB.out
      simp only [bne_eq_false_iff_eq, bne_iff_ne, ne_eq, decide_eq_true_eq, decide_eq_false_iff_not] at h1 h2 h3
      refine ⟨ret_two (by rw [HV.out, if_pos HD.out]; first | rw [dq_lo h1 (by omega)] | rw [dq_hi (by omega)]) (by rw [HE.out, if_pos HD.out]; first | rw [dq_lo h1 (by omega)] | rw [dq_hi (by omega)]), by assumption⟩
  · rcases hd with hd | hd
    all_goals
      have HD := hide hd
      go_enter Tryd.func11, Tryd.ntmps11
      go_wp2_with (first | (go_at_call 19; refine (divisible_any _ _ _).mono ?_; rintro e w' ⟨rfl, hg⟩))
      go_ret2
      exact ⟨ret_two (by rw [HV.out, HD.out]; rfl) (by rw [HE.out, HD.out]; rfl), by assumption⟩
end Go.Proofs.YtjlogbpnehbbbabDoor
