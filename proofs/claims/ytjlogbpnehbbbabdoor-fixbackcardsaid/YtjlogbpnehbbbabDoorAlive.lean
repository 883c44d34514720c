/- 'alive' answers true, and writes nothing that was there. -/
import Derived.Test.YtjlogbpnehbbbabDoorProg
import Derived.Test.YtjlogbpnehbbbabDoorBase
import Derived.Test.YtjlogbpnehbbbabDoorRight
import Derived.Test.YtjlogbpnehbbbabDoorDiv
import Derived.Test.YtjlogbpnehbbbabDoorAdd
import Derived.WalkKit
import Derived.ProofKit
import Derived.OpenShut
import Derived.Below
namespace Go.Proofs.YtjlogbpnehbbbabDoor
open Go.ChangeShapes Go.WideShapes Go.ChangeAt Go.RowKit

theorem divisible_72 (w : World) : Calls Tryd.prog 19 #[.int .i64 (-7), .int .i64 2] w fun e w' => e = .returned (.int .i64 0) ∧ w' = w.alloc (.cells #[.int .i64 (-7), .int .i64 2] 2) := by
  have h1 : rightB (-7) = true := by decide
  have h2 : rightB 2 = true := by decide
  go_enter Tryd.func19, Tryd.ntmps19
  go_wp2_with (go_at_call 18; refine (allRight_new2 _ _ _).mono ?_; rintro e w' ⟨rfl, rfl⟩)
  go_ret
  exact ⟨rfl, rfl⟩

theorem div_72 (w : World) : Calls Tryd.prog 11 #[.int .i64 (-7), .int .i64 2] w fun e w' => e = .returned (.tuple #[.int .i64 (-4), .int .i64 0]) ∧ w' = w.alloc (.cells #[.int .i64 (-7), .int .i64 2] 2) := by
  have h1 : ansV (-4) = -4 := by decide
  have h2 : ansE (-4) = 0 := by decide
  go_enter Tryd.func11, Tryd.ntmps11
  go_wp2_with (first | (go_at_call 19; refine (divisible_72 _).mono ?_; rintro e w' ⟨rfl, rfl⟩) | (go_at_call 20; refine (answer_any _ _).mono ?_; rintro e w'' ⟨rfl, rfl⟩))
  go_ret2
  exact ⟨rfl, rfl⟩

theorem add_237 (w : World) : Calls Tryd.prog 10 #[.slice (some ⟨w.heap.size, 0, none⟩) 3 3] (w.alloc (.cells #[.int .i64 2, .int .i64 3, .int .i64 (-7)] 2)) fun e w' => e = .returned (.tuple #[.int .i64 (-2), .int .i64 0]) ∧ w' = w.alloc (.cells #[.int .i64 2, .int .i64 3, .int .i64 (-7)] 2) := by
  refine (add_any w.heap.size 0 3 [2, 3, -7] _ (by unfold maxLen; simp) ?_).mono ?_
  · intro j hj
    have : j = 0 ∨ j = 1 ∨ j = 2 := by simp at hj; omega
    rcases this with rfl | rfl | rfl <;> simp
  · rintro e w' ⟨rfl, rfl⟩
    have e1 : addR [2, 3, -7] = (-2, 0) := by decide
    exact ⟨by rw [e1], rfl⟩

theorem alive_below (w : World) : Calls Tryd.prog 6 #[] w fun e w' => e = .returned (.bool true) ∧ Below w.heap.size w w' := by
  go_enter Tryd.func6, Tryd.ntmps6
  go_wp2_with (first | (go_at_call 10; refine (add_237 _).mono ?_; rintro e w' ⟨rfl, rfl⟩) | (go_at_call 11; refine (div_72 _).mono ?_; rintro e w' ⟨rfl, rfl⟩))
  go_ret
  exact ⟨rfl, ((Below.refl _ _).alloc (Nat.le_refl _) _).alloc (by simp) _⟩
end Go.Proofs.YtjlogbpnehbbbabDoor
