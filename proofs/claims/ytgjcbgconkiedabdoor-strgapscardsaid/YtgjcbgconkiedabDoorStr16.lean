/- The closed call at the end of every law. -/
import Derived.Test.YtgjcbgconkiedabDoorProg
import Derived.Test.YtgjcbgconkiedabDoorStr15
import Derived.Test.YtgjcbgconkiedabDoorStr6
import Derived.WalkKit
import Derived.ProofKit
import Derived.OpenShut
import Derived.Below
import Derived.WalkLawsBesides
import Derived.OwnWalk
namespace Go.Proofs.YtgjcbgconkiedabDoor
open Go.ChangeShapes Go.WideShapes Go.ChangeAt Go.RowKit

theorem strs_two (w : World) (a b : ByteArray) (e : TypeId) : Strs (w.alloc (.cells #[.string a, .string b] e)) (.slice (some ⟨w.heap.size, 0, none⟩) 2 2) [a, b] := by
  refine ⟨_, _, rfl, by show 2 ≤ maxLen; unfold maxLen; decide, fun j hj => ⟨_, rfl, by simp, ?_⟩⟩
  refine cells_new w [.string a, .string b] e j _ ?_
  have : j = 0 ∨ j = 1 := by simp at hj; omega
  rcases this with rfl | rfl <;> rfl

set_option maxRecDepth 100000 in
theorem alive_any (w : World) (R : Rdy w) : Calls Tryd.prog 5 #[] w fun e w' => e = .returned (.bool true) ∧ Below w.heap.size w w' := by
  have C : ∀ W, Strs W (.slice (some ⟨w.heap.size, 0, none⟩) 2 2) [⟨#[97, 98]⟩, ⟨#[99]⟩] → Calls Tryd.prog 7 #[.slice (some ⟨w.heap.size, 0, none⟩) 2 2] W fun e w' => e = .returned (.tuple #[.string ⟨#[97, 98, 99]⟩, .int .i64 0]) ∧ Below W.heap.size W w' := by
    intro W h
    have e1 : catS [⟨#[97, 98]⟩, ⟨#[99]⟩] = ⟨#[97, 98, 99]⟩ := by decide +kernel
    have e2 : catE [⟨#[97, 98]⟩, ⟨#[99]⟩] = 0 := by decide +kernel
    have := cat_any _ _ W h
    rw [e1, e2] at this
    exact this
  have D : ∀ W, Rdy W → Calls Tryd.prog 4 #[.string ⟨#[92, 48, 54, 53, 98]⟩] W fun e w' => e = .returned (.tuple #[.string ⟨#[65, 98]⟩, .int .i64 0, .int .i64 0]) ∧ Below W.heap.size W w' := by
    intro W h
    have e0 : readL (ByteArray.mk #[92, 48, 54, 53, 98]).data.toList = ([65, 98], none) := by decide +kernel
    have := read_any ⟨#[92, 48, 54, 53, 98]⟩ W h (by show 5 ≤ maxLen; unfold maxLen; decide)
    rw [e0] at this
    exact this
  have HC := hide C
  have HD := hide D
  have HS := hide (strs_two w ⟨#[97, 98]⟩ ⟨#[99]⟩ 9)
  clear C D
  go_enter Tryd.func5, Tryd.ntmps5
  go_wp2_with (first | (go_at_call 7; refine (HC.out _ HS.out).mono ?_; rintro e w1 ⟨rfl, b1⟩; have B1 : Below w.heap.size w w1 := ((Below.refl _ w).alloc (Nat.le_refl _) _).trans (b1.mono (by simp))) | (go_at_call 4; refine (HD.out _ (R.below B1)).mono ?_; rintro e w2 ⟨rfl, b2⟩))
  go_ret
  exact ⟨rfl, B1.trans (b2.mono B1.size)⟩
end Go.Proofs.YtgjcbgconkiedabDoor
