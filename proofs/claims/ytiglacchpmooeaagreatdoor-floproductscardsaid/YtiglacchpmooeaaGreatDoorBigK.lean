/- Amounts: small facts that several walks share. -/
import Derived.Test.YtiglacchpmooeaaGreatDoorBig6
namespace Go.Proofs.YtiglacchpmooeaaGreatDoor
open Go.ChangeShapes Go.WideShapes Go.ChangeAt Go.RowKit

theorem big_of {M a : Nat} (h : M < 2 ^ a) (ha : a ≤ 64000) : M < BIG := by
  have e : BIG = 2 ^ (16 * K0) := by unfold BIG; rw [show (65536 : Nat) = 2 ^ 16 by decide, ← Nat.pow_mul]
  rw [e]
  exact Nat.lt_of_lt_of_le h (Nat.pow_le_pow_right (by decide) (by rw [K0_eq]; omega))

theorem mul_pow_lt {M l k : Nat} (h : M < 2 ^ l) : M * 2 ^ k < 2 ^ (l + k) := by
  rw [Nat.pow_add]
  exact Nat.mul_lt_mul_of_pos_right h (Nat.two_pow_pos k)

theorem row_digit (w : World) (t : TypeId) (d : Nat) : Row (w.alloc (.cells #[.int .u16 (d : Int)] t)) (.slice (some ⟨w.heap.size, 0, none⟩) 1 1) [d] := by
  refine Or.inr ⟨w.heap.size, 0, 1, rfl, by simp, Nat.le_refl _, by decide, fun j hj => ?_⟩
  have : j = 0 := by simp at hj; omega
  subst this
  simp

theorem amt_one (w : World) (t : TypeId) : IsAmt (w.alloc (.cells #[.int .u16 1] t)) (.slice (some ⟨w.heap.size, 0, none⟩) 1 1) 1 :=
  ⟨[1], row_digit w t 1, by intro d hd; simp at hd; omega, by intro k hk; simp at hk; subst hk; simp, by simp [valD]⟩
end Go.Proofs.YtiglacchpmooeaaGreatDoor
