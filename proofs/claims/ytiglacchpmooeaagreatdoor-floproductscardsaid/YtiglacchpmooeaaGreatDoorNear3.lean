/- The reference's Nearest is the nearest word. -/
import Derived.Test.YtiglacchpmooeaaGreatDoorNear2
namespace Go.Proofs.YtiglacchpmooeaaGreatDoor
open Go.ChangeShapes Go.WideShapes Go.ChangeAt Go.RowKit
open Ieee

/-- The place of the last digit that is kept; the digits that are. -/
def lastP (M : Nat) (P : Int) : Int := max (P + M.log2 - 52) (-1074)
def keptN (M : Nat) (P : Int) : Nat := rndE (M * 2 ^ (P - lastP M P).toNat) (2 ^ (lastP M P - P).toNat)

theorem near_pack {M : Nat} (h : M ≠ 0) (P : Int) : nearR M P = packR (keptN M P) (lastP M P + 1074).toNat := by
  rw [near_form M h, shl_cut]
  rfl

theorem kept_le {M : Nat} (h : M ≠ 0) (P : Int) : keptN M P ≤ 9007199254740992 := by
  unfold keptN
  refine (rndE_between (lo := 0) (Nat.two_pow_pos _) (by omega) ?_).2
  have h1 := log2_hi h
  obtain ⟨l, el⟩ : ∃ l, M.log2 = l := ⟨_, rfl⟩
  have hL : P + (l : Int) - 52 ≤ lastP M P := by unfold lastP; rw [el]; omega
  rw [el] at h1
  obtain ⟨a, ea⟩ : ∃ a, (P - lastP M P).toNat = a := ⟨_, rfl⟩
  obtain ⟨b, eb⟩ : ∃ b, (lastP M P - P).toNat = b := ⟨_, rfl⟩
  rw [ea, eb]
  have hab : l + 1 + a ≤ 53 + b := by omega
  have h2 : (9007199254740992 : Nat) = 2 ^ 53 := by decide
  rw [h2, ← Nat.pow_add]
  have h3 : M * 2 ^ a ≤ 2 ^ (l + 1) * 2 ^ a := Nat.mul_le_mul_right _ (by omega)
  rw [← Nat.pow_add] at h3
  exact Nat.le_trans h3 (Nat.pow_le_pow_right (by decide) hab)

theorem kept_ge {M : Nat} (h : M ≠ 0) (P : Int) (hk : keptN M P < 4503599627370496) : (lastP M P + 1074).toNat = 0 := by
  by_cases hl : lastP M P = -1074
  · rw [hl]; rfl
  · exfalso
    have h1 := log2_lo h
    obtain ⟨l, el⟩ : ∃ l, M.log2 = l := ⟨_, rfl⟩
    have hL : lastP M P = P + (l : Int) - 52 := by unfold lastP at hl ⊢; rw [el] at hl ⊢; omega
    rw [el] at h1
    have : 4503599627370496 ≤ keptN M P := by
      unfold keptN
      refine (rndE_between (hi := M * 2 ^ (P - lastP M P).toNat) (Nat.two_pow_pos _) ?_ (Nat.le_mul_of_pos_right _ (Nat.two_pow_pos _))).1
      obtain ⟨a, ea⟩ : ∃ a, (P - lastP M P).toNat = a := ⟨_, rfl⟩
      obtain ⟨b, eb⟩ : ∃ b, (lastP M P - P).toNat = b := ⟨_, rfl⟩
      rw [ea, eb]
      have h2 : (4503599627370496 : Nat) = 2 ^ 52 := by decide
      rw [h2, ← Nat.pow_add, show 52 + b = l + a by omega, Nat.pow_add]
      exact Nat.mul_le_mul_right _ h1
    omega

/-- The first way: nothing is dropped. -/
theorem kept_up {M : Nat} {P : Int} (h : lastP M P ≤ P - 2) : keptN M P = M * 2 ^ 2 * 2 ^ (P - 2 - lastP M P).toNat := by
  unfold keptN
  have e1 : (lastP M P - P).toNat = 0 := by omega
  have e2 : (P - lastP M P).toNat = 2 + (P - 2 - lastP M P).toNat := by omega
  rw [e1, e2, Nat.pow_zero, Nat.pow_add, ← Nat.mul_assoc]
  unfold rndE
  rw [Nat.div_one, Nat.mod_one]
  simp [moreW]

/-- The second way: four times the number over four times the gap. -/
theorem kept_down {M : Nat} {P : Int} (h : P - 2 < lastP M P) : keptN M P = rndE (M * 2 ^ 2) (2 ^ (lastP M P - (P - 2)).toNat) := by
  unfold keptN
  obtain ⟨a, ea⟩ : ∃ a, (P - lastP M P).toNat = a := ⟨_, rfl⟩
  obtain ⟨b, eb⟩ : ∃ b, (lastP M P - P).toNat = b := ⟨_, rfl⟩
  rw [ea, eb]
  have ha : a ≤ 1 := by omega
  have hc : (lastP M P - (P - 2)).toNat = b + (2 - a) := by omega
  rw [hc, Nat.pow_add, ← rndE_mul (M * 2 ^ a) (2 ^ b) (2 ^ (2 - a)) (Nat.two_pow_pos _), Nat.mul_assoc M, ← Nat.pow_add, show a + (2 - a) = 2 by omega]

theorem blen_four {M : Nat} (h : M ≠ 0) : blen (M * 2 ^ 2) = M.log2 + 3 := by
  unfold blen
  rw [if_neg (Nat.mul_ne_zero h (by decide)), log2_mul_pow h]

theorem box_kept {w w1 : World} {c0 c1 c2 : Value} {t : TypeId} (h : Below (w.alloc (.cells #[c0, c1, c2] t)).heap.size (w.alloc (.cells #[c0, c1, c2] t)) w1) : w1.cell? ⟨w.heap.size, 0, none⟩ = some c0 ∧ w1.cell? ⟨w.heap.size, 2, none⟩ = some c2 ∧ Below w.heap.size w w1 ∧ w.heap.size < w1.heap.size := by
  have hs : w.heap.size < (w.alloc (.cells #[c0, c1, c2] t)).heap.size := by simp
  refine ⟨?_, ?_, ((Below.refl _ _).alloc (Nat.le_refl _) _).trans (h.mono (by omega)), Nat.lt_of_lt_of_le hs h.size⟩
  · rw [h.cell (p := ⟨w.heap.size, 0, none⟩) hs]; simp
  · rw [h.cell (p := ⟨w.heap.size, 2, none⟩) hs]; simp
end Go.Proofs.YtiglacchpmooeaaGreatDoor
