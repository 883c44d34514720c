/- Doubling and halving words: plain facts. -/
import Derived.Test.YtegnhinognpgcaaGreatDoorRise
namespace Go.Proofs.YtegnhinognpgcaaGreatDoor
open Ieee

/-- The rung of the double. -/
def dblR (r : Nat) : Nat := if r < 4503599627370496 then 2 * r else r + 4503599627370496
def dblN : Nat → Nat → Nat
  | 0, r => r
  | n + 1, r => dblN n (dblR r)

theorem amt_dbl (r : Nat) : amt (dblR r) = 2 * amt r := by
  unfold dblR
  by_cases h : r < 4503599627370496
  · rw [if_pos h, amt_small h]
    by_cases h2 : 2 * r < 4503599627370496
    · rw [amt_small h2]
    · have := amt_of 0 (2 * r) (by omega) (by omega)
      rw [Nat.zero_mul, Nat.zero_add, Nat.pow_zero, Nat.mul_one] at this
      exact this
  · rw [if_neg h]
    obtain ⟨q, m, rfl, m1, m2⟩ := rung_form (show 4503599627370496 ≤ r by omega)
    rw [amt_of q m m1 m2, show q * 4503599627370496 + m + 4503599627370496 = (q + 1) * 4503599627370496 + m by omega, amt_of _ m m1 m2, Nat.pow_succ, ← Nat.mul_assoc, Nat.mul_comm]

theorem amt_dblN (n r : Nat) : amt (dblN n r) = amt r * 2 ^ n := by
  induction n generalizing r with
  | zero => simp [dblN]
  | succ n ih => rw [dblN, ih, amt_dbl, Nat.pow_succ, Nat.mul_comm 2, Nat.mul_assoc, Nat.mul_comm 2]

theorem dblN_succ (n r : Nat) : dblN (n + 1) r = dblR (dblN n r) := by
  apply amt_inj
  rw [amt_dblN, amt_dbl, amt_dblN, Nat.pow_succ, ← Nat.mul_assoc, Nat.mul_comm]

theorem rungOf_exact {r D : Nat} (h : r < 9218868437227405312) : rungOf (amt r * 2 ^ D) D = r := by
  have h1 := near_rungOf (mag := amt r) (k := D) (D := D)
  have h2 := near_exact (mag := amt r) (k := 0) h (by rw [Nat.pow_zero, Nat.mul_one])
  rw [← h1]
  rw [show ((D : Int) - 1074 - (D : Int)) = -1074 + ((0 : Nat) : Int) by omega]
  exact h2

theorem rung_two : rung 4611686018427387904 = 4611686018427387904 := by decide
theorem sgn_two : sgnB 4611686018427387904 = false := by decide
theorem read_two : double.read 4611686018427387904 = .number false 4503599627370496 (-51) := by decide
theorem amt_two : amt 4611686018427387904 = 2 * EE := by
  obtain ⟨q, hq⟩ : ∃ q, q + 51 = E0 := ⟨1023, rfl⟩
  have e : 4611686018427387904 = q * 4503599627370496 + 4503599627370496 := by rw [E0_eq] at hq; omega
  rw [e, amt_of _ _ (by omega) (by omega), EE_eq hq, Nat.mul_comm (2 ^ q), ← Nat.mul_assoc]

theorem mul_two {r : Nat} (h : dblR r < 9218868437227405312) : double.mul (wordD false r) 4611686018427387904 = some (wordD false (dblR r)) := by
  have hr : r < 9218868437227405312 := by unfold dblR at h; split at h <;> omega
  have f1 : rung (wordD false r) < 9218868437227405312 := by rw [rung_wordD (by omega)]; exact hr
  have f2 : rung 4611686018427387904 < 9218868437227405312 := by decide
  rw [mul_fin f1 f2, rung_wordD (by omega), sgn_wordD (by omega), rung_two, sgn_two, amt_two]
  have e : amt r * (2 * EE) = amt (dblR r) * 2 ^ E0 := by rw [amt_dbl, ← Nat.mul_assoc, Nat.mul_comm (amt r)]; rfl
  rw [e]
  have := rungOf_exact (D := E0) h
  rw [show rungOf (amt (dblR r) * 2 ^ E0) 1074 = dblR r from this]
  rfl

theorem div_two {r : Nat} (h : dblR r < 9218868437227405312) : double.div (wordD false (dblR r)) 4611686018427387904 = some (wordD false r) := by
  have hr : r < 9218868437227405312 := by unfold dblR at h; split at h <;> omega
  have f1 : rung (wordD false (dblR r)) < 9218868437227405312 := by rw [rung_wordD (by omega)]; exact h
  obtain ⟨m, k, e, am, hk, hm, hm2⟩ := read_fin f1
  rw [rung_wordD (by omega)] at am
  rw [sgn_wordD (by omega)] at e
  unfold Format.div
  rw [e, read_two]
  have hf : double.fractionBits + 2 = 54 := rfl
  rw [hf]
  simp only [Datum.quotient]
  rw [if_neg (by decide)]
  simp only [Option.map_some, write_number]
  have l52 : Nat.log2 4503599627370496 = 52 := by decide
  rw [l52]
  obtain ⟨L, eL⟩ : ∃ L, m.log2 = L := ⟨_, rfl⟩
  have hL : L ≤ 52 := by
    by_cases h0 : m = 0
    · subst h0; rw [← eL]; decide
    · have := (Nat.log2_lt h0).2 (Nat.lt_of_lt_of_le hm (show 9007199254740992 ≤ 2 ^ 53 by decide))
      omega
  rw [eL, Nat.shiftLeft_eq]
  have e1 : m * 2 ^ (54 + 52 - L) = m * 2 ^ (54 - L) * 4503599627370496 := by
    rw [Nat.mul_assoc]
    congr 1
    have : (4503599627370496 : Nat) = 2 ^ 52 := by decide
    rw [this, ← Nat.pow_add]
    congr 1
    omega
  rw [e1, Nat.mul_div_cancel _ (by decide), Nat.mul_mod_left]
  have e2 : (2 * (m * 2 ^ (54 - L)) + (0 != 0 : Bool).toNat) = m * 2 ^ (55 - L) := by
    have z : (0 != 0 : Bool).toNat = 0 := rfl
    rw [z, Nat.add_zero, show 55 - L = (54 - L) + 1 by omega, Nat.pow_succ, ← Nat.mul_assoc m, Nat.mul_comm 2]
  rw [e2]
  have e3 : (-1074 + (k : Int) - -51 - ((54 + 52 - L : Nat) : Int) - 1) = ((k + L : Nat) : Int) - 1074 - ((56 : Nat) : Int) := by omega
  rw [e3, near_rungOf]
  have e4 : m * 2 ^ (55 - L) * 2 ^ (k + L) = amt r * 2 ^ 56 := by
    rw [Nat.mul_assoc, ← Nat.pow_add, show 55 - L + (k + L) = k + 55 by omega, Nat.pow_add, ← Nat.mul_assoc, am, amt_dbl, Nat.mul_comm 2, Nat.mul_assoc]
  rw [e4, rungOf_exact hr]
  rfl

/-- A finite word's fields: exponent, fraction, and the whole number that they make. -/
theorem fields (u : Nat) : u / 4503599627370496 % 2048 = rung u / 4503599627370496 ∧ u % 4503599627370496 = rung u % 4503599627370496 := by
  unfold rung
  omega

theorem or_bit {m : Nat} (h : m < 4503599627370496) : m ||| 4503599627370496 = m + 4503599627370496 := by
  have h1 : 2 ^ 52 * 1 + m = 2 ^ 52 * 1 ||| m := Nat.two_pow_add_eq_or_of_lt h 1
  rw [Nat.mul_one] at h1
  have e : (4503599627370496 : Nat) = 2 ^ 52 := by decide
  rw [e, Nat.or_comm, ← h1, Nat.add_comm]

theorem word_self {u : Nat} (hu : u < 18446744073709551616) : wordD (sgnB u) (rung u) = u := by
  rcases sgn_cases u hu with ⟨s, e, _⟩ | ⟨s, e, _⟩
  · rw [s]; unfold wordD; rw [if_pos rfl]; exact e.symm
  · rw [s]; unfold wordD; rw [if_neg (by simp)]; exact e.symm

/-- The whole number m of a word with exponent above 0, or of one below 2^-1022: its own word. -/
theorem start_sub {ρ : Nat} (h : ρ < 4503599627370496) : nearR ρ 0 = dblN 1074 ρ ∧ dblN 1074 ρ < 9218868437227405312 := by
  obtain ⟨r, hr, ha⟩ := whole_word (n := ρ) (by omega)
  have e : r = dblN E0 ρ := amt_inj (by rw [ha, amt_dblN, amt_small h]; rfl)
  rw [near_whole hr ha]
  exact ⟨e, by rw [e] at hr; exact hr⟩

theorem start_neg {e m n : Nat} (he : 1 ≤ e) (hm : m < 4503599627370496) (hn : n + e = 1075) : nearR (m + 4503599627370496) 0 = dblN n (e * 4503599627370496 + m) ∧ dblN n (e * 4503599627370496 + m) < 9218868437227405312 := by
  obtain ⟨r, hr, ha⟩ := whole_word (n := m + 4503599627370496) (by omega)
  have h1 : e * 4503599627370496 + m = (e - 1) * 4503599627370496 + (m + 4503599627370496) := by omega
  have h2 : r = dblN n (e * 4503599627370496 + m) := amt_inj (by
    rw [ha, amt_dblN, h1, amt_of _ _ (by omega) (by omega), Nat.mul_assoc, EE_eq (a := e - 1) (b := n) (by rw [E0_eq]; omega)])
  rw [near_whole hr ha]
  exact ⟨h2, by rw [h2] at hr; exact hr⟩

theorem start_pos {e m n : Nat} (hm : m < 4503599627370496) (hn : e = n + 1075) : dblN n (nearR (m + 4503599627370496) 0) = e * 4503599627370496 + m := by
  obtain ⟨r, hr, ha⟩ := whole_word (n := m + 4503599627370496) (by omega)
  rw [near_whole hr ha]
  apply amt_inj
  have h1 : e * 4503599627370496 + m = (n + E0) * 4503599627370496 + (m + 4503599627370496) := by rw [E0_eq]; omega
  rw [amt_dblN, ha, h1, amt_of _ _ (by omega) (by omega), EE_more rfl, Nat.mul_assoc, Nat.mul_comm EE]

theorem dblR_ge (r : Nat) : r ≤ dblR r := by unfold dblR; split <;> omega
theorem dblN_ge (n r : Nat) : r ≤ dblN n r := by
  induction n generalizing r with
  | zero => exact Nat.le_refl _
  | succ n ih => exact Nat.le_trans (dblR_ge r) (ih (dblR r))
end Go.Proofs.YtegnhinognpgcaaGreatDoor
