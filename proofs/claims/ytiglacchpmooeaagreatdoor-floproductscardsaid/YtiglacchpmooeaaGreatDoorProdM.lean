/- Products and quotients: plain facts. -/
import Derived.Test.YtiglacchpmooeaaGreatDoorSumM
import Derived.Test.YtiglacchpmooeaaGreatDoorStickyM
import Derived.Test.YtiglacchpmooeaaGreatDoorNear3
namespace Go.Proofs.YtiglacchpmooeaaGreatDoor
open Ieee

theorem sgn_testBit (u : Nat) : sgnB u = u.testBit 63 := by
  unfold sgnB
  rw [Nat.testBit_eq_decide_div_mod_eq]
  by_cases h : u / 9223372036854775808 % 2 = 1
  · have h' : u / 2 ^ 63 % 2 = 1 := by rw [show (2 : Nat) ^ 63 = 9223372036854775808 by decide]; exact h
    rw [decide_eq_true h', h]
    rfl
  · rw [decide_eq_false (by rw [show (2 : Nat) ^ 63 = 9223372036854775808 by decide]; exact h)]
    exact beq_eq_false_iff_ne.2 h
theorem sgn_xor (u v : Nat) : sgnB (u ^^^ v) = (sgnB u ^^ sgnB v) := by rw [sgn_testBit, sgn_testBit, sgn_testBit, Nat.testBit_xor]
theorem xor_lt (u v : Nat) (hu : u < 18446744073709551616) (hv : v < 18446744073709551616) : u ^^^ v < 18446744073709551616 := Nat.xor_lt_two_pow (n := 64) hu hv

theorem zero_num {v n l : Nat} (h : n * 2 ^ l = amt (rung v)) : n = 0 ↔ rung v = 0 := by
  constructor
  · intro h0
    rw [h0, Nat.zero_mul] at h
    exact amt_inj (by rw [← h, amt_zero])
  · intro h0
    rw [h0, amt_zero] at h
    rcases Nat.mul_eq_zero.1 h with h | h
    · exact h
    · have := Nat.two_pow_pos l; omega

theorem mul_nan_l {u v : Nat} (h : nanB u = true) : double.mul u v = none := by
  unfold Format.mul
  rw [read_nan (u := u) (by unfold nanB at h; simpa using h)]
  rfl
theorem mul_nan_r {u v : Nat} (h : nanB v = true) : double.mul u v = none := by rw [mul_comm', mul_nan_l h]
theorem mul_inf_zero {u v : Nat} (hu : rung u = 9218868437227405312) (hv : rung v = 0) : double.mul u v = none := by
  obtain ⟨n, l, e2, a2, _⟩ := read_fin (u := v) (by omega)
  unfold Format.mul
  rw [read_inf hu, e2]
  simp only [Datum.product]
  rw [if_pos ((zero_num a2).2 hv)]
  rfl
theorem mul_inf_num {u v : Nat} (hu : rung u = 9218868437227405312) (nv : nanB v = false) (hv : rung v ≠ 0) : double.mul u v = some (wordD (sgnB u ^^ sgnB v) 9218868437227405312) := by
  have hz := nanB_not nv
  unfold Format.mul
  rw [read_inf hu]
  rcases Nat.lt_or_ge (rung v) 9218868437227405312 with f | g
  · obtain ⟨n, l, e2, a2, _⟩ := read_fin f
    rw [e2]
    simp only [Datum.product]
    rw [if_neg (fun h => hv ((zero_num a2).1 h))]
    simp only [Option.map_some, write_infinity]
  · rw [read_inf (show rung v = 9218868437227405312 by omega)]
    simp only [Datum.product, Option.map_some, write_infinity]

theorem product_word {u v m1 k1 m2 k2 : Nat} (hu : rung u < 9218868437227405312) (hv : rung v < 9218868437227405312) (e1 : m1 * 2 ^ k1 = amt (rung u)) (e2 : m2 * 2 ^ k2 = amt (rung v)) :
    double.mul u v = some (wordD (sgnB u ^^ sgnB v) (nearR (m1 * m2) ((k1 : Int) - 1074 + ((k2 : Int) - 1074)))) := by
  have hr := near_rungOf (mag := m1 * m2) (k := k1 + k2) (D := 1074)
  rw [show (((k1 + k2 : Nat) : Int) - 1074 - ((1074 : Nat) : Int)) = (k1 : Int) - 1074 + ((k2 : Int) - 1074) by omega] at hr
  rw [mul_fin hu hv, hr, ← e1, ← e2]
  congr 3
  rw [Nat.pow_add, Nat.mul_mul_mul_comm]

theorem div_nan_l {u v : Nat} (h : nanB u = true) : double.div u v = none := by
  unfold Format.div
  rw [read_nan (u := u) (by unfold nanB at h; simpa using h)]
  rfl
theorem div_nan_r {u v : Nat} (h : nanB v = true) : double.div u v = none := by
  unfold Format.div
  rw [read_nan (u := v) (by unfold nanB at h; simpa using h)]
  cases double.read u <;> rfl
theorem div_infs {u v : Nat} (hu : rung u = 9218868437227405312) (hv : rung v = 9218868437227405312) : double.div u v = none := by
  unfold Format.div
  rw [read_inf hu, read_inf hv]
  rfl
theorem div_inf_num {u v : Nat} (hu : rung u = 9218868437227405312) (hv : rung v < 9218868437227405312) : double.div u v = some (wordD (sgnB u ^^ sgnB v) 9218868437227405312) := by
  obtain ⟨n, l, e2, a2, _⟩ := read_fin hv
  unfold Format.div
  rw [read_inf hu, e2]
  simp only [Datum.quotient, Option.map_some, write_infinity]
theorem div_num_inf {u v : Nat} (hu : rung u < 9218868437227405312) (hv : rung v = 9218868437227405312) : double.div u v = some (wordD (sgnB u ^^ sgnB v) 0) := by
  obtain ⟨n, l, e2, a2, _⟩ := read_fin hu
  unfold Format.div
  rw [read_inf hv, e2]
  simp only [Datum.quotient, Option.map_some, write_number, nearR_zero]
theorem div_zeros {u v : Nat} (hu : rung u = 0) (hv : rung v = 0) : double.div u v = none := by
  obtain ⟨m, k, e1, a1, _⟩ := read_fin (u := u) (by omega)
  obtain ⟨n, l, e2, a2, _⟩ := read_fin (u := v) (by omega)
  unfold Format.div
  rw [e1, e2]
  simp only [Datum.quotient]
  rw [if_pos ((zero_num a2).2 hv), if_pos ((zero_num a1).2 hu)]
  rfl
theorem div_num_zero {u v : Nat} (hu : rung u < 9218868437227405312) (hn : rung u ≠ 0) (hv : rung v = 0) : double.div u v = some (wordD (sgnB u ^^ sgnB v) 9218868437227405312) := by
  obtain ⟨m, k, e1, a1, _⟩ := read_fin (u := u) (by omega)
  obtain ⟨n, l, e2, a2, _⟩ := read_fin (u := v) (by omega)
  unfold Format.div
  rw [e1, e2]
  simp only [Datum.quotient]
  rw [if_pos ((zero_num a2).2 hv), if_neg (fun h => hn ((zero_num a1).1 h))]
  simp only [Option.map_some, write_infinity]

theorem same_parts {m k m' k' : Nat} (h : m * 2 ^ k = m' * 2 ^ k') (l1 : m < 9007199254740992) (l2 : m' < 9007199254740992) (g1 : k = 0 ∨ 4503599627370496 ≤ m) (g2 : k' = 0 ∨ 4503599627370496 ≤ m') (hm : m ≠ 0) : m = m' ∧ k = k' := by
  have hk : k = k' := by
    rcases Nat.lt_trichotomy k k' with hk | hk | hk
    · exfalso
      obtain ⟨d, ed⟩ : ∃ d, k' = d + 1 + k := ⟨k' - k - 1, by omega⟩
      rw [ed, Nat.pow_add, ← Nat.mul_assoc] at h
      have h1 := Nat.eq_of_mul_eq_mul_right (Nat.two_pow_pos k) h
      have h2 : m' * 2 ^ 1 ≤ m' * 2 ^ (d + 1) := Nat.mul_le_mul_left _ (Nat.pow_le_pow_right (by decide) (by omega))
      omega
    · exact hk
    · exfalso
      obtain ⟨d, ed⟩ : ∃ d, k = d + 1 + k' := ⟨k - k' - 1, by omega⟩
      rw [ed, Nat.pow_add, ← Nat.mul_assoc] at h
      have h1 := Nat.eq_of_mul_eq_mul_right (Nat.two_pow_pos k') h
      have h2 : m * 2 ^ 1 ≤ m * 2 ^ (d + 1) := Nat.mul_le_mul_left _ (Nat.pow_le_pow_right (by decide) (by omega))
      omega
  subst hk
  exact ⟨Nat.eq_of_mul_eq_mul_right (Nat.two_pow_pos k) h, rfl⟩

theorem log_53 {m : Nat} (h : m < 9007199254740992) : m.log2 ≤ 52 := by
  by_cases h0 : m = 0
  · rw [h0]; decide
  · have := (Nat.log2_lt h0).2 (show m < 2 ^ 53 by omega)
    omega

/-- The model's quotient is the reference's: 128 digits and a rest. -/
theorem quotient_word {u v m1 k1 m2 k2 : Nat} (hu : rung u < 9218868437227405312) (hv : rung v < 9218868437227405312) (zu : rung u ≠ 0) (zv : rung v ≠ 0) (e1 : m1 * 2 ^ k1 = amt (rung u)) (e2 : m2 * 2 ^ k2 = amt (rung v)) (l1 : m1 < 9007199254740992) (l2 : m2 < 9007199254740992) (g1 : k1 = 0 ∨ 4503599627370496 ≤ m1) (g2 : k2 = 0 ∨ 4503599627370496 ≤ m2) :
    double.div u v = some (wordD (sgnB u ^^ sgnB v) (if m1 * 2 ^ 128 % m2 = 0 then nearR (m1 * 2 ^ 128 / m2) ((k1 : Int) - 1074 - ((k2 : Int) - 1074) - 128) else nearR (m1 * 2 ^ 128 / m2 * 2 ^ 2 + 1) ((k1 : Int) - 1074 - ((k2 : Int) - 1074) - 128 - 2))) := by
  have z1 : m1 ≠ 0 := fun h => zu ((zero_num e1).1 h)
  have z2 : m2 ≠ 0 := fun h => zv ((zero_num e2).1 h)
  obtain ⟨m, k, r1, a1, _, lm, gm⟩ := read_fin hu
  obtain ⟨n, l, r2, a2, _, ln, gn⟩ := read_fin hv
  obtain ⟨rfl, rfl⟩ := same_parts (e1.trans a1.symm) l1 lm g1 (by omega) z1
  obtain ⟨rfl, rfl⟩ := same_parts (e2.trans a2.symm) l2 ln g2 (by omega) z2
  unfold Format.div
  rw [r1, r2]
  have hf : double.fractionBits + 2 = 54 := rfl
  rw [hf]
  simp only [Datum.quotient]
  rw [if_neg z2]
  simp only [Option.map_some, write_number, Nat.shiftLeft_eq]
  have h1 := log_53 l1
  have h2 := log_53 l2
  have key := near_quotient (m := m1) (n := m2) (a := 54 + m2.log2 - m1.log2) ((k1 : Int) - 1074 - ((k2 : Int) - 1074)) z1 (by omega) (by omega) (by omega)
  rw [Nat.mul_comm 4] at key
  rw [show (-1074 + (k1 : Int) - (-1074 + (k2 : Int))) = (k1 : Int) - 1074 - ((k2 : Int) - 1074) by omega, key]
end Go.Proofs.YtiglacchpmooeaaGreatDoor
