/- The words of IEEE 754 of 64 bits in their order: plain facts, no Go in sight. -/
import Derived.WalkKit
import Derived.ProofKit
import Derived.OpenShut
import Derived.Laws.FloatArith
import Derived.Laws.BitsLemmas
namespace Go.Proofs.YtbengmceiaejeaaGreatDoor

open Ieee

def sgnB (u : Nat) : Bool := u / 9223372036854775808 % 2 == 1
def rung (u : Nat) : Nat := u % 9223372036854775808
def nanB (u : Nat) : Bool := decide (9218868437227405312 < rung u)
def infB (u : Nat) : Bool := decide (rung u = 9218868437227405312)
/-- The amount in units of 2^-1074; of infinity the next power. -/
def amt (r : Nat) : Nat := if r < 4503599627370496 then r else (4503599627370496 + r % 4503599627370496) * 2 ^ (r / 4503599627370496 - 1)

theorem signW : double.signWeight = 9223372036854775808 := by decide
theorem binadeW : double.binade = 4503599627370496 := by decide
theorem infW : double.infRung = 9218868437227405312 := by decide
theorem leastW : double.leastPlace = -1074 := by decide

theorem read_eq (u : Nat) : double.read u = if rung u < 4503599627370496 then .number (sgnB u) (rung u) (-1074) else if rung u < 9218868437227405312 then .number (sgnB u) (4503599627370496 + rung u % 4503599627370496) (-1074 + (rung u / 4503599627370496 - 1 : Nat)) else if rung u = 9218868437227405312 then .infinity (sgnB u) else .nan (sgnB u) (rung u - 9218868437227405312) := by
  unfold Format.read
  rw [signW, binadeW, infW, leastW]
  rfl

/-- A finite word: its number's amount in units of 2^-1074. -/
theorem read_fin {u : Nat} (h : rung u < 9218868437227405312) : ∃ m k, double.read u = .number (sgnB u) m (-1074 + (k : Nat)) ∧ m * 2 ^ k = amt (rung u) ∧ k ≤ 2045 ∧ m < 9007199254740992 ∧ (k ≠ 0 → 4503599627370496 ≤ m) := by
  rw [read_eq]
  by_cases h1 : rung u < 4503599627370496
  · refine ⟨rung u, 0, ?_, ?_, by omega, by omega, by omega⟩
    · simp [h1]
    · simp [amt, h1]
  · refine ⟨4503599627370496 + rung u % 4503599627370496, rung u / 4503599627370496 - 1, ?_, ?_, by omega, by omega, by omega⟩
    · simp [h1, h]
    · simp [amt, h1]

theorem read_inf {u : Nat} (h : rung u = 9218868437227405312) : double.read u = .infinity (sgnB u) := by rw [read_eq]; simp [h]
theorem read_nan {u : Nat} (h : 9218868437227405312 < rung u) : double.read u = .nan (sgnB u) (rung u - 9218868437227405312) := by
  rw [read_eq]
  have h1 : ¬ rung u < 4503599627370496 := by omega
  have h2 : ¬ rung u < 9218868437227405312 := by omega
  have h3 : ¬ rung u = 9218868437227405312 := by omega
  simp [h1, h2, h3]

theorem amt_lt {r s : Nat} (h : r < s) : amt r < amt s := by
  unfold amt
  by_cases hr : r < 4503599627370496
  · by_cases hs : s < 4503599627370496
    · simp [hr, hs, h]
    · simp only [hr, hs, if_true, if_false]
      have : 1 ≤ 2 ^ (s / 4503599627370496 - 1) := Nat.two_pow_pos _
      calc r < 4503599627370496 + s % 4503599627370496 := by omega
        _ = (4503599627370496 + s % 4503599627370496) * 1 := by omega
        _ ≤ _ := Nat.mul_le_mul_left _ this
  · have hs : ¬ s < 4503599627370496 := by omega
    simp only [hr, hs, if_false]
    have hq : r / 4503599627370496 ≤ s / 4503599627370496 := Nat.div_le_div_right (by omega)
    rcases Nat.lt_or_ge (r / 4503599627370496) (s / 4503599627370496) with hlt | hge
    · obtain ⟨d, hd⟩ : ∃ d, s / 4503599627370496 - 1 = r / 4503599627370496 - 1 + 1 + d := ⟨s / 4503599627370496 - 1 - (r / 4503599627370496 - 1) - 1, by omega⟩
      rw [hd, Nat.pow_add, Nat.pow_add]
      have p0 : 0 < 2 ^ (r / 4503599627370496 - 1) := Nat.two_pow_pos _
      have p1 : 1 ≤ 2 ^ d := Nat.two_pow_pos _
      calc (4503599627370496 + r % 4503599627370496) * 2 ^ (r / 4503599627370496 - 1) < (4503599627370496 * 2) * 2 ^ (r / 4503599627370496 - 1) := Nat.mul_lt_mul_of_pos_right (by omega) p0
        _ = 4503599627370496 * (2 ^ (r / 4503599627370496 - 1) * 2 ^ 1 * 1) := by omega
        _ ≤ 4503599627370496 * (2 ^ (r / 4503599627370496 - 1) * 2 ^ 1 * 2 ^ d) := Nat.mul_le_mul_left _ (Nat.mul_le_mul_left _ p1)
        _ ≤ _ := Nat.mul_le_mul_right _ (by omega)
    · have he : r / 4503599627370496 = s / 4503599627370496 := by omega
      rw [he]
      have p0 : 0 < 2 ^ (s / 4503599627370496 - 1) := Nat.two_pow_pos _
      exact Nat.mul_lt_mul_of_pos_right (by omega) p0

theorem amt_le {r s : Nat} (h : r ≤ s) : amt r ≤ amt s := by
  rcases Nat.lt_or_ge r s with h1 | h1
  · exact Nat.le_of_lt (amt_lt h1)
  · have : r = s := by omega
    subst this; exact Nat.le_refl _
theorem amt_lt_iff {r s : Nat} : amt r < amt s ↔ r < s := ⟨fun h => by
  rcases Nat.lt_or_ge r s with h1 | h1
  · exact h1
  · exact absurd (amt_le h1) (by omega), amt_lt⟩
theorem amt_inj {r s : Nat} (h : amt r = amt s) : r = s := by
  rcases Nat.lt_trichotomy r s with h1 | h1 | h1
  · have := amt_lt h1; omega
  · exact h1
  · have := amt_lt h1; omega
theorem amt_zero : amt 0 = 0 := by decide
/-- The place of a word in the order. -/
def skey (u : Nat) : Int := if sgnB u then -(rung u : Int) else rung u
/-- Its value in units of 2^-1074. -/
def sval (u : Nat) : Int := if sgnB u then -(amt (rung u) : Int) else amt (rung u)

theorem sval_lt {u v : Nat} : sval u < sval v ↔ skey u < skey v := by
  have a1 := @amt_lt_iff (rung u) (rung v)
  have a2 := @amt_lt_iff (rung v) (rung u)
  have a3 := @amt_lt_iff 0 (rung v)
  have a4 := @amt_lt_iff 0 (rung u)
  rw [amt_zero] at a3 a4
  unfold sval skey
  cases sgnB u <;> cases sgnB v <;> simp only [if_true, if_false, Bool.false_eq_true] <;> omega

theorem compare_skey (u v : Nat) : compare (sval u) (sval v) = compare (skey u) (skey v) := by
  have h1 := @sval_lt u v
  have h2 := @sval_lt v u
  rcases Int.lt_trichotomy (sval u) (sval v) with h | h | h
  · rw [Int.compare_eq_lt.2 h, Int.compare_eq_lt.2 (h1.1 h)]
  · have : skey u = skey v := by omega
    rw [h, this, Int.compare_eq_eq.2 rfl, Int.compare_eq_eq.2 rfl]
  · rw [Int.compare_eq_gt.2 h, Int.compare_eq_gt.2 (h2.1 h)]


theorem compare_mul (a b : Int) (c : Nat) (hc : 0 < c) : compare (a * c) (b * c) = compare a b := by
  have hc' : (0 : Int) < c := by omega
  rcases Int.lt_trichotomy a b with h | h | h
  · rw [Int.compare_eq_lt.2 h, Int.compare_eq_lt.2 (Int.mul_lt_mul_of_pos_right h hc')]
  · rw [h, Int.compare_eq_eq.2 rfl, Int.compare_eq_eq.2 rfl]
  · rw [Int.compare_eq_gt.2 h, Int.compare_eq_gt.2 (Int.mul_lt_mul_of_pos_right h hc')]

/-- m * 2^k with its sign. -/
theorem signed_mul (s : Bool) (m a b : Nat) : signed s m a * (2 ^ b : Nat) = signed s m (a + b) := by
  unfold signed
  rw [Nat.shiftLeft_eq, Nat.shiftLeft_eq, Nat.pow_add, ← Nat.mul_assoc]
  cases s <;> simp [Int.neg_mul]

theorem signed_sval {u m k : Nat} (h : m * 2 ^ k = amt (rung u)) : signed (sgnB u) m k = sval u := by
  unfold signed sval
  rw [Nat.shiftLeft_eq, h]

theorem nanB_not {u : Nat} (h : nanB u = false) : rung u ≤ 9218868437227405312 := by
  simp only [nanB, decide_eq_false_iff_not] at h; omega

theorem order_eq {u v : Nat} (hu : nanB u = false) (hv : nanB v = false) : double.order u v = some (compare (skey u) (skey v)) := by
  have hu' := nanB_not hu
  have hv' := nanB_not hv
  unfold Format.order
  rcases Nat.lt_or_ge (rung u) 9218868437227405312 with fu | iu
  · obtain ⟨m, k, eu, am, hk, _, _⟩ := read_fin fu
    rw [eu]
    rcases Nat.lt_or_ge (rung v) 9218868437227405312 with fv | iv
    · obtain ⟨n, l, ev, an, hl, _, _⟩ := read_fin fv
      rw [ev]
      simp only [Datum.order, Option.some.injEq]
      have e1 : (-1074 + (k : Int) - min (-1074 + (k : Int)) (-1074 + (l : Int))).toNat = k - min k l := by omega
      have e2 : (-1074 + (l : Int) - min (-1074 + (k : Int)) (-1074 + (l : Int))).toNat = l - min k l := by omega
      rw [e1, e2, ← compare_mul _ _ (2 ^ min k l) (Nat.two_pow_pos _), signed_mul, signed_mul]
      have e3 : k - min k l + min k l = k := by omega
      have e4 : l - min k l + min k l = l := by omega
      rw [e3, e4, signed_sval am, signed_sval an, compare_skey]
    · have : rung v = 9218868437227405312 := by omega
      rw [read_inf this]
      simp only [Datum.order, Option.some.injEq]
      unfold skey
      rw [this]
      cases sgnB u <;> cases sgnB v <;> simp only [if_true, if_false, Bool.false_eq_true] <;> first | exact (Int.compare_eq_lt.2 (by omega)).symm | exact (Int.compare_eq_gt.2 (by omega)).symm
  · have iu' : rung u = 9218868437227405312 := by omega
    rw [read_inf iu']
    rcases Nat.lt_or_ge (rung v) 9218868437227405312 with fv | iv
    · obtain ⟨n, l, ev, an, hl, _, _⟩ := read_fin fv
      rw [ev]
      simp only [Datum.order, Option.some.injEq]
      unfold skey
      rw [iu']
      cases sgnB u <;> cases sgnB v <;> simp only [if_true, if_false, Bool.false_eq_true] <;> first | exact (Int.compare_eq_lt.2 (by omega)).symm | exact (Int.compare_eq_gt.2 (by omega)).symm
    · have iv' : rung v = 9218868437227405312 := by omega
      rw [read_inf iv']
      simp only [Datum.order, Option.some.injEq]
      unfold skey
      rw [iu', iv']
      cases sgnB u <;> cases sgnB v <;> decide

theorem order_nan_l {u v : Nat} (hu : nanB u = true) : double.order u v = none := by
  simp only [nanB, decide_eq_true_eq] at hu
  unfold Format.order
  rw [read_nan hu]
  rfl
theorem order_nan_r {u v : Nat} (hv : nanB v = true) : double.order u v = none := by
  simp only [nanB, decide_eq_true_eq] at hv
  unfold Format.order
  rw [read_nan hv]
  cases double.read u <;> rfl

/-- How two words compare: -1, 0, 1, or 2 where one is a NaN. -/
def cmpV (u v : Nat) : Int := if nanB u || nanB v then 2 else if skey u < skey v then -1 else if skey u = skey v then 0 else 1

theorem order_lt (u v : Nat) : (double.order u v == some .lt) = decide (nanB u = false ∧ nanB v = false ∧ skey u < skey v) := by
  cases hu : nanB u
  · cases hv : nanB v
    · rw [order_eq hu hv]
      rcases Int.lt_trichotomy (skey u) (skey v) with h | h | h
      · rw [Int.compare_eq_lt.2 h]; simp [h]
      · rw [Int.compare_eq_eq.2 h]; simp [h]
      · rw [Int.compare_eq_gt.2 h]; simp; omega
    · rw [order_nan_r hv]; simp
  · rw [order_nan_l hu]; simp
theorem order_eqB (u v : Nat) : (double.order u v == some .eq) = decide (nanB u = false ∧ nanB v = false ∧ skey u = skey v) := by
  cases hu : nanB u
  · cases hv : nanB v
    · rw [order_eq hu hv]
      rcases Int.lt_trichotomy (skey u) (skey v) with h | h | h
      · rw [Int.compare_eq_lt.2 h]; simp; omega
      · rw [Int.compare_eq_eq.2 h]; simp [h]
      · rw [Int.compare_eq_gt.2 h]; simp; omega
    · rw [order_nan_r hv]; simp
  · rw [order_nan_l hu]; simp
theorem order_gt (u v : Nat) : (double.order u v == some .gt) = decide (nanB u = false ∧ nanB v = false ∧ skey v < skey u) := by
  cases hu : nanB u
  · cases hv : nanB v
    · rw [order_eq hu hv]
      rcases Int.lt_trichotomy (skey u) (skey v) with h | h | h
      · rw [Int.compare_eq_lt.2 h]; simp; omega
      · rw [Int.compare_eq_eq.2 h]; simp [h]
      · rw [Int.compare_eq_gt.2 h]; simp [h]
    · rw [order_nan_r hv]; simp
  · rw [order_nan_l hu]; simp


/-! Bits of uint64s. -/

theorem wraps64 (n : Int) (h₀ : 0 ≤ n) (h₁ : n < 2 ^ 64) : IntKind.u64.wrap n = n := by rw [IntKind.wrap_u64]; omega

theorem u64_and (a b : Nat) (ha : a < 18446744073709551616) (hb : b < 18446744073709551616) : bits .and .u64 (a : Int) (b : Int) = ((a &&& b : Nat) : Int) := (bits_nat .u64 64 (by decide) wraps64 a b ha hb).1
theorem u64_or (a b : Nat) (ha : a < 18446744073709551616) (hb : b < 18446744073709551616) : bits .or .u64 (a : Int) (b : Int) = ((a ||| b : Nat) : Int) := (bits_nat .u64 64 (by decide) wraps64 a b ha hb).2
theorem u64_xor (a b : Nat) (ha : a < 18446744073709551616) (hb : b < 18446744073709551616) : bits .xor .u64 (a : Int) (b : Int) = ((a ^^^ b : Nat) : Int) := by
  have e1 : (BitVec.ofInt 64 (a : Int)).toNat = a := by rw [BitVec.toNat_ofInt]; omega
  have e2 : (BitVec.ofInt 64 (b : Int)).toNat = b := by rw [BitVec.toNat_ofInt]; omega
  have h : a ^^^ b < 2 ^ 64 := Nat.xor_lt_two_pow ha hb
  show IntKind.u64.wrap ((BitVec.ofInt 64 (a : Int) ^^^ BitVec.ofInt 64 (b : Int)).toNat : Int) = _
  rw [BitVec.toNat_xor, e1, e2, wraps64 _ (by omega) (by omega)]

theorem u64_andNot_sign (u : Nat) (hu : u < 18446744073709551616) : bits .andNot .u64 (u : Int) 9223372036854775808 = (rung u : Int) := by
  have e1 : (BitVec.ofInt 64 (u : Int)).toNat = u := by
    rw [BitVec.toNat_ofInt]; omega
  have e2 : (~~~ BitVec.ofInt 64 9223372036854775808).toNat = 2 ^ 63 - 1 := by decide
  have e3 : (BitVec.ofInt 64 (u : Int) &&& ~~~ BitVec.ofInt 64 9223372036854775808).toNat = u % 2 ^ 63 := by
    rw [BitVec.toNat_and, e1, e2, Nat.and_two_pow_sub_one_eq_mod]
  show IntKind.u64.wrap ((BitVec.ofInt 64 (u : Int) &&& ~~~ BitVec.ofInt 64 9223372036854775808).toNat : Int) = _
  rw [e3, wraps64 _ (by omega) (by omega)]
  rfl

theorem and_sign (u : Nat) : u &&& 9223372036854775808 = if sgnB u then 9223372036854775808 else 0 := by
  have e : (9223372036854775808 : Nat) = 2 ^ 63 := rfl
  have h : u &&& 2 ^ 63 = if u.testBit 63 then 2 ^ 63 else 0 := by
    refine Nat.eq_of_testBit_eq fun i => ?_
    rw [Nat.testBit_and, Nat.testBit_two_pow]
    by_cases hi : i = 63
    · subst hi
      cases u.testBit 63
      · simp
      · rw [if_pos rfl, Nat.testBit_two_pow_self]; rfl
    · have : decide (63 = i) = false := by simp; omega
      rw [this, Bool.and_false]
      cases u.testBit 63
      · simp
      · rw [if_pos rfl, Nat.testBit_two_pow, this]
  have h2 : u.testBit 63 = sgnB u := by
    rw [Nat.testBit_eq_decide_div_mod_eq]
    simp only [sgnB]
    rfl
  rw [e, h, h2]

theorem u64_and_sign (u : Nat) (hu : u < 18446744073709551616) : bits .and .u64 (u : Int) 9223372036854775808 = if sgnB u then 9223372036854775808 else 0 := by
  have := u64_and u 9223372036854775808 hu (by decide)
  rw [show ((9223372036854775808 : Nat) : Int) = 9223372036854775808 from rfl] at this
  rw [this, and_sign u]
  cases sgnB u <;> rfl

/-- The sign turned. -/
def flip (u : Nat) : Nat := if sgnB u then u - 9223372036854775808 else u + 9223372036854775808

theorem sgn_cases (u : Nat) (hu : u < 18446744073709551616) : (sgnB u = true ∧ u = 9223372036854775808 + rung u ∧ rung u < 9223372036854775808) ∨ (sgnB u = false ∧ u = rung u ∧ rung u < 9223372036854775808) := by
  unfold sgnB rung
  by_cases h : u < 9223372036854775808
  · refine Or.inr ⟨?_, by omega, by omega⟩
    have : u / 9223372036854775808 = 0 := by omega
    rw [this]; rfl
  · refine Or.inl ⟨?_, by omega, by omega⟩
    have : u / 9223372036854775808 = 1 := by omega
    rw [this]; rfl

theorem xor_sign (u : Nat) (hu : u < 18446744073709551616) : u ^^^ 9223372036854775808 = flip u := by
  have key : ∀ r : Nat, r < 2 ^ 63 → r ^^^ 2 ^ 63 = 2 ^ 63 + r := by
    intro r hr
    have h1 : 2 ^ 63 * 1 + r = 2 ^ 63 * 1 ||| r := Nat.two_pow_add_eq_or_of_lt hr 1
    rw [Nat.mul_one] at h1
    rw [h1]
    refine Nat.eq_of_testBit_eq fun i => ?_
    rw [Nat.testBit_xor, Nat.testBit_or, Nat.testBit_two_pow]
    by_cases hi : i = 63
    · subst hi
      have : r.testBit 63 = false := Nat.testBit_lt_two_pow hr
      simp [this]
    · have : decide (63 = i) = false := by simp; omega
      simp [this]
  unfold flip
  rcases sgn_cases u hu with ⟨h1, h2, h3⟩ | ⟨h1, h2, h3⟩
  · rw [h1, if_pos rfl]
    have := key (rung u) h3
    have e : u = rung u ^^^ 2 ^ 63 := by rw [this]; omega
    have e2 : u - 9223372036854775808 = rung u := by omega
    rw [e2]
    conv => lhs; rw [e]
    rw [Nat.xor_assoc, Nat.xor_self, Nat.xor_zero]
  · rw [h1]
    have := key (rung u) h3
    rw [← h2] at this
    rw [if_neg (by simp)]
    have e : (9223372036854775808 : Nat) = 2 ^ 63 := rfl
    rw [e, this]
    omega

theorem u64_xor_sign (u : Nat) (hu : u < 18446744073709551616) : bits .xor .u64 (u : Int) 9223372036854775808 = (flip u : Int) := by
  have := u64_xor u 9223372036854775808 hu (by decide)
  rw [show ((9223372036854775808 : Nat) : Int) = 9223372036854775808 from rfl] at this
  rw [this, xor_sign u hu]

theorem flip_lt (u : Nat) (hu : u < 18446744073709551616) : flip u < 18446744073709551616 := by
  unfold flip
  rcases sgn_cases u hu with ⟨h1, h2, h3⟩ | ⟨h1, h2, h3⟩ <;> rw [h1] <;> simp <;> omega
theorem rung_flip (u : Nat) (hu : u < 18446744073709551616) : rung (flip u) = rung u := by
  unfold flip
  rcases sgn_cases u hu with ⟨h1, h2, h3⟩ | ⟨h1, h2, h3⟩ <;> rw [h1] <;> simp only [if_true, if_false, Bool.false_eq_true] <;> unfold rung at * <;> omega
theorem sgn_flip (u : Nat) (hu : u < 18446744073709551616) : sgnB (flip u) = !sgnB u := by
  rcases sgn_cases u hu with ⟨h1, h2, h3⟩ | ⟨h1, h2, h3⟩
  · have : flip u = rung u := by unfold flip; rw [h1, if_pos rfl]; omega
    rw [this, h1]
    unfold sgnB
    have : rung u / 9223372036854775808 = 0 := by omega
    rw [this]; rfl
  · have : flip u = 9223372036854775808 + rung u := by unfold flip; rw [h1, if_neg (by simp)]; omega
    rw [this, h1]
    unfold sgnB
    have : (9223372036854775808 + rung u) / 9223372036854775808 = 1 := by omega
    rw [this]; rfl
theorem rung_lt (u : Nat) : rung u < 9223372036854775808 := by unfold rung; omega
theorem rung_rung (u : Nat) : rung (rung u) = rung u := by unfold rung; omega
theorem sgn_rung (u : Nat) : sgnB (rung u) = false := by
  have h := rung_lt u
  unfold sgnB
  have : rung u / 9223372036854775808 = 0 := by omega
  rw [this]; rfl

/-- The bits that are told. -/
def canon (u : Nat) : Nat := if nanB u then 9221120237041090560 else u
theorem canon_lt {u : Nat} (hu : u < 18446744073709551616) : canon u < 18446744073709551616 := by
  unfold canon; split <;> omega

theorem order_self (u : Nat) : (double.order u u != some .eq) = nanB u := by
  have h := order_eqB u u
  have h2 : (double.order u u != some .eq) = !(double.order u u == some .eq) := rfl
  rw [h2, h]
  cases nanB u <;> simp
end Go.Proofs.YtbengmceiaejeaaGreatDoor
