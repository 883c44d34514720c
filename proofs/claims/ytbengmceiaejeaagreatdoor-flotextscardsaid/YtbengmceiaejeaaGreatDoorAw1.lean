/- The words of IEEE 754 of 64 bits in their order: plain facts, no Go in sight. -/
import Derived.WalkKit
import Derived.ProofKit
import Derived.OpenShut
import Derived.Laws.FloatArith
import Derived.Laws.BitsLemmas
import Derived.Test.YtbengmceiaejeaaGreatDoorProg
import Derived.WalkLawsBesides
import Derived.Below
import Derived.Laws.Externs
import Derived.KernelRfl
import Derived.Test.YtbengmceiaejeaaGreatDoorShelf
import Derived.TacticsIn
namespace Go.Proofs.YtbengmceiaejeaaGreatDoor

open Ieee

def sgnB (u : Nat) : Bool := u / 9223372036854775808 % 2 == 1
def rung (u : Nat) : Nat := u % 9223372036854775808
def nanB (u : Nat) : Bool := decide (9218868437227405312 < rung u)
def infB (u : Nat) : Bool := decide (rung u = 9218868437227405312)
/-- The amount in units of 2^-1074; of infinity the next power. -/
def amt (r : Nat) : Nat := if r < 4503599627370496 then r else (4503599627370496 + r % 4503599627370496) * 2 ^ (r / 4503599627370496 - 1)

theorem signW : double.signWeight = 9223372036854775808 := by decide
theorem binadeW : double.binade = 4503599627370496 := by decide
theorem infW : double.infRung = 9218868437227405312 := by decide
theorem leastW : double.leastPlace = -1074 := by decide

theorem read_eq (u : Nat) : double.read u = if rung u < 4503599627370496 then .number (sgnB u) (rung u) (-1074) else if rung u < 9218868437227405312 then .number (sgnB u) (4503599627370496 + rung u % 4503599627370496) (-1074 + (rung u / 4503599627370496 - 1 : Nat)) else if rung u = 9218868437227405312 then .infinity (sgnB u) else .nan (sgnB u) (rung u - 9218868437227405312) := by
  unfold Format.read
  rw [signW, binadeW, infW, leastW]
  rfl

/-- A finite word: its number's amount in units of 2^-1074. -/
theorem read_fin {u : Nat} (h : rung u < 9218868437227405312) : ∃ m k, double.read u = .number (sgnB u) m (-1074 + (k : Nat)) ∧ m * 2 ^ k = amt (rung u) ∧ k ≤ 2045 ∧ m < 9007199254740992 ∧ (k ≠ 0 → 4503599627370496 ≤ m) := by
  rw [read_eq]
  by_cases h1 : rung u < 4503599627370496
  · refine ⟨rung u, 0, ?_, ?_, by omega, by omega, by omega⟩
    · simp [h1]
    · simp [amt, h1]
  · refine ⟨4503599627370496 + rung u % 4503599627370496, rung u / 4503599627370496 - 1, ?_, ?_, by omega, by omega, by omega⟩
    · simp [h1, h]
    · simp [amt, h1]

theorem read_inf {u : Nat} (h : rung u = 9218868437227405312) : double.read u = .infinity (sgnB u) := by rw [read_eq]; simp [h]
theorem read_nan {u : Nat} (h : 9218868437227405312 < rung u) : double.read u = .nan (sgnB u) (rung u - 9218868437227405312) := by
  rw [read_eq]
  have h1 : ¬ rung u < 4503599627370496 := by omega
  have h2 : ¬ rung u < 9218868437227405312 := by omega
  have h3 : ¬ rung u = 9218868437227405312 := by omega
  simp [h1, h2, h3]

theorem amt_lt {r s : Nat} (h : r < s) : amt r < amt s := by
  unfold amt
  by_cases hr : r < 4503599627370496
  · by_cases hs : s < 4503599627370496
    · simp [hr, hs, h]
    · simp only [hr, hs, if_true, if_false]
      have : 1 ≤ 2 ^ (s / 4503599627370496 - 1) := Nat.two_pow_pos _
      calc r < 4503599627370496 + s % 4503599627370496 := by omega
        _ = (4503599627370496 + s % 4503599627370496) * 1 := by omega
        _ ≤ _ := Nat.mul_le_mul_left _ this
  · have hs : ¬ s < 4503599627370496 := by omega
    simp only [hr, hs, if_false]
    have hq : r / 4503599627370496 ≤ s / 4503599627370496 := Nat.div_le_div_right (by omega)
    rcases Nat.lt_or_ge (r / 4503599627370496) (s / 4503599627370496) with hlt | hge
    · obtain ⟨d, hd⟩ : ∃ d, s / 4503599627370496 - 1 = r / 4503599627370496 - 1 + 1 + d := ⟨s / 4503599627370496 - 1 - (r / 4503599627370496 - 1) - 1, by omega⟩
      rw [hd, Nat.pow_add, Nat.pow_add]
      have p0 : 0 < 2 ^ (r / 4503599627370496 - 1) := Nat.two_pow_pos _
      have p1 : 1 ≤ 2 ^ d := Nat.two_pow_pos _
      calc (4503599627370496 + r % 4503599627370496) * 2 ^ (r / 4503599627370496 - 1) < (4503599627370496 * 2) * 2 ^ (r / 4503599627370496 - 1) := Nat.mul_lt_mul_of_pos_right (by omega) p0
        _ = 4503599627370496 * (2 ^ (r / 4503599627370496 - 1) * 2 ^ 1 * 1) := by omega
        _ ≤ 4503599627370496 * (2 ^ (r / 4503599627370496 - 1) * 2 ^ 1 * 2 ^ d) := Nat.mul_le_mul_left _ (Nat.mul_le_mul_left _ p1)
        _ ≤ _ := Nat.mul_le_mul_right _ (by omega)
    · have he : r / 4503599627370496 = s / 4503599627370496 := by omega
      rw [he]
      have p0 : 0 < 2 ^ (s / 4503599627370496 - 1) := Nat.two_pow_pos _
      exact Nat.mul_lt_mul_of_pos_right (by omega) p0

theorem amt_le {r s : Nat} (h : r ≤ s) : amt r ≤ amt s := by
  rcases Nat.lt_or_ge r s with h1 | h1
  · exact Nat.le_of_lt (amt_lt h1)
  · have : r = s := by omega
    subst this; exact Nat.le_refl _
theorem amt_lt_iff {r s : Nat} : amt r < amt s ↔ r < s := ⟨fun h => by
  rcases Nat.lt_or_ge r s with h1 | h1
  · exact h1
  · exact absurd (amt_le h1) (by omega), amt_lt⟩
theorem amt_inj {r s : Nat} (h : amt r = amt s) : r = s := by
  rcases Nat.lt_trichotomy r s with h1 | h1 | h1
  · have := amt_lt h1; omega
  · exact h1
  · have := amt_lt h1; omega
theorem amt_zero : amt 0 = 0 := by decide
/-- The place of a word in the order. -/
def skey (u : Nat) : Int := if sgnB u then -(rung u : Int) else rung u
/-- Its value in units of 2^-1074. -/
def sval (u : Nat) : Int := if sgnB u then -(amt (rung u) : Int) else amt (rung u)

theorem sval_lt {u v : Nat} : sval u < sval v ↔ skey u < skey v := by
  have a1 := @amt_lt_iff (rung u) (rung v)
  have a2 := @amt_lt_iff (rung v) (rung u)
  have a3 := @amt_lt_iff 0 (rung v)
  have a4 := @amt_lt_iff 0 (rung u)
  rw [amt_zero] at a3 a4
  unfold sval skey
  cases sgnB u <;> cases sgnB v <;> simp only [if_true, if_false, Bool.false_eq_true] <;> omega

theorem compare_skey (u v : Nat) : compare (sval u) (sval v) = compare (skey u) (skey v) := by
  have h1 := @sval_lt u v
  have h2 := @sval_lt v u
  rcases Int.lt_trichotomy (sval u) (sval v) with h | h | h
  · rw [Int.compare_eq_lt.2 h, Int.compare_eq_lt.2 (h1.1 h)]
  · have : skey u = skey v := by omega
    rw [h, this, Int.compare_eq_eq.2 rfl, Int.compare_eq_eq.2 rfl]
  · rw [Int.compare_eq_gt.2 h, Int.compare_eq_gt.2 (h2.1 h)]


theorem compare_mul (a b : Int) (c : Nat) (hc : 0 < c) : compare (a * c) (b * c) = compare a b := by
  have hc' : (0 : Int) < c := by omega
  rcases Int.lt_trichotomy a b with h | h | h
  · rw [Int.compare_eq_lt.2 h, Int.compare_eq_lt.2 (Int.mul_lt_mul_of_pos_right h hc')]
  · rw [h, Int.compare_eq_eq.2 rfl, Int.compare_eq_eq.2 rfl]
  · rw [Int.compare_eq_gt.2 h, Int.compare_eq_gt.2 (Int.mul_lt_mul_of_pos_right h hc')]

/-- m * 2^k with its sign. -/
theorem signed_mul (s : Bool) (m a b : Nat) : signed s m a * (2 ^ b : Nat) = signed s m (a + b) := by
  unfold signed
  rw [Nat.shiftLeft_eq, Nat.shiftLeft_eq, Nat.pow_add, ← Nat.mul_assoc]
  cases s <;> simp [Int.neg_mul]

theorem signed_sval {u m k : Nat} (h : m * 2 ^ k = amt (rung u)) : signed (sgnB u) m k = sval u := by
  unfold signed sval
  rw [Nat.shiftLeft_eq, h]

theorem nanB_not {u : Nat} (h : nanB u = false) : rung u ≤ 9218868437227405312 := by
  simp only [nanB, decide_eq_false_iff_not] at h; omega

theorem order_eq {u v : Nat} (hu : nanB u = false) (hv : nanB v = false) : double.order u v = some (compare (skey u) (skey v)) := by
  have hu' := nanB_not hu
  have hv' := nanB_not hv
  unfold Format.order
  rcases Nat.lt_or_ge (rung u) 9218868437227405312 with fu | iu
  · obtain ⟨m, k, eu, am, hk, _, _⟩ := read_fin fu
    rw [eu]
    rcases Nat.lt_or_ge (rung v) 9218868437227405312 with fv | iv
    · obtain ⟨n, l, ev, an, hl, _, _⟩ := read_fin fv
      rw [ev]
      simp only [Datum.order, Option.some.injEq]
      have e1 : (-1074 + (k : Int) - min (-1074 + (k : Int)) (-1074 + (l : Int))).toNat = k - min k l := by omega
      have e2 : (-1074 + (l : Int) - min (-1074 + (k : Int)) (-1074 + (l : Int))).toNat = l - min k l := by omega
      rw [e1, e2, ← compare_mul _ _ (2 ^ min k l) (Nat.two_pow_pos _), signed_mul, signed_mul]
      have e3 : k - min k l + min k l = k := by omega
      have e4 : l - min k l + min k l = l := by omega
      rw [e3, e4, signed_sval am, signed_sval an, compare_skey]
    · have : rung v = 9218868437227405312 := by omega
      rw [read_inf this]
      simp only [Datum.order, Option.some.injEq]
      unfold skey
      rw [this]
      cases sgnB u <;> cases sgnB v <;> simp only [if_true, if_false, Bool.false_eq_true] <;> first | exact (Int.compare_eq_lt.2 (by omega)).symm | exact (Int.compare_eq_gt.2 (by omega)).symm
  · have iu' : rung u = 9218868437227405312 := by omega
    rw [read_inf iu']
    rcases Nat.lt_or_ge (rung v) 9218868437227405312 with fv | iv
    · obtain ⟨n, l, ev, an, hl, _, _⟩ := read_fin fv
      rw [ev]
      simp only [Datum.order, Option.some.injEq]
      unfold skey
      rw [iu']
      cases sgnB u <;> cases sgnB v <;> simp only [if_true, if_false, Bool.false_eq_true] <;> first | exact (Int.compare_eq_lt.2 (by omega)).symm | exact (Int.compare_eq_gt.2 (by omega)).symm
    · have iv' : rung v = 9218868437227405312 := by omega
      rw [read_inf iv']
      simp only [Datum.order, Option.some.injEq]
      unfold skey
      rw [iu', iv']
      cases sgnB u <;> cases sgnB v <;> decide

theorem order_nan_l {u v : Nat} (hu : nanB u = true) : double.order u v = none := by
  simp only [nanB, decide_eq_true_eq] at hu
  unfold Format.order
  rw [read_nan hu]
  rfl
theorem order_nan_r {u v : Nat} (hv : nanB v = true) : double.order u v = none := by
  simp only [nanB, decide_eq_true_eq] at hv
  unfold Format.order
  rw [read_nan hv]
  cases double.read u <;> rfl

/-- How two words compare: -1, 0, 1, or 2 where one is a NaN. -/
def cmpV (u v : Nat) : Int := if nanB u || nanB v then 2 else if skey u < skey v then -1 else if skey u = skey v then 0 else 1

theorem order_lt (u v : Nat) : (double.order u v == some .lt) = decide (nanB u = false ∧ nanB v = false ∧ skey u < skey v) := by
  cases hu : nanB u
  · cases hv : nanB v
    · rw [order_eq hu hv]
      rcases Int.lt_trichotomy (skey u) (skey v) with h | h | h
      · rw [Int.compare_eq_lt.2 h]; simp [h]
      · rw [Int.compare_eq_eq.2 h]; simp [h]
      · rw [Int.compare_eq_gt.2 h]; simp; omega
    · rw [order_nan_r hv]; simp
  · rw [order_nan_l hu]; simp
theorem order_eqB (u v : Nat) : (double.order u v == some .eq) = decide (nanB u = false ∧ nanB v = false ∧ skey u = skey v) := by
  cases hu : nanB u
  · cases hv : nanB v
    · rw [order_eq hu hv]
      rcases Int.lt_trichotomy (skey u) (skey v) with h | h | h
      · rw [Int.compare_eq_lt.2 h]; simp; omega
      · rw [Int.compare_eq_eq.2 h]; simp [h]
      · rw [Int.compare_eq_gt.2 h]; simp; omega
    · rw [order_nan_r hv]; simp
  · rw [order_nan_l hu]; simp
theorem order_gt (u v : Nat) : (double.order u v == some .gt) = decide (nanB u = false ∧ nanB v = false ∧ skey v < skey u) := by
  cases hu : nanB u
  · cases hv : nanB v
    · rw [order_eq hu hv]
      rcases Int.lt_trichotomy (skey u) (skey v) with h | h | h
      · rw [Int.compare_eq_lt.2 h]; simp; omega
      · rw [Int.compare_eq_eq.2 h]; simp [h]
      · rw [Int.compare_eq_gt.2 h]; simp [h]
    · rw [order_nan_r hv]; simp
  · rw [order_nan_l hu]; simp


/-! Bits of uint64s. -/

theorem wraps64 (n : Int) (h₀ : 0 ≤ n) (h₁ : n < 2 ^ 64) : IntKind.u64.wrap n = n := by rw [IntKind.wrap_u64]; omega

theorem u64_and (a b : Nat) (ha : a < 18446744073709551616) (hb : b < 18446744073709551616) : bits .and .u64 (a : Int) (b : Int) = ((a &&& b : Nat) : Int) := (bits_nat .u64 64 (by decide) wraps64 a b ha hb).1
theorem u64_or (a b : Nat) (ha : a < 18446744073709551616) (hb : b < 18446744073709551616) : bits .or .u64 (a : Int) (b : Int) = ((a ||| b : Nat) : Int) := (bits_nat .u64 64 (by decide) wraps64 a b ha hb).2
theorem u64_xor (a b : Nat) (ha : a < 18446744073709551616) (hb : b < 18446744073709551616) : bits .xor .u64 (a : Int) (b : Int) = ((a ^^^ b : Nat) : Int) := by
  have e1 : (BitVec.ofInt 64 (a : Int)).toNat = a := by rw [BitVec.toNat_ofInt]; omega
  have e2 : (BitVec.ofInt 64 (b : Int)).toNat = b := by rw [BitVec.toNat_ofInt]; omega
  have h : a ^^^ b < 2 ^ 64 := Nat.xor_lt_two_pow ha hb
  show IntKind.u64.wrap ((BitVec.ofInt 64 (a : Int) ^^^ BitVec.ofInt 64 (b : Int)).toNat : Int) = _
  rw [BitVec.toNat_xor, e1, e2, wraps64 _ (by omega) (by omega)]

theorem u64_andNot_sign (u : Nat) (hu : u < 18446744073709551616) : bits .andNot .u64 (u : Int) 9223372036854775808 = (rung u : Int) := by
  have e1 : (BitVec.ofInt 64 (u : Int)).toNat = u := by
    rw [BitVec.toNat_ofInt]; omega
  have e2 : (~~~ BitVec.ofInt 64 9223372036854775808).toNat = 2 ^ 63 - 1 := by decide
  have e3 : (BitVec.ofInt 64 (u : Int) &&& ~~~ BitVec.ofInt 64 9223372036854775808).toNat = u % 2 ^ 63 := by
    rw [BitVec.toNat_and, e1, e2, Nat.and_two_pow_sub_one_eq_mod]
  show IntKind.u64.wrap ((BitVec.ofInt 64 (u : Int) &&& ~~~ BitVec.ofInt 64 9223372036854775808).toNat : Int) = _
  rw [e3, wraps64 _ (by omega) (by omega)]
  rfl

theorem and_sign (u : Nat) : u &&& 9223372036854775808 = if sgnB u then 9223372036854775808 else 0 := by
  have e : (9223372036854775808 : Nat) = 2 ^ 63 := rfl
  have h : u &&& 2 ^ 63 = if u.testBit 63 then 2 ^ 63 else 0 := by
    refine Nat.eq_of_testBit_eq fun i => ?_
    rw [Nat.testBit_and, Nat.testBit_two_pow]
    by_cases hi : i = 63
    · subst hi
      cases u.testBit 63
      · simp
      · rw [if_pos rfl, Nat.testBit_two_pow_self]; rfl
    · have : decide (63 = i) = false := by simp; omega
      rw [this, Bool.and_false]
      cases u.testBit 63
      · simp
      · rw [if_pos rfl, Nat.testBit_two_pow, this]
  have h2 : u.testBit 63 = sgnB u := by
    rw [Nat.testBit_eq_decide_div_mod_eq]
    simp only [sgnB]
    rfl
  rw [e, h, h2]

theorem u64_and_sign (u : Nat) (hu : u < 18446744073709551616) : bits .and .u64 (u : Int) 9223372036854775808 = if sgnB u then 9223372036854775808 else 0 := by
  have := u64_and u 9223372036854775808 hu (by decide)
  rw [show ((9223372036854775808 : Nat) : Int) = 9223372036854775808 from rfl] at this
  rw [this, and_sign u]
  cases sgnB u <;> rfl

/-- The sign turned. -/
def flip (u : Nat) : Nat := if sgnB u then u - 9223372036854775808 else u + 9223372036854775808

theorem sgn_cases (u : Nat) (hu : u < 18446744073709551616) : (sgnB u = true ∧ u = 9223372036854775808 + rung u ∧ rung u < 9223372036854775808) ∨ (sgnB u = false ∧ u = rung u ∧ rung u < 9223372036854775808) := by
  unfold sgnB rung
  by_cases h : u < 9223372036854775808
  · refine Or.inr ⟨?_, by omega, by omega⟩
    have : u / 9223372036854775808 = 0 := by omega
    rw [this]; rfl
  · refine Or.inl ⟨?_, by omega, by omega⟩
    have : u / 9223372036854775808 = 1 := by omega
    rw [this]; rfl

theorem xor_sign (u : Nat) (hu : u < 18446744073709551616) : u ^^^ 9223372036854775808 = flip u := by
  have key : ∀ r : Nat, r < 2 ^ 63 → r ^^^ 2 ^ 63 = 2 ^ 63 + r := by
    intro r hr
    have h1 : 2 ^ 63 * 1 + r = 2 ^ 63 * 1 ||| r := Nat.two_pow_add_eq_or_of_lt hr 1
    rw [Nat.mul_one] at h1
    rw [h1]
    refine Nat.eq_of_testBit_eq fun i => ?_
    rw [Nat.testBit_xor, Nat.testBit_or, Nat.testBit_two_pow]
    by_cases hi : i = 63
    · subst hi
      have : r.testBit 63 = false := Nat.testBit_lt_two_pow hr
      simp [this]
    · have : decide (63 = i) = false := by simp; omega
      simp [this]
  unfold flip
  rcases sgn_cases u hu with ⟨h1, h2, h3⟩ | ⟨h1, h2, h3⟩
  · rw [h1, if_pos rfl]
    have := key (rung u) h3
    have e : u = rung u ^^^ 2 ^ 63 := by rw [this]; omega
    have e2 : u - 9223372036854775808 = rung u := by omega
    rw [e2]
    conv => lhs; rw [e]
    rw [Nat.xor_assoc, Nat.xor_self, Nat.xor_zero]
  · rw [h1]
    have := key (rung u) h3
    rw [← h2] at this
    rw [if_neg (by simp)]
    have e : (9223372036854775808 : Nat) = 2 ^ 63 := rfl
    rw [e, this]
    omega

theorem u64_xor_sign (u : Nat) (hu : u < 18446744073709551616) : bits .xor .u64 (u : Int) 9223372036854775808 = (flip u : Int) := by
  have := u64_xor u 9223372036854775808 hu (by decide)
  rw [show ((9223372036854775808 : Nat) : Int) = 9223372036854775808 from rfl] at this
  rw [this, xor_sign u hu]

theorem flip_lt (u : Nat) (hu : u < 18446744073709551616) : flip u < 18446744073709551616 := by
  unfold flip
  rcases sgn_cases u hu with ⟨h1, h2, h3⟩ | ⟨h1, h2, h3⟩ <;> rw [h1] <;> simp <;> omega
theorem rung_flip (u : Nat) (hu : u < 18446744073709551616) : rung (flip u) = rung u := by
  unfold flip
  rcases sgn_cases u hu with ⟨h1, h2, h3⟩ | ⟨h1, h2, h3⟩ <;> rw [h1] <;> simp only [if_true, if_false, Bool.false_eq_true] <;> unfold rung at * <;> omega
theorem sgn_flip (u : Nat) (hu : u < 18446744073709551616) : sgnB (flip u) = !sgnB u := by
  rcases sgn_cases u hu with ⟨h1, h2, h3⟩ | ⟨h1, h2, h3⟩
  · have : flip u = rung u := by unfold flip; rw [h1, if_pos rfl]; omega
    rw [this, h1]
    unfold sgnB
    have : rung u / 9223372036854775808 = 0 := by omega
    rw [this]; rfl
  · have : flip u = 9223372036854775808 + rung u := by unfold flip; rw [h1, if_neg (by simp)]; omega
    rw [this, h1]
    unfold sgnB
    have : (9223372036854775808 + rung u) / 9223372036854775808 = 1 := by omega
    rw [this]; rfl
theorem rung_lt (u : Nat) : rung u < 9223372036854775808 := by unfold rung; omega
theorem rung_rung (u : Nat) : rung (rung u) = rung u := by unfold rung; omega
theorem sgn_rung (u : Nat) : sgnB (rung u) = false := by
  have h := rung_lt u
  unfold sgnB
  have : rung u / 9223372036854775808 = 0 := by omega
  rw [this]; rfl

/-- The bits that are told. -/
def canon (u : Nat) : Nat := if nanB u then 9221120237041090560 else u
theorem canon_lt {u : Nat} (hu : u < 18446744073709551616) : canon u < 18446744073709551616 := by
  unfold canon; split <;> omega

theorem order_self (u : Nat) : (double.order u u != some .eq) = nanB u := by
  have h := order_eqB u u
  have h2 : (double.order u u != some .eq) = !(double.order u u == some .eq) := rfl
  rw [h2, h]
  cases nanB u <;> simp
end Go.Proofs.YtbengmceiaejeaaGreatDoor
/- What the small functions on bits answer, for every argument. -/
namespace Go.Proofs.YtbengmceiaejeaaGreatDoor
open Go.ChangeShapes Go.WideShapes Go.ChangeAt Go.RowKit

theorem hide {p : Prop} (h : p) : Hid p := h
theorem ret_bool {a b : Bool} (h : a = b) : Ending.returned (.bool a) = .returned (.bool b) := by rw [h]
theorem ret_int {k : IntKind} {a b : Int} (h : a = b) : Ending.returned (.int k a) = .returned (.int k b) := by rw [h]
theorem ret_float {a b : Nat} (h : a = b) : Ending.returned (.float .f64 a) = .returned (.float .f64 b) := by rw [h]
theorem ret_two {k j : IntKind} {a b c d : Int} (h : a = b) (g : c = d) : Ending.returned (.tuple #[.int k a, .int j c]) = .returned (.tuple #[.int k b, .int j d]) := by rw [h, g]

theorem x_frombits (u : Int) (w : World) : (callFunc 38 #[.int .u64 u]).run Tryz.prog w = .ok (.value (.float .f64 u.toNat)) w := by
  rw [run_callFunc_extern (e := Extern.MathFloatBits.float64frombits) Tryz.func38 (by kernel_rfl) (by kernel_rfl) (by kernel_rfl) (by kernel_rfl)]
  rfl

theorem x_bits (u : Nat) (w : World) : (callFunc 33 #[.float .f64 u]).run Tryz.prog w = .ok (.value (.int .u64 u)) w := by
  rw [run_callFunc_extern (e := Extern.MathFloatBits.float64bits) Tryz.func33 (by kernel_rfl) (by kernel_rfl) (by kernel_rfl) (by kernel_rfl)]
  rfl

theorem mIsNaN_any (u : Nat) (w : World) : Calls Tryz.prog 31 #[.float .f64 u] w fun e w' => e = .returned (.bool (nanB u)) ∧ w' = w := by
  have h : Hid ((FloatKind.f64.format.order u u != some Ordering.eq) = nanB u) := order_self u
  go_enter Tryz.func31, Tryz.ntmps31
  go_wp2
  go_ret
  exact ⟨ret_bool h.out, rfl⟩

theorem rIsNaN_any (u : Nat) (hu : u < 18446744073709551616) (w : World) : Calls Tryz.prog 10 #[.int .u64 (u : Int)] w fun e w' => e = .returned (.bool (nanB u)) ∧ w' = w := by
  have h := u64_andNot_sign u hu
  have h2 : Hid (decide ((9218868437227405312 : Int) < (rung u : Int)) = nanB u) := by
    refine hide ?_
    unfold nanB
    exact decide_eq_decide.2 (by omega)
  go_enter Tryz.func10, Tryz.ntmps10
  go_wp2
  go_ret
  exact ⟨ret_bool h2.out, rfl⟩

theorem from_any (u : Nat) (w : World) : Calls Tryz.prog 20 #[.int .u64 (u : Int)] w fun e w' => e = .returned (.float .f64 u) ∧ w' = w := by
  have h := x_frombits (u : Int)
  go_enter Tryz.func20, Tryz.ntmps20
  go_wp2
  go_ret
  exact ⟨rfl, rfl⟩

theorem bits_any (u : Nat) (w : World) : Calls Tryz.prog 25 #[.float .f64 u] w fun e w' => e = .returned (.int .u64 (canon u : Int)) ∧ w' = w := by
  have h := x_bits u
  cases hn : nanB u
  · have hc : Hid (canon u = u) := by refine hide ?_; simp [canon, hn]
    go_enter Tryz.func25, Tryz.ntmps25
    go_wp2_with (go_at_call 31; refine (mIsNaN_any _ _).mono ?_; rintro e w' ⟨rfl, rfl⟩)
    go_ret
    exact ⟨by rw [hc.out]; rfl, rfl⟩
  · have hc : Hid (canon u = 9221120237041090560) := by refine hide ?_; simp [canon, hn]
    go_enter Tryz.func25, Tryz.ntmps25
    go_wp2_with (go_at_call 31; refine (mIsNaN_any _ _).mono ?_; rintro e w' ⟨rfl, rfl⟩)
    go_ret
    exact ⟨by rw [hc.out]; rfl, rfl⟩

theorem canon_any (u : Nat) (hu : u < 18446744073709551616) (w : World) : Calls Tryz.prog 30 #[.int .u64 (u : Int)] w fun e w' => e = .returned (.int .u64 (canon u : Int)) ∧ w' = w := by
  cases hn : nanB u
  · have hc : Hid (canon u = u) := by refine hide ?_; simp [canon, hn]
    go_enter Tryz.func30, Tryz.ntmps30
    go_wp2_with (go_at_call 10; refine (rIsNaN_any _ hu _).mono ?_; rintro e w' ⟨rfl, rfl⟩)
    go_ret
    exact ⟨by rw [hc.out]; rfl, rfl⟩
  · have hc : Hid (canon u = 9221120237041090560) := by refine hide ?_; simp [canon, hn]
    go_enter Tryz.func30, Tryz.ntmps30
    go_wp2_with (go_at_call 10; refine (rIsNaN_any _ hu _).mono ?_; rintro e w' ⟨rfl, rfl⟩)
    go_ret
    exact ⟨by rw [hc.out]; rfl, rfl⟩

theorem of_any (u : Nat) (w : World) : Calls Tryz.prog 6 #[.int .u64 (u : Int)] w fun e w' => e = .returned (.float .f64 u) ∧ w' = w := by
  go_enter Tryz.func6, Tryz.ntmps6
  go_wp2_with (go_at_call 20; refine (from_any _ _).mono ?_; rintro e w' ⟨rfl, rfl⟩)
  go_ret
  exact ⟨rfl, rfl⟩

theorem is_any (x u : Nat) (hu : u < 18446744073709551616) (w : World) : Calls Tryz.prog 12 #[.float .f64 x, .int .u64 (u : Int)] w fun e w' => e = .returned (.bool (decide (canon x = canon u))) ∧ w' = w := by
  have h : Hid (decide ((canon x : Int) = (canon u : Int)) = decide (canon x = canon u)) := by
    refine hide (decide_eq_decide.2 (by omega))
  go_enter Tryz.func12, Tryz.ntmps12
  go_wp2_with (first | (go_at_call 25; refine (bits_any _ _).mono ?_; rintro e w' ⟨rfl, rfl⟩) | (go_at_call 30; refine (canon_any _ hu _).mono ?_; rintro e w' ⟨rfl, rfl⟩))
  go_ret
  exact ⟨ret_bool h.out, rfl⟩

theorem mAbs_any (u : Nat) (hu : u < 18446744073709551616) (w : World) : Calls Tryz.prog 16 #[.float .f64 u] w fun e w' => e = .returned (.float .f64 (rung u)) ∧ w' = w := by
  have h := x_bits u
  have h2 := u64_andNot_sign u hu
  have h3 := x_frombits (rung u : Int)
  go_enter Tryz.func16, Tryz.ntmps16
  go_wp2
  go_ret
  exact ⟨rfl, rfl⟩

theorem unOp_negf (u : Nat) (hu : u < 18446744073709551616) : Op.unary .neg (.float .f64 u) = pure (.float .f64 (flip u)) := by
  have h : Op.negFloat .f64 u = flip u := xor_sign u hu
  rw [← h]
  rfl
end Go.Proofs.YtbengmceiaejeaaGreatDoor
/- How two reals compare: flo.Compare and the reference's, for every two words. -/
namespace Go.Proofs.YtbengmceiaejeaaGreatDoor
open Go.ChangeShapes Go.WideShapes Go.ChangeAt Go.RowKit

def zeroB (u : Nat) : Bool := decide (rung u = 0)

theorem rIsInf_any (u : Nat) (hu : u < 18446744073709551616) (w : World) : Calls Tryz.prog 11 #[.int .u64 (u : Int)] w fun e w' => e = .returned (.bool (infB u)) ∧ w' = w := by
  have h := u64_andNot_sign u hu
  have h2 : Hid (decide ((rung u : Int) = 9218868437227405312) = infB u) := by
    refine hide ?_
    unfold infB
    exact decide_eq_decide.2 (by omega)
  go_enter Tryz.func11, Tryz.ntmps11
  go_wp2
  go_ret
  exact ⟨ret_bool h2.out, rfl⟩

theorem cmp_nan {u v : Nat} (h : nanB u = true ∨ nanB v = true) : cmpV u v = 2 := by
  unfold cmpV
  rcases h with h | h <;> simp [h]

theorem cmp_zero {u v : Nat} (nu : nanB u = false) (nv : nanB v = false) (zu : zeroB u = true) (zv : zeroB v = true) : cmpV u v = 0 := by
  have r1 : rung u = 0 := of_decide_eq_true zu
  have r2 : rung v = 0 := of_decide_eq_true zv
  have k1 : skey u = 0 := by unfold skey; rw [r1]; cases sgnB u <;> rfl
  have k2 : skey v = 0 := by unfold skey; rw [r2]; cases sgnB v <;> rfl
  unfold cmpV
  rw [nu, nv, k1, k2]
  rfl

theorem cmp_same {u v : Nat} (nu : nanB u = false) (h : (u : Int) = v) : cmpV u v = 0 := by
  have e : u = v := by omega
  subst e
  unfold cmpV
  rw [nu, if_neg (by simp), if_neg (by omega), if_pos rfl]

theorem cmp_lt {u v : Nat} (nu : nanB u = false) (nv : nanB v = false) (h : skey u < skey v) : cmpV u v = -1 := by
  unfold cmpV
  rw [nu, nv, if_neg (by simp), if_pos h]
theorem cmp_gt {u v : Nat} (nu : nanB u = false) (nv : nanB v = false) (h : skey v < skey u) : cmpV u v = 1 := by
  unfold cmpV
  rw [nu, nv, if_neg (by simp), if_neg (by omega), if_neg (by omega)]

theorem skey_neg {u : Nat} (s : sgnB u = true) : skey u = -(rung u : Int) := by unfold skey; rw [s]; rfl
theorem skey_pos {u : Nat} (s : sgnB u = false) : skey u = (rung u : Int) := by unfold skey; rw [s]; rfl
theorem zero_not {u : Nat} (h : zeroB u = false) : 0 < rung u := by
  have := of_decide_eq_false h
  omega
theorem neg_is {u : Nat} (hu : u < 18446744073709551616) (s : sgnB u = true) : u = 9223372036854775808 + rung u := by
  rcases sgn_cases u hu with ⟨s1, e1, _⟩ | ⟨s1, e1, _⟩
  · exact e1
  · rw [s] at s1; cases s1
theorem pos_is {u : Nat} (hu : u < 18446744073709551616) (s : sgnB u = false) : u = rung u := by
  rcases sgn_cases u hu with ⟨s1, e1, _⟩ | ⟨s1, e1, _⟩
  · rw [s] at s1; cases s1
  · exact e1

theorem nan_rung (u : Nat) : nanB (rung u) = nanB u := by unfold nanB; rw [rung_rung]

theorem gt_max (u : Nat) : (FloatKind.f64.format.order (rung u) 9218868437227405311 == some Ordering.gt) = infB u := by
  have h := order_gt (rung u) 9218868437227405311
  have k1 : skey (rung u) = (rung u : Int) := by rw [skey_pos (sgn_rung u), rung_rung]
  have k2 : skey 9218868437227405311 = 9218868437227405311 := by decide
  have n2 : nanB 9218868437227405311 = false := by decide
  rw [k1, k2, n2, nan_rung] at h
  refine h.trans ?_
  unfold infB nanB
  refine decide_eq_decide.2 ?_
  constructor
  · rintro ⟨h1, _, h3⟩
    have := of_decide_eq_false h1
    omega
  · intro h1
    exact ⟨decide_eq_false (by omega), rfl, by omega⟩

theorem mIsInf_any (u : Nat) (hu : u < 18446744073709551616) (w : World) : Calls Tryz.prog 32 #[.float .f64 u, .int .i64 0] w fun e w' => e = .returned (.bool (infB u)) ∧ w' = w := by
  have h := gt_max u
  go_enter Tryz.func32, Tryz.ntmps32
  go_wp2_with (go_at_call 16; refine (mAbs_any _ hu _).mono ?_; rintro e w' ⟨rfl, rfl⟩)
  go_ret
  exact ⟨rfl, rfl⟩

theorem sign64 (u : Nat) (hu : u < 18446744073709551616) : decide (wrap64 (u : Int) < 0) = sgnB u := by
  rcases sgn_cases u hu with ⟨s, e, r⟩ | ⟨s, e, r⟩
  · rw [s, decide_eq_true_eq]; unfold wrap64; omega
  · rw [s, decide_eq_false_iff_not]; unfold wrap64; omega

theorem mSignbit_any (u : Nat) (hu : u < 18446744073709551616) (w : World) : Calls Tryz.prog 14 #[.float .f64 u] w fun e w' => e = .returned (.bool (sgnB u)) ∧ w' = w := by
  have h1 := x_bits u
  have h2 := hide (sign64 u hu)
  go_enter Tryz.func14, Tryz.ntmps14
  go_wp2
  go_ret
  exact ⟨ret_bool h2.out, rfl⟩
end Go.Proofs.YtbengmceiaejeaaGreatDoor
/- The closed call on every road: how 0.30000000000000004 is written. First part: its digits. -/
namespace Go.Proofs.YtbengmceiaejeaaGreatDoor
open Go.ChangeShapes Go.WideShapes Go.ChangeAt Go.RowKit

theorem c_l10 (w : World) : Calls Tryz.prog 123 #[.int .i64 (-54)] w fun e w' => e = .returned (.int .i64 (-17)) ∧ w' = w := by
  go_enter Tryz.func123, Tryz.ntmps123
  go_wp2
  go_ret
  exact ⟨rfl, rfl⟩

theorem c_l2 (w : World) : Calls Tryz.prog 155 #[.int .i64 17] w fun e w' => e = .returned (.int .i64 56) ∧ w' = w := by
  go_enter Tryz.func155, Tryz.ntmps155
  go_wp2
  go_ret
  exact ⟨rfl, rfl⟩

theorem c_nudge0 (w : World) : Calls Tryz.prog 157 #[.int .u64 120000000000000007, .int .i64 0] w fun e w' => e = .returned (.int .u64 120000000000000007) ∧ w' = w := by
  go_enter Tryz.func157, Tryz.ntmps157
  go_wp2
  go_ret
  exact ⟨rfl, rfl⟩

theorem c_nudge1 (w : World) : Calls Tryz.prog 157 #[.int .u64 120000000000000029, .int .i64 0] w fun e w' => e = .returned (.int .u64 120000000000000029) ∧ w' = w := by
  go_enter Tryz.func157, Tryz.ntmps157
  go_wp2
  go_ret
  exact ⟨rfl, rfl⟩

theorem c_ceil (w : World) : Calls Tryz.prog 158 #[.int .u64 120000000000000007] w fun e w' => e = .returned (.int .u64 30000000000000002) ∧ w' = w := by
  go_enter Tryz.func158, Tryz.ntmps158
  go_wp2
  go_ret
  exact ⟨rfl, rfl⟩

theorem c_floor (w : World) : Calls Tryz.prog 159 #[.int .u64 120000000000000029] w fun e w' => e = .returned (.int .u64 30000000000000007) ∧ w' = w := by
  go_enter Tryz.func159, Tryz.ntmps159
  go_wp2
  go_ret
  exact ⟨rfl, rfl⟩

theorem c_round (w : World) : Calls Tryz.prog 160 #[.int .u64 120000000000000017] w fun e w' => e = .returned (.int .u64 30000000000000004) ∧ w' = w := by
  have h : bits .and .u64 30000000000000004 1 = 0 := by decide
  go_enter Tryz.func160, Tryz.ntmps160
  go_wp2
  go_ret
  exact ⟨rfl, rfl⟩

theorem c_mul0 (w : World) : Calls Tryz.prog 68 #[.int .u64 11068046444225731584, .int .u64 12800000000000000000] w fun e w' => e = .returned (.tuple #[.int .u64 7680000000000000426, .int .u64 6007024599731011584]) ∧ w' = w :=
  Tryz.bits_Mul64 11068046444225731584 12800000000000000000 (by decide) (by decide) w

theorem c_uscale0 (B : Nat) (w : World) (c0 : w.cell? ⟨B, 0, none⟩ = some (.int .u64 12800000000000000000)) (c2 : w.cell? ⟨B, 2, none⟩ = some (.int .i64 6)) :
    Calls Tryz.prog 156 #[.int .u64 11068046444225731584, .pointer (some ⟨B, 0, none⟩)] w fun e w' => e = .returned (.int .u64 120000000000000007) ∧ w' = w := by
  have h1 : bits .or .u64 120000000000000006 1 = 120000000000000007 := by decide
  have h2 : bits .and .i64 6 63 = 6 := by decide
  go_enter Tryz.func156, Tryz.ntmps156
  go_wp2_with (go_at_call 68; refine (c_mul0 _).mono ?_; rintro e w' ⟨rfl, rfl⟩)
  go_ret
  exact ⟨rfl, rfl⟩

theorem c_mul1 (w : World) : Calls Tryz.prog 68 #[.int .u64 11068046444225733632, .int .u64 12800000000000000000] w fun e w' => e = .returned (.tuple #[.int .u64 7680000000000001847, .int .u64 7583695858458165248]) ∧ w' = w :=
  Tryz.bits_Mul64 11068046444225733632 12800000000000000000 (by decide) (by decide) w

theorem c_uscale1 (B : Nat) (w : World) (c0 : w.cell? ⟨B, 0, none⟩ = some (.int .u64 12800000000000000000)) (c2 : w.cell? ⟨B, 2, none⟩ = some (.int .i64 6)) :
    Calls Tryz.prog 156 #[.int .u64 11068046444225733632, .pointer (some ⟨B, 0, none⟩)] w fun e w' => e = .returned (.int .u64 120000000000000029) ∧ w' = w := by
  have h1 : bits .or .u64 120000000000000028 1 = 120000000000000029 := by decide
  have h2 : bits .and .i64 6 63 = 6 := by decide
  go_enter Tryz.func156, Tryz.ntmps156
  go_wp2_with (go_at_call 68; refine (c_mul1 _).mono ?_; rintro e w' ⟨rfl, rfl⟩)
  go_ret
  exact ⟨rfl, rfl⟩

theorem c_mul2 (w : World) : Calls Tryz.prog 68 #[.int .u64 11068046444225732608, .int .u64 12800000000000000000] w fun e w' => e = .returned (.tuple #[.int .u64 7680000000000001136, .int .u64 16018732265949364224]) ∧ w' = w :=
  Tryz.bits_Mul64 11068046444225732608 12800000000000000000 (by decide) (by decide) w

theorem c_uscale2 (B : Nat) (w : World) (c0 : w.cell? ⟨B, 0, none⟩ = some (.int .u64 12800000000000000000)) (c2 : w.cell? ⟨B, 2, none⟩ = some (.int .i64 6)) :
    Calls Tryz.prog 156 #[.int .u64 11068046444225732608, .pointer (some ⟨B, 0, none⟩)] w fun e w' => e = .returned (.int .u64 120000000000000017) ∧ w' = w := by
  have h1 : bits .or .u64 120000000000000017 1 = 120000000000000017 := by decide
  have h2 : bits .and .i64 6 63 = 6 := by decide
  go_enter Tryz.func156, Tryz.ntmps156
  go_wp2_with (go_at_call 68; refine (c_mul2 _).mono ?_; rintro e w' ⟨rfl, rfl⟩)
  go_ret
  exact ⟨rfl, rfl⟩

/-- What the closed call reads of the library's variables. -/
structure Rdy (w : World) : Prop where
  m : ∃ m, w.cell? ⟨3, 0, none⟩ = some (.int .i64 m)
  ten : w.cell? ⟨9, 16, none⟩ = some (.int .u64 10000000000000000)
  hi : w.cell? ⟨13, 730, none⟩ = some (.int .u64 12800000000000000000)
  lo : w.cell? ⟨13, 731, none⟩ = some (.int .u64 0)
  s1 : 3 < w.heap.size
  s2 : 9 < w.heap.size
  s3 : 13 < w.heap.size

theorem Rdy.below {w w' : World} (h : Rdy w) (hb : Below w.heap.size w w') : Rdy w' := by
  obtain ⟨⟨m, hm⟩, h2, h3, h4, s1, s2, s3⟩ := h
  have hs := hb.size
  refine ⟨⟨m, ?_⟩, ?_, ?_, ?_, by omega, by omega, by omega⟩
  · rw [hb.cell s1]; exact hm
  · rw [hb.cell s2]; exact h2
  · rw [hb.cell s3]; exact h3
  · rw [hb.cell s3]; exact h4

theorem c_prescale (t : TypeId) (w : World) (R : Rdy w) :
    Calls Tryz.prog 154 #[.pointer (some ⟨w.heap.size, 0, none⟩), .int .i64 (-65), .int .i64 17, .int .i64 56] (w.alloc (.cells #[.int .u64 0, .int .u64 0, .int .i64 0] t)) fun e w' => e = .returned (.tuple #[]) ∧ w' = w.alloc (.cells #[.int .u64 12800000000000000000, .int .u64 0, .int .i64 6] t) := by
  have h1 : ∀ o, (w.alloc o).cell? ⟨13, 730, none⟩ = some (.int .u64 12800000000000000000) := by
    intro o
    rw [((Below.refl w.heap.size w).alloc (Nat.le_refl _) o).cell R.s3]; exact R.hi
  have h2 : ∀ o, (w.alloc o).cell? ⟨13, 731, none⟩ = some (.int .u64 0) := by
    intro o
    rw [((Below.refl w.heap.size w).alloc (Nat.le_refl _) o).cell R.s3]; exact R.lo
  go_enter Tryz.func154, Tryz.ntmps154
  go_wp2
  go_end0
  exact ⟨rfl, rfl⟩

/-- The three scalings that are asked for. -/
def usv (x : Int) : Int := if x = 11068046444225731584 then 120000000000000007 else if x = 11068046444225733632 then 120000000000000029 else 120000000000000017

theorem c_uscale (B : Nat) (x : Int) (w : World) (hx : x = 11068046444225731584 ∨ x = 11068046444225733632 ∨ x = 11068046444225732608) (c0 : w.cell? ⟨B, 0, none⟩ = some (.int .u64 12800000000000000000)) (c2 : w.cell? ⟨B, 2, none⟩ = some (.int .i64 6)) :
    Calls Tryz.prog 156 #[.int .u64 x, .pointer (some ⟨B, 0, none⟩)] w fun e w' => e = .returned (.int .u64 (usv x)) ∧ w' = w := by
  rcases hx with rfl | rfl | rfl
  · exact c_uscale0 B w c0 c2
  · exact c_uscale1 B w c0 c2
  · exact c_uscale2 B w c0 c2

theorem c_nudge (x : Int) (w : World) (hx : x = 120000000000000007 ∨ x = 120000000000000029) : Calls Tryz.prog 157 #[.int .u64 x, .int .i64 0] w fun e w' => e = .returned (.int .u64 x) ∧ w' = w := by
  rcases hx with rfl | rfl
  · exact c_nudge0 w
  · exact c_nudge1 w

theorem c_short (w : World) (R : Rdy w) :
    Calls Tryz.prog 128 #[.int .u64 11068046444225732608, .int .i64 (-65)] w fun e w' => e = .returned (.tuple #[.int .u64 30000000000000004, .int .i64 (-17)]) ∧ Below w.heap.size w w' := by
  have h1 : bits .and .i64 5404319552844596 1 = 0 := by decide
  have u0 : usv 11068046444225731584 = 120000000000000007 := by decide
  have u1 : usv 11068046444225733632 = 120000000000000029 := by decide
  have u2 : usv 11068046444225732608 = 120000000000000017 := by decide
  go_enter Tryz.func128, Tryz.ntmps128
  go_wp2_with (first
    | (go_at_call 123; refine (c_l10 _).mono ?_; rintro e w' ⟨rfl, rfl⟩)
    | (go_at_call 155; refine (c_l2 _).mono ?_; rintro e w' ⟨rfl, rfl⟩)
    | (go_at_call 154; refine (c_prescale _ _ R).mono ?_; rintro e w' ⟨rfl, rfl⟩)
    | (go_at_call 156; refine (c_uscale _ _ _ (by simp) (by simp) (by simp)).mono ?_; rintro e w' ⟨rfl, rfl⟩)
    | (go_at_call 157; refine (c_nudge _ _ (by simp)).mono ?_; rintro e w' ⟨rfl, rfl⟩)
    | (go_at_call 158; refine (c_ceil _).mono ?_; rintro e w' ⟨rfl, rfl⟩)
    | (go_at_call 159; refine (c_floor _).mono ?_; rintro e w' ⟨rfl, rfl⟩)
    | (go_at_call 160; refine (c_round _).mono ?_; rintro e w' ⟨rfl, rfl⟩))
  go_ret2
  exact ⟨rfl, (Below.refl _ _).alloc (Nat.le_refl _) _⟩
end Go.Proofs.YtbengmceiaejeaaGreatDoor
