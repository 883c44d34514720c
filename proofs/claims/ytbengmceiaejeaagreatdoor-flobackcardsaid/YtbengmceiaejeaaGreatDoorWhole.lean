/- Sums, differences, products and quotients: what the four operations answer; that order plays no part. -/
import Derived.Test.YtbengmceiaejeaaGreatDoorBits
import Derived.Test.YtbengmceiaejeaaGreatDoorCmp
import Derived.Test.YtbengmceiaejeaaGreatDoorNum
namespace Go.Proofs.YtbengmceiaejeaaGreatDoor
open Go.ChangeShapes Go.WideShapes Go.ChangeAt Go.RowKit
open Ieee

/-- The rung of the nearest word. -/
def nearR (mag : Nat) (place : Int) : Nat := double.nearest false mag place

/-- A word of a sign and a rung. -/
def wordD (neg : Bool) (r : Nat) : Nat := if neg then 9223372036854775808 + r else r

theorem wordD_lt {neg : Bool} {r : Nat} (h : r ≤ 9218868437227405312) : wordD neg r < 18446744073709551616 := by
  unfold wordD; split <;> omega
theorem rung_wordD {neg : Bool} {r : Nat} (h : r ≤ 9218868437227405312) : rung (wordD neg r) = r := by
  unfold wordD rung; split <;> omega
theorem sgn_wordD {neg : Bool} {r : Nat} (h : r ≤ 9218868437227405312) : sgnB (wordD neg r) = neg := by
  unfold wordD sgnB
  cases neg
  · have : r / 9223372036854775808 = 0 := by omega
    simp [this]
  · have : (9223372036854775808 + r) / 9223372036854775808 = 1 := by omega
    simp [this]
theorem nan_wordD {neg : Bool} {r : Nat} (h : r ≤ 9218868437227405312) : nanB (wordD neg r) = false := by
  unfold nanB
  rw [rung_wordD h]
  exact decide_eq_false (by omega)
theorem flip_wordD {neg : Bool} {r : Nat} (h : r ≤ 9218868437227405312) : flip (wordD neg r) = wordD (!neg) r := by
  unfold flip
  rw [sgn_wordD h]
  cases neg <;> simp [wordD]; omega

theorem word_false (r : Nat) : double.word false r = r := by unfold Format.word; rw [if_neg (by simp)]
theorem word_true (r : Nat) : double.word true r = 9223372036854775808 + r := by unfold Format.word; rw [if_pos rfl, signW]

theorem nearR_le (mag : Nat) (place : Int) : nearR mag place ≤ 9218868437227405312 := by
  unfold nearR Format.nearest
  rw [infW]
  split
  · rw [word_false]; omega
  · rw [word_false]
    exact Nat.min_le_right _ _

theorem cut_even (neg : Bool) (n d : Nat) : Toward.even.cut neg n d = Toward.even.cut false n d := rfl

theorem nearest_eq (neg : Bool) (mag : Nat) (place : Int) : double.nearest neg mag place = wordD neg (nearR mag place) := by
  unfold wordD nearR
  cases neg
  · rw [if_neg (by simp)]
  · rw [if_pos rfl]
    unfold Format.nearest
    split
    · rw [word_true, word_false]
    · rw [word_true, word_false, cut_even]

theorem write_number (neg : Bool) (mag : Nat) (place : Int) : double.write (.number neg mag place) = wordD neg (nearR mag place) := nearest_eq neg mag place
theorem write_infinity (neg : Bool) : double.write (.infinity neg) = wordD neg 9218868437227405312 := by
  show double.word neg double.infRung = _
  rw [infW]
  cases neg
  · rw [word_false]; rfl
  · rw [word_true]; rfl
theorem nearR_zero (place : Int) : nearR 0 place = 0 := by
  unfold nearR Format.nearest
  rw [if_pos rfl, word_false]

/-- What an operation that may have no answer answers: that word; else some NaN. -/
def IsRes (o : Option Nat) (r : Nat) : Prop := (o = some r ∧ r < 18446744073709551616) ∨ (o = none ∧ nanB r = true ∧ r < 18446744073709551616)

theorem IsRes.lt {o : Option Nat} {r : Nat} (h : IsRes o r) : r < 18446744073709551616 := by
  rcases h with ⟨_, h⟩ | ⟨_, _, h⟩ <;> exact h
theorem IsRes.same {o : Option Nat} {r s : Nat} (h : IsRes o r) (k : IsRes o s) : canon r = canon s := by
  rcases h with ⟨e, _⟩ | ⟨e, n, _⟩ <;> rcases k with ⟨e', _⟩ | ⟨e', n', _⟩
  · rw [e] at e'; cases e'; rfl
  · rw [e] at e'; cases e'
  · rw [e] at e'; cases e'
  · unfold canon; rw [n, n']; rfl

/-- The bits of a NaN that the tape names. -/
def nanOf (w : World) (x y : Nat) : Nat := (Question.nanBits .f64 x y).cut (w.tape w.drawn (.nanBits .f64 x y))

theorem nan_cut (t : Nat) : nanB ((t % 2) * 9223372036854775808 + 9218868437227405312 + 1 + (t / 2) % 4503599627370495) = true ∧ (t % 2) * 9223372036854775808 + 9218868437227405312 + 1 + (t / 2) % 4503599627370495 < 18446744073709551616 := by
  refine ⟨decide_eq_true ?_, by omega⟩
  unfold rung
  have h : t % 2 = 0 ∨ t % 2 = 1 := by omega
  have h2 : (t / 2) % 4503599627370495 < 4503599627370495 := Nat.mod_lt _ (by decide)
  obtain ⟨k, ek⟩ : ∃ k, (t / 2) % 4503599627370495 = k := ⟨_, rfl⟩
  rw [ek] at h2 ⊢
  rcases h with h | h <;> rw [h] <;> omega

theorem nanOf_nan (w : World) (x y : Nat) : nanB (nanOf w x y) = true ∧ nanOf w x y < 18446744073709551616 := nan_cut (w.tape w.drawn (.nanBits .f64 x y))

theorem run_nan {op : BinOp} (hop : op = .add ∨ op = .sub ∨ op = .mul ∨ op = .quo) (t : TypeId) (x y : Nat) (h : floatBits op .f64 x y = none) (w : World) :
    (binOp op t (.float .f64 x) (.float .f64 y)).run Tryz.prog w = .ok (.float .f64 (nanOf w x y)) w.drew := by
  rcases hop with rfl | rfl | rfl | rfl
  all_goals
    simp only [floatBits] at h
    simp [binOp, Op.floatArith, h, Question.forced]
    rfl

theorem add_any (x y : Nat) (w : World) : Calls Tryz.prog 26 #[.float .f64 x, .float .f64 y] w fun e w' => ∃ r, e = .returned (.float .f64 r) ∧ IsRes (double.add x y) r ∧ Below w.heap.size w w' := by
  cases h : double.add x y with
  | none =>
    have hN := fun t => run_nan (op := .add) (by simp) t x y h
    have hn := nanOf_nan w x y
    go_enter Tryz.func26, Tryz.ntmps26
    go_wp2
    go_ret
    exact ⟨_, rfl, Or.inr ⟨rfl, hn⟩, (Below.refl _ _).drew⟩
  | some r =>
    have hR := fun (t : TypeId) (w : World) => run_float_arith (P := Tryz.prog) w .add t .f64 x y r h
    have hl : Hid (r < 18446744073709551616) := double.add_lt h
    go_enter Tryz.func26, Tryz.ntmps26
    go_wp2
    go_ret
    exact ⟨_, rfl, Or.inl ⟨rfl, hl.out⟩, Below.refl _ _⟩

/-! Order plays no part. -/

theorem sum_comm (a b : Datum) : a.sum b = b.sum a := by
  cases a with
  | nan s t => cases b <;> rfl
  | infinity s =>
    cases b with
    | nan t u => rfl
    | infinity t => simp only [Datum.sum]; cases s <;> cases t <;> rfl
    | number t n j => rfl
  | number s m i =>
    cases b with
    | nan t u => rfl
    | infinity t => rfl
    | number t n j =>
      simp only [Datum.sum]
      rw [Int.min_comm i j, Int.add_comm, Bool.and_comm]

theorem product_comm (a b : Datum) : a.product b = b.product a := by
  cases a with
  | nan s t => cases b <;> rfl
  | infinity s =>
    cases b with
    | nan t u => rfl
    | infinity t => simp only [Datum.product]; rw [Bool.xor_comm]
    | number t n j => rfl
  | number s m i =>
    cases b with
    | nan t u => rfl
    | infinity t => rfl
    | number t n j =>
      simp only [Datum.product]
      rw [Nat.mul_comm, Int.add_comm, Bool.xor_comm]

theorem add_comm' (x y : Nat) : double.add x y = double.add y x := by unfold Format.add; rw [sum_comm]
theorem mul_comm' (x y : Nat) : double.mul x y = double.mul y x := by unfold Format.mul; rw [product_comm]

theorem signed_not (s : Bool) (m k : Nat) : signed (!s) m k = -signed s m k := by
  unfold signed; cases s <;> simp

/-- A difference turned round: no answer; the sign turned; or two zeros. -/
theorem sub_turn (x y : Nat) : (double.sub x y = none ∧ double.sub y x = none) ∨ (∃ neg r, r ≤ 9218868437227405312 ∧ double.sub x y = some (wordD neg r) ∧ double.sub y x = some (wordD (!neg) r)) ∨ (∃ s t, double.sub x y = some (wordD s 0) ∧ double.sub y x = some (wordD t 0)) := by
  unfold Format.sub
  cases double.read x with
  | nan s t => left; exact ⟨rfl, by cases double.read y <;> rfl⟩
  | infinity s =>
    cases double.read y with
    | nan t u => left; exact ⟨rfl, rfl⟩
    | infinity t =>
      simp only [Datum.sum, Datum.opposite]
      cases s <;> cases t
      · left; exact ⟨rfl, rfl⟩
      · right; left; exact ⟨false, 9218868437227405312, Nat.le_refl _, congrArg some (write_infinity false), congrArg some (write_infinity true)⟩
      · right; left; exact ⟨true, 9218868437227405312, Nat.le_refl _, congrArg some (write_infinity true), congrArg some (write_infinity false)⟩
      · left; exact ⟨rfl, rfl⟩
    | number t n j =>
      right; left
      refine ⟨s, 9218868437227405312, Nat.le_refl _, ?_, ?_⟩
      · simp only [Datum.sum, Datum.opposite, Option.map_some, write_infinity]
      · simp only [Datum.sum, Datum.opposite, Option.map_some, write_infinity]
  | number s m i =>
    cases double.read y with
    | nan t u => left; exact ⟨rfl, rfl⟩
    | infinity t =>
      right; left
      refine ⟨!t, 9218868437227405312, Nat.le_refl _, ?_, ?_⟩
      · simp only [Datum.sum, Datum.opposite, Option.map_some, write_infinity]
      · simp only [Datum.sum, Datum.opposite, Option.map_some, write_infinity, Bool.not_not]
    | number t n j =>
      simp only [Datum.sum, Datum.opposite, Option.map_some, write_number, signed_not]
      rw [Int.min_comm j i]
      obtain ⟨a, ea⟩ : ∃ a, signed s m (i - min i j).toNat = a := ⟨_, rfl⟩
      obtain ⟨b, eb⟩ : ∃ b, signed t n (j - min i j).toNat = b := ⟨_, rfl⟩
      rw [ea, eb]
      right
      by_cases h : a + -b = 0
      · right
        have h' : b + -a = 0 := by omega
        refine ⟨s && !t, t && !s, ?_, ?_⟩
        · rw [h, if_pos rfl, Int.natAbs_zero, nearR_zero]
        · rw [h', if_pos rfl, Int.natAbs_zero, nearR_zero]
      · left
        have h' : ¬ b + -a = 0 := by omega
        refine ⟨decide (a + -b < 0), nearR (a + -b).natAbs (min i j), nearR_le _ _, ?_, ?_⟩
        · rw [if_neg h]
        · rw [if_neg h', show (b + -a).natAbs = (a + -b).natAbs by omega]
          congr 2
          by_cases h2 : a + -b < 0
          · rw [decide_eq_true h2, decide_eq_false (by omega : ¬ b + -a < 0)]; rfl
          · rw [decide_eq_false h2, decide_eq_true (by omega : b + -a < 0)]; rfl

theorem canon_canon (u : Nat) : canon (canon u) = canon u := by
  cases h : nanB u
  · have e : canon u = u := by simp [canon, h]
    rw [e, e]
  · have e : canon u = 9221120237041090560 := by simp [canon, h]
    rw [e]; rfl

/-- The bits that are told of an operation's answer. -/
def cRes : Option Nat → Nat
  | some r => canon r
  | none => 9221120237041090560

theorem IsRes.told {o : Option Nat} {r : Nat} (h : IsRes o r) : canon r = cRes o := by
  rcases h with ⟨rfl, _⟩ | ⟨rfl, n, _⟩
  · rfl
  · simp [cRes, canon, n]

theorem canon_cRes (o : Option Nat) : canon (cRes o) = cRes o := by
  cases o with
  | none => rfl
  | some r => exact canon_canon r

theorem cRes_add (x y : Nat) : cRes (double.add x y) < 18446744073709551616 := by
  cases h : double.add x y with
  | none => show (9221120237041090560 : Nat) < _; decide
  | some r => exact canon_lt (double.add_lt h)
theorem cRes_mul (x y : Nat) : cRes (double.mul x y) < 18446744073709551616 := by
  cases h : double.mul x y with
  | none => show (9221120237041090560 : Nat) < _; decide
  | some r => exact canon_lt (double.mul_lt h)
theorem cRes_sub (x y : Nat) : cRes (double.sub x y) < 18446744073709551616 := by
  cases h : double.sub x y with
  | none => show (9221120237041090560 : Nat) < _; decide
  | some r => exact canon_lt (double.sub_lt h)
theorem cRes_div (x y : Nat) : cRes (double.div x y) < 18446744073709551616 := by
  cases h : double.div x y with
  | none => show (9221120237041090560 : Nat) < _; decide
  | some r => exact canon_lt (double.div_lt h)

theorem add_can (x y K : Nat) (h : cRes (double.add x y) = K) (w : World) : Calls Tryz.prog 26 #[.float .f64 x, .float .f64 y] w fun e w' => ∃ r, e = .returned (.float .f64 r) ∧ canon r = K ∧ r < 18446744073709551616 ∧ Below w.heap.size w w' :=
  (add_any x y w).mono fun _ _ ⟨r, e1, e2, e3⟩ => ⟨r, e1, e2.told.trans h, e2.lt, e3⟩

theorem IsRes.is {o : Option Nat} {r s : Nat} (h : IsRes o r) (e : o = some s) : r = s := by
  rcases h with ⟨e', _⟩ | ⟨e', _⟩
  · rw [e] at e'; cases e'; rfl
  · rw [e] at e'; cases e'

/-- The class of a real. -/
def classV (u : Nat) : Int := if nanB u then 0 else if infB u then 1 else if zeroB u then 2 else if rung u < 4503599627370496 then 3 else 4

theorem eq_zero' (u : Nat) (n : nanB u = false) : (FloatKind.f64.format.order (rung u) 0 == some Ordering.eq) = zeroB u := by
  have h := order_eqB (rung u) 0
  have k1 : skey (rung u) = (rung u : Int) := by rw [skey_pos (sgn_rung u), rung_rung]
  have k2 : skey 0 = 0 := by decide
  have n2 : nanB 0 = false := by decide
  rw [k1, k2, n2, nan_rung, n] at h
  refine h.trans ?_
  unfold zeroB
  refine decide_eq_decide.2 ?_
  constructor
  · rintro ⟨_, _, h3⟩; omega
  · intro h1; exact ⟨rfl, rfl, by omega⟩

theorem lt_small (u : Nat) (n : nanB u = false) : (FloatKind.f64.format.order (rung u) 4503599627370496 == some Ordering.lt) = decide (rung u < 4503599627370496) := by
  have h := order_lt (rung u) 4503599627370496
  have k1 : skey (rung u) = (rung u : Int) := by rw [skey_pos (sgn_rung u), rung_rung]
  have k2 : skey 4503599627370496 = 4503599627370496 := by decide
  have n2 : nanB 4503599627370496 = false := by decide
  rw [k1, k2, n2, nan_rung, n] at h
  refine h.trans ?_
  refine decide_eq_decide.2 ?_
  constructor
  · rintro ⟨_, _, h3⟩; omega
  · intro h1; exact ⟨rfl, rfl, by omega⟩

theorem class_any (u : Nat) (hu : u < 18446744073709551616) (w : World) : Calls Tryz.prog 13 #[.float .f64 u] w fun e w' => e = .returned (.int .i64 (classV u)) ∧ w' = w := by
  cases n : nanB u
  · have h1 := eq_zero' u n
    have h2 := lt_small u n
    cases i : infB u
    · cases z : zeroB u
      · rw [z] at h1
        by_cases l : rung u < 4503599627370496
        · rw [decide_eq_true l] at h2
          have hc : Hid (classV u = 3) := by refine hide ?_; unfold classV; rw [n, i, z, if_neg (by simp), if_neg (by simp), if_neg (by simp), if_pos l]
          clear l
          go_enter Tryz.func13, Tryz.ntmps13
          go_wp2_with (first
            | (go_at_call 16; refine (mAbs_any _ hu _).mono ?_; rintro e w' ⟨rfl, rfl⟩)
            | (go_at_call 31; refine (mIsNaN_any _ _).mono ?_; rintro e w' ⟨rfl, rfl⟩)
            | (go_at_call 32; refine (mIsInf_any _ hu _).mono ?_; rintro e w' ⟨rfl, rfl⟩))
          go_ret
          exact ⟨ret_int hc.out.symm, rfl⟩
        · rw [decide_eq_false l] at h2
          have hc : Hid (classV u = 4) := by refine hide ?_; unfold classV; rw [n, i, z, if_neg (by simp), if_neg (by simp), if_neg (by simp), if_neg l]
          clear l
          go_enter Tryz.func13, Tryz.ntmps13
          go_wp2_with (first
            | (go_at_call 16; refine (mAbs_any _ hu _).mono ?_; rintro e w' ⟨rfl, rfl⟩)
            | (go_at_call 31; refine (mIsNaN_any _ _).mono ?_; rintro e w' ⟨rfl, rfl⟩)
            | (go_at_call 32; refine (mIsInf_any _ hu _).mono ?_; rintro e w' ⟨rfl, rfl⟩))
          go_ret
          exact ⟨ret_int hc.out.symm, rfl⟩
      · rw [z] at h1
        have hc : Hid (classV u = 2) := by refine hide ?_; unfold classV; rw [n, i, z, if_neg (by simp), if_neg (by simp), if_pos rfl]
        clear h2
        go_enter Tryz.func13, Tryz.ntmps13
        go_wp2_with (first
          | (go_at_call 16; refine (mAbs_any _ hu _).mono ?_; rintro e w' ⟨rfl, rfl⟩)
          | (go_at_call 31; refine (mIsNaN_any _ _).mono ?_; rintro e w' ⟨rfl, rfl⟩)
          | (go_at_call 32; refine (mIsInf_any _ hu _).mono ?_; rintro e w' ⟨rfl, rfl⟩))
        go_ret
        exact ⟨ret_int hc.out.symm, rfl⟩
    · have hc : Hid (classV u = 1) := by refine hide ?_; unfold classV; rw [n, i, if_neg (by simp), if_pos rfl]
      clear h1 h2
      go_enter Tryz.func13, Tryz.ntmps13
      go_wp2_with (first
        | (go_at_call 16; refine (mAbs_any _ hu _).mono ?_; rintro e w' ⟨rfl, rfl⟩)
        | (go_at_call 31; refine (mIsNaN_any _ _).mono ?_; rintro e w' ⟨rfl, rfl⟩)
        | (go_at_call 32; refine (mIsInf_any _ hu _).mono ?_; rintro e w' ⟨rfl, rfl⟩))
      go_ret
      exact ⟨ret_int hc.out.symm, rfl⟩
  · have hc : Hid (classV u = 0) := by refine hide ?_; unfold classV; rw [n, if_pos rfl]
    go_enter Tryz.func13, Tryz.ntmps13
    go_wp2_with (first
      | (go_at_call 16; refine (mAbs_any _ hu _).mono ?_; rintro e w' ⟨rfl, rfl⟩)
      | (go_at_call 31; refine (mIsNaN_any _ _).mono ?_; rintro e w' ⟨rfl, rfl⟩))
    go_ret
    exact ⟨ret_int hc.out.symm, rfl⟩
end Go.Proofs.YtbengmceiaejeaaGreatDoor
/- From reals to whole numbers: plain facts on words. -/
namespace Go.Proofs.YtbengmceiaejeaaGreatDoor
open Ieee

theorem amt_of (q m : Nat) (h1 : 4503599627370496 ≤ m) (h2 : m < 9007199254740992) : amt (q * 4503599627370496 + m) = m * 2 ^ q := by
  unfold amt
  rw [if_neg (by omega)]
  have e1 : (q * 4503599627370496 + m) / 4503599627370496 - 1 = q := by omega
  have e2 : 4503599627370496 + (q * 4503599627370496 + m) % 4503599627370496 = m := by omega
  rw [e1, e2]

theorem amt_small {r : Nat} (h : r < 4503599627370496) : amt r = r := by unfold amt; rw [if_pos h]

/-- Every rung from 2^52 on is such. -/
theorem rung_form {r : Nat} (h : 4503599627370496 ≤ r) : ∃ q m, r = q * 4503599627370496 + m ∧ 4503599627370496 ≤ m ∧ m < 9007199254740992 :=
  ⟨r / 4503599627370496 - 1, 4503599627370496 + r % 4503599627370496, by omega, by omega, by omega⟩

theorem log2_iff {n k : Nat} (h1 : 2 ^ k ≤ n) (h2 : n < 2 ^ (k + 1)) : n.log2 = k := by
  have hn : n ≠ 0 := by have := Nat.two_pow_pos k; omega
  exact (Nat.log2_eq_iff hn).2 ⟨h1, h2⟩

theorem log2_lo {n : Nat} (h : n ≠ 0) : 2 ^ n.log2 ≤ n := ((Nat.log2_eq_iff h).1 rfl).1
theorem log2_hi {n : Nat} (h : n ≠ 0) : n < 2 ^ (n.log2 + 1) := ((Nat.log2_eq_iff h).1 rfl).2

theorem log2_mul_pow {n : Nat} (h : n ≠ 0) (k : Nat) : (n * 2 ^ k).log2 = n.log2 + k := by
  refine log2_iff ?_ ?_
  · rw [Nat.pow_add]; exact Nat.mul_le_mul_right _ (log2_lo h)
  · rw [show n.log2 + k + 1 = (n.log2 + 1) + k by omega, Nat.pow_add]
    exact Nat.mul_lt_mul_of_pos_right (log2_hi h) (Nat.two_pow_pos k)

/-- What a cut says, its gap taken whole. -/
def moreW (way : Toward) (neg : Bool) (low rest gap : Nat) : Bool :=
  match way with
  | .even => decide (gap < 2 * rest) || (gap == 2 * rest && low % 2 == 1)
  | .down => neg && rest != 0
  | .up => !neg && rest != 0
  | .zero => false

theorem cut_whole (way : Toward) (neg : Bool) (n d : Nat) : way.cut neg n d = n / 2 ^ d + (moreW way neg (n / 2 ^ d) (n % 2 ^ d) (2 ^ d)).toNat := by
  by_cases hd : d ≤ n.log2 + 2
  · have e : min d (n.log2 + 2) = d := by omega
    unfold Toward.cut moreW
    simp only [e, Nat.one_shiftLeft]
    cases way <;> rfl
  · have e : min d (n.log2 + 2) = n.log2 + 2 := by omega
    have hn : n < 2 ^ (n.log2 + 1) := by
      by_cases h0 : n = 0
      · subst h0; exact Nat.two_pow_pos _
      · exact log2_hi h0
    have h1 : 2 ^ (n.log2 + 2) = 2 * 2 ^ (n.log2 + 1) := by rw [Nat.pow_succ]; omega
    have h2 : 2 ^ (n.log2 + 2) ≤ 2 ^ d := Nat.pow_le_pow_right (by decide) (by omega)
    have a1 : n / 2 ^ (n.log2 + 2) = 0 := Nat.div_eq_of_lt (by omega)
    have a2 : n % 2 ^ (n.log2 + 2) = n := Nat.mod_eq_of_lt (by omega)
    have b1 : n / 2 ^ d = 0 := Nat.div_eq_of_lt (by omega)
    have b2 : n % 2 ^ d = n := Nat.mod_eq_of_lt (by omega)
    unfold Toward.cut moreW
    simp only [e, Nat.one_shiftLeft, a1, a2, b1, b2]
    have c1 : decide (2 ^ (n.log2 + 2) < 2 * n) = false := decide_eq_false (by omega)
    have c2 : decide (2 ^ d < 2 * n) = false := decide_eq_false (by omega)
    cases way
    · simp only [c1, c2]
      have c3 : (2 ^ (n.log2 + 2) == 2 * n) = false := by simp; omega
      have c4 : (2 ^ d == 2 * n) = false := by simp; omega
      rw [c3, c4]
    · rfl
    · rfl
    · rfl

theorem cut_zero (way : Toward) (neg : Bool) (n : Nat) : way.cut neg n 0 = n := by
  rw [cut_whole]
  simp only [Nat.pow_zero, Nat.div_one, Nat.mod_one]
  cases way <;> simp [moreW]

theorem cut_mul (way : Toward) (neg : Bool) (m d : Nat) : way.cut neg (m * 2 ^ d) d = m := by
  have p := Nat.two_pow_pos d
  rw [cut_whole, Nat.mul_div_cancel _ p, Nat.mul_mod_left]
  cases way <;> simp [moreW]

/-- The nearest word's rung, its place spelt out. -/
theorem near_form (mag : Nat) (h : mag ≠ 0) (place : Int) : nearR mag place = min ((max (place + mag.log2 - 52) (-1074) + 1074).toNat * 4503599627370496 + Toward.even.cut false (mag <<< (place - max (place + mag.log2 - 52) (-1074)).toNat) (max (place + mag.log2 - 52) (-1074) - place).toNat) 9218868437227405312 := by
  unfold nearR Format.nearest
  rw [if_neg h, word_false, infW, binadeW, leastW]
  have e : (max (place + ↑mag.log2 - (double.fractionBits : Int)) (-1074) - -1074) = max (place + ↑mag.log2 - 52) (-1074) + 1074 := by
    show (max (place + ↑mag.log2 - (52 : Int)) (-1074) - -1074) = _
    omega
  simp only [e]
  rfl

theorem near_exact_small {mag k r : Nat} (h0 : mag ≠ 0) (hs : r < 4503599627370496) (h : mag * 2 ^ k = r) : nearR mag (-1074 + (k : Nat)) = r := by
  rw [near_form mag h0]
  have hl := log2_mul_pow h0 k
  rw [h] at hl
  have hr0 : r ≠ 0 := by
    intro e
    rw [e] at h
    have := Nat.two_pow_pos k
    rcases Nat.mul_eq_zero.1 h with h | h <;> omega
  have h52 : r.log2 < 52 := (Nat.log2_lt hr0).2 (Nat.lt_of_lt_of_le hs (by decide))
  have e1 : max (-1074 + (k : Int) + mag.log2 - 52) (-1074) = -1074 := by omega
  rw [e1]
  have e2 : (-1074 + (k : Int) - -1074).toNat = k := by omega
  have e3 : (-1074 - (-1074 + (k : Int))).toNat = 0 := by omega
  have e4 : (-1074 + 1074 : Int).toNat = 0 := by decide
  rw [e2, e3, e4, Nat.shiftLeft_eq, h, cut_zero, Nat.zero_mul, Nat.zero_add]
  exact Nat.min_eq_left (by omega)

theorem near_exact_great {mag k q m : Nat} (h0 : mag ≠ 0) (m1 : 4503599627370496 ≤ m) (m2 : m < 9007199254740992) (hr : q * 4503599627370496 + m < 9218868437227405312) (h : mag * 2 ^ k = m * 2 ^ q) : nearR mag (-1074 + (k : Nat)) = q * 4503599627370496 + m := by
  rw [near_form mag h0]
  have hl := log2_mul_pow h0 k
  rw [h] at hl
  have hm0 : m ≠ 0 := by omega
  have hm : m.log2 = 52 := log2_iff (Nat.le_trans (by decide) m1) (Nat.lt_of_lt_of_le m2 (by decide))
  rw [log2_mul_pow hm0, hm] at hl
  have e1 : max (-1074 + (k : Int) + mag.log2 - 52) (-1074) = -1074 + (q : Int) := by omega
  rw [e1]
  have e4 : (-1074 + (q : Int) + 1074).toNat = q := by omega
  rw [e4]
  rcases Nat.le_total q k with hqk | hqk
  · have e2 : (-1074 + (k : Int) - (-1074 + (q : Int))).toNat = k - q := by omega
    have e3 : (-1074 + (q : Int) - (-1074 + (k : Int))).toNat = 0 := by omega
    have : mag * 2 ^ (k - q) = m := by
      have e5 : 2 ^ k = 2 ^ (k - q) * 2 ^ q := by rw [← Nat.pow_add, Nat.sub_add_cancel hqk]
      rw [e5, ← Nat.mul_assoc] at h
      exact Nat.eq_of_mul_eq_mul_right (Nat.two_pow_pos q) h
    rw [e2, e3, Nat.shiftLeft_eq, cut_zero, this]
    exact Nat.min_eq_left (by omega)
  · have e2 : (-1074 + (k : Int) - (-1074 + (q : Int))).toNat = 0 := by omega
    have e3 : (-1074 + (q : Int) - (-1074 + (k : Int))).toNat = q - k := by omega
    have : mag = m * 2 ^ (q - k) := by
      have e5 : 2 ^ q = 2 ^ (q - k) * 2 ^ k := by rw [← Nat.pow_add, Nat.sub_add_cancel hqk]
      rw [e5, ← Nat.mul_assoc] at h
      exact Nat.eq_of_mul_eq_mul_right (Nat.two_pow_pos k) h
    rw [e2, e3, Nat.shiftLeft_zero, this, cut_mul]
    exact Nat.min_eq_left (by omega)

/-- A number that is a word's has that word. -/
theorem near_exact {mag k r : Nat} (hr : r < 9218868437227405312) (h : mag * 2 ^ k = amt r) : nearR mag (-1074 + (k : Nat)) = r := by
  by_cases h0 : mag = 0
  · rw [h0, Nat.zero_mul] at h
    have : r = 0 := amt_inj (by rw [← h, amt_zero])
    rw [h0, nearR_zero, this]
  · rcases Nat.lt_or_ge r 4503599627370496 with hs | hb
    · rw [amt_small hs] at h
      exact near_exact_small h0 hs h
    · obtain ⟨q, m, rfl, m1, m2⟩ := rung_form hb
      rw [amt_of q m m1 m2] at h
      exact near_exact_great h0 m1 m2 hr h

/-- One, in units of 2^-1074: 2 to this power. -/
def E0 : Nat := 1074
theorem E0_eq : E0 = 1074 := rfl
def EE : Nat := 2 ^ E0
theorem EE_eq {a b : Nat} (h : a + b = E0) : EE = 2 ^ a * 2 ^ b := by unfold EE; rw [← Nat.pow_add, h]
theorem EE_more {a b : Nat} (h : a = b + E0) : 2 ^ a = 2 ^ b * EE := by unfold EE; rw [← Nat.pow_add, h]
theorem EE_pos : 0 < EE := Nat.two_pow_pos _

/-- A whole number up to 2^53 is a word's. -/
theorem whole_word {n : Nat} (h : n ≤ 9007199254740992) : ∃ r, r < 9218868437227405312 ∧ amt r = n * EE := by
  by_cases h0 : n = 0
  · exact ⟨0, by omega, by rw [h0, Nat.zero_mul, amt_zero]⟩
  · by_cases h1 : n = 9007199254740992
    · obtain ⟨q, hq⟩ : ∃ q, q = 1 + E0 := ⟨_, rfl⟩
      refine ⟨q * 4503599627370496 + 4503599627370496, by rw [hq, E0_eq]; omega, ?_⟩
      rw [amt_of _ _ (by omega) (by omega), h1, EE_more hq, ← Nat.mul_assoc]
    · have hl : n.log2 ≤ 52 := Nat.lt_succ_iff.1 ((Nat.log2_lt h0).2 (Nat.lt_of_lt_of_le (Nat.lt_of_le_of_ne h h1) (by decide)))
      have hlo := log2_lo h0
      have hhi := log2_hi h0
      have p := Nat.two_pow_pos (52 - n.log2)
      have a1 : 2 ^ n.log2 * 2 ^ (52 - n.log2) = 4503599627370496 := by
        rw [← Nat.pow_add, show n.log2 + (52 - n.log2) = 52 by omega]
      have a2 : 2 ^ (n.log2 + 1) * 2 ^ (52 - n.log2) = 9007199254740992 := by
        rw [← Nat.pow_add, show n.log2 + 1 + (52 - n.log2) = 53 by omega]
      have m1 : 4503599627370496 ≤ n * 2 ^ (52 - n.log2) := by rw [← a1]; exact Nat.mul_le_mul_right _ hlo
      have m2 : n * 2 ^ (52 - n.log2) < 9007199254740992 := by rw [← a2]; exact Nat.mul_lt_mul_of_pos_right hhi p
      have e := EE_eq (a := 52 - n.log2) (b := 1022 + n.log2) (by rw [E0_eq]; omega)
      obtain ⟨mm, em⟩ : ∃ z, n * 2 ^ (52 - n.log2) = z := ⟨_, rfl⟩
      rw [em] at m1 m2
      refine ⟨(1022 + n.log2) * 4503599627370496 + mm, by omega, ?_⟩
      rw [amt_of _ _ m1 m2, ← em, Nat.mul_assoc, ← e]

/-- What is left of a real's amount over whole numbers: the whole part, the rest. -/
def aU (u : Nat) : Nat := amt (rung u) / EE
def pU (u : Nat) : Nat := amt (rung u) % EE
theorem amt_parts (u : Nat) : amt (rung u) = aU u * EE + pU u := by
  unfold aU pU; rw [Nat.mul_comm]; exact (Nat.div_add_mod _ _).symm
theorem pU_lt (u : Nat) : pU u < EE := Nat.mod_lt _ EE_pos

/-- The whole number's amount, and itself. -/
def nW (way : Toward) (u : Nat) : Nat := aU u + (moreW way (sgnB u) (aU u) (pU u) EE).toNat
def vW (way : Toward) (u : Nat) : Int := if sgnB u then -(nW way u : Int) else nW way u

theorem cut_amt (way : Toward) (neg : Bool) (m k : Nat) : way.cut neg (m <<< (k - E0)) (E0 - k) = m * 2 ^ k / EE + (moreW way neg (m * 2 ^ k / EE) (m * 2 ^ k % EE) EE).toNat := by
  rcases Nat.le_total E0 k with h | h
  · have e : E0 - k = 0 := by omega
    rw [e, cut_zero, Nat.shiftLeft_eq]
    have e2 : 2 ^ k = 2 ^ (k - E0) * EE := EE_more (by omega)
    rw [e2, ← Nat.mul_assoc, Nat.mul_div_cancel _ EE_pos, Nat.mul_mod_left]
    cases way
    · have : ¬ EE < 2 * 0 := by omega
      have h3 : (EE == 2 * 0) = false := by have := EE_pos; simp; omega
      simp only [moreW, decide_eq_false this, h3, Bool.false_or, Bool.false_and, Bool.toNat_false, Nat.add_zero]
    · simp [moreW]
    · simp [moreW]
    · simp [moreW]
  · have e : k - E0 = 0 := by omega
    have e2 : EE = 2 ^ (E0 - k) * 2 ^ k := EE_eq (by omega)
    have p := Nat.two_pow_pos k
    rw [e, Nat.shiftLeft_zero, cut_whole]
    have d1 : m * 2 ^ k / EE = m / 2 ^ (E0 - k) := by rw [e2, Nat.mul_div_mul_right _ _ p]
    have d2 : m * 2 ^ k % EE = m % 2 ^ (E0 - k) * 2 ^ k := by rw [e2, Nat.mul_mod_mul_right]
    rw [d1, d2]
    obtain ⟨g, eg⟩ : ∃ g, 2 ^ (E0 - k) = g := ⟨_, rfl⟩
    obtain ⟨P, eP⟩ : ∃ P, 2 ^ k = P := ⟨_, rfl⟩
    rw [eg, eP] at e2
    rw [eg, eP]
    rw [eP] at p
    obtain ⟨r, er⟩ : ∃ r, m % g = r := ⟨_, rfl⟩
    obtain ⟨F, eF⟩ : ∃ F, EE = F := ⟨_, rfl⟩
    rw [er, eF]
    rw [eF] at e2
    have key : moreW way neg (m / g) r g = moreW way neg (m / g) (r * P) F := by
      have z : (r != 0) = (r * P != 0) := by
        by_cases hr : r = 0
        · rw [hr, Nat.zero_mul]
        · have : r * P ≠ 0 := Nat.mul_ne_zero hr (by omega)
          rw [bne_iff_ne.2 hr, bne_iff_ne.2 this]
      cases way
      · simp only [moreW]
        have c1 : decide (g < 2 * r) = decide (F < 2 * (r * P)) := by
          refine decide_eq_decide.2 ?_
          rw [e2, ← Nat.mul_assoc]
          exact ⟨fun h => Nat.mul_lt_mul_of_pos_right h p, fun h => Nat.lt_of_mul_lt_mul_right h⟩
        have c2 : (g == 2 * r) = (F == 2 * (r * P)) := by
          rw [e2, ← Nat.mul_assoc]
          by_cases hg : g = 2 * r
          · rw [hg, beq_self_eq_true, beq_self_eq_true]
          · have : ¬ g * P = 2 * r * P := fun h => hg (Nat.eq_of_mul_eq_mul_right p h)
            rw [beq_eq_false_iff_ne.2 hg, beq_eq_false_iff_ne.2 this]
        rw [c1, c2]
      · simp only [moreW]; rw [z]
      · simp only [moreW]; rw [z]
      · rfl
    rw [key]

/-- A finite real made whole, as a number. -/
theorem integral_fin {u : Nat} (way : Toward) (h : rung u < 9218868437227405312) : (double.read u).integral way = .number (sgnB u) (nW way u) 0 := by
  obtain ⟨m, k, e, am, _, _, _⟩ := read_fin h
  rw [e]
  simp only [Datum.integral]
  have e1 : (-1074 + (k : Int)).toNat = k - E0 := by rw [E0_eq]; omega
  have e2 : (-(-1074 + (k : Int))).toNat = E0 - k := by rw [E0_eq]; omega
  rw [e1, e2, cut_amt, am]
  rfl

/-- A whole part with a rest is below 2^53; so what comes of it is a word's. -/
theorem int_word {u : Nat} (way : Toward) (h : rung u < 9218868437227405312) : ∃ r, r < 9218868437227405312 ∧ amt r = nW way u * EE := by
  by_cases hp : pU u = 0
  · have hn : nW way u = aU u := by
      unfold nW
      rw [hp]
      cases way
      · have : ¬ EE < 2 * 0 := by omega
        have h3 : (EE == 2 * 0) = false := by have := EE_pos; simp; omega
        simp only [moreW, decide_eq_false this, h3, Bool.false_or, Bool.false_and, Bool.toNat_false, Nat.add_zero]
      · simp [moreW]
      · simp [moreW]
      · simp [moreW]
    refine ⟨rung u, h, ?_⟩
    rw [hn, amt_parts, hp, Nat.add_zero]
  · obtain ⟨m, k, e, am, _, hm, _⟩ := read_fin h
    refine whole_word ?_
    have ha : aU u < 9007199254740992 := by
      unfold aU
      rw [← am]
      refine Nat.lt_of_le_of_lt ?_ hm
      have hk : k < E0 := by
        rcases Nat.lt_or_ge k E0 with h1 | h1
        · exact h1
        · exfalso
          apply hp
          unfold pU
          rw [← am, EE_more (show k = (k - E0) + E0 by omega), ← Nat.mul_assoc, Nat.mul_mod_left]
      have e2 : EE = 2 ^ (E0 - k) * 2 ^ k := EE_eq (by omega)
      rw [e2, Nat.mul_div_mul_right _ _ (Nat.two_pow_pos k)]
      exact Nat.div_le_self _ _
    unfold nW
    cases moreW way (sgnB u) (aU u) (pU u) EE <;> simp only [Bool.toNat_true, Bool.toNat_false] <;> omega

/-- The word of a whole number, if it is one's. -/
theorem near_whole {n r : Nat} (hr : r < 9218868437227405312) (h : amt r = n * EE) : nearR n 0 = r := by
  have := near_exact (mag := n) (k := E0) hr h.symm
  rw [E0_eq] at this
  exact this

theorem sval_wordD {s : Bool} {r n : Nat} (hr : r < 9218868437227405312) (h : amt r = n * EE) : sval (wordD s r) = (if s then -(n : Int) else n) * (EE : Int) := by
  unfold sval
  rw [sgn_wordD (by omega), rung_wordD (by omega), h]
  cases s <;> simp [Int.neg_mul]

theorem sval_vW {way : Toward} {u r : Nat} (hr : r < 9218868437227405312) (h : amt r = nW way u * EE) : sval (wordD (sgnB u) r) = vW way u * (EE : Int) := by
  rw [sval_wordD hr h]; rfl
end Go.Proofs.YtbengmceiaejeaaGreatDoor
