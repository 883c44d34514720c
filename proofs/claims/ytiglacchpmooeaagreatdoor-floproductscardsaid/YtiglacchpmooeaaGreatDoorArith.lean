/- Sums, differences, products and quotients: what the four operations answer; that order plays no part. -/
import Derived.Test.YtiglacchpmooeaaGreatDoorBits
import Derived.Test.YtiglacchpmooeaaGreatDoorCmp
namespace Go.Proofs.YtiglacchpmooeaaGreatDoor
open Go.ChangeShapes Go.WideShapes Go.ChangeAt Go.RowKit
open Ieee

/-- The rung of the nearest word. -/
def nearR (mag : Nat) (place : Int) : Nat := double.nearest false mag place

/-- A word of a sign and a rung. -/
def wordD (neg : Bool) (r : Nat) : Nat := if neg then 9223372036854775808 + r else r

theorem wordD_lt {neg : Bool} {r : Nat} (h : r ≤ 9218868437227405312) : wordD neg r < 18446744073709551616 := by
  unfold wordD; split <;> omega
theorem rung_wordD {neg : Bool} {r : Nat} (h : r ≤ 9218868437227405312) : rung (wordD neg r) = r := by
  unfold wordD rung; split <;> omega
theorem sgn_wordD {neg : Bool} {r : Nat} (h : r ≤ 9218868437227405312) : sgnB (wordD neg r) = neg := by
  unfold wordD sgnB
  cases neg
  · have : r / 9223372036854775808 = 0 := by omega
    simp [this]
  · have : (9223372036854775808 + r) / 9223372036854775808 = 1 := by omega
    simp [this]
theorem nan_wordD {neg : Bool} {r : Nat} (h : r ≤ 9218868437227405312) : nanB (wordD neg r) = false := by
  unfold nanB
  rw [rung_wordD h]
  exact decide_eq_false (by omega)
theorem flip_wordD {neg : Bool} {r : Nat} (h : r ≤ 9218868437227405312) : flip (wordD neg r) = wordD (!neg) r := by
  unfold flip
  rw [sgn_wordD h]
  cases neg <;> simp [wordD]; omega

theorem word_false (r : Nat) : double.word false r = r := by unfold Format.word; rw [if_neg (by simp)]
theorem word_true (r : Nat) : double.word true r = 9223372036854775808 + r := by unfold Format.word; rw [if_pos rfl, signW]

theorem nearR_le (mag : Nat) (place : Int) : nearR mag place ≤ 9218868437227405312 := by
  unfold nearR Format.nearest
  rw [infW]
  split
  · rw [word_false]; omega
  · rw [word_false]
    exact Nat.min_le_right _ _

theorem cut_even (neg : Bool) (n d : Nat) : Toward.even.cut neg n d = Toward.even.cut false n d := rfl

theorem nearest_eq (neg : Bool) (mag : Nat) (place : Int) : double.nearest neg mag place = wordD neg (nearR mag place) := by
  unfold wordD nearR
  cases neg
  · rw [if_neg (by simp)]
  · rw [if_pos rfl]
    unfold Format.nearest
    split
    · rw [word_true, word_false]
    · rw [word_true, word_false, cut_even]

theorem write_number (neg : Bool) (mag : Nat) (place : Int) : double.write (.number neg mag place) = wordD neg (nearR mag place) := nearest_eq neg mag place
theorem write_infinity (neg : Bool) : double.write (.infinity neg) = wordD neg 9218868437227405312 := by
  show double.word neg double.infRung = _
  rw [infW]
  cases neg
  · rw [word_false]; rfl
  · rw [word_true]; rfl
theorem nearR_zero (place : Int) : nearR 0 place = 0 := by
  unfold nearR Format.nearest
  rw [if_pos rfl, word_false]

/-- What an operation that may have no answer answers: that word; else some NaN. -/
def IsRes (o : Option Nat) (r : Nat) : Prop := (o = some r ∧ r < 18446744073709551616) ∨ (o = none ∧ nanB r = true ∧ r < 18446744073709551616)

theorem IsRes.lt {o : Option Nat} {r : Nat} (h : IsRes o r) : r < 18446744073709551616 := by
  rcases h with ⟨_, h⟩ | ⟨_, _, h⟩ <;> exact h
theorem IsRes.same {o : Option Nat} {r s : Nat} (h : IsRes o r) (k : IsRes o s) : canon r = canon s := by
  rcases h with ⟨e, _⟩ | ⟨e, n, _⟩ <;> rcases k with ⟨e', _⟩ | ⟨e', n', _⟩
  · rw [e] at e'; cases e'; rfl
  · rw [e] at e'; cases e'
  · rw [e] at e'; cases e'
  · unfold canon; rw [n, n']; rfl

/-- The bits of a NaN that the tape names. -/
def nanOf (w : World) (x y : Nat) : Nat := (Question.nanBits .f64 x y).cut (w.tape w.drawn (.nanBits .f64 x y))

theorem nan_cut (t : Nat) : nanB ((t % 2) * 9223372036854775808 + 9218868437227405312 + 1 + (t / 2) % 4503599627370495) = true ∧ (t % 2) * 9223372036854775808 + 9218868437227405312 + 1 + (t / 2) % 4503599627370495 < 18446744073709551616 := by
  refine ⟨decide_eq_true ?_, by omega⟩
  unfold rung
  have h : t % 2 = 0 ∨ t % 2 = 1 := by omega
  have h2 : (t / 2) % 4503599627370495 < 4503599627370495 := Nat.mod_lt _ (by decide)
  obtain ⟨k, ek⟩ : ∃ k, (t / 2) % 4503599627370495 = k := ⟨_, rfl⟩
  rw [ek] at h2 ⊢
  rcases h with h | h <;> rw [h] <;> omega

theorem nanOf_nan (w : World) (x y : Nat) : nanB (nanOf w x y) = true ∧ nanOf w x y < 18446744073709551616 := nan_cut (w.tape w.drawn (.nanBits .f64 x y))

theorem run_nan {op : BinOp} (hop : op = .add ∨ op = .sub ∨ op = .mul ∨ op = .quo) (t : TypeId) (x y : Nat) (h : floatBits op .f64 x y = none) (w : World) :
    (binOp op t (.float .f64 x) (.float .f64 y)).run Tryz.prog w = .ok (.float .f64 (nanOf w x y)) w.drew := by
  rcases hop with rfl | rfl | rfl | rfl
  all_goals
    simp only [floatBits] at h
    simp [binOp, Op.floatArith, h, Question.forced]
    rfl

theorem add_any (x y : Nat) (w : World) : Calls Tryz.prog 8 #[.float .f64 x, .float .f64 y] w fun e w' => ∃ r, e = .returned (.float .f64 r) ∧ IsRes (double.add x y) r ∧ Below w.heap.size w w' := by
  cases h : double.add x y with
  | none =>
    have hN := fun t => run_nan (op := .add) (by simp) t x y h
    have hn := nanOf_nan w x y
    go_enter Tryz.func8, Tryz.ntmps8
    go_wp2
    go_ret
    exact ⟨_, rfl, Or.inr ⟨rfl, hn⟩, (Below.refl _ _).drew⟩
  | some r =>
    have hR := fun (t : TypeId) (w : World) => run_float_arith (P := Tryz.prog) w .add t .f64 x y r h
    have hl : Hid (r < 18446744073709551616) := double.add_lt h
    go_enter Tryz.func8, Tryz.ntmps8
    go_wp2
    go_ret
    exact ⟨_, rfl, Or.inl ⟨rfl, hl.out⟩, Below.refl _ _⟩

theorem sub_any (x y : Nat) (w : World) : Calls Tryz.prog 10 #[.float .f64 x, .float .f64 y] w fun e w' => ∃ r, e = .returned (.float .f64 r) ∧ IsRes (double.sub x y) r ∧ Below w.heap.size w w' := by
  cases h : double.sub x y with
  | none =>
    have hN := fun t => run_nan (op := .sub) (by simp) t x y h
    have hn := nanOf_nan w x y
    go_enter Tryz.func10, Tryz.ntmps10
    go_wp2
    go_ret
    exact ⟨_, rfl, Or.inr ⟨rfl, hn⟩, (Below.refl _ _).drew⟩
  | some r =>
    have hR := fun (t : TypeId) (w : World) => run_float_arith (P := Tryz.prog) w .sub t .f64 x y r h
    have hl : Hid (r < 18446744073709551616) := double.sub_lt h
    go_enter Tryz.func10, Tryz.ntmps10
    go_wp2
    go_ret
    exact ⟨_, rfl, Or.inl ⟨rfl, hl.out⟩, Below.refl _ _⟩

theorem mul_any (x y : Nat) (w : World) : Calls Tryz.prog 13 #[.float .f64 x, .float .f64 y] w fun e w' => ∃ r, e = .returned (.float .f64 r) ∧ IsRes (double.mul x y) r ∧ Below w.heap.size w w' := by
  cases h : double.mul x y with
  | none =>
    have hN := fun t => run_nan (op := .mul) (by simp) t x y h
    have hn := nanOf_nan w x y
    go_enter Tryz.func13, Tryz.ntmps13
    go_wp2
    go_ret
    exact ⟨_, rfl, Or.inr ⟨rfl, hn⟩, (Below.refl _ _).drew⟩
  | some r =>
    have hR := fun (t : TypeId) (w : World) => run_float_arith (P := Tryz.prog) w .mul t .f64 x y r h
    have hl : Hid (r < 18446744073709551616) := double.mul_lt h
    go_enter Tryz.func13, Tryz.ntmps13
    go_wp2
    go_ret
    exact ⟨_, rfl, Or.inl ⟨rfl, hl.out⟩, Below.refl _ _⟩

theorem div_any (x y : Nat) (w : World) : Calls Tryz.prog 15 #[.float .f64 x, .float .f64 y] w fun e w' => ∃ r, e = .returned (.float .f64 r) ∧ IsRes (double.div x y) r ∧ Below w.heap.size w w' := by
  cases h : double.div x y with
  | none =>
    have hN := fun t => run_nan (op := .quo) (by simp) t x y h
    have hn := nanOf_nan w x y
    go_enter Tryz.func15, Tryz.ntmps15
    go_wp2
    go_ret
    exact ⟨_, rfl, Or.inr ⟨rfl, hn⟩, (Below.refl _ _).drew⟩
  | some r =>
    have hR := fun (t : TypeId) (w : World) => run_float_arith (P := Tryz.prog) w .quo t .f64 x y r h
    have hl : Hid (r < 18446744073709551616) := double.div_lt h
    go_enter Tryz.func15, Tryz.ntmps15
    go_wp2
    go_ret
    exact ⟨_, rfl, Or.inl ⟨rfl, hl.out⟩, Below.refl _ _⟩

/-! Order plays no part. -/

theorem sum_comm (a b : Datum) : a.sum b = b.sum a := by
  cases a with
  | nan s t => cases b <;> rfl
  | infinity s =>
    cases b with
    | nan t u => rfl
    | infinity t => simp only [Datum.sum]; cases s <;> cases t <;> rfl
    | number t n j => rfl
  | number s m i =>
    cases b with
    | nan t u => rfl
    | infinity t => rfl
    | number t n j =>
      simp only [Datum.sum]
      rw [Int.min_comm i j, Int.add_comm, Bool.and_comm]

theorem product_comm (a b : Datum) : a.product b = b.product a := by
  cases a with
  | nan s t => cases b <;> rfl
  | infinity s =>
    cases b with
    | nan t u => rfl
    | infinity t => simp only [Datum.product]; rw [Bool.xor_comm]
    | number t n j => rfl
  | number s m i =>
    cases b with
    | nan t u => rfl
    | infinity t => rfl
    | number t n j =>
      simp only [Datum.product]
      rw [Nat.mul_comm, Int.add_comm, Bool.xor_comm]

theorem add_comm' (x y : Nat) : double.add x y = double.add y x := by unfold Format.add; rw [sum_comm]
theorem mul_comm' (x y : Nat) : double.mul x y = double.mul y x := by unfold Format.mul; rw [product_comm]

theorem signed_not (s : Bool) (m k : Nat) : signed (!s) m k = -signed s m k := by
  unfold signed; cases s <;> simp

/-- A difference turned round: no answer; the sign turned; or two zeros. -/
theorem sub_turn (x y : Nat) : (double.sub x y = none ∧ double.sub y x = none) ∨ (∃ neg r, r ≤ 9218868437227405312 ∧ double.sub x y = some (wordD neg r) ∧ double.sub y x = some (wordD (!neg) r)) ∨ (∃ s t, double.sub x y = some (wordD s 0) ∧ double.sub y x = some (wordD t 0)) := by
  unfold Format.sub
  cases double.read x with
  | nan s t => left; exact ⟨rfl, by cases double.read y <;> rfl⟩
  | infinity s =>
    cases double.read y with
    | nan t u => left; exact ⟨rfl, rfl⟩
    | infinity t =>
      simp only [Datum.sum, Datum.opposite]
      cases s <;> cases t
      · left; exact ⟨rfl, rfl⟩
      · right; left; exact ⟨false, 9218868437227405312, Nat.le_refl _, congrArg some (write_infinity false), congrArg some (write_infinity true)⟩
      · right; left; exact ⟨true, 9218868437227405312, Nat.le_refl _, congrArg some (write_infinity true), congrArg some (write_infinity false)⟩
      · left; exact ⟨rfl, rfl⟩
    | number t n j =>
      right; left
      refine ⟨s, 9218868437227405312, Nat.le_refl _, ?_, ?_⟩
      · simp only [Datum.sum, Datum.opposite, Option.map_some, write_infinity]
      · simp only [Datum.sum, Datum.opposite, Option.map_some, write_infinity]
  | number s m i =>
    cases double.read y with
    | nan t u => left; exact ⟨rfl, rfl⟩
    | infinity t =>
      right; left
      refine ⟨!t, 9218868437227405312, Nat.le_refl _, ?_, ?_⟩
      · simp only [Datum.sum, Datum.opposite, Option.map_some, write_infinity]
      · simp only [Datum.sum, Datum.opposite, Option.map_some, write_infinity, Bool.not_not]
    | number t n j =>
      simp only [Datum.sum, Datum.opposite, Option.map_some, write_number, signed_not]
      rw [Int.min_comm j i]
      obtain ⟨a, ea⟩ : ∃ a, signed s m (i - min i j).toNat = a := ⟨_, rfl⟩
      obtain ⟨b, eb⟩ : ∃ b, signed t n (j - min i j).toNat = b := ⟨_, rfl⟩
      rw [ea, eb]
      right
      by_cases h : a + -b = 0
      · right
        have h' : b + -a = 0 := by omega
        refine ⟨s && !t, t && !s, ?_, ?_⟩
        · rw [h, if_pos rfl, Int.natAbs_zero, nearR_zero]
        · rw [h', if_pos rfl, Int.natAbs_zero, nearR_zero]
      · left
        have h' : ¬ b + -a = 0 := by omega
        refine ⟨decide (a + -b < 0), nearR (a + -b).natAbs (min i j), nearR_le _ _, ?_, ?_⟩
        · rw [if_neg h]
        · rw [if_neg h', show (b + -a).natAbs = (a + -b).natAbs by omega]
          congr 2
          by_cases h2 : a + -b < 0
          · rw [decide_eq_true h2, decide_eq_false (by omega : ¬ b + -a < 0)]; rfl
          · rw [decide_eq_false h2, decide_eq_true (by omega : b + -a < 0)]; rfl

theorem canon_canon (u : Nat) : canon (canon u) = canon u := by
  cases h : nanB u
  · have e : canon u = u := by simp [canon, h]
    rw [e, e]
  · have e : canon u = 9221120237041090560 := by simp [canon, h]
    rw [e]; rfl

/-- The bits that are told of an operation's answer. -/
def cRes : Option Nat → Nat
  | some r => canon r
  | none => 9221120237041090560

theorem IsRes.told {o : Option Nat} {r : Nat} (h : IsRes o r) : canon r = cRes o := by
  rcases h with ⟨rfl, _⟩ | ⟨rfl, n, _⟩
  · rfl
  · simp [cRes, canon, n]

theorem canon_cRes (o : Option Nat) : canon (cRes o) = cRes o := by
  cases o with
  | none => rfl
  | some r => exact canon_canon r

theorem cRes_add (x y : Nat) : cRes (double.add x y) < 18446744073709551616 := by
  cases h : double.add x y with
  | none => show (9221120237041090560 : Nat) < _; decide
  | some r => exact canon_lt (double.add_lt h)
theorem cRes_mul (x y : Nat) : cRes (double.mul x y) < 18446744073709551616 := by
  cases h : double.mul x y with
  | none => show (9221120237041090560 : Nat) < _; decide
  | some r => exact canon_lt (double.mul_lt h)
theorem cRes_sub (x y : Nat) : cRes (double.sub x y) < 18446744073709551616 := by
  cases h : double.sub x y with
  | none => show (9221120237041090560 : Nat) < _; decide
  | some r => exact canon_lt (double.sub_lt h)
theorem cRes_div (x y : Nat) : cRes (double.div x y) < 18446744073709551616 := by
  cases h : double.div x y with
  | none => show (9221120237041090560 : Nat) < _; decide
  | some r => exact canon_lt (double.div_lt h)

theorem add_can (x y K : Nat) (h : cRes (double.add x y) = K) (w : World) : Calls Tryz.prog 8 #[.float .f64 x, .float .f64 y] w fun e w' => ∃ r, e = .returned (.float .f64 r) ∧ canon r = K ∧ r < 18446744073709551616 ∧ Below w.heap.size w w' :=
  (add_any x y w).mono fun _ _ ⟨r, e1, e2, e3⟩ => ⟨r, e1, e2.told.trans h, e2.lt, e3⟩

theorem sub_can (x y K : Nat) (h : cRes (double.sub x y) = K) (w : World) : Calls Tryz.prog 10 #[.float .f64 x, .float .f64 y] w fun e w' => ∃ r, e = .returned (.float .f64 r) ∧ canon r = K ∧ r < 18446744073709551616 ∧ Below w.heap.size w w' :=
  (sub_any x y w).mono fun _ _ ⟨r, e1, e2, e3⟩ => ⟨r, e1, e2.told.trans h, e2.lt, e3⟩

theorem mul_can (x y K : Nat) (h : cRes (double.mul x y) = K) (w : World) : Calls Tryz.prog 13 #[.float .f64 x, .float .f64 y] w fun e w' => ∃ r, e = .returned (.float .f64 r) ∧ canon r = K ∧ r < 18446744073709551616 ∧ Below w.heap.size w w' :=
  (mul_any x y w).mono fun _ _ ⟨r, e1, e2, e3⟩ => ⟨r, e1, e2.told.trans h, e2.lt, e3⟩

theorem div_can (x y K : Nat) (h : cRes (double.div x y) = K) (w : World) : Calls Tryz.prog 15 #[.float .f64 x, .float .f64 y] w fun e w' => ∃ r, e = .returned (.float .f64 r) ∧ canon r = K ∧ r < 18446744073709551616 ∧ Below w.heap.size w w' :=
  (div_any x y w).mono fun _ _ ⟨r, e1, e2, e3⟩ => ⟨r, e1, e2.told.trans h, e2.lt, e3⟩

theorem sub_none (x y : Nat) (h : double.sub x y = none) (w : World) : Calls Tryz.prog 10 #[.float .f64 x, .float .f64 y] w fun e w' => ∃ r, e = .returned (.float .f64 r) ∧ nanB r = true ∧ canon r = 9221120237041090560 ∧ r < 18446744073709551616 ∧ Below w.heap.size w w' :=
  (sub_any x y w).mono fun _ _ ⟨r, e1, e2, e3⟩ => ⟨r, e1, by
    rcases e2 with ⟨e, _⟩ | ⟨_, n, _⟩
    · rw [h] at e; cases e
    · exact n, by rw [e2.told, h]; rfl, e2.lt, e3⟩

theorem IsRes.is {o : Option Nat} {r s : Nat} (h : IsRes o r) (e : o = some s) : r = s := by
  rcases h with ⟨e', _⟩ | ⟨e', _⟩
  · rw [e] at e'; cases e'; rfl
  · rw [e] at e'; cases e'

theorem sub_some (x y r : Nat) (h : double.sub x y = some r) (w : World) : Calls Tryz.prog 10 #[.float .f64 x, .float .f64 y] w fun e w' => e = .returned (.float .f64 r) ∧ Below w.heap.size w w' :=
  (sub_any x y w).mono fun _ _ ⟨_, e1, e2, e3⟩ => ⟨e1.trans (ret_float (e2.is h)), e3⟩

/-- The class of a real. -/
def classV (u : Nat) : Int := if nanB u then 0 else if infB u then 1 else if zeroB u then 2 else if rung u < 4503599627370496 then 3 else 4

theorem eq_zero' (u : Nat) (n : nanB u = false) : (FloatKind.f64.format.order (rung u) 0 == some Ordering.eq) = zeroB u := by
  have h := order_eqB (rung u) 0
  have k1 : skey (rung u) = (rung u : Int) := by rw [skey_pos (sgn_rung u), rung_rung]
  have k2 : skey 0 = 0 := by decide
  have n2 : nanB 0 = false := by decide
  rw [k1, k2, n2, nan_rung, n] at h
  refine h.trans ?_
  unfold zeroB
  refine decide_eq_decide.2 ?_
  constructor
  · rintro ⟨_, _, h3⟩; omega
  · intro h1; exact ⟨rfl, rfl, by omega⟩

theorem lt_small (u : Nat) (n : nanB u = false) : (FloatKind.f64.format.order (rung u) 4503599627370496 == some Ordering.lt) = decide (rung u < 4503599627370496) := by
  have h := order_lt (rung u) 4503599627370496
  have k1 : skey (rung u) = (rung u : Int) := by rw [skey_pos (sgn_rung u), rung_rung]
  have k2 : skey 4503599627370496 = 4503599627370496 := by decide
  have n2 : nanB 4503599627370496 = false := by decide
  rw [k1, k2, n2, nan_rung, n] at h
  refine h.trans ?_
  refine decide_eq_decide.2 ?_
  constructor
  · rintro ⟨_, _, h3⟩; omega
  · intro h1; exact ⟨rfl, rfl, by omega⟩

theorem class_any (u : Nat) (hu : u < 18446744073709551616) (w : World) : Calls Tryz.prog 53 #[.float .f64 u] w fun e w' => e = .returned (.int .i64 (classV u)) ∧ w' = w := by
  cases n : nanB u
  · have h1 := eq_zero' u n
    have h2 := lt_small u n
    cases i : infB u
    · cases z : zeroB u
      · rw [z] at h1
        by_cases l : rung u < 4503599627370496
        · rw [decide_eq_true l] at h2
          have hc : Hid (classV u = 3) := by refine hide ?_; unfold classV; rw [n, i, z, if_neg (by simp), if_neg (by simp), if_neg (by simp), if_pos l]
          clear l
          go_enter Tryz.func53, Tryz.ntmps53
          go_wp2_with (first
            | (go_at_call 56; refine (mAbs_any _ hu _).mono ?_; rintro e w' ⟨rfl, rfl⟩)
            | (go_at_call 44; refine (mIsNaN_any _ _).mono ?_; rintro e w' ⟨rfl, rfl⟩)
            | (go_at_call 69; refine (mIsInf_any _ hu _).mono ?_; rintro e w' ⟨rfl, rfl⟩))
          go_ret
          exact ⟨ret_int hc.out.symm, rfl⟩
        · rw [decide_eq_false l] at h2
          have hc : Hid (classV u = 4) := by refine hide ?_; unfold classV; rw [n, i, z, if_neg (by simp), if_neg (by simp), if_neg (by simp), if_neg l]
          clear l
          go_enter Tryz.func53, Tryz.ntmps53
          go_wp2_with (first
            | (go_at_call 56; refine (mAbs_any _ hu _).mono ?_; rintro e w' ⟨rfl, rfl⟩)
            | (go_at_call 44; refine (mIsNaN_any _ _).mono ?_; rintro e w' ⟨rfl, rfl⟩)
            | (go_at_call 69; refine (mIsInf_any _ hu _).mono ?_; rintro e w' ⟨rfl, rfl⟩))
          go_ret
          exact ⟨ret_int hc.out.symm, rfl⟩
      · rw [z] at h1
        have hc : Hid (classV u = 2) := by refine hide ?_; unfold classV; rw [n, i, z, if_neg (by simp), if_neg (by simp), if_pos rfl]
        clear h2
        go_enter Tryz.func53, Tryz.ntmps53
        go_wp2_with (first
          | (go_at_call 56; refine (mAbs_any _ hu _).mono ?_; rintro e w' ⟨rfl, rfl⟩)
          | (go_at_call 44; refine (mIsNaN_any _ _).mono ?_; rintro e w' ⟨rfl, rfl⟩)
          | (go_at_call 69; refine (mIsInf_any _ hu _).mono ?_; rintro e w' ⟨rfl, rfl⟩))
        go_ret
        exact ⟨ret_int hc.out.symm, rfl⟩
    · have hc : Hid (classV u = 1) := by refine hide ?_; unfold classV; rw [n, i, if_neg (by simp), if_pos rfl]
      clear h1 h2
      go_enter Tryz.func53, Tryz.ntmps53
      go_wp2_with (first
        | (go_at_call 56; refine (mAbs_any _ hu _).mono ?_; rintro e w' ⟨rfl, rfl⟩)
        | (go_at_call 44; refine (mIsNaN_any _ _).mono ?_; rintro e w' ⟨rfl, rfl⟩)
        | (go_at_call 69; refine (mIsInf_any _ hu _).mono ?_; rintro e w' ⟨rfl, rfl⟩))
      go_ret
      exact ⟨ret_int hc.out.symm, rfl⟩
  · have hc : Hid (classV u = 0) := by refine hide ?_; unfold classV; rw [n, if_pos rfl]
    go_enter Tryz.func53, Tryz.ntmps53
    go_wp2_with (first
      | (go_at_call 56; refine (mAbs_any _ hu _).mono ?_; rintro e w' ⟨rfl, rfl⟩)
      | (go_at_call 44; refine (mIsNaN_any _ _).mono ?_; rintro e w' ⟨rfl, rfl⟩))
    go_ret
    exact ⟨ret_int hc.out.symm, rfl⟩
end Go.Proofs.YtiglacchpmooeaaGreatDoor
