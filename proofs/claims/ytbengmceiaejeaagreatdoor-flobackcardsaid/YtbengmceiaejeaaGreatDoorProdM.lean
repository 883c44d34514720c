/- Sums and products rise: plain facts. -/
import Derived.Test.YtbengmceiaejeaaGreatDoorMono
import Derived.Test.YtbengmceiaejeaaGreatDoorNum
import Derived.Test.YtbengmceiaejeaaGreatDoorOf
import Derived.Test.YtbengmceiaejeaaGreatDoorBigA
import Derived.Deep.RegionHeld3
import Derived.Deep.DeepCutAuto
import Derived.Laws.NewBlocks
import Derived.Test.YtbengmceiaejeaaGreatDoorStickyM
import Derived.Test.YtbengmceiaejeaaGreatDoorNear3
namespace Go.Proofs.YtbengmceiaejeaaGreatDoor
open Ieee

/-- The key of the nearest word of T units of 2^-(1074+D). -/
def srung (T : Int) (D : Nat) : Int := if T < 0 then -(rungOf T.natAbs D : Int) else rungOf T.natAbs D

theorem srung_mono {S T : Int} {D : Nat} (h : S ≤ T) : srung S D ≤ srung T D := by
  unfold srung
  by_cases h1 : S < 0
  · by_cases h2 : T < 0
    · rw [if_pos h1, if_pos h2]
      have := rungOf_mono (D := D) (show T.natAbs ≤ S.natAbs by omega)
      omega
    · rw [if_pos h1, if_neg h2]; omega
  · rw [if_neg h1, if_neg (by omega)]
    have := rungOf_mono (D := D) (show S.natAbs ≤ T.natAbs by omega)
    omega

theorem rungOf_le (A D : Nat) : rungOf A D ≤ 9218868437227405312 := Nat.min_le_right _ _
theorem rungOf_zero (D : Nat) : rungOf 0 D = 0 := by
  unfold rungOf lastQ rndE
  simp [moreW]

theorem srung_abs (T : Int) (D : Nat) : -9218868437227405312 ≤ srung T D ∧ srung T D ≤ 9218868437227405312 := by
  have := rungOf_le T.natAbs D
  unfold srung
  split <;> omega

theorem skey_wordD {neg : Bool} {r : Nat} (h : r ≤ 9218868437227405312) : skey (wordD neg r) = if neg then -(r : Int) else r := by
  unfold skey; rw [sgn_wordD h, rung_wordD h]

/-- The key of a word whose sign is the number's, or whose number is 0. -/
theorem skey_srung {neg : Bool} {T : Int} {D : Nat} (h : T ≠ 0 → neg = decide (T < 0)) : skey (wordD neg (rungOf T.natAbs D)) = srung T D := by
  rw [skey_wordD (rungOf_le _ _)]
  unfold srung
  by_cases h0 : T = 0
  · rw [h0, Int.natAbs_zero, rungOf_zero]; cases neg <;> rfl
  · rw [h h0]
    by_cases h1 : T < 0
    · rw [decide_eq_true h1, if_pos rfl, if_pos h1]
    · rw [decide_eq_false h1, if_neg (by simp), if_neg h1]

theorem key_bound {u : Nat} (n : nanB u = false) : -9218868437227405312 ≤ skey u ∧ skey u ≤ 9218868437227405312 := by
  have := nanB_not n
  unfold skey
  split <;> omega

theorem add_fin {x z : Nat} (hx : rung x < 9218868437227405312) (hz : rung z < 9218868437227405312) : ∃ neg, double.add x z = some (wordD neg (rungOf (sval x + sval z).natAbs 0)) ∧ (sval x + sval z ≠ 0 → neg = decide (sval x + sval z < 0)) ∧ (sval x + sval z = 0 → neg = (sgnB x && sgnB z)) := by
  obtain ⟨m, k, e1, a1, _⟩ := read_fin hx
  obtain ⟨n, l, e2, a2, _⟩ := read_fin hz
  unfold Format.add
  rw [e1, e2]
  simp only [Datum.sum, Option.map_some, write_number]
  have c1 : (-1074 + (k : Int) - min (-1074 + (k : Int)) (-1074 + (l : Int))).toNat = k - min k l := by omega
  have c2 : (-1074 + (l : Int) - min (-1074 + (k : Int)) (-1074 + (l : Int))).toNat = l - min k l := by omega
  have c3 : min (-1074 + (k : Int)) (-1074 + (l : Int)) = ((min k l : Nat) : Int) - 1074 - ((0 : Nat) : Int) := by omega
  rw [c1, c2, c3, near_rungOf]
  have t1 := signed_mul (sgnB x) m (k - min k l) (min k l)
  have t2 := signed_mul (sgnB z) n (l - min k l) (min k l)
  rw [show k - min k l + min k l = k by omega, signed_sval a1] at t1
  rw [show l - min k l + min k l = l by omega, signed_sval a2] at t2
  obtain ⟨a, ea⟩ : ∃ a, signed (sgnB x) m (k - min k l) = a := ⟨_, rfl⟩
  obtain ⟨b, eb⟩ : ∃ b, signed (sgnB z) n (l - min k l) = b := ⟨_, rfl⟩
  rw [ea] at t1
  rw [eb] at t2
  rw [ea, eb]
  have p := Nat.two_pow_pos (min k l)
  obtain ⟨P, eP⟩ : ∃ P, 2 ^ min k l = P := ⟨_, rfl⟩
  rw [eP] at t1 t2 p ⊢
  have tot : sval x + sval z = (a + b) * (P : Int) := by rw [Int.add_mul, t1, t2]
  rw [tot, Int.natAbs_mul, Int.natAbs_natCast]
  have pP : (0 : Int) < P := by omega
  have hz0 : (a + b) * (P : Int) = 0 ↔ a + b = 0 := by
    constructor
    · intro h
      rcases Int.mul_eq_zero.1 h with h | h
      · exact h
      · omega
    · intro h; rw [h, Int.zero_mul]
  have hlt : (a + b) * (P : Int) < 0 ↔ a + b < 0 := by
    constructor
    · intro h
      by_cases h1 : a + b < 0
      · exact h1
      · have := Int.mul_nonneg (show (0 : Int) ≤ a + b by omega) (by omega : (0 : Int) ≤ P)
        omega
    · intro h
      exact Int.mul_neg_of_neg_of_pos h pP
  refine ⟨_, rfl, ?_, ?_⟩
  · intro h
    rw [if_neg (fun h1 => h (hz0.2 h1))]
    exact decide_eq_decide.2 hlt.symm
  · intro h
    rw [if_pos (hz0.1 h)]

theorem add_key {x z : Nat} (hx : rung x < 9218868437227405312) (hz : rung z < 9218868437227405312) : ∃ r, double.add x z = some r ∧ skey r = srung (sval x + sval z) 0 := by
  obtain ⟨neg, h1, h2, _⟩ := add_fin hx hz
  exact ⟨_, h1, skey_srung h2⟩

theorem add_inf_l {x z : Nat} (hx : rung x = 9218868437227405312) (hz : rung z < 9218868437227405312) : double.add x z = some (wordD (sgnB x) 9218868437227405312) := by
  obtain ⟨n, l, e2, _⟩ := read_fin hz
  unfold Format.add
  rw [read_inf hx, e2]
  simp only [Datum.sum, Option.map_some, write_infinity]
theorem add_inf_r {x z : Nat} (hx : nanB x = false) (hz : rung z = 9218868437227405312) {r : Nat} (h : double.add x z = some r) : skey r = skey z := by
  have hx' := nanB_not hx
  have key : skey (wordD (sgnB z) 9218868437227405312) = skey z := by
    rw [skey_wordD (Nat.le_refl _)]; unfold skey; rw [hz]
  rcases Nat.lt_or_ge (rung x) 9218868437227405312 with f | i
  · rw [add_comm', add_inf_l hz f] at h
    cases h
    exact key
  · have i' : rung x = 9218868437227405312 := by omega
    unfold Format.add at h
    rw [read_inf i', read_inf hz] at h
    simp only [Datum.sum] at h
    by_cases e : sgnB x = sgnB z
    · rw [if_pos e] at h
      simp only [Option.map_some, write_infinity] at h
      cases h
      rw [e]
      exact key
    · rw [if_neg e] at h
      cases h

theorem skey_le_sval {x y : Nat} (h : skey x ≤ skey y) : sval x ≤ sval y := by
  have := @sval_lt y x
  by_cases h1 : sval y < sval x
  · have := this.1 h1; omega
  · omega

theorem add_mono {x y z a b : Nat} (nx : nanB x = false) (ny : nanB y = false) (nz : nanB z = false) (h : skey x ≤ skey y) (ha : double.add x z = some a) (hb : double.add y z = some b) : skey a ≤ skey b := by
  have hx := nanB_not nx
  have hy := nanB_not ny
  have hz := nanB_not nz
  rcases Nat.lt_or_ge (rung z) 9218868437227405312 with fz | iz
  · rcases Nat.lt_or_ge (rung x) 9218868437227405312 with fx | ix
    · obtain ⟨r, e1, k1⟩ := add_key fx fz
      rw [ha] at e1
      cases e1
      rcases Nat.lt_or_ge (rung y) 9218868437227405312 with fy | iy
      · obtain ⟨r', e2, k2⟩ := add_key fy fz
        rw [hb] at e2
        cases e2
        rw [k1, k2]
        have := skey_le_sval h
        exact srung_mono (by omega)
      · have iy' : rung y = 9218868437227405312 := by omega
        rw [add_inf_l iy' fz] at hb
        cases hb
        rw [skey_wordD (Nat.le_refl _)]
        cases s : sgnB y
        · have := srung_abs (sval x + sval z) 0
          rw [k1]
          simp
          omega
        · exfalso
          unfold skey at h
          rw [s, iy'] at h
          simp at h
          split at h <;> omega
    · have ix' : rung x = 9218868437227405312 := by omega
      rw [add_inf_l ix' fz] at ha
      cases ha
      rw [skey_wordD (Nat.le_refl _)]
      cases s : sgnB x
      · have iy' : rung y = 9218868437227405312 ∧ sgnB y = false := by
          unfold skey at h
          rw [s, ix'] at h
          cases t : sgnB y
          · rw [t] at h; simp at h; exact ⟨by omega, rfl⟩
          · rw [t] at h; simp at h; omega
        rw [add_inf_l iy'.1 fz] at hb
        cases hb
        rw [skey_wordD (Nat.le_refl _), iy'.2]
        simp
      · have nb : -9218868437227405312 ≤ skey b := by
          rcases Nat.lt_or_ge (rung y) 9218868437227405312 with fy | iy
          · obtain ⟨r', e2, k2⟩ := add_key fy fz
            rw [hb] at e2
            cases e2
            rw [k2]
            exact (srung_abs _ _).1
          · rw [add_inf_l (by omega) fz] at hb
            cases hb
            rw [skey_wordD (Nat.le_refl _)]
            split <;> omega
        simp
        omega
  · have iz' : rung z = 9218868437227405312 := by omega
    rw [add_inf_r nx iz' ha, add_inf_r ny iz' hb]
    exact Int.le_refl _

theorem mul_fin {x z : Nat} (hx : rung x < 9218868437227405312) (hz : rung z < 9218868437227405312) : double.mul x z = some (wordD (sgnB x ^^ sgnB z) (rungOf (amt (rung x) * amt (rung z)) 1074)) := by
  obtain ⟨m, k, e1, a1, _⟩ := read_fin hx
  obtain ⟨n, l, e2, a2, _⟩ := read_fin hz
  unfold Format.mul
  rw [e1, e2]
  simp only [Datum.product, Option.map_some, write_number]
  have c : -1074 + (k : Int) + (-1074 + (l : Int)) = ((k + l : Nat) : Int) - 1074 - ((1074 : Nat) : Int) := by omega
  rw [c, near_rungOf, ← a1, ← a2]
  have e : m * n * 2 ^ (k + l) = m * 2 ^ k * (n * 2 ^ l) := by
    rw [Nat.pow_add, Nat.mul_assoc, Nat.mul_assoc]
    congr 1
    rw [← Nat.mul_assoc, ← Nat.mul_assoc, Nat.mul_comm n]
  rw [e]

theorem sval_mul (x z : Nat) : (sval x * sval z).natAbs = amt (rung x) * amt (rung z) ∧ (sval x * sval z ≠ 0 → (sgnB x ^^ sgnB z) = decide (sval x * sval z < 0)) := by
  unfold sval
  obtain ⟨a, ea⟩ : ∃ a, amt (rung x) = a := ⟨_, rfl⟩
  obtain ⟨b, eb⟩ : ∃ b, amt (rung z) = b := ⟨_, rfl⟩
  rw [ea, eb]
  have hp : (0 : Int) ≤ (a : Int) * b := Int.mul_nonneg (by omega) (by omega)
  refine ⟨?_, ?_⟩
  · rw [Int.natAbs_mul]
    cases sgnB x <;> cases sgnB z <;> simp
  · intro h
    obtain ⟨c, ec⟩ : ∃ c : Int, (a : Int) * b = c := ⟨_, rfl⟩
    rw [ec] at hp
    revert h
    cases sgnB x <;> cases sgnB z <;> intro h <;> simp only [Bool.false_eq_true, if_false, if_true, Int.neg_mul, Int.mul_neg, Int.neg_neg] at h ⊢ <;> rw [ec] at h ⊢
    · have : ¬ c < 0 := by omega
      rw [decide_eq_false this]; rfl
    · have : -c < 0 := by omega
      rw [decide_eq_true this]; rfl
    · have : -c < 0 := by omega
      rw [decide_eq_true this]; rfl
    · have : ¬ c < 0 := by omega
      rw [decide_eq_false this]; rfl

theorem mul_key {x z : Nat} (hx : rung x < 9218868437227405312) (hz : rung z < 9218868437227405312) : ∃ r, double.mul x z = some r ∧ skey r = srung (sval x * sval z) 1074 := by
  obtain ⟨e, s⟩ := sval_mul x z
  refine ⟨_, mul_fin hx hz, ?_⟩
  rw [← e]
  exact skey_srung s

theorem sval_sign {u : Nat} : (0 < rung u → (if sgnB u then sval u < 0 else 0 < sval u)) ∧ (rung u = 0 → sval u = 0) := by
  have h1 := @amt_lt_iff 0 (rung u)
  rw [amt_zero] at h1
  refine ⟨fun h => ?_, fun h => ?_⟩
  · have := h1.2 h
    unfold sval
    cases sgnB u <;> simp <;> omega
  · unfold sval
    rw [h, amt_zero]
    cases sgnB u <;> rfl

/-- The product with an infinity. -/
theorem mul_inf_l {x z r : Nat} (hx : rung x = 9218868437227405312) (nz : nanB z = false) (h : double.mul x z = some r) : rung z ≠ 0 ∧ skey r = if (sgnB x ^^ sgnB z) then -9218868437227405312 else 9218868437227405312 := by
  have hz := nanB_not nz
  unfold Format.mul at h
  rw [read_inf hx] at h
  rcases Nat.lt_or_ge (rung z) 9218868437227405312 with f | i
  · obtain ⟨n, l, e2, a2, _⟩ := read_fin f
    rw [e2] at h
    simp only [Datum.product] at h
    by_cases hn : n = 0
    · rw [if_pos hn] at h; cases h
    · rw [if_neg hn] at h
      simp only [Option.map_some, write_infinity] at h
      cases h
      refine ⟨?_, ?_⟩
      · intro e
        rw [e, amt_zero] at a2
        have := Nat.two_pow_pos l
        rcases Nat.mul_eq_zero.1 a2 with h | h <;> omega
      · rw [skey_wordD (Nat.le_refl _)]
        rfl
  · have i' : rung z = 9218868437227405312 := by omega
    rw [read_inf i'] at h
    simp only [Datum.product, Option.map_some, write_infinity] at h
    cases h
    refine ⟨by omega, ?_⟩
    rw [skey_wordD (Nat.le_refl _)]
    rfl

theorem mul_bound {x z r : Nat} (nx : nanB x = false) (nz : nanB z = false) (h : double.mul x z = some r) : -9218868437227405312 ≤ skey r ∧ skey r ≤ 9218868437227405312 := by
  have hx := nanB_not nx
  have hz := nanB_not nz
  rcases Nat.lt_or_ge (rung x) 9218868437227405312 with fx | ix
  · rcases Nat.lt_or_ge (rung z) 9218868437227405312 with fz | iz
    · obtain ⟨r', e, k⟩ := mul_key fx fz
      rw [h] at e
      cases e
      rw [k]
      exact srung_abs _ _
    · rw [mul_comm'] at h
      rw [(mul_inf_l (by omega) nx h).2]
      split <;> omega
  · rw [(mul_inf_l (by omega) nz h).2]
    split <;> omega

/-- Products with one that is not below 0 rise. -/
theorem mul_mono {x y z a b : Nat} (nx : nanB x = false) (ny : nanB y = false) (nz : nanB z = false) (h : skey x ≤ skey y) (h0 : 0 ≤ skey z) (ha : double.mul x z = some a) (hb : double.mul y z = some b) : skey a ≤ skey b := by
  have hx := nanB_not nx
  have hy := nanB_not ny
  have hz := nanB_not nz
  have ba := mul_bound nx nz ha
  have bb := mul_bound ny nz hb
  have zs : rung z ≠ 0 → sgnB z = false := by
    intro hz0
    cases s : sgnB z
    · rfl
    · unfold skey at h0; rw [s] at h0; simp at h0; omega
  rcases Nat.lt_or_ge (rung z) 9218868437227405312 with fz | iz
  · rcases Nat.lt_or_ge (rung x) 9218868437227405312 with fx | ix
    · rcases Nat.lt_or_ge (rung y) 9218868437227405312 with fy | iy
      · obtain ⟨r1, e1, k1⟩ := mul_key fx fz
        obtain ⟨r2, e2, k2⟩ := mul_key fy fz
        rw [ha] at e1
        rw [hb] at e2
        cases e1
        cases e2
        rw [k1, k2]
        have h1 := skey_le_sval h
        have h2 : 0 ≤ sval z := by
          have := @sval_sign z
          by_cases hz0 : rung z = 0
          · rw [this.2 hz0]; exact Int.le_refl _
          · have h3 := this.1 (by omega)
            rw [zs hz0] at h3
            simp at h3
            omega
        exact srung_mono (Int.mul_le_mul_of_nonneg_right h1 h2)
      · obtain ⟨q, k⟩ := mul_inf_l (by omega) nz hb
        cases s : sgnB y
        · rw [k, s, zs q]; simp; omega
        · exfalso
          unfold skey at h
          rw [s] at h
          simp at h
          split at h <;> omega
    · obtain ⟨q, k⟩ := mul_inf_l (by omega) nz ha
      cases s : sgnB x
      · have iy' : rung y = 9218868437227405312 ∧ sgnB y = false := by
          unfold skey at h
          rw [s] at h
          cases t : sgnB y
          · rw [t] at h; simp at h; exact ⟨by omega, rfl⟩
          · rw [t] at h; simp at h; omega
        obtain ⟨_, k'⟩ := mul_inf_l iy'.1 nz hb
        rw [k, k', s, iy'.2]
        exact Int.le_refl _
      · rw [k, s, zs q]; simp; omega
  · have iz' : rung z = 9218868437227405312 := by omega
    have sz := zs (by omega)
    rw [mul_comm'] at ha hb
    obtain ⟨q1, k1⟩ := mul_inf_l iz' nx ha
    obtain ⟨q2, k2⟩ := mul_inf_l iz' ny hb
    rw [k1, k2, sz]
    cases s : sgnB x
    · have : sgnB y = false := by
        cases t : sgnB y
        · rfl
        · exfalso
          unfold skey at h
          rw [s, t] at h
          simp at h
          omega
      rw [this]
      exact Int.le_refl _
    · simp
      split <;> omega

/-- With one that is not above 0 they fall. -/
theorem mul_anti {x y z a b : Nat} (nx : nanB x = false) (ny : nanB y = false) (nz : nanB z = false) (h : skey x ≤ skey y) (h0 : skey z < 0) (ha : double.mul x z = some a) (hb : double.mul y z = some b) : skey b ≤ skey a := by
  have hx := nanB_not nx
  have hy := nanB_not ny
  have hz := nanB_not nz
  have ba := mul_bound nx nz ha
  have bb := mul_bound ny nz hb
  have zs : sgnB z = true ∧ 0 < rung z := by
    unfold skey at h0
    cases s : sgnB z
    · rw [s] at h0; simp at h0; omega
    · rw [s] at h0; simp at h0; exact ⟨rfl, by omega⟩
  rcases Nat.lt_or_ge (rung z) 9218868437227405312 with fz | iz
  · rcases Nat.lt_or_ge (rung x) 9218868437227405312 with fx | ix
    · rcases Nat.lt_or_ge (rung y) 9218868437227405312 with fy | iy
      · obtain ⟨r1, e1, k1⟩ := mul_key fx fz
        obtain ⟨r2, e2, k2⟩ := mul_key fy fz
        rw [ha] at e1
        rw [hb] at e2
        cases e1
        cases e2
        rw [k1, k2]
        have h1 := skey_le_sval h
        have h2 : sval z ≤ 0 := by
          have h3 := (@sval_sign z).1 zs.2
          rw [zs.1] at h3
          simp at h3
          omega
        exact srung_mono (Int.mul_le_mul_of_nonpos_right h1 h2)
      · obtain ⟨q, k⟩ := mul_inf_l (by omega) nz hb
        cases s : sgnB y
        · rw [k, s, zs.1]; simp; omega
        · exfalso
          unfold skey at h
          rw [s] at h
          simp at h
          split at h <;> omega
    · obtain ⟨q, k⟩ := mul_inf_l (by omega) nz ha
      cases s : sgnB x
      · have iy' : rung y = 9218868437227405312 ∧ sgnB y = false := by
          unfold skey at h
          rw [s] at h
          cases t : sgnB y
          · rw [t] at h; simp at h; exact ⟨by omega, rfl⟩
          · rw [t] at h; simp at h; omega
        obtain ⟨_, k'⟩ := mul_inf_l iy'.1 nz hb
        rw [k, k', s, iy'.2]
        exact Int.le_refl _
      · rw [k, s, zs.1]; simp; omega
  · have iz' : rung z = 9218868437227405312 := by omega
    rw [mul_comm'] at ha hb
    obtain ⟨q1, k1⟩ := mul_inf_l iz' nx ha
    obtain ⟨q2, k2⟩ := mul_inf_l iz' ny hb
    rw [k1, k2, zs.1]
    cases s : sgnB x
    · have : sgnB y = false := by
        cases t : sgnB y
        · rfl
        · exfalso
          unfold skey at h
          rw [s, t] at h
          simp at h
          omega
      rw [this]
      exact Int.le_refl _
    · simp
      split <;> omega
end Go.Proofs.YtbengmceiaejeaaGreatDoor
/- The reference's add: the exact sum. -/
namespace Go.Proofs.YtbengmceiaejeaaGreatDoor
open Go.ChangeShapes Go.WideShapes Go.ChangeAt Go.RowKit
open Ieee

def sumS (sx sy : Bool) (A B : Nat) : Bool := if sx = sy then sx else if A = B then false else if B < A then sx else sy
def sumM (sx sy : Bool) (A B : Nat) : Nat := if sx = sy then A + B else if B ≤ A then A - B else B - A

theorem undrew' {B : Nat} {w w1 : World} (h : Below B w.drew w1) : Below B w w1 := ⟨h.os, h.tape, h.output, h.size, h.block⟩

/-- Three boxes, one behind the other. -/
abbrev three (w : World) (a b c : Obj) : World := ((w.alloc a).alloc b).alloc c

theorem three_size (w : World) (a b c : Obj) : (three w a b c).heap.size = w.heap.size + 1 + 1 + 1 := by simp [three]

theorem three_below (w : World) (a b c : Obj) : Below w.heap.size w (three w a b c) := (((Below.refl _ _).alloc (Nat.le_refl _) _).alloc (by simp) _).alloc (by simp; omega) _

theorem three_kept {w w1 : World} {x0 x1 x2 y0 y1 y2 z0 z1 z2 : Value} {t : TypeId} (h : Below (w.heap.size + 1 + 1 + 1) (three w (.cells #[x0, x1, x2] t) (.cells #[y0, y1, y2] t) (.cells #[z0, z1, z2] t)) w1) :
    w1.cell? ⟨w.heap.size, 0, none⟩ = some x0 ∧ w1.cell? ⟨w.heap.size, 1, none⟩ = some x1 ∧ w1.cell? ⟨w.heap.size, 2, none⟩ = some x2 ∧
    w1.cell? ⟨w.heap.size + 1, 0, none⟩ = some y0 ∧ w1.cell? ⟨w.heap.size + 1, 1, none⟩ = some y1 ∧ w1.cell? ⟨w.heap.size + 1, 2, none⟩ = some y2 ∧
    w1.heap[w.heap.size + 1 + 1]? = some (.cells #[z0, z1, z2] t (0, 0)) ∧ Below w.heap.size w w1 ∧ w.heap.size + 1 + 1 < w1.heap.size := by
  refine ⟨?_, ?_, ?_, ?_, ?_, ?_, ?_, (three_below w _ _ _).trans (h.mono (by omega)), by have := h.size; rw [three_size] at this; omega⟩
  · rw [h.cell (p := ⟨w.heap.size, 0, none⟩) (by simp; omega), World.cell?_alloc_past _ _ _ (by simp; omega), World.cell?_alloc_past _ _ _ (by simp), World.cell?_alloc_at _ _ _ _ rfl]; rfl
  · rw [h.cell (p := ⟨w.heap.size, 1, none⟩) (by simp; omega), World.cell?_alloc_past _ _ _ (by simp; omega), World.cell?_alloc_past _ _ _ (by simp), World.cell?_alloc_at _ _ _ _ rfl]; rfl
  · rw [h.cell (p := ⟨w.heap.size, 2, none⟩) (by simp; omega), World.cell?_alloc_past _ _ _ (by simp; omega), World.cell?_alloc_past _ _ _ (by simp), World.cell?_alloc_at _ _ _ _ rfl]; rfl
  · rw [h.cell (p := ⟨w.heap.size + 1, 0, none⟩) (by simp), World.cell?_alloc_past _ _ _ (by simp), World.cell?_alloc_at _ _ _ _ (by simp)]; rfl
  · rw [h.cell (p := ⟨w.heap.size + 1, 1, none⟩) (by simp), World.cell?_alloc_past _ _ _ (by simp), World.cell?_alloc_at _ _ _ _ (by simp)]; rfl
  · rw [h.cell (p := ⟨w.heap.size + 1, 2, none⟩) (by simp), World.cell?_alloc_past _ _ _ (by simp), World.cell?_alloc_at _ _ _ _ (by simp)]; rfl
  · rw [h.block _ (by omega)]
    have e := heap_alloc_new ((w.alloc (.cells #[x0, x1, x2] t)).alloc (.cells #[y0, y1, y2] t)) (.cells #[z0, z1, z2] t)
    rw [show ((w.alloc (.cells #[x0, x1, x2] t)).alloc (.cells #[y0, y1, y2] t)).heap.size = w.heap.size + 1 + 1 by simp] at e
    exact e

/-- The struct that is handed back, once its three cells are written. -/
theorem sum_end {w w1 : World} {g : Nat} {c0 c1 c2 : Value} {t : TypeId} (hg : w1.heap[g]? = some (.cells #[c0, c1, c2] t (0, 0))) (hw : w.heap.size ≤ g) (b0 : Below w.heap.size w w1) {v : Value} {m : Nat} (am : IsAmt w1 v m) (fr : ∀ k, v.ownBlock = some k → k ≠ g) (b p : Value) :
    (((w1.setCell ⟨g, 0, none⟩ b).setCell ⟨g, 1, none⟩ v).setCell ⟨g, 2, none⟩ p).heap[g]? = some (.cells #[b, v, p] t (0, 0)) ∧
    IsAmt (((w1.setCell ⟨g, 0, none⟩ b).setCell ⟨g, 1, none⟩ v).setCell ⟨g, 2, none⟩ p) v m ∧
    Below w.heap.size w (((w1.setCell ⟨g, 0, none⟩ b).setCell ⟨g, 1, none⟩ v).setCell ⟨g, 2, none⟩ p) := by
  have h1 := heap_setCell_same w1 g 0 _ t b hg
  have h2 := heap_setCell_same _ g 1 _ t v h1
  have h3 := heap_setCell_same _ g 2 _ t p h2
  exact ⟨h3.trans (by simp), ((am.setCell fr).setCell fr).setCell fr, ((b0.setCell hw _).setCell hw _).setCell hw _⟩

theorem cells_of {w1 : World} {g : Nat} {c0 c1 c2 : Value} {t : TypeId} (hg : w1.heap[g]? = some (.cells #[c0, c1, c2] t (0, 0))) : w1.cell? ⟨g, 0, none⟩ = some c0 ∧ w1.cell? ⟨g, 1, none⟩ = some c1 ∧ w1.cell? ⟨g, 2, none⟩ = some c2 ∧ w1.frozen? ⟨g, 0, none⟩ = false ∧ w1.frozen? ⟨g, 1, none⟩ = false ∧ w1.frozen? ⟨g, 2, none⟩ = false := by
  refine ⟨?_, ?_, ?_, ?_, ?_, ?_⟩ <;> simp [World.cell?, World.frozen?, hg]

theorem set_other (w1 : World) (g h i : Nat) (b v p : Value) (hn : h ≠ g) : (((w1.setCell ⟨g, 0, none⟩ b).setCell ⟨g, 1, none⟩ v).setCell ⟨g, 2, none⟩ p).cell? ⟨h, i, none⟩ = w1.cell? ⟨h, i, none⟩ := by
  have e : ∀ (w : World) (o : Nat) (x : Value), (w.setCell ⟨g, o, none⟩ x).cell? ⟨h, i, none⟩ = w.cell? ⟨h, i, none⟩ := fun w o x => World.cell?_setCell_far _ _ _ _ (fun h1 => hn h1.symm)
  rw [e, e, e]

theorem amt_nil (w : World) : IsAmt w (.slice none 0 0) 0 := ⟨[], Or.inl ⟨rfl, rfl⟩, digs_nil, norm_nil, rfl⟩
end Go.Proofs.YtbengmceiaejeaaGreatDoor
/- Sums: plain facts that tie the reference's exact sum to the model's. -/
namespace Go.Proofs.YtbengmceiaejeaaGreatDoor
open Ieee

theorem sum_ties {u v A B κ : Nat} (ha : A * 2 ^ κ = amt (rung u)) (hb : B * 2 ^ κ = amt (rung v)) :
    sumM (sgnB u) (sgnB v) A B * 2 ^ κ = (sval u + sval v).natAbs ∧ (sval u + sval v ≠ 0 → sumS (sgnB u) (sgnB v) A B = decide (sval u + sval v < 0)) ∧ (sval u + sval v = 0 → (A ≠ 0 ∨ B ≠ 0) → sumS (sgnB u) (sgnB v) A B = (sgnB u && sgnB v)) := by
  have p := Nat.two_pow_pos κ
  unfold sval
  rw [← ha, ← hb]
  have hlt : A < B → A * 2 ^ κ < B * 2 ^ κ := fun h => Nat.mul_lt_mul_of_pos_right h p
  have hgt : B < A → B * 2 ^ κ < A * 2 ^ κ := fun h => Nat.mul_lt_mul_of_pos_right h p
  have hz : A ≠ 0 → 0 < A * 2 ^ κ := fun h => Nat.mul_pos (by omega) p
  have hz' : B ≠ 0 → 0 < B * 2 ^ κ := fun h => Nat.mul_pos (by omega) p
  have e1 : (A + B) * 2 ^ κ = A * 2 ^ κ + B * 2 ^ κ := Nat.add_mul _ _ _
  have e2 : (A - B) * 2 ^ κ = A * 2 ^ κ - B * 2 ^ κ := Nat.sub_mul _ _ _
  have e3 : (B - A) * 2 ^ κ = B * 2 ^ κ - A * 2 ^ κ := Nat.sub_mul _ _ _
  have e4 : A = B → A * 2 ^ κ = B * 2 ^ κ := fun h => by rw [h]
  unfold sumM sumS
  obtain ⟨a, ea⟩ : ∃ a, A * 2 ^ κ = a := ⟨_, rfl⟩
  obtain ⟨b, eb⟩ : ∃ b, B * 2 ^ κ = b := ⟨_, rfl⟩
  rw [ea] at hlt hgt hz e1 e2 e3 e4 ⊢
  rw [eb] at hlt hgt hz' e1 e2 e3 e4 ⊢
  clear ha hb p
  cases sgnB u <;> cases sgnB v
  · simp only [if_true, Bool.false_eq_true, if_false]
    rw [e1]
    refine ⟨by omega, fun h => ?_, fun h h2 => rfl⟩
    have : ¬ ((a : Int) + b < 0) := by omega
    rw [decide_eq_false this]
  · simp only [if_true, Bool.false_eq_true, if_false]
    rcases Nat.lt_trichotomy A B with h | h | h
    · have := hlt h
      rw [if_neg (by omega), if_neg (by omega), if_neg (by omega), e3]
      refine ⟨by omega, fun _ => ?_, fun h3 _ => by omega⟩
      rw [decide_eq_true (by omega : (a : Int) + -(b : Int) < 0)]
    · have := e4 h
      rw [if_pos (by omega), if_pos h, e2]
      exact ⟨by omega, fun h3 => by omega, fun _ _ => rfl⟩
    · have := hgt h
      rw [if_pos (by omega), if_neg (by omega), if_pos h, e2]
      refine ⟨by omega, fun _ => ?_, fun h3 _ => by omega⟩
      rw [decide_eq_false (by omega : ¬ (a : Int) + -(b : Int) < 0)]
  · simp only [if_true, Bool.true_eq_false, Bool.false_eq_true, if_false]
    rcases Nat.lt_trichotomy A B with h | h | h
    · have := hlt h
      rw [if_neg (by omega), if_neg (by omega), if_neg (by omega), e3]
      refine ⟨by omega, fun _ => ?_, fun h3 _ => by omega⟩
      rw [decide_eq_false (by omega : ¬ -(a : Int) + (b : Int) < 0)]
    · have := e4 h
      rw [if_pos (by omega), if_pos h, e2]
      exact ⟨by omega, fun h3 => by omega, fun _ _ => rfl⟩
    · have := hgt h
      rw [if_pos (by omega), if_neg (by omega), if_pos h, e2]
      refine ⟨by omega, fun _ => ?_, fun h3 _ => by omega⟩
      rw [decide_eq_true (by omega : -(a : Int) + (b : Int) < 0)]
  · simp only [if_true]
    rw [e1]
    refine ⟨by omega, fun h => ?_, fun _ _ => rfl⟩
    have : -(a : Int) + -(b : Int) < 0 := by omega
    rw [decide_eq_true this]

/-- The word of the exact sum, rounded, is the model's sum. -/
theorem sum_word {u v A B κ : Nat} (hu : rung u < 9218868437227405312) (hv : rung v < 9218868437227405312) (ha : A * 2 ^ κ = amt (rung u)) (hb : B * 2 ^ κ = amt (rung v)) (hn : A ≠ 0 ∨ B ≠ 0) :
    double.add u v = some (wordD (sumS (sgnB u) (sgnB v) A B) (nearR (sumM (sgnB u) (sgnB v) A B) ((κ : Nat) - 1074 : Int))) := by
  obtain ⟨e1, e2, e3⟩ := sum_ties ha hb
  obtain ⟨neg, h1, h2, h3⟩ := add_fin hu hv
  have hr := near_rungOf (mag := sumM (sgnB u) (sgnB v) A B) (k := κ) (D := 0)
  rw [show ((κ : Int) - 1074 - ((0 : Nat) : Int)) = (κ : Int) - 1074 by omega, e1] at hr
  rw [h1, hr]
  congr 2
  by_cases h0 : sval u + sval v = 0
  · rw [h3 h0, e3 h0 hn]
  · rw [h2 h0, e2 h0]

theorem read_flip (v : Nat) (hv : v < 18446744073709551616) (hn : nanB v = false) : double.read (flip v) = (double.read v).opposite := by
  rw [read_eq, read_eq, rung_flip v hv, sgn_flip v hv]
  have := nanB_not hn
  split
  · rfl
  · split
    · rfl
    · split
      · rfl
      · exfalso; omega

theorem sub_flip (u v : Nat) (hv : v < 18446744073709551616) (hn : nanB v = false) : double.sub u v = double.add u (flip v) := by
  unfold Format.sub Format.add
  rw [read_flip v hv hn]

theorem add_nan_l {u v : Nat} (h : nanB u = true) : double.add u v = none := by
  unfold Format.add
  rw [read_nan (by unfold nanB at h; simpa using h)]
  rfl
theorem add_nan_r {u v : Nat} (h : nanB v = true) : double.add u v = none := by rw [add_comm', add_nan_l h]
theorem sub_nan_r {u v : Nat} (h : nanB v = true) : double.sub u v = none := by
  unfold Format.sub
  rw [read_nan (u := v) (by unfold nanB at h; simpa using h)]
  cases double.read u <;> rfl
theorem add_infs {u v : Nat} (hu : rung u = 9218868437227405312) (hv : rung v = 9218868437227405312) : double.add u v = if sgnB u = sgnB v then some (wordD (sgnB u) 9218868437227405312) else none := by
  unfold Format.add
  rw [read_inf hu, read_inf hv]
  simp only [Datum.sum]
  by_cases h : sgnB u = sgnB v
  · rw [if_pos h, if_pos h]
    simp only [Option.map_some, write_infinity]
  · rw [if_neg h, if_neg h]
    rfl
theorem word_is {u : Nat} (hu : u < 18446744073709551616) {r : Nat} (h : rung u = r) : wordD (sgnB u) r = u := by
  rcases sgn_cases u hu with ⟨s, e, _⟩ | ⟨s, e, _⟩ <;> rw [s] <;> unfold wordD <;> simp <;> omega
theorem sum_zeros {u v : Nat} (hu : rung u = 0) (hv : rung v = 0) : double.add u v = some (wordD (sgnB u && sgnB v) 0) := by
  obtain ⟨neg, h1, _, h3⟩ := add_fin (x := u) (z := v) (by omega) (by omega)
  have e : sval u + sval v = 0 := by rw [(sval_sign (u := u)).2 hu, (sval_sign (u := v)).2 hv]; rfl
  rw [h1, h3 e, e, Int.natAbs_zero, rungOf_zero]
theorem and_zeros {u v : Nat} (hu : u < 18446744073709551616) (hv : v < 18446744073709551616) (zu : rung u = 0) (zv : rung v = 0) : u &&& v = wordD (sgnB u && sgnB v) 0 := by
  rcases sgn_cases u hu with ⟨s, e, _⟩ | ⟨s, e, _⟩ <;> rcases sgn_cases v hv with ⟨t, f, _⟩ | ⟨t, f, _⟩ <;> rw [s, t] <;> rw [zu] at e <;> rw [zv] at f <;> rw [e, f] <;> decide
theorem canon_word {s : Bool} {r : Nat} (h : r ≤ 9218868437227405312) : canon (wordD s r) = wordD s r := by
  unfold canon
  rw [nan_wordD h]
  rfl
end Go.Proofs.YtbengmceiaejeaaGreatDoor
/- Products and quotients: plain facts. -/
namespace Go.Proofs.YtbengmceiaejeaaGreatDoor
open Ieee

theorem sgn_testBit (u : Nat) : sgnB u = u.testBit 63 := by
  unfold sgnB
  rw [Nat.testBit_eq_decide_div_mod_eq]
  by_cases h : u / 9223372036854775808 % 2 = 1
  · have h' : u / 2 ^ 63 % 2 = 1 := by rw [show (2 : Nat) ^ 63 = 9223372036854775808 by decide]; exact h
    rw [decide_eq_true h', h]
    rfl
  · rw [decide_eq_false (by rw [show (2 : Nat) ^ 63 = 9223372036854775808 by decide]; exact h)]
    exact beq_eq_false_iff_ne.2 h
theorem sgn_xor (u v : Nat) : sgnB (u ^^^ v) = (sgnB u ^^ sgnB v) := by rw [sgn_testBit, sgn_testBit, sgn_testBit, Nat.testBit_xor]
theorem xor_lt (u v : Nat) (hu : u < 18446744073709551616) (hv : v < 18446744073709551616) : u ^^^ v < 18446744073709551616 := Nat.xor_lt_two_pow (n := 64) hu hv

theorem zero_num {v n l : Nat} (h : n * 2 ^ l = amt (rung v)) : n = 0 ↔ rung v = 0 := by
  constructor
  · intro h0
    rw [h0, Nat.zero_mul] at h
    exact amt_inj (by rw [← h, amt_zero])
  · intro h0
    rw [h0, amt_zero] at h
    rcases Nat.mul_eq_zero.1 h with h | h
    · exact h
    · have := Nat.two_pow_pos l; omega

theorem mul_nan_l {u v : Nat} (h : nanB u = true) : double.mul u v = none := by
  unfold Format.mul
  rw [read_nan (u := u) (by unfold nanB at h; simpa using h)]
  rfl
theorem mul_nan_r {u v : Nat} (h : nanB v = true) : double.mul u v = none := by rw [mul_comm', mul_nan_l h]
theorem mul_inf_zero {u v : Nat} (hu : rung u = 9218868437227405312) (hv : rung v = 0) : double.mul u v = none := by
  obtain ⟨n, l, e2, a2, _⟩ := read_fin (u := v) (by omega)
  unfold Format.mul
  rw [read_inf hu, e2]
  simp only [Datum.product]
  rw [if_pos ((zero_num a2).2 hv)]
  rfl
theorem mul_inf_num {u v : Nat} (hu : rung u = 9218868437227405312) (nv : nanB v = false) (hv : rung v ≠ 0) : double.mul u v = some (wordD (sgnB u ^^ sgnB v) 9218868437227405312) := by
  have hz := nanB_not nv
  unfold Format.mul
  rw [read_inf hu]
  rcases Nat.lt_or_ge (rung v) 9218868437227405312 with f | g
  · obtain ⟨n, l, e2, a2, _⟩ := read_fin f
    rw [e2]
    simp only [Datum.product]
    rw [if_neg (fun h => hv ((zero_num a2).1 h))]
    simp only [Option.map_some, write_infinity]
  · rw [read_inf (show rung v = 9218868437227405312 by omega)]
    simp only [Datum.product, Option.map_some, write_infinity]

theorem product_word {u v m1 k1 m2 k2 : Nat} (hu : rung u < 9218868437227405312) (hv : rung v < 9218868437227405312) (e1 : m1 * 2 ^ k1 = amt (rung u)) (e2 : m2 * 2 ^ k2 = amt (rung v)) :
    double.mul u v = some (wordD (sgnB u ^^ sgnB v) (nearR (m1 * m2) ((k1 : Int) - 1074 + ((k2 : Int) - 1074)))) := by
  have hr := near_rungOf (mag := m1 * m2) (k := k1 + k2) (D := 1074)
  rw [show (((k1 + k2 : Nat) : Int) - 1074 - ((1074 : Nat) : Int)) = (k1 : Int) - 1074 + ((k2 : Int) - 1074) by omega] at hr
  rw [mul_fin hu hv, hr, ← e1, ← e2]
  congr 3
  rw [Nat.pow_add, Nat.mul_mul_mul_comm]

theorem div_nan_l {u v : Nat} (h : nanB u = true) : double.div u v = none := by
  unfold Format.div
  rw [read_nan (u := u) (by unfold nanB at h; simpa using h)]
  rfl
theorem div_nan_r {u v : Nat} (h : nanB v = true) : double.div u v = none := by
  unfold Format.div
  rw [read_nan (u := v) (by unfold nanB at h; simpa using h)]
  cases double.read u <;> rfl
theorem div_infs {u v : Nat} (hu : rung u = 9218868437227405312) (hv : rung v = 9218868437227405312) : double.div u v = none := by
  unfold Format.div
  rw [read_inf hu, read_inf hv]
  rfl
theorem div_inf_num {u v : Nat} (hu : rung u = 9218868437227405312) (hv : rung v < 9218868437227405312) : double.div u v = some (wordD (sgnB u ^^ sgnB v) 9218868437227405312) := by
  obtain ⟨n, l, e2, a2, _⟩ := read_fin hv
  unfold Format.div
  rw [read_inf hu, e2]
  simp only [Datum.quotient, Option.map_some, write_infinity]
theorem div_num_inf {u v : Nat} (hu : rung u < 9218868437227405312) (hv : rung v = 9218868437227405312) : double.div u v = some (wordD (sgnB u ^^ sgnB v) 0) := by
  obtain ⟨n, l, e2, a2, _⟩ := read_fin hu
  unfold Format.div
  rw [read_inf hv, e2]
  simp only [Datum.quotient, Option.map_some, write_number, nearR_zero]
theorem div_zeros {u v : Nat} (hu : rung u = 0) (hv : rung v = 0) : double.div u v = none := by
  obtain ⟨m, k, e1, a1, _⟩ := read_fin (u := u) (by omega)
  obtain ⟨n, l, e2, a2, _⟩ := read_fin (u := v) (by omega)
  unfold Format.div
  rw [e1, e2]
  simp only [Datum.quotient]
  rw [if_pos ((zero_num a2).2 hv), if_pos ((zero_num a1).2 hu)]
  rfl
theorem div_num_zero {u v : Nat} (hu : rung u < 9218868437227405312) (hn : rung u ≠ 0) (hv : rung v = 0) : double.div u v = some (wordD (sgnB u ^^ sgnB v) 9218868437227405312) := by
  obtain ⟨m, k, e1, a1, _⟩ := read_fin (u := u) (by omega)
  obtain ⟨n, l, e2, a2, _⟩ := read_fin (u := v) (by omega)
  unfold Format.div
  rw [e1, e2]
  simp only [Datum.quotient]
  rw [if_pos ((zero_num a2).2 hv), if_neg (fun h => hn ((zero_num a1).1 h))]
  simp only [Option.map_some, write_infinity]

theorem same_parts {m k m' k' : Nat} (h : m * 2 ^ k = m' * 2 ^ k') (l1 : m < 9007199254740992) (l2 : m' < 9007199254740992) (g1 : k = 0 ∨ 4503599627370496 ≤ m) (g2 : k' = 0 ∨ 4503599627370496 ≤ m') (hm : m ≠ 0) : m = m' ∧ k = k' := by
  have hk : k = k' := by
    rcases Nat.lt_trichotomy k k' with hk | hk | hk
    · exfalso
      obtain ⟨d, ed⟩ : ∃ d, k' = d + 1 + k := ⟨k' - k - 1, by omega⟩
      rw [ed, Nat.pow_add, ← Nat.mul_assoc] at h
      have h1 := Nat.eq_of_mul_eq_mul_right (Nat.two_pow_pos k) h
      have h2 : m' * 2 ^ 1 ≤ m' * 2 ^ (d + 1) := Nat.mul_le_mul_left _ (Nat.pow_le_pow_right (by decide) (by omega))
      omega
    · exact hk
    · exfalso
      obtain ⟨d, ed⟩ : ∃ d, k = d + 1 + k' := ⟨k - k' - 1, by omega⟩
      rw [ed, Nat.pow_add, ← Nat.mul_assoc] at h
      have h1 := Nat.eq_of_mul_eq_mul_right (Nat.two_pow_pos k') h
      have h2 : m * 2 ^ 1 ≤ m * 2 ^ (d + 1) := Nat.mul_le_mul_left _ (Nat.pow_le_pow_right (by decide) (by omega))
      omega
  subst hk
  exact ⟨Nat.eq_of_mul_eq_mul_right (Nat.two_pow_pos k) h, rfl⟩

theorem log_53 {m : Nat} (h : m < 9007199254740992) : m.log2 ≤ 52 := by
  by_cases h0 : m = 0
  · rw [h0]; decide
  · have := (Nat.log2_lt h0).2 (show m < 2 ^ 53 by omega)
    omega

/-- The model's quotient is the reference's: 128 digits and a rest. -/
theorem quotient_word {u v m1 k1 m2 k2 : Nat} (hu : rung u < 9218868437227405312) (hv : rung v < 9218868437227405312) (zu : rung u ≠ 0) (zv : rung v ≠ 0) (e1 : m1 * 2 ^ k1 = amt (rung u)) (e2 : m2 * 2 ^ k2 = amt (rung v)) (l1 : m1 < 9007199254740992) (l2 : m2 < 9007199254740992) (g1 : k1 = 0 ∨ 4503599627370496 ≤ m1) (g2 : k2 = 0 ∨ 4503599627370496 ≤ m2) :
    double.div u v = some (wordD (sgnB u ^^ sgnB v) (if m1 * 2 ^ 128 % m2 = 0 then nearR (m1 * 2 ^ 128 / m2) ((k1 : Int) - 1074 - ((k2 : Int) - 1074) - 128) else nearR (m1 * 2 ^ 128 / m2 * 2 ^ 2 + 1) ((k1 : Int) - 1074 - ((k2 : Int) - 1074) - 128 - 2))) := by
  have z1 : m1 ≠ 0 := fun h => zu ((zero_num e1).1 h)
  have z2 : m2 ≠ 0 := fun h => zv ((zero_num e2).1 h)
  obtain ⟨m, k, r1, a1, _, lm, gm⟩ := read_fin hu
  obtain ⟨n, l, r2, a2, _, ln, gn⟩ := read_fin hv
  obtain ⟨rfl, rfl⟩ := same_parts (e1.trans a1.symm) l1 lm g1 (by omega) z1
  obtain ⟨rfl, rfl⟩ := same_parts (e2.trans a2.symm) l2 ln g2 (by omega) z2
  unfold Format.div
  rw [r1, r2]
  have hf : double.fractionBits + 2 = 54 := rfl
  rw [hf]
  simp only [Datum.quotient]
  rw [if_neg z2]
  simp only [Option.map_some, write_number, Nat.shiftLeft_eq]
  have h1 := log_53 l1
  have h2 := log_53 l2
  have key := near_quotient (m := m1) (n := m2) (a := 54 + m2.log2 - m1.log2) ((k1 : Int) - 1074 - ((k2 : Int) - 1074)) z1 (by omega) (by omega) (by omega)
  rw [Nat.mul_comm 4] at key
  rw [show (-1074 + (k1 : Int) - (-1074 + (k2 : Int))) = (k1 : Int) - 1074 - ((k2 : Int) - 1074) by omega, key]
end Go.Proofs.YtbengmceiaejeaaGreatDoor
