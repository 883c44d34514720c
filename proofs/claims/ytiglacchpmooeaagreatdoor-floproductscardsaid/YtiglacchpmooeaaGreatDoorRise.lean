/- Sums and products rise: plain facts. -/
import Derived.Test.YtiglacchpmooeaaGreatDoorMono
import Derived.Test.YtiglacchpmooeaaGreatDoorNum
namespace Go.Proofs.YtiglacchpmooeaaGreatDoor
open Ieee

/-- The key of the nearest word of T units of 2^-(1074+D). -/
def srung (T : Int) (D : Nat) : Int := if T < 0 then -(rungOf T.natAbs D : Int) else rungOf T.natAbs D

theorem srung_mono {S T : Int} {D : Nat} (h : S ≤ T) : srung S D ≤ srung T D := by
  unfold srung
  by_cases h1 : S < 0
  · by_cases h2 : T < 0
    · rw [if_pos h1, if_pos h2]
      have := rungOf_mono (D := D) (show T.natAbs ≤ S.natAbs by omega)
      omega
    · rw [if_pos h1, if_neg h2]; omega
  · rw [if_neg h1, if_neg (by omega)]
    have := rungOf_mono (D := D) (show S.natAbs ≤ T.natAbs by omega)
    omega

theorem rungOf_le (A D : Nat) : rungOf A D ≤ 9218868437227405312 := Nat.min_le_right _ _
theorem rungOf_zero (D : Nat) : rungOf 0 D = 0 := by
  unfold rungOf lastQ rndE
  simp [moreW]

theorem srung_abs (T : Int) (D : Nat) : -9218868437227405312 ≤ srung T D ∧ srung T D ≤ 9218868437227405312 := by
  have := rungOf_le T.natAbs D
  unfold srung
  split <;> omega

theorem skey_wordD {neg : Bool} {r : Nat} (h : r ≤ 9218868437227405312) : skey (wordD neg r) = if neg then -(r : Int) else r := by
  unfold skey; rw [sgn_wordD h, rung_wordD h]

/-- The key of a word whose sign is the number's, or whose number is 0. -/
theorem skey_srung {neg : Bool} {T : Int} {D : Nat} (h : T ≠ 0 → neg = decide (T < 0)) : skey (wordD neg (rungOf T.natAbs D)) = srung T D := by
  rw [skey_wordD (rungOf_le _ _)]
  unfold srung
  by_cases h0 : T = 0
  · rw [h0, Int.natAbs_zero, rungOf_zero]; cases neg <;> rfl
  · rw [h h0]
    by_cases h1 : T < 0
    · rw [decide_eq_true h1, if_pos rfl, if_pos h1]
    · rw [decide_eq_false h1, if_neg (by simp), if_neg h1]

theorem key_bound {u : Nat} (n : nanB u = false) : -9218868437227405312 ≤ skey u ∧ skey u ≤ 9218868437227405312 := by
  have := nanB_not n
  unfold skey
  split <;> omega

theorem add_fin {x z : Nat} (hx : rung x < 9218868437227405312) (hz : rung z < 9218868437227405312) : ∃ neg, double.add x z = some (wordD neg (rungOf (sval x + sval z).natAbs 0)) ∧ (sval x + sval z ≠ 0 → neg = decide (sval x + sval z < 0)) ∧ (sval x + sval z = 0 → neg = (sgnB x && sgnB z)) := by
  obtain ⟨m, k, e1, a1, _⟩ := read_fin hx
  obtain ⟨n, l, e2, a2, _⟩ := read_fin hz
  unfold Format.add
  rw [e1, e2]
  simp only [Datum.sum, Option.map_some, write_number]
  have c1 : (-1074 + (k : Int) - min (-1074 + (k : Int)) (-1074 + (l : Int))).toNat = k - min k l := by omega
  have c2 : (-1074 + (l : Int) - min (-1074 + (k : Int)) (-1074 + (l : Int))).toNat = l - min k l := by omega
  have c3 : min (-1074 + (k : Int)) (-1074 + (l : Int)) = ((min k l : Nat) : Int) - 1074 - ((0 : Nat) : Int) := by omega
  rw [c1, c2, c3, near_rungOf]
  have t1 := signed_mul (sgnB x) m (k - min k l) (min k l)
  have t2 := signed_mul (sgnB z) n (l - min k l) (min k l)
  rw [show k - min k l + min k l = k by omega, signed_sval a1] at t1
  rw [show l - min k l + min k l = l by omega, signed_sval a2] at t2
  obtain ⟨a, ea⟩ : ∃ a, signed (sgnB x) m (k - min k l) = a := ⟨_, rfl⟩
  obtain ⟨b, eb⟩ : ∃ b, signed (sgnB z) n (l - min k l) = b := ⟨_, rfl⟩
  rw [ea] at t1
  rw [eb] at t2
  rw [ea, eb]
  have p := Nat.two_pow_pos (min k l)
  obtain ⟨P, eP⟩ : ∃ P, 2 ^ min k l = P := ⟨_, rfl⟩
  rw [eP] at t1 t2 p ⊢
  have tot : sval x + sval z = (a + b) * (P : Int) := by rw [Int.add_mul, t1, t2]
  rw [tot, Int.natAbs_mul, Int.natAbs_natCast]
  have pP : (0 : Int) < P := by omega
  have hz0 : (a + b) * (P : Int) = 0 ↔ a + b = 0 := by
    constructor
    · intro h
      rcases Int.mul_eq_zero.1 h with h | h
      · exact h
      · omega
    · intro h; rw [h, Int.zero_mul]
  have hlt : (a + b) * (P : Int) < 0 ↔ a + b < 0 := by
    constructor
    · intro h
      by_cases h1 : a + b < 0
      · exact h1
      · have := Int.mul_nonneg (show (0 : Int) ≤ a + b by omega) (by omega : (0 : Int) ≤ P)
        omega
    · intro h
      exact Int.mul_neg_of_neg_of_pos h pP
  refine ⟨_, rfl, ?_, ?_⟩
  · intro h
    rw [if_neg (fun h1 => h (hz0.2 h1))]
    exact decide_eq_decide.2 hlt.symm
  · intro h
    rw [if_pos (hz0.1 h)]

theorem add_key {x z : Nat} (hx : rung x < 9218868437227405312) (hz : rung z < 9218868437227405312) : ∃ r, double.add x z = some r ∧ skey r = srung (sval x + sval z) 0 := by
  obtain ⟨neg, h1, h2, _⟩ := add_fin hx hz
  exact ⟨_, h1, skey_srung h2⟩

theorem add_inf_l {x z : Nat} (hx : rung x = 9218868437227405312) (hz : rung z < 9218868437227405312) : double.add x z = some (wordD (sgnB x) 9218868437227405312) := by
  obtain ⟨n, l, e2, _⟩ := read_fin hz
  unfold Format.add
  rw [read_inf hx, e2]
  simp only [Datum.sum, Option.map_some, write_infinity]
theorem add_inf_r {x z : Nat} (hx : nanB x = false) (hz : rung z = 9218868437227405312) {r : Nat} (h : double.add x z = some r) : skey r = skey z := by
  have hx' := nanB_not hx
  have key : skey (wordD (sgnB z) 9218868437227405312) = skey z := by
    rw [skey_wordD (Nat.le_refl _)]; unfold skey; rw [hz]
  rcases Nat.lt_or_ge (rung x) 9218868437227405312 with f | i
  · rw [add_comm', add_inf_l hz f] at h
    cases h
    exact key
  · have i' : rung x = 9218868437227405312 := by omega
    unfold Format.add at h
    rw [read_inf i', read_inf hz] at h
    simp only [Datum.sum] at h
    by_cases e : sgnB x = sgnB z
    · rw [if_pos e] at h
      simp only [Option.map_some, write_infinity] at h
      cases h
      rw [e]
      exact key
    · rw [if_neg e] at h
      cases h

theorem skey_le_sval {x y : Nat} (h : skey x ≤ skey y) : sval x ≤ sval y := by
  have := @sval_lt y x
  by_cases h1 : sval y < sval x
  · have := this.1 h1; omega
  · omega

theorem add_mono {x y z a b : Nat} (nx : nanB x = false) (ny : nanB y = false) (nz : nanB z = false) (h : skey x ≤ skey y) (ha : double.add x z = some a) (hb : double.add y z = some b) : skey a ≤ skey b := by
  have hx := nanB_not nx
  have hy := nanB_not ny
  have hz := nanB_not nz
  rcases Nat.lt_or_ge (rung z) 9218868437227405312 with fz | iz
  · rcases Nat.lt_or_ge (rung x) 9218868437227405312 with fx | ix
    · obtain ⟨r, e1, k1⟩ := add_key fx fz
      rw [ha] at e1
      cases e1
      rcases Nat.lt_or_ge (rung y) 9218868437227405312 with fy | iy
      · obtain ⟨r', e2, k2⟩ := add_key fy fz
        rw [hb] at e2
        cases e2
        rw [k1, k2]
        have := skey_le_sval h
        exact srung_mono (by omega)
      · have iy' : rung y = 9218868437227405312 := by omega
        rw [add_inf_l iy' fz] at hb
        cases hb
        rw [skey_wordD (Nat.le_refl _)]
        cases s : sgnB y
        · have := srung_abs (sval x + sval z) 0
          rw [k1]
          simp
          omega
        · exfalso
          unfold skey at h
          rw [s, iy'] at h
          simp at h
          split at h <;> omega
    · have ix' : rung x = 9218868437227405312 := by omega
      rw [add_inf_l ix' fz] at ha
      cases ha
      rw [skey_wordD (Nat.le_refl _)]
      cases s : sgnB x
      · have iy' : rung y = 9218868437227405312 ∧ sgnB y = false := by
          unfold skey at h
          rw [s, ix'] at h
          cases t : sgnB y
          · rw [t] at h; simp at h; exact ⟨by omega, rfl⟩
          · rw [t] at h; simp at h; omega
        rw [add_inf_l iy'.1 fz] at hb
        cases hb
        rw [skey_wordD (Nat.le_refl _), iy'.2]
        simp
      · have nb : -9218868437227405312 ≤ skey b := by
          rcases Nat.lt_or_ge (rung y) 9218868437227405312 with fy | iy
          · obtain ⟨r', e2, k2⟩ := add_key fy fz
            rw [hb] at e2
            cases e2
            rw [k2]
            exact (srung_abs _ _).1
          · rw [add_inf_l (by omega) fz] at hb
            cases hb
            rw [skey_wordD (Nat.le_refl _)]
            split <;> omega
        simp
        omega
  · have iz' : rung z = 9218868437227405312 := by omega
    rw [add_inf_r nx iz' ha, add_inf_r ny iz' hb]
    exact Int.le_refl _

theorem mul_fin {x z : Nat} (hx : rung x < 9218868437227405312) (hz : rung z < 9218868437227405312) : double.mul x z = some (wordD (sgnB x ^^ sgnB z) (rungOf (amt (rung x) * amt (rung z)) 1074)) := by
  obtain ⟨m, k, e1, a1, _⟩ := read_fin hx
  obtain ⟨n, l, e2, a2, _⟩ := read_fin hz
  unfold Format.mul
  rw [e1, e2]
  simp only [Datum.product, Option.map_some, write_number]
  have c : -1074 + (k : Int) + (-1074 + (l : Int)) = ((k + l : Nat) : Int) - 1074 - ((1074 : Nat) : Int) := by omega
  rw [c, near_rungOf, ← a1, ← a2]
  have e : m * n * 2 ^ (k + l) = m * 2 ^ k * (n * 2 ^ l) := by
    rw [Nat.pow_add, Nat.mul_assoc, Nat.mul_assoc]
    congr 1
    rw [← Nat.mul_assoc, ← Nat.mul_assoc, Nat.mul_comm n]
  rw [e]

theorem sval_mul (x z : Nat) : (sval x * sval z).natAbs = amt (rung x) * amt (rung z) ∧ (sval x * sval z ≠ 0 → (sgnB x ^^ sgnB z) = decide (sval x * sval z < 0)) := by
  unfold sval
  obtain ⟨a, ea⟩ : ∃ a, amt (rung x) = a := ⟨_, rfl⟩
  obtain ⟨b, eb⟩ : ∃ b, amt (rung z) = b := ⟨_, rfl⟩
  rw [ea, eb]
  have hp : (0 : Int) ≤ (a : Int) * b := Int.mul_nonneg (by omega) (by omega)
  refine ⟨?_, ?_⟩
  · rw [Int.natAbs_mul]
    cases sgnB x <;> cases sgnB z <;> simp
  · intro h
    obtain ⟨c, ec⟩ : ∃ c : Int, (a : Int) * b = c := ⟨_, rfl⟩
    rw [ec] at hp
    revert h
    cases sgnB x <;> cases sgnB z <;> intro h <;> simp only [Bool.false_eq_true, if_false, if_true, Int.neg_mul, Int.mul_neg, Int.neg_neg] at h ⊢ <;> rw [ec] at h ⊢
    · have : ¬ c < 0 := by omega
      rw [decide_eq_false this]; rfl
    · have : -c < 0 := by omega
      rw [decide_eq_true this]; rfl
    · have : -c < 0 := by omega
      rw [decide_eq_true this]; rfl
    · have : ¬ c < 0 := by omega
      rw [decide_eq_false this]; rfl

theorem mul_key {x z : Nat} (hx : rung x < 9218868437227405312) (hz : rung z < 9218868437227405312) : ∃ r, double.mul x z = some r ∧ skey r = srung (sval x * sval z) 1074 := by
  obtain ⟨e, s⟩ := sval_mul x z
  refine ⟨_, mul_fin hx hz, ?_⟩
  rw [← e]
  exact skey_srung s

theorem sval_sign {u : Nat} : (0 < rung u → (if sgnB u then sval u < 0 else 0 < sval u)) ∧ (rung u = 0 → sval u = 0) := by
  have h1 := @amt_lt_iff 0 (rung u)
  rw [amt_zero] at h1
  refine ⟨fun h => ?_, fun h => ?_⟩
  · have := h1.2 h
    unfold sval
    cases sgnB u <;> simp <;> omega
  · unfold sval
    rw [h, amt_zero]
    cases sgnB u <;> rfl

/-- The product with an infinity. -/
theorem mul_inf_l {x z r : Nat} (hx : rung x = 9218868437227405312) (nz : nanB z = false) (h : double.mul x z = some r) : rung z ≠ 0 ∧ skey r = if (sgnB x ^^ sgnB z) then -9218868437227405312 else 9218868437227405312 := by
  have hz := nanB_not nz
  unfold Format.mul at h
  rw [read_inf hx] at h
  rcases Nat.lt_or_ge (rung z) 9218868437227405312 with f | i
  · obtain ⟨n, l, e2, a2, _⟩ := read_fin f
    rw [e2] at h
    simp only [Datum.product] at h
    by_cases hn : n = 0
    · rw [if_pos hn] at h; cases h
    · rw [if_neg hn] at h
      simp only [Option.map_some, write_infinity] at h
      cases h
      refine ⟨?_, ?_⟩
      · intro e
        rw [e, amt_zero] at a2
        have := Nat.two_pow_pos l
        rcases Nat.mul_eq_zero.1 a2 with h | h <;> omega
      · rw [skey_wordD (Nat.le_refl _)]
        rfl
  · have i' : rung z = 9218868437227405312 := by omega
    rw [read_inf i'] at h
    simp only [Datum.product, Option.map_some, write_infinity] at h
    cases h
    refine ⟨by omega, ?_⟩
    rw [skey_wordD (Nat.le_refl _)]
    rfl

theorem mul_bound {x z r : Nat} (nx : nanB x = false) (nz : nanB z = false) (h : double.mul x z = some r) : -9218868437227405312 ≤ skey r ∧ skey r ≤ 9218868437227405312 := by
  have hx := nanB_not nx
  have hz := nanB_not nz
  rcases Nat.lt_or_ge (rung x) 9218868437227405312 with fx | ix
  · rcases Nat.lt_or_ge (rung z) 9218868437227405312 with fz | iz
    · obtain ⟨r', e, k⟩ := mul_key fx fz
      rw [h] at e
      cases e
      rw [k]
      exact srung_abs _ _
    · rw [mul_comm'] at h
      rw [(mul_inf_l (by omega) nx h).2]
      split <;> omega
  · rw [(mul_inf_l (by omega) nz h).2]
    split <;> omega

/-- Products with one that is not below 0 rise. -/
theorem mul_mono {x y z a b : Nat} (nx : nanB x = false) (ny : nanB y = false) (nz : nanB z = false) (h : skey x ≤ skey y) (h0 : 0 ≤ skey z) (ha : double.mul x z = some a) (hb : double.mul y z = some b) : skey a ≤ skey b := by
  have hx := nanB_not nx
  have hy := nanB_not ny
  have hz := nanB_not nz
  have ba := mul_bound nx nz ha
  have bb := mul_bound ny nz hb
  have zs : rung z ≠ 0 → sgnB z = false := by
    intro hz0
    cases s : sgnB z
    · rfl
    · unfold skey at h0; rw [s] at h0; simp at h0; omega
  rcases Nat.lt_or_ge (rung z) 9218868437227405312 with fz | iz
  · rcases Nat.lt_or_ge (rung x) 9218868437227405312 with fx | ix
    · rcases Nat.lt_or_ge (rung y) 9218868437227405312 with fy | iy
      · obtain ⟨r1, e1, k1⟩ := mul_key fx fz
        obtain ⟨r2, e2, k2⟩ := mul_key fy fz
        rw [ha] at e1
        rw [hb] at e2
        cases e1
        cases e2
        rw [k1, k2]
        have h1 := skey_le_sval h
        have h2 : 0 ≤ sval z := by
          have := @sval_sign z
          by_cases hz0 : rung z = 0
          · rw [this.2 hz0]; exact Int.le_refl _
          · have h3 := this.1 (by omega)
            rw [zs hz0] at h3
            simp at h3
            omega
        exact srung_mono (Int.mul_le_mul_of_nonneg_right h1 h2)
      · obtain ⟨q, k⟩ := mul_inf_l (by omega) nz hb
        cases s : sgnB y
        · rw [k, s, zs q]; simp; omega
        · exfalso
          unfold skey at h
          rw [s] at h
          simp at h
          split at h <;> omega
    · obtain ⟨q, k⟩ := mul_inf_l (by omega) nz ha
      cases s : sgnB x
      · have iy' : rung y = 9218868437227405312 ∧ sgnB y = false := by
          unfold skey at h
          rw [s] at h
          cases t : sgnB y
          · rw [t] at h; simp at h; exact ⟨by omega, rfl⟩
          · rw [t] at h; simp at h; omega
        obtain ⟨_, k'⟩ := mul_inf_l iy'.1 nz hb
        rw [k, k', s, iy'.2]
        exact Int.le_refl _
      · rw [k, s, zs q]; simp; omega
  · have iz' : rung z = 9218868437227405312 := by omega
    have sz := zs (by omega)
    rw [mul_comm'] at ha hb
    obtain ⟨q1, k1⟩ := mul_inf_l iz' nx ha
    obtain ⟨q2, k2⟩ := mul_inf_l iz' ny hb
    rw [k1, k2, sz]
    cases s : sgnB x
    · have : sgnB y = false := by
        cases t : sgnB y
        · rfl
        · exfalso
          unfold skey at h
          rw [s, t] at h
          simp at h
          omega
      rw [this]
      exact Int.le_refl _
    · simp
      split <;> omega

/-- With one that is not above 0 they fall. -/
theorem mul_anti {x y z a b : Nat} (nx : nanB x = false) (ny : nanB y = false) (nz : nanB z = false) (h : skey x ≤ skey y) (h0 : skey z < 0) (ha : double.mul x z = some a) (hb : double.mul y z = some b) : skey b ≤ skey a := by
  have hx := nanB_not nx
  have hy := nanB_not ny
  have hz := nanB_not nz
  have ba := mul_bound nx nz ha
  have bb := mul_bound ny nz hb
  have zs : sgnB z = true ∧ 0 < rung z := by
    unfold skey at h0
    cases s : sgnB z
    · rw [s] at h0; simp at h0; omega
    · rw [s] at h0; simp at h0; exact ⟨rfl, by omega⟩
  rcases Nat.lt_or_ge (rung z) 9218868437227405312 with fz | iz
  · rcases Nat.lt_or_ge (rung x) 9218868437227405312 with fx | ix
    · rcases Nat.lt_or_ge (rung y) 9218868437227405312 with fy | iy
      · obtain ⟨r1, e1, k1⟩ := mul_key fx fz
        obtain ⟨r2, e2, k2⟩ := mul_key fy fz
        rw [ha] at e1
        rw [hb] at e2
        cases e1
        cases e2
        rw [k1, k2]
        have h1 := skey_le_sval h
        have h2 : sval z ≤ 0 := by
          have h3 := (@sval_sign z).1 zs.2
          rw [zs.1] at h3
          simp at h3
          omega
        exact srung_mono (Int.mul_le_mul_of_nonpos_right h1 h2)
      · obtain ⟨q, k⟩ := mul_inf_l (by omega) nz hb
        cases s : sgnB y
        · rw [k, s, zs.1]; simp; omega
        · exfalso
          unfold skey at h
          rw [s] at h
          simp at h
          split at h <;> omega
    · obtain ⟨q, k⟩ := mul_inf_l (by omega) nz ha
      cases s : sgnB x
      · have iy' : rung y = 9218868437227405312 ∧ sgnB y = false := by
          unfold skey at h
          rw [s] at h
          cases t : sgnB y
          · rw [t] at h; simp at h; exact ⟨by omega, rfl⟩
          · rw [t] at h; simp at h; omega
        obtain ⟨_, k'⟩ := mul_inf_l iy'.1 nz hb
        rw [k, k', s, iy'.2]
        exact Int.le_refl _
      · rw [k, s, zs.1]; simp; omega
  · have iz' : rung z = 9218868437227405312 := by omega
    rw [mul_comm'] at ha hb
    obtain ⟨q1, k1⟩ := mul_inf_l iz' nx ha
    obtain ⟨q2, k2⟩ := mul_inf_l iz' ny hb
    rw [k1, k2, zs.1]
    cases s : sgnB x
    · have : sgnB y = false := by
        cases t : sgnB y
        · rfl
        · exfalso
          unfold skey at h
          rw [s, t] at h
          simp at h
          omega
      rw [this]
      exact Int.le_refl _
    · simp
      split <;> omega
end Go.Proofs.YtiglacchpmooeaaGreatDoor
