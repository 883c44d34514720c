/- Whole numbers as reals: their products and quotients are the nearest reals. -/
import Derived.Test.YtbengmceiaejeaaGreatDoorFbT1
import Derived.Test.YtbengmceiaejeaaGreatDoorProdM
import Derived.Test.YtbengmceiaejeaaGreatDoorFbW3
namespace Go.Proofs.YtbengmceiaejeaaGreatDoor
open Ieee

theorem frac_iff {A t k m Q Z : Nat} (hZ : Z = 1074) (hm0 : 0 < m) (hm : m < 9007199254740992) (hQ : Q = 0 ∨ 4503599627370496 ≤ m) (hf : Q * 4503599627370496 + m < 9218868437227405312) (ht : 0 < t) (hA : 0 < A) (h60 : A % t ≠ 0 → 2 ^ 60 ≤ A / t) :
    (if A % t = 0 then nearR (A / t) (-(k : Int)) else nearR (A / t * 2 ^ 2 + 1) (-(k : Int) - 2)) = Q * 4503599627370496 + m ↔ InW m Q (2 ^ (Q + k) * t) (4 * (A * 2 ^ Z)) := by
  have hdm := Nat.div_add_mod A t
  have hmod := Nat.mod_lt A ht
  obtain ⟨q, eq⟩ : ∃ q, A / t = q := ⟨_, rfl⟩
  obtain ⟨r, er⟩ : ∃ q, A % t = q := ⟨_, rfl⟩
  rw [eq, er] at hdm h60
  rw [er] at hmod
  rw [eq, er, ← hdm, Nat.mul_comm t q]
  by_cases hr : r = 0
  · rw [if_pos hr, hr, Nat.add_zero, near_at q k Z _ hZ (by omega)]
    have e3 : 4 * (q * t * 2 ^ Z) = 4 * (q * 2 ^ Z) * t := by ac_rfl
    have hq : 0 < q := by
      rcases Nat.eq_zero_or_pos q with h | h
      · rw [h, hr] at hdm; omega
      · exact h
    rw [e3, inW_scale ht]
    exact rungOf_iff (Nat.pos_iff_ne_zero.1 (Nat.mul_pos hq (Nat.two_pow_pos _))) hm0 hm hQ hf
  · rw [if_neg hr, near_at (q * 2 ^ 2 + 1) (k + 2) Z _ hZ (by omega)]
    rw [rungOf_iff (Nat.pos_iff_ne_zero.1 (Nat.mul_pos (by omega) (Nat.two_pow_pos _))) hm0 hm hQ hf]
    exact inW_sticky hm0 hm (h60 hr) (by omega) hmod

theorem wordD_f (r : Nat) : wordD false r = r := rfl

theorem key_div {M T m1 m2 k1 k2 kk E w : Nat} (hE : 0 < E) (a1 : m1 * 2 ^ k1 = M * E) (a2 : m2 * 2 ^ k2 = T * E) (ekk : kk + k1 = w + k2) : M * 2 ^ kk * m2 = m1 * 2 ^ w * T := by
  have hp : 0 < 2 ^ k1 * E := Nat.mul_pos (Nat.two_pow_pos _) hE
  refine Nat.eq_of_mul_eq_mul_right hp ?_
  have e1 : M * 2 ^ kk * m2 * (2 ^ k1 * E) = (M * E) * (2 ^ kk * 2 ^ k1) * m2 := by ac_rfl
  have e2 : m1 * 2 ^ w * T * (2 ^ k1 * E) = (m1 * 2 ^ k1) * 2 ^ w * (T * E) := by ac_rfl
  rw [e1, e2, ← a1, ← a2, ← Nat.pow_add, ekk, Nat.pow_add]
  ac_rfl

theorem key_div2 {M T m1 m2 kk E Q w : Nat} (key : M * 2 ^ kk * m2 = m1 * 2 ^ w * T) : 4 * (M * E) * (2 ^ (Q + kk) * m2) = 4 * (m1 * 2 ^ w * E) * (2 ^ Q * T) := by
  rw [Nat.pow_add]
  have e1 : 4 * (M * E) * (2 ^ Q * 2 ^ kk * m2) = 4 * E * 2 ^ Q * (M * 2 ^ kk * m2) := by ac_rfl
  rw [e1, key]
  ac_rfl

theorem k1_le {M m1 k1 Z : Nat} (hM : M < 9007199254740992) (a1 : m1 * 2 ^ k1 = M * 2 ^ Z) (g1 : k1 ≠ 0 → 4503599627370496 ≤ m1) : k1 ≤ Z := by
  rcases Nat.lt_or_ge Z k1 with h | h
  · exfalso
    have h52 := g1 (by omega)
    have t1 : 4503599627370496 * 2 ^ k1 ≤ M * 2 ^ Z := by rw [← a1]; exact Nat.mul_le_mul_right _ h52
    have t2 : 2 ^ (Z + 1) ≤ 2 ^ k1 := Nat.pow_le_pow_right (by decide) h
    rw [Nat.pow_succ, Nat.mul_comm] at t2
    have t3 : M * 2 ^ Z < 9007199254740992 * 2 ^ Z := Nat.mul_lt_mul_of_pos_right hM (Nat.two_pow_pos Z)
    generalize 2 ^ Z = E at *
    generalize 2 ^ k1 = K at *
    omega
  · exact h

theorem k2_ge {T m2 k2 Z : Nat} (hT0 : 0 < T) (a2 : m2 * 2 ^ k2 = T * 2 ^ Z) (l2 : m2 < 9007199254740992) : Z ≤ k2 + 128 := by
  rcases Nat.lt_or_ge (k2 + 128) Z with h | h
  · exfalso
    have t1 : m2 * 2 ^ k2 < 2 ^ 53 * 2 ^ k2 := Nat.mul_lt_mul_of_pos_right l2 (Nat.two_pow_pos _)
    rw [← Nat.pow_add] at t1
    have t2 : 2 ^ (53 + k2) ≤ 2 ^ Z := Nat.pow_le_pow_right (by decide) (by omega)
    have t3 : 2 ^ Z ≤ T * 2 ^ Z := Nat.le_mul_of_pos_left _ hT0
    exact absurd (Nat.lt_of_lt_of_le t1 (Nat.le_trans t2 t3)) (by rw [a2]; exact Nat.lt_irrefl _)
  · exact h

theorem div_int {s : Bool} {rM rT M T m Q Z : Nat} (hZ : Z = 1074) (hrM : rM < 9218868437227405312) (aM : amt rM = M * 2 ^ Z) (hrT : rT < 9218868437227405312) (aT : amt rT = T * 2 ^ Z) (hM0 : 0 < M) (hM : M < 9007199254740992) (hT0 : 0 < T) (hm0 : 0 < m) (hm : m < 9007199254740992) (hQ : Q = 0 ∨ 4503599627370496 ≤ m) (hf : Q * 4503599627370496 + m < 9218868437227405312) (hi : InW m Q (2 ^ Q * T) (4 * (M * 2 ^ Z))) :
    double.div (wordD s rM) rT = some (wordD s (Q * 4503599627370496 + m)) := by
  have ru : rung (wordD s rM) = rM := rung_wordD (by omega)
  have su : sgnB (wordD s rM) = s := sgn_wordD (by omega)
  have rv : rung rT = rT := by have := rung_wordD (neg := false) (r := rT) (by omega); exact this
  have sv : sgnB rT = false := by have := sgn_wordD (neg := false) (r := rT) (by omega); exact this
  obtain ⟨m1, k1, _, a1, _, l1, g1⟩ := read_fin (u := wordD s rM) (by rw [ru]; exact hrM)
  obtain ⟨m2, k2, _, a2, _, l2, g2⟩ := read_fin (u := rT) (by rw [rv]; exact hrT)
  rw [ru, aM] at a1
  rw [rv, aT] at a2
  have pE := Nat.two_pow_pos Z
  have pM : 0 < M * 2 ^ Z := Nat.mul_pos hM0 pE
  have pT : 0 < T * 2 ^ Z := Nat.mul_pos hT0 pE
  have z1 : 0 < m1 := by
    rcases Nat.eq_zero_or_pos m1 with h | h
    · rw [h, Nat.zero_mul] at a1; rw [← a1] at pM; exact absurd pM (Nat.lt_irrefl 0)
    · exact h
  have z2 : 0 < m2 := by
    rcases Nat.eq_zero_or_pos m2 with h | h
    · rw [h, Nat.zero_mul] at a2; rw [← a2] at pT; exact absurd pT (Nat.lt_irrefl 0)
    · exact h
  have nz : rM ≠ 0 := fun h => by rw [h, amt_zero] at aM; rw [← aM] at pM; exact absurd pM (Nat.lt_irrefl 0)
  have nz2 : rT ≠ 0 := fun h => by rw [h, amt_zero] at aT; rw [← aT] at pT; exact absurd pT (Nat.lt_irrefl 0)
  have hk1 := k1_le hM a1 g1
  have hk2 := k2_ge hT0 a2 l2
  obtain ⟨kk, ekk⟩ : ∃ kk, kk + k1 = 128 + k2 := ⟨128 + k2 - k1, by omega⟩
  have hw := quotient_word (u := wordD s rM) (v := rT) (by rw [ru]; exact hrM) (by rw [rv]; exact hrT) (by rw [ru]; exact nz) (by rw [rv]; exact nz2) (by rw [ru, aM]; exact a1) (by rw [rv, aT]; exact a2) l1 l2 (by omega) (by omega)
  rw [show (k1 : Int) - 1074 - ((k2 : Int) - 1074) - 128 = -(kk : Int) by omega, su, sv, Bool.xor_false] at hw
  rw [hw]
  congr 2
  refine (frac_iff hZ hm0 hm hQ hf z2 (Nat.mul_pos z1 (Nat.two_pow_pos _)) ?_).2 ?_
  · intro _
    rw [Nat.le_div_iff_mul_le z2]
    have h3 : 2 ^ 60 * m2 ≤ 2 ^ 60 * 2 ^ 53 := Nat.mul_le_mul_left _ (Nat.le_of_lt l2)
    have h4 : 1 * 2 ^ 128 ≤ m1 * 2 ^ 128 := Nat.mul_le_mul_right _ z1
    exact Nat.le_trans h3 (Nat.le_trans (by decide) h4)
  · exact inW_ratio (Nat.mul_pos (Nat.two_pow_pos _) z2) (Nat.mul_pos (Nat.two_pow_pos _) hT0) (key_div2 (key_div pE a1 a2 ekk)) hi

theorem mul_int {s : Bool} {rM rT M T m Q Z : Nat} (hZ : Z = 1074) (hrM : rM < 9218868437227405312) (aM : amt rM = M * 2 ^ Z) (hrT : rT < 9218868437227405312) (aT : amt rT = T * 2 ^ Z) (hM0 : 0 < M) (hT0 : 0 < T) (hm0 : 0 < m) (hm : m < 9007199254740992) (hQ : Q = 0 ∨ 4503599627370496 ≤ m) (hf : Q * 4503599627370496 + m < 9218868437227405312) (hi : InW m Q (2 ^ Q) (4 * (M * T * 2 ^ Z))) :
    double.mul (wordD s rM) rT = some (wordD s (Q * 4503599627370496 + m)) := by
  have ru : rung (wordD s rM) = rM := rung_wordD (by omega)
  have su : sgnB (wordD s rM) = s := sgn_wordD (by omega)
  have rv : rung rT = rT := by have := rung_wordD (neg := false) (r := rT) (by omega); exact this
  have sv : sgnB rT = false := by have := sgn_wordD (neg := false) (r := rT) (by omega); exact this
  have pE := Nat.two_pow_pos Z
  rw [mul_fin (by rw [ru]; exact hrM) (by rw [rv]; exact hrT), ru, rv, su, sv, Bool.xor_false, aM, aT, ← hZ]
  have hr : rungOf (M * 2 ^ Z * (T * 2 ^ Z)) Z = Q * 4503599627370496 + m := by
    refine (rungOf_iff (Nat.pos_iff_ne_zero.1 (Nat.mul_pos (Nat.mul_pos hM0 pE) (Nat.mul_pos hT0 pE))) hm0 hm hQ hf).2 ?_
    have e1 : 4 * (M * 2 ^ Z * (T * 2 ^ Z)) = 4 * (M * T * 2 ^ Z) * 2 ^ Z := by ac_rfl
    rw [e1, Nat.pow_add, inW_scale pE]
    exact hi
  rw [hr]
end Go.Proofs.YtbengmceiaejeaaGreatDoor
/- atof64exact walked: where it answers, it answers the nearest real. -/
namespace Go.Proofs.YtbengmceiaejeaaGreatDoor
open Go.ChangeShapes Go.WideShapes Go.ChangeAt Go.RowKit Ieee

/-- A real's sign put ahead. -/
theorem neg_word (s : Bool) (r : Nat) (hr : r < 9218868437227405312) : ∃ F, F = wordD s r ∧ (s = true → Op.unary .neg (.float .f64 r) = pure (.float .f64 F)) ∧ (s = false → F = r) := by
  refine ⟨_, rfl, fun h => ?_, fun h => by rw [h]; rfl⟩
  have h1 := unOp_negf r (by omega)
  have h2 := flip_wordD (neg := false) (r := r) (by omega)
  rw [h, h1]
  congr 2

theorem ex_big (w : World) (s : Bool) (M : Nat) (e : Int) (hM : 4503599627370496 ≤ M) (hM2 : M < 18446744073709551616) (c0 : w.cell? ⟨8, 0, none⟩ = some (.int .u64 52)) :
    Calls Tryz.prog 146 #[.int .u64 (M : Int), .int .i64 e, .bool s] w fun x w' => x = .returned (.tuple #[.float .f64 0, .bool false]) ∧ w' = w := by
  have hne : ((M : Int) / 4503599627370496 != 0) = true := by simp; omega
  go_enter Tryz.func146, Tryz.ntmps146
  go_wp2
  go_ret2
  exact ⟨rfl, rfl⟩

theorem ex_div (w : World) (s : Bool) (M k rM rT F R c : Nat) (a : Addr) (hM : M < 4503599627370496) (hk : 1 ≤ k ∧ k ≤ 22) (CV : floatOfInt .f64 (M : Int) = rM) (NG : s = true → Op.unary .neg (.float .f64 rM) = pure (.float .f64 F)) (NF : s = false → F = rM) (DV : double.div F rT = some R)
    (c0 : w.cell? ⟨8, 0, none⟩ = some (.int .u64 52)) (c1 : w.cell? ⟨12, 0, none⟩ = some (.slice (some a) 23 c)) (c2 : w.cell? (a.add k) = some (.float .f64 rT)) :
    Calls Tryz.prog 146 #[.int .u64 (M : Int), .int .i64 (-(k : Int)), .bool s] w fun x w' => x = .returned (.tuple #[.float .f64 R, .bool true]) ∧ w' = w := by
  have hne : ((M : Int) / 4503599627370496 != 0) = false := by simp; omega
  have hR := fun (t : TypeId) (w : World) => run_float_arith (P := Tryz.prog) w .quo t .f64 F rT R DV
  obtain ⟨e, ee⟩ : ∃ e : Int, -(k : Int) = e := ⟨_, rfl⟩
  have e1 : -e = (k : Int) := by omega
  have e2 : e < 0 ∧ -22 ≤ e := by omega
  rw [ee]
  clear ee DV
  cases s
  · have := NF rfl
    subst this
    clear NF NG
    go_enter Tryz.func146, Tryz.ntmps146
    go_wp2
    go_ret2
    exact ⟨rfl, rfl⟩
  · have NG := NG rfl
    clear NF
    go_enter Tryz.func146, Tryz.ntmps146
    go_wp2
    go_ret2
    exact ⟨rfl, rfl⟩

theorem ex_zero (w : World) (s : Bool) (M rM F : Nat) (hM : M < 4503599627370496) (CV : floatOfInt .f64 (M : Int) = rM) (NG : s = true → Op.unary .neg (.float .f64 rM) = pure (.float .f64 F)) (NF : s = false → F = rM) (c0 : w.cell? ⟨8, 0, none⟩ = some (.int .u64 52)) :
    Calls Tryz.prog 146 #[.int .u64 (M : Int), .int .i64 0, .bool s] w fun x w' => x = .returned (.tuple #[.float .f64 F, .bool true]) ∧ w' = w := by
  have hne : ((M : Int) / 4503599627370496 != 0) = false := by simp; omega
  cases s
  · have := NF rfl
    subst this
    clear NF NG
    go_enter Tryz.func146, Tryz.ntmps146
    go_wp2
    go_ret2
    exact ⟨rfl, rfl⟩
  · have NG := NG rfl
    clear NF
    go_enter Tryz.func146, Tryz.ntmps146
    go_wp2
    go_ret2
    exact ⟨rfl, rfl⟩

theorem ex_up (w : World) (s : Bool) (M rM F : Nat) (e : Int) (hM : M < 4503599627370496) (he : 37 < e) (CV : floatOfInt .f64 (M : Int) = rM) (NG : s = true → Op.unary .neg (.float .f64 rM) = pure (.float .f64 F)) (NF : s = false → F = rM) (c0 : w.cell? ⟨8, 0, none⟩ = some (.int .u64 52)) :
    Calls Tryz.prog 146 #[.int .u64 (M : Int), .int .i64 e, .bool s] w fun x w' => x = .returned (.tuple #[.float .f64 F, .bool false]) ∧ w' = w := by
  have hne : ((M : Int) / 4503599627370496 != 0) = false := by simp; omega
  cases s
  · have := NF rfl
    subst this
    clear NF NG
    go_enter Tryz.func146, Tryz.ntmps146
    go_wp2
    go_ret2
    exact ⟨rfl, rfl⟩
  · have NG := NG rfl
    clear NF
    go_enter Tryz.func146, Tryz.ntmps146
    go_wp2
    go_ret2
    exact ⟨rfl, rfl⟩

theorem ex_down (w : World) (s : Bool) (M rM F : Nat) (e : Int) (hM : M < 4503599627370496) (he : e < -22) (CV : floatOfInt .f64 (M : Int) = rM) (NG : s = true → Op.unary .neg (.float .f64 rM) = pure (.float .f64 F)) (NF : s = false → F = rM) (c0 : w.cell? ⟨8, 0, none⟩ = some (.int .u64 52)) :
    Calls Tryz.prog 146 #[.int .u64 (M : Int), .int .i64 e, .bool s] w fun x w' => x = .returned (.tuple #[.float .f64 F, .bool false]) ∧ w' = w := by
  have hne : ((M : Int) / 4503599627370496 != 0) = false := by simp; omega
  cases s
  · have := NF rfl
    subst this
    clear NF NG
    go_enter Tryz.func146, Tryz.ntmps146
    go_wp2
    go_ret2
    exact ⟨rfl, rfl⟩
  · have NG := NG rfl
    clear NF
    go_enter Tryz.func146, Tryz.ntmps146
    go_wp2
    go_ret2
    exact ⟨rfl, rfl⟩

theorem ex_mul1a (w : World) (s : Bool) (M rM F : Nat) (k : Nat) (hk : 1 ≤ k ∧ k ≤ 22) (hM : M < 4503599627370496) (CV : floatOfInt .f64 (M : Int) = rM) (NG : s = true → Op.unary .neg (.float .f64 rM) = pure (.float .f64 F)) (NF : s = false → F = rM) (g1 : (FloatKind.f64.format.order F 4831355200913801216 == some Ordering.gt) = true) (c0 : w.cell? ⟨8, 0, none⟩ = some (.int .u64 52)) :
    Calls Tryz.prog 146 #[.int .u64 (M : Int), .int .i64 (k : Int), .bool s] w fun x w' => x = .returned (.tuple #[.float .f64 F, .bool false]) ∧ w' = w := by
  have hne : ((M : Int) / 4503599627370496 != 0) = false := by simp; omega
  cases s
  · have := NF rfl
    subst this
    clear NF NG
    go_enter Tryz.func146, Tryz.ntmps146
    go_wp2
    go_ret2
    exact ⟨rfl, rfl⟩
  · have NG := NG rfl
    clear NF
    go_enter Tryz.func146, Tryz.ntmps146
    go_wp2
    go_ret2
    exact ⟨rfl, rfl⟩

theorem ex_mul1b (w : World) (s : Bool) (M rM F : Nat) (k : Nat) (hk : 1 ≤ k ∧ k ≤ 22) (hM : M < 4503599627370496) (CV : floatOfInt .f64 (M : Int) = rM) (NG : s = true → Op.unary .neg (.float .f64 rM) = pure (.float .f64 F)) (NF : s = false → F = rM) (g1 : (FloatKind.f64.format.order F 4831355200913801216 == some Ordering.gt) = false) (g2 : (FloatKind.f64.format.order F 14054727237768577024 == some Ordering.lt) = true) (c0 : w.cell? ⟨8, 0, none⟩ = some (.int .u64 52)) :
    Calls Tryz.prog 146 #[.int .u64 (M : Int), .int .i64 (k : Int), .bool s] w fun x w' => x = .returned (.tuple #[.float .f64 F, .bool false]) ∧ w' = w := by
  have hne : ((M : Int) / 4503599627370496 != 0) = false := by simp; omega
  cases s
  · have := NF rfl
    subst this
    clear NF NG
    go_enter Tryz.func146, Tryz.ntmps146
    go_wp2
    go_ret2
    exact ⟨rfl, rfl⟩
  · have NG := NG rfl
    clear NF
    go_enter Tryz.func146, Tryz.ntmps146
    go_wp2
    go_ret2
    exact ⟨rfl, rfl⟩

theorem ex_mul1c (w : World) (s : Bool) (M rM F : Nat) (c k : Nat) (a : Addr) (hk : 1 ≤ k ∧ k ≤ 22) (c1 : w.cell? ⟨12, 0, none⟩ = some (.slice (some a) 23 c)) (hM : M < 4503599627370496) (CV : floatOfInt .f64 (M : Int) = rM) (NG : s = true → Op.unary .neg (.float .f64 rM) = pure (.float .f64 F)) (NF : s = false → F = rM) (g1 : (FloatKind.f64.format.order F 4831355200913801216 == some Ordering.gt) = false) (g2 : (FloatKind.f64.format.order F 14054727237768577024 == some Ordering.lt) = false) (rT R : Nat) (M2 : double.mul F rT = some R) (c2 : w.cell? (a.add k) = some (.float .f64 rT)) (c0 : w.cell? ⟨8, 0, none⟩ = some (.int .u64 52)) :
    Calls Tryz.prog 146 #[.int .u64 (M : Int), .int .i64 (k : Int), .bool s] w fun x w' => x = .returned (.tuple #[.float .f64 R, .bool true]) ∧ w' = w := by
  have hne : ((M : Int) / 4503599627370496 != 0) = false := by simp; omega
  have hR2 := fun (t : TypeId) (w : World) => run_float_arith (P := Tryz.prog) w .mul t .f64 F rT R M2
  clear M2
  cases s
  · have := NF rfl
    subst this
    clear NF NG
    go_enter Tryz.func146, Tryz.ntmps146
    go_wp2
    go_ret2
    exact ⟨rfl, rfl⟩
  · have NG := NG rfl
    clear NF
    go_enter Tryz.func146, Tryz.ntmps146
    go_wp2
    go_ret2
    exact ⟨rfl, rfl⟩

theorem ex_mul2a (w : World) (s : Bool) (M rM F : Nat) (c k j rS G : Nat) (a : Addr) (hk : k = 22 + j) (hj : 1 ≤ j ∧ j ≤ 15) (M1 : double.mul F rS = some G) (c3 : w.cell? (a.add j) = some (.float .f64 rS)) (c1 : w.cell? ⟨12, 0, none⟩ = some (.slice (some a) 23 c)) (hM : M < 4503599627370496) (CV : floatOfInt .f64 (M : Int) = rM) (NG : s = true → Op.unary .neg (.float .f64 rM) = pure (.float .f64 F)) (NF : s = false → F = rM) (g1 : (FloatKind.f64.format.order G 4831355200913801216 == some Ordering.gt) = true) (c0 : w.cell? ⟨8, 0, none⟩ = some (.int .u64 52)) :
    Calls Tryz.prog 146 #[.int .u64 (M : Int), .int .i64 (k : Int), .bool s] w fun x w' => x = .returned (.tuple #[.float .f64 G, .bool false]) ∧ w' = w := by
  have hne : ((M : Int) / 4503599627370496 != 0) = false := by simp; omega
  have hR1 := fun (t : TypeId) (w : World) => run_float_arith (P := Tryz.prog) w .mul t .f64 F rS G M1
  have hk2 : (k : Int) - 22 = (j : Int) := by omega
  have hk3 : 23 ≤ k ∧ k ≤ 37 := by omega
  clear M1 hk
  cases s
  · have := NF rfl
    subst this
    clear NF NG
    go_enter Tryz.func146, Tryz.ntmps146
    go_wp2
    go_ret2
    exact ⟨rfl, rfl⟩
  · have NG := NG rfl
    clear NF
    go_enter Tryz.func146, Tryz.ntmps146
    go_wp2
    go_ret2
    exact ⟨rfl, rfl⟩

theorem ex_mul2b (w : World) (s : Bool) (M rM F : Nat) (c k j rS G : Nat) (a : Addr) (hk : k = 22 + j) (hj : 1 ≤ j ∧ j ≤ 15) (M1 : double.mul F rS = some G) (c3 : w.cell? (a.add j) = some (.float .f64 rS)) (c1 : w.cell? ⟨12, 0, none⟩ = some (.slice (some a) 23 c)) (hM : M < 4503599627370496) (CV : floatOfInt .f64 (M : Int) = rM) (NG : s = true → Op.unary .neg (.float .f64 rM) = pure (.float .f64 F)) (NF : s = false → F = rM) (g1 : (FloatKind.f64.format.order G 4831355200913801216 == some Ordering.gt) = false) (g2 : (FloatKind.f64.format.order G 14054727237768577024 == some Ordering.lt) = true) (c0 : w.cell? ⟨8, 0, none⟩ = some (.int .u64 52)) :
    Calls Tryz.prog 146 #[.int .u64 (M : Int), .int .i64 (k : Int), .bool s] w fun x w' => x = .returned (.tuple #[.float .f64 G, .bool false]) ∧ w' = w := by
  have hne : ((M : Int) / 4503599627370496 != 0) = false := by simp; omega
  have hR1 := fun (t : TypeId) (w : World) => run_float_arith (P := Tryz.prog) w .mul t .f64 F rS G M1
  have hk2 : (k : Int) - 22 = (j : Int) := by omega
  have hk3 : 23 ≤ k ∧ k ≤ 37 := by omega
  clear M1 hk
  cases s
  · have := NF rfl
    subst this
    clear NF NG
    go_enter Tryz.func146, Tryz.ntmps146
    go_wp2
    go_ret2
    exact ⟨rfl, rfl⟩
  · have NG := NG rfl
    clear NF
    go_enter Tryz.func146, Tryz.ntmps146
    go_wp2
    go_ret2
    exact ⟨rfl, rfl⟩

theorem ex_mul2c (w : World) (s : Bool) (M rM F : Nat) (c k j rS G : Nat) (a : Addr) (hk : k = 22 + j) (hj : 1 ≤ j ∧ j ≤ 15) (M1 : double.mul F rS = some G) (c3 : w.cell? (a.add j) = some (.float .f64 rS)) (c1 : w.cell? ⟨12, 0, none⟩ = some (.slice (some a) 23 c)) (hM : M < 4503599627370496) (CV : floatOfInt .f64 (M : Int) = rM) (NG : s = true → Op.unary .neg (.float .f64 rM) = pure (.float .f64 F)) (NF : s = false → F = rM) (g1 : (FloatKind.f64.format.order G 4831355200913801216 == some Ordering.gt) = false) (g2 : (FloatKind.f64.format.order G 14054727237768577024 == some Ordering.lt) = false) (rT R : Nat) (M2 : double.mul G rT = some R) (c2 : w.cell? (a.add 22) = some (.float .f64 rT)) (c0 : w.cell? ⟨8, 0, none⟩ = some (.int .u64 52)) :
    Calls Tryz.prog 146 #[.int .u64 (M : Int), .int .i64 (k : Int), .bool s] w fun x w' => x = .returned (.tuple #[.float .f64 R, .bool true]) ∧ w' = w := by
  have hne : ((M : Int) / 4503599627370496 != 0) = false := by simp; omega
  have hR1 := fun (t : TypeId) (w : World) => run_float_arith (P := Tryz.prog) w .mul t .f64 F rS G M1
  have hk2 : (k : Int) - 22 = (j : Int) := by omega
  have hk3 : 23 ≤ k ∧ k ≤ 37 := by omega
  clear M1 hk
  have c2b : w.cell? ⟨a.block, a.off + 22, none⟩ = some (.float .f64 rT) := c2
  clear c2
  have hR2 := fun (t : TypeId) (w : World) => run_float_arith (P := Tryz.prog) w .mul t .f64 G rT R M2
  clear M2
  cases s
  · have := NF rfl
    subst this
    clear NF NG
    go_enter Tryz.func146, Tryz.ntmps146
    go_wp2
    go_ret2
    exact ⟨rfl, rfl⟩
  · have NG := NG rfl
    clear NF
    go_enter Tryz.func146, Tryz.ntmps146
    go_wp2
    go_ret2
    exact ⟨rfl, rfl⟩
end Go.Proofs.YtbengmceiaejeaaGreatDoor
/- atof64exact at any number: where it answers, the document's word. -/
namespace Go.Proofs.YtbengmceiaejeaaGreatDoor
open Go.ChangeShapes Go.WideShapes Go.ChangeAt Go.RowKit Ieee

def p10W (i : Nat) : Nat := ([4607182418800017408, 4621819117588971520, 4636737291354636288, 4652007308841189376, 4666723172467343360, 4681608360884174848, 4696837146684686336, 4711630319722168320, 4726483295884279808, 4741671816366391296, 4756540486875873280, 4771362005757984768, 4786511204640096256, 4801453603149578240, 4816244402031689728, 4831355200913801216, 4846369599423283200, 4861130398305394688, 4876203697187506176, 4891288408196988160, 4906019910204099648, 4921056587992461136, 4936209963552724370] : List Nat).getD i 0

theorem p10_all : (List.range 23).all (fun i => amt (p10W i) == 10 ^ i * EE && decide (p10W i < 9218868437227405312)) = true := by decide +kernel

theorem p10_at {i : Nat} (h : i < 23) : amt (p10W i) = 10 ^ i * EE ∧ p10W i < 9218868437227405312 := by
  have := List.all_eq_true.1 p10_all i (List.mem_range.2 h)
  simp only [Bool.and_eq_true, beq_iff_eq, decide_eq_true_eq] at this
  exact this

/-- What is read of the library's variables beside the powers. -/
structure RdyP (w : World) : Prop where
  info : w.cell? ⟨8, 0, none⟩ = some (.int .u64 52)
  opt : w.cell? ⟨4, 0, none⟩ = some (.bool true)
  tens : ∃ (a : Addr) (c : Nat), w.cell? ⟨12, 0, none⟩ = some (.slice (some a) 23 c) ∧ (∀ i, i < 23 → w.cell? (a.add i) = some (.float .f64 (p10W i))) ∧ a.block < w.heap.size
  s1 : 8 < w.heap.size
  s2 : 4 < w.heap.size
  s3 : 12 < w.heap.size

theorem add_block (a : Addr) (i : Nat) : (a.add i).block = a.block := by unfold Addr.add; split <;> rfl

theorem RdyP.below {w w' : World} (h : RdyP w) (hb : Below w.heap.size w w') : RdyP w' := by
  obtain ⟨h1, h2, ⟨a, c, h3, h4, h5⟩, s1, s2, s3⟩ := h
  have hs := hb.size
  exact ⟨by rw [hb.cell s1]; exact h1, by rw [hb.cell s2]; exact h2, ⟨a, c, by rw [hb.cell s3]; exact h3, fun i hi => by rw [hb.cell (by rw [add_block]; exact h5)]; exact h4 i hi, by omega⟩, by omega, by omega, by omega⟩

theorem conv_int {M rM : Nat} (hrM : rM < 9218868437227405312) (aM : amt rM = M * EE) : floatOfInt .f64 (M : Int) = rM := by
  have h : floatOfInt .f64 (M : Int) = double.nearest (decide ((M : Int) < 0)) (M : Int).natAbs 0 := rfl
  rw [h, decide_eq_false (by omega), Int.natAbs_natCast, nearest_eq, wordD_f, near_whole hrM aM]

theorem mul_near {s : Bool} {rM rT M T : Nat} (hrM : rM < 9218868437227405312) (aM : amt rM = M * EE) (hrT : rT < 9218868437227405312) (aT : amt rT = T * EE) : double.mul (wordD s rM) rT = some (wordD s (nearR (M * T) 0)) := by
  have ru : rung (wordD s rM) = rM := rung_wordD (by omega)
  have su : sgnB (wordD s rM) = s := sgn_wordD (by omega)
  have rv : rung rT = rT := by have := rung_wordD (neg := false) (r := rT) (by omega); exact this
  have sv : sgnB rT = false := by have := sgn_wordD (neg := false) (r := rT) (by omega); exact this
  rw [mul_fin (by rw [ru]; exact hrM) (by rw [rv]; exact hrT), ru, rv, su, sv, Bool.xor_false, aM, aT]
  have hn := near_rungOf (mag := M * T) (k := E0 + E0) (D := 1074)
  rw [show ((E0 + E0 : Nat) : Int) - 1074 - ((1074 : Nat) : Int) = 0 by rw [E0_eq]; rfl] at hn
  have e : M * EE * (T * EE) = M * T * 2 ^ (E0 + E0) := by
    rw [Nat.pow_add]
    have : (2 : Nat) ^ E0 = EE := rfl
    rw [this]
    generalize EE = G
    ac_rfl
  rw [hn, e]

theorem too_great {s : Bool} {n : Nat} (h : 9007199254740992 < n) : (FloatKind.f64.format.order (wordD s (nearR n 0)) 4831355200913801216 == some Ordering.gt) = true ∨ (FloatKind.f64.format.order (wordD s (nearR n 0)) 14054727237768577024 == some Ordering.lt) = true := by
  have hle := nearR_le n 0
  have hge : 4845873199050653696 ≤ nearR n 0 := by
    have a := near_rungOf (mag := n) (k := E0) (D := 0)
    have b := near_rungOf (mag := 9007199254740992) (k := E0) (D := 0)
    have z : ((E0 : Nat) : Int) - 1074 - ((0 : Nat) : Int) = 0 := by rw [E0_eq]; rfl
    rw [z] at a b
    have hmono := rungOf_mono (D := 0) (Nat.mul_le_mul_right (2 ^ E0) (Nat.le_of_lt h))
    rw [← a, ← b] at hmono
    have h53 : nearR 9007199254740992 0 = 4845873199050653696 := near_whole (by decide) (by decide +kernel)
    rw [h53] at hmono
    exact hmono
  have ru := rung_wordD (neg := s) hle
  have su := sgn_wordD (neg := s) hle
  have nu := nan_wordD (neg := s) hle
  cases s
  · left
    have o := order_gt (wordD false (nearR n 0)) 4831355200913801216
    have k1 : skey (wordD false (nearR n 0)) = (nearR n 0 : Int) := by rw [skey_pos su, ru]
    have k2 : skey 4831355200913801216 = 4831355200913801216 := by decide
    rw [k1, k2] at o
    refine o.trans (decide_eq_true ⟨nu, by decide, by omega⟩)
  · right
    have o := order_lt (wordD true (nearR n 0)) 14054727237768577024
    have k1 : skey (wordD true (nearR n 0)) = -(nearR n 0 : Int) := by rw [skey_neg su, ru]
    have k2 : skey 14054727237768577024 = -4831355200913801216 := by decide
    rw [k1, k2] at o
    refine o.trans (decide_eq_true ⟨nu, by decide, by omega⟩)

theorem exact_any (w : World) (P : RdyP w) (s : Bool) (M m Q : Nat) (e : Int) (hM0 : 0 < M) (hM : M < 18446744073709551616) (hm0 : 0 < m) (hm : m < 9007199254740992) (hsub : Q = 0 ∨ 4503599627370496 ≤ m) (hf : Q * 4503599627370496 + m < 9218868437227405312) (hw : decR M e = Q * 4503599627370496 + m) :
    Calls Tryz.prog 146 #[.int .u64 (M : Int), .int .i64 e, .bool s] w fun x w' => (∃ f ok, x = .returned (.tuple #[.float .f64 f, .bool ok]) ∧ (ok = true → f = wordD s (Q * 4503599627370496 + m))) ∧ w' = w := by
  obtain ⟨c0, _, ⟨a, c, c1, c2, _⟩, _, _, _⟩ := P
  have no : ∀ f, Calls Tryz.prog 146 #[.int .u64 (M : Int), .int .i64 e, .bool s] w (fun x w' => x = .returned (.tuple #[.float .f64 f, .bool false]) ∧ w' = w) → Calls Tryz.prog 146 #[.int .u64 (M : Int), .int .i64 e, .bool s] w fun x w' => (∃ f ok, x = .returned (.tuple #[.float .f64 f, .bool ok]) ∧ (ok = true → f = wordD s (Q * 4503599627370496 + m))) ∧ w' = w :=
    fun f h => h.mono fun x w' ⟨h1, h2⟩ => ⟨⟨f, false, h1, fun h => by cases h⟩, h2⟩
  have yes : Calls Tryz.prog 146 #[.int .u64 (M : Int), .int .i64 e, .bool s] w (fun x w' => x = .returned (.tuple #[.float .f64 (wordD s (Q * 4503599627370496 + m)), .bool true]) ∧ w' = w) → Calls Tryz.prog 146 #[.int .u64 (M : Int), .int .i64 e, .bool s] w fun x w' => (∃ f ok, x = .returned (.tuple #[.float .f64 f, .bool ok]) ∧ (ok = true → f = wordD s (Q * 4503599627370496 + m))) ∧ w' = w :=
    fun h => h.mono fun x w' ⟨h1, h2⟩ => ⟨⟨_, true, h1, fun _ => rfl⟩, h2⟩
  by_cases hb : 4503599627370496 ≤ M
  · exact no _ (ex_big w s M e hb hM c0)
  have hM52 : M < 4503599627370496 := by omega
  obtain ⟨rM, hrM, aM⟩ := whole_word (n := M) (by omega)
  have CV := conv_int hrM aM
  obtain ⟨F, hF, NG, NF⟩ := neg_word s rM hrM
  have hi := (dec_iff E0_eq hm0 hm hsub hf).1 hw
  by_cases h0 : e = 0
  · subst h0
    have hr : rM = Q * 4503599627370496 + m := by
      rw [← hw]
      unfold decR
      rw [if_pos (Int.le_refl 0)]
      have : M * 10 ^ (0 : Int).toNat = M := by simp
      rw [this, near_whole hrM aM]
    have := ex_zero w s M rM F hM52 CV NG NF c0
    rw [hF, hr] at this
    exact yes this
  by_cases hp : 0 < e
  · obtain ⟨k, rfl⟩ : ∃ k : Nat, e = (k : Int) := ⟨e.toNat, by omega⟩
    rw [(by omega : (-(k : Int)).toNat = 0), Int.toNat_natCast, Nat.pow_zero, Nat.mul_one] at hi
    by_cases h22 : k ≤ 22
    · obtain ⟨aT, hrT⟩ := p10_at (i := k) (by omega)
      cases g1 : (FloatKind.f64.format.order F 4831355200913801216 == some Ordering.gt) with
      | true => exact no _ (ex_mul1a w s M rM F k ⟨by omega, h22⟩ hM52 CV NG NF g1 c0)
      | false =>
        cases g2 : (FloatKind.f64.format.order F 14054727237768577024 == some Ordering.lt) with
        | true => exact no _ (ex_mul1b w s M rM F k ⟨by omega, h22⟩ hM52 CV NG NF g1 g2 c0)
        | false =>
          have M2 := mul_int (s := s) E0_eq hrM aM hrT aT hM0 (Nat.pow_pos (by decide)) hm0 hm hsub hf hi
          rw [← hF] at M2
          exact yes (ex_mul1c w s M rM F c k a ⟨by omega, h22⟩ c1 hM52 CV NG NF g1 g2 _ _ M2 (c2 k (by omega)) c0)
    · by_cases h37 : k ≤ 37
      · obtain ⟨j, rfl⟩ : ∃ j, k = 22 + j := ⟨k - 22, by omega⟩
        obtain ⟨aS, hrS⟩ := p10_at (i := j) (by omega)
        obtain ⟨aT, hrT⟩ := p10_at (i := 22) (by omega)
        obtain ⟨T22, e22⟩ : ∃ T : Nat, 10 ^ 22 = T := ⟨_, rfl⟩
        have p22 : 0 < T22 := by rw [← e22]; exact Nat.pow_pos (by decide)
        rw [e22] at aT
        have M1 := mul_near (s := s) hrM aM hrS aS
        rw [← hF] at M1
        obtain ⟨G, eG⟩ : ∃ G, wordD s (nearR (M * 10 ^ j) 0) = G := ⟨_, rfl⟩
        rw [eG] at M1
        cases g1 : (FloatKind.f64.format.order G 4831355200913801216 == some Ordering.gt) with
        | true => exact no _ (ex_mul2a w s M rM F c _ j _ G a rfl ⟨by omega, by omega⟩ M1 (c2 j (by omega)) c1 hM52 CV NG NF g1 c0)
        | false =>
          cases g2 : (FloatKind.f64.format.order G 14054727237768577024 == some Ordering.lt) with
          | true => exact no _ (ex_mul2b w s M rM F c _ j _ G a rfl ⟨by omega, by omega⟩ M1 (c2 j (by omega)) c1 hM52 CV NG NF g1 g2 c0)
          | false =>
            by_cases hn : M * 10 ^ j ≤ 9007199254740992
            · obtain ⟨rG, hrG, aG⟩ := whole_word hn
              rw [near_whole hrG aG] at eG
              have hi2 : InW m Q (2 ^ Q) (4 * (M * 10 ^ j * T22 * 2 ^ E0)) := by
                rw [← e22, Nat.mul_assoc M, ← Nat.pow_add, Nat.add_comm j 22]
                exact hi
              have M2 := mul_int (s := s) (M := M * 10 ^ j) (T := T22) (Z := E0) E0_eq hrG aG hrT aT (Nat.mul_pos hM0 (Nat.pow_pos (by decide))) p22 hm0 hm hsub hf hi2
              rw [eG] at M2
              exact yes (ex_mul2c w s M rM F c _ j _ G a rfl ⟨by omega, by omega⟩ M1 (c2 j (by omega)) c1 hM52 CV NG NF g1 g2 _ _ M2 (c2 22 (by omega)) c0)
            · exfalso
              have := too_great (s := s) (n := M * 10 ^ j) (by omega)
              rw [eG, g1, g2] at this
              simp at this
      · exact no _ (ex_up w s M rM F (k : Int) hM52 (by omega) CV NG NF c0)
  · obtain ⟨k, rfl⟩ : ∃ k : Nat, e = -(k : Int) := ⟨(-e).toNat, by omega⟩
    by_cases h22 : k ≤ 22
    · rw [(by omega : (- -(k : Int)).toNat = k), (by omega : (-(k : Int)).toNat = 0), Nat.pow_zero, Nat.mul_one] at hi
      obtain ⟨aT, hrT⟩ := p10_at (i := k) (by omega)
      have D := div_int (s := s) E0_eq hrM aM hrT aT hM0 (by omega) (Nat.pow_pos (by decide)) hm0 hm hsub hf hi
      rw [← hF] at D
      exact yes (ex_div w s M k rM (p10W k) F _ c a hM52 ⟨by omega, h22⟩ CV NG NF D c0 c1 (c2 k (by omega)))
    · exact no _ (ex_down w s M rM F _ hM52 (by omega) CV NG NF c0)
end Go.Proofs.YtbengmceiaejeaaGreatDoor
/- Texts of reals as the library reads them: digits with a point. -/
namespace Go.Proofs.YtbengmceiaejeaaGreatDoor
open Go.ChangeShapes Go.WideShapes Go.ChangeAt Go.RowKit

def rdS1 (v : Nat) (c : UInt8) : Nat := if c.toNat = 46 then v else v * 10 + (c.toNat - 48)
/-- The number that the digits make. -/
def rdV (l : List UInt8) : Nat := l.foldl rdS1 0

theorem rdV_nil : rdV [] = 0 := rfl
theorem rdV_snoc (l : List UInt8) (c : UInt8) : rdV (l ++ [c]) = rdS1 (rdV l) c := by unfold rdV; rw [List.foldl_append]; rfl
theorem take_snocB (l : List UInt8) (j : Nat) (h : j < l.length) : l.take (j + 1) = l.take j ++ [l.getD j 0] := by
  rw [List.take_succ_eq_append_getElem h, List.getD_eq_getElem?_getD, List.getElem?_eq_getElem h]; rfl
theorem rdV_step (l : List UInt8) (j : Nat) (h : j < l.length) : rdV (l.take (j + 1)) = rdS1 (rdV (l.take j)) (l.getD j 0) := by rw [take_snocB l j h, rdV_snoc]
theorem fold_ge (l : List UInt8) (v : Nat) : v ≤ l.foldl rdS1 v := by
  induction l generalizing v with
  | nil => exact Nat.le_refl _
  | cons c l ih =>
    refine Nat.le_trans ?_ (ih _)
    unfold rdS1
    split <;> omega
theorem rdV_take_le (l : List UInt8) (j : Nat) : rdV (l.take j) ≤ rdV l := by
  conv => rhs; rw [← List.take_append_drop j l]
  unfold rdV
  rw [List.foldl_append]
  exact fold_ge _ _

/-- How many digits a number has that was read without noughts ahead. -/
def NdOk (n v : Nat) : Prop := (n = 0 ∧ v = 0) ∨ (0 < n ∧ 10 ^ (n - 1) ≤ v)

theorem NdOk.le {n v : Nat} (h : NdOk n v) (hv : v < 100000000000000000) : n ≤ 17 := by
  rcases h with ⟨h, _⟩ | ⟨h, h2⟩
  · omega
  · rcases Nat.lt_or_ge 17 n with hc | hc
    · exfalso
      have : 10 ^ 17 ≤ 10 ^ (n - 1) := Nat.pow_le_pow_right (by decide) (by omega)
      have e : (10 : Nat) ^ 17 = 100000000000000000 := by decide
      omega
    · exact hc

theorem NdOk.zero {n v : Nat} (h : NdOk n v) (h0 : n = 0) : v = 0 := by
  rcases h with ⟨_, h⟩ | ⟨h, _⟩
  · exact h
  · omega

theorem NdOk.next {n v c : Nat} (h : NdOk n v) (hc : 48 ≤ c ∧ c ≤ 57) (hne : ¬ (c = 48 ∧ n = 0)) : NdOk (n + 1) (v * 10 + (c - 48)) := by
  right
  refine ⟨by omega, ?_⟩
  rw [Nat.add_sub_cancel]
  rcases h with ⟨h, h2⟩ | ⟨h, h2⟩
  · subst h
    simp only [Nat.pow_zero]
    omega
  · obtain ⟨k, rfl⟩ : ∃ k, n = k + 1 := ⟨n - 1, by omega⟩
    rw [Nat.add_sub_cancel] at h2
    rw [Nat.pow_succ]
    omega

/-- A text with digits and one point, from a place on. -/
structure Txt (s : ByteArray) (p0 : Nat) (l : List UInt8) (z : Nat) : Prop where
  fit : p0 + l.length ≤ s.size
  at_ : ∀ (j q : Nat) (_ : j < l.length) (_ : p0 + j = q) (h : q < s.size), (s[q]'h).toNat = (l.getD j 0).toNat
  z1 : 1 ≤ z
  z2 : z + 1 < l.length
  dot : (l.getD z 0).toNat = 46
  dig : ∀ j, j < l.length → j ≠ z → 48 ≤ (l.getD j 0).toNat ∧ (l.getD j 0).toNat ≤ 57

/-- A text's exponent, from a place on. -/
structure Exp (s : ByteArray) (q r : Nat) (ng : Bool) (dl : List UInt8) : Prop where
  e69 : ∀ h : q < s.size, (s[q]'h).toNat = 69
  r_ : r = q + 1 + ng.toNat
  e45 : ng = true → ∀ h : q + 1 < s.size, (s[q + 1]'h).toNat = 45
  fit : r + dl.length = s.size
  one : 1 ≤ dl.length
  at_ : ∀ (j p : Nat) (_ : j < dl.length) (_ : r + j = p) (h : p < s.size), (s[p]'h).toNat = (dl.getD j 0).toNat
  dig : ∀ j, j < dl.length → 48 ≤ (dl.getD j 0).toNat ∧ (dl.getD j 0).toNat ≤ 57
  small : rdV dl < 1000

theorem or32 : ∀ c : Fin 58, 46 ≤ c.val → bits .or .u8 ((c.val : Nat) : Int) 32 = ((c.val : Nat) : Int) := by decide

theorem lower_dig (c : Nat) (h1 : 46 ≤ c) (h2 : c ≤ 57) (w : World) : Calls Tryz.prog 152 #[.int .u8 (c : Int)] w fun e w' => e = .returned (.int .u8 (c : Int)) ∧ w' = w := by
  have h := or32 ⟨c, by omega⟩ h1
  simp only at h
  go_enter Tryz.func152, Tryz.ntmps152
  go_wp2
  go_ret
  exact ⟨rfl, rfl⟩

theorem lower_E (w : World) : Calls Tryz.prog 152 #[.int .u8 69] w fun e w' => e = .returned (.int .u8 101) ∧ w' = w := by
  have h : bits .or .u8 (69 : Int) 32 = 101 := by decide
  go_enter Tryz.func152, Tryz.ntmps152
  go_wp2
  go_ret
  exact ⟨rfl, rfl⟩
end Go.Proofs.YtbengmceiaejeaaGreatDoor
