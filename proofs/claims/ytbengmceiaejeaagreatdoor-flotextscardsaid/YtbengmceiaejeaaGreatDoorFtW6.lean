/- The library's way to the fewest digits, walked: of numbers below the least with all digits. -/
import Derived.Test.YtbengmceiaejeaaGreatDoorFtW4
namespace Go.Proofs.YtbengmceiaejeaaGreatDoor
open Go.ChangeShapes Go.WideShapes Go.ChangeAt Go.RowKit

set_option maxRecDepth 100000 in
set_option maxHeartbeats 8000000 in
theorem short_three (w : World) (X x0 x1 : Nat) (E q K : Int) (H L s o U0 U1 U2 m : Nat)
    (hX : X < 18446744073709551616) (hx1 : x1 < 18446744073709551616) (hm53 : m < 9007199254740992) (_hq : -1074 ≤ q ∧ q ≤ 971) (hK2 : -348 ≤ K ∧ K ≤ 347) (ho : bits .and .i64 (m : Int) 1 = (o : Int)) (ho1 : o ≤ 1)
    (bx : Bool) (hbx : ((X : Int) == 9223372036854775808) = bx) (zn : Nat) (hE : E < -1085) (hE2 : -2000 ≤ E) (hz : 11 + (-1085 - E) = (zn : Int)) (hz2 : 11 ≤ zn ∧ zn < 64) (hEq : E + (zn : Int) = q) (hK : l10 q = K) (y : Nat) (hy : (2 : Int) ^ (zn - 1) = (y : Int)) (hyb : y < 9223372036854775809) (e0 : (X : Int) - (y : Int) = (x0 : Int)) (e1 : (X : Int) + (y : Int) = (x1 : Int)) (hm : (X : Int) / 2 ^ zn = (m : Int))
    (V0 : Scaled x0 H L s U0) (V1 : Scaled x1 H L s U1) (V2 : Scaled X H L s U2)
    (PR : ∀ t, Calls Tryz.prog 154 #[.pointer (some ⟨w.heap.size, 0, none⟩), .int .i64 E, .int .i64 (-K), .int .i64 (l2 (-K))] (w.alloc (.cells #[.int .u64 0, .int .u64 0, .int .i64 0] t)) fun e w' => e = .returned (.tuple #[]) ∧ w' = w.alloc (.cells #[.int .u64 (H : Int), .int .u64 (L : Int), .int .i64 (s : Int)] t))
    (hU0 : U0 < 4611686018427387900) (hU1 : U1 < 4611686018427387900) (hU2 : U2 < 4611686018427387900) (hU1o : o ≤ U1) :
    Calls Tryz.prog 128 #[.int .u64 (X : Int), .int .i64 E] w fun e w' => e = .returned (.tuple #[.int .u64 ((shD ((U0 + o + 3) / 4) ((U1 - o) / 4) (rnd4 U2) : Nat) : Int), .int .i64 (shT ((U0 + o + 3) / 4) ((U1 - o) / 4) K)]) ∧ Below w.heap.size w w' := by
  have L10 := l10_any q (by omega)
  rw [hK] at L10
  have P2 := l2_any (-K) (by omega)
  have hlp : -2000 ≤ l2 (-K) ∧ l2 (-K) ≤ 2000 := by unfold l2; omega
  obtain ⟨lp, elp⟩ : ∃ lp, l2 (-K) = lp := ⟨_, rfl⟩
  rw [elp] at P2 PR hlp
  obtain ⟨p, ep⟩ : ∃ p, -K = p := ⟨_, rfl⟩
  have hp : -400 ≤ p ∧ p ≤ 400 := by omega
  have hpK : -p = K := by omega
  have hpK1 : -(p - 1) = K + 1 := by omega
  rw [ep] at P2 PR
  have NP := fun w => nudgeP_any U0 o w (by omega) ho1
  have NM := fun w => nudgeM_any U1 o w (by omega) hU1o ho1
  have CE := fun w => ceil_any (U0 + o) w (by omega)
  have FL := fun w => floor_any (U1 - o) w (by omega)
  have RN := fun w => round_any U2 w (by omega)
  have hrn : rnd4 U2 < 4611686018427387904 := by unfold rnd4; omega
  have hdm : (U0 + o + 3) / 4 < 4611686018427387904 := by omega
  have hdx : (U1 - o) / 4 < 4611686018427387904 := by omega
  obtain ⟨u0, eu0⟩ : ∃ u, U0 + o = u := ⟨_, rfl⟩
  obtain ⟨u1, eu1⟩ : ∃ u, U1 - o = u := ⟨_, rfl⟩
  obtain ⟨r2, er2⟩ : ∃ u, rnd4 U2 = u := ⟨_, rfl⟩
  rw [eu0] at NP CE hdm ⊢
  rw [eu1] at NM FL hdx ⊢
  rw [er2] at RN hrn ⊢
  obtain ⟨dm, edm⟩ : ∃ u, (u0 + 3) / 4 = u := ⟨_, rfl⟩
  obtain ⟨dx, edx⟩ : ∃ u, u1 / 4 = u := ⟨_, rfl⟩
  rw [edm] at CE hdm ⊢
  rw [edx] at FL hdx ⊢
  have hd10 : (dx : Int) / 10 = ((dx / 10 : Nat) : Int) := by simp
  have hd11 : ((dx / 10 : Nat) : Int) * 10 = ((dx / 10 * 10 : Nat) : Int) := by simp
  have hdle : dx / 10 ≤ dx := Nat.div_le_self _ _
  have hdle2 : dx / 10 * 10 ≤ dx := Nat.div_mul_le_self _ _
  have hSD : shD dm dx r2 = if dm ≤ dx / 10 * 10 then dx / 10 else if dm < dx then r2 else dm := rfl
  have hST : shT dm dx K = if dm ≤ dx / 10 * 10 then K + 1 else K := rfl
  obtain ⟨d, ed⟩ : ∃ d, dx / 10 = d := ⟨_, rfl⟩
  rw [ed] at hd10 hd11 hSD hdle hdle2 hST
  obtain ⟨dd, edd⟩ : ∃ d', d * 10 = d' := ⟨_, rfl⟩
  rw [edd] at hd11 hSD hST hdle2
  obtain ⟨sD, esD⟩ : ∃ x, shD dm dx r2 = x := ⟨_, rfl⟩
  obtain ⟨sT, esT⟩ : ∃ x, shT dm dx K = x := ⟨_, rfl⟩
  rw [esD] at hSD ⊢
  rw [esT] at hST ⊢
  have bA : Below w.heap.size w w := Below.refl _ _
  clear elp eu0 eu1 er2 edm edx ed edd esD esT hK2 hU1o
  have hge : decide ((-1085 : Int) ≤ E) = false := decide_eq_false (by omega)
  have hgt : decide ((-1085 : Int) < E) = false := decide_eq_false (by omega)
  clear hK
  cases bx
  all_goals
   rcases Nat.lt_or_ge dd dm with hc | hc
   · rw [if_neg (by omega)] at hSD hST
     have hcI : decide ((dm : Int) ≤ (dd : Int)) = false := decide_eq_false (by omega)
     have hcN : decide (dm ≤ dd) = false := decide_eq_false (by omega)
     subst hST
     rcases Nat.lt_or_ge dm dx with hc2 | hc2
     · rw [if_pos hc2] at hSD
       have hcI2 : decide ((dm : Int) < (dx : Int)) = true := decide_eq_true (by omega)
       have hcN2 : decide (dm < dx) = true := decide_eq_true hc2
       subst hSD
       clear hc hc2
       go_enter Tryz.func128, Tryz.ntmps128
       go_wp2_with (first
         | (go_at_call 123; refine (L10 _).mono ?_; rintro e w' ⟨rfl, rfl⟩; clear L10)
         | (go_at_call 155; refine (P2 _).mono ?_; rintro e w' ⟨rfl, rfl⟩; clear P2)
         | (go_at_call 154; refine (PR _).mono ?_; rintro e w' ⟨rfl, rfl⟩; clear PR)
         | (go_at_call 156; refine (V0.run _ _ 0).mono ?_; rintro e w' ⟨rfl, n0, rfl⟩; clear V0)
         | (go_at_call 156; refine (V1.run _ _ _).mono ?_; rintro e w' ⟨rfl, n1, rfl⟩; clear V1)
         | (go_at_call 156; refine (V2.run _ _ _).mono ?_; rintro e w' ⟨rfl, n2, rfl⟩; clear V2)
         | (go_at_call 157; refine (NP _).mono ?_; rintro e w' ⟨rfl, rfl⟩; clear NP)
         | (go_at_call 157; refine (NM _).mono ?_; rintro e w' ⟨rfl, rfl⟩; clear NM)
         | (go_at_call 158; refine (CE _).mono ?_; rintro e w' ⟨rfl, rfl⟩)
         | (go_at_call 159; refine (FL _).mono ?_; rintro e w' ⟨rfl, rfl⟩)
         | (go_at_call 160; refine (RN _).mono ?_; rintro e w' ⟨rfl, rfl⟩))
       go_ret2
       exact ⟨rfl, (bA.alloc (Nat.le_refl _) _).trans (below_drewN _ _ _)⟩
     · rw [if_neg (by omega)] at hSD
       have hcI2 : decide ((dm : Int) < (dx : Int)) = false := decide_eq_false (by omega)
       have hcN2 : decide (dm < dx) = false := decide_eq_false (by omega)
       subst hSD
       clear hc hc2 V2 RN
       go_enter Tryz.func128, Tryz.ntmps128
       go_wp2_with (first
         | (go_at_call 123; refine (L10 _).mono ?_; rintro e w' ⟨rfl, rfl⟩; clear L10)
         | (go_at_call 155; refine (P2 _).mono ?_; rintro e w' ⟨rfl, rfl⟩; clear P2)
         | (go_at_call 154; refine (PR _).mono ?_; rintro e w' ⟨rfl, rfl⟩; clear PR)
         | (go_at_call 156; refine (V0.run _ _ 0).mono ?_; rintro e w' ⟨rfl, n0, rfl⟩; clear V0)
         | (go_at_call 156; refine (V1.run _ _ _).mono ?_; rintro e w' ⟨rfl, n1, rfl⟩; clear V1)
         | (go_at_call 156; refine (V2.run _ _ _).mono ?_; rintro e w' ⟨rfl, n2, rfl⟩; clear V2)
         | (go_at_call 157; refine (NP _).mono ?_; rintro e w' ⟨rfl, rfl⟩; clear NP)
         | (go_at_call 157; refine (NM _).mono ?_; rintro e w' ⟨rfl, rfl⟩; clear NM)
         | (go_at_call 158; refine (CE _).mono ?_; rintro e w' ⟨rfl, rfl⟩)
         | (go_at_call 159; refine (FL _).mono ?_; rintro e w' ⟨rfl, rfl⟩)
         | (go_at_call 160; refine (RN _).mono ?_; rintro e w' ⟨rfl, rfl⟩))
       go_ret2
       exact ⟨rfl, (bA.alloc (Nat.le_refl _) _).trans (below_drewN _ _ _)⟩
   · rw [if_pos hc] at hSD hST
     have hcI : decide ((dm : Int) ≤ (dd : Int)) = true := decide_eq_true (by omega)
     have hcN : decide (dm ≤ dd) = true := decide_eq_true hc
     subst hST
     subst hSD
     clear hc V2 RN
     go_enter Tryz.func128, Tryz.ntmps128
     go_wp2_with (first
       | (go_at_call 123; refine (L10 _).mono ?_; rintro e w' ⟨rfl, rfl⟩; clear L10)
       | (go_at_call 155; refine (P2 _).mono ?_; rintro e w' ⟨rfl, rfl⟩; clear P2)
       | (go_at_call 154; refine (PR _).mono ?_; rintro e w' ⟨rfl, rfl⟩; clear PR)
       | (go_at_call 156; refine (V0.run _ _ 0).mono ?_; rintro e w' ⟨rfl, n0, rfl⟩; clear V0)
       | (go_at_call 156; refine (V1.run _ _ _).mono ?_; rintro e w' ⟨rfl, n1, rfl⟩; clear V1)
       | (go_at_call 156; refine (V2.run _ _ _).mono ?_; rintro e w' ⟨rfl, n2, rfl⟩; clear V2)
       | (go_at_call 157; refine (NP _).mono ?_; rintro e w' ⟨rfl, rfl⟩; clear NP)
       | (go_at_call 157; refine (NM _).mono ?_; rintro e w' ⟨rfl, rfl⟩; clear NM)
       | (go_at_call 158; refine (CE _).mono ?_; rintro e w' ⟨rfl, rfl⟩)
       | (go_at_call 159; refine (FL _).mono ?_; rintro e w' ⟨rfl, rfl⟩)
       | (go_at_call 160; refine (RN _).mono ?_; rintro e w' ⟨rfl, rfl⟩))
     go_ret2
     exact ⟨rfl, (bA.alloc (Nat.le_refl _) _).trans (below_drewN _ _ _)⟩
end Go.Proofs.YtbengmceiaejeaaGreatDoor
/- The library's way to the fewest digits, of any number. -/
namespace Go.Proofs.YtbengmceiaejeaaGreatDoor
open Go.ChangeShapes Go.WideShapes Go.ChangeAt Go.RowKit

theorem wrapi62 (n : Int) (h₀ : 0 ≤ n) (h₁ : n < 2 ^ 62) : IntKind.i64.wrap n = n := by
  rw [IntKind.wrap_i64]
  omega

theorem i64_and (a b : Nat) (ha : a < 4611686018427387904) (hb : b < 4611686018427387904) : bits .and .i64 (a : Int) (b : Int) = ((a &&& b : Nat) : Int) := (bits_nat .i64 62 (by decide) wrapi62 a b ha hb).1

theorem odd_of (m : Nat) (hm : m < 9007199254740992) : bits .and .i64 (m : Int) 1 = ((m % 2 : Nat) : Int) := by
  have h := i64_and m 1 (by omega) (by decide)
  rw [show ((1 : Nat) : Int) = 1 from rfl] at h
  rw [h, Nat.and_one_is_mod]

theorem unr_le (N D : Nat) : unr N D ≤ N / D + 1 := by
  unfold unr
  split
  · rw [Nat.or_zero]; omega
  · rw [or_one]; omega

theorem unr_ge (N D : Nat) : N / D ≤ unr N D := by
  unfold unr
  split
  · rw [Nat.or_zero]; exact Nat.le_refl _
  · rw [or_one]; omega

theorem unr_small {m Q y : Nat} (hQ : Q ≤ 2045) (hy : y < Ymax) : unr (y * aOf m Q) (mOf m Q) < 4611686018427387000 := by
  have hM : 0 < mOf m Q := den_pos _ _
  have h1 := unr_le (y * aOf m Q) (mOf m Q)
  have hw := wid_cases (m := m) hQ
  have h14 : aOf m Q ≤ 14 * mOf m Q := by rcases hw with h | h <;> omega
  have h2 : y * aOf m Q / mOf m Q ≤ y * 14 := by
    refine Nat.div_le_of_le_mul ?_
    have := Nat.mul_le_mul_left y h14
    rw [Nat.mul_comm (mOf m Q), Nat.mul_assoc]
    exact this
  unfold Ymax at hy
  omega

theorem unr_one {m Q : Nat} (hQ : Q ≤ 2045) : 1 ≤ unr ((4 * m + 2) * aOf m Q) (mOf m Q) := by
  have hM : 0 < mOf m Q := den_pos _ _
  refine Nat.le_trans ?_ (unr_ge _ _)
  rw [Nat.le_div_iff_mul_le hM, Nat.one_mul]
  have hw := wid_cases (m := m) hQ
  have h1 : mOf m Q ≤ 2 * aOf m Q := by rcases hw with h | h <;> omega
  have h2 : 2 * aOf m Q ≤ (4 * m + 2) * aOf m Q := Nat.mul_le_mul_right _ (by omega)
  omega

theorem RdyT.below {w w' : World} (h : RdyT w) (hb : Below w.heap.size w w') : RdyT w' := by
  obtain ⟨⟨m, hm⟩, h2, h3, h4, s1, s2, s3⟩ := h
  have hs := hb.size
  refine ⟨⟨m, ?_⟩, fun i hi => ?_, fun i hi => ?_, fun i hi => ?_, by omega, by omega, by omega⟩
  · rw [hb.cell s1]; exact hm
  · rw [hb.cell s2]; exact h2 i hi
  · rw [hb.cell s3]; exact h3 i hi
  · rw [hb.cell s3]; exact h4 i hi

theorem shf_least : (shf (((0 : Nat) : Int) - 1074) (l10 (((0 : Nat) : Int) - 1074)) == 6) = true := by decide +kernel

/-- The digits and their power of ten. -/
def shortD (m Q z : Nat) : Nat :=
  let r := rowOf (unitK m Q)
  let s := shiftN m Q z
  shD (dMin m (usF (lowY m Q * 2 ^ (z - 2)) r.1 r.2 s)) (dMax m (usF ((4 * m + 2) * 2 ^ (z - 2)) r.1 r.2 s)) (rnd4 (usF (4 * m * 2 ^ (z - 2)) r.1 r.2 s))

def shortT (m Q z : Nat) : Int :=
  let r := rowOf (unitK m Q)
  let s := shiftN m Q z
  shT (dMin m (usF (lowY m Q * 2 ^ (z - 2)) r.1 r.2 s)) (dMax m (usF ((4 * m + 2) * 2 ^ (z - 2)) r.1 r.2 s)) (unitK m Q)

theorem shortD_units (m Q z : Nat) : (shortT m Q z = unitK m Q ∧ shortD m Q z = shortG m Q z) ∨ (shortT m Q z = unitK m Q + 1 ∧ shortD m Q z * 10 = shortG m Q z) := by
  have key : ∀ a b c (K : Int), (shT a b K = K ∧ shD a b c = goRes a b c) ∨ (shT a b K = K + 1 ∧ shD a b c * 10 = goRes a b c) := by
    intro a b c K
    unfold shT shD goRes
    by_cases h : a ≤ b / 10 * 10
    · right; rw [if_pos h, if_pos h, if_pos h]; exact ⟨rfl, rfl⟩
    · left; rw [if_neg h, if_neg h, if_neg h]; exact ⟨rfl, rfl⟩
  exact key _ _ _ _

set_option maxHeartbeats 2000000 in
theorem short_any (w : World) (R : RdyT w) {m Q z : Nat} (hm0 : 0 < m) (hm : m < 9007199254740992) (hQ : Q ≤ 2045) (hsub : Q = 0 ∨ 4503599627370496 ≤ m) (hz : 11 ≤ z) (hz2 : z < 64) (hlo : 9223372036854775808 ≤ m * 2 ^ z) (hhi : m * 2 ^ z < 18446744073709551616) (hzs : z = 11 ∨ (Q = 0 ∧ m < 4503599627370496)) (hx : (4 * m + 2) * 2 ^ (z - 2) < 18446744073709551616) :
    Calls Tryz.prog 128 #[.int .u64 ((m * 2 ^ z : Nat) : Int), .int .i64 ((Q : Int) - 1074 - (z : Int))] w fun e w' => e = .returned (.tuple #[.int .u64 ((shortD m Q z : Nat) : Int), .int .i64 (shortT m Q z)]) ∧ Below w.heap.size w w' := by
  have hg := good_unit (m := m) hQ
  unfold goodRow at hg
  simp only [Bool.and_eq_true, decide_eq_true_eq] at hg
  obtain ⟨⟨⟨⟨⟨⟨⟨⟨⟨g1, g2⟩, g3⟩, g4⟩, g5⟩, g6⟩, g7⟩, _⟩, _⟩, _⟩ := hg
  have hl := low_cases m Q hm0
  have hY : 4 * m + 2 < Ymax := by unfold Ymax; omega
  have p2 : ∀ y, y ≤ 4 * m + 2 → y * 2 ^ (z - 2) < 18446744073709551616 := fun y hy => Nat.lt_of_le_of_lt (Nat.mul_le_mul_right _ hy) hx
  have u0 := us_of (m := m) hQ hz (y := lowY m Q) (by omega) (by omega) (p2 _ (by omega))
  have u1 := us_of (m := m) hQ hz (y := 4 * m + 2) (by omega) hY hx
  have u2 := us_of (m := m) hQ hz (y := 4 * m) (by omega) (by omega) (p2 _ (by omega))
  have b0 := unr_small (m := m) (y := lowY m Q) hQ (by omega)
  have b1 := unr_small (m := m) (y := 4 * m + 2) hQ hY
  have b2 := unr_small (m := m) (y := 4 * m) hQ (by omega)
  have b3 := unr_one (m := m) hQ
  rw [← u0] at b0
  rw [← u1] at b1 b3
  rw [← u2] at b2
  clear u0 u1 u2
  have hs64 : shiftN m Q z < 64 := by
    unfold shiftN
    rcases hzs with h | ⟨h, h'⟩
    · omega
    · subst h
      have hK : unitK m 0 = l10 (((0 : Nat) : Int) - 1074) := by unfold unitK; rw [if_neg (by omega)]
      have := shf_least
      rw [beq_iff_eq] at this
      rw [hK, this]
      omega
  have hsI : -(((Q : Int) - 1074 - (z : Int)) + l2 (-unitK m Q) + 3) = ((shiftN m Q z : Nat) : Int) := by
    unfold shiftN
    unfold shf at g1 ⊢
    omega
  obtain ⟨s, es⟩ : ∃ s, shiftN m Q z = s := ⟨_, rfl⟩
  unfold shortD shortT dMin dMax
  simp only [es]
  rw [es] at hs64 hsI b0 b1 b2 b3
  obtain ⟨H, eH⟩ : ∃ h, (rowOf (unitK m Q)).1 = h := ⟨_, rfl⟩
  obtain ⟨L, eL⟩ : ∃ h, (rowOf (unitK m Q)).2 = h := ⟨_, rfl⟩
  have eH2 : (Go.Pinned.pow10Rows.getD (348 - unitK m Q).toNat (0, 0)).1 = H := eH
  have eL2 : (Go.Pinned.pow10Rows.getD (348 - unitK m Q).toNat (0, 0)).2 = L := eL
  rw [eH, eL] at g7 b0 b1 b2 b3
  rw [eH] at g5
  rw [eL] at g6
  simp only [eH, eL]
  have hzp : 2 ^ z = 4 * 2 ^ (z - 2) := by
    rw [show (4 : Nat) = 2 ^ 2 from rfl, ← Nat.pow_add]
    congr 1
    omega
  have hX2 : m * 2 ^ z = 4 * m * 2 ^ (z - 2) := by rw [hzp, ← Nat.mul_assoc, Nat.mul_comm m 4]
  have V0 : Scaled (lowY m Q * 2 ^ (z - 2)) H L s (usF (lowY m Q * 2 ^ (z - 2)) H L s) := fun B w c0 c1 c2 => us_any B _ H L s w (p2 _ (by omega)) g5 g6 g7 hs64 c0 c1 c2
  have V1 : Scaled ((4 * m + 2) * 2 ^ (z - 2)) H L s (usF ((4 * m + 2) * 2 ^ (z - 2)) H L s) := fun B w c0 c1 c2 => us_any B _ H L s w hx g5 g6 g7 hs64 c0 c1 c2
  have V2 : Scaled (4 * m * 2 ^ (z - 2)) H L s (usF (4 * m * 2 ^ (z - 2)) H L s) := fun B w c0 c1 c2 => us_any B _ H L s w (p2 _ (by omega)) g5 g6 g7 hs64 c0 c1 c2
  have hKb : -340 ≤ unitK m Q ∧ unitK m Q ≤ 340 := by
    unfold unitK
    split
    · unfold skw; omega
    · unfold l10; omega
  have hlb : -3000 ≤ l2 (-unitK m Q) ∧ l2 (-unitK m Q) ≤ 3000 := by unfold l2; omega
  have PR := fun t => pre_any t w R ((Q : Int) - 1074 - (z : Int)) (-unitK m Q) (l2 (-unitK m Q)) (348 - unitK m Q).toNat (s : Int) (by omega) (by omega) (by omega) hlb hsI
  rw [eH2, eL2] at PR
  have ho := odd_of m hm
  have ho1 : m % 2 ≤ 1 := by omega
  rw [hX2] at hlo hhi ⊢
  obtain ⟨U0, eU0⟩ : ∃ U, usF (lowY m Q * 2 ^ (z - 2)) H L s = U := ⟨_, rfl⟩
  obtain ⟨U1, eU1⟩ : ∃ U, usF ((4 * m + 2) * 2 ^ (z - 2)) H L s = U := ⟨_, rfl⟩
  obtain ⟨U2, eU2⟩ : ∃ U, usF (4 * m * 2 ^ (z - 2)) H L s = U := ⟨_, rfl⟩
  rw [eU0] at V0 b0
  rw [eU1] at V1 b1 b3
  rw [eU2] at V2 b2
  rw [eU0, eU1, eU2]
  clear eU0 eU1 eU2 eH eL eH2 eL2 g4 g7 R
  have hy2 : (4 * m + 2) * 2 ^ (z - 2) = 4 * m * 2 ^ (z - 2) + 2 * 2 ^ (z - 2) := by rw [Nat.add_mul]
  have hmX : 4 * m * 2 ^ (z - 2) / 2 ^ z = m := by
    rw [← hX2]
    exact Nat.mul_div_cancel _ (Nat.two_pow_pos z)
  rcases hzs with hz11 | ⟨hQ0, hmlt⟩
  · subst hz11
    have hP : (2 : Nat) ^ (11 - 2) = 512 := by decide
    rw [hP] at V0 V1 V2 hx hlo hhi ⊢
    have hmX' : ((4 * m * 512 : Nat) : Int) / 2048 = (m : Int) := by omega
    clear hy2 hmX hX2 hzp p2 hsI es
    rcases hl with ⟨hs1, hs2, hs3⟩ | ⟨hs1, hs3⟩
    · exact short_one w (4 * m * 512) (lowY m Q * 512) ((4 * m + 2) * 512) ((Q : Int) - 1074 - ((11 : Nat) : Int)) ((Q : Int) - 1074) (unitK m Q) H L s (m % 2) U0 U1 U2 m hhi hx hm (by omega) ⟨g2, g3⟩ ho ho1 (by omega) (by omega) (by rw [beq_iff_eq]; omega) (by unfold unitK; rw [if_pos ⟨hs1, hs2⟩]) (by omega) (by omega) hmX' V0 V1 V2 PR (by omega) (by omega) (by omega) (by omega)
    · exact short_two w (4 * m * 512) (lowY m Q * 512) ((4 * m + 2) * 512) ((Q : Int) - 1074 - ((11 : Nat) : Int)) ((Q : Int) - 1074) (unitK m Q) H L s (m % 2) U0 U1 U2 m hhi hx hm (by omega) ⟨g2, g3⟩ ho ho1 _ rfl (by rw [beq_iff_eq]; intro hh; omega) (by omega) (by omega) (by unfold unitK; rw [if_neg hs1]) (by omega) (by omega) hmX' V0 V1 V2 PR (by omega) (by omega) (by omega) (by omega)
  · subst hQ0
    have hs3 : lowY m 0 + 2 = 4 * m := by
      rcases hl with ⟨_, h, _⟩ | ⟨_, h⟩
      · omega
      · exact h
    have hz12 : 12 ≤ z := by
      rcases Nat.lt_or_ge z 12 with h | h
      · have : z = 11 := by omega
        subst this
        have hP : (2 : Nat) ^ (11 - 2) = 512 := by decide
        rw [hP] at hlo
        omega
      · exact h
    have hy1 : 2 ^ (z - 1) = 2 * 2 ^ (z - 2) := by
      rw [show z - 1 = (z - 2) + 1 by omega, Nat.pow_succ, Nat.mul_comm]
    have hyb : 2 ^ (z - 1) < 9223372036854775809 := by
      have : 2 ^ (z - 1) ≤ 2 ^ 62 := Nat.pow_le_pow_right (by decide) (by omega)
      omega
    have hmX' : ((4 * m * 2 ^ (z - 2) : Nat) : Int) / 2 ^ z = (m : Int) := by
      have := congrArg (Nat.cast (R := Int)) hmX
      simpa using this
    have hyI : (2 : Int) ^ (z - 1) = ((2 ^ (z - 1) : Nat) : Int) := by simp
    have el0 : lowY m 0 * 2 ^ (z - 2) + 2 * 2 ^ (z - 2) = 4 * m * 2 ^ (z - 2) := by rw [← hs3, Nat.add_mul]
    obtain ⟨T, eT⟩ : ∃ T, 2 ^ (z - 2) = T := ⟨_, rfl⟩
    obtain ⟨y, ey⟩ : ∃ y, 2 ^ (z - 1) = y := ⟨_, rfl⟩
    rw [eT, ey] at hy1
    rw [ey] at hyb hyI
    rw [eT] at hy2 el0 hmX' V0 V1 V2 hx hlo hhi ⊢
    obtain ⟨X, eX⟩ : ∃ X, 4 * m * T = X := ⟨_, rfl⟩
    obtain ⟨x0, ex0⟩ : ∃ X, lowY m 0 * T = X := ⟨_, rfl⟩
    obtain ⟨x1, ex1⟩ : ∃ X, (4 * m + 2) * T = X := ⟨_, rfl⟩
    rw [eX] at hy2 el0 hmX' V2 hlo hhi ⊢
    rw [ex0] at el0 V0
    rw [ex1] at hy2 V1 hx
    clear eT eX ex0 ex1 ey hmX hX2 hzp p2 es
    exact short_three w X x0 x1 (((0 : Nat) : Int) - 1074 - (z : Int)) (((0 : Nat) : Int) - 1074) (unitK m 0) H L s (m % 2) U0 U1 U2 m hhi hx hm (by omega) ⟨g2, g3⟩ ho ho1 _ rfl z (by omega) (by omega) (by omega) ⟨hz, hz2⟩ (by omega) (by unfold unitK; rw [if_neg (by omega)]) y hyI hyb (by omega) (by omega) hmX' V0 V1 V2 PR (by omega) (by omega) (by omega) (by omega)
end Go.Proofs.YtbengmceiaejeaaGreatDoor
