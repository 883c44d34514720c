/- The library's way to the fewest digits, walked: three ways to the borders, three ends. -/
import Derived.Test.YtbengmceiaejeaaGreatDoorFtW3
namespace Go.Proofs.YtbengmceiaejeaaGreatDoor
open Go.ChangeShapes Go.WideShapes Go.ChangeAt Go.RowKit

def shD (dm dx r : Nat) : Nat := if dm ≤ dx / 10 * 10 then dx / 10 else if dm < dx then r else dm
def shT (dm dx : Nat) (K : Int) : Int := if dm ≤ dx / 10 * 10 then K + 1 else K

/-- A scaling of one word, with the table's row in a box. -/
def Scaled (x H L s U : Nat) : Prop := ∀ (B : Nat) (w : World), w.cell? ⟨B, 0, none⟩ = some (.int .u64 (H : Int)) → w.cell? ⟨B, 1, none⟩ = some (.int .u64 (L : Int)) → w.cell? ⟨B, 2, none⟩ = some (.int .i64 (s : Int)) → Calls Tryz.prog 156 #[.int .u64 (x : Int), .pointer (some ⟨B, 0, none⟩)] w fun e w' => e = .returned (.int .u64 (U : Int)) ∧ ∃ n, w' = w.drewN n

theorem Scaled.run {x H L s U : Nat} (h : Scaled x H L s U) (w : World) (t : TypeId) (n : Nat) : Calls Tryz.prog 156 #[.int .u64 (x : Int), .pointer (some ⟨w.heap.size, 0, none⟩)] ((w.alloc (.cells #[.int .u64 (H : Int), .int .u64 (L : Int), .int .i64 (s : Int)] t)).drewN n) fun e w' => e = .returned (.int .u64 (U : Int)) ∧ ∃ n, w' = (w.alloc (.cells #[.int .u64 (H : Int), .int .u64 (L : Int), .int .i64 (s : Int)] t)).drewN n := by
  refine (h w.heap.size _ ?_ ?_ ?_).mono ?_
  · show (w.alloc _).cell? _ = _
    simp
  · show (w.alloc _).cell? _ = _
    simp
  · show (w.alloc _).cell? _ = _
    simp
  · rintro e w' ⟨rfl, k, rfl⟩
    exact ⟨rfl, n + k, by simp [World.drewN, Nat.add_assoc]⟩

set_option maxRecDepth 100000 in
set_option maxHeartbeats 8000000 in
theorem short_two (w : World) (X x0 x1 : Nat) (E q K : Int) (H L s o U0 U1 U2 m : Nat)
    (hX : X < 18446744073709551616) (hx1 : x1 < 18446744073709551616) (hm53 : m < 9007199254740992) (hq : -1074 ≤ q ∧ q ≤ 971) (hK2 : -348 ≤ K ∧ K ≤ 347) (ho : bits .and .i64 (m : Int) 1 = (o : Int)) (ho1 : o ≤ 1)
    (bx : Bool) (hbx : ((X : Int) == 9223372036854775808) = bx) (hb2 : bx = true → E = -1085) (hE : -1085 ≤ E) (hEq : E + 11 = q) (hK : l10 q = K) (e0 : (X : Int) - 1024 = (x0 : Int)) (e1 : (X : Int) + 1024 = (x1 : Int)) (hm : (X : Int) / 2048 = (m : Int))
    (V0 : Scaled x0 H L s U0) (V1 : Scaled x1 H L s U1) (V2 : Scaled X H L s U2)
    (PR : ∀ t, Calls Tryz.prog 154 #[.pointer (some ⟨w.heap.size, 0, none⟩), .int .i64 E, .int .i64 (-K), .int .i64 (l2 (-K))] (w.alloc (.cells #[.int .u64 0, .int .u64 0, .int .i64 0] t)) fun e w' => e = .returned (.tuple #[]) ∧ w' = w.alloc (.cells #[.int .u64 (H : Int), .int .u64 (L : Int), .int .i64 (s : Int)] t))
    (hU0 : U0 < 4611686018427387900) (hU1 : U1 < 4611686018427387900) (hU2 : U2 < 4611686018427387900) (hU1o : o ≤ U1) :
    Calls Tryz.prog 128 #[.int .u64 (X : Int), .int .i64 E] w fun e w' => e = .returned (.tuple #[.int .u64 ((shD ((U0 + o + 3) / 4) ((U1 - o) / 4) (rnd4 U2) : Nat) : Int), .int .i64 (shT ((U0 + o + 3) / 4) ((U1 - o) / 4) K)]) ∧ Below w.heap.size w w' := by
  have L10 := l10_any q (by omega)
  rw [hK] at L10
  have P2 := l2_any (-K) (by omega)
  have hlp : -2000 ≤ l2 (-K) ∧ l2 (-K) ≤ 2000 := by unfold l2; omega
  obtain ⟨lp, elp⟩ : ∃ lp, l2 (-K) = lp := ⟨_, rfl⟩
  rw [elp] at P2 PR hlp
  obtain ⟨p, ep⟩ : ∃ p, -K = p := ⟨_, rfl⟩
  have hp : -400 ≤ p ∧ p ≤ 400 := by omega
  have hpK : -p = K := by omega
  have hpK1 : -(p - 1) = K + 1 := by omega
  rw [ep] at P2 PR
  have NP := fun w => nudgeP_any U0 o w (by omega) ho1
  have NM := fun w => nudgeM_any U1 o w (by omega) hU1o ho1
  have CE := fun w => ceil_any (U0 + o) w (by omega)
  have FL := fun w => floor_any (U1 - o) w (by omega)
  have RN := fun w => round_any U2 w (by omega)
  have hrn : rnd4 U2 < 4611686018427387904 := by unfold rnd4; omega
  have hdm : (U0 + o + 3) / 4 < 4611686018427387904 := by omega
  have hdx : (U1 - o) / 4 < 4611686018427387904 := by omega
  obtain ⟨u0, eu0⟩ : ∃ u, U0 + o = u := ⟨_, rfl⟩
  obtain ⟨u1, eu1⟩ : ∃ u, U1 - o = u := ⟨_, rfl⟩
  obtain ⟨r2, er2⟩ : ∃ u, rnd4 U2 = u := ⟨_, rfl⟩
  rw [eu0] at NP CE hdm ⊢
  rw [eu1] at NM FL hdx ⊢
  rw [er2] at RN hrn ⊢
  obtain ⟨dm, edm⟩ : ∃ u, (u0 + 3) / 4 = u := ⟨_, rfl⟩
  obtain ⟨dx, edx⟩ : ∃ u, u1 / 4 = u := ⟨_, rfl⟩
  rw [edm] at CE hdm ⊢
  rw [edx] at FL hdx ⊢
  have hd10 : (dx : Int) / 10 = ((dx / 10 : Nat) : Int) := by simp
  have hd11 : ((dx / 10 : Nat) : Int) * 10 = ((dx / 10 * 10 : Nat) : Int) := by simp
  have hdle : dx / 10 ≤ dx := Nat.div_le_self _ _
  have hdle2 : dx / 10 * 10 ≤ dx := Nat.div_mul_le_self _ _
  have hSD : shD dm dx r2 = if dm ≤ dx / 10 * 10 then dx / 10 else if dm < dx then r2 else dm := rfl
  have hST : shT dm dx K = if dm ≤ dx / 10 * 10 then K + 1 else K := rfl
  obtain ⟨d, ed⟩ : ∃ d, dx / 10 = d := ⟨_, rfl⟩
  rw [ed] at hd10 hd11 hSD hdle hdle2 hST
  obtain ⟨dd, edd⟩ : ∃ d', d * 10 = d' := ⟨_, rfl⟩
  rw [edd] at hd11 hSD hST hdle2
  obtain ⟨sD, esD⟩ : ∃ x, shD dm dx r2 = x := ⟨_, rfl⟩
  obtain ⟨sT, esT⟩ : ∃ x, shT dm dx K = x := ⟨_, rfl⟩
  rw [esD] at hSD ⊢
  rw [esT] at hST ⊢
  have bA : Below w.heap.size w w := Below.refl _ _
  clear elp eu0 eu1 er2 edm edx ed edd esD esT hK2 hU1o
  have hEb : E ≤ 1000 := by omega
  have hge : decide ((-1085 : Int) ≤ E) = true := decide_eq_true hE
  have hgt : bx = true → decide ((-1085 : Int) < E) = false := fun h => decide_eq_false (by have := hb2 h; omega)
  clear hK hb2
  cases bx
  all_goals
   try have hgt2 := hgt rfl
   clear hgt
   rcases Nat.lt_or_ge dd dm with hc | hc
   · rw [if_neg (by omega)] at hSD hST
     have hcI : decide ((dm : Int) ≤ (dd : Int)) = false := decide_eq_false (by omega)
     have hcN : decide (dm ≤ dd) = false := decide_eq_false (by omega)
     subst hST
     rcases Nat.lt_or_ge dm dx with hc2 | hc2
     · rw [if_pos hc2] at hSD
       have hcI2 : decide ((dm : Int) < (dx : Int)) = true := decide_eq_true (by omega)
       have hcN2 : decide (dm < dx) = true := decide_eq_true hc2
       subst hSD
       clear hc hc2
       go_enter Tryz.func128, Tryz.ntmps128
       go_wp2_with (first
         | (go_at_call 123; refine (L10 _).mono ?_; rintro e w' ⟨rfl, rfl⟩; clear L10)
         | (go_at_call 155; refine (P2 _).mono ?_; rintro e w' ⟨rfl, rfl⟩; clear P2)
         | (go_at_call 154; refine (PR _).mono ?_; rintro e w' ⟨rfl, rfl⟩; clear PR)
         | (go_at_call 156; refine (V0.run _ _ 0).mono ?_; rintro e w' ⟨rfl, n0, rfl⟩; clear V0)
         | (go_at_call 156; refine (V1.run _ _ _).mono ?_; rintro e w' ⟨rfl, n1, rfl⟩; clear V1)
         | (go_at_call 156; refine (V2.run _ _ _).mono ?_; rintro e w' ⟨rfl, n2, rfl⟩; clear V2)
         | (go_at_call 157; refine (NP _).mono ?_; rintro e w' ⟨rfl, rfl⟩; clear NP)
         | (go_at_call 157; refine (NM _).mono ?_; rintro e w' ⟨rfl, rfl⟩; clear NM)
         | (go_at_call 158; refine (CE _).mono ?_; rintro e w' ⟨rfl, rfl⟩)
         | (go_at_call 159; refine (FL _).mono ?_; rintro e w' ⟨rfl, rfl⟩)
         | (go_at_call 160; refine (RN _).mono ?_; rintro e w' ⟨rfl, rfl⟩))
       go_ret2
       exact ⟨rfl, (bA.alloc (Nat.le_refl _) _).trans (below_drewN _ _ _)⟩
     · rw [if_neg (by omega)] at hSD
       have hcI2 : decide ((dm : Int) < (dx : Int)) = false := decide_eq_false (by omega)
       have hcN2 : decide (dm < dx) = false := decide_eq_false (by omega)
       subst hSD
       clear hc hc2 V2 RN
       go_enter Tryz.func128, Tryz.ntmps128
       go_wp2_with (first
         | (go_at_call 123; refine (L10 _).mono ?_; rintro e w' ⟨rfl, rfl⟩; clear L10)
         | (go_at_call 155; refine (P2 _).mono ?_; rintro e w' ⟨rfl, rfl⟩; clear P2)
         | (go_at_call 154; refine (PR _).mono ?_; rintro e w' ⟨rfl, rfl⟩; clear PR)
         | (go_at_call 156; refine (V0.run _ _ 0).mono ?_; rintro e w' ⟨rfl, n0, rfl⟩; clear V0)
         | (go_at_call 156; refine (V1.run _ _ _).mono ?_; rintro e w' ⟨rfl, n1, rfl⟩; clear V1)
         | (go_at_call 156; refine (V2.run _ _ _).mono ?_; rintro e w' ⟨rfl, n2, rfl⟩; clear V2)
         | (go_at_call 157; refine (NP _).mono ?_; rintro e w' ⟨rfl, rfl⟩; clear NP)
         | (go_at_call 157; refine (NM _).mono ?_; rintro e w' ⟨rfl, rfl⟩; clear NM)
         | (go_at_call 158; refine (CE _).mono ?_; rintro e w' ⟨rfl, rfl⟩)
         | (go_at_call 159; refine (FL _).mono ?_; rintro e w' ⟨rfl, rfl⟩)
         | (go_at_call 160; refine (RN _).mono ?_; rintro e w' ⟨rfl, rfl⟩))
       go_ret2
       exact ⟨rfl, (bA.alloc (Nat.le_refl _) _).trans (below_drewN _ _ _)⟩
   · rw [if_pos hc] at hSD hST
     have hcI : decide ((dm : Int) ≤ (dd : Int)) = true := decide_eq_true (by omega)
     have hcN : decide (dm ≤ dd) = true := decide_eq_true hc
     subst hST
     subst hSD
     clear hc V2 RN
     go_enter Tryz.func128, Tryz.ntmps128
     go_wp2_with (first
       | (go_at_call 123; refine (L10 _).mono ?_; rintro e w' ⟨rfl, rfl⟩; clear L10)
       | (go_at_call 155; refine (P2 _).mono ?_; rintro e w' ⟨rfl, rfl⟩; clear P2)
       | (go_at_call 154; refine (PR _).mono ?_; rintro e w' ⟨rfl, rfl⟩; clear PR)
       | (go_at_call 156; refine (V0.run _ _ 0).mono ?_; rintro e w' ⟨rfl, n0, rfl⟩; clear V0)
       | (go_at_call 156; refine (V1.run _ _ _).mono ?_; rintro e w' ⟨rfl, n1, rfl⟩; clear V1)
       | (go_at_call 156; refine (V2.run _ _ _).mono ?_; rintro e w' ⟨rfl, n2, rfl⟩; clear V2)
       | (go_at_call 157; refine (NP _).mono ?_; rintro e w' ⟨rfl, rfl⟩; clear NP)
       | (go_at_call 157; refine (NM _).mono ?_; rintro e w' ⟨rfl, rfl⟩; clear NM)
       | (go_at_call 158; refine (CE _).mono ?_; rintro e w' ⟨rfl, rfl⟩)
       | (go_at_call 159; refine (FL _).mono ?_; rintro e w' ⟨rfl, rfl⟩)
       | (go_at_call 160; refine (RN _).mono ?_; rintro e w' ⟨rfl, rfl⟩))
     go_ret2
     exact ⟨rfl, (bA.alloc (Nat.le_refl _) _).trans (below_drewN _ _ _)⟩

set_option maxRecDepth 100000 in
set_option maxHeartbeats 8000000 in
theorem short_one (w : World) (X x0 x1 : Nat) (E q K : Int) (H L s o U0 U1 U2 m : Nat)
    (hX : X < 18446744073709551616) (hx1 : x1 < 18446744073709551616) (hm53 : m < 9007199254740992) (hq : -1074 ≤ q ∧ q ≤ 971) (hK2 : -348 ≤ K ∧ K ≤ 347) (ho : bits .and .i64 (m : Int) 1 = (o : Int)) (ho1 : o ≤ 1)
    (hE : -1085 < E) (hEq : E + 11 = q) (hns : ((X : Int) == 9223372036854775808) = true) (hK : skw q = K) (e0 : (X : Int) - 512 = (x0 : Int)) (e1 : (X : Int) + 1024 = (x1 : Int)) (hm : (X : Int) / 2048 = (m : Int))
    (V0 : Scaled x0 H L s U0) (V1 : Scaled x1 H L s U1) (V2 : Scaled X H L s U2)
    (PR : ∀ t, Calls Tryz.prog 154 #[.pointer (some ⟨w.heap.size, 0, none⟩), .int .i64 E, .int .i64 (-K), .int .i64 (l2 (-K))] (w.alloc (.cells #[.int .u64 0, .int .u64 0, .int .i64 0] t)) fun e w' => e = .returned (.tuple #[]) ∧ w' = w.alloc (.cells #[.int .u64 (H : Int), .int .u64 (L : Int), .int .i64 (s : Int)] t))
    (hU0 : U0 < 4611686018427387900) (hU1 : U1 < 4611686018427387900) (hU2 : U2 < 4611686018427387900) (hU1o : o ≤ U1) :
    Calls Tryz.prog 128 #[.int .u64 (X : Int), .int .i64 E] w fun e w' => e = .returned (.tuple #[.int .u64 ((shD ((U0 + o + 3) / 4) ((U1 - o) / 4) (rnd4 U2) : Nat) : Int), .int .i64 (shT ((U0 + o + 3) / 4) ((U1 - o) / 4) K)]) ∧ Below w.heap.size w w' := by
  have L10 := skw_any q (by omega)
  rw [hK] at L10
  have P2 := l2_any (-K) (by omega)
  have hlp : -2000 ≤ l2 (-K) ∧ l2 (-K) ≤ 2000 := by unfold l2; omega
  obtain ⟨lp, elp⟩ : ∃ lp, l2 (-K) = lp := ⟨_, rfl⟩
  rw [elp] at P2 PR hlp
  obtain ⟨p, ep⟩ : ∃ p, -K = p := ⟨_, rfl⟩
  have hp : -400 ≤ p ∧ p ≤ 400 := by omega
  have hpK : -p = K := by omega
  have hpK1 : -(p - 1) = K + 1 := by omega
  rw [ep] at P2 PR
  have NP := fun w => nudgeP_any U0 o w (by omega) ho1
  have NM := fun w => nudgeM_any U1 o w (by omega) hU1o ho1
  have CE := fun w => ceil_any (U0 + o) w (by omega)
  have FL := fun w => floor_any (U1 - o) w (by omega)
  have RN := fun w => round_any U2 w (by omega)
  have hrn : rnd4 U2 < 4611686018427387904 := by unfold rnd4; omega
  have hdm : (U0 + o + 3) / 4 < 4611686018427387904 := by omega
  have hdx : (U1 - o) / 4 < 4611686018427387904 := by omega
  obtain ⟨u0, eu0⟩ : ∃ u, U0 + o = u := ⟨_, rfl⟩
  obtain ⟨u1, eu1⟩ : ∃ u, U1 - o = u := ⟨_, rfl⟩
  obtain ⟨r2, er2⟩ : ∃ u, rnd4 U2 = u := ⟨_, rfl⟩
  rw [eu0] at NP CE hdm ⊢
  rw [eu1] at NM FL hdx ⊢
  rw [er2] at RN hrn ⊢
  obtain ⟨dm, edm⟩ : ∃ u, (u0 + 3) / 4 = u := ⟨_, rfl⟩
  obtain ⟨dx, edx⟩ : ∃ u, u1 / 4 = u := ⟨_, rfl⟩
  rw [edm] at CE hdm ⊢
  rw [edx] at FL hdx ⊢
  have hd10 : (dx : Int) / 10 = ((dx / 10 : Nat) : Int) := by simp
  have hd11 : ((dx / 10 : Nat) : Int) * 10 = ((dx / 10 * 10 : Nat) : Int) := by simp
  have hdle : dx / 10 ≤ dx := Nat.div_le_self _ _
  have hdle2 : dx / 10 * 10 ≤ dx := Nat.div_mul_le_self _ _
  have hSD : shD dm dx r2 = if dm ≤ dx / 10 * 10 then dx / 10 else if dm < dx then r2 else dm := rfl
  have hST : shT dm dx K = if dm ≤ dx / 10 * 10 then K + 1 else K := rfl
  obtain ⟨d, ed⟩ : ∃ d, dx / 10 = d := ⟨_, rfl⟩
  rw [ed] at hd10 hd11 hSD hdle hdle2 hST
  obtain ⟨dd, edd⟩ : ∃ d', d * 10 = d' := ⟨_, rfl⟩
  rw [edd] at hd11 hSD hST hdle2
  obtain ⟨sD, esD⟩ : ∃ x, shD dm dx r2 = x := ⟨_, rfl⟩
  obtain ⟨sT, esT⟩ : ∃ x, shT dm dx K = x := ⟨_, rfl⟩
  rw [esD] at hSD ⊢
  rw [esT] at hST ⊢
  have bA : Below w.heap.size w w := Below.refl _ _
  clear elp eu0 eu1 er2 edm edx ed edd esD esT hK2 hU1o
  have hEb : E ≤ 1000 := by omega
  have hge : decide ((-1085 : Int) < E) = true := decide_eq_true hE
  clear hK
  rcases Nat.lt_or_ge dd dm with hc | hc
  · rw [if_neg (by omega)] at hSD hST
    have hcI : decide ((dm : Int) ≤ (dd : Int)) = false := decide_eq_false (by omega)
    have hcN : decide (dm ≤ dd) = false := decide_eq_false (by omega)
    subst hST
    rcases Nat.lt_or_ge dm dx with hc2 | hc2
    · rw [if_pos hc2] at hSD
      have hcI2 : decide ((dm : Int) < (dx : Int)) = true := decide_eq_true (by omega)
      have hcN2 : decide (dm < dx) = true := decide_eq_true hc2
      subst hSD
      clear hc hc2
      go_enter Tryz.func128, Tryz.ntmps128
      go_wp2_with (first
        | (go_at_call 153; refine (L10 _).mono ?_; rintro e w' ⟨rfl, rfl⟩; clear L10)
        | (go_at_call 155; refine (P2 _).mono ?_; rintro e w' ⟨rfl, rfl⟩; clear P2)
        | (go_at_call 154; refine (PR _).mono ?_; rintro e w' ⟨rfl, rfl⟩; clear PR)
        | (go_at_call 156; refine (V0.run _ _ 0).mono ?_; rintro e w' ⟨rfl, n0, rfl⟩; clear V0)
        | (go_at_call 156; refine (V1.run _ _ _).mono ?_; rintro e w' ⟨rfl, n1, rfl⟩; clear V1)
        | (go_at_call 156; refine (V2.run _ _ _).mono ?_; rintro e w' ⟨rfl, n2, rfl⟩; clear V2)
        | (go_at_call 157; refine (NP _).mono ?_; rintro e w' ⟨rfl, rfl⟩; clear NP)
        | (go_at_call 157; refine (NM _).mono ?_; rintro e w' ⟨rfl, rfl⟩; clear NM)
        | (go_at_call 158; refine (CE _).mono ?_; rintro e w' ⟨rfl, rfl⟩)
        | (go_at_call 159; refine (FL _).mono ?_; rintro e w' ⟨rfl, rfl⟩)
        | (go_at_call 160; refine (RN _).mono ?_; rintro e w' ⟨rfl, rfl⟩))
      go_ret2
      exact ⟨rfl, (bA.alloc (Nat.le_refl _) _).trans (below_drewN _ _ _)⟩
    · rw [if_neg (by omega)] at hSD
      have hcI2 : decide ((dm : Int) < (dx : Int)) = false := decide_eq_false (by omega)
      have hcN2 : decide (dm < dx) = false := decide_eq_false (by omega)
      subst hSD
      clear hc hc2 V2 RN
      go_enter Tryz.func128, Tryz.ntmps128
      go_wp2_with (first
        | (go_at_call 153; refine (L10 _).mono ?_; rintro e w' ⟨rfl, rfl⟩; clear L10)
        | (go_at_call 155; refine (P2 _).mono ?_; rintro e w' ⟨rfl, rfl⟩; clear P2)
        | (go_at_call 154; refine (PR _).mono ?_; rintro e w' ⟨rfl, rfl⟩; clear PR)
        | (go_at_call 156; refine (V0.run _ _ 0).mono ?_; rintro e w' ⟨rfl, n0, rfl⟩; clear V0)
        | (go_at_call 156; refine (V1.run _ _ _).mono ?_; rintro e w' ⟨rfl, n1, rfl⟩; clear V1)
        | (go_at_call 156; refine (V2.run _ _ _).mono ?_; rintro e w' ⟨rfl, n2, rfl⟩; clear V2)
        | (go_at_call 157; refine (NP _).mono ?_; rintro e w' ⟨rfl, rfl⟩; clear NP)
        | (go_at_call 157; refine (NM _).mono ?_; rintro e w' ⟨rfl, rfl⟩; clear NM)
        | (go_at_call 158; refine (CE _).mono ?_; rintro e w' ⟨rfl, rfl⟩)
        | (go_at_call 159; refine (FL _).mono ?_; rintro e w' ⟨rfl, rfl⟩)
        | (go_at_call 160; refine (RN _).mono ?_; rintro e w' ⟨rfl, rfl⟩))
      go_ret2
      exact ⟨rfl, (bA.alloc (Nat.le_refl _) _).trans (below_drewN _ _ _)⟩
  · rw [if_pos hc] at hSD hST
    have hcI : decide ((dm : Int) ≤ (dd : Int)) = true := decide_eq_true (by omega)
    have hcN : decide (dm ≤ dd) = true := decide_eq_true hc
    subst hST
    subst hSD
    clear hc V2 RN
    go_enter Tryz.func128, Tryz.ntmps128
    go_wp2_with (first
      | (go_at_call 153; refine (L10 _).mono ?_; rintro e w' ⟨rfl, rfl⟩; clear L10)
      | (go_at_call 155; refine (P2 _).mono ?_; rintro e w' ⟨rfl, rfl⟩; clear P2)
      | (go_at_call 154; refine (PR _).mono ?_; rintro e w' ⟨rfl, rfl⟩; clear PR)
      | (go_at_call 156; refine (V0.run _ _ 0).mono ?_; rintro e w' ⟨rfl, n0, rfl⟩; clear V0)
      | (go_at_call 156; refine (V1.run _ _ _).mono ?_; rintro e w' ⟨rfl, n1, rfl⟩; clear V1)
      | (go_at_call 156; refine (V2.run _ _ _).mono ?_; rintro e w' ⟨rfl, n2, rfl⟩; clear V2)
      | (go_at_call 157; refine (NP _).mono ?_; rintro e w' ⟨rfl, rfl⟩; clear NP)
      | (go_at_call 157; refine (NM _).mono ?_; rintro e w' ⟨rfl, rfl⟩; clear NM)
      | (go_at_call 158; refine (CE _).mono ?_; rintro e w' ⟨rfl, rfl⟩)
      | (go_at_call 159; refine (FL _).mono ?_; rintro e w' ⟨rfl, rfl⟩)
      | (go_at_call 160; refine (RN _).mono ?_; rintro e w' ⟨rfl, rfl⟩))
    go_ret2
    exact ⟨rfl, (bA.alloc (Nat.le_refl _) _).trans (below_drewN _ _ _)⟩
end Go.Proofs.YtbengmceiaejeaaGreatDoor
