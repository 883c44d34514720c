/- What the document's own divisions answer. -/
import Derived.Test.YtjlogbpnehbbbaaProg
import Derived.Test.YtjlogbpnehbbbaaBase
import Derived.Test.YtjlogbpnehbbbaaRight
import Derived.Test.YtjlogbpnehbbbaaDiv
import Derived.Test.YtjlogbpnehbbbaaAdd
import Derived.Test.YtjlogbpnehbbbaaRests
import Derived.Test.YtjlogbpnehbbbaaRef
import Derived.WalkKit
import Derived.ProofKit
import Derived.OpenShut
namespace Go.Proofs.Ytjlogbpnehbbbaa
open Go.ChangeShapes Go.WideShapes Go.ChangeAt Go.RowKit

/-! Plain facts: quotients and rests of amounts. -/
theorem quot_amt (a b : Int) : sgn (amt a / amt b) (decide (a < 0) != decide (b < 0)) = a.tdiv b := by
  have h1 := @Int.tdiv_eq_ediv_of_nonneg
  unfold sgn amt
  by_cases ha : a < 0 <;> by_cases hb : b < 0
  · simp only [ha, hb]
    have : a.tdiv b = (-a).tdiv (-b) := by rw [Int.neg_tdiv, Int.tdiv_neg, Int.neg_neg]
    rw [this, h1 (by omega)]; simp
  · simp only [ha, hb]
    have : a.tdiv b = -((-a).tdiv b) := by rw [Int.neg_tdiv, Int.neg_neg]
    rw [this, h1 (by omega)]; simp
  · simp only [ha, hb]
    have : a.tdiv b = -(a.tdiv (-b)) := by rw [Int.tdiv_neg, Int.neg_neg]
    rw [this, h1 (by omega)]; simp
  · simp only [ha, hb]
    rw [h1 (by omega)]; simp
theorem rem_amt (a b : Int) : sgn (amt a % amt b) (decide (a < 0)) = a.tmod b := by
  have h1 := @Int.tmod_eq_emod_of_nonneg
  unfold sgn amt
  by_cases ha : a < 0 <;> by_cases hb : b < 0
  · simp only [ha, hb]
    have : a.tmod b = -((-a).tmod (-b)) := by rw [Int.neg_tmod, Int.tmod_neg, Int.neg_neg]
    rw [this, h1 (by omega)]; simp
  · simp only [ha, hb]
    have : a.tmod b = -((-a).tmod b) := by rw [Int.neg_tmod, Int.neg_neg]
    rw [this, h1 (by omega)]; simp
  · simp only [ha, hb]
    have : a.tmod b = a.tmod (-b) := by rw [Int.tmod_neg]
    rw [this, h1 (by omega)]; simp
  · simp only [ha, hb]
    rw [h1 (by omega)]; simp

theorem amt_bd {n : Int} (h : -4611686018427387904 ≤ n ∧ n ≤ 4611686018427387903) : 0 ≤ amt n ∧ amt n ≤ 4611686018427387904 := by unfold amt; split <;> omega
theorem amt_nz {n : Int} (h : ¬ n = 0) : 0 < amt n := by unfold amt; split <;> omega
theorem ediv_bd {x y : Int} (hx : 0 ≤ x ∧ x ≤ 4611686018427387904) (hy : 0 < y) : 0 ≤ x / y ∧ x / y ≤ 4611686018427387904 :=
  ⟨Int.ediv_nonneg hx.1 (by omega), Int.le_trans (Int.ediv_le_self _ hx.1) hx.2⟩
theorem emod_bd {x y : Int} (hy : 0 < y) (hy2 : y ≤ 4611686018427387904) : 0 ≤ x % y ∧ x % y ≤ 4611686018427387903 :=
  ⟨Int.emod_nonneg _ (by omega), by have := Int.emod_lt_of_pos x hy; omega⟩

theorem rquot_any (a b : Int) (w : World) : Calls Try.prog 25 #[.int .i64 a, .int .i64 b] w fun e w' => e = .returned (.tuple #[.int .i64 (quotV a b), .int .i64 (quotE a b)]) ∧ w' = w := by
  have HV : Hid (quotV a b = if divE a b = 0 then ansV (a.tdiv b) else 0) := rfl
  have HE : Hid (quotE a b = if divE a b = 0 then ansE (a.tdiv b) else divE a b) := rfl
  rcases divE_cases a b with ⟨hd, ha, hb, h0⟩ | hd
  · have HD := hide hd
    have HQ := hide (quot_amt a b)
    obtain ⟨x, e1, hx⟩ : ∃ x, amt a = x ∧ 0 ≤ x ∧ x ≤ 4611686018427387904 := ⟨_, rfl, amt_bd ha⟩
    obtain ⟨y, e2, hy, hy2⟩ : ∃ y, amt b = y ∧ 0 < y ∧ y ≤ 4611686018427387904 := ⟨_, rfl, amt_nz h0, (amt_bd hb).2⟩
    have hz := ediv_bd hx hy
    have E1 := hide e1
    have E2 := hide e2
    cases ga : decide (a < 0) <;> cases gb : decide (b < 0)
    all_goals
      have GA := hide ga
      have GB := hide gb
      go_enter Try.func25, Try.ntmps25
      go_wp2_with (first | (go_at_call 36; refine (asked_any _ _ _).mono ?_; rintro e w' ⟨rfl, rfl⟩) | (go_at_call 33; refine (amount_any _ _ (by omega)).mono ?_; rintro e w' ⟨rfl, rfl⟩) | (go_at_call 34; refine (signed_any _ _ _ (by omega)).mono ?_; rintro e w' ⟨rfl, rfl⟩))
      go_ret2
      have hq := HQ.out
      rw [E1.out, E2.out, GA.out, GB.out] at hq
      exact ⟨ret_two (by rw [HV.out, if_pos HD.out, ← hq]; rfl) (by rw [HE.out, if_pos HD.out, ← hq]; rfl), rfl⟩
  · rcases hd with hd | hd
    all_goals
      have HD := hide hd
      go_enter Try.func25, Try.ntmps25
      go_wp2_with (first | (go_at_call 36; refine (asked_any _ _ _).mono ?_; rintro e w' ⟨rfl, rfl⟩))
      go_ret2
      exact ⟨ret_two (by rw [HV.out, HD.out]; rfl) (by rw [HE.out, HD.out]; rfl), rfl⟩

theorem rrem_any (a b : Int) (w : World) : Calls Try.prog 27 #[.int .i64 a, .int .i64 b] w fun e w' => e = .returned (.tuple #[.int .i64 (remV a b), .int .i64 (divE a b)]) ∧ w' = w := by
  have HV : Hid (remV a b = if divE a b = 0 then a.tmod b else 0) := rfl
  rcases divE_cases a b with ⟨hd, ha, hb, h0⟩ | hd
  · have HD := hide hd
    have hm := tmod_small a b h0
    have HR := hide (@right_yes (a.tmod b) (by omega))
    clear hm
    have HQ := hide (rem_amt a b)
    obtain ⟨x, e1, hx⟩ : ∃ x, amt a = x ∧ 0 ≤ x ∧ x ≤ 4611686018427387904 := ⟨_, rfl, amt_bd ha⟩
    obtain ⟨y, e2, hy, hy2⟩ : ∃ y, amt b = y ∧ 0 < y ∧ y ≤ 4611686018427387904 := ⟨_, rfl, amt_nz h0, (amt_bd hb).2⟩
    have hz := @emod_bd x y hy hy2
    have E1 := hide e1
    have E2 := hide e2
    cases ga : decide (a < 0)
    all_goals
      have GA := hide ga
      go_enter Try.func27, Try.ntmps27
      go_wp2_with (first | (go_at_call 36; refine (asked_any _ _ _).mono ?_; rintro e w' ⟨rfl, rfl⟩) | (go_at_call 33; refine (amount_any _ _ (by omega)).mono ?_; rintro e w' ⟨rfl, rfl⟩) | (go_at_call 34; refine (signed_any _ _ _ (by omega)).mono ?_; rintro e w' ⟨rfl, rfl⟩))
      go_ret2
      have hq := HQ.out
      rw [E1.out, E2.out, GA.out] at hq
      exact ⟨ret_two (by rw [HV.out, if_pos HD.out, hq, ansV_yes HR.out]) (by rw [HD.out, hq, ansE_yes HR.out]), rfl⟩
  · rcases hd with hd | hd
    all_goals
      have HD := hide hd
      go_enter Try.func27, Try.ntmps27
      go_wp2_with (first | (go_at_call 36; refine (asked_any _ _ _).mono ?_; rintro e w' ⟨rfl, rfl⟩))
      go_ret2
      exact ⟨ret_two (by rw [HV.out, HD.out]; rfl) (by rw [HD.out]), rfl⟩

theorem rmod_any (a b : Int) (w : World) : Calls Try.prog 23 #[.int .i64 a, .int .i64 b] w fun e w' => e = .returned (.tuple #[.int .i64 (modV a b), .int .i64 (divE a b)]) ∧ w' = w := by
  have HV : Hid (modV a b = if divE a b = 0 then md a b else 0) := rfl
  rcases divE_cases a b with ⟨hd, ha, hb, h0⟩ | hd
  · have HD := hide hd
    have hrb := tmod_bd a b hb h0
    obtain ⟨r, er⟩ : ∃ r, a.tmod b = r := ⟨_, rfl⟩
    have e7 : remV a b = r := by simp [remV, hd, er]
    have ER := hide er
    rw [er] at hrb
    clear er
    cases hr : r == 0 <;> cases hsa : decide (r < 0) <;> cases hsb : decide (b < 0)
    all_goals
      have HR := hide hr
      have HSA := hide hsa
      have HSB := hide hsb
      go_enter Try.func23, Try.ntmps23
      go_wp2_with (first | (go_at_call 27; refine (rrem_any _ _ _).mono ?_; rintro e w' ⟨rfl, rfl⟩))
      go_ret2
      have h1 := HR.out
      have h2 := HSA.out
      have h3 := HSB.out
      simp only [beq_eq_false_iff_ne, beq_iff_eq, ne_eq, decide_eq_true_eq, decide_eq_false_iff_not] at h1 h2 h3
      have h4 := ER.out
      refine ⟨ret_two (by rw [HV.out, if_pos HD.out]; first | (exfalso; omega) | rw [md_lo (by omega) (by omega), h4] | rw [md_hi (by omega), h4]) (by rw [HD.out]), rfl⟩
  · rcases hd with hd | hd
    all_goals
      have HD := hide hd
      have e7 : remV a b = 0 := by simp [remV, hd]
      have HV2 : Hid (modV a b = 0) := by rw [HV.out, hd]; rfl
      go_enter Try.func23, Try.ntmps23
      go_wp2_with (first | (go_at_call 27; refine (rrem_any _ _ _).mono ?_; rintro e w' ⟨rfl, rfl⟩))
      go_ret2
      exact ⟨ret_two HV2.out.symm (by rw [HD.out]), rfl⟩

theorem ceil_amt (x y : Int) (hy : 0 < y) (h : ¬ x % y = 0) : (x + y - 1) / y = x / y + 1 := by
  have e := Int.emod_add_mul_ediv x y
  have h1 := Int.emod_nonneg x (show y ≠ 0 by omega)
  have h2 := Int.emod_lt_of_pos x hy
  have e2 : x + y - 1 = (x % y - 1) + (x / y + 1) * y := by rw [Int.add_mul, Int.mul_comm (x / y) y]; omega
  rw [e2, Int.add_mul_ediv_right _ _ (by omega), Int.ediv_eq_zero_of_lt (by omega) (by omega)]
  omega
theorem amt_rest (a b : Int) : amt a % amt b = 0 ↔ a.tmod b = 0 := by
  rw [← rem_amt a b]; unfold sgn; split <;> omega
/-- The quotient rounded down, out of amounts. -/
theorem dq_amt (a b : Int) (h0 : ¬ b = 0) (h : ¬ a.tmod b = 0) (g : decide (a < 0) != decide (b < 0)) : sgn ((amt a + amt b - 1) / amt b) true = dq a b := by
  have q := quot_amt a b
  rw [g] at q
  rw [ceil_amt _ _ (amt_nz h0) (fun x => h ((amt_rest a b).mp x))]
  have d : dq a b = a.tdiv b - 1 := by unfold dq; simp [h, g]
  rw [d, ← q]
  unfold sgn
  simp only [if_true]
  omega
theorem md_zero (a b : Int) (h0 : ¬ b = 0) : md a b = 0 ↔ a.tmod b = 0 := by
  have s := tmod_small a b h0
  unfold md
  split
  · rename_i h; simp at h; omega
  · exact Iff.rfl

theorem rdiv_any (a b : Int) (w : World) : Calls Try.prog 21 #[.int .i64 a, .int .i64 b] w fun e w' => e = .returned (.tuple #[.int .i64 (divV a b), .int .i64 (divF a b)]) ∧ w' = w := by
  have HV : Hid (divV a b = if divE a b = 0 then ansV (dq a b) else 0) := rfl
  have HE : Hid (divF a b = if divE a b = 0 then ansE (dq a b) else divE a b) := rfl
  rcases divE_cases a b with ⟨hd, ha, hb, h0⟩ | hd
  · have HD := hide hd
    obtain ⟨m, em⟩ : ∃ m, md a b = m := ⟨_, rfl⟩
    have e7 : modV a b = m := by simp [modV, hd, em]
    have EM := hide em
    clear em
    have H0 := hide h0
    obtain ⟨x, e1, hx⟩ : ∃ x, amt a = x ∧ 0 ≤ x ∧ x ≤ 4611686018427387904 := ⟨_, rfl, amt_bd ha⟩
    obtain ⟨y, e2, hy, hy2⟩ : ∃ y, amt b = y ∧ 0 < y ∧ y ≤ 4611686018427387904 := ⟨_, rfl, amt_nz h0, (amt_bd hb).2⟩
    have hz := ediv_bd hx hy
    have hz2 : 0 ≤ (x + y - 1) / y ∧ (x + y - 1) / y ≤ 9223372036854775807 := ⟨Int.ediv_nonneg (by omega) (by omega), Int.le_trans (Int.ediv_le_self _ (by omega)) (by omega)⟩
    have E1 := hide e1
    have E2 := hide e2
    cases hm : m != 0 <;> cases ga : decide (a < 0) <;> cases gb : decide (b < 0)
    all_goals
      have HM := hide hm
      have GA := hide ga
      have GB := hide gb
      go_enter Try.func21, Try.ntmps21
      go_wp2_with (first | (go_at_call 36; refine (asked_any _ _ _).mono ?_; rintro e w' ⟨rfl, rfl⟩) | (go_at_call 23; refine (rmod_any _ _ _).mono ?_; rintro e w' ⟨rfl, rfl⟩) | (go_at_call 33; refine (amount_any _ _ (by omega)).mono ?_; rintro e w' ⟨rfl, rfl⟩) | (go_at_call 34; refine (signed_any _ _ _ (by omega)).mono ?_; rintro e w' ⟨rfl, rfl⟩))
      go_ret2
      have h1 := HM.out
      have h2 := GA.out
      have h3 := GB.out
      have hz := md_zero a b H0.out
      rw [EM.out] at hz
      have hlo := fun h g => dq_amt a b H0.out h g
      have hhi := quot_amt a b
      rw [E1.out, E2.out, h2, h3] at hhi
      rw [E1.out, E2.out, h2, h3] at hlo
      simp only [bne_eq_false_iff_eq, bne_iff_ne, ne_eq, decide_eq_true_eq, decide_eq_false_iff_not] at h1 h2 h3
      first
        | (have hq := hlo (fun z => h1 (hz.mpr z)) rfl
           exact ⟨ret_two (by rw [HV.out, if_pos HD.out, ← hq]) (by rw [HE.out, if_pos HD.out, ← hq]), rfl⟩)
        | (have hq := dq_hi (a := a) (b := b) (by first | exact Or.inl (hz.mp h1) | omega)
           exact ⟨ret_two (by rw [HV.out, if_pos HD.out, hq, ← hhi]; rfl) (by rw [HE.out, if_pos HD.out, hq, ← hhi]; rfl), rfl⟩)
  · rcases hd with hd | hd
    all_goals
      have HD := hide hd
      go_enter Try.func21, Try.ntmps21
      go_wp2_with (first | (go_at_call 36; refine (asked_any _ _ _).mono ?_; rintro e w' ⟨rfl, rfl⟩))
      go_ret2
      exact ⟨ret_two (by rw [HV.out, HD.out]; rfl) (by rw [HE.out, HD.out]; rfl), rfl⟩
end Go.Proofs.Ytjlogbpnehbbbaa
