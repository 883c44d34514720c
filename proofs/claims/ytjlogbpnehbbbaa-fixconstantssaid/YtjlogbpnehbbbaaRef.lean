/- What the document's own functions on whole numbers answer: sums, differences, products, opposites, amounts. -/
import Derived.Test.YtjlogbpnehbbbaaProg
import Derived.Test.YtjlogbpnehbbbaaBase
import Derived.Test.YtjlogbpnehbbbaaRight
import Derived.Test.YtjlogbpnehbbbaaDiv
import Derived.Test.YtjlogbpnehbbbaaAdd
import Derived.Test.YtjlogbpnehbbbaaRests
import Derived.WalkKit
import Derived.ProofKit
import Derived.OpenShut
namespace Go.Proofs.Ytjlogbpnehbbbaa
open Go.ChangeShapes Go.WideShapes Go.ChangeAt Go.RowKit

theorem rright_any (n : Int) (w : World) : Calls Try.prog 19 #[.int .i64 n] w fun e w' => e = .returned (.bool (rightB n)) ∧ w' = w := by
  by_cases h1 : -4611686018427387904 ≤ n
  · by_cases h2 : n ≤ 4611686018427387903
    · have hr : Hid (rightB n = true) := right_yes ⟨h1, h2⟩
      go_enter Try.func19, Try.ntmps19
      go_wp2
      go_ret
      exact ⟨ret_bool hr.out.symm, rfl⟩
    · have hr : Hid (rightB n = false) := right_no (by omega)
      go_enter Try.func19, Try.ntmps19
      go_wp2
      go_ret
      exact ⟨ret_bool hr.out.symm, rfl⟩
  · have hr : Hid (rightB n = false) := right_no (by omega)
    go_enter Try.func19, Try.ntmps19
    go_wp2
    go_ret
    exact ⟨ret_bool hr.out.symm, rfl⟩

theorem told_any (n : Int) (w : World) : Calls Try.prog 31 #[.int .i64 n] w fun e w' => e = .returned (.tuple #[.int .i64 (ansV n), .int .i64 (ansE n)]) ∧ w' = w := by
  rcases right_cases n with ⟨hr, _⟩ | ⟨hr, _⟩
  · have hv := hide (ansV_yes hr)
    have he := hide (ansE_yes hr)
    go_enter Try.func31, Try.ntmps31
    go_wp2_with (go_at_call 19; refine (rright_any _ _).mono ?_; rintro e w' ⟨rfl, rfl⟩)
    go_ret2
    exact ⟨ret_two hv.out.symm he.out.symm, rfl⟩
  · have hv := hide (ansV_no hr)
    have he := hide (ansE_no hr)
    go_enter Try.func31, Try.ntmps31
    go_wp2_with (go_at_call 19; refine (rright_any _ _).mono ?_; rintro e w' ⟨rfl, rfl⟩)
    go_ret2
    exact ⟨ret_two hv.out.symm he.out.symm, rfl⟩

theorem rsub_any (a b : Int) (w : World) : Calls Try.prog 11 #[.int .i64 a, .int .i64 b] w fun e w' => e = .returned (.tuple #[.int .i64 (subV a b), .int .i64 (subE a b)]) ∧ w' = w := by
  have HV : Hid (subV a b = if rightB a && rightB b then ansV (a - b) else 0) := rfl
  have HE : Hid (subE a b = if rightB a && rightB b then ansE (a - b) else 1) := rfl
  rcases right_cases a with ⟨ha, _⟩ | ⟨ha, _⟩ <;> rcases right_cases b with ⟨hb, _⟩ | ⟨hb, _⟩
  all_goals
    have HA := hide ha
    have HB := hide hb
    go_enter Try.func11, Try.ntmps11
    go_wp2_with (first | (go_at_call 19; refine (rright_any _ _).mono ?_; rintro e w' ⟨rfl, rfl⟩) | (go_at_call 31; refine (told_any _ _).mono ?_; rintro e w'' ⟨rfl, rfl⟩))
    go_ret2
    exact ⟨ret_two (by rw [HV.out, HA.out, HB.out]; rfl) (by rw [HE.out, HA.out, HB.out]; rfl), rfl⟩

/-- A number's amount. -/
def amt (n : Int) : Int := if n < 0 then -n else n
theorem amt_neg {n : Int} (h : n < 0) : amt n = -n := by simp [amt, h]
theorem amt_pos {n : Int} (h : ¬ n < 0) : amt n = n := by simp [amt, h]
theorem amt_abs (n : Int) : amt n = n.natAbs := by unfold amt; split <;> omega

theorem amount_any (n : Int) (w : World) (hn : -4611686018427387904 ≤ n ∧ n ≤ 4611686018427387903) : Calls Try.prog 33 #[.int .i64 n] w fun e w' => e = .returned (.int .u64 (amt n)) ∧ w' = w := by
  by_cases h : n < 0
  · have HA := hide (amt_neg h)
    go_enter Try.func33, Try.ntmps33
    go_wp2
    go_ret
    exact ⟨ret_int HA.out.symm, rfl⟩
  · have HA := hide (amt_pos h)
    go_enter Try.func33, Try.ntmps33
    go_wp2
    go_ret
    exact ⟨ret_int HA.out.symm, rfl⟩

/-- An amount with its sign. -/
def sgn (m : Int) (below : Bool) : Int := if below then -m else m
theorem signed_any (m : Int) (below : Bool) (w : World) (hm : 0 ≤ m ∧ m ≤ 9223372036854775807) : Calls Try.prog 34 #[.int .u64 m, .bool below] w fun e w' => e = .returned (.tuple #[.int .i64 (ansV (sgn m below)), .int .i64 (ansE (sgn m below))]) ∧ w' = w := by
  cases below
  · have HS : Hid (sgn m false = m) := rfl
    by_cases h : m ≤ 4611686018427387903
    · have HR := hide (@right_yes m (by omega))
      go_enter Try.func34, Try.ntmps34
      go_wp2
      go_ret2
      exact ⟨ret_two (by rw [HS.out, ansV_yes HR.out]) (by rw [HS.out, ansE_yes HR.out]), rfl⟩
    · have HR := hide (@right_no m (by omega))
      go_enter Try.func34, Try.ntmps34
      go_wp2
      go_ret2
      exact ⟨ret_two (by rw [HS.out, ansV_no HR.out]) (by rw [HS.out, ansE_no HR.out]), rfl⟩
  · have HS : Hid (sgn m true = -m) := rfl
    by_cases h : m ≤ 4611686018427387904
    · have HR := hide (@right_yes (-m) (by omega))
      go_enter Try.func34, Try.ntmps34
      go_wp2
      go_ret2
      exact ⟨ret_two (by rw [HS.out, ansV_yes HR.out]) (by rw [HS.out, ansE_yes HR.out]), rfl⟩
    · have HR := hide (@right_no (-m) (by omega))
      go_enter Try.func34, Try.ntmps34
      go_wp2
      go_ret2
      exact ⟨ret_two (by rw [HS.out, ansV_no HR.out]) (by rw [HS.out, ansE_no HR.out]), rfl⟩

theorem asked_any (a b : Int) (w : World) : Calls Try.prog 36 #[.int .i64 a, .int .i64 b] w fun e w' => e = .returned (.int .i64 (divE a b)) ∧ w' = w := by
  rcases right_cases a with ⟨ha, _⟩ | ⟨ha, _⟩ <;> rcases right_cases b with ⟨hb, _⟩ | ⟨hb, _⟩ <;> cases h0 : b == 0
  all_goals
    have HE : Hid (divE a b = if rightB a && rightB b then (if b == 0 then 11 else 0) else 1) := rfl
    have HA := hide ha
    have HB := hide hb
    have H0 := hide h0
    go_enter Try.func36, Try.ntmps36
    go_wp2_with (go_at_call 19; refine (rright_any _ _).mono ?_; rintro e w' ⟨rfl, rfl⟩)
    go_ret
    exact ⟨ret_int (by rw [HE.out, HA.out, HB.out, H0.out]; rfl), rfl⟩

/-- The product's sign and amount. -/
theorem mul_amt (a b : Int) : sgn (amt a * amt b) (decide (a < 0) != decide (b < 0)) = a * b := by
  unfold sgn amt
  by_cases ha : a < 0 <;> by_cases hb : b < 0 <;> simp [ha, hb, Int.neg_mul, Int.mul_neg]

theorem rmul_zero (a b : Int) (w : World) (hr : rightB a = true) (hs : rightB b = true) (h : a = 0 ∨ b = 0) : Calls Try.prog 13 #[.int .i64 a, .int .i64 b] w fun e w' => e = .returned (.tuple #[.int .i64 0, .int .i64 0]) ∧ w' = w := by
  have ha := right_iff.mp hr
  have hb := right_iff.mp hs
  rcases h with h | h
  · have e1 : amt a = 0 := by simp [amt, h]
    clear h
    go_enter Try.func13, Try.ntmps13
    go_wp2_with (first | (go_at_call 19; refine (rright_any _ _).mono ?_; rintro e w' ⟨rfl, rfl⟩) | (go_at_call 33; refine (amount_any _ _ (by omega)).mono ?_; rintro e w' ⟨rfl, rfl⟩))
    go_ret2
    exact ⟨rfl, rfl⟩
  · have e1 : amt b = 0 := by simp [amt, h]
    clear h
    cases hz : amt a == 0
    all_goals
      go_enter Try.func13, Try.ntmps13
      go_wp2_with (first | (go_at_call 19; refine (rright_any _ _).mono ?_; rintro e w' ⟨rfl, rfl⟩) | (go_at_call 33; refine (amount_any _ _ (by omega)).mono ?_; rintro e w' ⟨rfl, rfl⟩))
      go_ret2
      exact ⟨rfl, rfl⟩

theorem rmul_great (a b x y : Int) (w : World) (hr : rightB a = true) (hs : rightB b = true) (e1 : amt a = x) (e2 : amt b = y) (hx : (x == 0) = false) (hy : (y == 0) = false) (hy0 : 0 < y) (h : 4611686018427387904 / y < x) :
    Calls Try.prog 13 #[.int .i64 a, .int .i64 b] w fun e w' => e = .returned (.tuple #[.int .i64 0, .int .i64 10]) ∧ w' = w := by
  have ha := right_iff.mp hr
  have hb := right_iff.mp hs
  go_enter Try.func13, Try.ntmps13
  go_wp2_with (first | (go_at_call 19; refine (rright_any _ _).mono ?_; rintro e w' ⟨rfl, rfl⟩) | (go_at_call 33; refine (amount_any _ _ (by omega)).mono ?_; rintro e w' ⟨rfl, rfl⟩))
  go_ret2
  exact ⟨rfl, rfl⟩

theorem rmul_small (a b x y : Int) (w : World) (hr : rightB a = true) (hs : rightB b = true) (e1 : amt a = x) (e2 : amt b = y) (hx : (x == 0) = false) (hy : (y == 0) = false) (hy0 : 0 < y) (h : x ≤ 4611686018427387904 / y) (hp : 0 ≤ x * y ∧ x * y ≤ 4611686018427387904) :
    Calls Try.prog 13 #[.int .i64 a, .int .i64 b] w fun e w' => e = .returned (.tuple #[.int .i64 (ansV (sgn (x * y) (decide (a < 0) != decide (b < 0)))), .int .i64 (ansE (sgn (x * y) (decide (a < 0) != decide (b < 0))))]) ∧ w' = w := by
  have ha := right_iff.mp hr
  have hb := right_iff.mp hs
  cases ga : decide (a < 0) <;> cases gb : decide (b < 0)
  all_goals
    go_enter Try.func13, Try.ntmps13
    go_wp2_with (first | (go_at_call 19; refine (rright_any _ _).mono ?_; rintro e w' ⟨rfl, rfl⟩) | (go_at_call 33; refine (amount_any _ _ (by omega)).mono ?_; rintro e w' ⟨rfl, rfl⟩) | (go_at_call 34; refine (signed_any _ _ _ (by omega)).mono ?_; rintro e w' ⟨rfl, rfl⟩))
    go_ret2
    exact ⟨rfl, rfl⟩

theorem rmul_any (a b : Int) (w : World) : Calls Try.prog 13 #[.int .i64 a, .int .i64 b] w fun e w' => e = .returned (.tuple #[.int .i64 (mulV a b), .int .i64 (mulE a b)]) ∧ w' = w := by
  have HV : Hid (mulV a b = if rightB a && rightB b then ansV (a * b) else 0) := rfl
  have HE : Hid (mulE a b = if rightB a && rightB b then ansE (a * b) else 1) := rfl
  cases hr : rightB a
  · have HR := hide hr
    go_enter Try.func13, Try.ntmps13
    go_wp2_with (first | (go_at_call 19; refine (rright_any _ _).mono ?_; rintro e w' ⟨rfl, rfl⟩))
    go_ret2
    exact ⟨ret_two (by rw [HV.out, HR.out]; rfl) (by rw [HE.out, HR.out]; rfl), rfl⟩
  cases hs : rightB b
  · have HR := hide hr
    have HS := hide hs
    go_enter Try.func13, Try.ntmps13
    go_wp2_with (first | (go_at_call 19; refine (rright_any _ _).mono ?_; rintro e w' ⟨rfl, rfl⟩))
    go_ret2
    exact ⟨ret_two (by rw [HV.out, HR.out, HS.out]; rfl) (by rw [HE.out, HR.out, HS.out]; rfl), rfl⟩
  have hv : mulV a b = ansV (a * b) := by rw [HV.out, hr, hs]; rfl
  have he : mulE a b = ansE (a * b) := by rw [HE.out, hr, hs]; rfl
  by_cases ha0 : a = 0
  · refine (rmul_zero a b w hr hs (Or.inl ha0)).mono ?_
    rintro e w' ⟨rfl, rfl⟩
    exact ⟨ret_two (by rw [hv, ha0, Int.zero_mul]; decide) (by rw [he, ha0, Int.zero_mul]; decide), rfl⟩
  by_cases hb0 : b = 0
  · refine (rmul_zero a b w hr hs (Or.inr hb0)).mono ?_
    rintro e w' ⟨rfl, rfl⟩
    exact ⟨ret_two (by rw [hv, hb0, Int.mul_zero]; decide) (by rw [he, hb0, Int.mul_zero]; decide), rfl⟩
  have hm := mul_amt a b
  have hx : 0 < amt a := by unfold amt; split <;> omega
  have hy : 0 < amt b := by unfold amt; split <;> omega
  have hp : 0 < amt a * amt b := Int.mul_pos hx hy
  have hd : amt a ≤ 4611686018427387904 / amt b ↔ amt a * amt b ≤ 4611686018427387904 := Int.le_ediv_iff_mul_le hy
  have hx' : (amt a == 0) = false := by simp; omega
  have hy' : (amt b == 0) = false := by simp; omega
  by_cases hle : amt a * amt b ≤ 4611686018427387904
  · refine (rmul_small a b (amt a) (amt b) w hr hs rfl rfl hx' hy' hy (hd.mpr hle) ⟨by omega, hle⟩).mono ?_
    rintro e w' ⟨rfl, rfl⟩
    exact ⟨ret_two (by rw [hv, hm]) (by rw [he, hm]), rfl⟩
  · refine (rmul_great a b (amt a) (amt b) w hr hs rfl rfl hx' hy' hy (by omega)).mono ?_
    rintro e w' ⟨rfl, rfl⟩
    have hn : rightB (a * b) = false := by
      rw [← hm]; apply right_no; unfold sgn; split <;> omega
    exact ⟨ret_two (by rw [hv, ansV_no hn]) (by rw [he, ansE_no hn]), rfl⟩

/-- The opposite, and the amount: what is told, and the error. -/
def negV (a : Int) : Int := if rightB a then ansV (-a) else 0
def negE (a : Int) : Int := if rightB a then ansE (-a) else 1
def absV (a : Int) : Int := if a < 0 then negV a else if rightB a then a else 0
def absE (a : Int) : Int := if a < 0 then negE a else if rightB a then 0 else 1

theorem neg_any (a : Int) (w : World) : Calls Try.prog 14 #[.int .i64 a] w fun e w' => e = .returned (.tuple #[.int .i64 (negV a), .int .i64 (negE a)]) ∧ w' = w := by
  have HV : Hid (negV a = if rightB a then ansV (-a) else 0) := rfl
  have HE : Hid (negE a = if rightB a then ansE (-a) else 1) := rfl
  rcases right_cases a with ⟨ha, _⟩ | ⟨ha, _⟩
  all_goals
    have HA := hide ha
    go_enter Try.func14, Try.ntmps14
    go_wp2_with (first | (go_at_call 18; refine (right_any _ _).mono ?_; rintro e w' ⟨rfl, rfl⟩) | (go_at_call 32; refine (answer_any _ _).mono ?_; rintro e w'' ⟨rfl, rfl⟩))
    go_ret2
    exact ⟨ret_two (by rw [HV.out, HA.out]; rfl) (by rw [HE.out, HA.out]; rfl), rfl⟩

theorem abs_any (a : Int) (w : World) : Calls Try.prog 16 #[.int .i64 a] w fun e w' => e = .returned (.tuple #[.int .i64 (absV a), .int .i64 (absE a)]) ∧ w' = w := by
  have HV : Hid (absV a = if a < 0 then negV a else if rightB a then a else 0) := rfl
  have HE : Hid (absE a = if a < 0 then negE a else if rightB a then 0 else 1) := rfl
  by_cases h : a < 0
  · have H := hide h
    go_enter Try.func16, Try.ntmps16
    go_wp2_with (first | (go_at_call 14; refine (neg_any _ _).mono ?_; rintro e w' ⟨rfl, rfl⟩))
    go_ret2
    exact ⟨ret_two (by rw [HV.out, if_pos H.out]) (by rw [HE.out, if_pos H.out]), rfl⟩
  · have H := hide h
    rcases right_cases a with ⟨ha, _⟩ | ⟨ha, _⟩
    all_goals
      have HA := hide ha
      go_enter Try.func16, Try.ntmps16
      go_wp2_with (first | (go_at_call 18; refine (right_any _ _).mono ?_; rintro e w' ⟨rfl, rfl⟩))
      go_ret2
      exact ⟨ret_two (by rw [HV.out, if_neg (by have := H.out; omega), HA.out]; rfl) (by rw [HE.out, if_neg (by have := H.out; omega), HA.out]; rfl), rfl⟩

theorem neg_sub (a : Int) : subV 0 a = negV a ∧ subE 0 a = negE a := by
  have h0 : rightB 0 = true := by decide
  simp [subV, subE, negV, negE, h0]
theorem rneg_any (a : Int) (w : World) : Calls Try.prog 15 #[.int .i64 a] w fun e w' => e = .returned (.tuple #[.int .i64 (negV a), .int .i64 (negE a)]) ∧ w' = w := by
  have H := hide (neg_sub a)
  go_enter Try.func15, Try.ntmps15
  go_wp2_with (first | (go_at_call 11; refine (rsub_any _ _ _).mono ?_; rintro e w' ⟨rfl, rfl⟩))
  go_ret2
  exact ⟨ret_two H.out.1 H.out.2, rfl⟩

theorem abs_sub (a : Int) : subV a 0 = (if rightB a then a else 0) ∧ subE a 0 = (if rightB a then 0 else 1) := by
  have h0 : rightB 0 = true := by decide
  cases h : rightB a <;> simp [subV, subE, ansV, ansE, h0, h]
theorem rabs_any (a : Int) (w : World) : Calls Try.prog 17 #[.int .i64 a] w fun e w' => e = .returned (.tuple #[.int .i64 (absV a), .int .i64 (absE a)]) ∧ w' = w := by
  have HV : Hid (absV a = if a < 0 then negV a else if rightB a then a else 0) := rfl
  have HE : Hid (absE a = if a < 0 then negE a else if rightB a then 0 else 1) := rfl
  have HS := hide (abs_sub a)
  by_cases h : a < 0
  · have H := hide h
    go_enter Try.func17, Try.ntmps17
    go_wp2_with (first | (go_at_call 15; refine (rneg_any _ _).mono ?_; rintro e w' ⟨rfl, rfl⟩))
    go_ret2
    exact ⟨ret_two (by rw [HV.out, if_pos H.out]) (by rw [HE.out, if_pos H.out]), rfl⟩
  · have H := hide h
    go_enter Try.func17, Try.ntmps17
    go_wp2_with (first | (go_at_call 11; refine (rsub_any _ _ _).mono ?_; rintro e w' ⟨rfl, rfl⟩))
    go_ret2
    exact ⟨ret_two (by rw [HV.out, if_neg (by have := H.out; omega), HS.out.1]) (by rw [HE.out, if_neg (by have := H.out; omega), HS.out.2]), rfl⟩
end Go.Proofs.Ytjlogbpnehbbbaa
