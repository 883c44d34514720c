/- What the document's own functions on whole numbers answer: sums, differences, products, opposites, amounts. -/
import Derived.Test.YtjlogbpnehbbbaaDoorProg
import Derived.Test.YtjlogbpnehbbbaaDoorBase
import Derived.Test.YtjlogbpnehbbbaaDoorRight
import Derived.Test.YtjlogbpnehbbbaaDoorDiv
import Derived.Test.YtjlogbpnehbbbaaDoorAdd
import Derived.Test.YtjlogbpnehbbbaaDoorRests
import Derived.WalkKit
import Derived.ProofKit
import Derived.OpenShut
namespace Go.Proofs.YtjlogbpnehbbbaaDoor
open Go.ChangeShapes Go.WideShapes Go.ChangeAt Go.RowKit

theorem rright_any (n : Int) (w : World) : Calls Tryd.prog 12 #[.int .i64 n] w fun e w' => e = .returned (.bool (rightB n)) ∧ w' = w := by
  by_cases h1 : -4611686018427387904 ≤ n
  · by_cases h2 : n ≤ 4611686018427387903
    · have hr : Hid (rightB n = true) := right_yes ⟨h1, h2⟩
      go_enter Tryd.func12, Tryd.ntmps12
      go_wp2
      go_ret
      exact ⟨ret_bool hr.out.symm, rfl⟩
    · have hr : Hid (rightB n = false) := right_no (by omega)
      go_enter Tryd.func12, Tryd.ntmps12
      go_wp2
      go_ret
      exact ⟨ret_bool hr.out.symm, rfl⟩
  · have hr : Hid (rightB n = false) := right_no (by omega)
    go_enter Tryd.func12, Tryd.ntmps12
    go_wp2
    go_ret
    exact ⟨ret_bool hr.out.symm, rfl⟩

/-- A number's amount. -/
def amt (n : Int) : Int := if n < 0 then -n else n
theorem amt_neg {n : Int} (h : n < 0) : amt n = -n := by simp [amt, h]
theorem amt_pos {n : Int} (h : ¬ n < 0) : amt n = n := by simp [amt, h]
theorem amt_abs (n : Int) : amt n = n.natAbs := by unfold amt; split <;> omega

theorem amount_any (n : Int) (w : World) (hn : -4611686018427387904 ≤ n ∧ n ≤ 4611686018427387903) : Calls Tryd.prog 14 #[.int .i64 n] w fun e w' => e = .returned (.int .u64 (amt n)) ∧ w' = w := by
  by_cases h : n < 0
  · have HA := hide (amt_neg h)
    go_enter Tryd.func14, Tryd.ntmps14
    go_wp2
    go_ret
    exact ⟨ret_int HA.out.symm, rfl⟩
  · have HA := hide (amt_pos h)
    go_enter Tryd.func14, Tryd.ntmps14
    go_wp2
    go_ret
    exact ⟨ret_int HA.out.symm, rfl⟩

/-- An amount with its sign. -/
def sgn (m : Int) (below : Bool) : Int := if below then -m else m
theorem signed_any (m : Int) (below : Bool) (w : World) (hm : 0 ≤ m ∧ m ≤ 9223372036854775807) : Calls Tryd.prog 21 #[.int .u64 m, .bool below] w fun e w' => e = .returned (.tuple #[.int .i64 (ansV (sgn m below)), .int .i64 (ansE (sgn m below))]) ∧ w' = w := by
  cases below
  · have HS : Hid (sgn m false = m) := rfl
    by_cases h : m ≤ 4611686018427387903
    · have HR := hide (@right_yes m (by omega))
      go_enter Tryd.func21, Tryd.ntmps21
      go_wp2
      go_ret2
      exact ⟨ret_two (by rw [HS.out, ansV_yes HR.out]) (by rw [HS.out, ansE_yes HR.out]), rfl⟩
    · have HR := hide (@right_no m (by omega))
      go_enter Tryd.func21, Tryd.ntmps21
      go_wp2
      go_ret2
      exact ⟨ret_two (by rw [HS.out, ansV_no HR.out]) (by rw [HS.out, ansE_no HR.out]), rfl⟩
  · have HS : Hid (sgn m true = -m) := rfl
    by_cases h : m ≤ 4611686018427387904
    · have HR := hide (@right_yes (-m) (by omega))
      go_enter Tryd.func21, Tryd.ntmps21
      go_wp2
      go_ret2
      exact ⟨ret_two (by rw [HS.out, ansV_yes HR.out]) (by rw [HS.out, ansE_yes HR.out]), rfl⟩
    · have HR := hide (@right_no (-m) (by omega))
      go_enter Tryd.func21, Tryd.ntmps21
      go_wp2
      go_ret2
      exact ⟨ret_two (by rw [HS.out, ansV_no HR.out]) (by rw [HS.out, ansE_no HR.out]), rfl⟩

/-- The product's sign and amount. -/
theorem mul_amt (a b : Int) : sgn (amt a * amt b) (decide (a < 0) != decide (b < 0)) = a * b := by
  unfold sgn amt
  by_cases ha : a < 0 <;> by_cases hb : b < 0 <;> simp [ha, hb, Int.neg_mul, Int.mul_neg]

/-- The opposite, and the amount: what is told, and the error. -/
def negV (a : Int) : Int := if rightB a then ansV (-a) else 0
def negE (a : Int) : Int := if rightB a then ansE (-a) else 1
def absV (a : Int) : Int := if a < 0 then negV a else if rightB a then a else 0
def absE (a : Int) : Int := if a < 0 then negE a else if rightB a then 0 else 1
end Go.Proofs.YtjlogbpnehbbbaaDoor
