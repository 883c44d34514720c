/- What the document's own functions on whole numbers answer: sums, differences, products, opposites, amounts. -/
import Derived.Test.YtjlogbpnehbbbabDoorProg
import Derived.Test.YtjlogbpnehbbbabDoorBase
import Derived.Test.YtjlogbpnehbbbabDoorRight
import Derived.Test.YtjlogbpnehbbbabDoorDiv
import Derived.Test.YtjlogbpnehbbbabDoorAdd
import Derived.Test.YtjlogbpnehbbbabDoorRests
import Derived.WalkKit
import Derived.ProofKit
import Derived.OpenShut
namespace Go.Proofs.YtjlogbpnehbbbabDoor
open Go.ChangeShapes Go.WideShapes Go.ChangeAt Go.RowKit

/-- A number's amount. -/
def amt (n : Int) : Int := if n < 0 then -n else n
theorem amt_neg {n : Int} (h : n < 0) : amt n = -n := by simp [amt, h]
theorem amt_pos {n : Int} (h : ¬ n < 0) : amt n = n := by simp [amt, h]
theorem amt_abs (n : Int) : amt n = n.natAbs := by unfold amt; split <;> omega

/-- An amount with its sign. -/
def sgn (m : Int) (below : Bool) : Int := if below then -m else m

/-- The product's sign and amount. -/
theorem mul_amt (a b : Int) : sgn (amt a * amt b) (decide (a < 0) != decide (b < 0)) = a * b := by
  unfold sgn amt
  by_cases ha : a < 0 <;> by_cases hb : b < 0 <;> simp [ha, hb, Int.neg_mul, Int.mul_neg]

/-- The opposite, and the amount: what is told, and the error. -/
def negV (a : Int) : Int := if rightB a then ansV (-a) else 0
def negE (a : Int) : Int := if rightB a then ansE (-a) else 1
def absV (a : Int) : Int := if a < 0 then negV a else if rightB a then a else 0
def absE (a : Int) : Int := if a < 0 then negE a else if rightB a then 0 else 1
end Go.Proofs.YtjlogbpnehbbbabDoor
