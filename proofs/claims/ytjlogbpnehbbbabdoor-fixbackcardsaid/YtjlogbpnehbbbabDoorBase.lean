/- Plain facts on whole numbers of 63 bits: no Go in sight. -/
import Derived.WalkKit
import Derived.ProofKit
import Derived.OpenShut
namespace Go.Proofs.YtjlogbpnehbbbabDoor
open Go.ChangeShapes Go.WideShapes Go.ChangeAt Go.RowKit

theorem hide {p : Prop} (h : p) : Hid p := h

/-- Is n a number of the language? -/
def rightB (n : Int) : Bool := decide (-4611686018427387904 ≤ n ∧ n ≤ 4611686018427387903)

theorem right_yes {n : Int} (h : -4611686018427387904 ≤ n ∧ n ≤ 4611686018427387903) : rightB n = true := by simp [rightB, h]
theorem right_no {n : Int} (h : ¬ (-4611686018427387904 ≤ n ∧ n ≤ 4611686018427387903)) : rightB n = false := by simp only [rightB, decide_eq_false_iff_not]; exact h
theorem right_iff {n : Int} : rightB n = true ↔ -4611686018427387904 ≤ n ∧ n ≤ 4611686018427387903 := by simp [rightB]
theorem right_cases (n : Int) : (rightB n = true ∧ -4611686018427387904 ≤ n ∧ n ≤ 4611686018427387903) ∨ (rightB n = false ∧ ¬ (-4611686018427387904 ≤ n ∧ n ≤ 4611686018427387903)) := by
  by_cases h : -4611686018427387904 ≤ n ∧ n ≤ 4611686018427387903
  · exact Or.inl ⟨right_yes h, h⟩
  · exact Or.inr ⟨right_no h, h⟩

/-- What is told of a number that may be out of range: itself, or 0. -/
def ansV (n : Int) : Int := if rightB n then n else 0
/-- Its error: none, or ErrOverflow. -/
def ansE (n : Int) : Int := if rightB n then 0 else 10
theorem ansV_yes {n : Int} (h : rightB n = true) : ansV n = n := by simp [ansV, h]
theorem ansE_yes {n : Int} (h : rightB n = true) : ansE n = 0 := by simp [ansE, h]
theorem ansV_no {n : Int} (h : rightB n = false) : ansV n = 0 := by simp [ansV, h]
theorem ansE_no {n : Int} (h : rightB n = false) : ansE n = 10 := by simp [ansE, h]

/-- The error of dividing a by b, if any. -/
def divE (a b : Int) : Int := if rightB a && rightB b then (if b == 0 then 11 else 0) else 1

theorem divE_ok {a b : Int} (ha : rightB a = true) (hb : rightB b = true) (h0 : ¬ b = 0) : divE a b = 0 := by simp [divE, ha, hb, h0]
/-- Either all is well, or the error is 1 or 11. -/
theorem divE_cases (a b : Int) : (divE a b = 0 ∧ (-4611686018427387904 ≤ a ∧ a ≤ 4611686018427387903) ∧ (-4611686018427387904 ≤ b ∧ b ≤ 4611686018427387903) ∧ ¬ b = 0) ∨ (divE a b = 1 ∨ divE a b = 11) := by
  rcases right_cases a with ⟨ha, ha'⟩ | ⟨ha, _⟩
  · rcases right_cases b with ⟨hb, hb'⟩ | ⟨hb, _⟩
    · by_cases h0 : b = 0
      · exact Or.inr (Or.inr (by simp [divE, ha, h0, hb ▸ h0 ▸ hb]; subst h0; exact hb))
      · exact Or.inl ⟨divE_ok ha hb h0, ha', hb', h0⟩
    · exact Or.inr (Or.inl (by simp [divE, hb]))
  · exact Or.inr (Or.inl (by simp [divE, ha]))

/-- The quotient rounded down, out of the one that is cut. -/
def dq (a b : Int) : Int := if !(a.tmod b == 0) && (decide (a < 0) != decide (b < 0)) then a.tdiv b - 1 else a.tdiv b
/-- Its rest. -/
def md (a b : Int) : Int := if !(a.tmod b == 0) && (decide (a.tmod b < 0) != decide (b < 0)) then a.tmod b + b else a.tmod b
theorem dq_lo {a b : Int} (h : ¬ a.tmod b = 0) (g : a < 0 ∧ ¬ b < 0 ∨ ¬ a < 0 ∧ b < 0) : dq a b = a.tdiv b - 1 := by
  unfold dq; rcases g with ⟨x, y⟩ | ⟨x, y⟩ <;> simp [h, x, y]
theorem dq_hi {a b : Int} (g : a.tmod b = 0 ∨ a < 0 ∧ b < 0 ∨ ¬ a < 0 ∧ ¬ b < 0) : dq a b = a.tdiv b := by
  unfold dq; rcases g with h | ⟨x, y⟩ | ⟨x, y⟩
  · simp [h]
  · simp [x, y]
  · simp [x, y]
theorem md_lo {a b : Int} (h : ¬ a.tmod b = 0) (g : a.tmod b < 0 ∧ ¬ b < 0 ∨ ¬ a.tmod b < 0 ∧ b < 0) : md a b = a.tmod b + b := by
  unfold md; rcases g with ⟨x, y⟩ | ⟨x, y⟩ <;> simp [h, x, y]
theorem md_hi {a b : Int} (g : a.tmod b = 0 ∨ a.tmod b < 0 ∧ b < 0 ∨ ¬ a.tmod b < 0 ∧ ¬ b < 0) : md a b = a.tmod b := by
  unfold md; rcases g with h | ⟨x, y⟩ | ⟨x, y⟩
  · simp [h]
  · simp [x, y]
  · simp [x, y]
def quotV (a b : Int) : Int := if divE a b = 0 then ansV (a.tdiv b) else 0
def quotE (a b : Int) : Int := if divE a b = 0 then ansE (a.tdiv b) else divE a b
def divV (a b : Int) : Int := if divE a b = 0 then ansV (dq a b) else 0
def divF (a b : Int) : Int := if divE a b = 0 then ansE (dq a b) else divE a b
def remV (a b : Int) : Int := if divE a b = 0 then a.tmod b else 0
def modV (a b : Int) : Int := if divE a b = 0 then md a b else 0

theorem tdiv_bd (a b : Int) (ha : -4611686018427387904 ≤ a ∧ a ≤ 4611686018427387903) : -4611686018427387904 ≤ a.tdiv b ∧ a.tdiv b ≤ 4611686018427387904 := by
  have h : (a.tdiv b).natAbs ≤ a.natAbs := by rw [Int.natAbs_tdiv]; exact Nat.div_le_self _ _
  omega
theorem tmod_bd (a b : Int) (hb : -4611686018427387904 ≤ b ∧ b ≤ 4611686018427387903) (h0 : ¬ b = 0) : -4611686018427387904 ≤ a.tmod b ∧ a.tmod b ≤ 4611686018427387904 := by
  have h : (a.tmod b).natAbs < b.natAbs := by rw [Int.natAbs_tmod]; exact Nat.mod_lt _ (by omega)
  omega
theorem tdiv_wrap (a b : Int) (ha : -4611686018427387904 ≤ a ∧ a ≤ 4611686018427387903) : wrap64 (a.tdiv b) = a.tdiv b := by have := tdiv_bd a b ha; unfold wrap64; omega

/-- Dividing the product that may have wrapped shows whether it did. -/
theorem mul_test (a b : Int) (ha : -4611686018427387904 ≤ a ∧ a ≤ 4611686018427387903) (hb : -4611686018427387904 ≤ b ∧ b ≤ 4611686018427387903) (h0 : ¬ a = 0) :
    wrap64 ((wrap64 (a * b)).tdiv a) = b ↔ wrap64 (a * b) = a * b := by
  constructor
  · intro h
    have e := Int.tdiv_mul_add_tmod (wrap64 (a * b)) a
    have r : ((wrap64 (a * b)).tmod a).natAbs < a.natAbs := by rw [Int.natAbs_tmod]; exact Nat.mod_lt _ (by omega)
    have q : ((wrap64 (a * b)).tdiv a).natAbs ≤ (wrap64 (a * b)).natAbs := by rw [Int.natAbs_tdiv]; exact Nat.div_le_self _ _
    have pb : -9223372036854775808 ≤ wrap64 (a * b) ∧ wrap64 (a * b) ≤ 9223372036854775807 := by unfold wrap64; omega
    have t : (wrap64 (a * b)).tdiv a = b := by
      generalize (wrap64 (a * b)).tdiv a = x at h q
      generalize wrap64 (a * b) = y at q pb
      unfold wrap64 at h
      omega
    rw [t, Int.mul_comm b a] at e
    generalize (wrap64 (a * b)).tmod a = x at e r
    unfold wrap64 at e ⊢
    omega
  · intro h
    rw [h, Int.mul_tdiv_cancel_left b h0]
    unfold wrap64
    omega

theorem wrap_right (n : Int) (h : ¬ wrap64 n = n) : rightB n = false := right_no (by unfold wrap64 at h; omega)

def mulV (a b : Int) : Int := if rightB a && rightB b then ansV (a * b) else 0
def mulE (a b : Int) : Int := if rightB a && rightB b then ansE (a * b) else 1
def subV (a b : Int) : Int := if rightB a && rightB b then ansV (a - b) else 0
def subE (a b : Int) : Int := if rightB a && rightB b then ansE (a - b) else 1

/-- Sums from the left, each held against the range: what is told, and the error. -/
def addGo (s : Int) : List Int → Int × Int
  | [] => (s, 0)
  | z :: r => if rightB (s + z) then addGo (s + z) r else (0, 10)
def addR (zs : List Int) : Int × Int := if zs.all rightB then addGo 0 zs else (0, 1)
theorem addGo_drop (s : Int) (zs : List Int) (k : Nat) (h : k < zs.length) : addGo s (zs.drop k) = if rightB (s + zs.getD k 0) then addGo (s + zs.getD k 0) (zs.drop (k + 1)) else (0, 10) := by
  have e : zs.drop k = zs.getD k 0 :: zs.drop (k + 1) := by
    rw [List.drop_eq_getElem_cons h]; simp [List.getD_eq_getElem?_getD, h]
  rw [e, addGo]

theorem grown_trans {a b c : World} (h1 : Grown a b) (h2 : Grown b c) : Grown a c :=
  ⟨World.keptBut_trans h1.1 h2.1, fun x => (h2.2.1 x).trans (h1.2.1 x), Nat.le_trans h1.2.2 h2.2.2⟩

theorem ret_bool {a b : Bool} (h : a = b) : Ending.returned (.bool a) = .returned (.bool b) := by rw [h]
theorem ret_int {k : IntKind} {a b : Int} (h : a = b) : Ending.returned (.int k a) = .returned (.int k b) := by rw [h]
theorem ret_two {k j : IntKind} {a b c d : Int} (h : a = b) (g : c = d) : Ending.returned (.tuple #[.int k a, .int j c]) = .returned (.tuple #[.int k b, .int j d]) := by rw [h, g]

theorem all_snoc (zs : List Int) (k : Nat) (h : k < zs.length) : (zs.take (k + 1)).all rightB = ((zs.take k).all rightB && rightB (zs.getD k 0)) := by
  rw [List.take_succ_eq_append_getElem h, List.all_append]; simp [List.getD_eq_getElem?_getD, h]
theorem all_at (zs : List Int) (k : Nat) (h : k < zs.length) (g : zs.all rightB = true) : rightB (zs.getD k 0) = true := by
  rw [List.all_eq_true] at g
  have := g zs[k] (List.getElem_mem h)
  simpa [List.getD_eq_getElem?_getD, h] using this
theorem all_out (zs : List Int) (k : Nat) (h : k < zs.length) (g : rightB (zs.getD k 0) = false) : zs.all rightB = false := by
  rw [List.all_eq_false]; refine ⟨zs[k], List.getElem_mem h, ?_⟩
  simpa [List.getD_eq_getElem?_getD, h] using g
end Go.Proofs.YtjlogbpnehbbbabDoor
