/- The walk of the law FixLaws: it answers true for every three int64s. -/
import Derived.Test.YtjlogbpnehbbbabProg
import Derived.Test.YtjlogbpnehbbbabBase
import Derived.Test.YtjlogbpnehbbbabRight
import Derived.Test.YtjlogbpnehbbbabDiv
import Derived.Test.YtjlogbpnehbbbabAdd
import Derived.WalkKit
import Derived.ProofKit
import Derived.OpenShut
namespace Go.Proofs.Ytjlogbpnehbbbab.fixLaws
open Go.ChangeShapes Go.WideShapes Go.ChangeAt Go.RowKit

theorem add2 (a b : Int) : addR [a, b] = if rightB a && rightB b then (ansV (a + b), ansE (a + b)) else (0, 1) := by
  unfold addR
  cases ha : rightB a <;> cases hb : rightB b <;> simp [addGo, ha, hb]
  cases hs : rightB (a + b) <;> simp [ansV, ansE, hs]

set_option maxHeartbeats 1000000 in
/-- The sum is no number. -/
theorem noSum (a b c p q : Int) (w : World) (h1 : (addR [a, b]).1 = 0) (h2 : (addR [a, b]).2 = 1 ∨ (addR [a, b]).2 = 10) (h3 : addR [b, a] = addR [a, b]) (m1 : mulV a b = p) (m2 : mulE a b = q) (m3 : mulV b a = p) (m4 : mulE b a = q) :
    Calls Try.prog 4 #[.int .i64 a, .int .i64 b, .int .i64 c] w fun e w' => e = .returned (.bool true) ∧ Grown w w' := by
  have h4 : (addR [b, a]).1 = 0 := by rw [h3, h1]
  rcases h2 with h2 | h2
  all_goals
    have h5 := h2
    rw [← h3] at h5
    clear h3
    go_enter Try.func4, Try.ntmps4
    go_wp2_with (first | (go_at_call 10; refine (add_new2 _ _ _).mono ?_; rintro e w1 ⟨rfl, g1⟩) | (go_at_call 11; refine (mul_any _ _ _).mono ?_; rintro e w2 ⟨rfl, g2⟩) | (go_at_call 12; refine (sub_any _ _ _).mono ?_; rintro e w3 ⟨rfl, g3⟩) | (go_at_call 9; refine (alive_any _).mono ?_; rintro e w5 ⟨rfl, g5⟩))
    go_ret
    refine ⟨rfl, ?_⟩
    repeat (first | assumption | refine grown_trans ?_ (by assumption))

set_option maxHeartbeats 2000000 in
/-- The sum is a number, but one of the three products is none. -/
theorem noProduct (a b c s p q j k l : Int) (w : World) (h1 : (addR [a, b]).1 = s) (h2 : (addR [a, b]).2 = 0) (h4 : (addR [b, a]).1 = s) (h5 : (addR [b, a]).2 = 0) (m1 : mulV a b = p) (m2 : mulE a b = q) (m3 : mulV b a = p) (m4 : mulE b a = q)
    (s1 : subV s b = a) (s2 : subE s b = 0) (m5 : mulE a c = j) (m6 : mulE b c = k) (m7 : mulE s c = l) (hx : (j != 0) = true ∨ (j != 0) = false ∧ (k != 0) = true ∨ (j != 0) = false ∧ (k != 0) = false ∧ (l != 0) = true) :
    Calls Try.prog 4 #[.int .i64 a, .int .i64 b, .int .i64 c] w fun e w' => e = .returned (.bool true) ∧ Grown w w' := by
  rcases hx with hj | ⟨hj, hk⟩ | ⟨hj, hk, hl⟩
  all_goals
    go_enter Try.func4, Try.ntmps4
    go_wp2_with (first | (go_at_call 10; refine (add_new2 _ _ _).mono ?_; rintro e w1 ⟨rfl, g1⟩) | (go_at_call 11; refine (mul_any _ _ _).mono ?_; rintro e w2 ⟨rfl, g2⟩) | (go_at_call 12; refine (sub_any _ _ _).mono ?_; rintro e w3 ⟨rfl, g3⟩) | (go_at_call 9; refine (alive_any _).mono ?_; rintro e w5 ⟨rfl, g5⟩))
    go_ret
    refine ⟨rfl, ?_⟩
    repeat (first | assumption | refine grown_trans ?_ (by assumption))

set_option maxHeartbeats 1000000 in
/-- All are numbers. -/
theorem well (a b c s p q x y z : Int) (w : World) (h1 : (addR [a, b]).1 = s) (h2 : (addR [a, b]).2 = 0) (h4 : (addR [b, a]).1 = s) (h5 : (addR [b, a]).2 = 0) (m1 : mulV a b = p) (m2 : mulE a b = q) (m3 : mulV b a = p) (m4 : mulE b a = q)
    (s1 : subV s b = a) (s2 : subE s b = 0) (m5 : mulE a c = 0) (m6 : mulE b c = 0) (m7 : mulE s c = 0) (n5 : mulV a c = x) (n6 : mulV b c = y) (n7 : mulV s c = z) (h6 : (addR [x, y]).1 = z) (h7 : (addR [x, y]).2 = 0) :
    Calls Try.prog 4 #[.int .i64 a, .int .i64 b, .int .i64 c] w fun e w' => e = .returned (.bool true) ∧ Grown w w' := by
  go_enter Try.func4, Try.ntmps4
  go_wp2_with (first | (go_at_call 10; refine (add_new2 _ _ _).mono ?_; rintro e w1 ⟨rfl, g1⟩) | (go_at_call 11; refine (mul_any _ _ _).mono ?_; rintro e w2 ⟨rfl, g2⟩) | (go_at_call 12; refine (sub_any _ _ _).mono ?_; rintro e w3 ⟨rfl, g3⟩) | (go_at_call 9; refine (alive_any _).mono ?_; rintro e w5 ⟨rfl, g5⟩))
  go_ret
  refine ⟨rfl, ?_⟩
  repeat (first | assumption | refine grown_trans ?_ (by assumption))

theorem mulV_comm (a b : Int) : mulV b a = mulV a b := by unfold mulV; rw [Int.mul_comm, Bool.and_comm]
theorem mulE_comm (a b : Int) : mulE b a = mulE a b := by unfold mulE; rw [Int.mul_comm, Bool.and_comm]
theorem add2_comm (a b : Int) : addR [b, a] = addR [a, b] := by rw [add2, add2, Int.add_comm, Bool.and_comm]
/-- A product without an error: both are numbers, and so is the product. -/
theorem mul_ok {a b : Int} (h : mulE a b = 0) : rightB a = true ∧ rightB b = true ∧ rightB (a * b) = true ∧ mulV a b = a * b := by
  unfold mulE at h
  cases ha : rightB a <;> cases hb : rightB b <;> simp [ha, hb] at h
  cases hs : rightB (a * b) <;> simp [ansE, hs] at h
  simp [mulV, ha, hb, ansV, hs]

theorem walk (a0 : Int) (a1 : Int) (a2 : Int) (_w0 : (Lit.int .i64 a0).wf = true) (_w1 : (Lit.int .i64 a1).wf = true) (_w2 : (Lit.int .i64 a2).wf = true) (w : World) :
    Calls Try.prog 4 #[.int .i64 a0, .int .i64 a1, .int .i64 a2] w fun e w' => e = .returned (.bool true) ∧ Grown w w' := by
  have e := add2 a0 a1
  cases ha : rightB a0
  · rw [ha] at e
    exact noSum a0 a1 a2 _ _ w (by rw [e]; rfl) (Or.inl (by rw [e]; rfl)) (add2_comm _ _) rfl rfl (mulV_comm _ _) (mulE_comm _ _)
  cases hb : rightB a1
  · rw [ha, hb] at e
    exact noSum a0 a1 a2 _ _ w (by rw [e]; rfl) (Or.inl (by rw [e]; rfl)) (add2_comm _ _) rfl rfl (mulV_comm _ _) (mulE_comm _ _)
  rw [ha, hb] at e
  cases hs : rightB (a0 + a1)
  · rw [ansV_no hs, ansE_no hs] at e
    exact noSum a0 a1 a2 _ _ w (by rw [e]; rfl) (Or.inr (by rw [e]; rfl)) (add2_comm _ _) rfl rfl (mulV_comm _ _) (mulE_comm _ _)
  rw [ansV_yes hs, ansE_yes hs] at e
  have e1 : (addR [a0, a1]).1 = a0 + a1 := by rw [e]; rfl
  have e2 : (addR [a0, a1]).2 = 0 := by rw [e]; rfl
  have e3 : (addR [a1, a0]).1 = a0 + a1 := by rw [add2_comm, e1]
  have e4 : (addR [a1, a0]).2 = 0 := by rw [add2_comm, e2]
  have d : a0 + a1 - a1 = a0 := by omega
  have s1 : subV (a0 + a1) a1 = a0 := by simp [subV, hs, hb, d, ansV, ha]
  have s2 : subE (a0 + a1) a1 = 0 := by simp [subE, hs, hb, d, ansE, ha]
  by_cases hj : mulE a0 a2 = 0
  · by_cases hk : mulE a1 a2 = 0
    · by_cases hl : mulE (a0 + a1) a2 = 0
      · obtain ⟨_, _, r1, v1⟩ := mul_ok hj
        obtain ⟨_, _, r2, v2⟩ := mul_ok hk
        obtain ⟨_, _, r3, v3⟩ := mul_ok hl
        have f := add2 (a0 * a2) (a1 * a2)
        rw [r1, r2, ← Int.add_mul, ansV_yes r3, ansE_yes r3] at f
        exact well a0 a1 a2 _ _ _ _ _ _ w e1 e2 e3 e4 rfl rfl (mulV_comm _ _) (mulE_comm _ _) s1 s2 hj hk hl v1 v2 v3 (by rw [f]; rfl) (by rw [f]; rfl)
      · exact noProduct a0 a1 a2 _ _ _ _ _ _ w e1 e2 e3 e4 rfl rfl (mulV_comm _ _) (mulE_comm _ _) s1 s2 rfl rfl rfl (Or.inr (Or.inr (by simp [hj, hk, hl])))
    · exact noProduct a0 a1 a2 _ _ _ _ _ _ w e1 e2 e3 e4 rfl rfl (mulV_comm _ _) (mulE_comm _ _) s1 s2 rfl rfl rfl (Or.inr (Or.inl (by simp [hj, hk])))
  · exact noProduct a0 a1 a2 _ _ _ _ _ _ w e1 e2 e3 e4 rfl rfl (mulV_comm _ _) (mulE_comm _ _) s1 s2 rfl rfl rfl (Or.inl (by simp [hj]))
end Go.Proofs.Ytjlogbpnehbbbab.fixLaws
