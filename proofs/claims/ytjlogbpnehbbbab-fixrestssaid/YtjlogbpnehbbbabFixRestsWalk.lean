/- The walk of the law FixRests: it answers true for every two int64s. -/
import Derived.Test.YtjlogbpnehbbbabProg
import Derived.Test.YtjlogbpnehbbbabBase
import Derived.Test.YtjlogbpnehbbbabRight
import Derived.Test.YtjlogbpnehbbbabDiv
import Derived.Test.YtjlogbpnehbbbabAdd
import Derived.Test.YtjlogbpnehbbbabRests
import Derived.WalkKit
import Derived.ProofKit
import Derived.OpenShut
namespace Go.Proofs.Ytjlogbpnehbbbab.fixRests
open Go.ChangeShapes Go.WideShapes Go.ChangeAt Go.RowKit

theorem grown5 {a b c d e f : World} (h1 : Grown a b) (h2 : Grown b c) (h3 : Grown c d) (h4 : Grown d e) (h5 : Grown e f) : Grown a f :=
  grown_trans (grown_trans (grown_trans (grown_trans h1 h2) h3) h4) h5

/-- A division that is refused. -/
theorem refused (a b : Int) (w : World) (hd : divE a b = 1 ∨ divE a b = 11) :
    Calls Try.prog 3 #[.int .i64 a, .int .i64 b] w fun e w' => e = .returned (.bool true) ∧ Grown w w' := by
  rcases hd with hd | hd
  all_goals
    have e2 : divF a b = divE a b := by simp [divF, hd]
    have e6 : quotE a b = divE a b := by simp [quotE, hd]
    rw [hd] at e2 e6
    go_enter Try.func3, Try.ntmps3
    go_wp2_with (first | (go_at_call 5; refine (div_any _ _ _).mono ?_; rintro e w1 ⟨rfl, g1⟩) | (go_at_call 6; refine (mod_any _ _ _).mono ?_; rintro e w2 ⟨rfl, g2⟩) | (go_at_call 7; refine (quot_any _ _ _).mono ?_; rintro e w3 ⟨rfl, g3⟩) | (go_at_call 8; refine (rem_any _ _ _).mono ?_; rintro e w4 ⟨rfl, g4⟩) | (go_at_call 9; refine (alive_any _).mono ?_; rintro e w5 ⟨rfl, g5⟩))
    go_ret
    exact ⟨rfl, grown5 (by assumption) (by assumption) (by assumption) (by assumption) (by assumption)⟩

/-- A division whose quotient is no number. -/
theorem overflow (a b : Int) (w : World) (e0 : divE a b = 0) (e1 : divV a b = 0) (e2 : divF a b = 10) (e3 : modV a b = 0) (e5 : quotV a b = 0) (e6 : quotE a b = 10) (e7 : remV a b = 0) (hb : b = -1) :
    Calls Try.prog 3 #[.int .i64 a, .int .i64 b] w fun e w' => e = .returned (.bool true) ∧ Grown w w' := by
  subst hb
  go_enter Try.func3, Try.ntmps3
  go_wp2_with (first | (go_at_call 5; refine (div_any _ _ _).mono ?_; rintro e w1 ⟨rfl, g1⟩) | (go_at_call 6; refine (mod_any _ _ _).mono ?_; rintro e w2 ⟨rfl, g2⟩) | (go_at_call 7; refine (quot_any _ _ _).mono ?_; rintro e w3 ⟨rfl, g3⟩) | (go_at_call 8; refine (rem_any _ _ _).mono ?_; rintro e w4 ⟨rfl, g4⟩) | (go_at_call 9; refine (alive_any _).mono ?_; rintro e w5 ⟨rfl, g5⟩))
  go_ret
  exact ⟨rfl, grown5 (by assumption) (by assumption) (by assumption) (by assumption) (by assumption)⟩

theorem sign_neg {r : Int} (h : r ≤ 0) : decide (r < 0) = (r != 0) := by
  rw [Bool.eq_iff_iff]; simp; omega
theorem sign_of {a s : Int} (h : (a < 0 → s ≤ 0) ∧ (0 ≤ a → 0 ≤ s)) (z : (s != 0) = true) : decide (s < 0) = decide (a < 0) := by
  simp only [bne_iff_ne, ne_eq] at z
  rw [decide_eq_decide]
  omega

set_option maxHeartbeats 4000000 in
/-- A division that is well, by a divisor below 0. -/
theorem wellNeg (a b q r t s : Int) (w : World) (ha : -4611686018427387904 ≤ a ∧ a ≤ 4611686018427387903) (hb : -4611686018427387904 ≤ b ∧ b ≤ 4611686018427387903)
    (e0 : divE a b = 0) (e1 : divV a b = q) (e2 : divF a b = 0) (e3 : modV a b = r) (e5 : quotV a b = t) (e6 : quotE a b = 0) (e7 : remV a b = s)
    (hq : q * b = a - r) (ht : t * b = a - s) (hb0 : b < 0) (hr : r ≤ 0 ∧ b < r) (hs : s.natAbs < b.natAbs) (hsa : (a < 0 → s ≤ 0) ∧ (0 ≤ a → 0 ≤ s)) :
    Calls Try.prog 3 #[.int .i64 a, .int .i64 b] w fun e w' => e = .returned (.bool true) ∧ Grown w w' := by
  have hrb : -4611686018427387904 ≤ r ∧ r ≤ 4611686018427387903 := by omega
  have hsb : -4611686018427387904 ≤ s ∧ s ≤ 4611686018427387903 := by omega
  have HSA := hide hsa
  have hs1 : b < s := by omega
  have hs2 : s < -b := by omega
  have b1 : decide (b < 0) = true := by simpa using hb0
  have c1 := sign_neg hr.1
  clear hs hsa
  cases br : r != 0 <;> cases bs : s != 0 <;> cases ba : decide (a < 0)
  all_goals
      try rw [br] at c1
      try have c3 := (sign_of HSA.out bs).trans ba
      go_enter Try.func3, Try.ntmps3
      go_wp2_with (first | (go_at_call 5; refine (div_any _ _ _).mono ?_; rintro e w1 ⟨rfl, g1⟩) | (go_at_call 6; refine (mod_any _ _ _).mono ?_; rintro e w2 ⟨rfl, g2⟩) | (go_at_call 7; refine (quot_any _ _ _).mono ?_; rintro e w3 ⟨rfl, g3⟩) | (go_at_call 8; refine (rem_any _ _ _).mono ?_; rintro e w4 ⟨rfl, g4⟩) | (go_at_call 9; refine (alive_any _).mono ?_; rintro e w5 ⟨rfl, g5⟩))
      go_ret
      exact ⟨rfl, grown5 (by assumption) (by assumption) (by assumption) (by assumption) (by assumption)⟩

set_option maxHeartbeats 4000000 in
/-- A division that is well, by a divisor above 0. -/
theorem wellPos (a b q r t s : Int) (w : World) (ha : -4611686018427387904 ≤ a ∧ a ≤ 4611686018427387903) (hb : -4611686018427387904 ≤ b ∧ b ≤ 4611686018427387903)
    (e0 : divE a b = 0) (e1 : divV a b = q) (e2 : divF a b = 0) (e3 : modV a b = r) (e5 : quotV a b = t) (e6 : quotE a b = 0) (e7 : remV a b = s)
    (hq : q * b = a - r) (ht : t * b = a - s) (hb0 : 0 < b) (hr : 0 ≤ r ∧ r < b) (hs : s.natAbs < b.natAbs) (hsa : (a < 0 → s ≤ 0) ∧ (0 ≤ a → 0 ≤ s)) :
    Calls Try.prog 3 #[.int .i64 a, .int .i64 b] w fun e w' => e = .returned (.bool true) ∧ Grown w w' := by
  have hrb : -4611686018427387904 ≤ r ∧ r ≤ 4611686018427387903 := by omega
  have hsb : -4611686018427387904 ≤ s ∧ s ≤ 4611686018427387903 := by omega
  have HSA := hide hsa
  have hs1 : -b < s := by omega
  have hs2 : s < b := by omega
  have b1 : decide (b < 0) = false := by simp; omega
  have c1 : decide (r < 0) = false := by simp; omega
  clear hs hsa
  cases br : r != 0 <;> cases bs : s != 0 <;> cases ba : decide (a < 0)
  all_goals
      try rw [br] at c1
      try have c3 := (sign_of HSA.out bs).trans ba
      go_enter Try.func3, Try.ntmps3
      go_wp2_with (first | (go_at_call 5; refine (div_any _ _ _).mono ?_; rintro e w1 ⟨rfl, g1⟩) | (go_at_call 6; refine (mod_any _ _ _).mono ?_; rintro e w2 ⟨rfl, g2⟩) | (go_at_call 7; refine (quot_any _ _ _).mono ?_; rintro e w3 ⟨rfl, g3⟩) | (go_at_call 8; refine (rem_any _ _ _).mono ?_; rintro e w4 ⟨rfl, g4⟩) | (go_at_call 9; refine (alive_any _).mono ?_; rintro e w5 ⟨rfl, g5⟩))
      go_ret
      exact ⟨rfl, grown5 (by assumption) (by assumption) (by assumption) (by assumption) (by assumption)⟩

theorem walk (a0 : Int) (a1 : Int) (_w0 : (Lit.int .i64 a0).wf = true) (_w1 : (Lit.int .i64 a1).wf = true) (w : World) :
    Calls Try.prog 3 #[.int .i64 a0, .int .i64 a1] w fun e w' => e = .returned (.bool true) ∧ Grown w w' := by
  rcases divE_cases a0 a1 with ⟨hd, ha, hb, h0⟩ | hd
  · obtain ⟨m1, m2, m3⟩ := md_facts a0 a1 h0
    have e3 : modV a0 a1 = md a0 a1 := by simp [modV, hd]
    have e7 : remV a0 a1 = a0.tmod a1 := by simp [remV, hd]
    rcases quot_range a0 a1 ha h0 with ⟨r1, r2⟩ | ⟨r1, r2, hm, _, z1, z2, _⟩
    · have e1 : divV a0 a1 = dq a0 a1 := by simp [divV, hd, ansV_yes r2]
      have e2 : divF a0 a1 = 0 := by simp [divF, hd, ansE_yes r2]
      have e5 : quotV a0 a1 = a0.tdiv a1 := by simp [quotV, hd, ansV_yes r1]
      have e6 : quotE a0 a1 = 0 := by simp [quotE, hd, ansE_yes r1]
      by_cases hn : a1 < 0
      · exact wellNeg a0 a1 _ _ _ _ w ha hb hd e1 e2 e3 e5 e6 e7 m3 (tdiv_rest _ _) hn (m2 hn) (tmod_small _ _ h0) ⟨tmod_neg_le _, Int.tmod_nonneg _⟩
      · exact wellPos a0 a1 _ _ _ _ w ha hb hd e1 e2 e3 e5 e6 e7 m3 (tdiv_rest _ _) (by omega) (m1 (by omega)) (tmod_small _ _ h0) ⟨tmod_neg_le _, Int.tmod_nonneg _⟩
    · exact overflow a0 a1 w hd (by simp [divV, hd, ansV_no r2]) (by simp [divF, hd, ansE_no r2]) (by rw [e3, z2]) (by simp [quotV, hd, ansV_no r1]) (by simp [quotE, hd, ansE_no r1]) (by rw [e7, z1]) hm
  · exact refused a0 a1 w hd
end Go.Proofs.Ytjlogbpnehbbbab.fixRests
