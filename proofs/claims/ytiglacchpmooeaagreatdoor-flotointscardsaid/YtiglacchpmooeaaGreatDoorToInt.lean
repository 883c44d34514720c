/- The reference's ToInt. -/
import Derived.Test.YtiglacchpmooeaaGreatDoorWhl0
import Derived.Test.YtiglacchpmooeaaGreatDoorWhl1
namespace Go.Proofs.YtiglacchpmooeaaGreatDoor
open Go.ChangeShapes Go.WideShapes Go.ChangeAt Go.RowKit
open Ieee

theorem whole_down (b : Bool) (v : Value) (m d : Nat) (w : World) (ha : IsAmt w v m) (hm : m < 9007199254740992) (hd0 : 1 ≤ d) (hd1 : d ≤ 1074) :
    Calls Tryz.prog 42 #[.agg #[.bool b, v, .int .i64 (-(d : Int))]] w fun e w' => e = .returned (.tuple #[.int .u64 ((m / 2 ^ d : Nat) : Int), .int .i64 (hlf (m % 2 ^ d) (2 ^ d)), .bool true]) ∧ Below w.heap.size w w' := by
  by_cases h : m % 2 ^ d = 0
  · exact whole_down0 b v m d w ha hm hd0 hd1 h
  · exact whole_down1 b v m d w ha hm hd0 hd1 h

theorem whole_any (b : Bool) (v : Value) (m k A : Nat) (w : World) (ha : IsAmt w v m) (hm : m < 9007199254740992) (hk : k ≤ 2045) (h0 : k = 0 ∨ 0 < m) (hA : m * 2 ^ k = A) :
    Calls Tryz.prog 42 #[.agg #[.bool b, v, .int .i64 ((k : Nat) - 1074 : Int)]] w fun e w' => e = .returned (.tuple #[.int .u64 ((if A / EE < 9223372036854775808 then A / EE else 0 : Nat) : Int), .int .i64 (if A / EE < 9223372036854775808 then hlf (A % EE) EE else 0), .bool (decide (A / EE < 9223372036854775808))]) ∧ Below w.heap.size w w' := by
  have hb := blen_53 hm
  have hE := E0_eq
  by_cases hg : 63 + E0 < blen m + k
  · have h1 : 0 < m := by omega
    have h2 := wh_over h1 hg
    rw [hA] at h2
    have h3 : ¬ A / EE < 9223372036854775808 := by omega
    rw [if_neg h3, if_neg h3, decide_eq_false h3]
    exact whole_over b v m k w ha hm hk hg
  · have h2 := wh_under (m := m) (k := k) (by omega)
    rw [hA] at h2
    rw [if_pos h2, if_pos h2, decide_eq_true h2]
    by_cases hkE : E0 ≤ k
    · obtain ⟨s, hs⟩ : ∃ s, k = s + E0 := ⟨k - E0, by omega⟩
      obtain ⟨e1, e2⟩ := wh_up (m := m) hs
      rw [hA] at e1 e2
      rw [e1, e2, show ((k : Int) - 1074) = (s : Int) by omega, show hlf 0 EE = -1 from if_pos rfl]
      exact whole_up b v m s w ha hm (by omega) (by omega)
    · obtain ⟨d, hd⟩ : ∃ d, d + k = E0 := ⟨E0 - k, by omega⟩
      obtain ⟨e1, e2⟩ := wh_down (m := m) hd
      rw [hA] at e1 e2
      rw [e1, e2, show ((k : Int) - 1074) = -(d : Int) by omega]
      exact whole_down b v m d w ha hm (by omega) (by omega)

/-- Of and whole, one behind the other. -/
theorem of_whole (u : Nat) (hu : u < 18446744073709551616) (hf : rung u < 9218868437227405312) (w : World) : Calls Tryz.prog 30 #[.int .u64 (u : Int)] w fun e w' => ∃ ao l c P, e = .returned (.agg #[.bool (sgnB u), .slice ao l c, .int .i64 P]) ∧ Below w.heap.size w w' ∧
    ∀ wt, Below w'.heap.size w' wt → Calls Tryz.prog 42 #[.agg #[.bool (sgnB u), .slice ao l c, .int .i64 P]] wt fun e w'' => e = .returned (.tuple #[.int .u64 ((if aU u < 9223372036854775808 then aU u else 0 : Nat) : Int), .int .i64 (if aU u < 9223372036854775808 then hlf (pU u) EE else 0), .bool (decide (aU u < 9223372036854775808))]) ∧ Below wt.heap.size wt w'' := by
  refine (of_read u hu hf w).mono ?_
  rintro e w' ⟨ao, l, c, m, k, rfl, h1, h2, h3, h4, h5, h6⟩
  exact ⟨ao, l, c, _, rfl, h6, fun wt hb => whole_any _ _ m k _ wt (h1.below hb) h3 h4 (by omega) h2⟩

theorem half_cases (p : Nat) : (hlf p EE = -1 ∧ p = 0) ∨ (hlf p EE = 0 ∧ p ≠ 0 ∧ 2 * p < EE) ∨ (hlf p EE = 1 ∧ p ≠ 0 ∧ EE = 2 * p) ∨ (hlf p EE = 2 ∧ p ≠ 0 ∧ EE < 2 * p) := by
  have hp := EE_pos
  unfold hlf cmpN
  generalize EE = G at hp
  by_cases h0 : p = 0
  · left; simp [h0]
  · rw [if_neg h0]
    by_cases h1 : p * 2 ^ 1 < G
    · rw [if_pos h1]; omega
    · rw [if_neg h1]
      by_cases h2 : p * 2 ^ 1 = G
      · rw [if_pos h2]; omega
      · rw [if_neg h2]; omega
end Go.Proofs.YtiglacchpmooeaaGreatDoor
