/- Sums: plain facts that tie the reference's exact sum to the model's. -/
import Derived.Test.YtiglacchpmooeaaGreatDoorAddX
import Derived.Test.YtiglacchpmooeaaGreatDoorRise
namespace Go.Proofs.YtiglacchpmooeaaGreatDoor
open Ieee

theorem sum_ties {u v A B κ : Nat} (ha : A * 2 ^ κ = amt (rung u)) (hb : B * 2 ^ κ = amt (rung v)) :
    sumM (sgnB u) (sgnB v) A B * 2 ^ κ = (sval u + sval v).natAbs ∧ (sval u + sval v ≠ 0 → sumS (sgnB u) (sgnB v) A B = decide (sval u + sval v < 0)) ∧ (sval u + sval v = 0 → (A ≠ 0 ∨ B ≠ 0) → sumS (sgnB u) (sgnB v) A B = (sgnB u && sgnB v)) := by
  have p := Nat.two_pow_pos κ
  unfold sval
  rw [← ha, ← hb]
  have hlt : A < B → A * 2 ^ κ < B * 2 ^ κ := fun h => Nat.mul_lt_mul_of_pos_right h p
  have hgt : B < A → B * 2 ^ κ < A * 2 ^ κ := fun h => Nat.mul_lt_mul_of_pos_right h p
  have hz : A ≠ 0 → 0 < A * 2 ^ κ := fun h => Nat.mul_pos (by omega) p
  have hz' : B ≠ 0 → 0 < B * 2 ^ κ := fun h => Nat.mul_pos (by omega) p
  have e1 : (A + B) * 2 ^ κ = A * 2 ^ κ + B * 2 ^ κ := Nat.add_mul _ _ _
  have e2 : (A - B) * 2 ^ κ = A * 2 ^ κ - B * 2 ^ κ := Nat.sub_mul _ _ _
  have e3 : (B - A) * 2 ^ κ = B * 2 ^ κ - A * 2 ^ κ := Nat.sub_mul _ _ _
  have e4 : A = B → A * 2 ^ κ = B * 2 ^ κ := fun h => by rw [h]
  unfold sumM sumS
  obtain ⟨a, ea⟩ : ∃ a, A * 2 ^ κ = a := ⟨_, rfl⟩
  obtain ⟨b, eb⟩ : ∃ b, B * 2 ^ κ = b := ⟨_, rfl⟩
  rw [ea] at hlt hgt hz e1 e2 e3 e4 ⊢
  rw [eb] at hlt hgt hz' e1 e2 e3 e4 ⊢
  clear ha hb p
  cases sgnB u <;> cases sgnB v
  · simp only [if_true, Bool.false_eq_true, if_false]
    rw [e1]
    refine ⟨by omega, fun h => ?_, fun h h2 => rfl⟩
    have : ¬ ((a : Int) + b < 0) := by omega
    rw [decide_eq_false this]
  · simp only [if_true, Bool.false_eq_true, if_false]
    rcases Nat.lt_trichotomy A B with h | h | h
    · have := hlt h
      rw [if_neg (by omega), if_neg (by omega), if_neg (by omega), e3]
      refine ⟨by omega, fun _ => ?_, fun h3 _ => by omega⟩
      rw [decide_eq_true (by omega : (a : Int) + -(b : Int) < 0)]
    · have := e4 h
      rw [if_pos (by omega), if_pos h, e2]
      exact ⟨by omega, fun h3 => by omega, fun _ _ => rfl⟩
    · have := hgt h
      rw [if_pos (by omega), if_neg (by omega), if_pos h, e2]
      refine ⟨by omega, fun _ => ?_, fun h3 _ => by omega⟩
      rw [decide_eq_false (by omega : ¬ (a : Int) + -(b : Int) < 0)]
  · simp only [if_true, Bool.true_eq_false, Bool.false_eq_true, if_false]
    rcases Nat.lt_trichotomy A B with h | h | h
    · have := hlt h
      rw [if_neg (by omega), if_neg (by omega), if_neg (by omega), e3]
      refine ⟨by omega, fun _ => ?_, fun h3 _ => by omega⟩
      rw [decide_eq_false (by omega : ¬ -(a : Int) + (b : Int) < 0)]
    · have := e4 h
      rw [if_pos (by omega), if_pos h, e2]
      exact ⟨by omega, fun h3 => by omega, fun _ _ => rfl⟩
    · have := hgt h
      rw [if_pos (by omega), if_neg (by omega), if_pos h, e2]
      refine ⟨by omega, fun _ => ?_, fun h3 _ => by omega⟩
      rw [decide_eq_true (by omega : -(a : Int) + (b : Int) < 0)]
  · simp only [if_true]
    rw [e1]
    refine ⟨by omega, fun h => ?_, fun _ _ => rfl⟩
    have : -(a : Int) + -(b : Int) < 0 := by omega
    rw [decide_eq_true this]

/-- The word of the exact sum, rounded, is the model's sum. -/
theorem sum_word {u v A B κ : Nat} (hu : rung u < 9218868437227405312) (hv : rung v < 9218868437227405312) (ha : A * 2 ^ κ = amt (rung u)) (hb : B * 2 ^ κ = amt (rung v)) (hn : A ≠ 0 ∨ B ≠ 0) :
    double.add u v = some (wordD (sumS (sgnB u) (sgnB v) A B) (nearR (sumM (sgnB u) (sgnB v) A B) ((κ : Nat) - 1074 : Int))) := by
  obtain ⟨e1, e2, e3⟩ := sum_ties ha hb
  obtain ⟨neg, h1, h2, h3⟩ := add_fin hu hv
  have hr := near_rungOf (mag := sumM (sgnB u) (sgnB v) A B) (k := κ) (D := 0)
  rw [show ((κ : Int) - 1074 - ((0 : Nat) : Int)) = (κ : Int) - 1074 by omega, e1] at hr
  rw [h1, hr]
  congr 2
  by_cases h0 : sval u + sval v = 0
  · rw [h3 h0, e3 h0 hn]
  · rw [h2 h0, e2 h0]

theorem read_flip (v : Nat) (hv : v < 18446744073709551616) (hn : nanB v = false) : double.read (flip v) = (double.read v).opposite := by
  rw [read_eq, read_eq, rung_flip v hv, sgn_flip v hv]
  have := nanB_not hn
  split
  · rfl
  · split
    · rfl
    · split
      · rfl
      · exfalso; omega

theorem sub_flip (u v : Nat) (hv : v < 18446744073709551616) (hn : nanB v = false) : double.sub u v = double.add u (flip v) := by
  unfold Format.sub Format.add
  rw [read_flip v hv hn]

theorem add_nan_l {u v : Nat} (h : nanB u = true) : double.add u v = none := by
  unfold Format.add
  rw [read_nan (by unfold nanB at h; simpa using h)]
  rfl
theorem add_nan_r {u v : Nat} (h : nanB v = true) : double.add u v = none := by rw [add_comm', add_nan_l h]
theorem sub_nan_r {u v : Nat} (h : nanB v = true) : double.sub u v = none := by
  unfold Format.sub
  rw [read_nan (u := v) (by unfold nanB at h; simpa using h)]
  cases double.read u <;> rfl
theorem add_infs {u v : Nat} (hu : rung u = 9218868437227405312) (hv : rung v = 9218868437227405312) : double.add u v = if sgnB u = sgnB v then some (wordD (sgnB u) 9218868437227405312) else none := by
  unfold Format.add
  rw [read_inf hu, read_inf hv]
  simp only [Datum.sum]
  by_cases h : sgnB u = sgnB v
  · rw [if_pos h, if_pos h]
    simp only [Option.map_some, write_infinity]
  · rw [if_neg h, if_neg h]
    rfl
theorem word_is {u : Nat} (hu : u < 18446744073709551616) {r : Nat} (h : rung u = r) : wordD (sgnB u) r = u := by
  rcases sgn_cases u hu with ⟨s, e, _⟩ | ⟨s, e, _⟩ <;> rw [s] <;> unfold wordD <;> simp <;> omega
theorem sum_zeros {u v : Nat} (hu : rung u = 0) (hv : rung v = 0) : double.add u v = some (wordD (sgnB u && sgnB v) 0) := by
  obtain ⟨neg, h1, _, h3⟩ := add_fin (x := u) (z := v) (by omega) (by omega)
  have e : sval u + sval v = 0 := by rw [(sval_sign (u := u)).2 hu, (sval_sign (u := v)).2 hv]; rfl
  rw [h1, h3 e, e, Int.natAbs_zero, rungOf_zero]
theorem and_zeros {u v : Nat} (hu : u < 18446744073709551616) (hv : v < 18446744073709551616) (zu : rung u = 0) (zv : rung v = 0) : u &&& v = wordD (sgnB u && sgnB v) 0 := by
  rcases sgn_cases u hu with ⟨s, e, _⟩ | ⟨s, e, _⟩ <;> rcases sgn_cases v hv with ⟨t, f, _⟩ | ⟨t, f, _⟩ <;> rw [s, t] <;> rw [zu] at e <;> rw [zv] at f <;> rw [e, f] <;> decide
theorem canon_word {s : Bool} {r : Nat} (h : r ≤ 9218868437227405312) : canon (wordD s r) = wordD s r := by
  unfold canon
  rw [nan_wordD h]
  rfl
end Go.Proofs.YtiglacchpmooeaaGreatDoor
