/- Where the four roundings lie: plain facts. -/
import Derived.Test.YtiglacchpmooeaaGreatDoorInts
namespace Go.Proofs.YtiglacchpmooeaaGreatDoor
open Ieee

theorem moreW_zero (way : Toward) (neg : Bool) (low : Nat) : moreW way neg low 0 EE = false := by
  cases way
  · have : ¬ EE < 2 * 0 := by omega
    have h3 : (EE == 2 * 0) = false := by have := EE_pos; simp; omega
    simp only [moreW, decide_eq_false this, h3, Bool.false_or, Bool.false_and]
  · simp [moreW]
  · simp [moreW]
  · rfl

/-- The four whole numbers by the whole part a and the rest p. -/
theorem v_parts (u : Nat) : (pU u = 0 ∧ ∀ way, vW way u = if sgnB u then -(aU u : Int) else aU u) ∨
    (pU u ≠ 0 ∧ vW .down u = (if sgnB u then -(aU u : Int) - 1 else aU u) ∧ vW .up u = (if sgnB u then -(aU u : Int) else aU u + 1) ∧ vW .zero u = (if sgnB u then -(aU u : Int) else aU u) ∧ (vW .even u = vW .down u ∨ vW .even u = vW .up u)) := by
  by_cases h : pU u = 0
  · left
    refine ⟨h, fun way => ?_⟩
    unfold vW nW
    rw [h, moreW_zero]
    simp
  · right
    have hb : (pU u != 0) = true := bne_iff_ne.2 h
    refine ⟨h, ?_, ?_, ?_, ?_⟩
    · unfold vW nW moreW
      rw [hb]
      cases sgnB u <;> simp; omega
    · unfold vW nW moreW
      rw [hb]
      cases sgnB u <;> simp
    · unfold vW nW moreW
      simp
    · have e : vW .even u = (if sgnB u then -(aU u : Int) else aU u) ∨ vW .even u = (if sgnB u then -(aU u : Int) - 1 else aU u + 1) := by
        unfold vW nW
        cases moreW .even (sgnB u) (aU u) (pU u) EE
        · left; simp
        · right; cases sgnB u <;> simp; omega
      have d : vW .down u = (if sgnB u then -(aU u : Int) - 1 else aU u) := by
        unfold vW nW moreW
        rw [hb]
        cases sgnB u <;> simp; omega
      have p : vW .up u = (if sgnB u then -(aU u : Int) else aU u + 1) := by
        unfold vW nW moreW
        rw [hb]
        cases sgnB u <;> simp
      rw [d, p]
      cases h2 : sgnB u
      · rw [h2] at e
        simpa using e
      · rw [h2] at e
        simp at e ⊢
        omega

theorem sval_parts (u : Nat) : sval u = if sgnB u then -((aU u : Int) * EE + pU u) else (aU u : Int) * EE + pU u := by
  unfold sval
  rw [amt_parts]
  simp

/-- The word of a whole number that came of a rounding. -/
theorem int_sval {way : Toward} {u : Nat} (h : rung u < 9218868437227405312) : sval (wordD (decide (vW way u < 0)) (nearR (vW way u).natAbs 0)) = vW way u * (EE : Int) ∧ nanB (wordD (decide (vW way u < 0)) (nearR (vW way u).natAbs 0)) = false := by
  obtain ⟨r, hr, ha⟩ := int_word (u := u) way h
  have hn : (vW way u).natAbs = nW way u := by unfold vW; split <;> omega
  rw [hn, near_whole hr ha]
  refine ⟨?_, nan_wordD (by omega)⟩
  rw [sval_wordD hr ha]
  congr 1
  unfold vW
  by_cases h0 : nW way u = 0
  · rw [h0]; cases sgnB u <;> simp
  · cases sgnB u
    · simp only [Bool.false_eq_true, if_false]
      rw [decide_eq_false (by omega : ¬ ((nW way u : Int) < 0)), if_neg (by simp)]
    · simp only [if_true]
      rw [decide_eq_true (by omega : (-(nW way u : Int) < 0)), if_pos rfl]

theorem cmp_of_sval {u v : Nat} (nu : nanB u = false) (nv : nanB v = false) : (sval u < sval v → cmpV u v = -1) ∧ (sval u = sval v → cmpV u v = 0) := by
  have h1 := @sval_lt u v
  have h2 := @sval_lt v u
  refine ⟨fun h => cmp_lt nu nv (h1.1 h), fun h => ?_⟩
  have : skey u = skey v := by omega
  unfold cmpV
  rw [nu, nv, this, if_neg (by simp), if_neg (by omega), if_pos rfl]

/-- All that is asked of the four whole numbers of a finite real. -/
theorem near_facts (u : Nat) :
    (vW .up u = vW .down u ∧ vW .zero u = vW .down u ∧ vW .even u = vW .down u ∧ sval u = vW .down u * (EE : Int)) ∨
    (vW .up u = vW .down u + 1 ∧ (vW .zero u = vW .down u ∨ vW .zero u = vW .up u) ∧ (vW .even u = vW .down u ∨ vW .even u = vW .up u) ∧ vW .down u * (EE : Int) < sval u ∧ sval u < vW .up u * (EE : Int)) := by
  have hp := pU_lt u
  have hs := sval_parts u
  have mulE : ∀ a : Int, (a + 1) * (EE : Int) = a * EE + EE := fun a => by rw [Int.add_mul, Int.one_mul]
  rcases v_parts u with ⟨h0, hv⟩ | ⟨h0, hd, hu, hz, he⟩
  · left
    rw [hv .up, hv .down, hv .zero, hv .even]
    refine ⟨rfl, rfl, rfl, ?_⟩
    rw [hs, h0]
    cases sgnB u <;> simp [Int.neg_mul]
  · right
    refine ⟨?_, ?_, he, ?_, ?_⟩
    · rw [hu, hd]; cases sgnB u <;> simp
    · rw [hz, hd, hu]; cases sgnB u <;> simp
    · rw [hd, hs]
      cases sgnB u
      · simp; omega
      · simp only [if_true]
        have := mulE (-(aU u : Int) - 1)
        rw [show -(aU u : Int) - 1 + 1 = -(aU u : Int) by omega, Int.neg_mul] at this
        omega
    · rw [hu, hs]
      cases sgnB u
      · simp only [Bool.false_eq_true, if_false]
        have := mulE (aU u : Int)
        omega
      · simp only [if_true, Int.neg_mul]
        omega
end Go.Proofs.YtiglacchpmooeaaGreatDoor
