/- Plain facts on both divisions: no Go in sight. -/
import Derived.Test.YtjlogbpnehbbbabDoorBase
namespace Go.Proofs.YtjlogbpnehbbbabDoor
open Go.ChangeShapes Go.WideShapes Go.ChangeAt Go.RowKit

theorem tmod_neg_le {a : Int} (b : Int) (h : a < 0) : a.tmod b ≤ 0 := by
  have h1 : 0 ≤ (-a).tmod b := Int.tmod_nonneg b (by omega)
  rw [Int.neg_tmod] at h1
  omega
theorem tmod_small (a b : Int) (h0 : ¬ b = 0) : (a.tmod b).natAbs < b.natAbs := by rw [Int.natAbs_tmod]; exact Nat.mod_lt _ (by omega)
theorem tdiv_rest (a b : Int) : a.tdiv b * b = a - a.tmod b := by have := Int.tdiv_mul_add_tmod a b; omega

/-- The rest that is rounded down with: its sign is the divisor's, and it is smaller. -/
theorem md_facts (a b : Int) (h0 : ¬ b = 0) : (0 < b → 0 ≤ md a b ∧ md a b < b) ∧ (b < 0 → md a b ≤ 0 ∧ b < md a b) ∧ dq a b * b = a - md a b := by
  have e := tdiv_rest a b
  have s := tmod_small a b h0
  have n := @tmod_neg_le a b
  have p := fun h => @Int.tmod_nonneg a b h
  by_cases hz : a.tmod b = 0
  · rw [md_hi (Or.inl hz), dq_hi (Or.inl hz)]
    refine ⟨fun _ => ?_, fun _ => ?_, e⟩ <;> omega
  · by_cases ha : a < 0
    · have := n ha
      by_cases hb : b < 0
      · rw [md_hi (by omega), dq_hi (by omega)]
        refine ⟨fun _ => ?_, fun _ => ?_, e⟩ <;> omega
      · rw [md_lo hz (by omega), dq_lo hz (by omega), Int.sub_mul, e]
        refine ⟨fun _ => ?_, fun _ => ?_, ?_⟩ <;> omega
    · have := p (by omega)
      by_cases hb : b < 0
      · rw [md_lo hz (by omega), dq_lo hz (by omega), Int.sub_mul, e]
        refine ⟨fun _ => ?_, fun _ => ?_, ?_⟩ <;> omega
      · rw [md_hi (by omega), dq_hi (by omega)]
        refine ⟨fun _ => ?_, fun _ => ?_, e⟩ <;> omega

/-- Which quotients are no numbers: MinFix by -1 alone. -/
theorem quot_range (a b : Int) (ha : -4611686018427387904 ≤ a ∧ a ≤ 4611686018427387903) (h0 : ¬ b = 0) :
    (rightB (a.tdiv b) = true ∧ rightB (dq a b) = true) ∨ (rightB (a.tdiv b) = false ∧ rightB (dq a b) = false ∧ b = -1 ∧ a = -4611686018427387904 ∧ a.tmod b = 0 ∧ md a b = 0 ∧ dq a b = a.tdiv b) := by
  by_cases h1 : b = -1
  · subst h1
    have z : a.tmod (-1) = 0 := by rw [Int.tmod_neg, Int.tmod_one]
    have d : a.tdiv (-1) = -a := by rw [Int.tdiv_neg, Int.tdiv_one]
    rw [dq_hi (Or.inl z), md_hi (Or.inl z), d, z]
    by_cases hm : a = -4611686018427387904
    · exact Or.inr ⟨right_no (by omega), right_no (by omega), rfl, hm, rfl, rfl, rfl⟩
    · exact Or.inl ⟨right_yes (by omega), right_yes (by omega)⟩
  · left
    by_cases h2 : b = 1
    · subst h2
      have z : a.tmod 1 = 0 := Int.tmod_one a
      rw [dq_hi (Or.inl z), Int.tdiv_one]
      exact ⟨right_yes ha, right_yes ha⟩
    · have h3 : (a.tdiv b).natAbs ≤ a.natAbs / 2 := by
        rw [Int.natAbs_tdiv]; exact Nat.div_le_div_left (by omega) (by omega)
      refine ⟨right_yes (by omega), ?_⟩
      have : dq a b = a.tdiv b ∨ dq a b = a.tdiv b - 1 := by unfold dq; split <;> omega
      exact right_yes (by omega)
end Go.Proofs.YtjlogbpnehbbbabDoor
