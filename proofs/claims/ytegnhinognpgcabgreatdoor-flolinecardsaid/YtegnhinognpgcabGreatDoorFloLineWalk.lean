/- The walk of the law FloLine: it answers true for every three words. -/
import Derived.Test.YtegnhinognpgcabGreatDoorAw4
namespace Go.Proofs.YtegnhinognpgcabGreatDoor.floLine
open Go.ChangeShapes Go.WideShapes Go.ChangeAt Go.RowKit

theorem three {u v : Nat} (nu : nanB u = false) (nv : nanB v = false) : cmpV u v = -1 ∨ cmpV u v = 0 ∨ cmpV u v = 1 := by
  unfold cmpV
  rw [nu, nv]
  simp only [Bool.or_false, Bool.false_eq_true, if_false]
  repeat' split
  all_goals omega

theorem two {u v : Nat} (h : cmpV u v = 2) : nanB u = true ∨ nanB v = true := by
  cases nu : nanB u
  · cases nv : nanB v
    · have := three nu nv
      omega
    · exact Or.inr rfl
  · exact Or.inl rfl

theorem nan_or {u v x : Nat} (h : cmpV u v = 2 ∨ cmpV v x = 2 ∨ cmpV u x = 2) : nanB u = true ∨ nanB v = true ∨ nanB x = true := by
  rcases h with h | h | h
  · rcases two h with h | h
    · exact Or.inl h
    · exact Or.inr (Or.inl h)
  · rcases two h with h | h
    · exact Or.inr (Or.inl h)
    · exact Or.inr (Or.inr h)
  · rcases two h with h | h
    · exact Or.inl h
    · exact Or.inr (Or.inr h)

theorem all_real {u v x : Nat} (h : ¬ (cmpV u v = 2 ∨ cmpV v x = 2 ∨ cmpV u x = 2)) : nanB u = false ∧ nanB v = false ∧ nanB x = false := by
  refine ⟨?_, ?_, ?_⟩
  · cases e : nanB u
    · rfl
    · exact absurd (Or.inl (cmp_nan (Or.inl e))) h
  · cases e : nanB v
    · rfl
    · exact absurd (Or.inl (cmp_nan (Or.inr e))) h
  · cases e : nanB x
    · rfl
    · exact absurd (Or.inr (Or.inl (cmp_nan (Or.inr e)))) h

theorem line {u v x : Nat} (nu : nanB u = false) (nv : nanB v = false) (nx : nanB x = false) :
    cmpV v u = -cmpV u v ∧ ¬ (cmpV u v ≤ 0 ∧ cmpV v x ≤ 0 ∧ 0 < cmpV u x) ∧ ¬ (0 ≤ cmpV u v ∧ 0 ≤ cmpV v x ∧ cmpV u x < 0) ∧ ¬ (cmpV u v < 0 ∧ cmpV v x ≤ 0 ∧ 0 ≤ cmpV u x) := by
  unfold cmpV
  rw [nu, nv, nx]
  simp only [Bool.or_false, Bool.false_eq_true, if_false]
  repeat' split
  all_goals omega

set_option maxHeartbeats 4000000 in
theorem walk (u v x : Nat) (hu : u < 18446744073709551616) (hv : v < 18446744073709551616) (hx : x < 18446744073709551616) (w : World) (R : Rdy w) :
    Calls Tryz.prog 8 #[.int .u64 (u : Int), .int .u64 (v : Int), .int .u64 (x : Int)] w fun e w' => e = .returned (.bool true) ∧ Below w.heap.size w w' := by
  by_cases h : cmpV u v = 2 ∨ cmpV v x = 2 ∨ cmpV u x = 2
  · have hn := nan_or h
    obtain ⟨a, ea⟩ : ∃ y, cmpV u v = y := ⟨_, rfl⟩
    obtain ⟨b, eb⟩ : ∃ y, cmpV v x = y := ⟨_, rfl⟩
    obtain ⟨c, ec⟩ : ∃ y, cmpV u x = y := ⟨_, rfl⟩
    rw [ea, eb, ec] at h
    obtain ⟨p, ep⟩ : ∃ y, nanB u = y := ⟨_, rfl⟩
    obtain ⟨q, eq⟩ : ∃ y, nanB v = y := ⟨_, rfl⟩
    obtain ⟨r, er⟩ : ∃ y, nanB x = y := ⟨_, rfl⟩
    rw [ep, eq, er] at hn
    have two : ((a == 2) = true) ∨ ((a == 2) = false ∧ (b == 2) = true) ∨ ((a == 2) = false ∧ (b == 2) = false ∧ (c == 2) = true) := by
      by_cases h1 : a = 2
      · exact Or.inl (by simp [h1])
      · by_cases h2 : b = 2
        · exact Or.inr (Or.inl ⟨by simp [h1], by simp [h2]⟩)
        · have h3 : c = 2 := by omega
          exact Or.inr (Or.inr ⟨by simp [h1], by simp [h2], by simp [h3]⟩)
    have pqr : p = true ∨ (p = false ∧ q = true) ∨ (p = false ∧ q = false ∧ r = true) := by
      cases p <;> cases q <;> cases r <;> simp at hn ⊢
    clear h hn
    rcases two with t1 | ⟨t1, t2⟩ | ⟨t1, t2, t3⟩ <;> rcases pqr with rfl | ⟨rfl, rfl⟩ | ⟨rfl, rfl, rfl⟩
    all_goals
      go_enter Tryz.func8, Tryz.ntmps8
      go_wp2_with (first
        | (go_at_call 14; refine (of_any _ _).mono ?_; rintro e w' ⟨rfl, rfl⟩)
        | (go_at_call 20; refine (compare_any _ _ _).mono ?_; rintro e w' ⟨rfl, rfl⟩)
        | (go_at_call 18; refine (rIsNaN_any _ (by first | exact hu | exact hv | exact hx) _).mono ?_; rintro e w' ⟨rfl, rfl⟩)
        | (go_at_call 12; refine (awake_any _ R).mono ?_; rintro e w1 ⟨rfl, b1⟩))
      go_ret
      exact ⟨rfl, b1⟩
  · obtain ⟨nu, nv, nx⟩ := all_real h
    have hl := line nu nv nx
    have A1 := three nu nv
    have A2 := three nv nx
    have A3 := three nu nx
    clear h
    rcases A1 with e1 | e1 | e1 <;> rcases A2 with e2 | e2 | e2 <;> rcases A3 with e3 | e3 | e3
    all_goals
      have e4 := hl.1
      rw [e1] at e4
      have hl' := hl.2
      rw [e1, e2, e3] at hl'
      first
      | (exfalso; revert hl'; decide)
      | (clear hl hl' nu nv nx
         go_enter Tryz.func8, Tryz.ntmps8
         go_wp2_with (first
          | (go_at_call 14; refine (of_any _ _).mono ?_; rintro e w' ⟨rfl, rfl⟩)
          | (go_at_call 20; refine (compare_any _ _ _).mono ?_; rintro e w' ⟨rfl, rfl⟩)
          | (go_at_call 12; refine (awake_any _ R).mono ?_; rintro e w1 ⟨rfl, b1⟩))
         go_ret
         exact ⟨rfl, b1⟩)
end Go.Proofs.YtegnhinognpgcabGreatDoor.floLine
