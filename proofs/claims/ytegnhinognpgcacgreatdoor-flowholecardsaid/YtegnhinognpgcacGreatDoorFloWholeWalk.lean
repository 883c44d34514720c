/- The walk of the law FloWhole: it answers true for every word. -/
import Derived.Test.YtegnhinognpgcacGreatDoorNear
namespace Go.Proofs.YtegnhinognpgcacGreatDoor.floWhole
open Go.ChangeShapes Go.WideShapes Go.ChangeAt Go.RowKit
open Ieee

/-- Either there is an error and no number; or the real is finite. -/
theorem ways (way : Toward) (u : Nat) : (ansN way u = 0 ∧ (ansX way u == 0) = false ∧ (ansX way u != 0) = true) ∨ (rung u < 9218868437227405312 ∧ okW (vW way u) = true ∧ ansN way u = vW way u ∧ ansX way u = 0) := by
  rcases Nat.lt_trichotomy (rung u) 9218868437227405312 with h | h | h
  · obtain ⟨a, b⟩ := ans_fin (way := way) h
    cases k : okW (vW way u)
    · rw [k] at a b
      left
      rw [a, b]
      exact ⟨rfl, rfl, rfl⟩
    · rw [k] at a b
      right
      exact ⟨h, rfl, a, b⟩
  · left
    obtain ⟨a, b⟩ := ans_inf (way := way) h
    rw [a, b]
    exact ⟨rfl, rfl, rfl⟩
  · left
    obtain ⟨a, b⟩ := ans_nan (way := way) h
    rw [a, b]
    exact ⟨rfl, rfl, rfl⟩

theorem whole_cmp {u : Nat} (h : rung u < 9218868437227405312) (e : vW .down u = vW .up u) : cmpV u (wordD (decide (vW .zero u < 0)) (nearR (vW .zero u).natAbs 0)) = 0 := by
  obtain ⟨s, n⟩ := int_sval (way := .zero) h
  have nu : nanB u = false := decide_eq_false (by omega)
  refine (cmp_of_sval nu n).2 ?_
  rw [s]
  rcases near_facts u with ⟨_, b, _, d⟩ | ⟨a, _⟩
  · rw [b]; exact d
  · omega

theorem walk (u : Nat) (_hu : u < 18446744073709551616) (w : World) (R : Rdy w) :
    Calls Tryz.prog 5 #[.int .u64 (u : Int)] w fun e w' => e = .returned (.bool true) ∧ Below w.heap.size w w' := by
  have T := trunc_any u
  have F := floor_any u
  have C := ceil_any u
  have acc := Below.refl w.heap.size w
  rcases ways .zero u with ⟨a, b, b'⟩ | ⟨h, k, a, b⟩
  · rw [a] at T
    obtain ⟨x, ex⟩ : ∃ x, ansX .zero u = x := ⟨_, rfl⟩
    rw [ex] at T b b'
    clear ex a F C
    go_enter Tryz.func5, Tryz.ntmps5
    go_wp2_with (first
      | (go_at_call 6; refine (of_any _ _).mono ?_; rintro e w' ⟨rfl, rfl⟩)
      | (go_at_call 9; refine (T _).mono ?_; rintro e w' ⟨rfl, b⟩; replace acc := acc.trans (b.mono acc.size))
      | (go_at_call 11; refine (awake_any _ (R.below acc)).mono ?_; rintro e w' ⟨rfl, b⟩; replace acc := acc.trans (b.mono acc.size)))
    go_ret
    exact ⟨rfl, acc⟩
  · have hc := fun e => whole_cmp (u := u) h e
    rw [a, b] at T
    have I := int_any (vW .zero u)
    have CM := compare_any u (wordD (decide (vW .zero u < 0)) (nearR (vW .zero u).natAbs 0))
    obtain ⟨y, ey⟩ : ∃ y, wordD (decide (vW .zero u < 0)) (nearR (vW .zero u).natAbs 0) = y := ⟨_, rfl⟩
    rw [ey] at I CM hc
    obtain ⟨z, ez⟩ : ∃ z, vW .zero u = z := ⟨_, rfl⟩
    rw [ez] at T I
    clear a b k ey ez
    by_cases hw : ansX .down u = 0 ∧ ansX .up u = 0 ∧ ansN .down u = ansN .up u
    · obtain ⟨h1, h2, h3⟩ := hw
      have hd : vW .down u = vW .up u := by
        rcases ways .down u with ⟨_, q, _⟩ | ⟨_, _, p, _⟩
        · rw [h1] at q; cases q
        · rcases ways .up u with ⟨_, q, _⟩ | ⟨_, _, p', _⟩
          · rw [h2] at q; cases q
          · rw [← p, ← p']; exact h3
      have hcc := hc hd
      rw [hcc] at CM
      rw [h1] at F
      rw [h2, ← h3] at C
      obtain ⟨n, en⟩ : ∃ n, ansN .down u = n := ⟨_, rfl⟩
      rw [en] at F C
      clear h1 h2 h3 hd hcc hc en h
      go_enter Tryz.func5, Tryz.ntmps5
      go_wp2_with (first
        | (go_at_call 6; refine (of_any _ _).mono ?_; rintro e w' ⟨rfl, rfl⟩)
        | (go_at_call 9; refine (T _).mono ?_; rintro e w' ⟨rfl, b⟩; replace acc := acc.trans (b.mono acc.size))
        | (go_at_call 12; refine (I _).mono ?_; rintro e w' ⟨rfl, rfl⟩)
        | (go_at_call 7; refine (F _).mono ?_; rintro e w' ⟨rfl, b⟩; replace acc := acc.trans (b.mono acc.size))
        | (go_at_call 8; refine (C _).mono ?_; rintro e w' ⟨rfl, b⟩; replace acc := acc.trans (b.mono acc.size))
        | (go_at_call 13; refine (CM _).mono ?_; rintro e w' ⟨rfl, rfl⟩)
        | (go_at_call 11; refine (awake_any _ (R.below acc)).mono ?_; rintro e w' ⟨rfl, b⟩; replace acc := acc.trans (b.mono acc.size)))
      go_ret
      exact ⟨rfl, acc⟩
    · have three : (ansX .down u == 0) = false ∨ ((ansX .down u == 0) = true ∧ (ansX .up u == 0) = false) ∨ ((ansX .down u == 0) = true ∧ (ansX .up u == 0) = true ∧ (ansN .down u == ansN .up u) = false) := by
        by_cases h1 : ansX .down u = 0
        · by_cases h2 : ansX .up u = 0
          · have h3 : ¬ ansN .down u = ansN .up u := fun e => hw ⟨h1, h2, e⟩
            exact Or.inr (Or.inr ⟨by simp [h1], by simp [h2], by simp [h3]⟩)
          · exact Or.inr (Or.inl ⟨by simp [h1], by simp [h2]⟩)
        · exact Or.inl (by simp [h1])
      obtain ⟨x1, e1⟩ : ∃ x, ansX .down u = x := ⟨_, rfl⟩
      obtain ⟨x2, e2⟩ : ∃ x, ansX .up u = x := ⟨_, rfl⟩
      obtain ⟨x3, e3⟩ : ∃ x, ansN .down u = x := ⟨_, rfl⟩
      obtain ⟨x4, e4⟩ : ∃ x, ansN .up u = x := ⟨_, rfl⟩
      rw [e1, e3] at F
      rw [e2, e4] at C
      rw [e1, e2, e3, e4] at three
      clear hw hc e1 e2 e3 e4 h
      rcases three with t1 | ⟨t1, t2⟩ | ⟨t1, t2, t3⟩
      all_goals
        go_enter Tryz.func5, Tryz.ntmps5
        go_wp2_with (first
          | (go_at_call 6; refine (of_any _ _).mono ?_; rintro e w' ⟨rfl, rfl⟩)
          | (go_at_call 9; refine (T _).mono ?_; rintro e w' ⟨rfl, b⟩; replace acc := acc.trans (b.mono acc.size))
          | (go_at_call 12; refine (I _).mono ?_; rintro e w' ⟨rfl, rfl⟩)
          | (go_at_call 7; refine (F _).mono ?_; rintro e w' ⟨rfl, b⟩; replace acc := acc.trans (b.mono acc.size))
          | (go_at_call 8; refine (C _).mono ?_; rintro e w' ⟨rfl, b⟩; replace acc := acc.trans (b.mono acc.size))
          | (go_at_call 11; refine (awake_any _ (R.below acc)).mono ?_; rintro e w' ⟨rfl, b⟩; replace acc := acc.trans (b.mono acc.size)))
        go_ret
        exact ⟨rfl, acc⟩
end Go.Proofs.YtegnhinognpgcacGreatDoor.floWhole
