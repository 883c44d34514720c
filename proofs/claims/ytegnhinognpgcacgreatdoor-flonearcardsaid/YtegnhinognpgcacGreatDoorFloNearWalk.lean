/- The walk of the law FloNear: it answers true for every word. -/
import Derived.Test.YtegnhinognpgcacGreatDoorNear
namespace Go.Proofs.YtegnhinognpgcacGreatDoor.floNear
open Go.ChangeShapes Go.WideShapes Go.ChangeAt Go.RowKit
open Ieee

/-- Either there is an error and no number; or the real is finite. -/
theorem ways (way : Toward) (u : Nat) : (ansN way u = 0 ∧ (ansX way u == 0) = false ∧ (ansX way u != 0) = true) ∨ (rung u < 9218868437227405312 ∧ okW (vW way u) = true ∧ ansN way u = vW way u ∧ ansX way u = 0) := by
  rcases Nat.lt_trichotomy (rung u) 9218868437227405312 with h | h | h
  · obtain ⟨a, b⟩ := ans_fin (way := way) h
    cases k : okW (vW way u)
    · rw [k] at a b
      left
      rw [a, b]
      exact ⟨rfl, rfl, rfl⟩
    · rw [k] at a b
      right
      exact ⟨h, rfl, a, b⟩
  · left
    obtain ⟨a, b⟩ := ans_inf (way := way) h
    rw [a, b]
    exact ⟨rfl, rfl, rfl⟩
  · left
    obtain ⟨a, b⟩ := ans_nan (way := way) h
    rw [a, b]
    exact ⟨rfl, rfl, rfl⟩

/-- One way with an error, among the four: its number is 0. -/
theorem err_or (way : Toward) (u : Nat) : ((ansX way u == 0) = true ∧ (ansX way u != 0) = false) ∨ ((ansX way u == 0) = false ∧ (ansX way u != 0) = true ∧ (ansN way u == 0) = true) := by
  rcases ways way u with ⟨a, b, c⟩ | ⟨_, _, _, b⟩
  · right; rw [a]; exact ⟨b, c, rfl⟩
  · left; rw [b]; exact ⟨rfl, rfl⟩

set_option maxHeartbeats 4000000 in
theorem walk_err (u : Nat) (w : World) (R : Rdy w) (h : ¬ (ansX .down u = 0 ∧ ansX .up u = 0 ∧ ansX .zero u = 0 ∧ ansX .even u = 0)) :
    Calls Tryz.prog 3 #[.int .u64 (u : Int)] w fun e w' => e = .returned (.bool true) ∧ Below w.heap.size w w' := by
  have T := trunc_any u
  have F := floor_any u
  have C := ceil_any u
  have E := round_any u
  have acc := Below.refl w.heap.size w
  have h' : (ansX .down u == 0) = false ∨ (ansX .up u == 0) = false ∨ (ansX .zero u == 0) = false ∨ (ansX .even u == 0) = false := by
    by_cases h1 : ansX .down u = 0
    · by_cases h2 : ansX .up u = 0
      · by_cases h3 : ansX .zero u = 0
        · exact Or.inr (Or.inr (Or.inr (by simp; exact fun e => h ⟨h1, h2, h3, e⟩)))
        · exact Or.inr (Or.inr (Or.inl (by simp [h3])))
      · exact Or.inr (Or.inl (by simp [h2]))
    · exact Or.inl (by simp [h1])
  have d1 := err_or .down u
  have d2 := err_or .up u
  have d3 := err_or .zero u
  have d4 := err_or .even u
  clear h
  obtain ⟨x1, e1⟩ : ∃ x, ansX .down u = x := ⟨_, rfl⟩
  obtain ⟨x2, e2⟩ : ∃ x, ansX .up u = x := ⟨_, rfl⟩
  obtain ⟨x3, e3⟩ : ∃ x, ansX .zero u = x := ⟨_, rfl⟩
  obtain ⟨x4, e4⟩ : ∃ x, ansX .even u = x := ⟨_, rfl⟩
  obtain ⟨n1, f1⟩ : ∃ x, ansN .down u = x := ⟨_, rfl⟩
  obtain ⟨n2, f2⟩ : ∃ x, ansN .up u = x := ⟨_, rfl⟩
  obtain ⟨n3, f3⟩ : ∃ x, ansN .zero u = x := ⟨_, rfl⟩
  obtain ⟨n4, f4⟩ : ∃ x, ansN .even u = x := ⟨_, rfl⟩
  rw [e1, e2, e3, e4] at h'
  rw [e1, f1] at F d1
  rw [e2, f2] at C d2
  rw [e3, f3] at T d3
  rw [e4, f4] at E d4
  clear e1 e2 e3 e4 f1 f2 f3 f4
  rcases d1 with ⟨p1, q1⟩ | ⟨p1, q1, z1⟩ <;> rcases d2 with ⟨p2, q2⟩ | ⟨p2, q2, z2⟩ <;> rcases d3 with ⟨p3, q3⟩ | ⟨p3, q3, z3⟩ <;> rcases d4 with ⟨p4, q4⟩ | ⟨p4, q4, z4⟩
  all_goals first
    | (exfalso; rw [p1, p2, p3, p4] at h'; simp at h'; done)
    | skip
  all_goals
    clear h'
    go_enter Tryz.func3, Tryz.ntmps3
    go_wp2_with (first
      | (go_at_call 6; refine (of_any _ _).mono ?_; rintro e w' ⟨rfl, rfl⟩)
      | (go_at_call 7; refine (F _).mono ?_; rintro e w' ⟨rfl, b⟩; replace acc := acc.trans (b.mono acc.size))
      | (go_at_call 8; refine (C _).mono ?_; rintro e w' ⟨rfl, b⟩; replace acc := acc.trans (b.mono acc.size))
      | (go_at_call 9; refine (T _).mono ?_; rintro e w' ⟨rfl, b⟩; replace acc := acc.trans (b.mono acc.size))
      | (go_at_call 10; refine (E _).mono ?_; rintro e w' ⟨rfl, b⟩; replace acc := acc.trans (b.mono acc.size))
      | (go_at_call 11; refine (awake_any _ (R.below acc)).mono ?_; rintro e w' ⟨rfl, b⟩; replace acc := acc.trans (b.mono acc.size)))
    go_ret
    exact ⟨rfl, acc⟩

set_option maxHeartbeats 4000000 in
theorem walk_ok (u : Nat) (w : World) (R : Rdy w) (hf : rung u < 9218868437227405312) (ka : okW (vW .down u) = true) (kb : okW (vW .up u) = true)
    (h1 : ansX .down u = 0) (h2 : ansX .up u = 0) (h3 : ansX .zero u = 0) (h4 : ansX .even u = 0) (g1 : ansN .down u = vW .down u) (g2 : ansN .up u = vW .up u) (g3 : ansN .zero u = vW .zero u) (g4 : ansN .even u = vW .even u) :
    Calls Tryz.prog 3 #[.int .u64 (u : Int)] w fun e w' => e = .returned (.bool true) ∧ Below w.heap.size w w' := by
  have T := trunc_any u
  have F := floor_any u
  have C := ceil_any u
  have E := round_any u
  have acc := Below.refl w.heap.size w
  rw [h1, g1] at F
  rw [h2, g2] at C
  rw [h3, g3] at T
  rw [h4, g4] at E
  clear h1 h2 h3 h4 g1 g2 g3 g4
  have nu : nanB u = false := decide_eq_false (by omega)
  obtain ⟨s1, m1⟩ := int_sval (way := .down) hf
  obtain ⟨s2, m2⟩ := int_sval (way := .up) hf
  have ka' := of_decide_eq_true ka
  have kb' := of_decide_eq_true kb
  rcases near_facts u with ⟨a1, a2, a3, a4⟩ | ⟨a1, a2, a3, a4, a5⟩
  · have c1 : cmpV (wordD (decide (vW .down u < 0)) (nearR (vW .down u).natAbs 0)) u = 0 := (cmp_of_sval m1 nu).2 (s1.trans a4.symm)
    have c2 : cmpV u (wordD (decide (vW .down u < 0)) (nearR (vW .down u).natAbs 0)) = 0 := (cmp_of_sval nu m1).2 (a4.trans s1.symm)
    rw [a1] at C
    rw [a2] at T
    rw [a3] at E
    obtain ⟨a, ea⟩ : ∃ a, vW .down u = a := ⟨_, rfl⟩
    rw [ea] at F C T E c1 c2 ka'
    obtain ⟨L, eL⟩ : ∃ L, wordD (decide (a < 0)) (nearR a.natAbs 0) = L := ⟨_, rfl⟩
    rw [eL] at c1 c2
    have I := int_any a
    rw [eL] at I
    clear eL ea a1 a2 a3 a4 s1 s2 m1 m2 nu ka kb kb' hf
    go_enter Tryz.func3, Tryz.ntmps3
    go_wp2_with (first
      | (go_at_call 6; refine (of_any _ _).mono ?_; rintro e w' ⟨rfl, rfl⟩)
      | (go_at_call 7; refine (F _).mono ?_; rintro e w' ⟨rfl, b⟩; replace acc := acc.trans (b.mono acc.size))
      | (go_at_call 8; refine (C _).mono ?_; rintro e w' ⟨rfl, b⟩; replace acc := acc.trans (b.mono acc.size))
      | (go_at_call 9; refine (T _).mono ?_; rintro e w' ⟨rfl, b⟩; replace acc := acc.trans (b.mono acc.size))
      | (go_at_call 10; refine (E _).mono ?_; rintro e w' ⟨rfl, b⟩; replace acc := acc.trans (b.mono acc.size))
      | (go_at_call 12; refine (I _).mono ?_; rintro e w' ⟨rfl, rfl⟩)
      | (go_at_call 13; refine (compare_any _ _ _).mono ?_; rintro e w' ⟨rfl, rfl⟩)
      | (go_at_call 11; refine (awake_any _ (R.below acc)).mono ?_; rintro e w' ⟨rfl, b⟩; replace acc := acc.trans (b.mono acc.size)))
    go_ret
    exact ⟨rfl, acc⟩
  · have c1 : cmpV (wordD (decide (vW .down u < 0)) (nearR (vW .down u).natAbs 0)) u = -1 := (cmp_of_sval m1 nu).1 (by rw [s1]; exact a4)
    have c2 : cmpV u (wordD (decide (vW .up u < 0)) (nearR (vW .up u).natAbs 0)) = -1 := (cmp_of_sval nu m2).1 (by rw [s2]; exact a5)
    obtain ⟨a, ea⟩ : ∃ a, vW .down u = a := ⟨_, rfl⟩
    obtain ⟨b, eb⟩ : ∃ b, vW .up u = b := ⟨_, rfl⟩
    obtain ⟨c, ec⟩ : ∃ c, vW .zero u = c := ⟨_, rfl⟩
    obtain ⟨d, ed⟩ : ∃ d, vW .even u = d := ⟨_, rfl⟩
    rw [ea] at F a1 a2 a3 c1 ka'
    rw [eb] at C a1 a2 a3 c2 kb'
    rw [ec] at T a2
    rw [ed] at E a3
    obtain ⟨L, eL⟩ : ∃ L, wordD (decide (a < 0)) (nearR a.natAbs 0) = L := ⟨_, rfl⟩
    obtain ⟨H, eH⟩ : ∃ H, wordD (decide (b < 0)) (nearR b.natAbs 0) = H := ⟨_, rfl⟩
    rw [eL] at c1
    rw [eH] at c2
    clear ea eb ec ed a4 a5 s1 s2 m1 m2 nu ka kb hf
    have t1 : decide (b < a) = false := decide_eq_false (by omega)
    have t2 : wrap64 (b - a) = 1 := by unfold wrap64; omega
    have t7 : decide (1 < b - a) = false := decide_eq_false (by omega)
    have t8 : ¬ 1 < b - a := by omega
    have t3 : (a == b) = false := by simp; omega
    have t4 : (b == a) = false := by simp; omega
    have t5 : (a != b) = true := by simp; omega
    have t6 : (b != a) = true := by simp; omega
    have ab := hide a1
    clear a1
    rcases a2 with rfl | rfl <;> rcases a3 with rfl | rfl
    all_goals
      go_enter Tryz.func3, Tryz.ntmps3
      go_wp2_with (first
      | (go_at_call 6; refine (of_any _ _).mono ?_; rintro e w' ⟨rfl, rfl⟩)
      | (go_at_call 7; refine (F _).mono ?_; rintro e w' ⟨rfl, b⟩; replace acc := acc.trans (b.mono acc.size))
      | (go_at_call 8; refine (C _).mono ?_; rintro e w' ⟨rfl, b⟩; replace acc := acc.trans (b.mono acc.size))
      | (go_at_call 9; refine (T _).mono ?_; rintro e w' ⟨rfl, b⟩; replace acc := acc.trans (b.mono acc.size))
      | (go_at_call 10; refine (E _).mono ?_; rintro e w' ⟨rfl, b⟩; replace acc := acc.trans (b.mono acc.size))
      | (go_at_call 12; refine (int_any _ _).mono ?_; rintro e w' ⟨rfl, rfl⟩)
      | (go_at_call 13; refine (compare_any _ _ _).mono ?_; rintro e w' ⟨rfl, rfl⟩)
      | (go_at_call 11; refine (awake_any _ (R.below acc)).mono ?_; rintro e w' ⟨rfl, b⟩; replace acc := acc.trans (b.mono acc.size)))
      go_ret
      exact ⟨rfl, acc⟩

theorem walk (u : Nat) (_hu : u < 18446744073709551616) (w : World) (R : Rdy w) :
    Calls Tryz.prog 3 #[.int .u64 (u : Int)] w fun e w' => e = .returned (.bool true) ∧ Below w.heap.size w w' := by
  by_cases h : ansX .down u = 0 ∧ ansX .up u = 0 ∧ ansX .zero u = 0 ∧ ansX .even u = 0
  · obtain ⟨h1, h2, h3, h4⟩ := h
    rcases ways .down u with ⟨_, q, _⟩ | ⟨hf, ka, g1, _⟩
    · rw [h1] at q; cases q
    · rcases ways .up u with ⟨_, q, _⟩ | ⟨_, kb, g2, _⟩
      · rw [h2] at q; cases q
      · rcases ways .zero u with ⟨_, q, _⟩ | ⟨_, _, g3, _⟩
        · rw [h3] at q; cases q
        · rcases ways .even u with ⟨_, q, _⟩ | ⟨_, _, g4, _⟩
          · rw [h4] at q; cases q
          · exact walk_ok u w R hf ka kb h1 h2 h3 h4 g1 g2 g3 g4
  · exact walk_err u w R h
end Go.Proofs.YtegnhinognpgcacGreatDoor.floNear
