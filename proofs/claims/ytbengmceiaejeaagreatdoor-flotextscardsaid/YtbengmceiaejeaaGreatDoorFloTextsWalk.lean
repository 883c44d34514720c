/- The walk of the law FloTexts: it answers true for every 64 bits. -/
import Derived.Test.YtbengmceiaejeaaGreatDoorAw4
import Derived.Test.YtbengmceiaejeaaGreatDoorFtX9
namespace Go.Proofs.YtbengmceiaejeaaGreatDoor.floTexts
open Go.ChangeShapes Go.WideShapes Go.ChangeAt Go.RowKit

/-- Both texts are one. -/
theorem both (u : Nat) (hu : u < 18446744073709551616) : ∃ A : ByteArray,
    (∀ w, RdyX w → Calls Tryz.prog 5 #[.float .f64 u] w fun x w' => x = .returned (.string A) ∧ Below w.heap.size w w') ∧
    (∀ w, Calls Tryz.prog 7 #[.int .u64 (u : Int)] w fun x w' => x = .returned (.string A) ∧ Below w.heap.size w w') := by
  by_cases hc : classV u = 0 ∨ classV u = 1 ∨ classV u = 2
  · exact ⟨_, fun w _ => ptext_odd w u hu (sgnB u) rfl hc, fun w => rtext_odd w u hu hc⟩
  · have hc' : nanB u = false ∧ infB u = false ∧ zeroB u = false ∧ (classV u = 3 ∨ classV u = 4) := by
      cases h1 : nanB u with
      | true => exfalso; apply hc; unfold classV; rw [h1]; exact Or.inl rfl
      | false =>
        cases h2 : infB u with
        | true => exfalso; apply hc; unfold classV; rw [h1, h2]; exact Or.inr (Or.inl rfl)
        | false =>
          cases h3 : zeroB u with
          | true => exfalso; apply hc; unfold classV; rw [h1, h2, h3]; exact Or.inr (Or.inr rfl)
          | false =>
            refine ⟨rfl, rfl, rfl, ?_⟩
            unfold classV
            rw [h1, h2, h3]
            simp only [Bool.false_eq_true, if_false]
            split
            · exact Or.inl rfl
            · exact Or.inr rfl
    obtain ⟨h1, h2, h3, h4⟩ := hc'
    have e1 : ¬ 9218868437227405312 < rung u := of_decide_eq_false h1
    have e2 : ¬ rung u = 9218868437227405312 := of_decide_eq_false h2
    have e3 : ¬ rung u = 0 := by unfold zeroB at h3; exact of_decide_eq_false h3
    obtain ⟨m, Q, eu, hm0, hm, hQ, hsub⟩ := word_split (r := rung u) (by omega) (by omega)
    obtain ⟨d, n, i, g, r, T, dp, sh⟩ := shows_of hm0 hm hQ hsub
    exact ⟨_, fun w R => ptext_any w R u hu eu hm0 hm hQ hsub h4 sh, fun w => rtext_any w u hu eu hm0 hm hQ hsub (by omega) sh⟩

theorem walk (u : Nat) (hu : u < 18446744073709551616) (w : World) (R : Rdy w) (X : RdyX w) :
    Calls Tryz.prog 3 #[.int .u64 (u : Int)] w fun e w' => e = .returned (.bool true) ∧ Below w.heap.size w w' := by
  obtain ⟨A, P, D⟩ := both u hu
  have P' : ∀ w1, Below w.heap.size w w1 → Calls Tryz.prog 5 #[.float .f64 u] w1 fun x w' => x = .returned (.string A) ∧ Below w.heap.size w w' :=
    fun w1 b => (P w1 (X.below b)).mono fun _ _ h => ⟨h.1, b.trans (h.2.mono b.size)⟩
  have D' : ∀ w1, Below w.heap.size w w1 → Calls Tryz.prog 7 #[.int .u64 (u : Int)] w1 fun x w' => x = .returned (.string A) ∧ Below w.heap.size w w' :=
    fun w1 b => (D w1).mono fun _ _ h => ⟨h.1, b.trans (h.2.mono b.size)⟩
  have K' : ∀ w1, Below w.heap.size w w1 → Calls Tryz.prog 8 #[] w1 fun x w' => x = .returned (.bool true) ∧ Below w.heap.size w w' :=
    fun w1 b => (awake_any w1 (R.below b)).mono fun _ _ h => ⟨h.1, b.trans (h.2.mono b.size)⟩
  have bb : Below w.heap.size w w := Below.refl _ _
  clear P D R X
  go_enter Tryz.func3, Tryz.ntmps3
  go_wp2_with (first
    | (go_at_call 6; refine (of_any _ _).mono ?_; rintro e w' ⟨rfl, rfl⟩)
    | (go_at_call 5; refine (P' _ bb).mono ?_; clear bb; rintro e w1 ⟨rfl, bb⟩)
    | (go_at_call 7; refine (D' _ bb).mono ?_; clear bb; rintro e w2 ⟨rfl, bb⟩)
    | (go_at_call 8; refine (K' _ bb).mono ?_; clear bb; rintro e w3 ⟨rfl, bb⟩))
  all_goals go_ret
  all_goals exact ⟨rfl, bb⟩
end Go.Proofs.YtbengmceiaejeaaGreatDoor.floTexts
