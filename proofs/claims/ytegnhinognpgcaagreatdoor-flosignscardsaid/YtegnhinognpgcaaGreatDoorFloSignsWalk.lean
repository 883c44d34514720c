/- The walk of the law FloSigns: it answers true for every 64 bits. -/
import Derived.Test.YtegnhinognpgcaaGreatDoorAw4
namespace Go.Proofs.YtegnhinognpgcaaGreatDoor.floSigns
open Go.ChangeShapes Go.WideShapes Go.ChangeAt Go.RowKit

theorem canon_neg (u : Nat) : canon (if nanB u then u else flip u) = canon (if nanB u then 9221120237041090560 else flip u) := by
  cases h : nanB u
  · simp
  · simp only [if_true]
    have e : canon u = 9221120237041090560 := by simp [canon, h]
    rw [e]; rfl
theorem canon_abs (u : Nat) : canon (rung u) = canon (canon (rung u)) := by
  cases h : nanB (rung u)
  · have e : canon (rung u) = rung u := by simp [canon, h]
    rw [e, e]
  · have e : canon (rung u) = 9221120237041090560 := by simp [canon, h]
    rw [e]; rfl

theorem walk (u : Nat) (hu : u < 18446744073709551616) (w : World) (R : Rdy w) :
    Calls Tryz.prog 6 #[.int .u64 (u : Int)] w fun e w' => e = .returned (.bool true) ∧ Below w.heap.size w w' := by
  have h1 : Hid (canon (if nanB u then u else flip u) = canon (if nanB u then 9221120237041090560 else flip u)) := canon_neg u
  have h2 : Hid (canon (rung u) = canon (canon (rung u))) := canon_abs u
  have l1 : (if nanB u then 9221120237041090560 else flip u) < 18446744073709551616 := by
    have := flip_lt u hu
    split <;> omega
  have l2 : canon (rung u) < 18446744073709551616 := canon_lt (by have := rung_lt u; omega)
  obtain ⟨a, ea⟩ : ∃ x, (if nanB u then u else flip u) = x := ⟨_, rfl⟩
  obtain ⟨b, eb⟩ : ∃ x, (if nanB u then 9221120237041090560 else flip u) = x := ⟨_, rfl⟩
  obtain ⟨c, ec⟩ : ∃ x, rung u = x := ⟨_, rfl⟩
  rw [ea, eb] at h1
  rw [eb] at l1
  rw [ec] at h2 l2
  have d1 : decide (canon a = canon b) = true := decide_eq_true h1.out
  have d2 : decide (canon c = canon (canon c)) = true := decide_eq_true h2.out
  have N1 := neg_any u hu
  have N2 := rNeg_any u hu
  have A1 := abs_any u hu
  have A2 := rAbs_any u hu
  rw [ea] at N1
  rw [eb] at N2
  rw [ec] at A1 A2
  obtain ⟨cc, ecc⟩ : ∃ x, canon c = x := ⟨_, rfl⟩
  rw [ecc] at A2 d2 l2
  clear ea eb ec h1 h2
  have d2' : decide (canon c = canon cc) = true := by rw [ecc]; exact d2
  clear d2 ecc
  go_enter Tryz.func6, Tryz.ntmps6
  go_wp2_with (first
    | (go_at_call 18; refine (of_any _ _).mono ?_; rintro e w' ⟨rfl, rfl⟩)
    | (go_at_call 28; refine (N1 _).mono ?_; rintro e w' ⟨rfl, rfl⟩)
    | (go_at_call 29; refine (N2 _).mono ?_; rintro e w' ⟨rfl, rfl⟩)
    | (go_at_call 30; refine (A1 _).mono ?_; rintro e w' ⟨rfl, rfl⟩)
    | (go_at_call 31; refine (A2 _).mono ?_; rintro e w' ⟨rfl, rfl⟩)
    | (go_at_call 19; refine (is_any _ _ (by first | exact l1 | exact l2) _).mono ?_; rintro e w' ⟨rfl, rfl⟩)
    | (go_at_call 14; refine (awake_any _ R).mono ?_; rintro e w1 ⟨rfl, b1⟩))
  go_ret
  exact ⟨rfl, b1⟩
end Go.Proofs.YtegnhinognpgcaaGreatDoor.floSigns
