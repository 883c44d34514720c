/- What the document's own Text answers, for every number. -/
import Derived.Test.YtjlogbpnehbbbaaDoorText
import Derived.Test.YtjlogbpnehbbbaaDoorRef
namespace Go.Proofs.YtjlogbpnehbbbaaDoor
open Go.ChangeShapes Go.WideShapes Go.ChangeAt Go.RowKit

theorem rdigits_int (x : Int) (w : World) (hx : 0 ≤ x ∧ x ≤ 4611686018427387904) : Calls Tryd.prog 13 #[.int .u64 x] w fun e w' => e = .returned (.string ⟨(Lib.decDigits x.toNat).toArray⟩) ∧ w' = w := by
  have h := rdigits_any x.toNat w (by omega)
  have e : ((x.toNat : Nat) : Int) = x := by omega
  rw [e] at h
  exact h

theorem rtext_any (a : Int) (w : World) : Calls Tryd.prog 6 #[.int .i64 a] w fun e w' => e = .returned (.tuple #[.string (textB a), .int .i64 (textE a)]) ∧ w' = w := by
  rcases right_cases a with ⟨hr, hb⟩ | ⟨hr, _⟩
  · have h2 : Hid (textE a = 0) := by show _ = _; simp [textE, hr]
    obtain ⟨x, ex, hx⟩ : ∃ x, amt a = x ∧ (0 ≤ x ∧ x ≤ 4611686018427387904) := ⟨_, rfl, by unfold amt; split <;> omega⟩
    obtain ⟨D, eD, hD⟩ : ∃ D : ByteArray, (⟨(Lib.decDigits x.toNat).toArray⟩ : ByteArray) = D ∧ D.size ≤ 4611686018427387905 := ⟨_, rfl, by rw [Lib.size_eq]; have := dec_len x.toNat; simp only; omega⟩
    have hxa : Hid (x.toNat = a.natAbs) := by show _ = _; rw [← ex, amt_abs]; omega
    have ED : Hid (D.data.toList = Lib.decDigits a.natAbs) := by show _ = _; rw [← eD, hxa.out]
    have hdig : ∀ w, Calls Tryd.prog 13 #[.int .u64 x] w fun e w' => e = .returned (.string D) ∧ w' = w := fun w => by rw [← eD]; exact rdigits_int x w hx
    have HDIG := hide hdig
    clear eD hdig
    by_cases hn : a < 0
    · have h1 : Hid (textB a = ⟨(126 :: Lib.decDigits a.natAbs).toArray⟩) := by show _ = _; simp [textB, textL, hr, hn]
      go_enter Tryd.func6, Tryd.ntmps6
      go_wp2_with (first | (go_at_call 12; refine (rright_any _ _).mono ?_; rintro e w' ⟨rfl, rfl⟩) | (go_at_call 14; refine (amount_any _ _ (by omega)).mono ?_; rintro e w' ⟨rfl, rfl⟩) | (go_at_call 13; refine (HDIG.out _).mono ?_; rintro e w' ⟨rfl, rfl⟩))
      go_ret2
      refine ⟨ret_text ?_ h2.out.symm, rfl⟩
      rw [h1.out]
      exact bytes_of (by rw [cat_list, ED.out]; rfl)
    · have h1 : Hid (textB a = ⟨(Lib.decDigits a.natAbs).toArray⟩) := by show _ = _; simp [textB, textL, hr, hn]
      go_enter Tryd.func6, Tryd.ntmps6
      go_wp2_with (first | (go_at_call 12; refine (rright_any _ _).mono ?_; rintro e w' ⟨rfl, rfl⟩) | (go_at_call 14; refine (amount_any _ _ (by omega)).mono ?_; rintro e w' ⟨rfl, rfl⟩) | (go_at_call 13; refine (HDIG.out _).mono ?_; rintro e w' ⟨rfl, rfl⟩))
      go_ret2
      refine ⟨ret_text ?_ h2.out.symm, rfl⟩
      rw [h1.out]
      exact bytes_of ED.out
  · have h1 : Hid (textB a = ByteArray.empty) := by show _ = _; simp [textB, hr]
    have h2 : Hid (textE a = 1) := by show _ = _; simp [textE, hr]
    go_enter Tryd.func6, Tryd.ntmps6
    go_wp2_with (first | (go_at_call 12; refine (rright_any _ _).mono ?_; rintro e w' ⟨rfl, rfl⟩))
    go_ret2
    exact ⟨ret_text h1.out.symm h2.out.symm, rfl⟩
end Go.Proofs.YtjlogbpnehbbbaaDoor
