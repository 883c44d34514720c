/- Behind a byte that begins no token anything may stand. No program is named here. -/
import Derived.WalkKit
import Derived.ProofKit
import Derived.Test.YtmeooghcdgpofabDoorLexU
namespace Go.Proofs.YtmeooghcdgpofabDoor

/-- Neither of the last two bytes is a point. -/
def NoPt (a : List UInt8) : Prop := ∀ u : List UInt8, a ≠ u ++ [46] ∧ ∀ c, a ≠ u ++ [46, c]
theorem NoPt.drop {a : List UInt8} (h : NoPt a) (n : Nat) : NoPt (a.drop n) := by
  intro u
  have e := List.take_append_drop n a
  constructor
  · intro g
    rw [g, ← List.append_assoc] at e
    exact (h _).1 e.symm
  · intro c g
    rw [g, ← List.append_assoc] at e
    exact (h _).2 c e.symm
theorem numR_bad {l : List UInt8} {e : Nat} (h : numR l = .bad e) : e = 43 ∨ e = 2 := by
  unfold numR at h
  split at h
  · cases h; exact .inl rfl
  · split at h
    · cases h; exact .inr rfl
    · cases h
theorem longF_bad : ∀ (f : Nat) (p : List (List UInt8)) (m : Nat) (l : List UInt8) (e : Nat), longF f p m l = .bad e → e = 44 := by
  intro f
  induction f with
  | zero => intro p m l e h; cases h; rfl
  | succ f ih =>
    intro p m l e h
    unfold longF at h
    split at h
    · split at h
      · cases h; rfl
      · exact ih _ _ _ _ h
    · cases h
theorem strR_bad {l : List UInt8} {e : Nat} (h : strR l = .bad e) : e = 42 ∨ e = 2 := by
  unfold strR at h
  split at h
  · cases h; exact .inl rfl
  · split at h
    · cases h; exact .inr rfl
    · cases h
theorem chrR_bad {l : List UInt8} {e : Nat} (h : chrR l = .bad e) : e = 42 := by
  unfold chrR at h
  split at h
  · cases h; rfl
  · split at h
    · cases h
    · cases h; rfl
/-- A byte that begins no token begins none with more behind it. -/
theorem rdL_byte {a m : List UInt8} (ha : a ≠ []) (h : rdL a = .bad 40) (hp : NoPt a) : rdL (a ++ m) = .bad 40 := by
  have B : ∀ P, begP P (a ++ m) = begP P a := by
    intro P
    cases a with
    | nil => exact absurd rfl ha
    | cons c r => rfl
  unfold rdL at h ⊢
  simp only [B]
  by_cases g1 : begP lblankB a = true
  · rw [if_pos g1] at h; cases h
  rw [if_neg g1] at h ⊢
  by_cases g2 : begP letterB a = true
  · rw [if_pos g2] at h
    unfold wordR at h
    split at h
    · cases h
    · have := longF_bad _ _ _ _ _ h; omega
  rw [if_neg g2] at h ⊢
  by_cases g3 : begP digitB a = true
  · rw [if_pos g3] at h; have := numR_bad h; omega
  rw [if_neg g3] at h ⊢
  by_cases g4 : begP signB a = true
  · rw [if_pos g4] at h
    unfold sigR at h
    split at h
    · have := numR_bad h; omega
    · split at h
      · have := chrR_bad h; omega
      · split at h <;> cases h
  rw [if_neg g4] at h ⊢
  by_cases g5 : begP (fun c => decide (c = 40)) a = true
  · rw [if_pos g5] at h
    unfold parR at h
    split at h
    · split at h <;> cases h
    · cases h
  rw [if_neg g5] at h ⊢
  by_cases g6 : begP aloneB a = true
  · rw [if_pos g6] at h; cases h
  rw [if_neg g6] at h ⊢
  by_cases g7 : begP (fun c => decide (c = 46)) a = true
  · rw [if_pos g7] at h ⊢
    unfold poiR at h ⊢
    by_cases g : ([46, 46, 46] : List UInt8).isPrefixOf a = true
    · rw [if_pos g] at h; cases h
    · have g' : ¬ ([46, 46, 46] : List UInt8).isPrefixOf (a ++ m) = true := by
        match a, ha, g7, g, hp with
        | [x], _, g7, _, hp =>
          have : x = 46 := by simpa [begP] using g7
          subst this
          exact absurd rfl (hp []).1
        | [x, y], _, g7, _, hp =>
          have : x = 46 := by simpa [begP] using g7
          subst this
          exact absurd rfl ((hp []).2 y)
        | x :: y :: z :: r, _, _, g, _ =>
          simpa [List.isPrefixOf] using g
      rw [if_neg g']
  rw [if_neg g7] at h ⊢
  by_cases g8 : begP (fun c => decide (c = 39)) a = true
  · rw [if_pos g8] at h; cases h
  rw [if_neg g8] at h ⊢
  by_cases g9 : begP (fun c => decide (c = 34)) a = true
  · rw [if_pos g9] at h; have := strR_bad h; omega
  rw [if_neg g9]
/-- What stands behind a fault of that kind changes nothing. -/
theorem scan_first : ∀ (f : Nat) (p : Nat × Nat) (a m : List UInt8) (x y : Nat), a.length ≤ f → NoPt a → (scanP p a).2 = some (x, y, 40) → (scanP p (a ++ m)).2 = some (x, y, 40) := by
  intro f
  induction f with
  | zero =>
    intro p a m x y hf hp ho
    obtain rfl : a = [] := List.eq_nil_of_length_eq_zero (by omega)
    cases ho
  | succ f ih =>
    intro p a m x y hf hp ho
    cases a with
    | nil => cases ho
    | cons c r =>
      by_cases hc : lblankB c = true
      · rw [scanP_blank _ _ _ hc] at ho
        rw [List.cons_append, scanP_blank _ _ _ hc]
        exact ih _ r m x y (by simp at hf; omega) (hp.drop 1) ho
      · cases e : rdL (c :: r) with
        | bad e' =>
          rw [scanP_bad (by simp) e] at ho
          simp only [Option.some.injEq, Prod.mk.injEq] at ho
          obtain ⟨h1, h2, h3⟩ := ho
          subst h3
          rw [scanP_bad (by simp) (rdL_byte (by simp) e hp), h1, h2]
        | got k t q n =>
          have hn := rdL_le e
          rw [scanP_got e] at ho
          simp only at ho
          have hu : (c :: r).drop n ≠ [] := by
            intro g; rw [g, scanP_nil] at ho; cases ho
          have hpu := hp.drop n
          have hl : Less ((c :: r).drop n ++ m) ((c :: r).drop n) := by
            revert hu hpu
            generalize (c :: r).drop n = u
            intro hu hpu
            constructor
            · intro c' r' g
              cases u with
              | nil => exact absurd rfl hu
              | cons d s => injection g with g1 g2; subst g1; exact .inr ⟨s, rfl⟩
            · intro c' r' g hd
              match u, hu, hpu with
              | [d], _, hpu =>
                injection g with g1 g2
                subst g1
                exact absurd rfl (hpu []).1
              | d :: d2 :: s, _, _ =>
                injection g with g1 g2
                injection g2 with g3 g4
                subst g1 g3
                exact ⟨s, rfl⟩
          have e2 := rdL_ext (m := m) (show begP lblankB (c :: r) = false from Bool.eq_false_iff.2 hc) e hl
          rw [scanP_got e2]
          show (scanP (placeL p ((c :: r ++ m).take n)) ((c :: r ++ m).drop n)).2 = _
          rw [List.drop_append_of_le_length hn.2, List.take_append_of_le_length hn.2]
          exact ih _ _ m x y (by rw [List.length_drop]; omega) hpu ho
end Go.Proofs.YtmeooghcdgpofabDoor
