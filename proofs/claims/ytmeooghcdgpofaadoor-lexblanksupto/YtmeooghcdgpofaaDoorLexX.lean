/- Tokens of a text, on lists of bytes: each has a byte at least and no more than there are; a step of the scan. No program is named here. -/
import Derived.WalkKit
import Derived.ProofKit
import Derived.Test.YtmeooghcdgpofaaDoorLexW
namespace Go.Proofs.YtmeooghcdgpofaaDoor

theorem runP_le (P : UInt8 → Bool) (l : List UInt8) : runP P l ≤ l.length := List.Sublist.length_le (List.takeWhile_sublist P)
theorem runP_pos {P : UInt8 → Bool} {l : List UInt8} (h : begP P l = true) : 1 ≤ runP P l := by
  cases l with
  | nil => cases h
  | cons c r => unfold runP; rw [List.takeWhile_cons, if_pos (show P c = true from h)]; simp
theorem runP_zero {P : UInt8 → Bool} {l : List UInt8} (h : begP P l = false) : runP P l = 0 := by
  cases l with
  | nil => rfl
  | cons c r => unfold runP; rw [List.takeWhile_cons, if_neg (by rw [show P c = false from h]; decide)]; rfl
theorem begP_len {P : UInt8 → Bool} {l : List UInt8} (h : begP P l = true) : 1 ≤ l.length := by
  cases l with
  | nil => cases h
  | cons c r => simp
theorem preN_le (p : List UInt8) (P : UInt8 → Bool) (l : List UInt8) : preN p P l ≤ l.length := by
  unfold preN
  split
  · rename_i h
    rw [Bool.and_eq_true] at h
    have h1 := (List.isPrefixOf_iff_prefix.1 h.1).length_le
    have h2 := runP_le P (l.drop p.length)
    rw [List.length_drop] at h2
    omega
  · exact Nat.zero_le _
theorem tildeN_le (l : List UInt8) : tildeN l ≤ l.length := by
  unfold tildeN
  split
  · rename_i h
    have := (List.isPrefixOf_iff_prefix.1 h).length_le
    simpa using this
  · exact Nat.zero_le _
theorem expN_le (l : List UInt8) : expN l ≤ l.length := by
  unfold expN
  repeat' split
  all_goals exact preN_le _ _ _
theorem partN_le (l : List UInt8) : partN l ≤ l.length := by
  unfold partN
  have h1 := preN_le [46] digitB l
  have h2 := expN_le (l.drop (preN [46] digitB l))
  rw [List.length_drop] at h2
  omega
theorem meas2_le (l : List UInt8) (d : Nat) (h : d ≤ l.length) : (meas2 l d).2 ≤ l.length ∧ d ≤ (meas2 l d).2 := by
  unfold meas2
  have h2 := partN_le (l.drop d)
  rw [List.length_drop] at h2
  split
  · show d + partN (l.drop d) ≤ _ ∧ d ≤ d + partN (l.drop d); omega
  · exact ⟨h, Nat.le_refl _⟩
theorem measN_le (l : List UInt8) : (measN l).2 ≤ l.length := by
  unfold measN
  have h1 := tildeN_le l
  have h2 := preN_le [48, 120] hexB (l.drop (tildeN l))
  have h3 := runP_le digitB (l.drop (tildeN l))
  rw [List.length_drop] at h2 h3
  split
  · show tildeN l + preN [48, 120] hexB (l.drop (tildeN l)) ≤ _; omega
  · exact (meas2_le l _ (by omega)).1
theorem measN_pos {l : List UInt8} (h : begP digitB (l.drop (tildeN l)) = true) : 1 ≤ (measN l).2 := by
  unfold measN
  have h1 := tildeN_le l
  have h3 := runP_le digitB (l.drop (tildeN l))
  have h4 := runP_pos h
  rw [List.length_drop] at h3
  split
  · rename_i h5; show 1 ≤ tildeN l + preN [48, 120] hexB (l.drop (tildeN l)); omega
  · have := (meas2_le l (tildeN l + runP digitB (l.drop (tildeN l))) (by omega)).2; omega

theorem quoF_le : ∀ (f i : Nat) (acc l t : List UInt8) (n : Nat), quoF f i acc l = some (t, n) → i + 1 ≤ n ∧ n ≤ i + l.length := by
  intro f
  induction f with
  | zero => intro i acc l t n h; cases h
  | succ f ih =>
    intro i acc l t n h
    cases l with
    | nil => cases h
    | cons c r =>
      unfold quoF at h
      split at h
      · cases h; simp
      · split at h
        · cases h
        · have h1 := ih _ _ _ _ _ h
          have h2 := stepN_le (c :: r)
          rw [List.length_drop] at h1
          omega
theorem quoN_le {l t : List UInt8} {n : Nat} (h : quoN l = some (t, n)) : 2 ≤ n ∧ n ≤ l.length := by
  have h1 := quoF_le _ _ _ _ _ _ h
  rw [List.length_drop] at h1
  omega
theorem comG_le : ∀ (f i : Nat) (o : Int) (l : List UInt8), comG f i o l ≤ i + l.length := by
  intro f
  induction f with
  | zero => intro i o l; unfold comG; exact Nat.zero_le _
  | succ f ih =>
    intro i o l
    match l with
    | [] => exact Nat.zero_le _
    | [_] => exact Nat.zero_le _
    | a :: b :: r =>
      unfold comG
      have h1 := ih (i + 2) (o + 1) r
      have h2 := ih (i + 2) (o - 1) r
      have h3 := ih (i + 1) o (b :: r)
      simp only [List.length_cons] at h3 ⊢
      repeat' split
      all_goals omega
theorem comL_le (l : List UInt8) : comL l ≤ l.length := by have := comG_le l.length 0 0 l; unfold comL; omega
theorem nameN_le (l : List UInt8) : nameN l ≤ l.length := by
  unfold nameN
  split <;> exact runP_le _ _
theorem longF_le : ∀ (f : Nat) (p : List (List UInt8)) (m : Nat) (l : List UInt8) (k : Nat) (t : List UInt8) (q : List (List UInt8)) (n : Nat), longF f p m l = .got k t q n → k = 2 ∧ m + nameN l ≤ n ∧ n ≤ m + l.length := by
  intro f
  induction f with
  | zero => intro p m l k t q n h; cases h
  | succ f ih =>
    intro p m l k t q n h
    unfold longF at h
    split at h
    · split at h
      · cases h
      · have h1 := ih _ _ _ _ _ _ _ h
        rename_i h3 h4
        rw [Bool.and_eq_true] at h3
        have h2 := begP_len h3.2
        rw [List.length_drop] at h1 h2
        omega
    · cases h
      have := nameN_le l
      omega
/-- A token has a byte at least, and no more than there are. -/
theorem rdL_le {l : List UInt8} {k : Nat} {t : List UInt8} {q : List (List UInt8)} {n : Nat} (h : rdL l = .got k t q n) : 1 ≤ n ∧ n ≤ l.length := by
  have num : numR l = .got k t q n → begP digitB (l.drop (tildeN l)) = true → 1 ≤ n ∧ n ≤ l.length := by
    intro h g
    unfold numR at h
    split at h
    · cases h
    · split at h
      · cases h
      · cases h; exact ⟨measN_pos g, measN_le l⟩
  unfold rdL at h
  split at h
  · rename_i g; cases h; exact ⟨runP_pos g, runP_le _ _⟩
  split at h
  · rename_i g
    have hp : 1 ≤ nameN l := by unfold nameN; rw [if_pos g]; refine runP_pos ?_; cases l with
      | nil => cases g
      | cons c r => show wordB c = true; unfold wordB; rw [show letterB c = true from g]; rfl
    unfold wordR at h
    split at h
    · cases h; exact ⟨hp, nameN_le l⟩
    · have := longF_le _ _ _ _ _ _ _ _ h; omega
  split at h
  · rename_i g
    refine num h ?_
    have e : tildeN l = 0 := by
      cases l with
      | nil => rfl
      | cons c r =>
        unfold tildeN
        rw [if_neg]
        intro x
        rw [List.isPrefixOf_cons_cons, Bool.and_eq_true] at x
        have : (126 : UInt8) = c := eq_of_beq x.1
        subst this
        exact absurd (show digitB 126 = true from g) (by decide)
    rw [e]; exact g
  split at h
  · rename_i g
    unfold sigR at h
    split at h
    · rename_i g2
      refine num h ?_
      cases l with
      | nil => cases g
      | cons c r =>
        have : c = 126 := by simpa using g2.1
        subst this
        exact g2.2
    split at h
    · unfold chrR at h
      split at h
      · cases h
      · rename_i t' n' e
        have := quoN_le e
        rw [List.length_drop] at this
        split at h
        · cases h; omega
        · cases h
    split at h
    · cases h; exact ⟨runP_pos g, runP_le _ _⟩
    · cases h; exact ⟨runP_pos g, runP_le _ _⟩
  split at h
  · rename_i g
    unfold parR at h
    split at h
    · split at h
      · cases h
      · cases h; have := comL_le l; omega
    · cases h; exact ⟨Nat.le_refl _, begP_len g⟩
  split at h
  · rename_i g; cases h; exact ⟨Nat.le_refl _, begP_len g⟩
  split at h
  · unfold poiR at h
    split at h
    · rename_i g; cases h; have := (List.isPrefixOf_iff_prefix.1 g).length_le; simp at this; omega
    · cases h
  split at h
  · rename_i g
    cases h
    refine ⟨runP_pos ?_, runP_le _ _⟩
    cases l with
    | nil => cases g
    | cons c r => have : c = 39 := of_decide_eq_true g; subst this; rfl
  split at h
  · unfold strR at h
    split at h
    · cases h
    · rename_i t' n' e
      have := quoN_le e
      split at h
      · cases h
      · cases h; omega
  · cases h

theorem scanF_fuel : ∀ (f g : Nat) (p : Nat × Nat) (l : List UInt8), l.length ≤ f → l.length ≤ g → scanF f p l = scanF g p l := by
  intro f
  induction f with
  | zero => intro g p l h h2; obtain rfl : l = [] := List.eq_nil_of_length_eq_zero (by omega); cases g <;> rfl
  | succ f ih =>
    intro g p l h h2
    cases l with
    | nil => cases g <;> rfl
    | cons c r =>
      cases g with
      | zero => simp at h2
      | succ g =>
        unfold scanF
        cases e : rdL (c :: r) with
        | bad e => rfl
        | got k t q n =>
          have hn := rdL_le e
          have hd : ((c :: r).drop n).length = (c :: r).length - n := List.length_drop
          simp only [List.length_cons] at h h2 hd hn
          have e2 := ih g (placeL p ((c :: r).take n)) ((c :: r).drop n) (by omega) (by omega)
          simp only [e2]
theorem scanP_nil (p : Nat × Nat) : scanP p [] = ([], none) := rfl
theorem scanP_bad {p : Nat × Nat} {l : List UInt8} {e : Nat} (h0 : l ≠ []) (h : rdL l = .bad e) : scanP p l = ([], some (p.1, p.2, e)) := by
  cases l with
  | nil => exact absurd rfl h0
  | cons c r => unfold scanP; rw [List.length_cons]; unfold scanF; rw [h]
theorem scanP_got {p : Nat × Nat} {l : List UInt8} {k : Nat} {t : List UInt8} {q : List (List UInt8)} {n : Nat} (h : rdL l = .got k t q n) :
    scanP p l = (if k = 0 then (scanP (placeL p (l.take n)) (l.drop n)).1 else ⟨k, t, q, p.1, p.2⟩ :: (scanP (placeL p (l.take n)) (l.drop n)).1, (scanP (placeL p (l.take n)) (l.drop n)).2) := by
  have hn := rdL_le h
  cases l with
  | nil => simp at hn; omega
  | cons c r =>
    have hd : ((c :: r).drop n).length = (c :: r).length - n := List.length_drop
    simp only [List.length_cons] at hd hn
    conv => lhs; unfold scanP; rw [List.length_cons]; unfold scanF; rw [h]
    show _ = _
    unfold scanP
    have e2 := scanF_fuel r.length ((c :: r).drop n).length (placeL p ((c :: r).take n)) ((c :: r).drop n) (by omega) (by omega)
    simp only [e2]
theorem placeL_app (p : Nat × Nat) (a b : List UInt8) : placeL p (a ++ b) = placeL (placeL p a) b := List.foldl_append ..
end Go.Proofs.YtmeooghcdgpofaaDoor
