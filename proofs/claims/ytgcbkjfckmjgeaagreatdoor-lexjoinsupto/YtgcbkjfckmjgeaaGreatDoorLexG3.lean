/- How far the document's scan has come: places are reckoned from the text's beginning. No program is named here. -/
import Derived.WalkKit
import Derived.ProofKit
import Derived.Test.YtgcbkjfckmjgeaaGreatDoorLexU
import Derived.Test.YtgcbkjfckmjgeaaGreatDoorLexG2
import Derived.Test.YtgcbkjfckmjgeaaGreatDoorLexD16
namespace Go.Proofs.YtgcbkjfckmjgeaaGreatDoor

def plN (L : List UInt8) (i : Nat) : Nat × Nat := placeL (1, 1) (L.take i)
def RAt (S : List Tok × Option (Nat × Nat × Nat)) (L : List UInt8) (ts : List Tok) (i : Nat) : Prop := S = (ts ++ (scanP (plN L i) (L.drop i)).1, (scanP (plN L i) (L.drop i)).2) ∧ ts.length ≤ i
theorem plN_add (L : List UInt8) (i n : Nat) : plN L (i + n) = placeL (plN L i) ((L.drop i).take n) := by
  unfold plN
  rw [List.take_add, placeL_app]
theorem plN_bd (L : List UInt8) (i : Nat) : 1 ≤ (plN L i).1 ∧ (plN L i).1 ≤ i + 1 ∧ 1 ≤ (plN L i).2 ∧ (plN L i).2 ≤ i + 1 := by
  have h := placeL_bd (L.take i) 1 1 1 (by omega) (by omega) (by omega) (by omega)
  have h2 : (L.take i).length ≤ i := List.length_take_le _ _
  unfold plN
  omega
theorem plN_step {L : List UInt8} {i : Nat} {c : UInt8} {r : List UInt8} (h : L.drop i = c :: r) : plN L (i + 1) = stepP (plN L i) c := by
  rw [plN_add, h]; rfl
theorem RAt.blank {S : List Tok × Option (Nat × Nat × Nat)} {L : List UInt8} {ts : List Tok} {i : Nat} {c : UInt8} {r : List UInt8} (h : RAt S L ts i) (hd : L.drop i = c :: r) (hb : lblankB c = true) : RAt S L ts (i + 1) := by
  obtain ⟨h1, h2⟩ := h
  have e : L.drop (i + 1) = r := by rw [← List.drop_drop, hd]; rfl
  refine ⟨?_, by omega⟩
  rw [h1, hd, scanP_blank _ _ _ hb, plN_step hd, e]
theorem RAt.skip {S : List Tok × Option (Nat × Nat × Nat)} {L : List UInt8} {ts : List Tok} {i n : Nat} {t : List UInt8} {q : List (List UInt8)} (h : RAt S L ts i) (he : rdL (L.drop i) = .got 0 t q n) : RAt S L ts (i + n) := by
  obtain ⟨h1, h2⟩ := h
  refine ⟨?_, by omega⟩
  rw [h1, scanP_got he, if_pos rfl, List.drop_drop, plN_add]
theorem RAt.more {S : List Tok × Option (Nat × Nat × Nat)} {L : List UInt8} {ts : List Tok} {i k n : Nat} {t : List UInt8} {q : List (List UInt8)} (h : RAt S L ts i) (hk : k ≠ 0) (he : rdL (L.drop i) = .got k t q n) : RAt S L (ts ++ [⟨k, t, q, (plN L i).1, (plN L i).2⟩]) (i + n) := by
  obtain ⟨h1, h2⟩ := h
  have hn := rdL_le he
  refine ⟨?_, by rw [List.length_append]; simp; omega⟩
  rw [h1, scanP_got he, if_neg hk, List.drop_drop, plN_add, List.append_assoc]
  rfl
theorem RAt.bad {S : List Tok × Option (Nat × Nat × Nat)} {L : List UInt8} {ts : List Tok} {i e : Nat} (h : RAt S L ts i) (hi : i < L.length) (he : rdL (L.drop i) = .bad e) : S.2 = some ((plN L i).1, (plN L i).2, e) := by
  rw [h.1, scanP_bad (by intro g; have := congrArg List.length g; rw [List.length_drop] at this; simp at this; omega) he]
theorem RAt.done {S : List Tok × Option (Nat × Nat × Nat)} {L : List UInt8} {ts : List Tok} {i : Nat} (h : RAt S L ts i) (hi : L.length ≤ i) : S = (ts, none) := by
  rw [h.1, List.drop_eq_nil_of_le hi, scanP_nil, List.append_nil]
theorem RAt.start {L : List UInt8} {S : List Tok × Option (Nat × Nat × Nat)} (hS : scanP (1, 1) L = S) : RAt S L [] 0 := by
  refine ⟨?_, Nat.le_refl _⟩
  rw [← hS]
  unfold plN
  simp [placeL]
theorem cutR_kind {k : Nat} (hk : k ≠ 0) {l : List UInt8} {n x : Nat} {t : List UInt8} {q : List (List UInt8)} {m : Nat} (h : cutR k l n = .got x t q m) : x ≠ 0 := by
  unfold cutR at h; cases h; exact hk
/-- Where no blank and no comment stands a token is read. -/
theorem oneR_kind {c : UInt8} {l : List UInt8} {k n : Nat} {t : List UInt8} {q : List (List UInt8)} (h : oneR c l = .got k t q n) : k ≠ 0 := by
  unfold oneR at h
  split at h
  · unfold strR at h
    split at h
    · cases h
    · split at h <;> cases h; decide
  split at h
  · unfold chrR at h
    split at h
    · cases h
    · split at h <;> cases h; decide
  split at h
  · have : (measN l).1 ≠ 0 := by
      unfold measN meas2
      repeat' split
      all_goals simp
    unfold numR at h
    split at h
    · cases h
    · split at h <;> cases h; exact this
  split at h
  · exact cutR_kind (by decide) h
  split at h
  · exact cutR_kind (by decide) h
  split at h
  · exact cutR_kind (by decide) h
  split at h
  · unfold wordR at h
    split at h
    · exact cutR_kind (by decide) h
    · have := (longF_le _ _ _ _ _ _ _ _ h).1; omega
  · cases h
end Go.Proofs.YtgcbkjfckmjgeaaGreatDoor
