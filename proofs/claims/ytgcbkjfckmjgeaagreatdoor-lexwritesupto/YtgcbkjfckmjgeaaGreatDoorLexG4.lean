/- How the document writes a token, and that it is what the program writes. No program is named here. -/
import Derived.WalkKit
import Derived.ProofKit
import Derived.Test.YtgcbkjfckmjgeaaGreatDoorLexE5
namespace Go.Proofs.YtgcbkjfckmjgeaaGreatDoor

def rspellI (k : Int) (t : List UInt8) (p : List (List UInt8)) : List UInt8 := pathL p ++ (if k = 6 then 34 :: quotL t ++ [34] else if k = 7 then 35 :: 34 :: quotL t ++ [34] else t)
def rokW (k : Int) (t : List UInt8) (p : List (List UInt8)) : Bool := !decide (1048576 < sumN p) && ((scanL (rspellI k t p)).2.2.2 == 0 && oneTok k t p (scanL (rspellI k t p)).1)
theorem quotL_ge (l : List UInt8) : l.length ≤ (quotL l).length := by
  induction l with
  | nil => simp [quotL]
  | cons c r ih =>
    have e : quotL (c :: r) = quot1 c ++ quotL r := by simp [quotL]
    have h1 : 1 ≤ (quot1 c).length := by
      unfold quot1
      repeat' split
      all_goals simp
    rw [e, List.length_append, List.length_cons]
    omega
theorem rdL_path {l : List UInt8} {k n : Nat} {t : List UInt8} {q : List (List UInt8)} (h : rdL l = .got k t q n) (hk : k ≠ 2) : q = [] := by
  have N : ∀ l, numR l = .got k t q n → q = [] := by
    intro l h
    unfold numR at h
    split at h
    · cases h
    · split at h <;> cases h; rfl
  unfold rdL at h
  split at h
  · cases h; rfl
  split at h
  · unfold wordR at h
    split at h
    · cases h; rfl
    · have := (longF_le _ _ _ _ _ _ _ _ h).1; omega
  split at h
  · exact N _ h
  split at h
  · unfold sigR at h
    split at h
    · exact N _ h
    split at h
    · unfold chrR at h
      split at h
      · cases h
      · split at h <;> cases h; rfl
    split at h
    · cases h; rfl
    · cases h; rfl
  split at h
  · unfold parR at h
    split at h
    · split at h
      · cases h
      · cases h; rfl
    · cases h; rfl
  split at h
  · cases h; rfl
  split at h
  · unfold poiR at h
    split at h
    · cases h; rfl
    · cases h
  split at h
  · cases h; rfl
  split at h
  · unfold strR at h
    split at h
    · cases h
    · split at h <;> cases h; rfl
  · cases h
theorem scanF_path : ∀ (f : Nat) (p : Nat × Nat) (l : List UInt8) (t : Tok), t ∈ (scanF f p l).1 → t.kind ≠ 2 → t.path = [] := by
  intro f
  induction f with
  | zero => intro p l t h; cases h
  | succ f ih =>
    intro p l t h hk
    cases l with
    | nil => cases h
    | cons c r =>
      unfold scanF at h
      cases e : rdL (c :: r) with
      | bad e' => rw [e] at h; cases h
      | got k u q n =>
        rw [e] at h
        simp only at h
        by_cases hk0 : k = 0
        · rw [if_pos hk0] at h
          exact ih _ _ _ h hk
        · rw [if_neg hk0] at h
          rcases List.mem_cons.1 h with g | g
          · subst g
            exact rdL_path e hk
          · exact ih _ _ _ g hk
theorem scanL_path (l : List UInt8) (t : Tok) (h : t ∈ (scanL l).1) (hk : t.kind ≠ 2) : t.path = [] := by
  unfold scanL at h
  by_cases hl : 1048576 < l.length
  · rw [if_pos hl] at h; cases h
  · rw [if_neg hl] at h
    cases e : (scanP (1, 1) l).2 with
    | none => rw [e] at h; exact scanF_path _ _ _ _ h hk
    | some r => obtain ⟨x, y, z⟩ := r; rw [e] at h; cases h
theorem oneTok_path {k : Int} {t : List UInt8} {p : List (List UInt8)} {l : List UInt8} (hk : k = 6 ∨ k = 7) (hp : p ≠ []) : oneTok k t p (scanL l).1 = false := by
  cases h : oneTok k t p (scanL l).1 with
  | false => rfl
  | true =>
    exfalso
    match e : (scanL l).1 with
    | [a] =>
      rw [e] at h
      have h2 : (a.kind : Int) = k ∧ a.path = p := by
        simp only [oneTok, Bool.and_eq_true, beq_iff_eq] at h
        exact ⟨h.1.1, h.2⟩
      have := scanL_path l a (by rw [e]; simp) (by omega)
      exact hp (by rw [← h2.2, this])
    | [] => rw [e] at h; cases h
    | _ :: _ :: _ => rw [e] at h; cases h
theorem scanL_long {l : List UInt8} (h : 1048576 < l.length) : ((scanL l).2.2.2 == 0) = false := by
  unfold scanL; rw [if_pos h]; rfl
theorem rok_eq (k : Int) (t : List UInt8) (p : List (List UInt8)) : rokW k t p = okW k t p ∧ (okW k t p = true → rspellI k t p = spellI k t p) := by
  unfold rokW okW tooB
  by_cases hk : k = 6 ∨ k = 7
  · by_cases hp : p = []
    · subst hp
      have e : rspellI k t [] = spellI k t [] := by
        unfold rspellI spellI
        rcases hk with rfl | rfl <;> rfl
      refine ⟨?_, fun _ => e⟩
      rw [e]
      have s0 : sumN [] = 0 := rfl
      rw [s0]
      by_cases hl : 1048576 < t.length + 0
      · have hl2 : 1048576 < (spellI k t []).length := by
          have := quotL_ge t
          unfold spellI
          rcases hk with rfl | rfl
          · rw [if_neg (by decide), if_pos rfl]; simp only [List.length_cons, List.length_append]; omega
          · rw [if_pos rfl]; simp only [List.length_cons, List.length_append]; omega
        rw [scanL_long hl2]; simp
      · rw [decide_eq_false hl]; simp
    · rw [oneTok_path hk hp, oneTok_path hk hp]
      simp
  · have e : rspellI k t p = spellI k t p := by
      unfold rspellI spellI
      rw [if_neg (fun x => hk (.inl x)), if_neg (fun x => hk (.inr x)), if_neg (fun x => hk (.inr x)), if_neg (fun x => hk (.inl x))]
    refine ⟨?_, fun _ => e⟩
    rw [e]
    by_cases hl : 1048576 < t.length + sumN p
    · have hl2 : 1048576 < (spellI k t p).length := by
        unfold spellI
        rw [if_neg (fun x => hk (.inr x)), if_neg (fun x => hk (.inl x)), List.length_append, pathL_len]
        omega
      rw [scanL_long hl2]; simp
    · rw [decide_eq_false hl, decide_eq_false (by omega)]
theorem rwrite_eq (k : Int) (t : List UInt8) (p : List (List UInt8)) : writeL k t p = if rokW k t p then (rspellI k t p, 0) else ([], 1) := by
  unfold writeL
  obtain ⟨h1, h2⟩ := rok_eq k t p
  rw [h1]
  by_cases h : okW k t p = true
  · rw [if_pos h, if_pos h, h2 h]
  · rw [if_neg h, if_neg h]
end Go.Proofs.YtgcbkjfckmjgeaaGreatDoor
