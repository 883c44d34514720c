/- From places in a text to the list of bytes from there on. No program is named here. -/
import Derived.WalkKit
import Derived.ProofKit
import Derived.Test.YtgcbkjfckmjgeaaGreatDoorLexX
namespace Go.Proofs.YtgcbkjfckmjgeaaGreatDoor

theorem atN_drop (s : ByteArray) (i : Nat) : atN s i = match s.data.toList.drop i with
    | [] => 0
    | c :: _ => c.toNat := by
  unfold atN
  by_cases h : i < s.size
  · rw [dif_pos h, drop_at s i h]
  · rw [dif_neg h, drop_end s i h]
theorem atN_beg {s : ByteArray} {i : Nat} {x : UInt8} (hx : x.toNat ≠ 0) : atN s i = x.toNat ↔ begP (fun c => decide (c = x)) (s.data.toList.drop i) = true := by
  rw [atN_drop]
  cases s.data.toList.drop i with
  | nil => simp [begP]; omega
  | cons c r =>
    simp only [begP, decide_eq_true_eq]
    exact ⟨fun h => UInt8.toNat_inj.1 h, fun h => by rw [h]⟩
theorem runN_P (s : ByteArray) (i : Nat) : runN 1 s i = runP wordB (s.data.toList.drop i) ∧ runN 2 s i = runP signB (s.data.toList.drop i) ∧ runN 3 s i = runP digitB (s.data.toList.drop i) ∧ runN 4 s i = runP hexB (s.data.toList.drop i) := ⟨rfl, rfl, rfl, rfl⟩
theorem pre1 (x : UInt8) (l : List UInt8) : ([x] : List UInt8).isPrefixOf l = begP (fun c => decide (c = x)) l := by
  cases l with
  | nil => rfl
  | cons c r =>
    simp only [List.isPrefixOf, begP, Bool.and_true]
    by_cases h : c = x
    · subst h; simp
    · simp [h, Ne.symm h]
theorem pre2 (x y : UInt8) (l : List UInt8) : ([x, y] : List UInt8).isPrefixOf l = (begP (fun c => decide (c = x)) l && begP (fun c => decide (c = y)) (l.drop 1)) := by
  cases l with
  | nil => rfl
  | cons c r =>
    have h1 : ([x, y] : List UInt8).isPrefixOf (c :: r) = (x == c && ([y] : List UInt8).isPrefixOf r) := rfl
    rw [h1, pre1]
    show _ = (decide (c = x) && _)
    congr 1
    by_cases h : c = x
    · subst h; simp
    · simp [h, Ne.symm h]
theorem beg_run_pos (P : UInt8 → Bool) (l : List UInt8) : begP P l = decide (0 < runP P l) := by
  cases h : begP P l
  · rw [runP_zero h]; rfl
  · have := runP_pos h
    rw [decide_eq_true]; omega
theorem preN_1 (x : UInt8) (P : UInt8 → Bool) (l : List UInt8) : preN [x] P l = if begP (fun c => decide (c = x)) l = true ∧ 0 < runP P (l.drop 1) then 1 + runP P (l.drop 1) else 0 := by
  unfold preN
  rw [pre1, show ([x] : List UInt8).length = 1 from rfl, beg_run_pos P]
  generalize begP (fun c => decide (c = x)) l = A
  generalize runP P (l.drop 1) = R
  simp only [Bool.and_eq_true, decide_eq_true_eq]
theorem preN_2 (x y : UInt8) (P : UInt8 → Bool) (l : List UInt8) : preN [x, y] P l = if begP (fun c => decide (c = x)) l = true ∧ begP (fun c => decide (c = y)) (l.drop 1) = true ∧ 0 < runP P (l.drop 2) then 2 + runP P (l.drop 2) else 0 := by
  unfold preN
  rw [pre2, show ([x, y] : List UInt8).length = 2 from rfl, beg_run_pos P]
  generalize begP (fun c => decide (c = x)) l = A
  generalize begP (fun c => decide (c = y)) (l.drop 1) = B
  generalize runP P (l.drop 2) = R
  simp only [Bool.and_eq_true, decide_eq_true_eq, and_assoc]
theorem beg_other {x y : UInt8} {l : List UInt8} (hxy : x ≠ y) (h : begP (fun c => decide (c = x)) l = true) : begP (fun c => decide (c = y)) l = false := by
  cases l with
  | nil => cases h
  | cons c r =>
    have : c = x := by simpa [begP] using h
    subst this
    simp [begP, hxy]
/-- The exponent: by the byte ahead, and the byte behind it. -/
theorem expN_eq (l : List UInt8) : expN l = if begP (fun c => decide (c = 69)) l = true ∨ begP (fun c => decide (c = 101)) l = true then
      (if begP (fun c => decide (c = 126)) (l.drop 1) = true then (if 0 < runP digitB (l.drop 2) then 2 + runP digitB (l.drop 2) else 0) else (if 0 < runP digitB (l.drop 1) then 1 + runP digitB (l.drop 1) else 0))
    else 0 := by
  have tild : begP (fun c => decide (c = 126)) (l.drop 1) = true → runP digitB (l.drop 1) = 0 := by
    intro h
    apply runP_zero
    cases e : l.drop 1 with
    | nil => rfl
    | cons c r =>
      rw [e] at h
      have : c = 126 := by simpa [begP] using h
      subst this; rfl
  have oth : begP (fun c => decide (c = 69)) l = true → begP (fun c => decide (c = 101)) l = false := fun h => beg_other (by decide) h
  unfold expN
  simp only [preN_1, preN_2]
  revert tild oth
  generalize begP (fun c => decide (c = 69)) l = A
  generalize begP (fun c => decide (c = 101)) l = B
  generalize begP (fun c => decide (c = 126)) (l.drop 1) = T
  generalize runP digitB (l.drop 1) = R1
  generalize runP digitB (l.drop 2) = R2
  intro tild oth
  cases A <;> cases B <;> cases T
  all_goals first | (exact absurd (oth rfl) (by decide)) | skip
  all_goals (by_cases h1 : 0 < R1 <;> by_cases h2 : 0 < R2 <;> simp_all)
theorem numTail_eq (s : ByteArray) (p n : Nat) (real : Bool) : numTail s p n real = (n + expN (s.data.toList.drop (p + n)), real || decide (0 < expN (s.data.toList.drop (p + n)))) := by
  unfold numTail
  rw [expN_eq, List.drop_drop, List.drop_drop]
  have e1 : (atN s (p + n) = 69 ∨ atN s (p + n) = 101) ↔ (begP (fun c => decide (c = 69)) (s.data.toList.drop (p + n)) = true ∨ begP (fun c => decide (c = 101)) (s.data.toList.drop (p + n)) = true) := by
    rw [← atN_beg (s := s) (i := p + n) (x := 69) (by decide), ← atN_beg (s := s) (i := p + n) (x := 101) (by decide)]; exact Iff.rfl
  have e2 : atN s (p + (n + 1)) = 126 ↔ begP (fun c => decide (c = 126)) (s.data.toList.drop (p + n + 1)) = true := by
    rw [← atN_beg (s := s) (i := p + n + 1) (x := 126) (by decide)]; exact Iff.rfl
  by_cases h1 : begP (fun c => decide (c = 69)) (s.data.toList.drop (p + n)) = true ∨ begP (fun c => decide (c = 101)) (s.data.toList.drop (p + n)) = true
  · rw [if_pos (e1.2 h1), if_pos h1]
    by_cases h2 : begP (fun c => decide (c = 126)) (s.data.toList.drop (p + n + 1)) = true
    · rw [if_pos h2]
      simp only [if_pos (e2.2 h2)]
      have er : runN 3 s (p + (n + 2)) = runP digitB (s.data.toList.drop (p + n + 2)) := rfl
      rw [er]
      by_cases h3 : 0 < runP digitB (s.data.toList.drop (p + n + 2))
      · rw [if_pos h3, if_pos h3, decide_eq_true (by omega), Bool.or_true]; congr 1; omega
      · rw [if_neg h3, if_neg h3]; simp
    · rw [if_neg h2]
      simp only [if_neg (fun g => h2 (e2.1 g))]
      have er : runN 3 s (p + (n + 1)) = runP digitB (s.data.toList.drop (p + n + 1)) := rfl
      rw [er]
      by_cases h3 : 0 < runP digitB (s.data.toList.drop (p + n + 1))
      · rw [if_pos h3, if_pos h3, decide_eq_true (by omega), Bool.or_true]; congr 1; omega
      · rw [if_neg h3, if_neg h3]; simp
  · rw [if_neg (fun g => h1 (e1.1 g)), if_neg h1]; simp
theorem numMid_eq (s : ByteArray) (p n : Nat) : numMid s p n = (n + partN (s.data.toList.drop (p + n)), decide (0 < partN (s.data.toList.drop (p + n)))) := by
  unfold numMid partN
  rw [preN_1, List.drop_drop, List.drop_drop]
  have e1 : atN s (p + n) = 46 ↔ begP (fun c => decide (c = 46)) (s.data.toList.drop (p + n)) = true := by
    rw [← atN_beg (s := s) (i := p + n) (x := 46) (by decide)]; exact Iff.rfl
  have er : runN 3 s (p + (n + 1)) = runP digitB (s.data.toList.drop (p + n + 1)) := rfl
  rw [er]
  by_cases h : begP (fun c => decide (c = 46)) (s.data.toList.drop (p + n)) = true ∧ 0 < runP digitB (s.data.toList.drop (p + n + 1))
  · rw [if_pos ⟨e1.2 h.1, h.2⟩, if_pos h, numTail_eq]
    have e : p + (n + 1 + runP digitB (s.data.toList.drop (p + n + 1))) = p + n + (1 + runP digitB (s.data.toList.drop (p + n + 1))) := by omega
    rw [e]
    have h0 : 0 < 1 + runP digitB (s.data.toList.drop (p + n + 1)) + expN (s.data.toList.drop (p + n + (1 + runP digitB (s.data.toList.drop (p + n + 1))))) := by omega
    rw [decide_eq_true h0, Bool.true_or]
    congr 1; omega
  · rw [if_neg (fun g => h ⟨e1.1 g.1, g.2⟩), if_neg h, numTail_eq, Nat.add_zero]
    simp
theorem tilde_beg (l : List UInt8) : tildeN l = if begP (fun c => decide (c = 126)) l = true then 1 else 0 := by unfold tildeN; rw [pre1]
/-- The document's number and the program's. -/
theorem numN_eq (s : ByteArray) (p : Nat) : measN (s.data.toList.drop p) = (if (numN s p).2 then 5 else 4, (numN s p).1) := by
  have e0 : atN s p = 126 ↔ begP (fun c => decide (c = 126)) (s.data.toList.drop p) = true := by
    rw [← atN_beg (s := s) (i := p) (x := 126) (by decide)]; exact Iff.rfl
  obtain ⟨n, hn⟩ : ∃ n, tildeN (s.data.toList.drop p) = n := ⟨_, rfl⟩
  have hn2 : (if atN s p = 126 then 1 else 0) = n := by
    rw [← hn, tilde_beg]
    by_cases h : begP (fun c => decide (c = 126)) (s.data.toList.drop p) = true
    · rw [if_pos h, if_pos (e0.2 h)]
    · rw [if_neg h, if_neg (fun g => h (e0.1 g))]
  have e1 : atN s (p + n) = 48 ↔ begP (fun c => decide (c = 48)) (s.data.toList.drop (p + n)) = true := by
    rw [← atN_beg (s := s) (i := p + n) (x := 48) (by decide)]; exact Iff.rfl
  have e2 : atN s (p + (n + 1)) = 120 ↔ begP (fun c => decide (c = 120)) (s.data.toList.drop (p + n + 1)) = true := by
    rw [← atN_beg (s := s) (i := p + n + 1) (x := 120) (by decide)]; exact Iff.rfl
  have er : runN 4 s (p + (n + 2)) = runP hexB (s.data.toList.drop (p + n + 2)) := rfl
  have er3 : runN 3 s (p + n) = runP digitB (s.data.toList.drop (p + n)) := rfl
  have hN : numN s p = if atN s (p + n) = 48 ∧ atN s (p + (n + 1)) = 120 ∧ 0 < runN 4 s (p + (n + 2)) then (n + 2 + runN 4 s (p + (n + 2)), false) else numMid s p (n + runN 3 s (p + n)) := by
    unfold numN
    simp only [hn2]
  unfold measN
  rw [hn, List.drop_drop, preN_2, List.drop_drop, List.drop_drop]
  rw [er, er3] at hN
  by_cases h : begP (fun c => decide (c = 48)) (s.data.toList.drop (p + n)) = true ∧ begP (fun c => decide (c = 120)) (s.data.toList.drop (p + n + 1)) = true ∧ 0 < runP hexB (s.data.toList.drop (p + n + 2))
  · rw [if_pos ⟨e1.2 h.1, e2.2 h.2.1, h.2.2⟩] at hN
    rw [if_pos h, if_pos (by omega), hN]
    show (4, _) = (4, _)
    congr 1; omega
  · rw [if_neg (fun g => h ⟨e1.1 g.1, e2.1 g.2.1, g.2.2⟩), numMid_eq] at hN
    rw [if_neg h, if_neg (by decide), hN]
    unfold meas2
    rw [List.drop_drop]
    by_cases h3 : 0 < partN (s.data.toList.drop (p + (n + runP digitB (s.data.toList.drop (p + n)))))
    · rw [if_pos h3, decide_eq_true h3]; rfl
    · rw [if_neg h3, decide_eq_false h3]
      show (4, _) = (4, _)
      congr 1; omega
/-- The document's comment and the program's. -/
theorem comF_eq (s : ByteArray) : ∀ (f g i p : Nat) (o : Int), s.size < i + f → s.size ≤ i + g → p ≤ i → 0 ≤ o → (0 < o ∨ atN s i = 40 ∧ atN s (i + 1) = 42 ∨ ¬ i + 1 < s.size) → comF s f i o = (if comG g (i - p) o (s.data.toList.drop i) = 0 then none else some (p + comG g (i - p) o (s.data.toList.drop i))) := by
  intro f
  induction f with
  | zero => intro g i p o h1 h2 hp h3 h4; unfold comF; rw [drop_end s i (by omega)]; cases g <;> rfl
  | succ f ih =>
    intro g i p o h1 h2 hp h3 h4
    simp only [comF]
    by_cases c0 : i + 1 < s.size
    · rw [if_pos c0]
      obtain ⟨g, rfl⟩ : ∃ k, g = k + 1 := ⟨g - 1, by omega⟩
      have d1 := drop_at s i (by omega)
      have d2 := drop_at s (i + 1) c0
      have a1 : atN s i = (s[i]'(by omega)).toNat := by unfold atN; rw [dif_pos (by omega)]
      have a2 : atN s (i + 1) = (s[i + 1]'c0).toNat := by unfold atN; rw [dif_pos c0]
      rw [d1, d2]
      rw [a1, a2] at h4
      rw [a1, a2]
      conv => rhs; unfold comG
      by_cases c1 : (s[i]'(by omega)).toNat = 40 ∧ (s[i + 1]'c0).toNat = 42
      · rw [if_pos c1, if_pos c1, if_neg (show ¬ o + 1 = 0 by omega)]
        have := ih g (i + 2) p (o + 1) (by omega) (by omega) (by omega) (by omega) (.inl (by omega))
        rw [show i + 2 - p = i - p + 2 by omega] at this
        exact this
      · rw [if_neg c1, if_neg c1]
        have ho : 0 < o := by
          rcases h4 with h | h | h
          · exact h
          · exact absurd h c1
          · exact absurd c0 h
        by_cases c2 : (s[i]'(by omega)).toNat = 42 ∧ (s[i + 1]'c0).toNat = 41
        · rw [if_pos c2, if_pos c2]
          by_cases c3 : o - 1 = 0
          · rw [if_pos c3, if_pos c3, if_neg (by omega)]; congr 1; omega
          · rw [if_neg c3, if_neg c3]
            have := ih g (i + 2) p (o - 1) (by omega) (by omega) (by omega) (by omega) (.inl (by omega))
            rw [show i + 2 - p = i - p + 2 by omega] at this
            exact this
        · rw [if_neg c2, if_neg c2]
          have := ih g (i + 1) p o (by omega) (by omega) (by omega) h3 (.inl ho)
          rw [show i + 1 - p = i - p + 1 by omega, d2] at this
          exact this
    · rw [if_neg c0]
      have hl : (s.data.toList.drop i).length ≤ 1 := by rw [List.length_drop]; simp; omega
      match s.data.toList.drop i, hl with
      | [], _ => cases g <;> rfl
      | [_], _ => cases g <;> rfl
theorem comN_eq (s : ByteArray) (p : Nat) (h1 : atN s p = 40) (h2 : atN s (p + 1) = 42) : comN s p = (if comL (s.data.toList.drop p) = 0 then none else some (p + comL (s.data.toList.drop p))) := by
  have := comF_eq s (s.size + 1) (s.data.toList.drop p).length p p 0 (by omega) (by rw [List.length_drop]; simp; omega) (Nat.le_refl _) (Int.le_refl _) (.inr (.inl ⟨h1, h2⟩))
  rw [Nat.sub_self] at this
  exact this
end Go.Proofs.YtgcbkjfckmjgeaaGreatDoor
/- What a text begins with where no blank and no comment stands, in the document's order. No program is named here. -/
namespace Go.Proofs.YtgcbkjfckmjgeaaGreatDoor

def soloL : List UInt8 := [40, 41, 91, 93, 123, 125, 44, 59, 95]
def oneR (c : UInt8) (l : List UInt8) : Rd :=
  if c = 34 then strR l
  else if c = 35 ∧ begP (fun c => decide (c = 34)) (l.drop 1) = true then chrR l
  else if digitB c = true ∨ c = 126 ∧ begP digitB (l.drop 1) = true then numR l
  else if c = 39 then cutR 3 l (runP wordB l)
  else if c = 46 ∧ begP (fun c => decide (c = 46)) (l.drop 1) = true ∧ begP (fun c => decide (c = 46)) (l.drop 2) = true then cutR 1 l 3
  else if soloL.contains c = true then cutR 1 l 1
  else if letterB c = true ∨ signB c = true then wordR l
  else .bad 40
theorem kinds_let : ∀ n : Fin 256, letterB (UInt8.ofFin n) = true → UInt8.ofFin n ≠ 34 ∧ UInt8.ofFin n ≠ 35 ∧ digitB (UInt8.ofFin n) = false ∧ UInt8.ofFin n ≠ 126 ∧ UInt8.ofFin n ≠ 39 ∧ UInt8.ofFin n ≠ 46 ∧ soloL.contains (UInt8.ofFin n) = false := by decide +kernel
theorem kinds_dig : ∀ n : Fin 256, digitB (UInt8.ofFin n) = true → UInt8.ofFin n ≠ 34 ∧ UInt8.ofFin n ≠ 35 := by decide +kernel
theorem kinds_sig : ∀ n : Fin 256, signB (UInt8.ofFin n) = true → UInt8.ofFin n ≠ 34 ∧ digitB (UInt8.ofFin n) = false ∧ letterB (UInt8.ofFin n) = false ∧ UInt8.ofFin n ≠ 39 ∧ UInt8.ofFin n ≠ 46 ∧ soloL.contains (UInt8.ofFin n) = false := by decide +kernel
theorem kinds_rest : ∀ n : Fin 256, letterB (UInt8.ofFin n) = false → digitB (UInt8.ofFin n) = false → signB (UInt8.ofFin n) = false → UInt8.ofFin n ≠ 35 ∧ UInt8.ofFin n ≠ 126 ∧ (soloL.contains (UInt8.ofFin n) = (decide (UInt8.ofFin n = 40) || aloneB (UInt8.ofFin n))) := by decide +kernel
theorem wordR_sign {l : List UInt8} (h : begP letterB l = false) : wordR l = if resL (l.take (runP signB l)) then cutR 1 l (runP signB l) else cutR 2 l (runP signB l) := by
  have hn : nameN l = runP signB l := by unfold nameN; rw [if_neg (by rw [h]; simp)]
  unfold wordR
  rw [hn]
  by_cases hr : resL (l.take (runP signB l)) = true
  · rw [if_pos hr, if_pos hr]
  · rw [if_neg hr, if_neg hr]
    unfold longF
    rw [if_neg (by rw [h]; simp), hn, Nat.zero_add]; rfl
theorem dots3 (x : UInt8) (l : List UInt8) : ([x, x, x] : List UInt8).isPrefixOf l = (begP (fun c => decide (c = x)) l && (begP (fun c => decide (c = x)) (l.drop 1) && begP (fun c => decide (c = x)) (l.drop 2))) := by
  cases l with
  | nil => rfl
  | cons c r =>
    have h1 : ([x, x, x] : List UInt8).isPrefixOf (c :: r) = (x == c && ([x, x] : List UInt8).isPrefixOf r) := rfl
    rw [h1, pre2]
    show _ = (decide (c = x) && _)
    congr 1
    by_cases h : c = x
    · subst h; simp
    · simp [h, Ne.symm h]
theorem rd_one {c : UInt8} {r : List UInt8} (hb : lblankB c = false) (hc : ¬ (c = 40 ∧ begP (fun c => decide (c = 42)) r = true)) : rdL (c :: r) = oneR c (c :: r) := by
  have kl : letterB c = true → _ := kinds_let c.toFin
  have kd : digitB c = true → _ := kinds_dig c.toFin
  have ks : signB c = true → _ := kinds_sig c.toFin
  have kr : letterB c = false → _ := kinds_rest c.toFin
  replace kl : letterB c = true → c ≠ 34 ∧ c ≠ 35 ∧ digitB c = false ∧ c ≠ 126 ∧ c ≠ 39 ∧ c ≠ 46 ∧ soloL.contains c = false := kl
  replace kd : digitB c = true → c ≠ 34 ∧ c ≠ 35 := kd
  replace ks : signB c = true → c ≠ 34 ∧ digitB c = false ∧ letterB c = false ∧ c ≠ 39 ∧ c ≠ 46 ∧ soloL.contains c = false := ks
  replace kr : letterB c = false → digitB c = false → signB c = false → c ≠ 35 ∧ c ≠ 126 ∧ (soloL.contains c = (decide (c = 40) || aloneB c)) := kr
  unfold rdL oneR
  have b1 : ∀ P : UInt8 → Bool, begP P (c :: r) = P c := fun _ => rfl
  rw [b1, b1, b1, b1, b1, b1, b1, b1, b1, if_neg (by rw [hb]; simp)]
  by_cases h1 : letterB c = true
  · obtain ⟨a1, a2, a3, a4, a5, a6, a7⟩ := kl h1
    rw [if_pos h1, if_neg a1, if_neg (fun x => a2 x.1), if_neg (fun x => by rcases x with x | x; (rw [a3] at x; cases x); exact a4 x.1), if_neg a5, if_neg (fun x => a6 x.1), if_neg (by rw [a7]; simp), if_pos (.inl h1)]
  rw [if_neg h1]
  have h1' : letterB c = false := by simpa using h1
  by_cases h2 : digitB c = true
  · obtain ⟨a1, a2⟩ := kd h2
    rw [if_pos h2, if_neg a1, if_neg (fun x => a2 x.1), if_pos (.inl h2)]
  rw [if_neg h2]
  have h2' : digitB c = false := by simpa using h2
  by_cases h3 : signB c = true
  · obtain ⟨a1, _, _, a5, a6, a7⟩ := ks h3
    have hd : (c :: r).head? = some c := rfl
    rw [if_pos h3, if_neg a1]
    unfold sigR
    rw [hd]
    by_cases e1 : c = 126 ∧ begP digitB (List.drop 1 (c :: r)) = true
    · rw [if_pos ⟨by rw [e1.1], e1.2⟩, if_neg (fun x => by rw [e1.1] at x; exact absurd x.1 (by decide)), if_pos (.inr e1)]
    rw [if_neg (fun x => e1 ⟨by simpa using x.1, x.2⟩)]
    by_cases e2 : c = 35 ∧ begP (fun c => decide (c = 34)) (List.drop 1 (c :: r)) = true
    · rw [if_pos ⟨by rw [e2.1], e2.2⟩, if_pos e2]
    rw [if_neg (fun x => e2 ⟨by simpa using x.1, x.2⟩), ← wordR_sign (l := c :: r) (by rw [b1]; exact h1'), if_neg e2, if_neg (fun x => by rcases x with x | x; exact h2 x; exact e1 x), if_neg a5, if_neg (fun x => a6 x.1), if_neg (by rw [a7]; simp), if_pos (.inr h3)]
  rw [if_neg h3]
  have h3' : signB c = false := by simpa using h3
  obtain ⟨a1, a2, a3⟩ := kr h1' h2' h3'
  have a9 : ¬ (letterB c = true ∨ signB c = true) := fun x => by rcases x with x | x; exact h1 x; exact h3 x
  have q1 : ¬ (c = 35 ∧ begP (fun c => decide (c = 34)) (List.drop 1 (c :: r)) = true) := fun x => a1 x.1
  have q2 : ¬ (digitB c = true ∨ c = 126 ∧ begP digitB (List.drop 1 (c :: r)) = true) := fun x => by rcases x with x | x; exact h2 x; exact a2 x.1
  by_cases h4 : c = 40
  · subst h4
    show parR (40 :: r) = cutR 1 (40 :: r) 1
    unfold parR
    rw [pre2, if_neg]
    intro x
    rw [Bool.and_eq_true] at x
    exact hc ⟨rfl, x.2⟩
  have n40 : ¬ decide (c = 40) = true := by simpa using h4
  rw [if_neg n40, if_neg q1, if_neg q2, a3, decide_eq_false h4, Bool.false_or]
  by_cases h6 : c = 46
  · subst h6
    show poiR (46 :: r) = if ((46 : UInt8) = 46 ∧ begP (fun c => decide (c = 46)) (List.drop 1 (46 :: r)) = true ∧ begP (fun c => decide (c = 46)) (List.drop 2 (46 :: r)) = true) then cutR 1 (46 :: r) 3 else .bad 40
    unfold poiR
    rw [dots3]
    show (if (decide ((46 : UInt8) = 46) && _) = true then _ else _) = _
    rw [decide_eq_true (show (46 : UInt8) = 46 from rfl), Bool.true_and]
    by_cases h7 : begP (fun c => decide (c = 46)) (List.drop 1 (46 :: r)) = true ∧ begP (fun c => decide (c = 46)) (List.drop 2 (46 :: r)) = true
    · rw [if_pos (by rw [Bool.and_eq_true]; exact h7), if_pos ⟨rfl, h7⟩]
    · rw [if_neg (by rw [Bool.and_eq_true]; exact h7), if_neg (fun x => h7 x.2)]
  have n46 : ¬ decide (c = 46) = true := by simpa using h6
  have q6 : ¬ (c = 46 ∧ begP (fun c => decide (c = 46)) (List.drop 1 (c :: r)) = true ∧ begP (fun c => decide (c = 46)) (List.drop 2 (c :: r)) = true) := fun x => h6 x.1
  rw [if_neg n46, if_neg q6]
  by_cases h5 : aloneB c = true
  · have a5 : c ≠ 34 ∧ c ≠ 39 := by
      have : ∀ n : Fin 256, aloneB (UInt8.ofFin n) = true → UInt8.ofFin n ≠ 34 ∧ UInt8.ofFin n ≠ 39 := by decide +kernel
      exact this c.toFin h5
    rw [if_pos h5, if_pos h5, if_neg a5.1, if_neg a5.2]
  rw [if_neg h5, if_neg h5, if_neg a9]
  by_cases h7 : c = 39
  · subst h7; rfl
  have n39 : ¬ decide (c = 39) = true := by simpa using h7
  rw [if_neg n39, if_neg h7]
  by_cases h8 : c = 34
  · subst h8; rfl
  have n34 : ¬ decide (c = 34) = true := by simpa using h8
  rw [if_neg n34, if_neg h8]
end Go.Proofs.YtgcbkjfckmjgeaaGreatDoor
