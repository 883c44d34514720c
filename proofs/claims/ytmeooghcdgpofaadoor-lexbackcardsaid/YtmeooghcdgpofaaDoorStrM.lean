/- Characters and constants as lists of bytes: how each byte is written, what each constant stands for, and that what is written is read as the same. No program is named here. -/
import Derived.WalkKit
import Derived.ProofKit
namespace Go.Proofs.YtmeooghcdgpofaaDoor

/-- Stands for itself in a constant. -/
def plainB (c : UInt8) : Bool := decide (32 ≤ c.toNat) && decide (c.toNat ≤ 126) && decide (c.toNat ≠ 34) && decide (c.toNat ≠ 92)
def blankB (c : UInt8) : Bool := decide (c.toNat = 9) || decide (c.toNat = 10) || decide (c.toNat = 12) || decide (c.toNat = 13) || decide (c.toNat = 32)
/-- The letter of a character from 7 to 13. -/
def letter (n : Nat) : Nat := if n = 7 then 97 else if n = 8 then 98 else if n = 9 then 116 else if n = 10 then 110 else if n = 11 then 118 else if n = 12 then 102 else 114
/-- A byte as a program would have it. -/
def shownL (c : UInt8) : List UInt8 :=
  if c.toNat = 34 ∨ c.toNat = 92 then [92, c]
  else if 7 ≤ c.toNat ∧ c.toNat ≤ 13 then [92, (letter c.toNat).toUInt8]
  else if c.toNat < 32 then [92, 94, (c.toNat + 64).toUInt8]
  else if 127 ≤ c.toNat then [92, (48 + c.toNat / 100).toUInt8, (48 + c.toNat / 10 % 10).toUInt8, (48 + c.toNat % 10).toUInt8]
  else [c]
def escL (l : List UInt8) : List UInt8 := l.flatMap shownL

/-- Of a digit; 99: it is none. -/
def worthN (c : UInt8) : Nat :=
  if 48 ≤ c.toNat ∧ c.toNat ≤ 57 then c.toNat - 48
  else if 97 ≤ c.toNat ∧ c.toNat ≤ 102 then c.toNat - 97 + 10
  else if 65 ≤ c.toNat ∧ c.toNat ≤ 70 then c.toNat - 65 + 10
  else 99
/-- The number of all digits of a list, behind v; none: one is no digit. -/
def foldN (base : Nat) : Nat → List UInt8 → Option Nat
  | v, [] => some v
  | v, c :: r => if worthN c < base then foldN base (v * base + worthN c) r else none
/-- The number of so many digits at a list's beginning, at most 255; below 0: there is none. -/
def numP (l : List UInt8) (n base : Nat) : Int :=
  if l.length < n then -1 else match foldN base 0 (l.take n) with
  | none => -1
  | some v => if 255 < v then -1 else v
/-- A gap's bytes, the second backslash too; 0: there is none. -/
def gapN (l : List UInt8) : Nat :=
  if (l.takeWhile blankB).length = 0 then 0 else if (l.drop (l.takeWhile blankB).length).head? = some 92 then (l.takeWhile blankB).length + 1 else 0
/-- Behind a backslash: the byte (below 0: nothing), and how many bytes that takes; 0: it can stand for nothing. -/
def escP : List UInt8 → Int × Nat
  | [] => (-1, 0)
  | c :: r =>
    if c.toNat = 97 then (7, 1) else if c.toNat = 98 then (8, 1) else if c.toNat = 116 then (9, 1) else if c.toNat = 110 then (10, 1)
    else if c.toNat = 118 then (11, 1) else if c.toNat = 102 then (12, 1) else if c.toNat = 114 then (13, 1)
    else if c.toNat = 34 ∨ c.toNat = 92 then ((c.toNat : Int), 1)
    else if c.toNat = 94 then (match r with
      | [] => (-1, 0)
      | d :: _ => if 64 ≤ d.toNat ∧ d.toNat ≤ 95 then ((d.toNat : Int) - 64, 2) else (-1, 0))
    else if c.toNat = 117 then (if numP r 4 16 < 0 then (-1, 0) else (numP r 4 16, 5))
    else if 48 ≤ c.toNat ∧ c.toNat ≤ 57 then (if numP (c :: r) 3 10 < 0 then (-1, 0) else (numP (c :: r) 3 10, 3))
    else if blankB c then (-1, gapN (c :: r))
    else (-1, 0)
/-- How many bytes the first of a constant has; 0: it can stand for nothing. -/
def stepN : List UInt8 → Nat
  | [] => 0
  | c :: r => if plainB c then 1 else if c.toNat = 92 then (if (escP r).2 = 0 then 0 else 1 + (escP r).2) else 0
/-- What it stands for. -/
def stepO : List UInt8 → List UInt8
  | [] => []
  | c :: r => if plainB c then [c] else if c.toNat = 92 then (if (escP r).2 = 0 then [] else if (escP r).1 < 0 then [] else [(escP r).1.toNat.toUInt8]) else []
/-- A constant's bytes from a place on: what they stand for behind what is there, and the place of the first fault. -/
def runL : Nat → Nat → List UInt8 → List UInt8 → List UInt8 × Option Nat
  | 0, _, acc, _ => (acc, none)
  | _ + 1, _, acc, [] => (acc, none)
  | n + 1, pos, acc, c :: r => if stepN (c :: r) = 0 then (acc, some pos) else runL n (pos + stepN (c :: r)) (acc ++ stepO (c :: r)) ((c :: r).drop (stepN (c :: r)))
def readL (l : List UInt8) : List UInt8 × Option Nat := runL l.length 0 [] l

theorem gapN_le (l : List UInt8) : gapN l ≤ l.length := by
  unfold gapN
  split
  · exact Nat.zero_le _
  · split
    · rename_i h
      have := congrArg Option.isSome h
      have hl : (l.drop (l.takeWhile blankB).length) ≠ [] := by intro e; rw [e] at h; cases h
      have : (l.takeWhile blankB).length < l.length := by
        rcases Nat.lt_or_ge (l.takeWhile blankB).length l.length with g | g
        · exact g
        · exact absurd (List.drop_eq_nil_of_le g) hl
      omega
    · exact Nat.zero_le _

theorem numP_len {l : List UInt8} {n base : Nat} (h : ¬ numP l n base < 0) : n ≤ l.length := by
  unfold numP at h
  split at h
  · exact absurd (by decide) h
  · omega

theorem escP_le (l : List UInt8) : (escP l).2 ≤ l.length := by
  cases l with
  | nil => exact Nat.le_refl _
  | cons c t =>
    unfold escP
    simp only [List.length_cons]
    by_cases h0 : c.toNat = 97
    · simp only [if_pos h0]; omega
    simp only [if_neg h0]
    by_cases h1 : c.toNat = 98
    · simp only [if_pos h1]; omega
    simp only [if_neg h1]
    by_cases h2 : c.toNat = 116
    · simp only [if_pos h2]; omega
    simp only [if_neg h2]
    by_cases h3 : c.toNat = 110
    · simp only [if_pos h3]; omega
    simp only [if_neg h3]
    by_cases h4 : c.toNat = 118
    · simp only [if_pos h4]; omega
    simp only [if_neg h4]
    by_cases h5 : c.toNat = 102
    · simp only [if_pos h5]; omega
    simp only [if_neg h5]
    by_cases h6 : c.toNat = 114
    · simp only [if_pos h6]; omega
    simp only [if_neg h6]
    by_cases h7 : c.toNat = 34 ∨ c.toNat = 92
    · simp only [if_pos h7]; omega
    simp only [if_neg h7]
    by_cases k1 : c.toNat = 94
    · simp only [if_pos k1]
      cases t with
      | nil => exact Nat.zero_le _
      | cons d u =>
        by_cases g : 64 ≤ d.toNat ∧ d.toNat ≤ 95
        · simp only [if_pos g, List.length_cons]; omega
        · simp only [if_neg g]; omega
    simp only [if_neg k1]
    by_cases k2 : c.toNat = 117
    · simp only [if_pos k2]
      by_cases g : numP t 4 16 < 0
      · rw [if_pos g]; exact Nat.zero_le _
      · rw [if_neg g]; have := numP_len g; show 5 ≤ _; omega
    simp only [if_neg k2]
    by_cases k3 : 48 ≤ c.toNat ∧ c.toNat ≤ 57
    · simp only [if_pos k3]
      by_cases g : numP (c :: t) 3 10 < 0
      · rw [if_pos g]; exact Nat.zero_le _
      · rw [if_neg g]; have := numP_len g; simpa using this
    simp only [if_neg k3]
    by_cases k4 : blankB c = true
    · simp only [if_pos k4]
      have := gapN_le (c :: t); simpa using this
    simp only [if_neg k4]; omega

theorem stepN_le (l : List UInt8) : stepN l ≤ l.length := by
  unfold stepN
  split
  · exact Nat.le_refl _
  · rename_i c r
    have := escP_le r
    simp only [List.length_cons]
    repeat' split
    all_goals omega

theorem stepO_len (l : List UInt8) : (stepO l).length ≤ 1 := by
  unfold stepO
  repeat' split
  all_goals simp

theorem stepO_le (l : List UInt8) : (stepO l).length ≤ stepN l := by
  unfold stepO stepN
  repeat' split
  all_goals first | omega | simp

theorem runL_fuel : ∀ (n m p : Nat) (acc l : List UInt8), l.length ≤ n → l.length ≤ m → runL n p acc l = runL m p acc l := by
  intro n
  induction n with
  | zero => intro m p acc l h h2; obtain rfl : l = [] := List.eq_nil_of_length_eq_zero (by omega); cases m <;> rfl
  | succ n ih =>
    intro m p acc l h h2
    cases l with
    | nil => cases m <;> rfl
    | cons c r =>
      cases m with
      | zero => simp at h2
      | succ m =>
        unfold runL
        split
        · rfl
        · have hd : ((c :: r).drop (stepN (c :: r))).length = r.length + 1 - stepN (c :: r) := by simp
          simp only [List.length_cons] at h h2
          exact ih m _ _ _ (by omega) (by omega)

/-- A step more. -/
theorem runL_step {n p : Nat} {acc l : List UInt8} (hn : l.length ≤ n) (h0 : stepN l ≠ 0) : runL n p acc l = runL (n - stepN l) (p + stepN l) (acc ++ stepO l) (l.drop (stepN l)) := by
  cases l with
  | nil => exact absurd rfl h0
  | cons c r =>
    cases n with
    | zero => simp at hn
    | succ n =>
      conv => lhs; unfold runL
      rw [if_neg h0]
      have hd : ((c :: r).drop (stepN (c :: r))).length = r.length + 1 - stepN (c :: r) := by simp
      simp only [List.length_cons] at hn
      exact runL_fuel _ _ _ _ _ (by omega) (by omega)

theorem runL_fault {n p : Nat} {acc l : List UInt8} (hn : l.length ≤ n) (hl : l ≠ []) (h0 : stepN l = 0) : runL n p acc l = (acc, some p) := by
  cases l with
  | nil => exact absurd rfl hl
  | cons c r =>
    cases n with
    | zero => simp at hn
    | succ n => unfold runL; rw [if_pos h0]

theorem runL_nil (n p : Nat) (acc : List UInt8) : runL n p acc [] = (acc, none) := by cases n <;> rfl

theorem runL_len : ∀ (n p : Nat) (acc l : List UInt8), (runL n p acc l).1.length ≤ acc.length + l.length := by
  intro n
  induction n with
  | zero => intro p acc l; show acc.length ≤ _; omega
  | succ n ih =>
    intro p acc l
    cases l with
    | nil => show acc.length ≤ _; omega
    | cons c r =>
      unfold runL
      split
      · show acc.length ≤ _; omega
      · have h1 := ih (p + stepN (c :: r)) (acc ++ stepO (c :: r)) ((c :: r).drop (stepN (c :: r)))
        have h2 := stepO_le (c :: r)
        have h3 := stepN_le (c :: r)
        simp only [List.length_append, List.length_drop] at h1
        omega

theorem gapN_app {l r : List UInt8} (h : gapN l ≠ 0) : gapN (l ++ r) = gapN l := by
  unfold gapN at h ⊢
  split at h
  · exact absurd rfl h
  · rename_i h1
    split at h
    · rename_i h2
      have hl : (l.drop (l.takeWhile blankB).length) ≠ [] := by intro e; rw [e] at h2; cases h2
      have hlt : (l.takeWhile blankB).length < l.length := by
        rcases Nat.lt_or_ge (l.takeWhile blankB).length l.length with g | g
        · exact g
        · exact absurd (List.drop_eq_nil_of_le g) hl
      have e : (l ++ r).takeWhile blankB = l.takeWhile blankB := by
        rw [List.takeWhile_append]
        rw [if_neg (by omega)]
      rw [e, if_neg h1, if_neg h1, if_pos h2]
      rw [if_pos]
      rw [List.drop_append_of_le_length (by omega), List.head?_append, h2]
      rfl
    · exact absurd rfl h

theorem numP_app {l r : List UInt8} {n base : Nat} (h : ¬ numP l n base < 0) : numP (l ++ r) n base = numP l n base := by
  have hl := numP_len h
  unfold numP
  rw [if_neg (by rw [List.length_append]; omega), if_neg (by omega), List.take_append_of_le_length hl]

theorem escP_app {l r : List UInt8} (h : (escP l).2 ≠ 0) : escP (l ++ r) = escP l := by
  cases l with
  | nil => exact absurd rfl h
  | cons c t =>
    unfold escP at h ⊢
    simp only [List.cons_append] at h ⊢
    by_cases h0 : c.toNat = 97
    · simp only [if_pos h0]
    simp only [if_neg h0] at h ⊢
    by_cases h1 : c.toNat = 98
    · simp only [if_pos h1]
    simp only [if_neg h1] at h ⊢
    by_cases h2 : c.toNat = 116
    · simp only [if_pos h2]
    simp only [if_neg h2] at h ⊢
    by_cases h3 : c.toNat = 110
    · simp only [if_pos h3]
    simp only [if_neg h3] at h ⊢
    by_cases h4 : c.toNat = 118
    · simp only [if_pos h4]
    simp only [if_neg h4] at h ⊢
    by_cases h5 : c.toNat = 102
    · simp only [if_pos h5]
    simp only [if_neg h5] at h ⊢
    by_cases h6 : c.toNat = 114
    · simp only [if_pos h6]
    simp only [if_neg h6] at h ⊢
    by_cases h7 : c.toNat = 34 ∨ c.toNat = 92
    · simp only [if_pos h7]
    simp only [if_neg h7] at h ⊢
    by_cases k1 : c.toNat = 94
    · simp only [if_pos k1] at h ⊢
      cases t with
      | nil => exact absurd rfl h
      | cons d u => rfl
    simp only [if_neg k1] at h ⊢
    by_cases k2 : c.toNat = 117
    · simp only [if_pos k2] at h ⊢
      by_cases g : numP t 4 16 < 0
      · rw [if_pos g] at h; exact absurd rfl h
      · rw [numP_app g]
    simp only [if_neg k2] at h ⊢
    by_cases k3 : 48 ≤ c.toNat ∧ c.toNat ≤ 57
    · simp only [if_pos k3] at h ⊢
      by_cases g : numP (c :: t) 3 10 < 0
      · rw [if_pos g] at h; exact absurd rfl h
      · rw [← List.cons_append, numP_app g]
    simp only [if_neg k3] at h ⊢
    by_cases k4 : blankB c = true
    · simp only [if_pos k4] at h ⊢
      rw [← List.cons_append, gapN_app h]
    simp only [if_neg k4]

theorem stepN_app {l r : List UInt8} (h : stepN l ≠ 0) : stepN (l ++ r) = stepN l := by
  cases l with
  | nil => exact absurd rfl h
  | cons c t =>
    unfold stepN at h ⊢
    simp only [List.cons_append] at *
    cases hp : plainB c
    · rw [hp] at h
      simp only [Bool.false_eq_true, if_false] at h ⊢
      by_cases h9 : c.toNat = 92
      · rw [if_pos h9] at h ⊢
        rw [if_pos h9]
        by_cases he : (escP t).2 = 0
        · rw [if_pos he] at h; exact absurd rfl h
        · rw [escP_app he]
      · rw [if_neg h9] at h; exact absurd rfl h
    · rfl

theorem stepO_app {l r : List UInt8} (h : stepN l ≠ 0) : stepO (l ++ r) = stepO l := by
  cases l with
  | nil => exact absurd rfl h
  | cons c t =>
    unfold stepN at h
    unfold stepO
    simp only [List.cons_append] at *
    cases hp : plainB c
    · rw [hp] at h
      simp only [Bool.false_eq_true, if_false] at h ⊢
      by_cases h9 : c.toNat = 92
      · rw [if_pos h9] at h ⊢
        rw [if_pos h9]
        by_cases he : (escP t).2 = 0
        · rw [if_pos he] at h; exact absurd rfl h
        · rw [escP_app he]
      · rw [if_neg h9] at h; exact absurd rfl h
    · rfl

/-- Each byte is read as it is written. -/
theorem shown_all : ∀ n : Fin 256, stepN (shownL (UInt8.ofFin n)) = (shownL (UInt8.ofFin n)).length ∧ stepO (shownL (UInt8.ofFin n)) = [UInt8.ofFin n] := by decide +kernel
theorem shown_step (c : UInt8) : stepN (shownL c) = (shownL c).length ∧ stepO (shownL c) = [c] := shown_all c.toFin
theorem shown_len (c : UInt8) : 1 ≤ (shownL c).length ∧ (shownL c).length ≤ 4 := by
  unfold shownL
  repeat' split
  all_goals simp

theorem readL_escL_go : ∀ (l : List UInt8) (n p : Nat) (acc : List UInt8), (escL l).length ≤ n → runL n p acc (escL l) = (acc ++ l, none) := by
  intro l
  induction l with
  | nil => intro n p acc _; rw [List.append_nil]; exact runL_nil n p acc
  | cons c r ih =>
    intro n p acc h
    have e : escL (c :: r) = shownL c ++ escL r := by simp [escL]
    have hs := shown_step c
    have hl := shown_len c
    have h0 : stepN (shownL c) ≠ 0 := by omega
    rw [e] at h ⊢
    rw [runL_step h (by rw [stepN_app h0]; exact h0), stepN_app h0, stepO_app h0, hs.1, hs.2, List.drop_left]
    rw [List.length_append] at h
    rw [ih _ _ _ (by omega)]
    simp
theorem readL_escL (l : List UInt8) : readL (escL l) = (l, none) := by
  have := readL_escL_go l (escL l).length 0 [] (Nat.le_refl _)
  simpa [readL] using this

/-- What stands behind a constant is read on. -/
theorem runL_app : ∀ (n : Nat) (l r : List UInt8) (p : Nat) (acc x : List UInt8) (m : Nat), l.length ≤ n → runL n p acc l = (x, none) → l.length + r.length ≤ m → runL m p acc (l ++ r) = runL r.length (p + l.length) x r := by
  intro n
  induction n with
  | zero =>
    intro l r p acc x m h e hm
    obtain rfl : l = [] := List.eq_nil_of_length_eq_zero (by omega)
    obtain rfl : acc = x := congrArg Prod.fst e
    simp only [List.nil_append, List.length_nil, Nat.add_zero, Nat.zero_add] at *
    exact runL_fuel _ _ _ _ _ hm (Nat.le_refl _)
  | succ n ih =>
    intro l r p acc x m h e hm
    cases l with
    | nil =>
      obtain rfl : acc = x := congrArg Prod.fst e
      simp only [List.nil_append, List.length_nil, Nat.add_zero, Nat.zero_add] at *
      exact runL_fuel _ _ _ _ _ hm (Nat.le_refl _)
    | cons c t =>
      by_cases h0 : stepN (c :: t) = 0
      · rw [runL_fault h (by simp) h0] at e; cases e
      · rw [runL_step h h0] at e
        have hle := stepN_le (c :: t)
        rw [runL_step (by rw [List.length_append]; exact hm) (by rw [stepN_app h0]; exact h0), stepN_app h0, stepO_app h0, List.drop_append_of_le_length hle]
        have hd : ((c :: t).drop (stepN (c :: t))).length = (c :: t).length - stepN (c :: t) := List.length_drop
        rw [runL_fuel _ n _ _ _ (by omega) (by omega)] at e
        rw [ih _ r _ _ x _ (by omega) e (by omega)]
        congr 1
        omega

/-- What was there ahead of the read bytes stays ahead of them. -/
theorem runL_acc : ∀ (n p : Nat) (acc l : List UInt8), runL n p acc l = (acc ++ (runL n 0 [] l).1, (runL n 0 [] l).2.map (· + p)) := by
  intro n
  induction n with
  | zero => intro p acc l; simp [runL]
  | succ n ih =>
    intro p acc l
    cases l with
    | nil => simp [runL]
    | cons c r =>
      unfold runL
      split
      · simp
      · rw [ih (p + _) (acc ++ _), ih (0 + _) ([] ++ _)]
        simp only [List.nil_append, List.append_assoc, Option.map_map]
        congr 2
        funext x
        simp only [Function.comp]
        omega

/-- A gap. -/
def isGap (g : List UInt8) : Prop := stepN g = g.length ∧ stepO g = [] ∧ g ≠ []
theorem readL_gap {a g b x y : List UInt8} (hg : isGap g) (ha : readL a = (x, none)) (hb : readL b = (y, none)) : readL (a ++ (g ++ b)) = (x ++ y, none) := by
  unfold readL at *
  rw [runL_app a.length a (g ++ b) 0 [] x _ (Nat.le_refl _) ha (by simp)]
  have h0 : stepN g ≠ 0 := by
    rw [hg.1]; intro h; exact hg.2.2 (List.eq_nil_of_length_eq_zero h)
  rw [runL_step (Nat.le_refl _) (by rw [stepN_app h0]; exact h0), stepN_app h0, stepO_app h0, hg.1, hg.2.1, List.drop_left, List.append_nil]
  rw [runL_fuel _ b.length _ _ _ (by simp) (Nat.le_refl _), runL_acc, hb]
  rfl
end Go.Proofs.YtmeooghcdgpofaaDoor
