/- Kinds of bytes, runs of them, comments and numbers of a text, as the document has them. No program is named here. -/
import Derived.WalkKit
import Derived.ProofKit
namespace Go.Proofs.YtbcmpacmoofdkaaGreatDoor

def digitB (c : UInt8) : Bool := decide (48 ≤ c.toNat) && decide (c.toNat ≤ 57)
def letterB (c : UInt8) : Bool := (decide (97 ≤ c.toNat) && decide (c.toNat ≤ 122)) || (decide (65 ≤ c.toNat) && decide (c.toNat ≤ 90))
def wordB (c : UInt8) : Bool := letterB c || digitB c || decide (c.toNat = 95) || decide (c.toNat = 39)
def signs : List UInt8 := [33, 37, 38, 36, 35, 43, 45, 47, 58, 60, 61, 62, 63, 64, 92, 126, 96, 94, 124, 42]
def signB (c : UInt8) : Bool := signs.contains c
def hexB (c : UInt8) : Bool := digitB c || (decide (97 ≤ c.toNat) && decide (c.toNat ≤ 102)) || (decide (65 ≤ c.toNat) && decide (c.toNat ≤ 70))
def lblankB (c : UInt8) : Bool := decide (c.toNat = 9) || decide (c.toNat = 10) || decide (c.toNat = 12) || decide (c.toNat = 13) || decide (c.toNat = 32)
/-- 1 word bytes, 2 signs, 3 digits, 4 hexadecimal digits. -/
def kindB (k : Nat) (c : UInt8) : Bool := if k = 1 then wordB c else if k = 2 then signB c else if k = 3 then digitB c else hexB c
/-- How many bytes of a kind stand from a place on. -/
def runN (k : Nat) (s : ByteArray) (i : Nat) : Nat := ((s.data.toList.drop i).takeWhile (kindB k)).length
/-- The byte at a place; 0: there is none. -/
def atN (s : ByteArray) (i : Nat) : Nat := if h : i < s.size then (s[i]'h).toNat else 0

theorem drop_at (s : ByteArray) (k : Nat) (h : k < s.size) : s.data.toList.drop k = s[k] :: s.data.toList.drop (k + 1) := by
  rw [List.drop_eq_getElem_cons (by simpa using h)]; rfl
theorem drop_end (s : ByteArray) (k : Nat) (h : ¬ k < s.size) : s.data.toList.drop k = [] := List.drop_of_length_le (by simp; omega)
theorem runN_at (k : Nat) (s : ByteArray) (i : Nat) (h : i < s.size) : runN k s i = if kindB k (s[i]'h) = true then runN k s (i + 1) + 1 else 0 := by
  unfold runN
  rw [drop_at s i h, List.takeWhile_cons]
  split <;> simp
theorem runN_end (k : Nat) (s : ByteArray) (i : Nat) (h : ¬ i < s.size) : runN k s i = 0 := by
  unfold runN
  rw [drop_end s i h]; rfl
theorem runN_le (k : Nat) (s : ByteArray) (i : Nat) (hi : i ≤ s.size) : i + runN k s i ≤ s.size := by
  unfold runN
  have h := List.Sublist.length_le (List.takeWhile_sublist (l := s.data.toList.drop i) (kindB k))
  rw [List.length_drop] at h
  have : s.data.toList.length = s.size := by simp
  omega

/-- The place behind a comment, from a place on, so deep in it; none: it does not end. -/
def comF (s : ByteArray) : Nat → Nat → Int → Option Nat
  | 0, _, _ => none
  | f + 1, i, deep =>
    if i + 1 < s.size then
      if atN s i = 40 ∧ atN s (i + 1) = 42 then comF s f (i + 2) (deep + 1)
      else if atN s i = 42 ∧ atN s (i + 1) = 41 then (if deep - 1 = 0 then some (i + 2) else comF s f (i + 2) (deep - 1))
      else comF s f (i + 1) deep
    else none
def comN (s : ByteArray) (p : Nat) : Option Nat := comF s (s.size + 1) p 0
theorem comF_fuel (s : ByteArray) : ∀ (f g i : Nat) (deep : Int), s.size < i + f → s.size < i + g → comF s f i deep = comF s g i deep := by
  intro f
  induction f with
  | zero =>
    intro g i deep h1 h2
    cases g with
    | zero => rfl
    | succ g => simp only [comF]; rw [if_neg (by omega)]
  | succ f ih =>
    intro g i deep h1 h2
    cases g with
    | zero => simp only [comF]; rw [if_neg (by omega)]
    | succ g =>
      simp only [comF]
      by_cases c0 : i + 1 < s.size
      · rw [if_pos c0, if_pos c0, ih g (i + 2) (deep + 1) (by omega) (by omega), ih g (i + 2) (deep - 1) (by omega) (by omega), ih g (i + 1) deep (by omega) (by omega)]
      · rw [if_neg c0, if_neg c0]

/-- How long the number is that begins at a place (behind a ~ or not), and whether it is a real's. -/
def numTail (s : ByteArray) (p n : Nat) (real : Bool) : Nat × Bool :=
  if atN s (p + n) = 69 ∨ atN s (p + n) = 101 then
    (let m := if atN s (p + (n + 1)) = 126 then n + 2 else n + 1
     let k := runN 3 s (p + m)
     if 0 < k then (m + k, true) else (n, real))
  else (n, real)
def numMid (s : ByteArray) (p n : Nat) : Nat × Bool :=
  if atN s (p + n) = 46 ∧ 0 < runN 3 s (p + (n + 1)) then numTail s p (n + 1 + runN 3 s (p + (n + 1))) true else numTail s p n false
def numN (s : ByteArray) (p : Nat) : Nat × Bool :=
  let n := if atN s p = 126 then 1 else 0
  if atN s (p + n) = 48 ∧ atN s (p + (n + 1)) = 120 ∧ 0 < runN 4 s (p + (n + 2)) then (n + 2 + runN 4 s (p + (n + 2)), false)
  else numMid s p (n + runN 3 s (p + n))

/-- A byte between quotes. -/
def quot1 (c : UInt8) : List UInt8 :=
  if c.toNat = 34 ∨ c.toNat = 92 then [92, c]
  else if 32 ≤ c.toNat ∧ c.toNat ≤ 126 then [c]
  else [92, (48 + c.toNat / 100).toUInt8, (48 + c.toNat / 10 % 10).toUInt8, (48 + c.toNat % 10).toUInt8]
def quotL (l : List UInt8) : List UInt8 := l.flatMap quot1
theorem quot1_len (c : UInt8) : (quot1 c).length ≤ 4 := by
  unfold quot1
  repeat' split
  all_goals simp
theorem quotL_len (l : List UInt8) : (quotL l).length ≤ 4 * l.length := by
  induction l with
  | nil => simp [quotL]
  | cons c r ih =>
    have e : quotL (c :: r) = quot1 c ++ quotL r := by simp [quotL]
    have := quot1_len c
    rw [e, List.length_append, List.length_cons]
    omega

/-- All reserved words and signs, in the document's order. -/
def wordsL : List (List UInt8) := [[97, 98, 115, 116, 121, 112, 101], [97, 110, 100], [97, 110, 100, 97, 108, 115, 111], [97, 115], [99, 97, 115, 101], [100, 97, 116, 97, 116, 121, 112, 101], [100, 111], [101, 108, 115, 101], [101, 110, 100], [101, 113, 116, 121, 112, 101], [101, 120, 99, 101, 112, 116, 105, 111, 110], [102, 110], [102, 117, 110], [102, 117, 110, 99, 116, 111, 114], [104, 97, 110, 100, 108, 101], [105, 102], [105, 110], [105, 110, 99, 108, 117, 100, 101], [105, 110, 102, 105, 120], [105, 110, 102, 105, 120, 114], [108, 101, 116], [108, 111, 99, 97, 108], [110, 111, 110, 102, 105, 120], [111, 102], [111, 112], [111, 112, 101, 110], [111, 114, 101, 108, 115, 101], [114, 97, 105, 115, 101], [114, 101, 99], [115, 104, 97, 114, 105, 110, 103], [115, 105, 103], [115, 105, 103, 110, 97, 116, 117, 114, 101], [115, 116, 114, 117, 99, 116], [115, 116, 114, 117, 99, 116, 117, 114, 101], [116, 104, 101, 110], [116, 121, 112, 101], [118, 97, 108], [119, 104, 101, 114, 101], [119, 104, 105, 108, 101], [119, 105, 116, 104], [119, 105, 116, 104, 116, 121, 112, 101], [40], [41], [91], [93], [123], [125], [44], [59], [95], [46, 46, 46], [58], [58, 62], [124], [61], [61, 62], [45, 62], [35]]
def wordsS : List ByteArray := wordsL.map fun l => ⟨l.toArray⟩
def resL (l : List UInt8) : Bool := wordsL.contains l
def resB (s : ByteArray) : Bool := resL s.data.toList
theorem wordsS_len : wordsS.length = 58 := rfl
theorem wordsL_len : wordsL.length = 58 := rfl
end Go.Proofs.YtbcmpacmoofdkaaGreatDoor
/- Characters and constants as lists of bytes: how each byte is written, what each constant stands for, and that what is written is read as the same. No program is named here. -/
namespace Go.Proofs.YtbcmpacmoofdkaaGreatDoor

/-- Stands for itself in a constant. -/
def plainB (c : UInt8) : Bool := decide (32 ≤ c.toNat) && decide (c.toNat ≤ 126) && decide (c.toNat ≠ 34) && decide (c.toNat ≠ 92)
def blankB (c : UInt8) : Bool := decide (c.toNat = 9) || decide (c.toNat = 10) || decide (c.toNat = 12) || decide (c.toNat = 13) || decide (c.toNat = 32)
/-- The letter of a character from 7 to 13. -/
def letter (n : Nat) : Nat := if n = 7 then 97 else if n = 8 then 98 else if n = 9 then 116 else if n = 10 then 110 else if n = 11 then 118 else if n = 12 then 102 else 114
/-- A byte as a program would have it. -/
def shownL (c : UInt8) : List UInt8 :=
  if c.toNat = 34 ∨ c.toNat = 92 then [92, c]
  else if 7 ≤ c.toNat ∧ c.toNat ≤ 13 then [92, (letter c.toNat).toUInt8]
  else if c.toNat < 32 then [92, 94, (c.toNat + 64).toUInt8]
  else if 127 ≤ c.toNat then [92, (48 + c.toNat / 100).toUInt8, (48 + c.toNat / 10 % 10).toUInt8, (48 + c.toNat % 10).toUInt8]
  else [c]
def escL (l : List UInt8) : List UInt8 := l.flatMap shownL

/-- Of a digit; 99: it is none. -/
def worthN (c : UInt8) : Nat :=
  if 48 ≤ c.toNat ∧ c.toNat ≤ 57 then c.toNat - 48
  else if 97 ≤ c.toNat ∧ c.toNat ≤ 102 then c.toNat - 97 + 10
  else if 65 ≤ c.toNat ∧ c.toNat ≤ 70 then c.toNat - 65 + 10
  else 99
/-- The number of all digits of a list, behind v; none: one is no digit. -/
def foldN (base : Nat) : Nat → List UInt8 → Option Nat
  | v, [] => some v
  | v, c :: r => if worthN c < base then foldN base (v * base + worthN c) r else none
/-- The number of so many digits at a list's beginning, at most 255; below 0: there is none. -/
def numP (l : List UInt8) (n base : Nat) : Int :=
  if l.length < n then -1 else match foldN base 0 (l.take n) with
  | none => -1
  | some v => if 255 < v then -1 else v
/-- A gap's bytes, the second backslash too; 0: there is none. -/
def gapN (l : List UInt8) : Nat :=
  if (l.takeWhile blankB).length = 0 then 0 else if (l.drop (l.takeWhile blankB).length).head? = some 92 then (l.takeWhile blankB).length + 1 else 0
/-- Behind a backslash: the byte (below 0: nothing), and how many bytes that takes; 0: it can stand for nothing. -/
def escP : List UInt8 → Int × Nat
  | [] => (-1, 0)
  | c :: r =>
    if c.toNat = 97 then (7, 1) else if c.toNat = 98 then (8, 1) else if c.toNat = 116 then (9, 1) else if c.toNat = 110 then (10, 1)
    else if c.toNat = 118 then (11, 1) else if c.toNat = 102 then (12, 1) else if c.toNat = 114 then (13, 1)
    else if c.toNat = 34 ∨ c.toNat = 92 then ((c.toNat : Int), 1)
    else if c.toNat = 94 then (match r with
      | [] => (-1, 0)
      | d :: _ => if 64 ≤ d.toNat ∧ d.toNat ≤ 95 then ((d.toNat : Int) - 64, 2) else (-1, 0))
    else if c.toNat = 117 then (if numP r 4 16 < 0 then (-1, 0) else (numP r 4 16, 5))
    else if 48 ≤ c.toNat ∧ c.toNat ≤ 57 then (if numP (c :: r) 3 10 < 0 then (-1, 0) else (numP (c :: r) 3 10, 3))
    else if blankB c then (-1, gapN (c :: r))
    else (-1, 0)
/-- How many bytes the first of a constant has; 0: it can stand for nothing. -/
def stepN : List UInt8 → Nat
  | [] => 0
  | c :: r => if plainB c then 1 else if c.toNat = 92 then (if (escP r).2 = 0 then 0 else 1 + (escP r).2) else 0
/-- What it stands for. -/
def stepO : List UInt8 → List UInt8
  | [] => []
  | c :: r => if plainB c then [c] else if c.toNat = 92 then (if (escP r).2 = 0 then [] else if (escP r).1 < 0 then [] else [(escP r).1.toNat.toUInt8]) else []
/-- A constant's bytes from a place on: what they stand for behind what is there, and the place of the first fault. -/
def runL : Nat → Nat → List UInt8 → List UInt8 → List UInt8 × Option Nat
  | 0, _, acc, _ => (acc, none)
  | _ + 1, _, acc, [] => (acc, none)
  | n + 1, pos, acc, c :: r => if stepN (c :: r) = 0 then (acc, some pos) else runL n (pos + stepN (c :: r)) (acc ++ stepO (c :: r)) ((c :: r).drop (stepN (c :: r)))
def readL (l : List UInt8) : List UInt8 × Option Nat := runL l.length 0 [] l

theorem gapN_le (l : List UInt8) : gapN l ≤ l.length := by
  unfold gapN
  split
  · exact Nat.zero_le _
  · split
    · rename_i h
      have := congrArg Option.isSome h
      have hl : (l.drop (l.takeWhile blankB).length) ≠ [] := by intro e; rw [e] at h; cases h
      have : (l.takeWhile blankB).length < l.length := by
        rcases Nat.lt_or_ge (l.takeWhile blankB).length l.length with g | g
        · exact g
        · exact absurd (List.drop_eq_nil_of_le g) hl
      omega
    · exact Nat.zero_le _

theorem numP_len {l : List UInt8} {n base : Nat} (h : ¬ numP l n base < 0) : n ≤ l.length := by
  unfold numP at h
  split at h
  · exact absurd (by decide) h
  · omega

theorem escP_le (l : List UInt8) : (escP l).2 ≤ l.length := by
  cases l with
  | nil => exact Nat.le_refl _
  | cons c t =>
    unfold escP
    simp only [List.length_cons]
    by_cases h0 : c.toNat = 97
    · simp only [if_pos h0]; omega
    simp only [if_neg h0]
    by_cases h1 : c.toNat = 98
    · simp only [if_pos h1]; omega
    simp only [if_neg h1]
    by_cases h2 : c.toNat = 116
    · simp only [if_pos h2]; omega
    simp only [if_neg h2]
    by_cases h3 : c.toNat = 110
    · simp only [if_pos h3]; omega
    simp only [if_neg h3]
    by_cases h4 : c.toNat = 118
    · simp only [if_pos h4]; omega
    simp only [if_neg h4]
    by_cases h5 : c.toNat = 102
    · simp only [if_pos h5]; omega
    simp only [if_neg h5]
    by_cases h6 : c.toNat = 114
    · simp only [if_pos h6]; omega
    simp only [if_neg h6]
    by_cases h7 : c.toNat = 34 ∨ c.toNat = 92
    · simp only [if_pos h7]; omega
    simp only [if_neg h7]
    by_cases k1 : c.toNat = 94
    · simp only [if_pos k1]
      cases t with
      | nil => exact Nat.zero_le _
      | cons d u =>
        by_cases g : 64 ≤ d.toNat ∧ d.toNat ≤ 95
        · simp only [if_pos g, List.length_cons]; omega
        · simp only [if_neg g]; omega
    simp only [if_neg k1]
    by_cases k2 : c.toNat = 117
    · simp only [if_pos k2]
      by_cases g : numP t 4 16 < 0
      · rw [if_pos g]; exact Nat.zero_le _
      · rw [if_neg g]; have := numP_len g; show 5 ≤ _; omega
    simp only [if_neg k2]
    by_cases k3 : 48 ≤ c.toNat ∧ c.toNat ≤ 57
    · simp only [if_pos k3]
      by_cases g : numP (c :: t) 3 10 < 0
      · rw [if_pos g]; exact Nat.zero_le _
      · rw [if_neg g]; have := numP_len g; simpa using this
    simp only [if_neg k3]
    by_cases k4 : blankB c = true
    · simp only [if_pos k4]
      have := gapN_le (c :: t); simpa using this
    simp only [if_neg k4]; omega

theorem stepN_le (l : List UInt8) : stepN l ≤ l.length := by
  unfold stepN
  split
  · exact Nat.le_refl _
  · rename_i c r
    have := escP_le r
    simp only [List.length_cons]
    repeat' split
    all_goals omega

theorem stepO_len (l : List UInt8) : (stepO l).length ≤ 1 := by
  unfold stepO
  repeat' split
  all_goals simp

theorem stepO_le (l : List UInt8) : (stepO l).length ≤ stepN l := by
  unfold stepO stepN
  repeat' split
  all_goals first | omega | simp

theorem runL_fuel : ∀ (n m p : Nat) (acc l : List UInt8), l.length ≤ n → l.length ≤ m → runL n p acc l = runL m p acc l := by
  intro n
  induction n with
  | zero => intro m p acc l h h2; obtain rfl : l = [] := List.eq_nil_of_length_eq_zero (by omega); cases m <;> rfl
  | succ n ih =>
    intro m p acc l h h2
    cases l with
    | nil => cases m <;> rfl
    | cons c r =>
      cases m with
      | zero => simp at h2
      | succ m =>
        unfold runL
        split
        · rfl
        · have hd : ((c :: r).drop (stepN (c :: r))).length = r.length + 1 - stepN (c :: r) := by simp
          simp only [List.length_cons] at h h2
          exact ih m _ _ _ (by omega) (by omega)

/-- A step more. -/
theorem runL_step {n p : Nat} {acc l : List UInt8} (hn : l.length ≤ n) (h0 : stepN l ≠ 0) : runL n p acc l = runL (n - stepN l) (p + stepN l) (acc ++ stepO l) (l.drop (stepN l)) := by
  cases l with
  | nil => exact absurd rfl h0
  | cons c r =>
    cases n with
    | zero => simp at hn
    | succ n =>
      conv => lhs; unfold runL
      rw [if_neg h0]
      have hd : ((c :: r).drop (stepN (c :: r))).length = r.length + 1 - stepN (c :: r) := by simp
      simp only [List.length_cons] at hn
      exact runL_fuel _ _ _ _ _ (by omega) (by omega)

theorem runL_fault {n p : Nat} {acc l : List UInt8} (hn : l.length ≤ n) (hl : l ≠ []) (h0 : stepN l = 0) : runL n p acc l = (acc, some p) := by
  cases l with
  | nil => exact absurd rfl hl
  | cons c r =>
    cases n with
    | zero => simp at hn
    | succ n => unfold runL; rw [if_pos h0]

theorem runL_nil (n p : Nat) (acc : List UInt8) : runL n p acc [] = (acc, none) := by cases n <;> rfl

theorem runL_len : ∀ (n p : Nat) (acc l : List UInt8), (runL n p acc l).1.length ≤ acc.length + l.length := by
  intro n
  induction n with
  | zero => intro p acc l; show acc.length ≤ _; omega
  | succ n ih =>
    intro p acc l
    cases l with
    | nil => show acc.length ≤ _; omega
    | cons c r =>
      unfold runL
      split
      · show acc.length ≤ _; omega
      · have h1 := ih (p + stepN (c :: r)) (acc ++ stepO (c :: r)) ((c :: r).drop (stepN (c :: r)))
        have h2 := stepO_le (c :: r)
        have h3 := stepN_le (c :: r)
        simp only [List.length_append, List.length_drop] at h1
        omega

theorem gapN_app {l r : List UInt8} (h : gapN l ≠ 0) : gapN (l ++ r) = gapN l := by
  unfold gapN at h ⊢
  split at h
  · exact absurd rfl h
  · rename_i h1
    split at h
    · rename_i h2
      have hl : (l.drop (l.takeWhile blankB).length) ≠ [] := by intro e; rw [e] at h2; cases h2
      have hlt : (l.takeWhile blankB).length < l.length := by
        rcases Nat.lt_or_ge (l.takeWhile blankB).length l.length with g | g
        · exact g
        · exact absurd (List.drop_eq_nil_of_le g) hl
      have e : (l ++ r).takeWhile blankB = l.takeWhile blankB := by
        rw [List.takeWhile_append]
        rw [if_neg (by omega)]
      rw [e, if_neg h1, if_neg h1, if_pos h2]
      rw [if_pos]
      rw [List.drop_append_of_le_length (by omega), List.head?_append, h2]
      rfl
    · exact absurd rfl h

theorem numP_app {l r : List UInt8} {n base : Nat} (h : ¬ numP l n base < 0) : numP (l ++ r) n base = numP l n base := by
  have hl := numP_len h
  unfold numP
  rw [if_neg (by rw [List.length_append]; omega), if_neg (by omega), List.take_append_of_le_length hl]

theorem escP_app {l r : List UInt8} (h : (escP l).2 ≠ 0) : escP (l ++ r) = escP l := by
  cases l with
  | nil => exact absurd rfl h
  | cons c t =>
    unfold escP at h ⊢
    simp only [List.cons_append] at h ⊢
    by_cases h0 : c.toNat = 97
    · simp only [if_pos h0]
    simp only [if_neg h0] at h ⊢
    by_cases h1 : c.toNat = 98
    · simp only [if_pos h1]
    simp only [if_neg h1] at h ⊢
    by_cases h2 : c.toNat = 116
    · simp only [if_pos h2]
    simp only [if_neg h2] at h ⊢
    by_cases h3 : c.toNat = 110
    · simp only [if_pos h3]
    simp only [if_neg h3] at h ⊢
    by_cases h4 : c.toNat = 118
    · simp only [if_pos h4]
    simp only [if_neg h4] at h ⊢
    by_cases h5 : c.toNat = 102
    · simp only [if_pos h5]
    simp only [if_neg h5] at h ⊢
    by_cases h6 : c.toNat = 114
    · simp only [if_pos h6]
    simp only [if_neg h6] at h ⊢
    by_cases h7 : c.toNat = 34 ∨ c.toNat = 92
    · simp only [if_pos h7]
    simp only [if_neg h7] at h ⊢
    by_cases k1 : c.toNat = 94
    · simp only [if_pos k1] at h ⊢
      cases t with
      | nil => exact absurd rfl h
      | cons d u => rfl
    simp only [if_neg k1] at h ⊢
    by_cases k2 : c.toNat = 117
    · simp only [if_pos k2] at h ⊢
      by_cases g : numP t 4 16 < 0
      · rw [if_pos g] at h; exact absurd rfl h
      · rw [numP_app g]
    simp only [if_neg k2] at h ⊢
    by_cases k3 : 48 ≤ c.toNat ∧ c.toNat ≤ 57
    · simp only [if_pos k3] at h ⊢
      by_cases g : numP (c :: t) 3 10 < 0
      · rw [if_pos g] at h; exact absurd rfl h
      · rw [← List.cons_append, numP_app g]
    simp only [if_neg k3] at h ⊢
    by_cases k4 : blankB c = true
    · simp only [if_pos k4] at h ⊢
      rw [← List.cons_append, gapN_app h]
    simp only [if_neg k4]

theorem stepN_app {l r : List UInt8} (h : stepN l ≠ 0) : stepN (l ++ r) = stepN l := by
  cases l with
  | nil => exact absurd rfl h
  | cons c t =>
    unfold stepN at h ⊢
    simp only [List.cons_append] at *
    cases hp : plainB c
    · rw [hp] at h
      simp only [Bool.false_eq_true, if_false] at h ⊢
      by_cases h9 : c.toNat = 92
      · rw [if_pos h9] at h ⊢
        rw [if_pos h9]
        by_cases he : (escP t).2 = 0
        · rw [if_pos he] at h; exact absurd rfl h
        · rw [escP_app he]
      · rw [if_neg h9] at h; exact absurd rfl h
    · rfl

theorem stepO_app {l r : List UInt8} (h : stepN l ≠ 0) : stepO (l ++ r) = stepO l := by
  cases l with
  | nil => exact absurd rfl h
  | cons c t =>
    unfold stepN at h
    unfold stepO
    simp only [List.cons_append] at *
    cases hp : plainB c
    · rw [hp] at h
      simp only [Bool.false_eq_true, if_false] at h ⊢
      by_cases h9 : c.toNat = 92
      · rw [if_pos h9] at h ⊢
        rw [if_pos h9]
        by_cases he : (escP t).2 = 0
        · rw [if_pos he] at h; exact absurd rfl h
        · rw [escP_app he]
      · rw [if_neg h9] at h; exact absurd rfl h
    · rfl

/-- Each byte is read as it is written. -/
theorem shown_all : ∀ n : Fin 256, stepN (shownL (UInt8.ofFin n)) = (shownL (UInt8.ofFin n)).length ∧ stepO (shownL (UInt8.ofFin n)) = [UInt8.ofFin n] := by decide +kernel
theorem shown_step (c : UInt8) : stepN (shownL c) = (shownL c).length ∧ stepO (shownL c) = [c] := shown_all c.toFin
theorem shown_len (c : UInt8) : 1 ≤ (shownL c).length ∧ (shownL c).length ≤ 4 := by
  unfold shownL
  repeat' split
  all_goals simp

theorem readL_escL_go : ∀ (l : List UInt8) (n p : Nat) (acc : List UInt8), (escL l).length ≤ n → runL n p acc (escL l) = (acc ++ l, none) := by
  intro l
  induction l with
  | nil => intro n p acc _; rw [List.append_nil]; exact runL_nil n p acc
  | cons c r ih =>
    intro n p acc h
    have e : escL (c :: r) = shownL c ++ escL r := by simp [escL]
    have hs := shown_step c
    have hl := shown_len c
    have h0 : stepN (shownL c) ≠ 0 := by omega
    rw [e] at h ⊢
    rw [runL_step h (by rw [stepN_app h0]; exact h0), stepN_app h0, stepO_app h0, hs.1, hs.2, List.drop_left]
    rw [List.length_append] at h
    rw [ih _ _ _ (by omega)]
    simp
theorem readL_escL (l : List UInt8) : readL (escL l) = (l, none) := by
  have := readL_escL_go l (escL l).length 0 [] (Nat.le_refl _)
  simpa [readL] using this

/-- What stands behind a constant is read on. -/
theorem runL_app : ∀ (n : Nat) (l r : List UInt8) (p : Nat) (acc x : List UInt8) (m : Nat), l.length ≤ n → runL n p acc l = (x, none) → l.length + r.length ≤ m → runL m p acc (l ++ r) = runL r.length (p + l.length) x r := by
  intro n
  induction n with
  | zero =>
    intro l r p acc x m h e hm
    obtain rfl : l = [] := List.eq_nil_of_length_eq_zero (by omega)
    obtain rfl : acc = x := congrArg Prod.fst e
    simp only [List.nil_append, List.length_nil, Nat.add_zero, Nat.zero_add] at *
    exact runL_fuel _ _ _ _ _ hm (Nat.le_refl _)
  | succ n ih =>
    intro l r p acc x m h e hm
    cases l with
    | nil =>
      obtain rfl : acc = x := congrArg Prod.fst e
      simp only [List.nil_append, List.length_nil, Nat.add_zero, Nat.zero_add] at *
      exact runL_fuel _ _ _ _ _ hm (Nat.le_refl _)
    | cons c t =>
      by_cases h0 : stepN (c :: t) = 0
      · rw [runL_fault h (by simp) h0] at e; cases e
      · rw [runL_step h h0] at e
        have hle := stepN_le (c :: t)
        rw [runL_step (by rw [List.length_append]; exact hm) (by rw [stepN_app h0]; exact h0), stepN_app h0, stepO_app h0, List.drop_append_of_le_length hle]
        have hd : ((c :: t).drop (stepN (c :: t))).length = (c :: t).length - stepN (c :: t) := List.length_drop
        rw [runL_fuel _ n _ _ _ (by omega) (by omega)] at e
        rw [ih _ r _ _ x _ (by omega) e (by omega)]
        congr 1
        omega

/-- What was there ahead of the read bytes stays ahead of them. -/
theorem runL_acc : ∀ (n p : Nat) (acc l : List UInt8), runL n p acc l = (acc ++ (runL n 0 [] l).1, (runL n 0 [] l).2.map (· + p)) := by
  intro n
  induction n with
  | zero => intro p acc l; simp [runL]
  | succ n ih =>
    intro p acc l
    cases l with
    | nil => simp [runL]
    | cons c r =>
      unfold runL
      split
      · simp
      · rw [ih (p + _) (acc ++ _), ih (0 + _) ([] ++ _)]
        simp only [List.nil_append, List.append_assoc, Option.map_map]
        congr 2
        funext x
        simp only [Function.comp]
        omega

/-- A gap. -/
def isGap (g : List UInt8) : Prop := stepN g = g.length ∧ stepO g = [] ∧ g ≠ []
theorem readL_gap {a g b x y : List UInt8} (hg : isGap g) (ha : readL a = (x, none)) (hb : readL b = (y, none)) : readL (a ++ (g ++ b)) = (x ++ y, none) := by
  unfold readL at *
  rw [runL_app a.length a (g ++ b) 0 [] x _ (Nat.le_refl _) ha (by simp)]
  have h0 : stepN g ≠ 0 := by
    rw [hg.1]; intro h; exact hg.2.2 (List.eq_nil_of_length_eq_zero h)
  rw [runL_step (Nat.le_refl _) (by rw [stepN_app h0]; exact h0), stepN_app h0, stepO_app h0, hg.1, hg.2.1, List.drop_left, List.append_nil]
  rw [runL_fuel _ b.length _ _ _ (by simp) (Nat.le_refl _), runL_acc, hb]
  rfl
end Go.Proofs.YtbcmpacmoofdkaaGreatDoor
