/- Kinds of bytes, runs of them, comments and numbers of a text, as the document has them. No program is named here. -/
import Derived.WalkKit
import Derived.ProofKit
namespace Go.Proofs.YtmeooghcdgpofaaDoor

def digitB (c : UInt8) : Bool := decide (48 ≤ c.toNat) && decide (c.toNat ≤ 57)
def letterB (c : UInt8) : Bool := (decide (97 ≤ c.toNat) && decide (c.toNat ≤ 122)) || (decide (65 ≤ c.toNat) && decide (c.toNat ≤ 90))
def wordB (c : UInt8) : Bool := letterB c || digitB c || decide (c.toNat = 95) || decide (c.toNat = 39)
def signs : List UInt8 := [33, 37, 38, 36, 35, 43, 45, 47, 58, 60, 61, 62, 63, 64, 92, 126, 96, 94, 124, 42]
def signB (c : UInt8) : Bool := signs.contains c
def hexB (c : UInt8) : Bool := digitB c || (decide (97 ≤ c.toNat) && decide (c.toNat ≤ 102)) || (decide (65 ≤ c.toNat) && decide (c.toNat ≤ 70))
def lblankB (c : UInt8) : Bool := decide (c.toNat = 9) || decide (c.toNat = 10) || decide (c.toNat = 12) || decide (c.toNat = 13) || decide (c.toNat = 32)
/-- 1 word bytes, 2 signs, 3 digits, 4 hexadecimal digits. -/
def kindB (k : Nat) (c : UInt8) : Bool := if k = 1 then wordB c else if k = 2 then signB c else if k = 3 then digitB c else hexB c
/-- How many bytes of a kind stand from a place on. -/
def runN (k : Nat) (s : ByteArray) (i : Nat) : Nat := ((s.data.toList.drop i).takeWhile (kindB k)).length
/-- The byte at a place; 0: there is none. -/
def atN (s : ByteArray) (i : Nat) : Nat := if h : i < s.size then (s[i]'h).toNat else 0

theorem drop_at (s : ByteArray) (k : Nat) (h : k < s.size) : s.data.toList.drop k = s[k] :: s.data.toList.drop (k + 1) := by
  rw [List.drop_eq_getElem_cons (by simpa using h)]; rfl
theorem drop_end (s : ByteArray) (k : Nat) (h : ¬ k < s.size) : s.data.toList.drop k = [] := List.drop_of_length_le (by simp; omega)
theorem runN_at (k : Nat) (s : ByteArray) (i : Nat) (h : i < s.size) : runN k s i = if kindB k (s[i]'h) = true then runN k s (i + 1) + 1 else 0 := by
  unfold runN
  rw [drop_at s i h, List.takeWhile_cons]
  split <;> simp
theorem runN_end (k : Nat) (s : ByteArray) (i : Nat) (h : ¬ i < s.size) : runN k s i = 0 := by
  unfold runN
  rw [drop_end s i h]; rfl
theorem runN_le (k : Nat) (s : ByteArray) (i : Nat) (hi : i ≤ s.size) : i + runN k s i ≤ s.size := by
  unfold runN
  have h := List.Sublist.length_le (List.takeWhile_sublist (l := s.data.toList.drop i) (kindB k))
  rw [List.length_drop] at h
  have : s.data.toList.length = s.size := by simp
  omega

/-- The place behind a comment, from a place on, so deep in it; none: it does not end. -/
def comF (s : ByteArray) : Nat → Nat → Int → Option Nat
  | 0, _, _ => none
  | f + 1, i, deep =>
    if i + 1 < s.size then
      if atN s i = 40 ∧ atN s (i + 1) = 42 then comF s f (i + 2) (deep + 1)
      else if atN s i = 42 ∧ atN s (i + 1) = 41 then (if deep - 1 = 0 then some (i + 2) else comF s f (i + 2) (deep - 1))
      else comF s f (i + 1) deep
    else none
def comN (s : ByteArray) (p : Nat) : Option Nat := comF s (s.size + 1) p 0
theorem comF_fuel (s : ByteArray) : ∀ (f g i : Nat) (deep : Int), s.size < i + f → s.size < i + g → comF s f i deep = comF s g i deep := by
  intro f
  induction f with
  | zero =>
    intro g i deep h1 h2
    cases g with
    | zero => rfl
    | succ g => simp only [comF]; rw [if_neg (by omega)]
  | succ f ih =>
    intro g i deep h1 h2
    cases g with
    | zero => simp only [comF]; rw [if_neg (by omega)]
    | succ g =>
      simp only [comF]
      by_cases c0 : i + 1 < s.size
      · rw [if_pos c0, if_pos c0, ih g (i + 2) (deep + 1) (by omega) (by omega), ih g (i + 2) (deep - 1) (by omega) (by omega), ih g (i + 1) deep (by omega) (by omega)]
      · rw [if_neg c0, if_neg c0]

/-- How long the number is that begins at a place (behind a ~ or not), and whether it is a real's. -/
def numTail (s : ByteArray) (p n : Nat) (real : Bool) : Nat × Bool :=
  if atN s (p + n) = 69 ∨ atN s (p + n) = 101 then
    (let m := if atN s (p + (n + 1)) = 126 then n + 2 else n + 1
     let k := runN 3 s (p + m)
     if 0 < k then (m + k, true) else (n, real))
  else (n, real)
def numMid (s : ByteArray) (p n : Nat) : Nat × Bool :=
  if atN s (p + n) = 46 ∧ 0 < runN 3 s (p + (n + 1)) then numTail s p (n + 1 + runN 3 s (p + (n + 1))) true else numTail s p n false
def numN (s : ByteArray) (p : Nat) : Nat × Bool :=
  let n := if atN s p = 126 then 1 else 0
  if atN s (p + n) = 48 ∧ atN s (p + (n + 1)) = 120 ∧ 0 < runN 4 s (p + (n + 2)) then (n + 2 + runN 4 s (p + (n + 2)), false)
  else numMid s p (n + runN 3 s (p + n))

/-- A byte between quotes. -/
def quot1 (c : UInt8) : List UInt8 :=
  if c.toNat = 34 ∨ c.toNat = 92 then [92, c]
  else if 32 ≤ c.toNat ∧ c.toNat ≤ 126 then [c]
  else [92, (48 + c.toNat / 100).toUInt8, (48 + c.toNat / 10 % 10).toUInt8, (48 + c.toNat % 10).toUInt8]
def quotL (l : List UInt8) : List UInt8 := l.flatMap quot1
theorem quot1_len (c : UInt8) : (quot1 c).length ≤ 4 := by
  unfold quot1
  repeat' split
  all_goals simp
theorem quotL_len (l : List UInt8) : (quotL l).length ≤ 4 * l.length := by
  induction l with
  | nil => simp [quotL]
  | cons c r ih =>
    have e : quotL (c :: r) = quot1 c ++ quotL r := by simp [quotL]
    have := quot1_len c
    rw [e, List.length_append, List.length_cons]
    omega

/-- All reserved words and signs, in the document's order. -/
def wordsL : List (List UInt8) := [[97, 98, 115, 116, 121, 112, 101], [97, 110, 100], [97, 110, 100, 97, 108, 115, 111], [97, 115], [99, 97, 115, 101], [100, 97, 116, 97, 116, 121, 112, 101], [100, 111], [101, 108, 115, 101], [101, 110, 100], [101, 113, 116, 121, 112, 101], [101, 120, 99, 101, 112, 116, 105, 111, 110], [102, 110], [102, 117, 110], [102, 117, 110, 99, 116, 111, 114], [104, 97, 110, 100, 108, 101], [105, 102], [105, 110], [105, 110, 99, 108, 117, 100, 101], [105, 110, 102, 105, 120], [105, 110, 102, 105, 120, 114], [108, 101, 116], [108, 111, 99, 97, 108], [110, 111, 110, 102, 105, 120], [111, 102], [111, 112], [111, 112, 101, 110], [111, 114, 101, 108, 115, 101], [114, 97, 105, 115, 101], [114, 101, 99], [115, 104, 97, 114, 105, 110, 103], [115, 105, 103], [115, 105, 103, 110, 97, 116, 117, 114, 101], [115, 116, 114, 117, 99, 116], [115, 116, 114, 117, 99, 116, 117, 114, 101], [116, 104, 101, 110], [116, 121, 112, 101], [118, 97, 108], [119, 104, 101, 114, 101], [119, 104, 105, 108, 101], [119, 105, 116, 104], [119, 105, 116, 104, 116, 121, 112, 101], [40], [41], [91], [93], [123], [125], [44], [59], [95], [46, 46, 46], [58], [58, 62], [124], [61], [61, 62], [45, 62], [35]]
def wordsS : List ByteArray := wordsL.map fun l => ⟨l.toArray⟩
def resL (l : List UInt8) : Bool := wordsL.contains l
def resB (s : ByteArray) : Bool := resL s.data.toList
theorem wordsS_len : wordsS.length = 58 := rfl
theorem wordsL_len : wordsL.length = 58 := rfl
end Go.Proofs.YtmeooghcdgpofaaDoor
