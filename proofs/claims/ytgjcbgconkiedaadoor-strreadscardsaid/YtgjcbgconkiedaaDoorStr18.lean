/- The document's own reader of an escape, for every text and place. -/
import Derived.Test.YtgjcbgconkiedaaDoorProg
import Derived.Test.YtgjcbgconkiedaaDoorStr13
import Derived.Test.YtgjcbgconkiedaaDoorStr17
import Derived.WalkKit
import Derived.ProofKit
import Derived.OpenShut
import Derived.Below
import Derived.WalkLawsBesides
import Derived.OwnWalk
import Derived.Lib.IndexBytes
namespace Go.Proofs.YtgjcbgconkiedaaDoor
open Go.ChangeShapes Go.WideShapes Go.ChangeAt Go.RowKit
set_option linter.unusedVariables false

/-- How many blanks a text has from a place on. -/
def blanksN (s : ByteArray) (p : Nat) : Nat := ((s.data.toList.drop p).takeWhile blankB).length
theorem blanks_at (s : ByteArray) (p : Nat) (h : p < s.size) : blanksN s p = if blankB (s[p]'h) = true then blanksN s (p + 1) + 1 else 0 := by
  unfold blanksN
  rw [drop_at s p h, List.takeWhile_cons]
  split <;> simp
theorem blanks_end (s : ByteArray) (p : Nat) (h : ¬ p < s.size) : blanksN s p = 0 := by
  unfold blanksN
  rw [drop_end s p h]; rfl
theorem gap_of (s : ByteArray) (p T : Nat) (hT : blanksN s p = T) (h0 : T ≠ 0) (hb : p + T < s.size) (h9 : (s[p + T]'hb).toNat = 92) : gapN (s.data.toList.drop p) = T + 1 := by
  unfold gapN
  unfold blanksN at hT
  rw [hT, if_neg h0, List.drop_drop, drop_at s (p + T) hb]
  have : s[p + T]'hb = 92 := UInt8.toNat_inj.1 h9
  rw [if_pos (by rw [this]; rfl)]
theorem gap_no (s : ByteArray) (p T : Nat) (hT : blanksN s p = T) (h : T = 0 ∨ ¬ p + T < s.size ∨ ∃ hb : p + T < s.size, (s[p + T]'hb).toNat ≠ 92) : gapN (s.data.toList.drop p) = 0 := by
  unfold gapN
  unfold blanksN at hT
  rw [hT]
  rcases h with h | h | ⟨hb, h⟩
  · rw [if_pos h]
  · split
    · rfl
    · rw [List.drop_drop, drop_end s (p + T) h]
      rfl
  · split
    · rfl
    · rw [List.drop_drop, drop_at s (p + T) hb, if_neg]
      intro e
      have e2 : s[p + T]'hb = 92 := by simpa using e
      exact h (by rw [e2]; rfl)
theorem gap_nonblank (c : UInt8) (r : List UInt8) (h : blankB c = false) : gapN (c :: r) = 0 := by
  unfold gapN
  rw [if_pos (by rw [List.takeWhile_cons, h]; rfl)]
theorem escP_rest (c : UInt8) (r : List UInt8) (n : Nat) (hn : c.toNat = n) (h1 : n ≠ 97 ∧ n ≠ 98 ∧ n ≠ 116 ∧ n ≠ 110 ∧ n ≠ 118 ∧ n ≠ 102 ∧ n ≠ 114) (h2 : n ≠ 34 ∧ n ≠ 92 ∧ n ≠ 94 ∧ n ≠ 117) (h3 : ¬ (48 ≤ n ∧ n ≤ 57)) : escP (c :: r) = (-1, gapN (c :: r)) := by
  cases hb : blankB c
  · rw [gap_nonblank c r hb]
    refine escP_other c r n hn h1 h2 h3 ?_
    unfold blankB at hb
    simp at hb
    omega
  · exact escP_blank c r hb
theorem nonblank_of (c : UInt8) (n : Nat) (hn : c.toNat = n) (h : 32 < n) : blankB c = false := by
  unfold blankB
  simp
  omega
theorem number4 (s : ByteArray) (p : Nat) (w : World) (x : Int) (hx : numP (s.data.toList.drop p) 4 16 = x) (hs : s.size ≤ 281474976710656) (hp : p ≤ s.size) : Calls Tryd.prog 40 #[.string s, .int .i64 (p : Int), .int .i64 4, .int .i64 16] w fun e w' => e = .returned (.int .i64 x) ∧ w' = w := number_any s p 4 16 w x hx hs hp (by decide) (by decide)
theorem number3 (s : ByteArray) (p : Nat) (w : World) (x : Int) (hx : numP (s.data.toList.drop p) 3 10 = x) (hs : s.size ≤ 281474976710656) (hp : p ≤ s.size) : Calls Tryd.prog 40 #[.string s, .int .i64 (p : Int), .int .i64 3, .int .i64 10] w fun e w' => e = .returned (.int .i64 x) ∧ w' = w := number_any s p 3 10 w x hx hs hp (by decide) (by decide)
end Go.Proofs.YtgjcbgconkiedaaDoor
