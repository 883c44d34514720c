/- How a string stands in a program, on both sides. -/
import Derived.Test.YtgjcbgconkiedabDoorProg
import Derived.Test.YtgjcbgconkiedabDoorStr7
import Derived.Test.YtgjcbgconkiedabDoorStr8
import Derived.Test.YtgjcbgconkiedabDoorStr3
import Derived.WalkKit
import Derived.ProofKit
import Derived.OpenShut
import Derived.Below
import Derived.WalkLawsBesides
import Derived.OwnWalk
import Derived.Laws.IdiomStrings
import Derived.Lib.AppendStr
import Derived.Lib.IndexBytes
namespace Go.Proofs.YtgjcbgconkiedabDoor
open Go.ChangeShapes Go.WideShapes Go.ChangeAt Go.RowKit

def escE (s : ByteArray) : Int := if ¬ s.size ≤ 65536 then 1 else if 65536 < (escL s.data.toList).length then 2 else 0
def escS (s : ByteArray) : ByteArray := if escE s = 0 then ⟨(escL s.data.toList).toArray⟩ else ⟨#[]⟩
theorem escL_snoc (s : ByteArray) (k : Nat) (h : k < s.size) : escL (s.data.toList.take (k + 1)) = escL (s.data.toList.take k) ++ shownL (s[k]'h) := by
  have hl : k < s.data.toList.length := by simpa using h
  rw [List.take_succ_eq_append_getElem hl]
  simp only [escL, List.flatMap_append]
  simp
  rfl
theorem escL_len (l : List UInt8) : (escL l).length ≤ 4 * l.length := by
  induction l with
  | nil => simp [escL]
  | cons c r ih =>
    have e : escL (c :: r) = shownL c ++ escL r := by simp [escL]
    have := shown_len c
    rw [e, List.length_append, List.length_cons]
    omega
theorem escL_take_len (s : ByteArray) (k : Nat) : (escL (s.data.toList.take k)).length ≤ 4 * k := by
  have := escL_len (s.data.toList.take k)
  have h2 : (s.data.toList.take k).length ≤ k := List.length_take_le _ _
  omega
theorem esc_arg {s : ByteArray} (h : ¬ s.size ≤ 65536) : escE s = 1 ∧ escS s = ⟨#[]⟩ := by
  have e : escE s = 1 := by unfold escE; rw [if_pos h]
  exact ⟨e, by unfold escS; rw [e]; rfl⟩
theorem esc_long {s : ByteArray} (h : s.size ≤ 65536) (g : 65536 < (escL s.data.toList).length) : escE s = 2 ∧ escS s = ⟨#[]⟩ := by
  have e : escE s = 2 := by unfold escE; rw [if_neg (by omega), if_pos g]
  exact ⟨e, by unfold escS; rw [e]; rfl⟩
theorem esc_ok {s : ByteArray} (h : s.size ≤ 65536) (g : ¬ 65536 < (escL s.data.toList).length) : escE s = 0 ∧ escS s = ⟨(escL s.data.toList).toArray⟩ := by
  have e : escE s = 0 := by unfold escE; rw [if_neg (by omega), if_neg g]
  exact ⟨e, by unfold escS; rw [e]; rfl⟩

theorem mk_size (l : List UInt8) : (ByteArray.mk l.toArray).size = l.length := by simp [ByteArray.size]

theorem own_below {B : Nat} {v : Value} {l : List UInt8} {w w' : World} (h : Own B v l w) (b : Below w.heap.size w w') : Own B v l w' := by
  refine ⟨h.1, ?_⟩
  rcases h.2 with h0 | ⟨g, cap, cur, hv, hb, hg, hr⟩
  · exact .inl h0
  · refine .inr ⟨g, cap, cur, hv, hb, ?_, hr⟩
    rw [b.block g (by rcases Nat.lt_or_ge g w.heap.size with x | x
                      · exact x
                      · rw [Array.getElem?_eq_none x] at hg; cases hg)]
    exact hg
end Go.Proofs.YtgjcbgconkiedabDoor
