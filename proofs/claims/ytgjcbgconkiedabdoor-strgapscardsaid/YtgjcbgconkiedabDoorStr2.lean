/- Characters and parts of strings on both sides: Sub, Cut, Chr, Cmp. -/
import Derived.Test.YtgjcbgconkiedabDoorProg
import Derived.Test.YtgjcbgconkiedabDoorShelf
import Derived.Test.YtgjcbgconkiedabDoorStr1
import Derived.WalkKit
import Derived.ProofKit
import Derived.OpenShut
import Derived.Below
import Derived.WalkLawsBesides
import Derived.OwnWalk
import Derived.BigQuiet
import Derived.Lib.IndexBytes
import Derived.Laws.IdiomStrings
namespace Go.Proofs.YtgjcbgconkiedabDoor
open Go.ChangeShapes Go.WideShapes Go.ChangeAt Go.RowKit

theorem bytes_at (w : World) (C : Array Value) (l : List UInt8) (e : TypeId) (cap : Nat) (hC : C = (l.map fun b => Value.int .u8 (b.toNat : Int)).toArray) (_he : e = 5) :
    (convert 27 9 (.slice (some ⟨w.heap.size, 0, none⟩) l.length cap)).run Tryd.prog (w.alloc (.cells C e)) = .ok (.string ⟨l.toArray⟩) (w.alloc (.cells C e)) := by
  refine run_convert_bytes_back _ _ _ 5 _ _ l Tryd.underlying27 Tryd.underlying5 Tryd.underlying9 fun j hj => ?_
  rw [show (⟨w.heap.size, 0, none⟩ : Addr).add j = ⟨w.heap.size, j, none⟩ from by unfold Addr.add; simp; omega, World.cell?_alloc_mark, hC]
  simp [hj]

def subE (s : ByteArray) (i : Int) : Int := if ¬ s.size ≤ 65536 then 1 else if i < 0 ∨ (s.size : Int) ≤ i then 32 else 0
def subV (s : ByteArray) (i : Int) : Int := if ¬ s.size ≤ 65536 then 0 else if h : 0 ≤ i ∧ i.toNat < s.size then ((s[i.toNat]'h.2).toNat : Int) else 0
theorem subV_at {s : ByteArray} {k : Nat} (hr : s.size ≤ 65536) (h : k < s.size) : subV s (k : Int) = ((s[k]'h).toNat : Int) := by
  unfold subV
  rw [if_neg (by omega), dif_pos ⟨by omega, by simpa using h⟩]
  simp
theorem subE_at {s : ByteArray} {k : Nat} (hr : s.size ≤ 65536) (h : k < s.size) : subE s (k : Int) = 0 := by
  unfold subE
  rw [if_neg (by omega), if_neg (by omega)]

def cutE (s : ByteArray) (i n : Int) : Int := if ¬ s.size ≤ 65536 then 1 else if i < 0 ∨ n < 0 ∨ (s.size : Int) < i + n then 32 else 0
def cutS (s : ByteArray) (i n : Int) : ByteArray := if ¬ s.size ≤ 65536 then ⟨#[]⟩ else if i < 0 ∨ n < 0 ∨ (s.size : Int) < i + n then ⟨#[]⟩ else s.extract i.toNat (i + n).toNat
theorem cut_at {s : ByteArray} {a b : Nat} (hr : s.size ≤ 65536) (h : a + b ≤ s.size) : cutE s a b = 0 ∧ cutS s a b = s.extract a (a + b) := by
  unfold cutE cutS
  rw [if_neg (by omega), if_neg (by omega), if_neg (by omega), if_neg (by omega)]
  exact ⟨rfl, by congr 1⟩
end Go.Proofs.YtgjcbgconkiedabDoor
