/- How one byte is written, on both sides. -/
import Derived.Test.YtgjcbgconkiedabDoorProg
import Derived.Test.YtgjcbgconkiedabDoorShelf
import Derived.Test.YtgjcbgconkiedabDoorStr1
import Derived.Test.YtgjcbgconkiedabDoorStr2
import Derived.Test.YtgjcbgconkiedabDoorStr6
import Derived.WalkKit
import Derived.ProofKit
import Derived.OpenShut
import Derived.Below
import Derived.WalkLawsBesides
import Derived.OwnWalk
import Derived.Laws.IdiomStrings
import Derived.Laws.OwnMore
import Derived.Lib.AppendStr
import Derived.Lib.IndexBytes
namespace Go.Proofs.YtgjcbgconkiedabDoor
open Go.ChangeShapes Go.WideShapes Go.ChangeAt Go.RowKit

theorem cells_new (w : World) (xs : List Value) (e : TypeId) : ∀ j u, xs[j]? = some u → (w.alloc (.cells xs.toArray e)).cell? ((⟨w.heap.size, 0, none⟩ : Addr).add j) = some u := by
  intro j u h
  rw [show (⟨w.heap.size, 0, none⟩ : Addr).add j = ⟨w.heap.size, j, none⟩ from by unfold Addr.add; simp; omega, World.cell?_alloc_mark]
  simpa using h

/-- What a byte's text is, in the walk's own words. -/
theorem shown_quote {c : UInt8} (h : c.toNat = 34 ∨ c.toNat = 92) : Lib.byteCells (shownL c) = [.int .u8 92, .int .u8 (c.toNat : Int)] := by
  unfold shownL; rw [if_pos h]; rfl
theorem shown_plain {c : UInt8} (h : plainB c = true) : Lib.byteCells (shownL c) = [.int .u8 (c.toNat : Int)] := by
  unfold plainB at h
  simp at h
  unfold shownL; rw [if_neg (by omega), if_neg (by omega), if_neg (by omega), if_neg (by omega)]; rfl
theorem shown_ctl {c : UInt8} (h : c.toNat < 32) (g : ¬ (7 ≤ c.toNat ∧ c.toNat ≤ 13)) : Lib.byteCells (shownL c) = [.int .u8 92, .int .u8 94, .int .u8 ((c.toNat : Int) + 64)] := by
  unfold shownL; rw [if_neg (by omega), if_neg g, if_pos h]
  simp [Lib.byteCells]
  omega
theorem shown_high {c : UInt8} (h : 127 ≤ c.toNat) : Lib.byteCells (shownL c) = [.int .u8 92, .int .u8 (48 + (c.toNat : Int) / 100), .int .u8 (48 + (c.toNat : Int) / 10 % 10), .int .u8 (48 + (c.toNat : Int) % 10)] := by
  have hc := c.toNat_lt
  unfold shownL; rw [if_neg (by omega), if_neg (by omega), if_neg (by omega), if_pos h]
  simp [Lib.byteCells]
  omega
end Go.Proofs.YtgjcbgconkiedabDoor
