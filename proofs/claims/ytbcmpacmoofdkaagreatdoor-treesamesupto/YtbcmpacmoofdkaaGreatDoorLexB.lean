/- The document's own kinds of bytes. -/
import Derived.Test.YtbcmpacmoofdkaaGreatDoorProg
import Derived.Test.YtbcmpacmoofdkaaGreatDoorStrM
import Derived.WalkKit
import Derived.ProofKit
import Derived.OpenShut
import Derived.Below
import Derived.WalkLawsBesides
import Derived.OwnWalk
import Derived.BigQuiet
import Derived.Lib.IndexBytes
import Derived.Laws.IdiomStrings
import Derived.Laws.OwnMore
import Derived.Lib.AppendStr
import Derived.Lib.UnsafeStr
namespace Go.Proofs.YtbcmpacmoofdkaaGreatDoor
open Go.ChangeShapes Go.WideShapes Go.ChangeAt Go.RowKit

theorem hide {p : Prop} (h : p) : Hid p := h
theorem ret_bool {a b : Bool} (h : a = b) : Ending.returned (.bool a) = .returned (.bool b) := by rw [h]
theorem ret_int {k : IntKind} {a b : Int} (h : a = b) : Ending.returned (.int k a) = .returned (.int k b) := by rw [h]
theorem below_drew (B : Nat) (w : World) (n : Nat) : Below B w (w.drewN n) := ⟨rfl, rfl, rfl, Nat.le_refl _, fun _ _ => rfl⟩
end Go.Proofs.YtbcmpacmoofdkaaGreatDoor
/- Rows of bytes that a call has made. -/
namespace Go.Proofs.YtbcmpacmoofdkaaGreatDoor
open Go.ChangeShapes Go.WideShapes Go.ChangeAt Go.RowKit

theorem infoByte : (Tryz.prog.info? 5).map (fun i => (i.zero, i.size, i.bytes)) = some (some (.int .u8 0), 1, 1) := by kernel_rfl
/-- v is nil or a row of the bytes l, laid behind B. -/
def Own (B : Nat) (v : Value) (l : List UInt8) (w : World) : Prop := w.ownsRow B 5 1 v l.length (Lib.byteCells l)
theorem own_nil (B : Nat) (w : World) : Own B (.slice none 0 0) [] w := World.ownsRow_nil _ _ _ _
theorem own_slice {B : Nat} {v : Value} {l : List UInt8} {w : World} (h : Own B v l w) : ∃ ao cap, v = .slice ao l.length cap := by
  rcases h.2 with ⟨hv, h0⟩ | ⟨g, cap, cur, hv, _⟩
  · exact ⟨none, 0, by rw [hv, h0]⟩
  · exact ⟨_, _, hv⟩
theorem own_string {B : Nat} {v : Value} {l : List UInt8} {w : World} (h : Own B v l w) : (convert 120 9 v).run Tryz.prog w = .ok (.string ⟨l.toArray⟩) w := by
  rcases h.2 with ⟨hv, h0⟩ | ⟨g, cap, cur, hv, _⟩
  · obtain rfl : l = [] := List.eq_nil_of_length_eq_zero h0
    rw [hv, run_convert_bytes_string w _ _ 5 none 0 0 Tryz.underlying120 Tryz.underlying5 Tryz.underlying9]
    rfl
  · have hc := h.cells (g := g) (by rw [hv]; rfl)
    rw [hv]
    refine run_convert_bytes_back _ _ _ 5 _ _ l Tryz.underlying120 Tryz.underlying5 Tryz.underlying9 fun j hj => ?_
    exact hc j _ (by simp [Lib.byteCells, hj])
theorem byteCells_snoc (l : List UInt8) (r : List UInt8) : Lib.byteCells (l ++ r) = Lib.byteCells l ++ Lib.byteCells r := by simp [Lib.byteCells]
theorem cells_new (w : World) (xs : List Value) (e : TypeId) : ∀ j u, xs[j]? = some u → (w.alloc (.cells xs.toArray e)).cell? ((⟨w.heap.size, 0, none⟩ : Addr).add j) = some u := by
  intro j u h
  rw [show (⟨w.heap.size, 0, none⟩ : Addr).add j = ⟨w.heap.size, j, none⟩ from by unfold Addr.add; simp; omega, World.cell?_alloc_mark]
  simpa using h
theorem mk_size (l : List UInt8) : (ByteArray.mk l.toArray).size = l.length := by simp [ByteArray.size]
theorem own_below {B : Nat} {v : Value} {l : List UInt8} {w w' : World} (h : Own B v l w) (b : Below w.heap.size w w') : Own B v l w' := by
  refine ⟨h.1, ?_⟩
  rcases h.2 with h0 | ⟨g, cap, cur, hv, hb, hg, hr⟩
  · exact .inl h0
  · refine .inr ⟨g, cap, cur, hv, hb, ?_, hr⟩
    rw [b.block g (by rcases Nat.lt_or_ge g w.heap.size with x | x
                      · exact x
                      · rw [Array.getElem?_eq_none x] at hg; cases hg)]
    exact hg
/-- One byte more behind a row. -/
theorem own_snoc {B : Nat} {v : Value} {l : List UInt8} {w : World} {L : Nat} {c : UInt8} {x : Value} (e : l.length = L) (hx : x = .int .u8 (c.toNat : Int)) (h : w.ownsRow B 5 1 v (L + 1) (Lib.byteCells l ++ [x])) : Own B v (l ++ [c]) w := by
  subst hx
  unfold Own
  rw [byteCells_snoc, List.length_append, e]
  exact h
theorem own_row {B : Nat} {v : Value} {l : List UInt8} {w : World} {L : Nat} (h : Own B v l w) (e : l.length = L) : w.ownsRow B 5 1 v L (Lib.byteCells l) := by rw [← e]; exact h
end Go.Proofs.YtbcmpacmoofdkaaGreatDoor
