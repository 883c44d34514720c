/- A look-up in a map without entries. -/
import Derived.Test.YtlijfkmcaccflaaGreatDoorProg
import Derived.Test.YtlijfkmcaccflaaGreatDoorTy15
import Derived.Maps.Own
import Derived.Maps.OwnSet
import Derived.WideMake
import Derived.Carry
namespace Go.Proofs.YtlijfkmcaccflaaGreatDoor
open Go.ChangeShapes Go.WideShapes Go.ChangeAt Go.RowKit

theorem lookup_empty (m : Nat) (p : Int) (w : World) (h : w.heap[m]? = some (.map #[] 0)) : (Instr.lookup 104 (.map (some m)) (.int .i64 p) true).run Tryz.prog w = .ok (.tuple #[.agg #[], .bool false]) w := by
  have hm : Tryz.prog.underlying 104 = some (.map 3 106) := Tryz.underlying104
  have hk : Tryz.prog.underlying 3 = some (.int .i64) := Tryz.underlying3
  have hf : Instr.findNow (.int .i64) (.int .i64 p) ([] : List MapEntry) 0 = some none := rfl
  have hc : (Instr.checkKey true 10000 3 (.int .i64 p)).run Tryz.prog w = .ok () w := MapKept.run_checkKey (k := .int .i64 p) hk (by simp [MapKept.IsKey]) true 9999
  have hz : (zeroValue 106).run Tryz.prog w = .ok (.agg #[]) w := by kernel_rfl
  simp [Instr.lookup, run_underlying hm, MapKept.run_getObj_map h, hc, MapKept.run_findKey hk hf, hz, Result.andThen]
end Go.Proofs.YtlijfkmcaccflaaGreatDoor
