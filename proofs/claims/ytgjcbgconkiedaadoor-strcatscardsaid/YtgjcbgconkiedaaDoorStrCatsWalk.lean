/- The walk of the law StrCats: it answers true for every row of strings. -/
import Derived.Test.YtgjcbgconkiedaaDoorStr6
import Derived.Test.YtgjcbgconkiedaaDoorStr16
namespace Go.Proofs.YtgjcbgconkiedaaDoor.strCats
open Go.ChangeShapes Go.WideShapes Go.ChangeAt Go.RowKit

theorem strs_below {w w' : World} {v : Value} {zs : List ByteArray} (h : Strs w v zs) (b : Below w.heap.size w w') : Strs w' v zs := by
  obtain ⟨ao, cap, hv, hm, hc⟩ := h
  refine ⟨ao, cap, hv, hm, fun j hj => ?_⟩
  obtain ⟨a, ha, hab, hcell⟩ := hc j hj
  exact ⟨a, ha, Nat.lt_of_lt_of_le hab b.size, by rw [b.cell (p := a.add j) (by rw [add_block]; exact hab)]; exact hcell⟩

set_option maxRecDepth 100000 in
theorem walk (v : Value) (zs : List ByteArray) (w : World) (R : Rdy w) (hv : Strs w v zs) (hz : ∀ j, j < zs.length → (zs.getD j ByteArray.empty).size ≤ maxLen) :
    Calls Tryd.prog 3 #[v] w fun e w' => e = .returned (.bool true) ∧ Below w.heap.size w w' := by
  have C := hide (fun W (h : Strs W v zs) => cat_any v zs W h)
  have D := hide (fun W (h : Strs W v zs) => rcat_any v zs W h hz)
  have HV := hide hv
  clear hz hv
  generalize catS zs = x at C D
  generalize catE zs = y at C D
  go_enter Tryd.func3, Tryd.ntmps3
  go_wp2_with (first | (go_at_call 9; refine (C.out _ HV.out).mono ?_; rintro e w1 ⟨rfl, b1⟩) | (go_at_call 10; refine (D.out _ (strs_below HV.out b1)).mono ?_; rintro e w2 ⟨rfl, b2⟩; have B2 := b1.trans (b2.mono b1.size)) | (go_at_call 11; refine (alive_any _ (R.below B2)).mono ?_; rintro e w3 ⟨rfl, b3⟩))
  go_ret
  exact ⟨rfl, B2.trans (b3.mono B2.size)⟩
end Go.Proofs.YtgjcbgconkiedaaDoor.strCats
