/- The walk of the law StrReads: it answers true for every text. -/
import Derived.Test.YtgjcbgconkiedaaDoorStr19
import Derived.Test.YtgjcbgconkiedaaDoorStr16
namespace Go.Proofs.YtgjcbgconkiedaaDoor.strReads
open Go.ChangeShapes Go.WideShapes Go.ChangeAt Go.RowKit

set_option maxRecDepth 100000 in
theorem walk (a0 : ByteArray) (w0 : a0.size ≤ 140737488351232) (w : World) (R : Rdy w) :
    Calls Tryd.prog 6 #[.string a0] w fun e w' => e = .returned (.bool true) ∧ Below w.heap.size w w' := by
  have C := hide (fun (W : World) (RR : Rdy W) => read_any a0 W RR (by unfold maxLen; omega))
  have D := hide (fun W => rread_any a0 W w0)
  generalize rdS (readL a0.data.toList) = x at C D
  generalize rdP (readL a0.data.toList) = y at C D
  generalize rdE (readL a0.data.toList) = z at C D
  clear w0
  go_enter Tryd.func6, Tryd.ntmps6
  go_wp2_with (first | (go_at_call 24; refine (C.out _ R).mono ?_; rintro e w1 ⟨rfl, b1⟩) | (go_at_call 25; refine (D.out _).mono ?_; rintro e w2 ⟨rfl, b2⟩; have B2 := b1.trans (b2.mono b1.size)) | (go_at_call 11; refine (alive_any _ (R.below B2)).mono ?_; rintro e w3 ⟨rfl, b3⟩))
  go_ret
  exact ⟨rfl, B2.trans (b3.mono B2.size)⟩
end Go.Proofs.YtgjcbgconkiedaaDoor.strReads
