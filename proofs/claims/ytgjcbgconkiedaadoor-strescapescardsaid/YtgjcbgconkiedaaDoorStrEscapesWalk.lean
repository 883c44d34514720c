/- The walk of the law StrEscapes: it answers true for every string. -/
import Derived.Test.YtgjcbgconkiedaaDoorStr9
import Derived.Test.YtgjcbgconkiedaaDoorStr16
namespace Go.Proofs.YtgjcbgconkiedaaDoor.strEscapes
open Go.ChangeShapes Go.WideShapes Go.ChangeAt Go.RowKit

set_option maxRecDepth 100000 in
theorem walk (a0 : ByteArray) (w : World) (R : Rdy w) :
    Calls Tryd.prog 5 #[.string a0] w fun e w' => e = .returned (.bool true) ∧ Below w.heap.size w w' := by
  have C := hide (fun W => escape_any a0 W)
  have D := hide (fun W => rescape_any a0 W)
  generalize escS a0 = x at C D
  generalize escE a0 = y at C D
  go_enter Tryd.func5, Tryd.ntmps5
  go_wp2_with (first | (go_at_call 22; refine (C.out _).mono ?_; rintro e w1 ⟨rfl, b1⟩) | (go_at_call 23; refine (D.out _).mono ?_; rintro e w2 ⟨rfl, b2⟩; have B2 := b1.trans (b2.mono b1.size)) | (go_at_call 11; refine (alive_any _ (R.below B2)).mono ?_; rintro e w3 ⟨rfl, b3⟩))
  go_ret
  exact ⟨rfl, B2.trans (b3.mono B2.size)⟩
end Go.Proofs.YtgjcbgconkiedaaDoor.strEscapes
