/- The walk of the law FixScans: it answers true for every text. -/
import Derived.Test.YtjlogbpnehbbbaaDoorFScan2
import Derived.Test.YtjlogbpnehbbbaaDoorRScan
import Derived.Test.YtjlogbpnehbbbaaDoorAlive
namespace Go.Proofs.YtjlogbpnehbbbaaDoor.fixScans
open Go.ChangeShapes Go.WideShapes Go.ChangeAt Go.RowKit

theorem walk (a0 : ByteArray) (w0 : a0.size ≤ maxLen) (w : World) :
    Calls Tryd.prog 4 #[.string a0] w fun e w' => e = .returned (.bool true) ∧ Below w.heap.size w w' := by
  obtain ⟨x, e1⟩ : ∃ x, (scan3 a0.data.toList).1 = x := ⟨_, rfl⟩
  obtain ⟨y, e2⟩ : ∃ x, (scan3 a0.data.toList).2.1 = x := ⟨_, rfl⟩
  obtain ⟨z, e3⟩ : ∃ x, (scan3 a0.data.toList).2.2 = x := ⟨_, rfl⟩
  have HW := hide w0
  clear w0
  go_enter Tryd.func4, Tryd.ntmps4
  go_wp2_with (first | (go_at_call 8; refine (fscan_any _ _ HW.out).mono ?_; rintro e w1 ⟨rfl, g1⟩) | (go_at_call 9; refine (rscan_any _ _ HW.out).mono ?_; rintro e w1 ⟨rfl, rfl⟩) | (go_at_call 7; refine (alive_below _).mono ?_; rintro e w5 ⟨rfl, g5⟩))
  go_ret
  exact ⟨rfl, g1.trans (g5.mono g1.size)⟩
end Go.Proofs.YtjlogbpnehbbbaaDoor.fixScans
