/- The walk of the law FixTexts: it answers true for every int64. -/
import Derived.Test.YtjlogbpnehbbbaaDoorRefText
import Derived.Test.YtjlogbpnehbbbaaDoorAlive
namespace Go.Proofs.YtjlogbpnehbbbaaDoor.fixTexts
open Go.ChangeShapes Go.WideShapes Go.ChangeAt Go.RowKit

theorem walk (a0 : Int) (w : World) (htab : Lib.TabIs Tryd.prog w "internal/strconv.uint64pow10" .u64 Lib.pow10Tab) :
    Calls Tryd.prog 3 #[.int .i64 a0] w fun e w' => e = .returned (.bool true) ∧ Below w.heap.size w w' := by
  obtain ⟨s, e1⟩ : ∃ x, textB a0 = x := ⟨_, rfl⟩
  obtain ⟨t, e2⟩ : ∃ x, textE a0 = x := ⟨_, rfl⟩
  have HT := hide htab
  clear htab
  go_enter Tryd.func3, Tryd.ntmps3
  go_wp2_with (first | (go_at_call 5; refine (ftext_any _ _ HT.out).mono ?_; rintro e w1 ⟨rfl, g1⟩) | (go_at_call 6; refine (rtext_any _ _).mono ?_; rintro e w1 ⟨rfl, rfl⟩) | (go_at_call 7; refine (alive_below _).mono ?_; rintro e w5 ⟨rfl, g5⟩))
  go_ret
  exact ⟨rfl, g1.trans (g5.mono g1.size)⟩
end Go.Proofs.YtjlogbpnehbbbaaDoor.fixTexts
