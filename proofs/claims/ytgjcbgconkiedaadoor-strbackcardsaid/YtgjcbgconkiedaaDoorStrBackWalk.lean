/- The walk of the law StrBack: it answers true for every string. -/
import Derived.Test.YtgjcbgconkiedaaDoorStr9
import Derived.Test.YtgjcbgconkiedaaDoorStr16
namespace Go.Proofs.YtgjcbgconkiedaaDoor.strBack
open Go.ChangeShapes Go.WideShapes Go.ChangeAt Go.RowKit

set_option maxRecDepth 100000 in
theorem walk (s : ByteArray) (w : World) (R : Rdy w) :
    Calls Tryd.prog 7 #[.string s] w fun e w' => e = .returned (.bool true) ∧ Below w.heap.size w w' := by
  have C := hide (fun W => escape_any s W)
  by_cases hr : s.size ≤ 65536
  · by_cases hl : 65536 < (escL s.data.toList).length
    · have e := esc_long hr hl
      rw [e.1, e.2] at C
      clear e hr hl
      go_enter Tryd.func7, Tryd.ntmps7
      go_wp2_with (first | (go_at_call 22; refine (C.out _).mono ?_; rintro e w1 ⟨rfl, b1⟩) | (go_at_call 11; refine (alive_any _ (R.below b1)).mono ?_; rintro e w3 ⟨rfl, b3⟩))
      go_ret
      exact ⟨rfl, b1.trans (b3.mono b1.size)⟩
    · have e := esc_ok hr hl
      have D : ∀ W, Rdy W → Calls Tryd.prog 24 #[.string (escS s)] W fun e w' => e = .returned (.tuple #[.string s, .int .i64 0, .int .i64 0]) ∧ Below W.heap.size W w' := by
        intro W h
        have h2 := read_any (escS s) W h (by rw [e.2, mk_size]; unfold maxLen; omega)
        have e2 : readL (escS s).data.toList = (s.data.toList, none) := by rw [e.2]; exact readL_escL _
        have e3 := rd_ok s.data.toList (by rw [← Lib.size_eq]; omega)
        rw [e2, e3.1, e3.2.1, e3.2.2] at h2
        exact h2
      have HD := hide D
      rw [e.1] at C
      clear e hr hl D
      generalize escS s = x at C HD
      go_enter Tryd.func7, Tryd.ntmps7
      go_wp2_with (first | (go_at_call 22; refine (C.out _).mono ?_; rintro e w1 ⟨rfl, b1⟩) | (go_at_call 24; refine (HD.out _ (R.below b1)).mono ?_; rintro e w2 ⟨rfl, b2⟩; have B2 := b1.trans (b2.mono b1.size)) | (go_at_call 11; refine (alive_any _ (R.below B2)).mono ?_; rintro e w3 ⟨rfl, b3⟩))
      go_ret
      exact ⟨rfl, B2.trans (b3.mono B2.size)⟩
  · have e := esc_arg hr
    rw [e.1, e.2] at C
    clear e hr
    go_enter Tryd.func7, Tryd.ntmps7
    go_wp2_with (first | (go_at_call 22; refine (C.out _).mono ?_; rintro e w1 ⟨rfl, b1⟩) | (go_at_call 11; refine (alive_any _ (R.below b1)).mono ?_; rintro e w3 ⟨rfl, b3⟩))
    go_ret
    exact ⟨rfl, b1.trans (b3.mono b1.size)⟩
end Go.Proofs.YtgjcbgconkiedaaDoor.strBack
