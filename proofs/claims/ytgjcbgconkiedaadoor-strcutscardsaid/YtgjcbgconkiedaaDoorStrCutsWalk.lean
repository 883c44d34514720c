/- The walk of the law StrCuts: it answers true for every two texts, place and length. -/
import Derived.Test.YtgjcbgconkiedaaDoorStr2
import Derived.Test.YtgjcbgconkiedaaDoorStr3
import Derived.Test.YtgjcbgconkiedaaDoorStr16
namespace Go.Proofs.YtgjcbgconkiedaaDoor.strCuts
open Go.ChangeShapes Go.WideShapes Go.ChangeAt Go.RowKit

set_option maxRecDepth 100000 in
set_option maxHeartbeats 2000000 in
theorem walk (s t : ByteArray) (i n : Int) (hs : s.size ≤ maxLen) (ht : t.size ≤ maxLen) (hi : -9223372036854775808 ≤ i ∧ i ≤ 9223372036854775807) (hn : -9223372036854775808 ≤ n ∧ n ≤ 9223372036854775807) (w : World) (R : Rdy w) :
    Calls Tryd.prog 4 #[.string s, .string t, .int .i64 i, .int .i64 n] w fun e w' => e = .returned (.bool true) ∧ Below w.heap.size w w' := by
  have C1 := hide (fun W => sub_any s i W hs)
  have D1 := hide (fun W => rsub_any s i W hs)
  have C2 := hide (fun W => cut_any s i n W hs hi hn)
  have D2 := hide (fun W => rcut_any s i n W hs hi hn)
  have C3 := hide (fun W => chr_any n W)
  have D3 := hide (fun W => rchr_any n W)
  have C4 := hide (fun W => cmp_any s t W)
  have D4 := hide (fun W => rcmp_any s t W hs ht)
  have C5 := hide (fun W => right_any s W)
  have D5 := hide (fun W => rright_any s W)
  generalize subV s i = x1 at C1 D1
  generalize subE s i = y1 at C1 D1
  generalize cutS s i n = x2 at C2 D2
  generalize cutE s i n = y2 at C2 D2
  generalize chrS n = x3 at C3 D3
  generalize chrE n = y3 at C3 D3
  generalize cmpI s t = x4 at C4 D4
  generalize decide (s.size ≤ 65536) = x5 at C5 D5
  clear hs ht hi hn
  go_enter Tryd.func4, Tryd.ntmps4
  go_wp2_with (first
    | (go_at_call 12; refine (C1.out _).mono ?_; rintro e w0 ⟨rfl, h0⟩; replace h0 := h0.symm; subst h0)
    | (go_at_call 13; refine (D1.out _).mono ?_; rintro e w0 ⟨rfl, h0⟩; replace h0 := h0.symm; subst h0)
    | (go_at_call 14; refine (C2.out _).mono ?_; rintro e w1 ⟨rfl, b1⟩)
    | (go_at_call 15; refine (D2.out _).mono ?_; rintro e w0 ⟨rfl, h0⟩; replace h0 := h0.symm; subst h0)
    | (go_at_call 16; refine (C3.out _).mono ?_; rintro e w2 ⟨rfl, b2⟩; have B2 := b1.trans (b2.mono b1.size))
    | (go_at_call 17; refine (D3.out _).mono ?_; rintro e w3 ⟨rfl, b3⟩; have B3 := B2.trans (b3.mono B2.size))
    | (go_at_call 18; refine (C4.out _).mono ?_; rintro e w0 ⟨rfl, h0⟩; replace h0 := h0.symm; subst h0)
    | (go_at_call 19; refine (D4.out _).mono ?_; rintro e w4 ⟨rfl, b4⟩; have B4 := B3.trans (b4.mono B3.size))
    | (go_at_call 20; refine (C5.out _).mono ?_; rintro e w0 ⟨rfl, h0⟩; replace h0 := h0.symm; subst h0)
    | (go_at_call 21; refine (D5.out _).mono ?_; rintro e w0 ⟨rfl, h0⟩; replace h0 := h0.symm; subst h0)
    | (go_at_call 11; refine (alive_any _ (R.below B4)).mono ?_; rintro e w5 ⟨rfl, b5⟩))
  go_ret
  exact ⟨rfl, B4.trans (b5.mono B4.size)⟩
end Go.Proofs.YtgjcbgconkiedaaDoor.strCuts
