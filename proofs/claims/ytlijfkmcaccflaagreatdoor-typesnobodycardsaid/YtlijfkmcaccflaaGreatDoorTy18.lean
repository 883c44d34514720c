/- Writers of types: put, isTuple, at, apply, write, Text. -/
import Derived.Test.YtlijfkmcaccflaaGreatDoorProg
import Derived.Test.YtlijfkmcaccflaaGreatDoorTy17
import Derived.WalkKit
import Derived.ProofKit
import Derived.OpenShut
import Derived.Below
import Derived.WalkLawsBesides
import Derived.OwnWalk
import Derived.Laws.OwnMore
import Derived.BigQuiet
import Derived.Deep.QuietTactic
import Derived.Deep.MidRow
import Derived.Deep.RegionHeld
import Derived.Deep.RegionHeld3
import Derived.WalkSmall
import Derived.Deep.DeepCutAuto
namespace Go.Proofs.YtlijfkmcaccflaaGreatDoor
open Go.ChangeShapes Go.WideShapes Go.ChangeAt Go.RowKit

set_option maxRecDepth 100000 in
set_option maxHeartbeats 8000000 in
theorem put_one (W b F : Nat) (ad bv : Value) (l : List UInt8) (s : ByteArray) (g : Nat) (w : World) (h : Wr W b F w ad bv l) (hlen : l.length + s.size ≤ 1000) (hg : w.cell? ⟨g, 0, none⟩ = some (.string s)) :
    Calls Tryz.prog 66 #[.pointer (some ⟨W, 0, none⟩), .slice (some ⟨g, 0, none⟩) 1 1] w fun e w' => e = .returned (.tuple #[]) ∧ (∃ ad' bv', Wr W b F w' ad' bv' (l ++ s.data.toList)) ∧ Wrel W bv w w' := by
  have CL := hide' (len_any W b F ad bv l w h)
  obtain ⟨c0, c3, c4, c5⟩ := h.cell
  have f5 := h.frozen 5
  have h2 : Wr W b F (w.setCell ⟨W, 5, none⟩ (.bool false)) ad bv l := by
    obtain ⟨nv, mv, hbk⟩ := h.blk
    exact ⟨⟨nv, mv, heap_setCell_same w W 5 _ _ _ hbk⟩, h.ads, ownsRow_setCell_below h.row (a := ⟨W, 5, none⟩) h.wf _, h.sm, h.wf, by simpa using h.fh⟩
  have CW := hide' (write_any W b F ad bv l s _ h2 hlen)
  have hs2 : Wrel W bv w (w.setCell ⟨W, 5, none⟩ (.bool false)) := ⟨rfl, rfl, rfl, by simp, fun k _ h2 _ => Below.heap_setCell _ _ _ _ (by show k ≠ W; exact h2)⟩
  have HS2 := hide' hs2
  have hc1 : decide ((s.size : Int) > (1048576 : Int) - (l.length : Int)) = false := by simp; omega
  have hll : l.length ≤ 1000 := by omega
  have hss : s.size ≤ 1000 := by omega
  have hsl := hlen
  generalize l.length = L at *
  clear h h2 hs2 c3 c4
  go_enter Tryz.func66, Tryz.ntmps66
  go_wp2
  go_loopw [8] (fun vi wr => (vi = .int .i64 0 ∧ wr = w) ∨ (vi = .int .i64 1 ∧ Hid' ((∃ ad' bv', Wr W b F wr ad' bv' (l ++ s.data.toList)) ∧ Wrel W bv w wr))) (fun vi _ => 1 - (intOf vi).toNat)
  case atStart => exact .inl ⟨rfl, rfl⟩
  case round =>
    rcases hrel with ⟨rfl, hw⟩ | ⟨rfl, HI⟩
    · obtain rfl : w = _ := hw.symm
      go_wp2_with (first | (go_at_call 83; refine CL.out.mono ?_; clear CL; rintro e w1 ⟨rfl, h9⟩; replace h9 := h9.symm; subst h9) | (go_at_call 84; refine CW.out.mono ?_; clear CW; rintro e w2 ⟨rfl, hwr, hbl⟩))
      go_roundw
      case rel => exact .inr ⟨by go_num, ⟨hwr, ⟨hbl.os.trans HS2.out.os, hbl.tape.trans HS2.out.tape, hbl.output.trans HS2.out.output, Nat.le_trans HS2.out.size hbl.size, fun k h1 h2 h3 => (hbl.rest k (Nat.lt_of_lt_of_le h1 HS2.out.size) h2 h3).trans (HS2.out.rest k h1 h2 h3)⟩⟩⟩
      case measure => simp [intOf]
    · go_wp2
      go_end0
      exact ⟨rfl, HI.out.1, HI.out.2⟩

set_option maxRecDepth 100000 in
set_option maxHeartbeats 8000000 in
theorem isTuple_no (k c lv : Int) (av : Value) (ao : Option Addr) (A cap : Nat) (hv : av = .slice ao A cap) (hk : k ≠ 3) (w : World) :
    Calls Tryz.prog 65 #[.agg #[.int .i64 k, .int .i64 c, .slice none 0 0, av, .bool false, .int .i64 0, .int .i64 lv, .string ⟨#[]⟩, .bool false]] w fun e w' => e = .returned (.bool false) ∧ Below w.heap.size w w' := by
  subst hv
  have hk2 : (k == 3) = false := by simpa using hk
  clear hk
  obtain ⟨w1, hw1⟩ : ∃ w1, w.alloc (.cells #[.int .i64 k, .int .i64 c, .slice none 0 0, .slice ao A cap, .bool false, .int .i64 0, .int .i64 lv, .string ⟨#[]⟩, .bool false] 54) = w1 := ⟨_, rfl⟩
  have B1 : Below w.heap.size w w1 := by rw [← hw1]; exact (Below.refl _ _).alloc (Nat.le_refl _) _
  have k0 : w1.cell? ⟨w.heap.size, 0, none⟩ = some (.int .i64 k) := by rw [← hw1]; simp
  have k2 : w1.cell? ⟨w.heap.size, 2, none⟩ = some (.slice none 0 0) := by rw [← hw1]; simp
  go_enter Tryz.func65, Tryz.ntmps65
  go_upto_region 2 with fail
  try rw [hw1]
  clear hw1
  go_quiet (fail)
  go_wp2
  go_ret
  exact ⟨rfl, B1.trans (below_drew _ _ _)⟩
end Go.Proofs.YtlijfkmcaccflaaGreatDoor
