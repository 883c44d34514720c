/- Writers of types: apply, write. -/
import Derived.Test.YtlijfkmcaccflaaGreatDoorProg
import Derived.Test.YtlijfkmcaccflaaGreatDoorTy19
import Derived.WalkKit
import Derived.ProofKit
import Derived.OpenShut
import Derived.Below
import Derived.WalkLawsBesides
import Derived.OwnWalk
import Derived.Laws.OwnMore
import Derived.Laws.Rows
import Derived.BigQuiet
import Derived.Deep.QuietTactic
import Derived.Deep.MidRow
import Derived.Deep.RegionHeld
import Derived.Deep.RegionHeld3
import Derived.WalkSmall
import Derived.Deep.DeepCutAuto
namespace Go.Proofs.YtlijfkmcaccflaaGreatDoor
open Go.ChangeShapes Go.WideShapes Go.ChangeAt Go.RowKit

theorem cell_new1 (w : World) (v : Value) (t : TypeId) : (w.alloc (.cells #[v] t)).cell? ⟨w.heap.size, 0, none⟩ = some v := by simp

set_option maxRecDepth 100000 in
set_option maxHeartbeats 16000000 in
theorem apply_con (W b hi F : Nat) (cv : Value) (cs : List Tc) (ad bv : Value) (l : List UInt8) (lv : Int) (w : World) (hb : Bk b hi w cv cs) (hw : Wr W b F w ad bv l) (_hhw : hi ≤ W) (hlen : l.length + 3 ≤ 1000) :
    Calls Tryz.prog 70 #[.pointer (some ⟨W, 0, none⟩), .agg #[.int .i64 2, .int .i64 0, .slice none 0 0, .slice none 0 0, .bool false, .int .i64 0, .int .i64 lv, .string ⟨#[]⟩, .bool false]] w fun e w' => e = .returned (.tuple #[]) ∧ (∃ ad' bv', Wr W b F w' ad' bv' (l ++ [105, 110, 116])) ∧ Wkp W F w w' := by
  obtain ⟨w1, hw1⟩ : ∃ w1, w.alloc (.cells #[.int .i64 2, .int .i64 0, .slice none 0 0, .slice none 0 0, .bool false, .int .i64 0, .int .i64 lv, .string ⟨#[]⟩, .bool false] 54) = w1 := ⟨_, rfl⟩
  have B1 : Below w.heap.size w w1 := by rw [← hw1]; exact (Below.refl _ _).alloc (Nat.le_refl _) _
  have S1 : w.heap.size < w1.heap.size := by rw [← hw1]; simp
  have k1 : w1.cell? ⟨w.heap.size, 1, none⟩ = some (.int .i64 0) := by rw [← hw1]; simp
  have k3 : w1.cell? ⟨w.heap.size, 3, none⟩ = some (.slice none 0 0) := by rw [← hw1]; simp
  have hw1' := hw.below B1
  have hb1 := hb.below (B1.mono hb.hil)
  obtain ⟨gc, hgb, hgh, _, q1, q2, q3⟩ := hb1.cons
  have c0 := hw1'.cell.1
  have CP : Hid' (∀ n : Nat, Calls Tryz.prog 66 #[.pointer (some ⟨W, 0, none⟩), .slice (some ⟨w1.heap.size, 0, none⟩) 1 1] ((w1.drewN n).alloc (.cells #[.string ⟨#[105, 110, 116]⟩] 9)) fun e w' => e = .returned (.tuple #[]) ∧ (∃ ad' bv', Wr W b F w' ad' bv' (l ++ [105, 110, 116])) ∧ Wkp W F w w') := by
    refine ⟨fun n => ?_⟩
    have h2 : Wr W b F ((w1.drewN n).alloc (.cells #[.string ⟨#[105, 110, 116]⟩] 9)) ad bv l := (hw1'.below (below_drew _ _ _)).below ((Below.refl _ _).alloc (Nat.le_refl _) _)
    refine (put_one W b F ad bv l ⟨#[105, 110, 116]⟩ w1.heap.size _ h2 hlen (cell_new1 (w1.drewN n) _ _)).mono ?_
    rintro e w' ⟨h3, h4, h5⟩
    have hF := hw.fh
    have hF1 : F ≤ (w1.drewN n).heap.size := Nat.le_trans hF B1.size
    exact ⟨h3, h4, (Wkp.of (((B1.trans (below_drew _ _ n)).mono hF).alloc hF1 _)).trans (h5.kp h2)⟩
  have hWo := hw.old
  have hhl := hb.hil
  have hbo := hb.old
  have HWF : Hid' (F ≤ w.heap.size) := ⟨hw.fh⟩
  have HB1 := hide' B1
  have HW1 := hide' hw1'
  have HBV : Hid' (∀ g, bv.ownBlock = some g → g < w.heap.size) := ⟨fun g hg => (hw.row.lt g hg).2⟩
  clear hb hw hw1' hb1 B1
  go_enter Tryz.func70, Tryz.ntmps70
  go_upto_region 9 with fail
  try rw [hw1]
  clear hw1
  go_region_with (go_at_call 66; refine (CP.out 1).mono ?_; rintro e w3 ⟨rfl, hwr, hrel⟩)
  all_goals (
    go_end0
    exact ⟨rfl, hwr, hrel⟩)

set_option maxRecDepth 100000 in
set_option maxHeartbeats 16000000 in
theorem write_con (W b hi F : Nat) (cv : Value) (cs : List Tc) (ad bv : Value) (l : List UInt8) (x : Nat) (wh : Int) (w : World) (hb : Bk b hi w cv cs) (hw : Wr W b F w ad bv l) (hhw : hi ≤ W) (hlen : l.length + 3 ≤ 1000) (hx : Good cs x) (hk : cs.getD (nw cs x) Tc.zero = tInt) :
    Calls Tryz.prog 44 #[.pointer (some ⟨W, 0, none⟩), .int .i64 (x : Int), .int .i64 wh] w fun e w' => e = .returned (.tuple #[]) ∧ (∃ ad' bv', Wr W b F w' ad' bv' (l ++ [105, 110, 116])) ∧ Wkp W F w w' := by
  have CA := hide' (at_any b hi cv cs x w hb hx)
  rw [hk] at CA
  unfold Tc.val tInt at CA
  simp only at CA
  have c0 := hw.cell.1
  have HB := hide' hb
  have HW := hide' hw
  have hF := hw.fh
  have hil := hb.hil
  clear hb hw hx hk
  go_enter Tryz.func44, Tryz.ntmps44
  go_upto_region 1 with (go_at_call 46; refine CA.out.mono ?_; clear CA; rintro e w1 ⟨rfl, b1⟩)
  obtain ⟨w2, hw2⟩ : ∃ w2, w1.alloc (.cells #[.int .i64 2, .int .i64 0, .slice none 0 0, .slice none 0 0, .bool false, .int .i64 0, .int .i64 0, .string ⟨#[]⟩, .bool false, .bool false, .int .i64 0, .int .i64 0] 71) = w2 := ⟨_, rfl⟩
  have T2 := TcAt.new w1 tInt 71
  unfold tInt at T2
  simp only at T2
  try rw [hw2]
  rw [hw2] at T2
  have B2 : Below w1.heap.size w1 w2 := by rw [← hw2]; exact (Below.refl _ _).alloc (Nat.le_refl _) _
  have S2 : w1.heap.size < w2.heap.size := by rw [← hw2]; simp
  have B12 : Below w.heap.size w w2 := b1.trans (B2.mono b1.size)
  have CT := hide' (isTuple_no 2 0 0 (.slice none 0 0) none 0 0 rfl (by decide) w2)
  have HT2 := hide' T2
  obtain ⟨t0, t1, t2, t3, t4, t5, t6, t7, t8, t9, t10, t11⟩ := T2
  simp only [Nat.zero_add] at t0 t1 t2 t3 t4 t5 t6 t7 t8 t9 t10 t11
  have CC : Hid' (∀ W3, Below w2.heap.size w2 W3 → Calls Tryz.prog 70 #[.pointer (some ⟨W, 0, none⟩), .agg #[.int .i64 2, .int .i64 0, .slice none 0 0, .slice none 0 0, .bool false, .int .i64 0, .int .i64 0, .string ⟨#[]⟩, .bool false]] W3 fun e w' => e = .returned (.tuple #[]) ∧ (∃ ad' bv', Wr W b F w' ad' bv' (l ++ [105, 110, 116])) ∧ Wkp W F w w') := by
    refine ⟨fun W3 hW3 => ?_⟩
    have B3 := B12.trans (hW3.mono B12.size)
    refine (apply_con W b hi F cv cs ad bv l 0 W3 (HB.out.below (B3.mono hil)) (HW.out.below B3) hhw hlen).mono ?_
    rintro e w' ⟨h1, h2, h3⟩
    exact ⟨h1, h2, (Wkp.of (B3.mono hF)).trans h3⟩
  clear hw2 b1 B12 HB HW
  go_wp2_with (first | (go_at_call 65; refine CT.out.mono ?_; clear CT; rintro e w3 ⟨rfl, b3⟩; (have hc3 := fun b o h => b3.cell (p := ⟨b, o, none⟩) h)) | (go_at_call 70; refine (CC.out _ b3).mono ?_; clear CC; rintro e w4 ⟨rfl, hwr, hrel⟩))
  go_end0
  exact ⟨rfl, hwr, hrel⟩
end Go.Proofs.YtlijfkmcaccflaaGreatDoor
