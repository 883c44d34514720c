/- Writers of types: write of an arrow, Text. -/
import Derived.Test.YtlijfkmcaccflaaGreatDoorProg
import Derived.Test.YtlijfkmcaccflaaGreatDoorTy20
import Derived.WalkKit
import Derived.ProofKit
import Derived.OpenShut
import Derived.Below
import Derived.WalkLawsBesides
import Derived.OwnWalk
import Derived.Laws.OwnMore
import Derived.Laws.Rows
import Derived.BigQuiet
import Derived.Deep.QuietTactic
import Derived.Deep.MidRow
import Derived.Deep.RegionHeld
import Derived.Deep.RegionHeld3
import Derived.WalkSmall
import Derived.Deep.DeepCutAuto
namespace Go.Proofs.YtlijfkmcaccflaaGreatDoor
open Go.ChangeShapes Go.WideShapes Go.ChangeAt Go.RowKit

theorem TcAt.kp {w w' : World} {g o W F : Nat} {c : Tc} (h : TcAt w g o c) (k : Wkp W F w w') (hg : g < F) (hn : g ≠ W) : TcAt w' g o c := h.block (k.rest g hg hn)
/-- A builder that holds nothing yet: its row may be made anywhere. -/
theorem Wr.raise {W b F : Nat} {w : World} {ad : Value} (h : Wr W b F w ad (.slice none 0 0) []) : Wr W b w.heap.size w ad (.slice none 0 0) [] := ⟨h.blk, h.ads, World.ownsRow_nil _ _ _ _, h.sm, h.old, Nat.le_refl _⟩

set_option maxRecDepth 100000 in
set_option maxHeartbeats 16000000 in
theorem write_arrow (W b hi F : Nat) (cv : Value) (cs : List Tc) (ad : Value) (x a0 a1 : Nat) (av : Value) (w : World) (hb : Bk b hi w cv cs) (hw : Wr W b F w ad (.slice none 0 0) []) (hhw : hi ≤ W) (hx : Good cs x) (hk : cs.getD (nw cs x) Tc.zero = tArrow av (a0 : Int) (a1 : Int)) (h0 : Good cs a0) (h1 : Good cs a1) (hk0 : cs.getD (nw cs a0) Tc.zero = tInt) (hk1 : cs.getD (nw cs a1) Tc.zero = tInt) :
    Calls Tryz.prog 44 #[.pointer (some ⟨W, 0, none⟩), .int .i64 (x : Int), .int .i64 0] w fun e w' => e = .returned (.tuple #[]) ∧ (∃ F' ad' bv', Wr W b F' w' ad' bv' [105, 110, 116, 32, 45, 62, 32, 105, 110, 116]) ∧ Below W w w' := by
  have CA := hide' (at_any b hi cv cs x w hb hx)
  rw [hk] at CA
  have NX := hb.args _ hx.2.1
  rw [hk] at NX
  obtain ⟨ga, cc, ea, hgal, _, ga0, ga1⟩ : ∃ ga cc, av = .slice (some ⟨ga, 0, none⟩) 2 cc ∧ ga < hi ∧ cv.ownBlock ≠ some ga ∧ w.cell? ⟨ga, 0, none⟩ = some (.int .i64 (a0 : Int)) ∧ w.cell? ⟨ga, 1, none⟩ = some (.int .i64 (a1 : Int)) := by
    obtain ⟨ao, cap, hv, _⟩ := NX
    obtain ⟨g, e1, e2, e3, e4, e5, e6⟩ := nums_two (hb.args _ hx.2.1 |> fun h => by rw [hk] at h; exact h) (show (tArrow av (a0 : Int) (a1 : Int)).av = .slice ao 2 cap from hv)
    exact ⟨g, cap, by rw [← e1]; exact hv, e3, e4, e5, e6⟩
  subst ea
  unfold Tc.val tArrow at CA
  simp only at CA
  have c0 := hw.cell.1
  have HB := hide' hb
  have HW := hide' hw
  have hil := hb.hil
  have hWo := hw.old
  have HK0 := hide' hk0
  have HK1 := hide' hk1
  clear hb hw hx hk NX hk0 hk1
  go_enter Tryz.func44, Tryz.ntmps44
  go_upto_region 1 with (go_at_call 46; refine CA.out.mono ?_; clear CA; rintro e w1 ⟨rfl, b1⟩)
  obtain ⟨w2, hw2⟩ : ∃ w2, w1.alloc (.cells #[.int .i64 4, .int .i64 0, .slice none 0 0, .slice (some ⟨ga, 0, none⟩) 2 cc, .bool false, .int .i64 0, .int .i64 0, .string ⟨#[]⟩, .bool false, .bool false, .int .i64 0, .int .i64 0] 71) = w2 := ⟨_, rfl⟩
  have T2 := TcAt.new w1 (tArrow (.slice (some ⟨ga, 0, none⟩) 2 cc) (a0 : Int) (a1 : Int)) 71
  have e9 : (tArrow (.slice (some ⟨ga, 0, none⟩) 2 cc) (a0 : Int) (a1 : Int)).av = .slice (some ⟨ga, 0, none⟩) 2 cc := rfl
  have T2' : TcAt w2 w1.heap.size 0 (tArrow (.slice (some ⟨ga, 0, none⟩) 2 cc) (a0 : Int) (a1 : Int)) := by rw [← hw2]; exact T2
  clear T2 e9
  try rw [hw2]
  have B2 : Below w1.heap.size w1 w2 := by rw [← hw2]; exact (Below.refl _ _).alloc (Nat.le_refl _) _
  have S2 : w1.heap.size < w2.heap.size := by rw [← hw2]; simp
  have B12 : Below w.heap.size w w2 := b1.trans (B2.mono b1.size)
  have CT := hide' (isTuple_no 4 0 0 (.slice (some ⟨ga, 0, none⟩) 2 cc) _ _ _ rfl (by decide) w2)
  have HT2 := hide' T2'
  obtain ⟨t0, t1, t2, t3, t4, t5, t6, t7, t8, t9, t10, t11⟩ := T2'
  simp only [Nat.zero_add, tArrow] at t0 t1 t2 t3 t4 t5 t6 t7 t8 t9 t10 t11
  have HB12 := hide' B12
  have hs1 := b1.size
  clear hw2 b1 B12 B2
  go_upto_region 18 with (go_at_call 65; refine CT.out.mono ?_; clear CT; rintro e w3 ⟨rfl, b3⟩; (have hc3 := fun b o h => b3.cell (p := ⟨b, o, none⟩) h))
  have B3 : Below w.heap.size w w3 := HB12.out.trans (b3.mono HB12.out.size)
  have W3 := (HW.out.below B3).raise
  have K3 := HB.out.below (B3.mono hil)
  have X3 := HT2.out.below b3 S2
  have hX3 : w1.heap.size < w3.heap.size := Nat.lt_of_lt_of_le S2 b3.size
  have hXW : w1.heap.size ≠ W := by omega
  have hgaW : ga ≠ W := by omega
  have hs3 := B3.size
  have g30 := (B3.cell (p := ⟨ga, 0, none⟩) (show ga < _ by omega)).trans ga0
  have g31 := (B3.cell (p := ⟨ga, 1, none⟩) (show ga < _ by omega)).trans ga1
  have HX3 := hide' X3
  have C4 := hide' (write_con W b hi w3.heap.size cv cs ad (.slice none 0 0) [] a0 1 w3 K3 W3 hhw (by simp) h0 HK0.out)
  have HK3 := hide' K3
  have HB3 := hide' B3
  obtain ⟨F, hF⟩ : ∃ F, w3.heap.size = F := ⟨_, rfl⟩
  rw [hF] at C4 hX3 hs3
  have HF := hide' hF
  have x3 := X3.c3
  simp only [Nat.zero_add, tArrow] at x3
  clear W3 K3 X3 hF B3 t0 t1 t2 t3 t4 t5 t6 t7 t8 t9 t10 t11 hc3 b3 ga0 ga1 c0 HB12 HT2
  go_upto_region 19 with (go_at_call 44; refine C4.out.mono ?_; clear C4; rintro e w4 ⟨rfl, ⟨ad4, bv4, wr4⟩, kp4⟩)
  rw [List.nil_append] at wr4
  have K4 := HK3.out.below ((kp4.below (by omega)).mono hhw)
  have X4 := HX3.out.kp kp4 hX3 hXW
  have g41 := (cell_of_block (a := ⟨ga, 1, none⟩) (kp4.rest ga (by omega) hgaW)).trans g31
  have HKP4 := hide' kp4
  obtain ⟨w5, hw5⟩ : ∃ w5, w4.alloc (.cells #[.string ⟨#[32, 45, 62, 32]⟩] 9) = w5 := ⟨_, rfl⟩
  have B5 : Below w4.heap.size w4 w5 := by rw [← hw5]; exact (Below.refl _ _).alloc (Nat.le_refl _) _
  have k5 : w5.cell? ⟨w4.heap.size, 0, none⟩ = some (.string ⟨#[32, 45, 62, 32]⟩) := by rw [← hw5]; simp
  have wr5 := wr4.below B5
  have C6 := hide' (put_one W b F ad4 bv4 [105, 110, 116] ⟨#[32, 45, 62, 32]⟩ w4.heap.size w5 wr5 (by decide) k5)
  have HWR5 := hide' wr5
  have HB5 : Hid' (Below F w4 w5) := ⟨B5.mono wr4.fh⟩
  have HK5 := hide' (K4.below (B5.mono K4.hil))
  have X5 := X4.below B5 (Nat.lt_of_lt_of_le hX3 wr4.fh)
  have g51 := (B5.cell (p := ⟨ga, 1, none⟩) (show ga < _ by have := wr4.fh; omega)).trans g41
  have HX5 := hide' X5
  clear wr4 kp4 K4 X4 g41 wr5 B5 X5 x3 g30 g31
  go_upto_region 20 with (go_at_call 66; refine C6.out.mono ?_; clear C6; rintro e w6 ⟨rfl, ⟨ad6, bv6, wr6⟩, rel6⟩)
  have kp6 := rel6.kp HWR5.out
  have K6 := HK5.out.below ((kp6.below (by omega)).mono hhw)
  have X6 := HX5.out.kp kp6 hX3 hXW
  have g61 := (cell_of_block (a := ⟨ga, 1, none⟩) (kp6.rest ga (by omega) hgaW)).trans g51
  have x63 := X6.c3
  simp only [Nat.zero_add, tArrow] at x63
  have C7 := hide' (write_con W b hi F cv cs ad6 bv6 _ a1 0 w6 K6 wr6 hhw (by decide) h1 HK1.out)
  have HKP6 := hide' (HKP4.out.trans ((Wkp.of HB5.out).trans kp6))
  clear wr6 kp6 K6 X6 g51 rel6 k5
  go_wp2_with (go_at_call 44; refine C7.out.mono ?_; clear C7; rintro e w7 ⟨rfl, ⟨ad7, bv7, wr7⟩, kp7⟩)
  go_end0
  exact ⟨rfl, ⟨F, ad7, bv7, wr7⟩, (HB3.out.mono (by omega)).trans ((HKP6.out.trans kp7).below (by omega))⟩
end Go.Proofs.YtlijfkmcaccflaaGreatDoor
