/- The walk of TypesNobody. -/
import Derived.Test.YtlijfkmcaccflaaGreatDoorProg
import Derived.Test.YtlijfkmcaccflaaGreatDoorTy23
import Derived.Test.YtlijfkmcaccflaaGreatDoorTy24
import Derived.WalkKit
import Derived.ProofKit
import Derived.OpenShut
import Derived.Below
import Derived.WalkLawsBesides
import Derived.OwnWalk
import Derived.BigQuiet
import Derived.WalkSmall
import Derived.Deep.DeepCutAuto
namespace Go.Proofs.YtlijfkmcaccflaaGreatDoor
open Go.ChangeShapes Go.WideShapes Go.ChangeAt Go.RowKit

theorem nobody_nil (B : Nat) (w : World) : Nobody (.pointer none) B w := fun W _ => made_no W
theorem nobody_zero (c B : Nat) (w : World) (h : w.cell? ⟨c, 0, none⟩ = some (.pointer none)) (hc : c < B) : Nobody (.pointer (some ⟨c, 0, none⟩)) B w := fun W hW => made_zero c W ((hW.cell (p := ⟨c, 0, none⟩) hc).trans h)
/-- The op that is handed in, boxed, and the book that nobody made. -/
structure Ob (U C : Nat) (W : World) (l : Int) (q : Bool) (c : Int) (s : ByteArray) (n : Int) (lv av : Value) : Prop where
  c1 : W.cell? ⟨U, 1, none⟩ = some (.int .i64 l)
  c2 : W.cell? ⟨U, 2, none⟩ = some (.bool q)
  c3 : W.cell? ⟨U, 3, none⟩ = some (.int .i64 c)
  c4 : W.cell? ⟨U, 4, none⟩ = some (.string s)
  c5 : W.cell? ⟨U, 5, none⟩ = some (.int .i64 n)
  c7 : W.cell? ⟨U, 7, none⟩ = some lv
  c8 : W.cell? ⟨U, 8, none⟩ = some av
  k0 : W.cell? ⟨C, 0, none⟩ = some (.pointer none)
  hU : U < W.heap.size
  hC : C < W.heap.size
theorem Ob.below {U C : Nat} {W W' : World} {l : Int} {q : Bool} {c : Int} {s : ByteArray} {n : Int} {lv av : Value} (h : Ob U C W l q c s n lv av) (b : Below W.heap.size W W') : Ob U C W' l q c s n lv av :=
  ⟨(b.cell (p := ⟨U, 1, none⟩) h.hU).trans h.c1, (b.cell (p := ⟨U, 2, none⟩) h.hU).trans h.c2, (b.cell (p := ⟨U, 3, none⟩) h.hU).trans h.c3, (b.cell (p := ⟨U, 4, none⟩) h.hU).trans h.c4, (b.cell (p := ⟨U, 5, none⟩) h.hU).trans h.c5, (b.cell (p := ⟨U, 7, none⟩) h.hU).trans h.c7, (b.cell (p := ⟨U, 8, none⟩) h.hU).trans h.c8, (b.cell (p := ⟨C, 0, none⟩) h.hC).trans h.k0, Nat.lt_of_lt_of_le h.hU b.size, Nat.lt_of_lt_of_le h.hC b.size⟩

set_option maxRecDepth 100000 in
set_option maxHeartbeats 32000000 in
theorem law_any (k l : Int) (q : Bool) (c : Int) (s : ByteArray) (n m : Int) (lo ao : Option Addr) (ln lc an ac : Nat) (w : World) :
    Calls Tryz.prog 3 #[.agg #[.int .i64 k, .int .i64 l, .bool q, .int .i64 c, .string s, .int .i64 n, .int .i64 m, .slice lo ln lc, .slice ao an ac]] w fun e w' => e = .returned (.bool true) ∧ Below w.heap.size w w' := by
  obtain ⟨w0, hw0⟩ : ∃ w0, (w.alloc (.cells #[.int .i64 k, .int .i64 l, .bool q, .int .i64 c, .string s, .int .i64 n, .int .i64 m, .slice lo ln lc, .slice ao an ac] 25)).alloc (.cells #[.pointer none, .slice none 0 0, .slice none 0 0] 30) = w0 := ⟨_, rfl⟩
  have B0 : Below w.heap.size w w0 := by rw [← hw0]; exact ((Below.refl _ _).alloc (Nat.le_refl _) _).alloc (by simp) _
  have O0 : Ob w.heap.size (w.heap.size + 1) w0 l q c s n (.slice lo ln lc) (.slice ao an ac) := by rw [← hw0]; constructor <;> simp <;> omega
  have HB0 := hide' B0
  have HO0 := hide' O0
  have HW0 := hide' hw0
  clear B0 O0 hw0
  go_enter Tryz.func3, Tryz.ntmps3
  go_upto_region 3 with fail
  try rw [HW0.out]
  clear HW0
  obtain ⟨U, hU⟩ : ∃ U, w.heap.size = U := ⟨_, rfl⟩
  obtain ⟨C, hC⟩ : ∃ C, U + 1 = C := ⟨_, rfl⟩
  have HU := hide' hU
  have HC := hide' hC
  rw [hU, hC] at HO0
  try rw [hU]
  try rw [hC]
  clear hU hC
  have x0 := HO0.out
  obtain ⟨c1, c2, c3, c4, c5, c7, c8, k0, hU, hC⟩ := x0
  have CX := hide' (nobody_Con none s n w0 (nobody_nil _ _))
  go_upto_region 4 with (go_at_call 4; refine CX.out.mono ?_; clear CX; rintro e v1 ⟨rfl, b1⟩)
  have E1 := HO0.out.below b1
  have HB1 := hide' (HB0.out.trans (b1.mono HB0.out.size))
  obtain ⟨w1, hw1⟩ : ∃ x, v1 = x := ⟨_, rfl⟩
  rw [hw1] at E1 HB1 ⊢
  have HO1 := hide' E1
  clear c1 c2 c3 c4 c5 c7 c8 k0 hU hC b1 E1 hw1 HO0 HB0
  have x1 := HO1.out
  obtain ⟨c1, c2, c3, c4, c5, c7, c8, k0, hU, hC⟩ := x1
  have CX := hide' (nobody_Var (some ⟨C, 0, none⟩) l c q w1 (nobody_zero C _ _ HO1.out.k0 HO1.out.hC))
  go_upto_region 5 with (go_at_call 5; refine CX.out.mono ?_; clear CX; rintro e v2 ⟨rfl, b2⟩)
  have E2 := HO1.out.below b2
  have HB2 := hide' (HB1.out.trans (b2.mono HB1.out.size))
  obtain ⟨w2, hw2⟩ : ∃ x, v2 = x := ⟨_, rfl⟩
  rw [hw2] at E2 HB2 ⊢
  have HO2 := hide' E2
  clear c1 c2 c3 c4 c5 c7 c8 k0 hU hC b2 E2 hw2 HO1 HB1
  have x2 := HO2.out
  obtain ⟨c1, c2, c3, c4, c5, c7, c8, k0, hU, hC⟩ := x2
  have CX := hide' (nobody_Rigid none l s w2 (nobody_nil _ _))
  go_upto_region 6 with (go_at_call 6; refine CX.out.mono ?_; clear CX; rintro e v3 ⟨rfl, b3⟩)
  have E3 := HO2.out.below b3
  have HB3 := hide' (HB2.out.trans (b3.mono HB2.out.size))
  obtain ⟨w3, hw3⟩ : ∃ x, v3 = x := ⟨_, rfl⟩
  rw [hw3] at E3 HB3 ⊢
  have HO3 := hide' E3
  clear c1 c2 c3 c4 c5 c7 c8 k0 hU hC b3 E3 hw3 HO2 HB2
  have x3 := HO3.out
  obtain ⟨c1, c2, c3, c4, c5, c7, c8, k0, hU, hC⟩ := x3
  have CX := hide' (nobody_Apply (some ⟨C, 0, none⟩) n ao an ac w3 (nobody_zero C _ _ HO3.out.k0 HO3.out.hC))
  go_upto_region 7 with (go_at_call 7; refine CX.out.mono ?_; clear CX; rintro e v4 ⟨rfl, b4⟩)
  have E4 := HO3.out.below b4
  have HB4 := hide' (HB3.out.trans (b4.mono HB3.out.size))
  obtain ⟨w4, hw4⟩ : ∃ x, v4 = x := ⟨_, rfl⟩
  rw [hw4] at E4 HB4 ⊢
  have HO4 := hide' E4
  clear c1 c2 c3 c4 c5 c7 c8 k0 hU hC b4 E4 hw4 HO3 HB3
  have x4 := HO4.out
  obtain ⟨c1, c2, c3, c4, c5, c7, c8, k0, hU, hC⟩ := x4
  have CX := hide' (nobody_Arrow none  w4 (nobody_nil _ _))
  go_upto_region 8 with (go_at_call 8; refine CX.out.mono ?_; clear CX; rintro e v5 ⟨rfl, b5⟩)
  have E5 := HO4.out.below b5
  have HB5 := hide' (HB4.out.trans (b5.mono HB4.out.size))
  obtain ⟨w5, hw5⟩ : ∃ x, v5 = x := ⟨_, rfl⟩
  rw [hw5] at E5 HB5 ⊢
  have HO5 := hide' E5
  clear c1 c2 c3 c4 c5 c7 c8 k0 hU hC b5 E5 hw5 HO4 HB4
  have x5 := HO5.out
  obtain ⟨c1, c2, c3, c4, c5, c7, c8, k0, hU, hC⟩ := x5
  have CX := hide' (nobody_Record (some ⟨C, 0, none⟩) lo ao ln lc an ac w5 (nobody_zero C _ _ HO5.out.k0 HO5.out.hC))
  go_upto_region 9 with (go_at_call 9; refine CX.out.mono ?_; clear CX; rintro e v6 ⟨rfl, b6⟩)
  have E6 := HO5.out.below b6
  have HB6 := hide' (HB5.out.trans (b6.mono HB5.out.size))
  obtain ⟨w6, hw6⟩ : ∃ x, v6 = x := ⟨_, rfl⟩
  rw [hw6] at E6 HB6 ⊢
  have HO6 := hide' E6
  clear c1 c2 c3 c4 c5 c7 c8 k0 hU hC b6 E6 hw6 HO5 HB5
  have x6 := HO6.out
  obtain ⟨c1, c2, c3, c4, c5, c7, c8, k0, hU, hC⟩ := x6
  have CX := hide' (nobody_Open none l lo ao ln lc an ac w6 (nobody_nil _ _))
  go_upto_region 10 with (go_at_call 10; refine CX.out.mono ?_; clear CX; rintro e v7 ⟨rfl, b7⟩)
  have E7 := HO6.out.below b7
  have HB7 := hide' (HB6.out.trans (b7.mono HB6.out.size))
  obtain ⟨w7, hw7⟩ : ∃ x, v7 = x := ⟨_, rfl⟩
  rw [hw7] at E7 HB7 ⊢
  have HO7 := hide' E7
  clear c1 c2 c3 c4 c5 c7 c8 k0 hU hC b7 E7 hw7 HO6 HB6
  have x7 := HO7.out
  obtain ⟨c1, c2, c3, c4, c5, c7, c8, k0, hU, hC⟩ := x7
  have CX := hide' (nobody_Generalize (some ⟨C, 0, none⟩) l w7 (nobody_zero C _ _ HO7.out.k0 HO7.out.hC))
  go_upto_region 11 with (go_at_call 11; refine CX.out.mono ?_; clear CX; rintro e v8 ⟨rfl, b8⟩)
  have E8 := HO7.out.below b8
  have HB8 := hide' (HB7.out.trans (b8.mono HB7.out.size))
  obtain ⟨w8, hw8⟩ : ∃ x, v8.alloc (.cells #[.slice none 0 0, .int .i64 0] 43) = x := ⟨_, rfl⟩
  have G8 : Below v8.heap.size v8 w8 := by rw [← hw8]; exact (Below.refl _ _).alloc (Nat.le_refl _) _
  try rw [hw8]
  have HO8 := hide' (E8.below G8)
  have HB8 := hide' (HB8.out.trans (G8.mono HB8.out.size))
  clear c1 c2 c3 c4 c5 c7 c8 k0 hU hC b8 E8 G8 hw8 HO7 HB7
  have x8 := HO8.out
  obtain ⟨c1, c2, c3, c4, c5, c7, c8, k0, hU, hC⟩ := x8
  have CX := hide' (nobody_Instance none l w8 (nobody_nil _ _))
  go_upto_region 12 with (go_at_call 12; refine CX.out.mono ?_; clear CX; rintro e v9 ⟨rfl, b9⟩)
  have E9 := HO8.out.below b9
  have HB9 := hide' (HB8.out.trans (b9.mono HB8.out.size))
  obtain ⟨w9, hw9⟩ : ∃ x, v9 = x := ⟨_, rfl⟩
  rw [hw9] at E9 HB9 ⊢
  have HO9 := hide' E9
  clear c1 c2 c3 c4 c5 c7 c8 k0 hU hC b9 E9 hw9 HO8 HB8
  have x9 := HO9.out
  obtain ⟨c1, c2, c3, c4, c5, c7, c8, k0, hU, hC⟩ := x9
  have CX := hide' (nobody_Put (some ⟨C, 0, none⟩) ao an ac w9 (nobody_zero C _ _ HO9.out.k0 HO9.out.hC))
  go_upto_region 13 with (go_at_call 13; refine CX.out.mono ?_; clear CX; rintro e v10 ⟨rfl, b10⟩)
  have E10 := HO9.out.below b10
  have HB10 := hide' (HB9.out.trans (b10.mono HB9.out.size))
  obtain ⟨w10, hw10⟩ : ∃ x, v10 = x := ⟨_, rfl⟩
  rw [hw10] at E10 HB10 ⊢
  have HO10 := hide' E10
  clear c1 c2 c3 c4 c5 c7 c8 k0 hU hC b10 E10 hw10 HO9 HB9
  have x10 := HO10.out
  obtain ⟨c1, c2, c3, c4, c5, c7, c8, k0, hU, hC⟩ := x10
  have CX := hide' (nobody_Replace none n w10 (nobody_nil _ _))
  go_upto_region 14 with (go_at_call 14; refine CX.out.mono ?_; clear CX; rintro e v11 ⟨rfl, b11⟩)
  have E11 := HO10.out.below b11
  have HB11 := hide' (HB10.out.trans (b11.mono HB10.out.size))
  obtain ⟨w11, hw11⟩ : ∃ x, v11 = x := ⟨_, rfl⟩
  rw [hw11] at E11 HB11 ⊢
  have HO11 := hide' E11
  clear c1 c2 c3 c4 c5 c7 c8 k0 hU hC b11 E11 hw11 HO10 HB10
  have x11 := HO11.out
  obtain ⟨c1, c2, c3, c4, c5, c7, c8, k0, hU, hC⟩ := x11
  have CX := hide' (nobody_Text (some ⟨C, 0, none⟩)  w11 (nobody_zero C _ _ HO11.out.k0 HO11.out.hC))
  go_upto_region 15 with (go_at_call 15; refine CX.out.mono ?_; clear CX; rintro e v12 ⟨rfl, b12⟩)
  have E12 := HO11.out.below b12
  have HB12 := hide' (HB11.out.trans (b12.mono HB11.out.size))
  obtain ⟨w12, hw12⟩ : ∃ x, v12 = x := ⟨_, rfl⟩
  rw [hw12] at E12 HB12 ⊢
  have HO12 := hide' E12
  clear c1 c2 c3 c4 c5 c7 c8 k0 hU hC b12 E12 hw12 HO11 HB11
  have x12 := HO12.out
  obtain ⟨c1, c2, c3, c4, c5, c7, c8, k0, hU, hC⟩ := x12
  have CX := hide' (nobody_Look none  w12 (nobody_nil _ _))
  go_upto_region 16 with (go_at_call 16; refine CX.out.mono ?_; clear CX; rintro e v13 ⟨rfl, b13⟩)
  have E13 := HO12.out.below b13
  have HB13 := hide' (HB12.out.trans (b13.mono HB12.out.size))
  obtain ⟨w13, hw13⟩ : ∃ x, v13.alloc (.cells #[.int .i64 0, .int .i64 0, .slice none 0 0, .slice none 0 0, .bool false, .int .i64 0, .int .i64 0, .string ⟨#[]⟩, .bool false] 54) = x := ⟨_, rfl⟩
  have G13 : Below v13.heap.size v13 w13 := by rw [← hw13]; exact (Below.refl _ _).alloc (Nat.le_refl _) _
  try rw [hw13]
  have HO13 := hide' (E13.below G13)
  have HB13 := hide' (HB13.out.trans (G13.mono HB13.out.size))
  clear c1 c2 c3 c4 c5 c7 c8 k0 hU hC b13 E13 G13 hw13 HO12 HB12
  have CNm := hide' (nobody_Named (some ⟨C, 0, none⟩) w13 (nobody_zero C _ _ HO13.out.k0 HO13.out.hC))
  have CUn := hide' (fun W => nobody_Unify none W (nobody_nil _ _))
  have CSe := hide' (fun W (hW : Below w13.heap.size w13 W) => nobody_Settle (some ⟨C, 0, none⟩) W (nobody_zero C _ W (HO13.out.below hW).k0 (HO13.out.below hW).hC))
  have CFr := hide' (fun W => nobody_Free none W (nobody_nil _ _))
  have CEq := hide' (fun W (hW : Below w13.heap.size w13 W) => nobody_Equal (some ⟨C, 0, none⟩) W (nobody_zero C _ W (HO13.out.below hW).k0 (HO13.out.below hW).hC))
  have CCo := hide' (fun W => nobody_Covers none W (nobody_nil _ _))
  have CAl := hide' (fun W => alive_any W)
  clear HO13
  go_wp2_with (first
    | (go_at_call 17; refine CNm.out.mono ?_; clear CNm; rintro e a1 ⟨rfl, b1⟩)
    | (go_at_call 18; refine (CUn.out _).mono ?_; clear CUn; rintro e a2 ⟨rfl, b2⟩; (have D2 := b1.trans (b2.mono b1.size)))
    | (go_at_call 19; refine (CSe.out _ D2).mono ?_; clear CSe; rintro e a3 ⟨rfl, b3⟩; (have D3 := D2.trans (b3.mono D2.size)))
    | (go_at_call 20; refine (CFr.out _).mono ?_; clear CFr; rintro e a4 ⟨rfl, b4⟩; (have D4 := D3.trans (b4.mono D3.size)))
    | (go_at_call 21; refine (CEq.out _ D4).mono ?_; clear CEq; rintro e a5 ⟨rfl, b5⟩; (have D5 := D4.trans (b5.mono D4.size)))
    | (go_at_call 22; refine (CCo.out _).mono ?_; clear CCo; rintro e a6 ⟨rfl, b6⟩; (have D6 := D5.trans (b6.mono D5.size)))
    | (go_at_call 23; refine (CAl.out _).mono ?_; clear CAl; rintro e a7 ⟨rfl, b7⟩; (have D7 := D6.trans (b7.mono D6.size))))
  go_ret
  exact ⟨rfl, HB13.out.trans (D7.mono HB13.out.size)⟩
end Go.Proofs.YtlijfkmcaccflaaGreatDoor
