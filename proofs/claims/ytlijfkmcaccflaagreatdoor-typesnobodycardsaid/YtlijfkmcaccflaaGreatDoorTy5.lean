/- Books of types: New, Var, Apply, Arrow. -/
import Derived.Test.YtlijfkmcaccflaaGreatDoorProg
import Derived.Test.YtlijfkmcaccflaaGreatDoorTy4
import Derived.WalkKit
import Derived.ProofKit
import Derived.OpenShut
import Derived.Below
import Derived.WalkLawsBesides
import Derived.OwnWalk
import Derived.BigQuiet
import Derived.Deep.MidRow
import Derived.Deep.RegionHeld
import Derived.Deep.RegionHeld3
import Derived.Deep.DeepCutAuto
import Derived.WalkSmall
namespace Go.Proofs.YtlijfkmcaccflaaGreatDoor
open Go.ChangeShapes Go.WideShapes Go.ChangeAt Go.RowKit

theorem nums_nil (lo hi : Nat) (no : Option Nat) (w : World) : Nums lo hi no w (.slice none 0 0) [] := ⟨none, 0, rfl, by simp, by simp, fun j hj => absurd hj (Nat.not_lt_zero j)⟩

set_option maxRecDepth 100000 in
set_option maxHeartbeats 16000000 in
theorem new_any (w : World) : Calls Tryz.prog 52 #[] w fun e w' => ∃ b, e = .returned (.pointer (some ⟨b, 0, none⟩)) ∧ w.heap.size ≤ b ∧ (∃ cv, Bk b w'.heap.size w' cv []) ∧ Below w.heap.size w w' := by
  go_enter Tryz.func52, Tryz.ntmps52
  go_wp2
  go_ret
  have hro : ∀ W : World, W.ownsRow (w.heap.size + 1 + 1) 71 12 (.slice none 0 0) ([] : List Tc).length (flat []) := fun W => World.ownsRow_nil _ _ _ _
  refine ⟨w.heap.size + 1, rfl, by omega, ⟨.slice none 0 0, ⟨by simp, by simp, by simp, hro _, fun g hg => by simp [Value.ownBlock] at hg, by simp, Nat.le_refl _, by simp, fun j hj => absurd hj (Nat.not_lt_zero j), w.heap.size, by omega, by simp; omega, by simp [Value.ownBlock], by simp, by simp, by simp⟩⟩, ((Below.refl _ _).alloc (Nat.le_refl _) _).alloc (by simp) _⟩
def tVar : Tc := ⟨1, 0, 1, 0, .slice none 0 0, []⟩
def tInt : Tc := ⟨2, 0, 0, 0, .slice none 0 0, []⟩

set_option maxRecDepth 100000 in
set_option maxHeartbeats 16000000 in
theorem var_any (b hi : Nat) (cv : Value) (cs : List Tc) (w : World) (h : Bk b hi w cv cs) (hl : cs.length + 1 ≤ 100) :
    Calls Tryz.prog 5 #[.pointer (some ⟨b, 0, none⟩), .int .i64 1, .bool false, .int .i64 0] w fun e w' => e = .returned (.tuple #[.int .i64 (cs.length : Int), .int .i64 0]) ∧ (∃ cv', Bk b w'.heap.size w' cv' (cs ++ [tVar])) ∧ Below b w w' := by
  have CM := hide' (made_yes b w h.c0)
  have CI := hide' (isLevel_one w)
  have CB := hide' (build_any b hi cv cs tVar 0 w h (nums_nil _ _ _ _) hl (fun a ha => by cases ha) (by simp [sizes, tVar]))
  unfold Tc.val tVar at CB
  simp only at CB
  generalize cs.length = N at *
  clear h
  go_enter Tryz.func5, Tryz.ntmps5
  go_wp2_with (first | (go_at_call 24; refine CM.out.mono ?_; clear CM; rintro e w1 ⟨rfl, h9⟩; replace h9 := h9.symm; subst h9) | (go_at_call 26; refine CI.out.mono ?_; clear CI; rintro e w1 ⟨rfl, h9⟩; replace h9 := h9.symm; subst h9) | (go_at_call 27; refine CB.out.mono ?_; clear CB; rintro e w2 ⟨rfl, hbk, hbl⟩))
  go_ret2
  exact ⟨rfl, hbk, hbl⟩

set_option maxRecDepth 100000 in
set_option maxHeartbeats 4000000 in
theorem cloneI_nil (w : World) : Calls Tryz.prog 30 #[.slice none 0 0] w fun e w' => e = .returned (.slice none 0 0) ∧ w' = w := by
  have he : ∀ w : World, (binOp BinOp.eql 23 (.slice none 0 0) (.slice none 0 0)).run Tryz.prog w = .ok (.bool true) w := fun _ => by kernel_rfl
  go_enter Tryz.func30, Tryz.ntmps30
  go_wp2
  go_ret
  simp

set_option maxRecDepth 100000 in
set_option maxHeartbeats 16000000 in
theorem apply_int (b hi : Nat) (cv : Value) (cs : List Tc) (w : World) (h : Bk b hi w cv cs) (hl : cs.length + 1 ≤ 100) :
    Calls Tryz.prog 7 #[.pointer (some ⟨b, 0, none⟩), .int .i64 0, .slice none 0 0] w fun e w' => e = .returned (.tuple #[.int .i64 (cs.length : Int), .int .i64 0]) ∧ (∃ cv', Bk b w'.heap.size w' cv' (cs ++ [tInt])) ∧ Below b w w' := by
  obtain ⟨gc, _, _, _, k1, k2, k3⟩ := h.cons
  have CM := hide' (made_yes b w h.c0)
  have CI := hide' (hasCon_int b gc w k1)
  have CH := hide' (has_yes b hi cv cs (.slice none 0 0) [] w h (rd_nil w) (fun a ha => by cases ha))
  have CC := hide' (cloneI_nil w)
  have CB := hide' (build_any b hi cv cs tInt 0 w h (nums_nil _ _ _ _) hl (fun a ha => by cases ha) (by simp [sizes, tInt]))
  unfold Tc.val tInt at CB
  simp only at CB
  generalize cs.length = N at *
  clear h
  go_enter Tryz.func7, Tryz.ntmps7
  go_wp2_with (first | (go_at_call 24; refine CM.out.mono ?_; clear CM; rintro e w1 ⟨rfl, h9⟩; replace h9 := h9.symm; subst h9) | (go_at_call 28; refine CI.out.mono ?_; clear CI; rintro e w1 ⟨rfl, h9⟩; replace h9 := h9.symm; subst h9) | (go_at_call 29; refine CH.out.mono ?_; clear CH; rintro e w1 ⟨rfl, h9⟩; replace h9 := h9.symm; subst h9) | (go_at_call 30; refine CC.out.mono ?_; clear CC; rintro e w1 ⟨rfl, h9⟩; replace h9 := h9.symm; subst h9) | (go_at_call 27; refine CB.out.mono ?_; clear CB; rintro e w2 ⟨rfl, hbk, hbl⟩))
  go_ret2
  exact ⟨rfl, hbk, hbl⟩
def tArrow (av : Value) (x y : Int) : Tc := ⟨4, 0, 0, 0, av, [x, y]⟩

set_option maxRecDepth 100000 in
set_option maxHeartbeats 16000000 in
theorem arrow_any (b hi : Nat) (cv : Value) (cs : List Tc) (x y : Int) (d : Nat) (w : World) (h : Bk b hi w cv cs) (hl : cs.length + 1 ≤ 100) (hx : 0 ≤ x ∧ x < (cs.length : Int)) (hy : 0 ≤ y ∧ y < (cs.length : Int)) (hox : Ok cs d x) (hoy : Ok cs d y) (hsz : sizes cs d [x, y] ≤ 2047) :
    Calls Tryz.prog 8 #[.pointer (some ⟨b, 0, none⟩), .int .i64 x, .int .i64 y] w fun e w' => e = .returned (.tuple #[.int .i64 (cs.length : Int), .int .i64 0]) ∧ (∃ cv' av, Bk b w'.heap.size w' cv' (cs ++ [tArrow av x y])) ∧ Below b w w' := by
  have hold := h.old
  have hil := h.hil
  have CM := hide' (made_yes b w h.c0)
  obtain ⟨W1, hW1⟩ : ∃ W1, w.alloc (.cells #[.int .i64 x, .int .i64 y] 3) = W1 := ⟨_, rfl⟩
  have B1 : Below hi w W1 := by rw [← hW1]; exact (Below.refl _ _).alloc hil _
  have S1 : w.heap.size < W1.heap.size := by rw [← hW1]; simp
  have R1 := rd_new2 w x y 3
  rw [hW1] at R1
  have HB1 := h.below B1
  have CH := hide' (has_yes b hi cv cs _ [x, y] W1 HB1 R1 (fun a ha => by
    rcases List.mem_cons.1 ha with rfl | ha
    · exact hx
    · rw [List.mem_singleton.1 ha]; exact hy))
  obtain ⟨W2, hW2⟩ : ∃ W2, W1.alloc (.cells #[.int .i64 x, .int .i64 y] 3) = W2 := ⟨_, rfl⟩
  have B2 : Below W1.heap.size W1 W2 := by rw [← hW2]; exact (Below.refl _ _).alloc (Nat.le_refl _) _
  have S2 : W2.heap.size = W1.heap.size + 1 := by rw [← hW2]; simp
  have R2 := rd_new2 W1 x y 3
  rw [hW2] at R2
  have HB2 : Bk b W2.heap.size W2 cv cs := (HB1.below (B2.mono HB1.hil)).mono (Nat.le_trans HB1.hil B2.size) (Nat.le_refl _)
  have hrh : cv.ownBlock ≠ some W1.heap.size := fun e => by have := HB1.rhi _ e; have := HB1.hil; omega
  have hnum : Nums b W2.heap.size cv.ownBlock W2 (.slice (some ⟨W1.heap.size, 0, none⟩) 2 2) [x, y] := by
    obtain ⟨ao, cap, e1, e2, e3⟩ := R2
    injection e1 with e4 e5 e6
    refine ⟨_, _, rfl, by simp, by simp, fun j hj => ⟨W1.heap.size, rfl, by omega, by omega, hrh, ?_⟩⟩
    obtain ⟨g, e7, e8⟩ := e3 j hj
    rw [← e4] at e7
    injection e7 with e7
    injection e7 with e7
    subst e7
    exact e8
  have CB := hide' (build_any b W2.heap.size cv cs (tArrow (.slice (some ⟨W1.heap.size, 0, none⟩) 2 2) x y) d W2 HB2 hnum hl (fun a ha => by
    rcases List.mem_cons.1 ha with rfl | ha
    · exact hox
    · rw [List.mem_singleton.1 ha]; exact hoy) hsz)
  unfold Tc.val tArrow at CB
  simp only at CB
  have HBL : Hid' (Below b w W2) := ⟨(B1.mono (by omega)).trans (B2.mono (by omega))⟩
  generalize cs.length = N at *
  clear h B1 HB1 R1 R2 HB2 hnum S2 hrh B2 hx hy hox hoy hsz
  go_enter Tryz.func8, Tryz.ntmps8
  go_wp2_with (first | (go_at_call 24; refine CM.out.mono ?_; clear CM; rintro e w1 ⟨rfl, h9⟩; replace h9 := h9.symm; subst h9) | (go_at_call 29; refine CH.out.mono ?_; clear CH; rintro e w1 ⟨rfl, h9⟩; replace h9 := h9.symm; subst h9) | (go_at_call 27; refine CB.out.mono ?_; clear CB; rintro e w2 ⟨rfl, hbk, hbl⟩))
  go_ret2
  obtain ⟨cv', hbk⟩ := hbk
  exact ⟨rfl, ⟨cv', _, hbk⟩, HBL.out.trans hbl⟩
end Go.Proofs.YtlijfkmcaccflaaGreatDoor
