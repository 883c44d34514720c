/- Which phrases the next token begins; where it stands. -/
import Derived.Test.YtbcmpacmoofdkaaGreatDoorProg
import Derived.Test.YtbcmpacmoofdkaaGreatDoorTree8
import Derived.WalkKit
import Derived.ProofKit
import Derived.OpenShut
import Derived.Below
import Derived.WalkLawsBesides
import Derived.OwnWalk
import Derived.BigQuiet
import Derived.Deep.MidRow
import Derived.Deep.RegionHeld
import Derived.Deep.RegionHeld3
import Derived.Deep.DeepCutAuto
import Derived.WalkSmall
namespace Go.Proofs.YtbcmpacmoofdkaaGreatDoor
open Go.ChangeShapes Go.WideShapes Go.ChangeAt Go.RowKit

set_option maxRecDepth 100000 in
set_option maxHeartbeats 8000000 in
theorem begun_int (b : Nat) (t : ITk) (w : World) (hk : t.kind = 4)  : Calls Tryz.prog 138 #[.pointer (some ⟨b, 0, none⟩), t.val] w fun e w' => e = .returned (.int .u8 96) ∧ Below w.heap.size w w' := by
  obtain ⟨tk, tt, tp, tx, ty, po, pc, tl⟩ := t
  simp only at hk
  subst hk
  unfold ITk.val ITk.pv
  simp only
  generalize tp.length = PL at *
  generalize ByteArray.mk tt.toArray = z at *
  go_enter Tryz.func138, Tryz.ntmps138
  go_wp2
  go_ret
  exact ⟨rfl, (Below.refl _ _).alloc (Nat.le_refl _) _⟩

set_option maxRecDepth 100000 in
set_option maxHeartbeats 8000000 in
theorem begun_none (b : Nat) (t : ITk) (w : World) (hk : t.kind = 0)  : Calls Tryz.prog 138 #[.pointer (some ⟨b, 0, none⟩), t.val] w fun e w' => e = .returned (.int .u8 0) ∧ Below w.heap.size w w' := by
  obtain ⟨tk, tt, tp, tx, ty, po, pc, tl⟩ := t
  simp only at hk
  subst hk
  unfold ITk.val ITk.pv
  simp only
  generalize tp.length = PL at *
  generalize ByteArray.mk tt.toArray = z at *
  go_enter Tryz.func138, Tryz.ntmps138
  go_wp2
  go_ret
  exact ⟨rfl, (Below.refl _ _).alloc (Nat.le_refl _) _⟩

set_option maxRecDepth 100000 in
set_option maxHeartbeats 8000000 in
theorem begun_word (b : Nat) (t : ITk) (w : World) (hk : t.kind = 1) (m : Nat) (hw : ∀ W, Below w.heap.size w W → Calls Tryz.prog 155 #[.string ⟨t.text.toArray⟩] W fun e w' => e = .returned (.int .u8 (m : Int)) ∧ Below w.heap.size w w') : Calls Tryz.prog 138 #[.pointer (some ⟨b, 0, none⟩), t.val] w fun e w' => e = .returned (.int .u8 (m : Int)) ∧ Below w.heap.size w w' := by
  have CW := hide' hw
  clear hw
  obtain ⟨tk, tt, tp, tx, ty, po, pc, tl⟩ := t
  simp only at hk
  subst hk
  unfold ITk.val ITk.pv at *
  simp only at *
  generalize tp.length = PL at *
  generalize ByteArray.mk tt.toArray = z at *
  have S0 := ((Below.refl w.heap.size w).alloc (Nat.le_refl _) (.cells #[.int .i64 1, .string z, .slice po PL pc, .int .i64 tx, .int .i64 ty] 72))
  go_enter Tryz.func138, Tryz.ntmps138
  go_wp2_with (go_at_call 155; refine (CW.out _ S0).mono ?_; clear CW; rintro e w1 ⟨rfl, b1⟩)
  go_ret
  exact ⟨rfl, b1⟩

set_option maxRecDepth 100000 in
set_option maxHeartbeats 8000000 in
theorem begun_name (b : Nat) (t : ITk) (w : World) (hk : t.kind = 2) (m : Nat) (hw : ∀ W, Below w.heap.size w W → Calls Tryz.prog 156 #[.pointer (some ⟨b, 0, none⟩), t.val] W fun e w' => e = .returned (.int .u8 (m : Int)) ∧ Below w.heap.size w w') : Calls Tryz.prog 138 #[.pointer (some ⟨b, 0, none⟩), t.val] w fun e w' => e = .returned (.int .u8 (m : Int)) ∧ Below w.heap.size w w' := by
  have CW := hide' hw
  clear hw
  obtain ⟨tk, tt, tp, tx, ty, po, pc, tl⟩ := t
  simp only at hk
  subst hk
  unfold ITk.val ITk.pv at *
  simp only at *
  generalize tp.length = PL at *
  generalize ByteArray.mk tt.toArray = z at *
  have S0 := ((Below.refl w.heap.size w).alloc (Nat.le_refl _) (.cells #[.int .i64 2, .string z, .slice po PL pc, .int .i64 tx, .int .i64 ty] 72))
  go_enter Tryz.func138, Tryz.ntmps138
  go_wp2_with (go_at_call 156; refine (CW.out _ S0).mono ?_; clear CW; rintro e w1 ⟨rfl, b1⟩)
  go_ret
  exact ⟨rfl, b1⟩

/-- What the next token begins. -/
def Beg (b : Nat) (w : World) (t : ITk) (m : Nat) : Prop := ∀ W, Below w.heap.size w W → Calls Tryz.prog 138 #[.pointer (some ⟨b, 0, none⟩), t.val] W fun e w' => e = .returned (.int .u8 (m : Int)) ∧ Below w.heap.size w w'

set_option maxRecDepth 100000 in
set_option maxHeartbeats 8000000 in
theorem begins_3_1 (b : Nat) (tv : Value) (toks : List ITk) (at' op : Nat) (sc nv dv : Value) (w : World) (h : PS b w tv toks at' op sc nv dv) (hb : Beg b w (lookT toks at') 3) :
    Calls Tryz.prog 123 #[.pointer (some ⟨b, 0, none⟩), .int .u8 1] w fun e w' => e = .returned (.bool true) ∧ Below w.heap.size w w' := by
  have CL : Hid' (Calls Tryz.prog 139 #[.pointer (some ⟨b, 0, none⟩), .int .i64 0] w fun e w' => e = .returned (lookT toks (at' + 0)).val ∧ Below w.heap.size w w') := ⟨look_any b tv toks at' op 0 sc nv dv w h (by decide)⟩
  rw [Nat.add_zero] at CL
  have CB := hide' hb
  unfold Beg at CB
  generalize (lookT toks at').val = V at *
  clear h hb
  go_enter Tryz.func123, Tryz.ntmps123
  go_wp2_with (first | (go_at_call 139; refine CL.out.mono ?_; clear CL; rintro e w1 ⟨rfl, b1⟩) | (go_at_call 138; refine (CB.out _ b1).mono ?_; clear CB; rintro e w2 ⟨rfl, b2⟩))
  go_ret
  exact ⟨rfl, b2⟩

set_option maxRecDepth 100000 in
set_option maxHeartbeats 8000000 in
theorem begins_0_1 (b : Nat) (tv : Value) (toks : List ITk) (at' op : Nat) (sc nv dv : Value) (w : World) (h : PS b w tv toks at' op sc nv dv) (hb : Beg b w (lookT toks at') 0) :
    Calls Tryz.prog 123 #[.pointer (some ⟨b, 0, none⟩), .int .u8 1] w fun e w' => e = .returned (.bool false) ∧ Below w.heap.size w w' := by
  have CL : Hid' (Calls Tryz.prog 139 #[.pointer (some ⟨b, 0, none⟩), .int .i64 0] w fun e w' => e = .returned (lookT toks (at' + 0)).val ∧ Below w.heap.size w w') := ⟨look_any b tv toks at' op 0 sc nv dv w h (by decide)⟩
  rw [Nat.add_zero] at CL
  have CB := hide' hb
  unfold Beg at CB
  generalize (lookT toks at').val = V at *
  clear h hb
  go_enter Tryz.func123, Tryz.ntmps123
  go_wp2_with (first | (go_at_call 139; refine CL.out.mono ?_; clear CL; rintro e w1 ⟨rfl, b1⟩) | (go_at_call 138; refine (CB.out _ b1).mono ?_; clear CB; rintro e w2 ⟨rfl, b2⟩))
  go_ret
  exact ⟨rfl, b2⟩

set_option maxRecDepth 100000 in
set_option maxHeartbeats 8000000 in
theorem begins_124_32 (b : Nat) (tv : Value) (toks : List ITk) (at' op : Nat) (sc nv dv : Value) (w : World) (h : PS b w tv toks at' op sc nv dv) (hb : Beg b w (lookT toks at') 124) :
    Calls Tryz.prog 123 #[.pointer (some ⟨b, 0, none⟩), .int .u8 32] w fun e w' => e = .returned (.bool true) ∧ Below w.heap.size w w' := by
  have CL : Hid' (Calls Tryz.prog 139 #[.pointer (some ⟨b, 0, none⟩), .int .i64 0] w fun e w' => e = .returned (lookT toks (at' + 0)).val ∧ Below w.heap.size w w') := ⟨look_any b tv toks at' op 0 sc nv dv w h (by decide)⟩
  rw [Nat.add_zero] at CL
  have CB := hide' hb
  unfold Beg at CB
  generalize (lookT toks at').val = V at *
  clear h hb
  go_enter Tryz.func123, Tryz.ntmps123
  go_wp2_with (first | (go_at_call 139; refine CL.out.mono ?_; clear CL; rintro e w1 ⟨rfl, b1⟩) | (go_at_call 138; refine (CB.out _ b1).mono ?_; clear CB; rintro e w2 ⟨rfl, b2⟩))
  go_ret
  exact ⟨rfl, b2⟩

set_option maxRecDepth 100000 in
set_option maxHeartbeats 8000000 in
theorem begins_0_32 (b : Nat) (tv : Value) (toks : List ITk) (at' op : Nat) (sc nv dv : Value) (w : World) (h : PS b w tv toks at' op sc nv dv) (hb : Beg b w (lookT toks at') 0) :
    Calls Tryz.prog 123 #[.pointer (some ⟨b, 0, none⟩), .int .u8 32] w fun e w' => e = .returned (.bool false) ∧ Below w.heap.size w w' := by
  have CL : Hid' (Calls Tryz.prog 139 #[.pointer (some ⟨b, 0, none⟩), .int .i64 0] w fun e w' => e = .returned (lookT toks (at' + 0)).val ∧ Below w.heap.size w w') := ⟨look_any b tv toks at' op 0 sc nv dv w h (by decide)⟩
  rw [Nat.add_zero] at CL
  have CB := hide' hb
  unfold Beg at CB
  generalize (lookT toks at').val = V at *
  clear h hb
  go_enter Tryz.func123, Tryz.ntmps123
  go_wp2_with (first | (go_at_call 139; refine CL.out.mono ?_; clear CL; rintro e w1 ⟨rfl, b1⟩) | (go_at_call 138; refine (CB.out _ b1).mono ?_; clear CB; rintro e w2 ⟨rfl, b2⟩))
  go_ret
  exact ⟨rfl, b2⟩

set_option maxRecDepth 100000 in
set_option maxHeartbeats 8000000 in
theorem begins_96_192 (b : Nat) (tv : Value) (toks : List ITk) (at' op : Nat) (sc nv dv : Value) (w : World) (h : PS b w tv toks at' op sc nv dv) (hb : Beg b w (lookT toks at') 96) :
    Calls Tryz.prog 123 #[.pointer (some ⟨b, 0, none⟩), .int .u8 192] w fun e w' => e = .returned (.bool true) ∧ Below w.heap.size w w' := by
  have CL : Hid' (Calls Tryz.prog 139 #[.pointer (some ⟨b, 0, none⟩), .int .i64 0] w fun e w' => e = .returned (lookT toks (at' + 0)).val ∧ Below w.heap.size w w') := ⟨look_any b tv toks at' op 0 sc nv dv w h (by decide)⟩
  rw [Nat.add_zero] at CL
  have CB := hide' hb
  unfold Beg at CB
  generalize (lookT toks at').val = V at *
  clear h hb
  go_enter Tryz.func123, Tryz.ntmps123
  go_wp2_with (first | (go_at_call 139; refine CL.out.mono ?_; clear CL; rintro e w1 ⟨rfl, b1⟩) | (go_at_call 138; refine (CB.out _ b1).mono ?_; clear CB; rintro e w2 ⟨rfl, b2⟩))
  go_ret
  exact ⟨rfl, b2⟩

set_option maxRecDepth 100000 in
set_option maxHeartbeats 8000000 in
theorem begins_96_64 (b : Nat) (tv : Value) (toks : List ITk) (at' op : Nat) (sc nv dv : Value) (w : World) (h : PS b w tv toks at' op sc nv dv) (hb : Beg b w (lookT toks at') 96) :
    Calls Tryz.prog 123 #[.pointer (some ⟨b, 0, none⟩), .int .u8 64] w fun e w' => e = .returned (.bool true) ∧ Below w.heap.size w w' := by
  have CL : Hid' (Calls Tryz.prog 139 #[.pointer (some ⟨b, 0, none⟩), .int .i64 0] w fun e w' => e = .returned (lookT toks (at' + 0)).val ∧ Below w.heap.size w w') := ⟨look_any b tv toks at' op 0 sc nv dv w h (by decide)⟩
  rw [Nat.add_zero] at CL
  have CB := hide' hb
  unfold Beg at CB
  generalize (lookT toks at').val = V at *
  clear h hb
  go_enter Tryz.func123, Tryz.ntmps123
  go_wp2_with (first | (go_at_call 139; refine CL.out.mono ?_; clear CL; rintro e w1 ⟨rfl, b1⟩) | (go_at_call 138; refine (CB.out _ b1).mono ?_; clear CB; rintro e w2 ⟨rfl, b2⟩))
  go_ret
  exact ⟨rfl, b2⟩

set_option maxRecDepth 100000 in
set_option maxHeartbeats 8000000 in
theorem begins_28_64 (b : Nat) (tv : Value) (toks : List ITk) (at' op : Nat) (sc nv dv : Value) (w : World) (h : PS b w tv toks at' op sc nv dv) (hb : Beg b w (lookT toks at') 28) :
    Calls Tryz.prog 123 #[.pointer (some ⟨b, 0, none⟩), .int .u8 64] w fun e w' => e = .returned (.bool false) ∧ Below w.heap.size w w' := by
  have CL : Hid' (Calls Tryz.prog 139 #[.pointer (some ⟨b, 0, none⟩), .int .i64 0] w fun e w' => e = .returned (lookT toks (at' + 0)).val ∧ Below w.heap.size w w') := ⟨look_any b tv toks at' op 0 sc nv dv w h (by decide)⟩
  rw [Nat.add_zero] at CL
  have CB := hide' hb
  unfold Beg at CB
  generalize (lookT toks at').val = V at *
  clear h hb
  go_enter Tryz.func123, Tryz.ntmps123
  go_wp2_with (first | (go_at_call 139; refine CL.out.mono ?_; clear CL; rintro e w1 ⟨rfl, b1⟩) | (go_at_call 138; refine (CB.out _ b1).mono ?_; clear CB; rintro e w2 ⟨rfl, b2⟩))
  go_ret
  exact ⟨rfl, b2⟩

set_option maxRecDepth 100000 in
set_option maxHeartbeats 8000000 in
theorem begins_12_64 (b : Nat) (tv : Value) (toks : List ITk) (at' op : Nat) (sc nv dv : Value) (w : World) (h : PS b w tv toks at' op sc nv dv) (hb : Beg b w (lookT toks at') 12) :
    Calls Tryz.prog 123 #[.pointer (some ⟨b, 0, none⟩), .int .u8 64] w fun e w' => e = .returned (.bool false) ∧ Below w.heap.size w w' := by
  have CL : Hid' (Calls Tryz.prog 139 #[.pointer (some ⟨b, 0, none⟩), .int .i64 0] w fun e w' => e = .returned (lookT toks (at' + 0)).val ∧ Below w.heap.size w w') := ⟨look_any b tv toks at' op 0 sc nv dv w h (by decide)⟩
  rw [Nat.add_zero] at CL
  have CB := hide' hb
  unfold Beg at CB
  generalize (lookT toks at').val = V at *
  clear h hb
  go_enter Tryz.func123, Tryz.ntmps123
  go_wp2_with (first | (go_at_call 139; refine CL.out.mono ?_; clear CL; rintro e w1 ⟨rfl, b1⟩) | (go_at_call 138; refine (CB.out _ b1).mono ?_; clear CB; rintro e w2 ⟨rfl, b2⟩))
  go_ret
  exact ⟨rfl, b2⟩

set_option maxRecDepth 100000 in
set_option maxHeartbeats 8000000 in
theorem begins_0_64 (b : Nat) (tv : Value) (toks : List ITk) (at' op : Nat) (sc nv dv : Value) (w : World) (h : PS b w tv toks at' op sc nv dv) (hb : Beg b w (lookT toks at') 0) :
    Calls Tryz.prog 123 #[.pointer (some ⟨b, 0, none⟩), .int .u8 64] w fun e w' => e = .returned (.bool false) ∧ Below w.heap.size w w' := by
  have CL : Hid' (Calls Tryz.prog 139 #[.pointer (some ⟨b, 0, none⟩), .int .i64 0] w fun e w' => e = .returned (lookT toks (at' + 0)).val ∧ Below w.heap.size w w') := ⟨look_any b tv toks at' op 0 sc nv dv w h (by decide)⟩
  rw [Nat.add_zero] at CL
  have CB := hide' hb
  unfold Beg at CB
  generalize (lookT toks at').val = V at *
  clear h hb
  go_enter Tryz.func123, Tryz.ntmps123
  go_wp2_with (first | (go_at_call 139; refine CL.out.mono ?_; clear CL; rintro e w1 ⟨rfl, b1⟩) | (go_at_call 138; refine (CB.out _ b1).mono ?_; clear CB; rintro e w2 ⟨rfl, b2⟩))
  go_ret
  exact ⟨rfl, b2⟩

/-- Once its two cells are written, a place is handed back. -/
theorem place_end {w1 : World} {fn : Func} {p : Tmp} {g : Nat} (h : fn.results = #[.cell p 82]) {tmps : Array Value} {R : Ending → World → Prop} {u0 u1 v0 v1 : Value}
    (c0 : w1.cell? ⟨g, 0, none⟩ = some u0) (c1 : w1.cell? ⟨g, 1, none⟩ = some u1) (f0 : w1.frozen? ⟨g, 0, none⟩ = false) (f1 : w1.frozen? ⟨g, 1, none⟩ = false) (hp : tmps.getD p undef = .pointer (some ⟨g, 0, none⟩))
    (r : R (.returned (.agg #[v0, v1])) ((w1.setCell ⟨g, 0, none⟩ v0).setCell ⟨g, 1, none⟩ v1)) :
    bodyPost Tryz.prog fn R Exit.ret { tmps := tmps, defers := [] } ((w1.setCell ⟨g, 0, none⟩ v0).setCell ⟨g, 1, none⟩ v1) := by
  have ht : w1.there g 0 [v0, v1].length := by
    intro j hj
    simp only [List.length_cons, List.length_nil] at hj
    match j, hj with
    | 0, _ => exact ⟨by rw [c0]; rfl, f0⟩
    | 1, _ => exact ⟨by rw [c1]; rfl, f1⟩
  have hr := World.rangeAt_setCells_same w1 g 0 [v0, v1] ht
  exact bodyPost_ret (results_one h _ _ g [v0, v1] _ hp hr Tryz.underlying82 rfl infoPlaceS) rfl r

set_option maxRecDepth 100000 in
set_option maxHeartbeats 8000000 in
theorem here_any (b : Nat) (tv : Value) (toks : List ITk) (at' op : Nat) (sc nv dv : Value) (w : World) (h : PS b w tv toks at' op sc nv dv) (hl : at' < toks.length) :
    Calls Tryz.prog 107 #[.pointer (some ⟨b, 0, none⟩)] w fun e w' => e = .returned (.agg #[.int .i64 (lookT toks at').line, .int .i64 (lookT toks at').column]) ∧ Below w.heap.size w w' := by
  have hold := h.old
  have hba := h.ba
  obtain ⟨ao, cap, htv, hm, hc⟩ := h.rt
  obtain ⟨L, hL⟩ : ∃ L, toks.length = L := ⟨_, rfl⟩
  obtain ⟨g, o, ea, hg, hat⟩ := hc at' hl
  subst ea
  obtain ⟨W0, hW0⟩ : ∃ W0, w.alloc (.cells #[.int .i64 0, .int .i64 0] 82) = W0 := ⟨_, rfl⟩
  have B0 : Below w.heap.size w (w.alloc (.cells #[.int .i64 0, .int .i64 0] 82)) := (Below.refl _ _).alloc (Nat.le_refl _) _
  have d0 : (w.alloc (.cells #[.int .i64 0, .int .i64 0] 82)).cell? ⟨w.heap.size, 0, none⟩ = some (.int .i64 0) := by simp
  have d1 : (w.alloc (.cells #[.int .i64 0, .int .i64 0] 82)).cell? ⟨w.heap.size, 1, none⟩ = some (.int .i64 0) := by simp
  have z0 : (w.alloc (.cells #[.int .i64 0, .int .i64 0] 82)).frozen? ⟨w.heap.size, 0, none⟩ = false := by simp
  have z1 : (w.alloc (.cells #[.int .i64 0, .int .i64 0] 82)).frozen? ⟨w.heap.size, 1, none⟩ = false := by simp
  have S0 : W0.heap.size = w.heap.size + 1 := by rw [← hW0]; simp
  rw [hW0] at B0 d0 d1 z0 z1
  have P0 := h.below B0 hold
  have hat2 := hat.below (B0.mono (Nat.le_of_lt hold)) hg
  have c0 := P0.c0
  have c1 := P0.c1
  rw [htv, hL] at c0
  rw [hL] at hm hl
  have eT : toks.getD at' ITk.zero = lookT toks at' := rfl
  rw [eT] at hat2
  generalize lookT toks at' = T at *
  obtain ⟨tk, tt, tp, tx, ty, po, pc, tl⟩ := T
  obtain ⟨t0, t1, t2, t3, t4, _⟩ := hat2
  simp only [ITk.pv] at t0 t1 t2 t3 t4 ⊢
  generalize tp.length = PL at *
  generalize ByteArray.mk tt.toArray = z at *
  have hgl : g < w.heap.size := by omega
  have hng : ¬ g = w.heap.size := by omega
  have hng2 : ¬ w.heap.size = g := by omega
  have hnb : ¬ b = w.heap.size := by omega
  have hnb2 : ¬ w.heap.size = b := by omega
  have hnz : ((L : Int) == 0) = false := by simp; omega
  obtain ⟨M, hM⟩ : ∃ M, L - 1 = M := ⟨_, rfl⟩
  have hMi : (L : Int) - 1 = (M : Int) := by omega
  have haM : at' ≤ M := by omega
  have hR0 : (if (M : Int) < (at' : Int) then (M : Int) else (at' : Int)) = (at' : Int) := by split <;> omega
  have hR1 : (if M < at' then (M : Int) else (at' : Int)) = (at' : Int) := by split <;> omega
  have hR2 : (if (M : Int) ≤ (at' : Int) then (M : Int) else (at' : Int)) = (at' : Int) := by split <;> omega
  have hR3 : (if M ≤ at' then (M : Int) else (at' : Int)) = (at' : Int) := by split <;> omega
  have hR4 : (if (at' : Int) < (M : Int) then (at' : Int) else (M : Int)) = (at' : Int) := by split <;> omega
  have hR5 : (if at' < M then (at' : Int) else (M : Int)) = (at' : Int) := by split <;> omega
  have hR6 : (if (at' : Int) ≤ (M : Int) then (at' : Int) else (M : Int)) = (at' : Int) := by split <;> omega
  have hR7 : (if at' ≤ M then (at' : Int) else (M : Int)) = (at' : Int) := by split <;> omega
  have hwM : IntKind.i64.wrap (M : Int) = (M : Int) := by simp [IntKind.wrap, IntKind.bits, IntKind.signed]; omega
  have hR9 : min (at' : Int) (M : Int) = (at' : Int) := by omega
  have hR10 : min at' M = at' := by omega
  have HB0 := hide' B0
  clear h hc hat P0 eT htv hL B0
  go_enter Tryz.func107, Tryz.ntmps107
  go_upto_region 1 with fail
  try rw [hW0]
  clear hW0
  go_upto_region 3 with fail
  have hne := World.new_ne W0 ⟨b, 0, none⟩ c0
  have hne1 := World.new_ne W0 ⟨b, 1, none⟩ c1
  have hne2 := World.new_ne W0 ⟨g, o + at' * 5, none⟩ t0
  have hw1 : ¬ b = W0.heap.size := by omega
  have hw2 : ¬ g = W0.heap.size := by omega
  have hw3 : ¬ W0.heap.size = b := by omega
  have hw4 : ¬ W0.heap.size = g := by omega
  have hw5 : ¬ W0.heap.size = w.heap.size := by omega
  have hw6 : ¬ w.heap.size = W0.heap.size := by omega
  go_region_held3 (fun w' => w'.cell? ⟨b, 0, none⟩ = some (.slice (some ⟨g, o, none⟩) L cap) ∧ w'.cell? ⟨b, 1, none⟩ = some (.int .i64 (at' : Int)) ∧ w'.cell? ⟨g, o + at' * 5, none⟩ = some (.int .i64 tk) ∧ w'.cell? ⟨g, o + at' * 5 + 1, none⟩ = some (.string z) ∧ w'.cell? ⟨g, o + at' * 5 + 2, none⟩ = some (.slice po PL pc) ∧ w'.cell? ⟨g, o + at' * 5 + 3, none⟩ = some (.int .i64 tx) ∧ w'.cell? ⟨g, o + at' * 5 + 4, none⟩ = some (.int .i64 ty)) (go_keep) (fail)
  all_goals (
    obtain ⟨W2, hW2⟩ : ∃ W2, (W0.alloc (.cells #[.int .i64 tk, .string z, .slice po PL pc, .int .i64 tx, .int .i64 ty] 72)).drew = W2 := ⟨_, rfl⟩
    have B2 : Below W0.heap.size W0 W2 := by rw [← hW2]; exact ((Below.refl _ _).alloc (Nat.le_refl _) _).drew
    have e3 : W2.cell? ⟨w.heap.size + 1, 3, none⟩ = some (.int .i64 tx) := by rw [← hW2, ← S0]; simp
    have e4 : W2.cell? ⟨w.heap.size + 1, 4, none⟩ = some (.int .i64 ty) := by rw [← hW2, ← S0]; simp
    have k0 := (B2.cell (p := ⟨w.heap.size, 0, none⟩) (by show w.heap.size < _; omega)).trans d0
    have k1 := (B2.cell (p := ⟨w.heap.size, 1, none⟩) (by show w.heap.size < _; omega)).trans d1
    have y0 := (B2.frozen (p := ⟨w.heap.size, 0, none⟩) (by show w.heap.size < _; omega)).trans z0
    have y1 := (B2.frozen (p := ⟨w.heap.size, 1, none⟩) (by show w.heap.size < _; omega)).trans z1
    have BW := hide' (HB0.out.trans (B2.mono (by omega)))
    rw [hW2]
    clear hW2 B2
    go_wp2
    refine place_end (w1 := W2) rfl k0 k1 y0 y1 rfl ?_
    exact ⟨rfl, (BW.out.setCell (p := ⟨w.heap.size, 0, none⟩) (Nat.le_refl _) _).setCell (p := ⟨w.heap.size, 1, none⟩) (Nat.le_refl _) _⟩)
end Go.Proofs.YtbcmpacmoofdkaaGreatDoor
