/- Unifiers: try, Unify. -/
import Derived.Test.YtlijfkmcaccflaaGreatDoorProg
import Derived.Test.YtlijfkmcaccflaaGreatDoorTy14
import Derived.WalkKit
import Derived.ProofKit
import Derived.OpenShut
import Derived.Below
import Derived.WalkLawsBesides
import Derived.OwnWalk
import Derived.BigQuiet
import Derived.WalkSmall
import Derived.Deep.DeepCutAuto
import Derived.Defers
import Derived.Recover
namespace Go.Proofs.YtlijfkmcaccflaaGreatDoor
open Go.ChangeShapes Go.WideShapes Go.ChangeAt Go.RowKit

def caughtF (x : Int) (r : Bool) : PanicEntry := { v := .iface 129 (.agg #[.int .i64 x]), recovered := r }

set_option maxRecDepth 100000 in
set_option maxHeartbeats 8000000 in
theorem catch_idle (p q : Addr) (w : World) :
    CallsD Tryz.prog 72 #[.pointer (some p), .pointer (some q)] .returning w fun e u' w' => e = .returned (.tuple #[]) ∧ u' = .returning ∧ w' = w := by
  refine callsD_of_wpS Tryz.func72 rfl fun c₀ cs hu => ?_
  apply wpS_seq
  apply wpS_region
  simp [wpOpsS, go_sem, recoverD, hu, Tryz.ntmps72, Exit.thenS]
  apply wpS_seq
  apply wpS_region
  simp [wpOpsS, go_sem, Exit.thenS]
  refine wpS_cond (t := false) (by simp [Act.eval, Array.replicate]) ?_
  simp only [Bool.false_eq_true, if_false]
  refine wpS_of_wp (wp_skip ?_)
  cases c₀
  simp_all [bodyPostS, results, Tryz.results72]

set_option maxRecDepth 100000 in
set_option maxHeartbeats 8000000 in
theorem catch_fail (p q t : Nat) (w : World) (hp : w.cell? ⟨p, 0, none⟩ = some (.pointer (some ⟨t, 0, none⟩))) (hu1 : w.cell? ⟨t, 1, none⟩ = some (.slice none 0 0)) (hf : w.frozen? ⟨t, 1, none⟩ = false) (ht : t < w.heap.size) (_hpt : p ≠ t) (hq : w.cell? ⟨q, 0, none⟩ = some (.int .i64 0)) (hqf : w.frozen? ⟨q, 0, none⟩ = false) (hqt : t < q) (hql : q < w.heap.size) :
    CallsD Tryz.prog 72 #[.pointer (some ⟨p, 0, none⟩), .pointer (some ⟨q, 0, none⟩)] (.panicking [caughtF 71 false]) w fun e u' w' => e = .returned (.tuple #[]) ∧ u' = .panicking [caughtF 71 true] ∧ Below t w w' ∧ w'.cell? ⟨q, 0, none⟩ = some (.int .i64 71) := by
  refine callsD_of_wpS Tryz.func72 rfl fun c₀ cs hu => ?_
  apply wpS_seq
  apply wpS_region
  simp [wpOpsS, go_sem, recoverD, hu, caughtF, Tryz.ntmps72, Exit.thenS]
  apply wpS_seq
  apply wpS_region
  simp [wpOpsS, go_sem, Exit.thenS]
  refine wpS_cond (t := true) (by simp [Act.eval, Array.replicate]) ?_
  simp only [if_true]
  refine wpS_of_wp ?_
  have CB := hide' (back_nil t w hu1 hf ht)
  have hta : ∀ w : World, (Instr.typeAssert (.iface 129 (.agg #[.int .i64 71])) 20 129 false).run Tryz.prog w = .ok (.agg #[.int .i64 71]) w := fun _ => by kernel_rfl
  have hfi : ∀ w : World, (Instr.field 129 (.agg #[.int .i64 71]) 0).run Tryz.prog w = .ok (.int .i64 71) w := fun _ => by kernel_rfl
  simp only [Array.replicate_succ, Array.replicate_zero, List.push_toArray, List.append_toArray, List.nil_append, List.cons_append, List.setIfInBounds_toArray, List.set_cons_succ, List.set_cons_zero]
  go_wp2_with (go_at_call 51; refine CB.out.mono ?_; clear CB; rintro e w1 ⟨rfl, b1, r1⟩; (have hq1 := (cell_of_block (a := ⟨q, 0, none⟩) (r1 q (by omega) (by omega))).trans hq); (have hf1 := (World.frozen?_of_block (a := ⟨q, 0, none⟩) (r1 q (by omega) (by omega))).trans hqf))
  exact ⟨rfl, _, rfl, _, results_none rfl _ _ _, rfl, rfl, b1.setCell (p := ⟨q, 0, none⟩) (Nat.le_of_lt hqt) _, World.cell?_setCell_same _ _ _ hq1⟩

set_option maxRecDepth 100000 in
set_option maxHeartbeats 8000000 in
theorem try_fail (t b hi : Nat) (cv : Value) (cs : List Tc) (tv : Value) (s q : Int) (w : World) (hb : Bk b hi w cv cs) (hu : Un t b w tv 0) (htv : tv = .slice none 0 0) (hht : hi ≤ t)
    (hU : ∀ W, Below w.heap.size w W → Calls Tryz.prog 73 #[.pointer (some ⟨t, 0, none⟩), .int .i64 s, .int .i64 q, .int .i64 (-1)] W fun e w' => e = .panicked [{ v := .iface 129 (.agg #[.int .i64 71]), recovered := false }] ∧ Below w.heap.size w w' ∧ Below W.heap.size W w') :
    Calls Tryz.prog 47 #[.pointer (some ⟨t, 0, none⟩), .int .i64 s, .int .i64 q] w fun e w' => e = .returned (.int .i64 71) ∧ Bk b hi w' cv cs ∧ Below t w w' := by
  have hmf : ∀ (fn : Fn) (first cap : Array Value) (w : World), (Instr.makeFunc fn first cap).run Tryz.prog w = .ok (.func fn first cap) w := fun _ _ _ _ => rfl
  obtain ⟨W0, hW0⟩ : ∃ W0, (w.alloc (.cells #[.pointer (some ⟨t, 0, none⟩)] 127)).alloc (.cells #[.int .i64 0] 31) = W0 := ⟨_, rfl⟩
  have B0 : Below w.heap.size w W0 := by rw [← hW0]; exact ((Below.refl _ _).alloc (Nat.le_refl _) _).alloc (by simp) _
  have S0 : W0.heap.size = w.heap.size + 2 := by rw [← hW0]; simp
  have r0 : W0.cell? ⟨w.heap.size, 0, none⟩ = some (.pointer (some ⟨t, 0, none⟩)) := by rw [← hW0]; simp
  have r1 : W0.cell? ⟨w.heap.size + 1, 0, none⟩ = some (.int .i64 0) := by rw [← hW0]; simp
  have rf : W0.frozen? ⟨w.heap.size + 1, 0, none⟩ = false := by rw [← hW0]; simp
  have CU := hide' (hU W0 B0)
  have hold := hu.old
  have u1 := hu.c1
  have uf := hu.f1
  rw [htv] at u1
  have HB := hide' hb
  have HS0 := hide' S0
  have HB0 := hide' B0
  have hil := hb.hil
  clear hb hu htv hU S0 B0
  go_enter_defers Tryz.func47, Tryz.ntmps47
  go_wp2_with (go_at_call 73; refine CU.out.mono ?_; clear CU; rintro e w1 ⟨rfl, b1, b2⟩)
  have hs1 : w.heap.size + 2 ≤ w1.heap.size := by have := b2.size; have := HS0.out; omega
  have k0 := (b2.cell (p := ⟨w.heap.size, 0, none⟩) (show w.heap.size < _ by have := HS0.out; omega)).trans r0
  have k1 := (b2.cell (p := ⟨w.heap.size + 1, 0, none⟩) (show w.heap.size + 1 < _ by have := HS0.out; omega)).trans r1
  have k2 := (b2.frozen (p := ⟨w.heap.size + 1, 0, none⟩) (show w.heap.size + 1 < _ by have := HS0.out; omega)).trans rf
  have k3 := (b1.cell (p := ⟨t, 1, none⟩) hold).trans u1
  have k4 := (b1.frozen (p := ⟨t, 1, none⟩) hold).trans uf
  refine leaves_cons (f := 72) (args := #[.pointer (some ⟨w.heap.size, 0, none⟩), .pointer (some ⟨w.heap.size + 1, 0, none⟩)]) (by simp) (by simp [go_sem]) ?_
  refine (catch_fail w.heap.size (w.heap.size + 1) t w1 k0 k3 k4 (by omega) (by omega) k1 k2 (by omega) (by omega)).mono ?_
  rintro e u' w2 ⟨rfl, rfl, b3, k5⟩
  have B2 : Below t w w2 := (b1.mono (Nat.le_of_lt hold)).trans b3
  have HBK := HB.out.below (B2.mono hht)
  simp [Leaves, settle, caughtF, results, Tryz.results47, go_sem, k5]
  exact ⟨HBK, B2⟩

set_option maxRecDepth 100000 in
set_option maxHeartbeats 8000000 in
theorem try_ok (t b hi : Nat) (cv : Value) (cs cs2 : List Tc) (tv : Value) (n2 : Nat) (s q : Int) (w : World) (hb : Bk b hi w cv cs) (hu : Un t b w tv 0) (hht : hi ≤ t)
    (hU : ∀ W, Below w.heap.size w W → Calls Tryz.prog 73 #[.pointer (some ⟨t, 0, none⟩), .int .i64 s, .int .i64 q, .int .i64 (-1)] W fun e w' => e = .returned (.tuple #[]) ∧ Bk b hi w' cv cs2 ∧ (∃ tv2, Un t b w' tv2 n2 ∧ Urel t cv tv tv2 W w')) :
    Calls Tryz.prog 47 #[.pointer (some ⟨t, 0, none⟩), .int .i64 s, .int .i64 q] w fun e w' => e = .returned (.int .i64 0) ∧ Bk b hi w' cv cs2 ∧ Below b w w' := by
  have hmf : ∀ (fn : Fn) (first cap : Array Value) (w : World), (Instr.makeFunc fn first cap).run Tryz.prog w = .ok (.func fn first cap) w := fun _ _ _ _ => rfl
  obtain ⟨W0, hW0⟩ : ∃ W0, (w.alloc (.cells #[.pointer (some ⟨t, 0, none⟩)] 127)).alloc (.cells #[.int .i64 0] 31) = W0 := ⟨_, rfl⟩
  have B0 : Below w.heap.size w W0 := by rw [← hW0]; exact ((Below.refl _ _).alloc (Nat.le_refl _) _).alloc (by simp) _
  have S0 : W0.heap.size = w.heap.size + 2 := by rw [← hW0]; simp
  have r0 : W0.cell? ⟨w.heap.size, 0, none⟩ = some (.pointer (some ⟨t, 0, none⟩)) := by rw [← hW0]; simp
  have r1 : W0.cell? ⟨w.heap.size + 1, 0, none⟩ = some (.int .i64 0) := by rw [← hW0]; simp
  have rf : W0.frozen? ⟨w.heap.size + 1, 0, none⟩ = false := by rw [← hW0]; simp
  have CU := hide' (hU W0 B0)
  have hold := hu.old
  have HB := hide' hb
  have HU := hide' hu
  have HS0 := hide' S0
  have HB0 := hide' B0
  have hil := hb.hil
  have hbo := hb.old
  have HCR : Hid' (cv.ownBlock ≠ some (w.heap.size + 1)) := ⟨fun e => by have := hb.rhi _ e; omega⟩
  have HTR : Hid' (tv.ownBlock ≠ some (w.heap.size + 1)) := ⟨fun e => by have := hu.urel _ e; omega⟩
  clear hb hu hU S0 B0
  go_enter_defers Tryz.func47, Tryz.ntmps47
  go_wp2_with (go_at_call 73; refine CU.out.mono ?_; clear CU; rintro e w1 ⟨rfl, hbk, tv2, hun, hur⟩; (have e1 := hur.rest (w.heap.size + 1) (by have := HS0.out; omega) (by omega) HCR.out HTR.out); (have k1 := (cell_of_block (a := ⟨w.heap.size + 1, 0, none⟩) e1).trans r1); (have k2 := (World.frozen?_of_block (a := ⟨w.heap.size + 1, 0, none⟩) e1).trans rf))
  refine leaves_cons (f := 72) (args := #[.pointer (some ⟨w.heap.size, 0, none⟩), .pointer (some ⟨w.heap.size + 1, 0, none⟩)]) (by simp) (by simp [go_sem]) ?_
  refine (catch_idle ⟨w.heap.size, 0, none⟩ ⟨w.heap.size + 1, 0, none⟩ _).mono ?_
  rintro e u' w'' ⟨rfl, rfl, rfl⟩
  have k5 := World.cell?_setCell_same w1 ⟨w.heap.size + 1, 0, none⟩ (.int .i64 0) k1
  have B1 : Below b W0 w1 := hur.below (by have := HB0.out.size; omega) (by omega) (fun g hg => by have := (HB.out.row.lt g hg).1; omega) (fun g hg => by
    obtain ⟨zs, hz⟩ := HU.out.row
    have := (hz.lt g hg).1
    omega)
  have B2 : Below b w (w1.setCell ⟨w.heap.size + 1, 0, none⟩ (.int .i64 0)) := ((HB0.out.mono (by omega)).trans B1).setCell (p := ⟨w.heap.size + 1, 0, none⟩) (by show b ≤ w.heap.size + 1; omega) _
  have HBK := hbk.below ((Below.refl hi w1).setCell (p := ⟨w.heap.size + 1, 0, none⟩) (by show hi ≤ w.heap.size + 1; omega) (.int .i64 0))
  simp [Leaves, settle, results, Tryz.results47, go_sem, k5]
  exact ⟨HBK, B2⟩
/-- The unifier that a call of Unify makes. -/
theorem un_new (b hi : Nat) (w : World) (cv : Value) (cs : List Tc) (_h : Bk b hi w cv cs) : Un w.heap.size b (w.alloc (.cells #[.pointer (some ⟨b, 0, none⟩), .slice none 0 0] 103)) (.slice none 0 0) 0 :=
  ⟨by simp, by simp, by simp, ⟨[], World.ownsRow_nil _ _ _ _⟩, by simp, by omega⟩

set_option maxRecDepth 100000 in
set_option maxHeartbeats 8000000 in
theorem unify_face (b hi : Nat) (cv : Value) (cs : List Tc) (s q : Int) (r : Int) (w : World) (R : World → Prop) (hb : Bk b hi w cv cs) (hs : 0 ≤ s ∧ s < (cs.length : Int)) (hq : 0 ≤ q ∧ q < (cs.length : Int))
    (hT : ∀ W t, hi ≤ t → Bk b hi W cv cs → Un t b W (.slice none 0 0) 0 → Below hi w W → Calls Tryz.prog 47 #[.pointer (some ⟨t, 0, none⟩), .int .i64 s, .int .i64 q] W fun e w' => e = .returned (.int .i64 r) ∧ R w') :
    Calls Tryz.prog 18 #[.pointer (some ⟨b, 0, none⟩), .int .i64 s, .int .i64 q] w fun e w' => e = .returned (.int .i64 r) ∧ R w' := by
  have CM := hide' (made_yes b w hb.c0)
  have hil := hb.hil
  obtain ⟨W1, hW1⟩ : ∃ W1, w.alloc (.cells #[.int .i64 s, .int .i64 q] 3) = W1 := ⟨_, rfl⟩
  have B1 : Below hi w W1 := by rw [← hW1]; exact (Below.refl _ _).alloc hil _
  have R1 := rd_new2 w s q 3
  rw [hW1] at R1
  have CH := hide' (has_yes b hi cv cs _ [s, q] W1 (hb.below B1) R1 (fun a ha => by
    rcases List.mem_cons.1 ha with rfl | ha
    · exact hs
    · rw [List.mem_singleton.1 ha]; exact hq))
  obtain ⟨W2, hW2⟩ : ∃ W2, W1.alloc (.cells #[.pointer (some ⟨b, 0, none⟩), .slice none 0 0] 103) = W2 := ⟨_, rfl⟩
  have B2 : Below hi w W2 := by rw [← hW2]; exact B1.alloc (Nat.le_trans hil B1.size) _
  have U2 := un_new b hi W1 cv cs (hb.below B1)
  rw [hW2] at U2
  have CT := hide' (hT W2 W1.heap.size (Nat.le_trans hil B1.size) (hb.below B2) U2 B2)
  have HW2 := hide' hW2
  clear hb hs hq hT B1 R1 B2 U2 hW2
  go_enter Tryz.func18, Tryz.ntmps18
  go_upto_region 6 with (first | (go_at_call 24; refine CM.out.mono ?_; clear CM; rintro e w1 ⟨rfl, h9⟩; replace h9 := h9.symm; subst h9) | (go_at_call 29; refine CH.out.mono ?_; clear CH; rintro e w1 ⟨rfl, h9⟩; replace h9 := h9.symm; subst h9))
  try rw [HW2.out]
  clear HW2
  go_wp2_with (go_at_call 47; refine CT.out.mono ?_; clear CT; rintro e w2 ⟨rfl, hR⟩)
  go_ret
  exact ⟨rfl, hR⟩
end Go.Proofs.YtlijfkmcaccflaaGreatDoor
