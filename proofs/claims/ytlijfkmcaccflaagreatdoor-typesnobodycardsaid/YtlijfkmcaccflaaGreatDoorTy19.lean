/- Books of types: at. -/
import Derived.Test.YtlijfkmcaccflaaGreatDoorProg
import Derived.Test.YtlijfkmcaccflaaGreatDoorTy18
import Derived.WalkKit
import Derived.ProofKit
import Derived.OpenShut
import Derived.Below
import Derived.WalkLawsBesides
import Derived.OwnWalk
import Derived.Laws.OwnMore
import Derived.Laws.Rows
import Derived.BigQuiet
import Derived.Deep.QuietTactic
import Derived.Deep.MidRow
import Derived.Deep.RegionHeld
import Derived.Deep.RegionHeld3
import Derived.WalkSmall
import Derived.Deep.DeepCutAuto
namespace Go.Proofs.YtlijfkmcaccflaaGreatDoor
open Go.ChangeShapes Go.WideShapes Go.ChangeAt Go.RowKit

theorem results_one {fn : Func} {p : Tmp} {ty : TypeId} (h : fn.results = #[.cell p ty]) (tmps : Array Value) (w : World) (b : Nat) (cs : List Value) (d : TypeDesc)
    (hp : tmps.getD p undef = .pointer (some ⟨b, 0, none⟩)) (hc : w.rangeAt b 0 cs) (hu : Tryz.prog.underlying ty = some d) (hd : d.isRow = true) (hi : (Tryz.prog.info? ty).map (·.size) = some cs.length) :
    (results fn tmps).run Tryz.prog w = .ok (.agg cs.toArray) w := by
  have hp' : tmps[p]?.getD undef = .pointer (some ⟨b, 0, none⟩) := by simpa using hp
  simp [results, h, hp', asAddr, run_loadVar_mid w b 0 ty cs d hc hu hd hi]
theorem infoCellS : (Tryz.prog.info? 71).map (·.size) = some 12 := by kernel_rfl
/-- Once its twelve cells are written, a type is handed back. -/
theorem cell_end {w w1 : World} {fn : Func} {p : Tmp} (h : fn.results = #[.cell p 71]) {tmps : Array Value} {R : Ending → World → Prop} {v0 v1 v2 v3 v4 v5 v6 v7 v8 v9 v10 v11 : Value} (c : TcAt w1 w.heap.size 0 Tc.zero) (fz : ∀ i, w1.frozen? ⟨w.heap.size, i, none⟩ = false)
    (hp : tmps.getD p undef = .pointer (some ⟨w.heap.size, 0, none⟩)) (b : Below w.heap.size w w1)
    (g : Below w.heap.size w ((((((((((((w1.setCell ⟨w.heap.size, 0, none⟩ v0).setCell ⟨w.heap.size, 1, none⟩ v1).setCell ⟨w.heap.size, 2, none⟩ v2).setCell ⟨w.heap.size, 3, none⟩ v3).setCell ⟨w.heap.size, 4, none⟩ v4).setCell ⟨w.heap.size, 5, none⟩ v5).setCell ⟨w.heap.size, 6, none⟩ v6).setCell ⟨w.heap.size, 7, none⟩ v7).setCell ⟨w.heap.size, 8, none⟩ v8).setCell ⟨w.heap.size, 9, none⟩ v9).setCell ⟨w.heap.size, 10, none⟩ v10).setCell ⟨w.heap.size, 11, none⟩ v11) → R (.returned (.agg #[v0, v1, v2, v3, v4, v5, v6, v7, v8, v9, v10, v11])) ((((((((((((w1.setCell ⟨w.heap.size, 0, none⟩ v0).setCell ⟨w.heap.size, 1, none⟩ v1).setCell ⟨w.heap.size, 2, none⟩ v2).setCell ⟨w.heap.size, 3, none⟩ v3).setCell ⟨w.heap.size, 4, none⟩ v4).setCell ⟨w.heap.size, 5, none⟩ v5).setCell ⟨w.heap.size, 6, none⟩ v6).setCell ⟨w.heap.size, 7, none⟩ v7).setCell ⟨w.heap.size, 8, none⟩ v8).setCell ⟨w.heap.size, 9, none⟩ v9).setCell ⟨w.heap.size, 10, none⟩ v10).setCell ⟨w.heap.size, 11, none⟩ v11)) :
    bodyPost Tryz.prog fn R Exit.ret { tmps := tmps, defers := [] } ((((((((((((w1.setCell ⟨w.heap.size, 0, none⟩ v0).setCell ⟨w.heap.size, 1, none⟩ v1).setCell ⟨w.heap.size, 2, none⟩ v2).setCell ⟨w.heap.size, 3, none⟩ v3).setCell ⟨w.heap.size, 4, none⟩ v4).setCell ⟨w.heap.size, 5, none⟩ v5).setCell ⟨w.heap.size, 6, none⟩ v6).setCell ⟨w.heap.size, 7, none⟩ v7).setCell ⟨w.heap.size, 8, none⟩ v8).setCell ⟨w.heap.size, 9, none⟩ v9).setCell ⟨w.heap.size, 10, none⟩ v10).setCell ⟨w.heap.size, 11, none⟩ v11) := by
  have ht : w1.there w.heap.size 0 [v0, v1, v2, v3, v4, v5, v6, v7, v8, v9, v10, v11].length := by
    obtain ⟨t0, t1, t2, t3, t4, t5, t6, t7, t8, t9, t10, t11⟩ := c
    simp only [Nat.zero_add] at t0 t1 t2 t3 t4 t5 t6 t7 t8 t9 t10 t11
    intro j hj
    simp only [List.length_cons, List.length_nil] at hj
    match j, hj with
    | 0, _ => exact ⟨by rw [t0]; rfl, fz _⟩
    | 1, _ => exact ⟨by rw [t1]; rfl, fz _⟩
    | 2, _ => exact ⟨by rw [t2]; rfl, fz _⟩
    | 3, _ => exact ⟨by rw [t3]; rfl, fz _⟩
    | 4, _ => exact ⟨by rw [t4]; rfl, fz _⟩
    | 5, _ => exact ⟨by rw [t5]; rfl, fz _⟩
    | 6, _ => exact ⟨by rw [t6]; rfl, fz _⟩
    | 7, _ => exact ⟨by rw [t7]; rfl, fz _⟩
    | 8, _ => exact ⟨by rw [t8]; rfl, fz _⟩
    | 9, _ => exact ⟨by rw [t9]; rfl, fz _⟩
    | 10, _ => exact ⟨by rw [t10]; rfl, fz _⟩
    | 11, _ => exact ⟨by rw [t11]; rfl, fz _⟩
  have hr := World.rangeAt_setCells_same w1 w.heap.size 0 [v0, v1, v2, v3, v4, v5, v6, v7, v8, v9, v10, v11] ht
  refine bodyPost_ret (results_one h _ _ w.heap.size [v0, v1, v2, v3, v4, v5, v6, v7, v8, v9, v10, v11] _ hp hr Tryz.underlying71 rfl infoCellS) rfl (g ?_)
  exact (((((((((((b.setCell (Nat.le_refl _) _).setCell (Nat.le_refl _) _).setCell (Nat.le_refl _) _).setCell (Nat.le_refl _) _).setCell (Nat.le_refl _) _).setCell (Nat.le_refl _) _).setCell (Nat.le_refl _) _).setCell (Nat.le_refl _) _).setCell (Nat.le_refl _) _).setCell (Nat.le_refl _) _).setCell (Nat.le_refl _) _).setCell (Nat.le_refl _) _

set_option maxRecDepth 100000 in
set_option maxHeartbeats 16000000 in
theorem at_any (b hi : Nat) (cv : Value) (cs : List Tc) (x : Nat) (w : World) (hb : Bk b hi w cv cs) (hx : Good cs x) :
    Calls Tryz.prog 46 #[.pointer (some ⟨b, 0, none⟩), .int .i64 (x : Int)] w fun e w' => e = .returned (cs.getD (nw cs x) Tc.zero).val ∧ Below w.heap.size w w' := by
  obtain ⟨W0, hW0⟩ : ∃ W0, w.alloc (.cells #[.int .i64 0, .int .i64 0, .slice none 0 0, .slice none 0 0, .bool false, .int .i64 0, .int .i64 0, .string ⟨#[]⟩, .bool false, .bool false, .int .i64 0, .int .i64 0] 71) = W0 := ⟨_, rfl⟩
  have B0 : Below w.heap.size w W0 := by rw [← hW0]; exact (Below.refl _ _).alloc (Nat.le_refl _) _
  have S0 : w.heap.size < W0.heap.size := by rw [← hW0]; simp
  have T0 : TcAt W0 w.heap.size 0 Tc.zero := by rw [← hW0]; exact TcAt.new w Tc.zero 71
  have F0 : ∀ i, W0.frozen? ⟨w.heap.size, i, none⟩ = false := by intro i; rw [← hW0]; simp
  have hb0 := hb.below (B0.mono hb.hil)
  have CN := hide' (fun k => now_of b hi cv cs x (W0.drewN k) (hb0.below (below_drew _ _ k)) hx)
  obtain ⟨g, cap, hcv, hbg, hghi, hat⟩ := hb0.at hx.2.1
  have c2 := hb0.c2
  rw [hcv] at c2
  obtain ⟨ao3, cap3, hv3, _, _⟩ := (hb0.args _ hx.2.1).rd
  have hsm := hb.sm
  have hyl := hx.2.1
  obtain ⟨y, hy⟩ : ∃ y, nw cs x = y := ⟨_, rfl⟩
  rw [hy] at CN hat hv3 hyl ⊢
  unfold Tc.val
  obtain ⟨r0, r1, r2, r3, r4, r5, r6, r7, r8, r9, r10, r11⟩ := hat
  rw [hv3] at r3 ⊢
  generalize (cs.getD y Tc.zero).args.length = A at *
  generalize (cs.getD y Tc.zero).kind = ck at *
  generalize (cs.getD y Tc.zero).con = cn at *
  generalize (cs.getD y Tc.zero).level = cl at *
  generalize (cs.getD y Tc.zero).to = ct at *
  generalize cs.length = N at *
  have hil := hb.hil
  have hbo := hb.old
  have p1 : ¬ g = w.heap.size := by omega
  have p2 : ¬ w.heap.size = g := by omega
  have p3 : ¬ b = w.heap.size := by omega
  have p4 : ¬ w.heap.size = b := by omega
  have HB0 := hide' B0
  have HT0 := hide' T0
  have HF0 := hide' F0
  obtain ⟨t0, t1, t2, t3, t4, t5, t6, t7, t8, t9, t10, t11⟩ := T0
  simp only [Nat.zero_add] at t0 t1 t2 t3 t4 t5 t6 t7 t8 t9 t10 t11
  have z0 := F0 0
  have z1 := F0 1
  have z2 := F0 2
  have z3 := F0 3
  have z4 := F0 4
  have z5 := F0 5
  have z6 := F0 6
  have z7 := F0 7
  have z8 := F0 8
  have z9 := F0 9
  have z10 := F0 10
  have z11 := F0 11
  clear hb hb0 hx hcv hv3 hy B0 F0
  go_enter Tryz.func46, Tryz.ntmps46
  go_upto_region 1 with fail
  try rw [hW0]
  clear hW0
  go_region_held3 (fun w' => w'.cell? ⟨b, 2, none⟩ = some (.slice (some ⟨g, 0, none⟩) N cap) ∧ w'.cell? ⟨g, y * 12, none⟩ = some (.int .i64 ck) ∧ w'.cell? ⟨g, y * 12 + 1, none⟩ = some (.int .i64 cn) ∧ w'.cell? ⟨g, y * 12 + 2, none⟩ = some (.slice none 0 0) ∧ w'.cell? ⟨g, y * 12 + 3, none⟩ = some (.slice ao3 A cap3) ∧ w'.cell? ⟨g, y * 12 + 4, none⟩ = some (.bool false) ∧ w'.cell? ⟨g, y * 12 + 5, none⟩ = some (.int .i64 0) ∧ w'.cell? ⟨g, y * 12 + 6, none⟩ = some (.int .i64 cl) ∧ w'.cell? ⟨g, y * 12 + 7, none⟩ = some (.string ⟨#[]⟩) ∧ w'.cell? ⟨g, y * 12 + 8, none⟩ = some (.bool false) ∧ w'.cell? ⟨g, y * 12 + 9, none⟩ = some (.bool false) ∧ w'.cell? ⟨g, y * 12 + 10, none⟩ = some (.int .i64 ct) ∧ w'.cell? ⟨g, y * 12 + 11, none⟩ = some (.int .i64 0)) (go_keep) (first | (go_at_call 48; refine (CN.out 1).mono ?_; rintro e w1 ⟨rfl, h9⟩; subst h9) | (go_at_call 48; refine (CN.out 0).mono ?_; rintro e w1 ⟨rfl, h9⟩; subst h9))
  go_wp2_with fail
  refine cell_end (w1 := W0.drewN 1) rfl (HT0.out.below (below_drew W0.heap.size W0 1) S0) (fun i => HF0.out i) rfl (HB0.out.trans (below_drew _ _ _)) fun gg => ?_
  exact ⟨rfl, gg⟩
end Go.Proofs.YtlijfkmcaccflaaGreatDoor
