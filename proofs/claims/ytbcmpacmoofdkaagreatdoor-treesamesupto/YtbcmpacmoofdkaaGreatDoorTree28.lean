/- The parser: what infix names stand between, in patterns and in expressions. -/
import Derived.Test.YtbcmpacmoofdkaaGreatDoorProg
import Derived.Test.YtbcmpacmoofdkaaGreatDoorTree26
import Derived.WalkKit
import Derived.ProofKit
import Derived.OpenShut
import Derived.Below
import Derived.WalkLawsBesides
import Derived.OwnWalk
import Derived.BigQuiet
import Derived.Deep.MidRow
import Derived.Deep.RegionHeld
import Derived.Deep.RegionHeld3
import Derived.WalkSmall
import Derived.Deep.DeepCutAuto
namespace Go.Proofs.YtbcmpacmoofdkaaGreatDoor
open Go.ChangeShapes Go.WideShapes Go.ChangeAt Go.RowKit

theorem infoMixS : (Tryz.prog.info? 241).map (·.size) = some 5 := by kernel_rfl

/-- Once its five cells are written, a mixture is handed back. -/
theorem mix_end {w1 : World} {fn : Func} {p : Tmp} {g : Nat} (h : fn.results = #[.cell p 241]) {tmps : Array Value} {R : Ending → World → Prop} {u0 u1 u2 u3 u4 v0 v1 v2 v3 v4 : Value}
    (c : Five w1 g u0 u1 u2 u3 u4) (hp : tmps.getD p undef = .pointer (some ⟨g, 0, none⟩))
    (r : R (.returned (.agg #[v0, v1, v2, v3, v4])) (((((w1.setCell ⟨g, 0, none⟩ v0).setCell ⟨g, 1, none⟩ v1).setCell ⟨g, 2, none⟩ v2).setCell ⟨g, 3, none⟩ v3).setCell ⟨g, 4, none⟩ v4)) :
    bodyPost Tryz.prog fn R Exit.ret { tmps := tmps, defers := [] } (((((w1.setCell ⟨g, 0, none⟩ v0).setCell ⟨g, 1, none⟩ v1).setCell ⟨g, 2, none⟩ v2).setCell ⟨g, 3, none⟩ v3).setCell ⟨g, 4, none⟩ v4) := by
  have ht : w1.there g 0 [v0, v1, v2, v3, v4].length := by
    intro j hj
    simp only [List.length_cons, List.length_nil] at hj
    match j, hj with
    | 0, _ => exact ⟨by rw [c.c0]; rfl, c.f0⟩
    | 1, _ => exact ⟨by rw [c.c1]; rfl, c.f1⟩
    | 2, _ => exact ⟨by rw [c.c2]; rfl, c.f2⟩
    | 3, _ => exact ⟨by rw [c.c3]; rfl, c.f3⟩
    | 4, _ => exact ⟨by rw [c.c4]; rfl, c.f4⟩
  have hr := World.rangeAt_setCells_same w1 g 0 [v0, v1, v2, v3, v4] ht
  exact bodyPost_ret (results_one h _ _ g [v0, v1, v2, v3, v4] _ hp hr Tryz.underlying241 rfl infoMixS) rfl r

/-- A function's value is stored as any other. -/
theorem store_func (W : World) (a : Addr) (v : Value) (fn : Fn) (first cap : Array Value) (h : W.cell? a = some v) (hf : W.frozen? a = false) : (store a (.func fn first cap)).run Tryz.prog W = .ok () (W.setCell a (.func fn first cap)) := by
  simp [store, Sem.run, h, hf]

def patMix (b : Nat) : Value := .agg #[.func (.func 250) #[.pointer (some ⟨b, 0, none⟩)] #[], .func (.func 251) #[.pointer (some ⟨b, 0, none⟩)] #[], .int .i64 32, .int .i64 31, .int .i64 33]
def expMix (b : Nat) : Value := .agg #[.func (.func 275) #[.pointer (some ⟨b, 0, none⟩)] #[], .func (.func 276) #[.pointer (some ⟨b, 0, none⟩)] #[], .int .i64 17, .int .i64 10, .int .i64 13]

set_option maxRecDepth 100000 in
set_option maxHeartbeats 8000000 in
theorem patterns_any (b : Nat) (w : World) : Calls Tryz.prog 234 #[.pointer (some ⟨b, 0, none⟩)] w fun e w' => e = .returned (patMix b) ∧ Below w.heap.size w w' := by
  have hmf : ∀ (fn : Fn) (first cap : Array Value) (w : World), (Instr.makeFunc fn first cap).run Tryz.prog w = .ok (.func fn first cap) w := fun _ _ _ _ => rfl
  unfold patMix
  obtain ⟨W0, hW0⟩ : ∃ W0, w.alloc (.cells #[.nilFunc, .nilFunc, .int .i64 0, .int .i64 0, .int .i64 0] 241) = W0 := ⟨_, rfl⟩
  have F0 := five_new w .nilFunc .nilFunc (.int .i64 0) (.int .i64 0) (.int .i64 0) 241
  have B0 : Below w.heap.size w (w.alloc (.cells #[.nilFunc, .nilFunc, .int .i64 0, .int .i64 0, .int .i64 0] 241)) := (Below.refl _ _).alloc (Nat.le_refl _) _
  rw [hW0] at F0 B0
  have HF0 := hide' F0
  have HB0 := hide' B0
  obtain ⟨t0, t1, t2, t3, t4, g0, g1, g2, g3, g4⟩ := F0
  clear B0
  have S0 := store_func W0 ⟨w.heap.size, 0, none⟩ _ (.func 250) #[.pointer (some ⟨b, 0, none⟩)] #[] t0 g0
  have S1 := store_func (W0.setCell ⟨w.heap.size, 0, none⟩ (.func (.func 250) #[.pointer (some ⟨b, 0, none⟩)] #[])) ⟨w.heap.size, 1, none⟩ _ (.func 251) #[.pointer (some ⟨b, 0, none⟩)] #[] ((World.cell?_setCell_other _ _ _ _ (by simp)).trans t1) (by rw [World.frozen?_setCell]; exact g1)
  go_enter Tryz.func234, Tryz.ntmps234
  go_upto_region 1 with fail
  try rw [hW0]
  clear hW0
  go_wp2_with fail
  refine mix_end (w1 := W0) rfl HF0.out rfl ?_
  exact ⟨rfl, set5_below HB0.out (Nat.le_refl _) _ _ _ _ _⟩

set_option maxRecDepth 100000 in
set_option maxHeartbeats 8000000 in
theorem expressions_any (b : Nat) (w : World) : Calls Tryz.prog 268 #[.pointer (some ⟨b, 0, none⟩)] w fun e w' => e = .returned (expMix b) ∧ Below w.heap.size w w' := by
  have hmf : ∀ (fn : Fn) (first cap : Array Value) (w : World), (Instr.makeFunc fn first cap).run Tryz.prog w = .ok (.func fn first cap) w := fun _ _ _ _ => rfl
  unfold expMix
  obtain ⟨W0, hW0⟩ : ∃ W0, w.alloc (.cells #[.nilFunc, .nilFunc, .int .i64 0, .int .i64 0, .int .i64 0] 241) = W0 := ⟨_, rfl⟩
  have F0 := five_new w .nilFunc .nilFunc (.int .i64 0) (.int .i64 0) (.int .i64 0) 241
  have B0 : Below w.heap.size w (w.alloc (.cells #[.nilFunc, .nilFunc, .int .i64 0, .int .i64 0, .int .i64 0] 241)) := (Below.refl _ _).alloc (Nat.le_refl _) _
  rw [hW0] at F0 B0
  have HF0 := hide' F0
  have HB0 := hide' B0
  obtain ⟨t0, t1, t2, t3, t4, g0, g1, g2, g3, g4⟩ := F0
  clear B0
  have S0 := store_func W0 ⟨w.heap.size, 0, none⟩ _ (.func 275) #[.pointer (some ⟨b, 0, none⟩)] #[] t0 g0
  have S1 := store_func (W0.setCell ⟨w.heap.size, 0, none⟩ (.func (.func 275) #[.pointer (some ⟨b, 0, none⟩)] #[])) ⟨w.heap.size, 1, none⟩ _ (.func 276) #[.pointer (some ⟨b, 0, none⟩)] #[] ((World.cell?_setCell_other _ _ _ _ (by simp)).trans t1) (by rw [World.frozen?_setCell]; exact g1)
  go_enter Tryz.func268, Tryz.ntmps268
  go_upto_region 1 with fail
  try rw [hW0]
  clear hW0
  go_wp2_with fail
  refine mix_end (w1 := W0) rfl HF0.out rfl ?_
  exact ⟨rfl, set5_below HB0.out (Nat.le_refl _) _ _ _ _ _⟩
end Go.Proofs.YtbcmpacmoofdkaaGreatDoor
/- The parser: infixes, where one phrase stands. -/
namespace Go.Proofs.YtbcmpacmoofdkaaGreatDoor
open Go.ChangeShapes Go.WideShapes Go.ChangeAt Go.RowKit

theorem Three.setAll {w1 : World} {g : Nat} {u0 u1 u2 : Value} (c : Three w1 g u0 u1 u2) (v0 v1 v2 : Value) : Three (((w1.setCell ⟨g, 0, none⟩ v0).setCell ⟨g, 1, none⟩ v1).setCell ⟨g, 2, none⟩ v2) g v0 v1 v2 := by
  have ht : w1.there g 0 [v0, v1, v2].length := by
    intro j hj
    simp only [List.length_cons, List.length_nil] at hj
    match j, hj with
    | 0, _ => exact ⟨by rw [c.c0]; rfl, c.f0⟩
    | 1, _ => exact ⟨by rw [c.c1]; rfl, c.f1⟩
    | 2, _ => exact ⟨by rw [c.c2]; rfl, c.f2⟩
  have hr := World.rangeAt_setCells_same w1 g 0 [v0, v1, v2] ht
  exact ⟨hr 0 v0 rfl, hr 1 v1 rfl, hr 2 v2 rfl, by simp only [World.frozen?_setCell]; exact c.f0, by simp only [World.frozen?_setCell]; exact c.f1, by simp only [World.frozen?_setCell]; exact c.f2⟩
theorem below_set3 {w w1 : World} {B g : Nat} (h : Below B w w1) (hg : B ≤ g) (v0 v1 v2 : Value) : Below B w (((w1.setCell ⟨g, 0, none⟩ v0).setCell ⟨g, 1, none⟩ v1).setCell ⟨g, 2, none⟩ v2) :=
  ((h.setCell (p := ⟨g, 0, none⟩) hg _).setCell (p := ⟨g, 1, none⟩) hg _).setCell (p := ⟨g, 2, none⟩) hg _

set_option maxRecDepth 100000 in
set_option maxHeartbeats 16000000 in
theorem infixes_pat (b : Nat) (tv : Value) (toks : List ITk) (at' at1 op : Nat) (so : Option Addr) (fx : List UInt8 → Fix) (ns ns' : List Nod) (ds ds' : List Nat) (nv dv : Value) (w : World) (n : Int) (h : St b w tv toks at' op so fx ns ds nv dv)
    (ht : ∀ W, Below w.heap.size w W → Calls Tryz.prog 250 #[.pointer (some ⟨b, 0, none⟩)] W fun e w' => e = .returned (.int .i64 n) ∧ (∃ nv' dv', St b w' tv toks at1 op so fx ns' ds' nv' dv') ∧ Rel b W w')
    (hfx : (fxP fx (lookT toks at1)).1 = false) :
    Calls Tryz.prog 233 #[.pointer (some ⟨b, 0, none⟩), patMix b] w fun e w' => e = .returned (.int .i64 n) ∧ (∃ nv' dv', St b w' tv toks at1 op so fx ns' ds' nv' dv') ∧ Rel b w w' := by
  have hold := h.ps.old
  unfold patMix
  obtain ⟨W0, hW0⟩ : ∃ W0, w.alloc (.cells #[.func (.func 250) #[.pointer (some ⟨b, 0, none⟩)] #[], .func (.func 251) #[.pointer (some ⟨b, 0, none⟩)] #[], .int .i64 32, .int .i64 31, .int .i64 33] 241) = W0 := ⟨_, rfl⟩
  have B0 : Below w.heap.size w W0 := by rw [← hW0]; exact (Below.refl _ _).alloc (Nat.le_refl _) _
  have p0 : W0.cell? ⟨w.heap.size, 0, none⟩ = some (.func (.func 250) #[.pointer (some ⟨b, 0, none⟩)] #[]) := by rw [← hW0]; simp
  have p1 : W0.cell? ⟨w.heap.size, 1, none⟩ = some (.func (.func 251) #[.pointer (some ⟨b, 0, none⟩)] #[]) := by rw [← hW0]; simp
  have s0 : w.heap.size < W0.heap.size := by rw [← hW0]; simp
  have HPR := hide' (h.prot (h.ps.below B0.drew hold) (Nat.le_refl _) s0)
  have CT := hide' (ht W0 B0)
  have CL : Hid' (∀ W nv' dv', St b W tv toks at1 op so fx ns' ds' nv' dv' → Calls Tryz.prog 139 #[.pointer (some ⟨b, 0, none⟩), .int .i64 0] W fun e w' => e = .returned (lookT toks (at1 + 0)).val ∧ Below W.heap.size W w') := ⟨fun W nv' dv' g => look_any b tv toks at1 op 0 (.pointer so) nv' dv' W g.ps (by decide)⟩
  rw [Nat.add_zero] at CL
  have CF := hide' (fun W nv' dv' (g : St b W tv toks at1 op so fx ns' ds' nv' dv') => fixityInPat_any b tv toks at1 op so nv' dv' fx (lookT toks at1) W g.ps g.fn)
  generalize fxP fx (lookT toks at1) = f at *
  obtain ⟨fi, fl, fr⟩ := f
  simp only at hfx
  subst hfx
  unfold fixV at CF
  simp only at CF
  generalize lookT toks at1 = T at *
  obtain ⟨tk, tt, tp, tx, ty, po, pc, tl⟩ := T
  unfold ITk.val ITk.pv at CL CF
  simp only at CL CF
  generalize tp.length = PL at *
  generalize ByteArray.mk tt.toArray = z at *
  have HB0 := hide' B0
  clear h ht B0
  go_enter Tryz.func233, Tryz.ntmps233
  go_upto_region 1 with fail
  try rw [hW0]
  clear hW0
  go_upto_region 3 with (go_at_call 250; refine CT.out.mono ?_; clear CT; rintro e w1 ⟨rfl, ⟨nv', dv', h1⟩, r1⟩; (have H1 := hide' h1); (have R1 := hide' r1); clear h1 r1; (have q1 := R1.out.rest _ HPR.out); (have HQ1 := hide' q1.2); (have c1 := (cell_of_block (a := ⟨w.heap.size, 1, none⟩) q1.1).trans p1); clear q1)
  obtain ⟨W2, hW2⟩ : ∃ W2, w1.alloc (.cells #[.int .i64 n] 3) = W2 := ⟨_, rfl⟩
  have c0 : W2.cell? ⟨w1.heap.size, 0, none⟩ = some (.int .i64 n) := by rw [← hW2]; simp
  have s2 : w1.heap.size < W2.heap.size := by rw [← hW2]; simp
  have B2 : Below w1.heap.size w1 W2 := by rw [← hW2]; exact (Below.refl _ _).alloc (Nat.le_refl _) _
  have H2 := hide' (H1.out.below B2)
  have R2 := hide' ((Rel.of HB0.out hold).trans (R1.out.trans (Rel.of B2 H1.out.ps.old)))
  have c1' := (B2.cell (p := ⟨w.heap.size, 1, none⟩) HQ1.out.1).trans c1
  have s3 := HQ1.out.1
  have hold2 := H2.out.ps.old
  generalize w1.heap.size = g at *
  try rw [hW2]
  clear hW2 p0 p1 c1 H1 R1 B2
  go_loopw [5, 6] (fun v5 v6 wr => v5 = .slice (some ⟨g, 0, none⟩) 1 1 ∧ v6 = .slice none 0 0 ∧ wr = W2) (fun _ _ _ => 0)
  case atStart => exact ⟨rfl, rfl, rfl⟩
  case round =>
    obtain ⟨rfl, rfl, hw⟩ := hrel
    subst hw
    obtain ⟨wq, hwq⟩ : ∃ wq, wq = wr := ⟨_, rfl⟩
    subst hwq
    have nr : ¬ wq.heap.size = w.heap.size := by omega
    have nr' : ¬ w.heap.size = wq.heap.size := by omega
    go_upto_region 3 with fail
    go_cut [7] (fun v7 wx => ∃ T : Nat, v7 = .pointer (some ⟨T, 0, none⟩) ∧ Three wx T (.bool false) (.int .i64 fl) (.bool fr) ∧ Below wq.heap.size wq wx ∧ wq.heap.size ≤ T)
    case first =>
      go_region_held3 (fun w' => w'.cell? ⟨w.heap.size, 1, none⟩ = some (.func (.func 251) #[.pointer (some ⟨b, 0, none⟩)] #[])) (go_keep) (first
        | (go_at_call 139; refine (CL.out _ nv' dv' (H2.out.below (by first | exact (Below.refl _ _).drew | exact ((Below.refl _ _).drew).alloc (Nat.le_refl _) _ | exact ((Below.refl _ _).alloc (Nat.le_refl _) _).drew))).mono ?_; rintro e w3 ⟨rfl, b3⟩; (have B3 : Below wq.heap.size wq w3 := by first | exact ((Below.refl _ _).drew).trans b3 | exact (((Below.refl _ _).drew).alloc (Nat.le_refl _) _).trans (b3.mono (by simp))); (have k3 := (B3.cell (p := ⟨w.heap.size, 1, none⟩) (show w.heap.size < _ by omega)).trans c1'); (have s3b := B3.size); (have n3 : ¬ w3.heap.size = w.heap.size := by omega); (have n3' : ¬ w.heap.size = w3.heap.size := by omega); (try have T3 : Three w3 wq.heap.size (.bool false) (.int .i64 0) (.bool false) := Three.below (by constructor <;> simp) b3 (by first | (simp; done) | (simp; omega) | omega)))
        | (go_at_call 251; refine (CF.out _ nv' dv' (H2.out.below (by first | exact B3 | exact B3.alloc s3b _))).mono ?_; rintro e w4 ⟨rfl, b4⟩; (have B4 : Below wq.heap.size wq w4 := by first | exact B3.trans (b4.mono s3b) | exact (B3.alloc s3b _).trans (b4.mono (by simp; omega))); (have k4 := (B4.cell (p := ⟨w.heap.size, 1, none⟩) (show w.heap.size < _ by omega)).trans c1'); (have s4b := B4.size); (have n4 : ¬ w4.heap.size = w.heap.size := by omega); (have n4' : ¬ w.heap.size = w4.heap.size := by omega); (try have T4 := Three.below T3 b4 (by have := b3.size; first | (simp at this; omega) | omega)); (try have T4 : Three w4 w3.heap.size (.bool false) (.int .i64 0) (.bool false) := Three.below (by constructor <;> simp) b4 (by first | (simp; done) | (simp; omega) | omega)); (try (obtain ⟨y0, y1, y2, z0, z1, z2⟩ := T4))))
      all_goals (
        go_wp2_with fail
        go_meet
        first
          | exact ⟨_, rfl, (Three.mk y0 y1 y2 z0 z1 z2).setAll _ _ _, below_set3 B4 (by first | exact Nat.le_refl _ | exact s3b) _ _ _, by first | exact Nat.le_refl _ | exact s3b⟩
          | exact ⟨_, rfl, three_new _ _ _ _ _, B4.alloc s4b _, s4b⟩)
    case rest =>
      obtain ⟨T, rfl, t3, bx, hT⟩ := hcut
      obtain ⟨y0, y1, y2, z0, z1, z2⟩ := t3
      have d0 := (bx.cell (p := ⟨g, 0, none⟩) s2).trans c0
      go_wp2_with fail
      go_loopw [5, 6] (fun v5 v6 wy => v5 = .slice (some ⟨g, 0, none⟩) 1 1 ∧ v6 = .slice none 0 0 ∧ wy = wc) (fun _ _ _ => 0)
      case atStart => exact ⟨rfl, rfl, rfl⟩
      case round =>
        obtain ⟨rfl, rfl, hy⟩ := hrel
        subst hy
        go_upto_region 4 with fail
        go_quiet (fail)
        go_wp2_with fail
        go_ret
        have bq : Below wq.heap.size wq (wr.drewN nq) := bx.trans (below_drew2 _ _ nq)
        exact ⟨rfl, ⟨nv', dv', H2.out.below bq⟩, R2.out.trans (Rel.of bq hold2)⟩
end Go.Proofs.YtbcmpacmoofdkaaGreatDoor
