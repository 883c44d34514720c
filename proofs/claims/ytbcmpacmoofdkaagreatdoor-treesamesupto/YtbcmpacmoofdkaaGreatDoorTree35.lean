/- A row of a call's own beside the parser's. -/
import Derived.Test.YtbcmpacmoofdkaaGreatDoorProg
import Derived.Test.YtbcmpacmoofdkaaGreatDoorTree34
import Derived.WalkKit
import Derived.ProofKit
import Derived.OpenShut
import Derived.Below
import Derived.WalkLawsBesides
import Derived.OwnWalk
import Derived.WalkSmall
import Derived.BigQuiet
import Derived.Deep.MidRow
import Derived.Deep.RegionHeld
import Derived.Deep.RegionHeld3
import Derived.Deep.DeepCutAuto
import Derived.Defers
import Derived.Recover
namespace Go.Proofs.YtbcmpacmoofdkaaGreatDoor
open Go.ChangeShapes Go.WideShapes Go.ChangeAt Go.RowKit

/-- No node's kids lie in block g. -/
def KNe (g : Nat) : List Nod → List Value → Prop
  | t :: r, k :: ks => (t.kids ≠ [] → k.ownBlock ≠ some g) ∧ KNe g r ks
  | _, _ => True
theorem KNe.new {b g : Nat} {w : World} (hg : w.heap.size ≤ g) : ∀ {ns : List Nod} {ks : List Value}, KOk b w ns ks → KNe g ns ks
  | [], [], _ => trivial
  | t :: r, k :: ks, h => by
    refine ⟨fun hne e => ?_, KNe.new hg h.2⟩
    obtain ⟨ao, cap, hv, _, hc⟩ := h.1.2
    obtain ⟨g', ha, hp, _, _⟩ := hc 0 (by cases hk : t.kids with
      | nil => exact absurd hk hne
      | cons _ _ => simp)
    subst ha
    rw [hv] at e
    have e' : g' = g := by simpa [Value.ownBlock] using e
    have := hp.1
    omega
  | [], _ :: _, h => h.elim
  | _ :: _, [], h => h.elim
theorem KNe.snoc {g : Nat} {t : Nod} {k : Value} (hk : ∀ x, k.ownBlock = some x → g < x) : ∀ {ns : List Nod} {ks : List Value}, ks.length = ns.length → KNe g ns ks → KNe g (ns ++ [t]) (ks ++ [k])
  | [], [], _, _ => ⟨fun _ e => Nat.lt_irrefl _ (hk g e), trivial⟩
  | _ :: _, _ :: _, hl, h => ⟨h.1, KNe.snoc hk (by simpa using hl) h.2⟩
  | [], _ :: _, hl, _ => by simp at hl
  | _ :: _, [], hl, _ => by simp at hl
theorem Prot.poke {b g k : Nat} {w w' : World} (hg : ∀ k, k < w.heap.size → k ≠ g → w'.heap[k]? = w.heap[k]?) (hs : w.heap.size ≤ w'.heap.size) (hb : b < w.heap.size) (hbg : b ≠ g) (h : Prot b w k) : Prot b w' k := by
  have hbk := hg b hb hbg
  refine ⟨Nat.lt_of_lt_of_le h.1 hs, h.2.1, fun v hv => h.2.2.1 v ?_, fun v hv => h.2.2.2 v ?_⟩
  · rw [cell_of_block (a := ⟨b, 4, none⟩) hbk] at hv; exact hv
  · rw [cell_of_block (a := ⟨b, 5, none⟩) hbk] at hv; exact hv
theorem KOk.poke {b g : Nat} {w w' : World} (hg : ∀ k, k < w.heap.size → k ≠ g → w'.heap[k]? = w.heap[k]?) (hs : w.heap.size ≤ w'.heap.size) (hb : b < w.heap.size) (hbg : b ≠ g) : ∀ {ns : List Nod} {ks : List Value}, KOk b w ns ks → KNe g ns ks → KOk b w' ns ks
  | [], [], _, _ => trivial
  | t :: r, k :: ks, h, hn => by
    refine ⟨⟨h.1.1, ?_⟩, KOk.poke hg hs hb hbg h.2 hn.2⟩
    obtain ⟨ao, cap, hv, hcl, hc⟩ := h.1.2
    refine ⟨ao, cap, hv, hcl, fun j hj => ?_⟩
    obtain ⟨g', ha, hp, hl, hx⟩ := hc j hj
    have hne : g' ≠ g := fun e => by
      subst e
      refine hn.1 (fun e => ?_) (by rw [hv, ha]; rfl)
      rw [e] at hj
      simp at hj
    exact ⟨g', ha, hp.poke hg hs hb hbg, hl, (cell_of_block (a := ⟨g', j, none⟩) (hg g' hp.1 hne)).trans hx⟩
  | [], _ :: _, h, _ => h.elim
  | _ :: _, [], h, _ => h.elim
/-- What a call leaves but for one row of its own. -/
theorem Rel.poke {b g : Nat} {w0 w w' : World} (r0 : Rel b w0 w) (hg0 : w0.heap.size ≤ g) (hb0 : b < w0.heap.size) (hos : w'.os = w.os) (htp : w'.tape = w.tape) (hou : w'.output = w.output) (hs : w.heap.size ≤ w'.heap.size) (hg : ∀ k, k < w.heap.size → k ≠ g → w'.heap[k]? = w.heap[k]?) : Rel b w0 w' := by
  have hb : b < w.heap.size := Nat.lt_of_lt_of_le hb0 r0.low.size
  refine ⟨⟨hos.trans r0.low.os, htp.trans r0.low.tape, hou.trans r0.low.output, Nat.le_trans r0.low.size hs, fun k hk => (hg k (by omega) (by omega)).trans (r0.low.block k hk)⟩, fun k hk => ?_⟩
  obtain ⟨h1, h2⟩ := r0.rest k hk
  have hkl := hk.1
  exact ⟨(hg k h2.1 (by omega)).trans h1, h2.poke hg hs hb (by omega)⟩
theorem St.poke {b g : Nat} {w0 w w' : World} {tv : Value} {toks : List ITk} {at' op : Nat} {so : Option Addr} {fx : List UInt8 → Fix} {ns : List Nod} {ds : List Nat} {nv dv : Value} {kvs : List Value} (h : St b w tv toks at' op so fx ns ds nv dv) (hko : KOk b w ns kvs) (hro : w.ownsRow (b + 1) 37 6 nv ns.length (nodCells ns kvs)) (hp : Prot b w g) (hn : KNe g ns kvs)
    (r0 : Rel b w0 w) (hg0 : w0.heap.size ≤ g) (hb0 : b < w0.heap.size) (f0 : Fnd b w0 (.pointer so) fx) (hos : w'.os = w.os) (htp : w'.tape = w.tape) (hou : w'.output = w.output) (hs : w.heap.size ≤ w'.heap.size) (hg : ∀ k, k < w.heap.size → k ≠ g → w'.heap[k]? = w.heap[k]?) :
    St b w' tv toks at' op so fx ns ds nv dv ∧ KOk b w' ns kvs ∧ w'.ownsRow (b + 1) 37 6 nv ns.length (nodCells ns kvs) := by
  have hb : b < w.heap.size := h.ps.old
  have hbg : b ≠ g := by omega
  have hbk := hg b hb hbg
  have k1 := hko.poke hg hs hb hbg hn
  have k2 : w'.ownsRow (b + 1) 37 6 nv ns.length (nodCells ns kvs) := row_keep hro fun k hk => hg k (hro.lt k hk).2 (fun e => hp.2.2.1 nv h.ps.c4 (by rw [hk, e]))
  have k3 : w'.ownsRow (b + 1) 3 1 dv ds.length (intCells ds) := row_keep h.rd fun k hk => hg k (h.rd.lt k hk).2 (fun e => hp.2.2.2 dv h.ps.c5 (by rw [hk, e]))
  refine ⟨⟨⟨(cell_of_block (a := ⟨b, 0, none⟩) hbk).trans h.ps.c0, (cell_of_block (a := ⟨b, 1, none⟩) hbk).trans h.ps.c1, (cell_of_block (a := ⟨b, 2, none⟩) hbk).trans h.ps.c2, (cell_of_block (a := ⟨b, 3, none⟩) hbk).trans h.ps.c3, (cell_of_block (a := ⟨b, 4, none⟩) hbk).trans h.ps.c4, (cell_of_block (a := ⟨b, 5, none⟩) hbk).trans h.ps.c5,
    (World.frozen?_of_block (a := ⟨b, 1, none⟩) hbk).trans h.ps.f1, (World.frozen?_of_block (a := ⟨b, 2, none⟩) hbk).trans h.ps.f2, (World.frozen?_of_block (a := ⟨b, 3, none⟩) hbk).trans h.ps.f3, (World.frozen?_of_block (a := ⟨b, 4, none⟩) hbk).trans h.ps.f4, (World.frozen?_of_block (a := ⟨b, 5, none⟩) hbk).trans h.ps.f5,
    rdTk_below h.ps.rt ⟨hos, htp, hou, hs, fun k hk => hg k (by omega) (by omega)⟩, h.ps.ba, Nat.le_trans h.ps.old3 hs⟩, ⟨kvs, k1, k2⟩, k3, f0.rel (r0.poke hg0 hb0 hos htp hou hs hg), h.ln, h.sm⟩, k1, k2⟩
/-- The beginning of a row that is one's own. -/
theorem own_take {w : World} {B e size n m g cap : Nat} {xs : List Value} (h : w.ownsRow B e size (.slice (some ⟨g, 0, none⟩) n cap) n xs) (hm : m ≤ n) : w.ownsRow B e size (.slice (some ⟨g, 0, none⟩) m cap) m (xs.take (m * size)) := by
  obtain ⟨hl, h2⟩ := h
  have hle : m * size ≤ n * size := Nat.mul_le_mul_right _ hm
  refine ⟨by rw [List.length_take, hl]; omega, ?_⟩
  rcases h2 with ⟨hv, _⟩ | ⟨g', cap', cur, hv, hg, hw, h1, h3, h4, h5⟩
  · cases hv
  · injection hv with e1 e2 e3
    injection e1 with e1
    injection e1 with e1
    subst e1 e3
    refine .inr ⟨g, cap, cur, rfl, hg, hw, by omega, h3, h4, ?_⟩
    rw [← h5, List.take_take]
    congr 1
    omega
end Go.Proofs.YtbcmpacmoofdkaaGreatDoor
/- The parser: program. -/
namespace Go.Proofs.YtbcmpacmoofdkaaGreatDoor
open Go.ChangeShapes Go.WideShapes Go.ChangeAt Go.RowKit

set_option maxRecDepth 100000 in
set_option maxHeartbeats 8000000 in
theorem catch_idle (p q : Addr) (w : World) :
    CallsD Tryz.prog 73 #[.pointer (some p), .pointer (some q)] .returning w fun e u' w' => e = .returned (.tuple #[]) ∧ u' = .returning ∧ w' = w := by
  refine callsD_of_wpS Tryz.func73 rfl fun c₀ cs hu => ?_
  apply wpS_seq
  apply wpS_region
  simp [wpOpsS, go_sem, recoverD, hu, Tryz.ntmps73, Exit.thenS]
  apply wpS_seq
  apply wpS_region
  simp [wpOpsS, go_sem, Exit.thenS]
  refine wpS_cond (t := false) (by simp [Act.eval, Array.replicate]) ?_
  simp only [Bool.false_eq_true, if_false]
  refine wpS_of_wp (wp_skip ?_)
  cases c₀
  simp_all [bodyPostS, results, Tryz.results73]
/-- A cell of the two that a program's results have is written: the parser stands as it was. -/
theorem Rw.poke {b : Nat} {w w' : World} {tv : Value} {toks : List ITk} {at' op : Nat} {sc : Value} {ns : List Nod} {ds : List Nat} {nv dv : Value} {g : Nat} (h : Rw b w ns ds nv dv) (p : PS b w tv toks at' op sc nv dv) (hp : Prot b w g) (hb : b < g) (h3 : g < b + 3) (hos : w'.os = w.os) (htp : w'.tape = w.tape) (hou : w'.output = w.output) (hs : w.heap.size ≤ w'.heap.size) (hg : ∀ k, k < w.heap.size → k ≠ g → w'.heap[k]? = w.heap[k]?) : PS b w' tv toks at' op sc nv dv ∧ Rw b w' ns ds nv dv := by
  have hbl := p.old
  have hbk := hg b hbl (by omega)
  obtain ⟨kvs, k1, k2⟩ := h.rn
  have hn : ∀ {ns : List Nod} {ks : List Value}, KOk b w ns ks → KNe g ns ks := by
    intro ns
    induction ns with
    | nil => intro ks _; cases ks <;> trivial
    | cons t r ih =>
      intro ks hk
      cases ks with
      | nil => exact hk.elim
      | cons k ks =>
        refine ⟨fun hne e => ?_, ih hk.2⟩
        obtain ⟨ao, cap, hv, _, hc⟩ := hk.1.2
        obtain ⟨g', ha, _, hl, _⟩ := hc 0 (by cases hk' : t.kids with
          | nil => exact absurd hk' hne
          | cons _ _ => simp)
        subst ha
        rw [hv] at e
        have e' : g' = g := by simpa [Value.ownBlock] using e
        omega
  refine ⟨⟨(cell_of_block (a := ⟨b, 0, none⟩) hbk).trans p.c0, (cell_of_block (a := ⟨b, 1, none⟩) hbk).trans p.c1, (cell_of_block (a := ⟨b, 2, none⟩) hbk).trans p.c2, (cell_of_block (a := ⟨b, 3, none⟩) hbk).trans p.c3, (cell_of_block (a := ⟨b, 4, none⟩) hbk).trans p.c4, (cell_of_block (a := ⟨b, 5, none⟩) hbk).trans p.c5,
    (World.frozen?_of_block (a := ⟨b, 1, none⟩) hbk).trans p.f1, (World.frozen?_of_block (a := ⟨b, 2, none⟩) hbk).trans p.f2, (World.frozen?_of_block (a := ⟨b, 3, none⟩) hbk).trans p.f3, (World.frozen?_of_block (a := ⟨b, 4, none⟩) hbk).trans p.f4, (World.frozen?_of_block (a := ⟨b, 5, none⟩) hbk).trans p.f5,
    rdTk_below p.rt ⟨hos, htp, hou, hs, fun k hk => hg k (by omega) (by omega)⟩, p.ba, Nat.le_trans p.old3 hs⟩, ⟨kvs, k1.poke hg hs hbl (by omega) (hn k1), row_keep k2 fun k hk => hg k (k2.lt k hk).2 (fun e => hp.2.2.1 nv p.c4 (by rw [hk, e]))⟩, row_keep h.rd fun k hk => hg k (h.rd.lt k hk).2 (fun e => hp.2.2.2 dv p.c5 (by rw [hk, e])), h.ln, h.sm⟩
theorem set_other (w : World) (g j : Nat) (v : Value) : ∀ k, k < w.heap.size → k ≠ g → (w.setCell ⟨g, j, none⟩ v).heap[k]? = w.heap[k]? := fun k _ hne => Below.heap_setCell _ _ _ _ (by show k ≠ g; exact hne)

set_option maxRecDepth 100000 in
set_option maxHeartbeats 8000000 in
theorem program_of (b : Nat) (tv : Value) (toks : List ITk) (at1 op : Nat) (sc : Value) (ns' : List Nod) (ds' : List Nat) (w : World) (n : Int)
    (hw : w.heap.size = b + 1) (hrt : ∃ ao cap, tv = .slice ao toks.length cap ∧ toks.length ≤ 8796093022208) (hend : toks.length ≤ at1)
    (hd : ∀ W, Below w.heap.size w W → b + 3 ≤ W.heap.size → Calls Tryz.prog 74 #[.pointer (some ⟨b, 0, none⟩)] W fun e w' => e = .returned (.int .i64 n) ∧ (∃ nv' dv', PS b w' tv toks at1 op sc nv' dv' ∧ Rw b w' ns' ds' nv' dv') ∧ Rel b W w')
    (hpr : ∀ W k, Below w.heap.size w W → w.heap.size ≤ k → k < W.heap.size → Prot b W k) :
    Calls Tryz.prog 40 #[.pointer (some ⟨b, 0, none⟩)] w fun e w' => e = .returned (.tuple #[.int .i64 n, .agg #[.int .i64 0, .int .i64 0, .int .i64 0]]) ∧ (∃ nv' dv', PS b w' tv toks at1 op sc nv' dv' ∧ Rw b w' ns' ds' nv' dv') ∧ Rel b w w' := by
  have hold : b < w.heap.size := by omega
  have HW := hide' hw
  have hmf : ∀ (fn : Fn) (first cap : Array Value) (w : World), (Instr.makeFunc fn first cap).run Tryz.prog w = .ok (.func fn first cap) w := fun _ _ _ _ => rfl
  obtain ⟨ao, cap, htv, hm⟩ := hrt
  obtain ⟨L, hL⟩ : ∃ L, toks.length = L := ⟨_, rfl⟩
  rw [hL] at htv hend hm
  obtain ⟨W0, hW0⟩ : ∃ W0, (w.alloc (.cells #[.int .i64 0] 3)).alloc (.cells #[.int .i64 0, .int .i64 0, .int .i64 0] 84) = W0 := ⟨_, rfl⟩
  have B0 : Below w.heap.size w W0 := by rw [← hW0]; exact ((Below.refl _ _).alloc (Nat.le_refl _) _).alloc (by simp) _
  have S0 : W0.heap.size = w.heap.size + 2 := by rw [← hW0]; simp
  have r0 : W0.cell? ⟨w.heap.size, 0, none⟩ = some (.int .i64 0) := by rw [← hW0]; simp
  have rf : W0.frozen? ⟨w.heap.size, 0, none⟩ = false := by rw [← hW0]; simp
  have T0 : Three W0 (w.heap.size + 1) (.int .i64 0) (.int .i64 0) (.int .i64 0) := by rw [← hW0]; constructor <;> simp
  have q0 := hpr W0 w.heap.size B0 (Nat.le_refl _) (by omega)
  have q1 := hpr W0 (w.heap.size + 1) B0 (by omega) (by omega)
  have CD := hide' (hd W0 B0 (by omega))
  have HT0 := hide' T0
  have HB0 := hide' B0
  have HQ0 := hide' q0
  have HQ1 := hide' q1
  clear hd hpr hL B0 T0 q0 q1 hw
  go_enter_defers Tryz.func40, Tryz.ntmps40
  go_upto_region 1 with fail
  try rw [hW0]
  clear hW0
  go_upto_region 3 with (go_at_call 74; refine CD.out.mono ?_; clear CD; rintro e w1 ⟨rfl, ⟨nv', dv', p1, x1⟩, r1⟩; (have y0 := r1.rest _ HQ0.out); (have y1 := r1.rest _ HQ1.out); (have z0 := (cell_of_block (a := ⟨w.heap.size, 0, none⟩) y0.1).trans r0); (have zf := (World.frozen?_of_block (a := ⟨w.heap.size, 0, none⟩) y0.1).trans rf))
  have R1 := hide' r1
  have zfr := (World.frozen?_of_block (a := ⟨w.heap.size, 0, none⟩) y0.1).trans rf
  have T1 : Three w1 (w.heap.size + 1) (.int .i64 0) (.int .i64 0) (.int .i64 0) := ⟨(cell_of_block (a := ⟨w.heap.size + 1, 0, none⟩) y1.1).trans HT0.out.c0, (cell_of_block (a := ⟨w.heap.size + 1, 1, none⟩) y1.1).trans HT0.out.c1, (cell_of_block (a := ⟨w.heap.size + 1, 2, none⟩) y1.1).trans HT0.out.c2, (World.frozen?_of_block (a := ⟨w.heap.size + 1, 0, none⟩) y1.1).trans HT0.out.f0, (World.frozen?_of_block (a := ⟨w.heap.size + 1, 1, none⟩) y1.1).trans HT0.out.f1, (World.frozen?_of_block (a := ⟨w.heap.size + 1, 2, none⟩) y1.1).trans HT0.out.f2⟩
  have hs1 := y1.2.1
  have hs0 := y0.2.1
  obtain ⟨p2, x2⟩ := x1.poke p1 y0.2 (by omega) (by have := HW.out; omega) (w' := w1.setCell ⟨w.heap.size, 0, none⟩ (.int .i64 n)) rfl rfl rfl (by simp) (set_other w1 _ _ _)
  have r2 : (w1.setCell ⟨w.heap.size, 0, none⟩ (.int .i64 n)).cell? ⟨w.heap.size, 0, none⟩ = some (.int .i64 n) := World.cell?_setCell_same _ _ _ z0
  have rf2 : (w1.setCell ⟨w.heap.size, 0, none⟩ (.int .i64 n)).frozen? ⟨w.heap.size, 0, none⟩ = false := by rw [World.frozen?_setCell]; exact zfr
  have T2 : Three (w1.setCell ⟨w.heap.size, 0, none⟩ (.int .i64 n)) (w.heap.size + 1) (.int .i64 0) (.int .i64 0) (.int .i64 0) := ⟨(World.cell?_setCell_other _ _ _ _ (by simp)).trans T1.c0, (World.cell?_setCell_other _ _ _ _ (by simp)).trans T1.c1, (World.cell?_setCell_other _ _ _ _ (by simp)).trans T1.c2, by rw [World.frozen?_setCell]; exact T1.f0, by rw [World.frozen?_setCell]; exact T1.f1, by rw [World.frozen?_setCell]; exact T1.f2⟩
  have RR : Rel b w (w1.setCell ⟨w.heap.size, 0, none⟩ (.int .i64 n)) := ((Rel.of HB0.out hold).trans R1.out).setNew hold (Nat.le_refl _) _
  have y2 : Prot b (w1.setCell ⟨w.heap.size, 0, none⟩ (.int .i64 n)) w.heap.size := y0.2.poke (set_other w1 w.heap.size 0 _) (by simp) p1.old (by omega)
  have y3 : Prot b (w1.setCell ⟨w.heap.size, 0, none⟩ (.int .i64 n)) (w.heap.size + 1) := y1.2.poke (set_other w1 w.heap.size 0 _) (by simp) p1.old (by omega)
  obtain ⟨W2, hW2⟩ : ∃ W2, w1.setCell ⟨w.heap.size, 0, none⟩ (.int .i64 n) = W2 := ⟨_, rfl⟩
  rw [hW2] at p2 x2 r2 rf2 T2 RR y2 y3 ⊢
  have c0 := p2.c0
  have c1 := p2.c1
  rw [htv] at c0
  have hlt : decide ((at1 : Int) < (L : Int)) = false := by simp; omega
  have HP2 := hide' p2
  have HX2 := hide' x2
  have HRR := hide' RR
  have HY2 := hide' y2
  have HY3 := hide' y3
  have HT2 := hide' T2
  obtain ⟨u0, u1, u2, v0, v1, v2⟩ := T2
  clear hW2 p1 x1 p2 x2 r1 R1 y0 y1 T1 z0 zf zfr RR y2 y3 hs0 hs1
  go_quiet (fail)
  go_wp2_with fail
  refine leaves_cons (f := 73) (args := #[.pointer (some ⟨w.heap.size, 0, none⟩), .pointer (some ⟨w.heap.size + 1, 0, none⟩)]) (by simp) (by simp [go_sem]) ?_
  refine (catch_idle ⟨w.heap.size, 0, none⟩ ⟨w.heap.size + 1, 0, none⟩ _).mono ?_
  rintro e u' w'' ⟨rfl, rfl, rfl⟩
  have T3 := (HT2.out.below (below_drew2 (w.heap.size + 2) W2 nq) (Nat.lt_succ_self _))
  have g3 : ((W2.drewN nq).setCell ⟨w.heap.size, 0, none⟩ (.int .i64 n)).cell? ⟨w.heap.size, 0, none⟩ = some (.int .i64 n) := World.cell?_setCell_same _ _ _ r2
  have T3' : Three ((W2.drewN nq).setCell ⟨w.heap.size, 0, none⟩ (.int .i64 n)) (w.heap.size + 1) (.int .i64 0) (.int .i64 0) (.int .i64 0) := ⟨(World.cell?_setCell_other _ _ _ _ (by simp)).trans T3.c0, (World.cell?_setCell_other _ _ _ _ (by simp)).trans T3.c1, (World.cell?_setCell_other _ _ _ _ (by simp)).trans T3.c2, by rw [World.frozen?_setCell]; exact T3.f0, by rw [World.frozen?_setCell]; exact T3.f1, by rw [World.frozen?_setCell]; exact T3.f2⟩
  have T4 := T3'.setAll (.int .i64 0) (.int .i64 0) (.int .i64 0)
  have bq : Below W2.heap.size W2 (W2.drewN nq) := below_drew2 _ _ nq
  obtain ⟨pa, xa⟩ := (HX2.out.below bq HP2.out.old).poke (HP2.out.below bq HP2.out.old) (((Rel.of bq HP2.out.old).rest _ HY2.out).2) (by have := HW.out; omega) (by have := HW.out; omega) (w' := (W2.drewN nq).setCell ⟨w.heap.size, 0, none⟩ (.int .i64 n)) rfl rfl rfl (by simp) (set_other _ _ _ _)
  have hy3 : Prot b ((W2.drewN nq).setCell ⟨w.heap.size, 0, none⟩ (.int .i64 n)) (w.heap.size + 1) := ((Rel.of bq HP2.out.old).rest _ HY3.out).2.poke (set_other _ w.heap.size 0 _) (by simp) (by have := HP2.out.old; simpa using this) (by omega)
  have hset : ∀ k, k < ((W2.drewN nq).setCell ⟨w.heap.size, 0, none⟩ (.int .i64 n)).heap.size → k ≠ w.heap.size + 1 → (((((W2.drewN nq).setCell ⟨w.heap.size, 0, none⟩ (.int .i64 n)).setCell ⟨w.heap.size + 1, 0, none⟩ (.int .i64 0)).setCell ⟨w.heap.size + 1, 1, none⟩ (.int .i64 0)).setCell ⟨w.heap.size + 1, 2, none⟩ (.int .i64 0)).heap[k]? = ((W2.drewN nq).setCell ⟨w.heap.size, 0, none⟩ (.int .i64 n)).heap[k]? := fun k _ hne => by
    rw [Below.heap_setCell _ _ _ _ (by show k ≠ w.heap.size + 1; exact hne), Below.heap_setCell _ _ _ _ (by show k ≠ w.heap.size + 1; exact hne), Below.heap_setCell _ _ _ _ (by show k ≠ w.heap.size + 1; exact hne)]
  obtain ⟨pb, xb⟩ := xa.poke pa hy3 (by have := HW.out; omega) (by have := HW.out; omega) (w' := ((((W2.drewN nq).setCell ⟨w.heap.size, 0, none⟩ (.int .i64 n)).setCell ⟨w.heap.size + 1, 0, none⟩ (.int .i64 0)).setCell ⟨w.heap.size + 1, 1, none⟩ (.int .i64 0)).setCell ⟨w.heap.size + 1, 2, none⟩ (.int .i64 0)) rfl rfl rfl (by simp) hset
  have RB := (((HRR.out.trans (Rel.of bq HP2.out.old)).setNew (j := 0) hold (Nat.le_refl w.heap.size) (.int .i64 n)).setNew (j := 0) hold (Nat.le_succ w.heap.size) (.int .i64 0)).setNew (j := 1) hold (Nat.le_succ w.heap.size) (.int .i64 0)
  have RC := RB.setNew (j := 2) hold (Nat.le_succ w.heap.size) (.int .i64 0)
  have g4 : (((((W2.drewN nq).setCell ⟨w.heap.size, 0, none⟩ (.int .i64 n)).setCell ⟨w.heap.size + 1, 0, none⟩ (.int .i64 0)).setCell ⟨w.heap.size + 1, 1, none⟩ (.int .i64 0)).setCell ⟨w.heap.size + 1, 2, none⟩ (.int .i64 0)).cell? ⟨w.heap.size, 0, none⟩ = some (.int .i64 n) := (World.cell?_setCell_other _ _ _ _ (by simp)).trans ((World.cell?_setCell_other _ _ _ _ (by simp)).trans ((World.cell?_setCell_other _ _ _ _ (by simp)).trans g3))
  have k0 := T4.c0
  have k1 := T4.c1
  have k2 := T4.c2
  generalize ((((W2.drewN nq).setCell ⟨w.heap.size, 0, none⟩ (.int .i64 n)).setCell ⟨w.heap.size + 1, 0, none⟩ (.int .i64 0)).setCell ⟨w.heap.size + 1, 1, none⟩ (.int .i64 0)).setCell ⟨w.heap.size + 1, 2, none⟩ (.int .i64 0) = W9 at *
  refine ⟨.tuple #[.int .i64 n, .agg #[.int .i64 0, .int .i64 0, .int .i64 0]], ?_, rfl, ⟨nv', dv', pb, xb⟩, RC⟩
  simp [results, Tryz.results40, go_sem, g4, k0, k1, k2]
end Go.Proofs.YtbcmpacmoofdkaaGreatDoor
