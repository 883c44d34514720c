/- Unifiers: set. -/
import Derived.Test.YtlijfkmcaccflaaGreatDoorProg
import Derived.Test.YtlijfkmcaccflaaGreatDoorTy8
import Derived.WalkKit
import Derived.ProofKit
import Derived.OpenShut
import Derived.Below
import Derived.WalkLawsBesides
import Derived.OwnWalk
import Derived.Laws.OwnMore
import Derived.BigQuiet
import Derived.Deep.MidRow
import Derived.Deep.RegionHeld
import Derived.Deep.RegionHeld3
import Derived.Deep.DeepCutAuto
import Derived.WalkSmall
import Derived.Deep.AppendLies
import Derived.Deep.RegionHeldLaw
import Derived.Deep.RegionLaw
namespace Go.Proofs.YtlijfkmcaccflaaGreatDoor
open Go.ChangeShapes Go.WideShapes Go.ChangeAt Go.RowKit

def setL : List Value → Nat → List Value → List Value
  | xs, _, [] => xs
  | xs, o, v :: vs => setL (xs.set o v) (o + 1) vs
theorem setL_right (a : List Value) : ∀ (vs b : List Value) (o : Nat), setL (a ++ b) (a.length + o) vs = a ++ setL b o vs
  | [], _, _ => rfl
  | v :: vs, b, o => by
    show setL ((a ++ b).set (a.length + o) v) (a.length + o + 1) vs = a ++ setL (b.set o v) (o + 1) vs
    rw [List.set_append_right _ _ (by omega), Nat.add_sub_cancel_left, Nat.add_assoc]
    exact setL_right a vs (b.set o v) (o + 1)
theorem flat_set : ∀ (cs : List Tc) (p : Nat) (c : Tc), p < cs.length → setL (flat cs) (p * 12) c.cells = flat (cs.set p c)
  | [], p, _, h => absurd h (Nat.not_lt_zero p)
  | d :: r, 0, c, _ => by
    show setL (d.cells ++ flat r) 0 c.cells = c.cells ++ flat r
    simp [Tc.cells, setL]
  | d :: r, p + 1, c, h => by
    show setL (d.cells ++ flat r) ((p + 1) * 12) c.cells = d.cells ++ flat (r.set p c)
    rw [← flat_set r p c (by simpa using h), ← setL_right d.cells]
    congr 1
    simp [Tc.cells]; omega
theorem row_set12 {w : World} {B e g n cap p : Nat} {xs : List Value} (h : w.ownsRow B e 12 (.slice (some ⟨g, 0, none⟩) n cap) n xs) (v0 v1 v2 v3 v4 v5 v6 v7 v8 v9 v10 v11 : Value) : ((((((((((((w.setCell ⟨g, p * 12, none⟩ v0).setCell ⟨g, p * 12 + 1, none⟩ v1).setCell ⟨g, p * 12 + 2, none⟩ v2).setCell ⟨g, p * 12 + 3, none⟩ v3).setCell ⟨g, p * 12 + 4, none⟩ v4).setCell ⟨g, p * 12 + 5, none⟩ v5).setCell ⟨g, p * 12 + 6, none⟩ v6).setCell ⟨g, p * 12 + 7, none⟩ v7).setCell ⟨g, p * 12 + 8, none⟩ v8).setCell ⟨g, p * 12 + 9, none⟩ v9).setCell ⟨g, p * 12 + 10, none⟩ v10).setCell ⟨g, p * 12 + 11, none⟩ v11).ownsRow B e 12 (.slice (some ⟨g, 0, none⟩) n cap) n (setL xs (p * 12) [v0, v1, v2, v3, v4, v5, v6, v7, v8, v9, v10, v11]) :=
  ((((((((((((h.stored _ v0).1.stored _ v1).1.stored _ v2).1.stored _ v3).1.stored _ v4).1.stored _ v5).1.stored _ v6).1.stored _ v7).1.stored _ v8).1.stored _ v9).1.stored _ v10).1.stored _ v11).1
theorem other_set12 (w : World) (g p : Nat) (v0 v1 v2 v3 v4 v5 v6 v7 v8 v9 v10 v11 : Value) : ∀ k, k ≠ g → ((((((((((((w.setCell ⟨g, p * 12, none⟩ v0).setCell ⟨g, p * 12 + 1, none⟩ v1).setCell ⟨g, p * 12 + 2, none⟩ v2).setCell ⟨g, p * 12 + 3, none⟩ v3).setCell ⟨g, p * 12 + 4, none⟩ v4).setCell ⟨g, p * 12 + 5, none⟩ v5).setCell ⟨g, p * 12 + 6, none⟩ v6).setCell ⟨g, p * 12 + 7, none⟩ v7).setCell ⟨g, p * 12 + 8, none⟩ v8).setCell ⟨g, p * 12 + 9, none⟩ v9).setCell ⟨g, p * 12 + 10, none⟩ v10).setCell ⟨g, p * 12 + 11, none⟩ v11).heap[k]? = w.heap[k]? := fun k hk => by
  repeat rw [Below.heap_setCell _ _ _ _ (by show k ≠ g; exact hk)]
theorem size_set12 (w : World) (g p : Nat) (v0 v1 v2 v3 v4 v5 v6 v7 v8 v9 v10 v11 : Value) : ((((((((((((w.setCell ⟨g, p * 12, none⟩ v0).setCell ⟨g, p * 12 + 1, none⟩ v1).setCell ⟨g, p * 12 + 2, none⟩ v2).setCell ⟨g, p * 12 + 3, none⟩ v3).setCell ⟨g, p * 12 + 4, none⟩ v4).setCell ⟨g, p * 12 + 5, none⟩ v5).setCell ⟨g, p * 12 + 6, none⟩ v6).setCell ⟨g, p * 12 + 7, none⟩ v7).setCell ⟨g, p * 12 + 8, none⟩ v8).setCell ⟨g, p * 12 + 9, none⟩ v9).setCell ⟨g, p * 12 + 10, none⟩ v10).setCell ⟨g, p * 12 + 11, none⟩ v11).heap.size = w.heap.size := by simp
theorem os_set (w : World) (a : Addr) (v : Value) : (w.setCell a v).os = w.os := rfl
theorem tape_set (w : World) (a : Addr) (v : Value) : (w.setCell a v).tape = w.tape := rfl
theorem output_set (w : World) (a : Addr) (v : Value) : (w.setCell a v).output = w.output := rfl
theorem infoChange : (Tryz.prog.info? 137).map (fun i => (i.zero, i.size, i.bytes)) = some (some (.agg #[.int .i64 0, .int .i64 0, .int .i64 0, .slice none 0 0, .slice none 0 0, .bool false, .int .i64 0, .int .i64 0, .string ⟨#[]⟩, .bool false, .bool false, .int .i64 0, .int .i64 0]), 13, 144) := by kernel_rfl
/-- What a call of a unifier leaves as it was. -/
structure Urel (t : Nat) (cv tv tv' : Value) (w w' : World) : Prop where
  os : w'.os = w.os
  tape : w'.tape = w.tape
  output : w'.output = w.output
  size : w.heap.size ≤ w'.heap.size
  rest : ∀ k, k < w.heap.size → k ≠ t → cv.ownBlock ≠ some k → tv.ownBlock ≠ some k → w'.heap[k]? = w.heap[k]?
  trail : tv'.ownBlock = tv.ownBlock ∨ ∀ g, tv'.ownBlock = some g → w.heap.size ≤ g
theorem Urel.of {t : Nat} {cv tv : Value} {w w' : World} (h : Below w.heap.size w w') : Urel t cv tv tv w w' := ⟨h.os, h.tape, h.output, h.size, fun k hk _ _ _ => h.block k hk, .inl rfl⟩
theorem Urel.trans {t : Nat} {cv tv tv1 tv2 : Value} {w w1 w2 : World} (h : Urel t cv tv tv1 w w1) (g : Urel t cv tv1 tv2 w1 w2) : Urel t cv tv tv2 w w2 := by
  refine ⟨g.os.trans h.os, g.tape.trans h.tape, g.output.trans h.output, Nat.le_trans h.size g.size, fun k hk h1 h2 h3 => ?_, ?_⟩
  · refine (g.rest k (Nat.lt_of_lt_of_le hk h.size) h1 h2 ?_).trans (h.rest k hk h1 h2 h3)
    intro e
    rcases h.trail with x | x
    · exact h3 (x ▸ e)
    · have := x k e; omega
  · rcases g.trail with x | x
    · rcases h.trail with y | y
      · exact .inl (x.trans y)
      · exact .inr fun q hq => y q (x ▸ hq)
    · exact .inr fun q hq => Nat.le_trans h.size (x q hq)
theorem Urel.below {t B : Nat} {cv tv tv' : Value} {w w' : World} (h : Urel t cv tv tv' w w') (hB : B ≤ w.heap.size) (ht : B ≤ t) (hc : ∀ g, cv.ownBlock = some g → B ≤ g) (hv : ∀ g, tv.ownBlock = some g → B ≤ g) : Below B w w' :=
  ⟨h.os, h.tape, h.output, h.size, fun k hk => h.rest k (by omega) (by omega) (fun e => by have := hc k e; omega) (fun e => by have := hv k e; omega)⟩

theorem set_end (t b hi : Nat) (cv : Value) (cs : List Tc) (tv : Value) (n p : Nat) (c : Tc) (w wc : World) (g cap N T g6 cap6 A xc tc : Nat) (xo to' : Option Addr) (HB0 : Hid' (Bk b hi w cv cs)) (HU0 : Hid' (Un t b w tv n)) (hht : hi ≤ t) (hp : p < N) (HN0 : Hid' (Nums b hi cv.ownBlock w c.av c.args)) (hl : n + 1 ≤ 10) (HT : Hid' (w.heap.size = T)) (HN : Hid' (cs.length = N))
    (HCV : Hid' (cv = .slice (some ⟨g, 0, none⟩) N cap)) (HTV : Hid' (tv = .slice to' n tc)) (hbg : b < g) (hghi : g < hi) (hTs : T < wc.heap.size) (hbo : b < hi) (hold : t < T) (_hil : hi ≤ T)
    (HCELLS : Hid' (c.cells = [.int .i64 c.kind, .int .i64 c.con, .slice none 0 0, .slice xo A xc, .bool false, .int .i64 0, .int .i64 c.level, .string ⟨#[]⟩, .bool false, .bool false, .int .i64 c.to, .int .i64 0]))
    (HRC : Hid' (wc.ownsRow (b + 1) 71 12 (.slice (some ⟨g, 0, none⟩) N cap) N (flat cs))) (HE6 : Hid' (∀ k, k < T → k ≠ t → some k ≠ (Value.slice to' n tc).ownBlock → wc.heap[k]? = w.heap[k]?)) (q0 : wc.cell? ⟨t, 0, none⟩ = some (.pointer (some ⟨b, 0, none⟩)))
    (H6 : Hid' (wc.cell? ⟨t, 1, none⟩ = some (.slice (some ⟨g6, 0, none⟩) (n + 1) cap6) ∧ wc.frozen? ⟨t, 1, none⟩ = false ∧ ∃ ys, wc.ownsRow (t + 1) 137 13 (.slice (some ⟨g6, 0, none⟩) (n + 1) cap6) (n + 1) ys)) (hat6 : (Value.slice to' n tc).ownBlock = some g6 ∨ T ≤ g6) (ho6 : wc.os = w.os) (htp6 : wc.tape = w.tape) (hou6 : wc.output = w.output) :
    Bk b hi ((((((((((((wc.setCell ⟨g, p * 12, none⟩ (.int .i64 c.kind)).setCell ⟨g, p * 12 + 1, none⟩ (.int .i64 c.con)).setCell ⟨g, p * 12 + 2, none⟩ (.slice none 0 0)).setCell ⟨g, p * 12 + 3, none⟩ (.slice xo A xc)).setCell ⟨g, p * 12 + 4, none⟩ (.bool false)).setCell ⟨g, p * 12 + 5, none⟩ (.int .i64 0)).setCell ⟨g, p * 12 + 6, none⟩ (.int .i64 c.level)).setCell ⟨g, p * 12 + 7, none⟩ (.string ⟨#[]⟩)).setCell ⟨g, p * 12 + 8, none⟩ (.bool false)).setCell ⟨g, p * 12 + 9, none⟩ (.bool false)).setCell ⟨g, p * 12 + 10, none⟩ (.int .i64 c.to)).setCell ⟨g, p * 12 + 11, none⟩ (.int .i64 0)).drew cv (cs.set p c) ∧ (∃ tv', Un t b ((((((((((((wc.setCell ⟨g, p * 12, none⟩ (.int .i64 c.kind)).setCell ⟨g, p * 12 + 1, none⟩ (.int .i64 c.con)).setCell ⟨g, p * 12 + 2, none⟩ (.slice none 0 0)).setCell ⟨g, p * 12 + 3, none⟩ (.slice xo A xc)).setCell ⟨g, p * 12 + 4, none⟩ (.bool false)).setCell ⟨g, p * 12 + 5, none⟩ (.int .i64 0)).setCell ⟨g, p * 12 + 6, none⟩ (.int .i64 c.level)).setCell ⟨g, p * 12 + 7, none⟩ (.string ⟨#[]⟩)).setCell ⟨g, p * 12 + 8, none⟩ (.bool false)).setCell ⟨g, p * 12 + 9, none⟩ (.bool false)).setCell ⟨g, p * 12 + 10, none⟩ (.int .i64 c.to)).setCell ⟨g, p * 12 + 11, none⟩ (.int .i64 0)).drew tv' (n + 1) ∧ Urel t cv tv tv' w ((((((((((((wc.setCell ⟨g, p * 12, none⟩ (.int .i64 c.kind)).setCell ⟨g, p * 12 + 1, none⟩ (.int .i64 c.con)).setCell ⟨g, p * 12 + 2, none⟩ (.slice none 0 0)).setCell ⟨g, p * 12 + 3, none⟩ (.slice xo A xc)).setCell ⟨g, p * 12 + 4, none⟩ (.bool false)).setCell ⟨g, p * 12 + 5, none⟩ (.int .i64 0)).setCell ⟨g, p * 12 + 6, none⟩ (.int .i64 c.level)).setCell ⟨g, p * 12 + 7, none⟩ (.string ⟨#[]⟩)).setCell ⟨g, p * 12 + 8, none⟩ (.bool false)).setCell ⟨g, p * 12 + 9, none⟩ (.bool false)).setCell ⟨g, p * 12 + 10, none⟩ (.int .i64 c.to)).setCell ⟨g, p * 12 + 11, none⟩ (.int .i64 0)).drew) := by
  have HW2 := hide' (other_set12 wc g p (.int .i64 c.kind) (.int .i64 c.con) (.slice none 0 0) (.slice xo A xc) (.bool false) (.int .i64 0) (.int .i64 c.level) (.string ⟨#[]⟩) (.bool false) (.bool false) (.int .i64 c.to) (.int .i64 0))
  have HW3 := hide' (row_set12 (p := p) HRC.out (.int .i64 c.kind) (.int .i64 c.con) (.slice none 0 0) (.slice xo A xc) (.bool false) (.int .i64 0) (.int .i64 c.level) (.string ⟨#[]⟩) (.bool false) (.bool false) (.int .i64 c.to) (.int .i64 0))
  have HW4 := hide' (size_set12 wc g p (.int .i64 c.kind) (.int .i64 c.con) (.slice none 0 0) (.slice xo A xc) (.bool false) (.int .i64 0) (.int .i64 c.level) (.string ⟨#[]⟩) (.bool false) (.bool false) (.int .i64 c.to) (.int .i64 0))
  have HW5 : Hid' (((((((((((((wc.setCell ⟨g, p * 12, none⟩ (.int .i64 c.kind)).setCell ⟨g, p * 12 + 1, none⟩ (.int .i64 c.con)).setCell ⟨g, p * 12 + 2, none⟩ (.slice none 0 0)).setCell ⟨g, p * 12 + 3, none⟩ (.slice xo A xc)).setCell ⟨g, p * 12 + 4, none⟩ (.bool false)).setCell ⟨g, p * 12 + 5, none⟩ (.int .i64 0)).setCell ⟨g, p * 12 + 6, none⟩ (.int .i64 c.level)).setCell ⟨g, p * 12 + 7, none⟩ (.string ⟨#[]⟩)).setCell ⟨g, p * 12 + 8, none⟩ (.bool false)).setCell ⟨g, p * 12 + 9, none⟩ (.bool false)).setCell ⟨g, p * 12 + 10, none⟩ (.int .i64 c.to)).setCell ⟨g, p * 12 + 11, none⟩ (.int .i64 0)).os = wc.os ∧ ((((((((((((wc.setCell ⟨g, p * 12, none⟩ (.int .i64 c.kind)).setCell ⟨g, p * 12 + 1, none⟩ (.int .i64 c.con)).setCell ⟨g, p * 12 + 2, none⟩ (.slice none 0 0)).setCell ⟨g, p * 12 + 3, none⟩ (.slice xo A xc)).setCell ⟨g, p * 12 + 4, none⟩ (.bool false)).setCell ⟨g, p * 12 + 5, none⟩ (.int .i64 0)).setCell ⟨g, p * 12 + 6, none⟩ (.int .i64 c.level)).setCell ⟨g, p * 12 + 7, none⟩ (.string ⟨#[]⟩)).setCell ⟨g, p * 12 + 8, none⟩ (.bool false)).setCell ⟨g, p * 12 + 9, none⟩ (.bool false)).setCell ⟨g, p * 12 + 10, none⟩ (.int .i64 c.to)).setCell ⟨g, p * 12 + 11, none⟩ (.int .i64 0)).tape = wc.tape ∧ ((((((((((((wc.setCell ⟨g, p * 12, none⟩ (.int .i64 c.kind)).setCell ⟨g, p * 12 + 1, none⟩ (.int .i64 c.con)).setCell ⟨g, p * 12 + 2, none⟩ (.slice none 0 0)).setCell ⟨g, p * 12 + 3, none⟩ (.slice xo A xc)).setCell ⟨g, p * 12 + 4, none⟩ (.bool false)).setCell ⟨g, p * 12 + 5, none⟩ (.int .i64 0)).setCell ⟨g, p * 12 + 6, none⟩ (.int .i64 c.level)).setCell ⟨g, p * 12 + 7, none⟩ (.string ⟨#[]⟩)).setCell ⟨g, p * 12 + 8, none⟩ (.bool false)).setCell ⟨g, p * 12 + 9, none⟩ (.bool false)).setCell ⟨g, p * 12 + 10, none⟩ (.int .i64 c.to)).setCell ⟨g, p * 12 + 11, none⟩ (.int .i64 0)).output = wc.output) := ⟨⟨by simp only [os_set], by simp only [tape_set], by simp only [output_set]⟩⟩
  obtain ⟨W, hW⟩ : ∃ W, ((((((((((((wc.setCell ⟨g, p * 12, none⟩ (.int .i64 c.kind)).setCell ⟨g, p * 12 + 1, none⟩ (.int .i64 c.con)).setCell ⟨g, p * 12 + 2, none⟩ (.slice none 0 0)).setCell ⟨g, p * 12 + 3, none⟩ (.slice xo A xc)).setCell ⟨g, p * 12 + 4, none⟩ (.bool false)).setCell ⟨g, p * 12 + 5, none⟩ (.int .i64 0)).setCell ⟨g, p * 12 + 6, none⟩ (.int .i64 c.level)).setCell ⟨g, p * 12 + 7, none⟩ (.string ⟨#[]⟩)).setCell ⟨g, p * 12 + 8, none⟩ (.bool false)).setCell ⟨g, p * 12 + 9, none⟩ (.bool false)).setCell ⟨g, p * 12 + 10, none⟩ (.int .i64 c.to)).setCell ⟨g, p * 12 + 11, none⟩ (.int .i64 0)) = W := ⟨_, rfl⟩
  rw [hW] at HW2 HW3 HW4 HW5 ⊢
  clear hW
  have hkk : ∀ k, k < w.heap.size → k ≠ t → cv.ownBlock ≠ some k → tv.ownBlock ≠ some k → W.drew.heap[k]? = w.heap[k]? := fun k hk h1 h2 h3 => by
    have hkg : k ≠ g := fun e => h2 (by rw [HCV.out, e]; rfl)
    exact (HW2.out k hkg).trans (HE6.out k (by have := HT.out; omega) h1 (fun e => h3 (by rw [HTV.out]; exact e.symm)))
  have htb : ∀ k, tv.ownBlock = some k → t < k := fun k hk => by
    obtain ⟨xs', hx'⟩ := HU0.out.row
    have := (hx'.lt k hk).1
    omega
  have hlow : ∀ k, k < hi → cv.ownBlock ≠ some k → W.drew.heap[k]? = w.heap[k]? := fun k hk h2 => hkk k (by have := HT.out; omega) (by omega) h2 (fun e => by have := htb k e; omega)
  have hcb : cv.ownBlock ≠ some b := by
    rw [HCV.out]
    intro e
    have e' : g = b := by simpa [Value.ownBlock] using e
    omega
  have hlb := hlow b hbo hcb
  have HBK : Hid' (Bk b hi W.drew cv (cs.set p c)) := by
    have hB := HB0.out
    obtain ⟨gc, h1, h2, h3, h4, h5, h6⟩ := hB.cons
    refine ⟨⟨(cell_of_block (a := ⟨b, 0, none⟩) hlb).trans hB.c0, (cell_of_block (a := ⟨b, 2, none⟩) hlb).trans hB.c2, (World.frozen?_of_block (a := ⟨b, 2, none⟩) hlb).trans hB.f2, ?_, hB.rhi, hB.old, by have := HW4.out; have := HT.out; show hi ≤ W.heap.size; omega, by rw [List.length_set]; exact hB.sm, fun j hj => ?_, gc, h1, h2, h3, (cell_of_block (a := ⟨b, 1, none⟩) hlb).trans h4, (cell_of_block (a := ⟨gc, 0, none⟩) (hlow gc h2 h3)).trans h5, (cell_of_block (a := ⟨gc, 1, none⟩) (hlow gc h2 h3)).trans h6⟩⟩
    · rw [List.length_set, HN.out, ← flat_set cs p c (by rw [HN.out]; exact hp), HCELLS.out, HCV.out]
      have h9 := HW3.out
      rw [← HN.out] at h9 ⊢
      exact h9
    · rw [List.length_set] at hj
      by_cases e : j = p
      · subst e
        rw [show (cs.set j c).getD j Tc.zero = c from by simp [List.getD_eq_getElem?_getD, hj]]
        exact HN0.out.turn (Nat.le_refl _) (fun _ _ _ h => h) (fun k hk _ hne => hlow k hk hne)
      · rw [show (cs.set p c).getD j Tc.zero = cs.getD j Tc.zero from by simp [List.getD_eq_getElem?_getD, List.getElem?_set_ne (Ne.symm e)]]
        exact (hB.args j hj).turn (Nat.le_refl _) (fun _ _ _ h => h) (fun k hk _ hne => hlow k hk hne)
  have hg6t : t + 1 ≤ g6 := by
    obtain ⟨ys, hy⟩ := H6.out.2.2
    exact (hy.lt g6 rfl).1
  have hWt : W.drew.heap[t]? = wc.heap[t]? := HW2.out t (by omega)
  have HUN : Hid' (Un t b W.drew (.slice (some ⟨g6, 0, none⟩) (n + 1) cap6) (n + 1)) := by
    obtain ⟨ys, hy⟩ := H6.out.2.2
    exact ⟨⟨(cell_of_block (a := ⟨t, 0, none⟩) hWt).trans q0, (cell_of_block (a := ⟨t, 1, none⟩) hWt).trans H6.out.1, (World.frozen?_of_block (a := ⟨t, 1, none⟩) hWt).trans H6.out.2.1, ⟨ys, row_keep hy fun k hk => by
      have e' : g6 = k := by simpa [Value.ownBlock] using hk
      subst e'
      exact HW2.out g6 (by omega)⟩, by have := HW4.out; show t < W.heap.size; omega, hl⟩⟩
  have HUR : Hid' (Urel t cv tv (.slice (some ⟨g6, 0, none⟩) (n + 1) cap6) w W.drew) := by
    refine ⟨⟨HW5.out.1.trans ho6, HW5.out.2.1.trans htp6, HW5.out.2.2.trans hou6, by have := HW4.out; have := HT.out; show w.heap.size ≤ W.heap.size; omega, hkk, ?_⟩⟩
    rcases hat6 with x | x
    · exact .inl (by rw [HTV.out]; exact x.symm)
    · refine .inr fun q hq => ?_
      have e' : g6 = q := by simpa [Value.ownBlock] using hq
      have := HT.out
      omega
  exact ⟨HBK.out, _, HUN.out, HUR.out⟩

set_option maxRecDepth 100000 in
set_option maxHeartbeats 16000000 in
theorem set_any (t b hi : Nat) (cv : Value) (cs : List Tc) (tv : Value) (n p : Nat) (c : Tc) (w : World) (hb : Bk b hi w cv cs) (hu : Un t b w tv n) (hht : hi ≤ t) (hp : p < cs.length) (hn : Nums b hi cv.ownBlock w c.av c.args) (hl : n + 1 ≤ 10) :
    Calls Tryz.prog 75 #[.pointer (some ⟨t, 0, none⟩), .int .i64 (p : Int), c.val] w fun e w' => e = .returned (.tuple #[]) ∧ Bk b hi w' cv (cs.set p c) ∧ (∃ tv', Un t b w' tv' (n + 1) ∧ Urel t cv tv tv' w w') := by
  obtain ⟨j0, hj, jz0, jz1, jz2⟩ := info_parts infoChange
  obtain ⟨wm, hwm⟩ : ∃ wm, w.alloc (.cells #[.int .i64 c.kind, .int .i64 c.con, .slice none 0 0, c.av, .bool false, .int .i64 0, .int .i64 c.level, .string ⟨#[]⟩, .bool false, .bool false, .int .i64 c.to, .int .i64 0] 71) = wm := ⟨_, rfl⟩
  have TN := TcAt.new w c 71
  rw [hwm] at TN
  have B1 : Below w.heap.size w wm := by rw [← hwm]; exact (Below.refl _ _).alloc (Nat.le_refl _) _
  have S1 : wm.heap.size = w.heap.size + 1 := by rw [← hwm]; simp
  have HM := hide' (hb.below (B1.mono hb.hil))
  have HUM := hide' (hu.below B1)
  have HNM := hide' (hn.below (B1.mono hb.hil))
  obtain ⟨xs, hxs⟩ := HUM.out.row
  obtain ⟨to', tc, htv⟩ := own_some hxs
  have HTV := hide' htv
  obtain ⟨xo, xc, hav⟩ : ∃ ao cap, c.av = .slice ao c.args.length cap := by obtain ⟨ao, cap, hv, _⟩ := hn; exact ⟨ao, cap, hv⟩
  have HAV := hide' hav
  -- the row of types
  obtain ⟨g, cap, hcv, hbg, hghi, hat⟩ := HM.out.at hp
  have HCV := hide' hcv
  have HRO := hide' HM.out.row
  rw [hcv] at HRO
  have c2 := HM.out.c2
  rw [hcv] at c2
  have hsm := hb.sm
  have u0 := HUM.out.c0
  have u1 := HUM.out.c1
  have uf := HUM.out.f1
  rw [htv] at u1
  have HXS := hide' hxs
  rw [htv] at HXS
  obtain ⟨ao3, cap3, hv3, _, _⟩ := (HM.out.args _ hp).rd
  have HAT := hide' hat
  obtain ⟨r0, r1, r2, r3, r4, r5, r6, r7, r8, r9, r10, r11⟩ := hat
  rw [hv3] at r3
  have HTN := hide' TN
  obtain ⟨t0, t1, t2, t3, t4, t5, t6, t7, t8, t9, t10, t11⟩ := TN
  simp only [Nat.zero_add] at t0 t1 t2 t3 t4 t5 t6 t7 t8 t9 t10 t11
  have hold := hu.old
  have hbo := hb.old
  have hil := hb.hil
  have HB0 := hide' hb
  have HU0 := hide' hu
  have HN0 := hide' hn
  have HB1 := hide' B1
  have HCELLS : Hid' (c.cells = [.int .i64 c.kind, .int .i64 c.con, .slice none 0 0, .slice xo c.args.length xc, .bool false, .int .i64 0, .int .i64 c.level, .string ⟨#[]⟩, .bool false, .bool false, .int .i64 c.to, .int .i64 0]) := ⟨by unfold Tc.cells; rw [hav]⟩
  rw [hav] at t3 hwm
  unfold Tc.val
  rw [hav]
  obtain ⟨T, hT⟩ : ∃ T, w.heap.size = T := ⟨_, rfl⟩
  have HT := hide' hT
  rw [hT] at HTN t0 t1 t2 t3 t4 t5 t6 t7 t8 t9 t10 t11 hold hil
  have hTl : T < wm.heap.size := by omega
  obtain ⟨A, hA⟩ : ∃ A, c.args.length = A := ⟨_, rfl⟩
  have HA := hide' hA
  rw [hA] at t3 hwm HCELLS ⊢
  clear hA
  generalize (cs.getD p Tc.zero).args.length = A3 at *
  generalize (cs.getD p Tc.zero).kind = ok at *
  generalize (cs.getD p Tc.zero).con = on at *
  generalize (cs.getD p Tc.zero).level = ol at *
  generalize (cs.getD p Tc.zero).to = ot at *
  have hown := HXS.out.lt
  have HGt : Hid' (some t ≠ (Value.slice to' n tc).ownBlock) := ⟨fun e => by have := (hown t e.symm).1; omega⟩
  have HGb : Hid' (some b ≠ (Value.slice to' n tc).ownBlock) := ⟨fun e => by have := (hown b e.symm).1; omega⟩
  have HGg : Hid' (some g ≠ (Value.slice to' n tc).ownBlock) := ⟨fun e => by have := (hown g e.symm).1; omega⟩
  have HGT : Hid' (some T ≠ (Value.slice to' n tc).ownBlock) := ⟨fun e => by
    obtain ⟨xs', hx'⟩ := HU0.out.row
    rw [HTV.out] at hx'
    have := (hx'.lt T e.symm).2
    have := HT.out
    omega⟩
  have hlt : t < wm.heap.size := by omega
  have hgl : g < wm.heap.size := by omega
  have hbl : b < wm.heap.size := by omega
  have n1 : ¬ t = wm.heap.size := by omega
  have n2 : ¬ wm.heap.size = t := by omega
  have n3 : ¬ b = wm.heap.size := by omega
  have n4 : ¬ wm.heap.size = b := by omega
  have n5 : ¬ g = wm.heap.size := by omega
  have n6 : ¬ wm.heap.size = g := by omega
  have n7 : ¬ T = wm.heap.size := by omega
  have n8 : ¬ wm.heap.size = T := by omega
  have n9 : ¬ b = t := by omega
  have n10 : ¬ t = b := by omega
  have n11 : ¬ g = t := by omega
  have n12 : ¬ t = g := by omega
  have n13 : ¬ T = t := by omega
  have n14 : ¬ t = T := by omega
  have hNl : cs.length ≤ 100 := hsm
  obtain ⟨N, hN⟩ : ∃ N, cs.length = N := ⟨_, rfl⟩
  have HN := hide' hN
  rw [hN] at c2 hp hNl HRO
  clear hb hu hn hcv htv hav hxs B1 hT hN hv3 hown hsm S1
  go_enter Tryz.func75, Tryz.ntmps75
  go_upto_region 1 with fail
  try rw [hwm]
  try rw [HT.out]
  clear hwm
  go_cut [5] (fun vb wx => vb = .pointer (some ⟨T, 0, none⟩) ∧ ∃ (g6 cap6 : Nat), Hid' (wx.cell? ⟨t, 1, none⟩ = some (.slice (some ⟨g6, 0, none⟩) (n + 1) cap6) ∧ wx.frozen? ⟨t, 1, none⟩ = false ∧ ∃ ys, wx.ownsRow (t + 1) 137 13 (.slice (some ⟨g6, 0, none⟩) (n + 1) cap6) (n + 1) ys) ∧ Hid' (wx.cell? ⟨t, 0, none⟩ = wm.cell? ⟨t, 0, none⟩) ∧ Hid' (∀ k, k < wm.heap.size → k ≠ t → some k ≠ (Value.slice to' n tc).ownBlock → wx.heap[k]? = wm.heap[k]?) ∧ ((Value.slice to' n tc).ownBlock = some g6 ∨ wm.heap.size ≤ g6) ∧ g6 < wx.heap.size ∧ wx.os = wm.os ∧ wx.tape = wm.tape ∧ wx.output = wm.output ∧ wm.heap.size ≤ wx.heap.size)
  case first =>
    go_region_law
      ((refine step_append_lies _ (by rfl) _ _ 101 (by rfl) (t + 1) 137 j0 (.agg #[.int .i64 0, .int .i64 0, .int .i64 0, .slice none 0 0, .slice none 0 0, .bool false, .int .i64 0, .int .i64 0, .string ⟨#[]⟩, .bool false, .bool false, .int .i64 0, .int .i64 0]) 13 144 Tryz.underlying101 hj jz0 jz1 jz2 rfl (by decide) _ _ _ (by rfl) (HXS.out.drew.alloc _) ⟨_, 0, none⟩ 1 1 [.int .i64 (p : Int), .int .i64 ok, .int .i64 on, .slice none 0 0, .slice ao3 A3 cap3, .bool false, .int .i64 0, .int .i64 ol, .string ⟨#[]⟩, .bool false, .bool false, .int .i64 ot, .int .i64 0] (by rfl) rfl (cellsNew _ _ _) (by simp [Value.oneCell']) (by decide) (by unfold maxLen; omega) (by omega) (by simp; omega) (wm.heap.size + 1) (by simp) ?_; intro g6 cap6 w6 hown6 hgrow6 hat6 hlt6; (have e6 : ∀ k, k < wm.heap.size → some k ≠ (Value.slice to' n tc).ownBlock → w6.heap[k]? = wm.heap[k]? := fun k hk hne => (hgrow6.block k (by simp; omega) hne).trans (((Below.refl wm.heap.size wm).drew.alloc (Nat.le_refl _) _).block k hk)); have k6b := (cell_of_block (w := wm) (a := ⟨t, 1, none⟩) (e6 t (by omega) HGt.out)).trans u1; (have k6f : w6.frozen? ⟨t, 1, none⟩ = false := (World.frozen?_of_block (w := wm) (a := ⟨t, 1, none⟩) (e6 t (by omega) HGt.out)).trans uf)))
    all_goals (
      go_wp2_with fail
      go_meet
      refine ⟨rfl, g6, cap6, ⟨World.cell?_setCell_same _ _ _ k6b, by rw [World.frozen?_setCell]; exact k6f, _, ownsRow_setCell_below hown6 (a := ⟨t, 1, none⟩) (Nat.lt_succ_self t) _⟩, ⟨?_⟩, ⟨fun k hk hkb hkn => by rw [Below.heap_setCell _ _ _ _ (by show k ≠ t; exact hkb)]; exact e6 k hk hkn⟩, ?_, by simpa using hlt6, hgrow6.os, hgrow6.tape, hgrow6.output, Nat.le_trans (Nat.le_succ _) (by have := hgrow6.size; simpa using this)⟩
      · rw [World.cell?_setCell_other _ _ _ _ (by simp)]; exact cell_of_block (a := ⟨t, 0, none⟩) (e6 t (by omega) HGt.out)
      · rcases hat6 with x | x
        · exact .inl x
        · exact .inr (by omega))
  case rest =>
    obtain ⟨rfl, g6, cap6, H6, HJ6, HE6, hat6, hlt6, ho6, htp6, hou6, hs6⟩ := hcut
    have q0 := HJ6.out.trans u0
    have q2 := (cell_of_block (w := wm) (a := ⟨b, 2, none⟩) (HE6.out b (by omega) n9 HGb.out)).trans c2
    have HTC := hide' (HTN.out.block (HE6.out T (by omega) n13 HGT.out))
    have HRC := hide' (row_keep HRO.out fun k hk => by
      have e' : g = k := by simpa [Value.ownBlock] using hk
      subst e'
      exact HE6.out g (by omega) n11 HGg.out)
    obtain ⟨k0, k1, k2, k3, k4, k5, k6, k7, k8, k9, k10, k11⟩ := HTC.out
    simp only [Nat.zero_add] at k0 k1 k2 k3 k4 k5 k6 k7 k8 k9 k10 k11
    rw [HAV.out] at k3
    rw [HA.out] at k3
    have HAC := hide' (HAT.out.block (HE6.out g (by omega) n11 HGg.out))
    obtain ⟨m0, m1, m2, m3, m4, m5, m6, m7, m8, m9, m10, m11⟩ := HAC.out
    have z0 := HRC.out.frozenAt (p * 12)
    have z1 := HRC.out.frozenAt (p * 12 + 1)
    have z2 := HRC.out.frozenAt (p * 12 + 2)
    have z3 := HRC.out.frozenAt (p * 12 + 3)
    have z4 := HRC.out.frozenAt (p * 12 + 4)
    have z5 := HRC.out.frozenAt (p * 12 + 5)
    have z6 := HRC.out.frozenAt (p * 12 + 6)
    have z7 := HRC.out.frozenAt (p * 12 + 7)
    have z8 := HRC.out.frozenAt (p * 12 + 8)
    have z9 := HRC.out.frozenAt (p * 12 + 9)
    have z10 := HRC.out.frozenAt (p * 12 + 10)
    have z11 := HRC.out.frozenAt (p * 12 + 11)
    have p1 : ¬ g = b := by omega
    have p2 : ¬ b = g := by omega
    have p3 : ¬ g = T := by omega
    have p4 : ¬ T = g := by omega
    clear r0 r1 r2 r3 r4 r5 r6 r7 r8 r9 r10 r11 t0 t1 t2 t3 t4 t5 t6 t7 t8 t9 t10 t11 u0 u1 uf c2
    go_upto_region 2 with fail
    go_region_held3 (fun w' => w'.cell? ⟨t, 0, none⟩ = some (.pointer (some ⟨b, 0, none⟩)) ∧ w'.cell? ⟨b, 2, none⟩ = some (.slice (some ⟨g, 0, none⟩) N cap) ∧ w'.cell? ⟨T, 0, none⟩ = some (.int .i64 c.kind) ∧ w'.cell? ⟨T, 1, none⟩ = some (.int .i64 c.con) ∧ w'.cell? ⟨T, 2, none⟩ = some (.slice none 0 0) ∧ w'.cell? ⟨T, 3, none⟩ = some (.slice xo A xc) ∧ w'.cell? ⟨T, 4, none⟩ = some (.bool false) ∧ w'.cell? ⟨T, 5, none⟩ = some (.int .i64 0) ∧ w'.cell? ⟨T, 6, none⟩ = some (.int .i64 c.level) ∧ w'.cell? ⟨T, 7, none⟩ = some (.string ⟨#[]⟩) ∧ w'.cell? ⟨T, 8, none⟩ = some (.bool false) ∧ w'.cell? ⟨T, 9, none⟩ = some (.bool false) ∧ w'.cell? ⟨T, 10, none⟩ = some (.int .i64 c.to) ∧ w'.cell? ⟨T, 11, none⟩ = some (.int .i64 0)) (go_keep) (fail)
    go_end0
    exact ⟨rfl, set_end t b hi cv cs tv n p c w wc g cap N T g6 cap6 A xc tc xo to' HB0 HU0 hht hp HN0 hl HT HN ⟨by rw [HCV.out, HN.out]⟩ HTV hbg hghi (by omega) hbo hold hil HCELLS HRC ⟨fun k hk h1 h2 => (HE6.out k (by omega) h1 h2).trans (HB1.out.block k (by rw [HT.out]; exact hk))⟩ q0 H6 (by rcases hat6 with x | x; exact .inl x; exact .inr (by omega)) (ho6.trans HB1.out.os) (htp6.trans HB1.out.tape) (hou6.trans HB1.out.output)⟩
end Go.Proofs.YtlijfkmcaccflaaGreatDoor
