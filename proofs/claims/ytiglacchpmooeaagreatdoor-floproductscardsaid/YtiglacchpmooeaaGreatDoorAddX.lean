/- The reference's add: the exact sum. -/
import Derived.Test.YtiglacchpmooeaaGreatDoorOf
import Derived.Test.YtiglacchpmooeaaGreatDoorBigA
import Derived.Deep.RegionHeld3
import Derived.Deep.DeepCutAuto
import Derived.Laws.NewBlocks
namespace Go.Proofs.YtiglacchpmooeaaGreatDoor
open Go.ChangeShapes Go.WideShapes Go.ChangeAt Go.RowKit
open Ieee

def sumS (sx sy : Bool) (A B : Nat) : Bool := if sx = sy then sx else if A = B then false else if B < A then sx else sy
def sumM (sx sy : Bool) (A B : Nat) : Nat := if sx = sy then A + B else if B ≤ A then A - B else B - A

theorem undrew' {B : Nat} {w w1 : World} (h : Below B w.drew w1) : Below B w w1 := ⟨h.os, h.tape, h.output, h.size, h.block⟩

/-- Three boxes, one behind the other. -/
abbrev three (w : World) (a b c : Obj) : World := ((w.alloc a).alloc b).alloc c

theorem three_size (w : World) (a b c : Obj) : (three w a b c).heap.size = w.heap.size + 1 + 1 + 1 := by simp [three]

theorem three_below (w : World) (a b c : Obj) : Below w.heap.size w (three w a b c) := (((Below.refl _ _).alloc (Nat.le_refl _) _).alloc (by simp) _).alloc (by simp; omega) _

theorem three_kept {w w1 : World} {x0 x1 x2 y0 y1 y2 z0 z1 z2 : Value} {t : TypeId} (h : Below (w.heap.size + 1 + 1 + 1) (three w (.cells #[x0, x1, x2] t) (.cells #[y0, y1, y2] t) (.cells #[z0, z1, z2] t)) w1) :
    w1.cell? ⟨w.heap.size, 0, none⟩ = some x0 ∧ w1.cell? ⟨w.heap.size, 1, none⟩ = some x1 ∧ w1.cell? ⟨w.heap.size, 2, none⟩ = some x2 ∧
    w1.cell? ⟨w.heap.size + 1, 0, none⟩ = some y0 ∧ w1.cell? ⟨w.heap.size + 1, 1, none⟩ = some y1 ∧ w1.cell? ⟨w.heap.size + 1, 2, none⟩ = some y2 ∧
    w1.heap[w.heap.size + 1 + 1]? = some (.cells #[z0, z1, z2] t (0, 0)) ∧ Below w.heap.size w w1 ∧ w.heap.size + 1 + 1 < w1.heap.size := by
  refine ⟨?_, ?_, ?_, ?_, ?_, ?_, ?_, (three_below w _ _ _).trans (h.mono (by omega)), by have := h.size; rw [three_size] at this; omega⟩
  · rw [h.cell (p := ⟨w.heap.size, 0, none⟩) (by simp; omega), World.cell?_alloc_past _ _ _ (by simp; omega), World.cell?_alloc_past _ _ _ (by simp), World.cell?_alloc_at _ _ _ _ rfl]; rfl
  · rw [h.cell (p := ⟨w.heap.size, 1, none⟩) (by simp; omega), World.cell?_alloc_past _ _ _ (by simp; omega), World.cell?_alloc_past _ _ _ (by simp), World.cell?_alloc_at _ _ _ _ rfl]; rfl
  · rw [h.cell (p := ⟨w.heap.size, 2, none⟩) (by simp; omega), World.cell?_alloc_past _ _ _ (by simp; omega), World.cell?_alloc_past _ _ _ (by simp), World.cell?_alloc_at _ _ _ _ rfl]; rfl
  · rw [h.cell (p := ⟨w.heap.size + 1, 0, none⟩) (by simp), World.cell?_alloc_past _ _ _ (by simp), World.cell?_alloc_at _ _ _ _ (by simp)]; rfl
  · rw [h.cell (p := ⟨w.heap.size + 1, 1, none⟩) (by simp), World.cell?_alloc_past _ _ _ (by simp), World.cell?_alloc_at _ _ _ _ (by simp)]; rfl
  · rw [h.cell (p := ⟨w.heap.size + 1, 2, none⟩) (by simp), World.cell?_alloc_past _ _ _ (by simp), World.cell?_alloc_at _ _ _ _ (by simp)]; rfl
  · rw [h.block _ (by omega)]
    have e := heap_alloc_new ((w.alloc (.cells #[x0, x1, x2] t)).alloc (.cells #[y0, y1, y2] t)) (.cells #[z0, z1, z2] t)
    rw [show ((w.alloc (.cells #[x0, x1, x2] t)).alloc (.cells #[y0, y1, y2] t)).heap.size = w.heap.size + 1 + 1 by simp] at e
    exact e

/-- The struct that is handed back, once its three cells are written. -/
theorem sum_end {w w1 : World} {g : Nat} {c0 c1 c2 : Value} {t : TypeId} (hg : w1.heap[g]? = some (.cells #[c0, c1, c2] t (0, 0))) (hw : w.heap.size ≤ g) (b0 : Below w.heap.size w w1) {v : Value} {m : Nat} (am : IsAmt w1 v m) (fr : ∀ k, v.ownBlock = some k → k ≠ g) (b p : Value) :
    (((w1.setCell ⟨g, 0, none⟩ b).setCell ⟨g, 1, none⟩ v).setCell ⟨g, 2, none⟩ p).heap[g]? = some (.cells #[b, v, p] t (0, 0)) ∧
    IsAmt (((w1.setCell ⟨g, 0, none⟩ b).setCell ⟨g, 1, none⟩ v).setCell ⟨g, 2, none⟩ p) v m ∧
    Below w.heap.size w (((w1.setCell ⟨g, 0, none⟩ b).setCell ⟨g, 1, none⟩ v).setCell ⟨g, 2, none⟩ p) := by
  have h1 := heap_setCell_same w1 g 0 _ t b hg
  have h2 := heap_setCell_same _ g 1 _ t v h1
  have h3 := heap_setCell_same _ g 2 _ t p h2
  exact ⟨h3.trans (by simp), ((am.setCell fr).setCell fr).setCell fr, ((b0.setCell hw _).setCell hw _).setCell hw _⟩

theorem cells_of {w1 : World} {g : Nat} {c0 c1 c2 : Value} {t : TypeId} (hg : w1.heap[g]? = some (.cells #[c0, c1, c2] t (0, 0))) : w1.cell? ⟨g, 0, none⟩ = some c0 ∧ w1.cell? ⟨g, 1, none⟩ = some c1 ∧ w1.cell? ⟨g, 2, none⟩ = some c2 ∧ w1.frozen? ⟨g, 0, none⟩ = false ∧ w1.frozen? ⟨g, 1, none⟩ = false ∧ w1.frozen? ⟨g, 2, none⟩ = false := by
  refine ⟨?_, ?_, ?_, ?_, ?_, ?_⟩ <;> simp [World.cell?, World.frozen?, hg]

theorem set_other (w1 : World) (g h i : Nat) (b v p : Value) (hn : h ≠ g) : (((w1.setCell ⟨g, 0, none⟩ b).setCell ⟨g, 1, none⟩ v).setCell ⟨g, 2, none⟩ p).cell? ⟨h, i, none⟩ = w1.cell? ⟨h, i, none⟩ := by
  have e : ∀ (w : World) (o : Nat) (x : Value), (w.setCell ⟨g, o, none⟩ x).cell? ⟨h, i, none⟩ = w.cell? ⟨h, i, none⟩ := fun w o x => World.cell?_setCell_far _ _ _ _ (fun h1 => hn h1.symm)
  rw [e, e, e]

theorem amt_nil (w : World) : IsAmt w (.slice none 0 0) 0 := ⟨[], Or.inl ⟨rfl, rfl⟩, digs_nil, norm_nil, rfl⟩

set_option maxHeartbeats 8000000 in
theorem add_low (sx sy : Bool) (vx vy : Value) (A B : Nat) (dx dy px py p : Int) (w : World)
    (SX : ∀ wt, Below w.heap.size w wt → Calls Tryz.prog 36 #[vx, .int .i64 dx] wt fun e w' => ∃ v, e = .returned v ∧ IsAmt w' v A ∧ Below wt.heap.size wt w')
    (SY : ∀ wt, Below w.heap.size w wt → Calls Tryz.prog 36 #[vy, .int .i64 dy] wt fun e w' => ∃ v, e = .returned v ∧ IsAmt w' v B ∧ Below wt.heap.size wt w')
    (BA : Kept A) (BB : Kept B)
    (hp : px = p ∧ p ≤ py ∨ py = p ∧ p < px) (ex : IntKind.i64.wrap (px - p) = dx) (ey : IntKind.i64.wrap (py - p) = dy) :
    Calls Tryz.prog 29 #[.agg #[.bool sx, vx, .int .i64 px], .agg #[.bool sy, vy, .int .i64 py]] w fun e w' => ∃ ao l c, e = .returned (.agg #[.bool (sumS sx sy A B), .slice ao l c, .int .i64 p]) ∧ IsAmt w' (.slice ao l c) (sumM sx sy A B) ∧ Below w.heap.size w w' := by
  rcases hp with ⟨rfl, hp⟩ | ⟨rfl, hp⟩
  · rw [Int.sub_self, show IntKind.i64.wrap 0 = 0 by decide] at ex
    subst ex
    go_enter Tryz.func29, Tryz.ntmps29
    go_upto_region 2 with fail
    have W3 := hide (three_below w (.cells #[.bool sx, vx, .int .i64 px] 41) (.cells #[.bool sy, vy, .int .i64 py] 41) (.cells #[.bool false, .slice none 0 0, .int .i64 0] 41))
    go_cut [6, 7] (fun a b wx => ∃ a1 l1 c1 a2 l2 c2, a = .slice a1 l1 c1 ∧ b = .slice a2 l2 c2 ∧ IsAmt wx a A ∧ IsAmt wx b B ∧ Below (w.heap.size + 1 + 1 + 1) (three w (.cells #[.bool sx, vx, .int .i64 px] 41) (.cells #[.bool sy, vy, .int .i64 py] 41) (.cells #[.bool false, .slice none 0 0, .int .i64 0] 41)) wx)
    case first =>
      go_region_held3 (fun w' => w'.cell? ⟨w.heap.size, 1, none⟩ = some vx ∧ w'.cell? ⟨w.heap.size, 2, none⟩ = some (.int .i64 px) ∧ w'.cell? ⟨w.heap.size + 1, 1, none⟩ = some vy ∧ w'.cell? ⟨w.heap.size + 1, 2, none⟩ = some (.int .i64 py)) (go_keep) (first
        | (go_at_call 36; refine (SX _ W3.out.drew).mono ?_; rintro e w1 ⟨v1, rfl, h1, b1⟩; clear SX
           have b1' := (undrew' b1).mono (Nat.le_of_eq (three_size w _ _ _).symm)
           obtain ⟨q0, q1, q2, p0, p1, p2, hz, bb, zz⟩ := three_kept b1'; clear b1)
        | (go_at_call 36; refine (SY _ bb).mono ?_; rintro e w2 ⟨v2, rfl, h2, b2⟩; clear SY
           obtain ⟨a1, l1, c1, rfl⟩ := amt_form h1
           obtain ⟨a2, l2, c2, rfl⟩ := amt_form h2
           have h1' := h1.below b2
           have b3 := b1'.trans (b2.mono zz)
           obtain ⟨q0, q1, q2, p0, p1, p2, hz, bb, zz⟩ := three_kept b3))
      go_wp2_with fail
      go_meet
      exact ⟨a1, l1, c1, a2, l2, c2, rfl, rfl, h1', h2, b3⟩
    case rest =>
      obtain ⟨a1, l1, c1, a2, l2, c2, rfl, rfl, h1, h2, b3⟩ := hcut
      obtain ⟨q0, q1, q2, p0, p1, p2, hz, bb, zz⟩ := three_kept b3
      clear W3 b3 SX SY q1 q2 p1 p2
      have AD := fun wt (hb : Below wc.heap.size wc wt) => addD_any _ _ A B wt (h1.below hb) (h2.below hb) BA.out BB.out
      have CM := cmpD_any _ _ A B wc h1 h2
      have SA := fun wt (hb : Below wc.heap.size wc wt) (h : B ≤ A) => subD_any _ _ A B wt (h1.below hb) (h2.below hb) h BA.out
      have SB := fun wt (hb : Below wc.heap.size wc wt) (h : A ≤ B) => subD_any _ _ B A wt (h2.below hb) (h1.below hb) h BB.out
      have ZE := hide (fun w4 (hb : Below wc.heap.size wc w4) => (hb.block _ zz).trans hz)
      have ZB := hide (fun w4 (hb : Below wc.heap.size wc w4) => bb.trans (hb.mono (by omega : w.heap.size ≤ wc.heap.size)))
      have ZQ := hide (fun w4 (hb : Below wc.heap.size wc w4) => (hb.cell (p := ⟨w.heap.size, 0, none⟩) (by simp; omega)).trans q0)
      have ZP := hide (fun w4 (hb : Below wc.heap.size wc w4) => (hb.cell (p := ⟨w.heap.size + 1, 0, none⟩) (by simp; omega)).trans p0)
      clear h1 h2 hz BA BB
      by_cases hs : sx = sy
      · subst hs
        have e1 : Hid (sumS sx sx A B = sx) := hide (if_pos rfl)
        have e2 : Hid (sumM sx sx A B = A + B) := hide (if_pos rfl)
        clear CM SA SB
        go_upto_region 4 with fail
        go_region_held3 (fun w' => w'.cell? ⟨w.heap.size, 0, none⟩ = some (.bool sx)) (go_keep) (first
          | (go_at_call 46; refine (AD _ (Below.refl _ _).drew).mono ?_; rintro e w4 ⟨v4, rfl, h4, f4, b4⟩
             have b4 := undrew' b4
             obtain ⟨a4, l4, c4, rfl⟩ := amt_form h4
             have z4 := ZE.out _ b4
             obtain ⟨k0, k1, k2, j0, j1, j2⟩ := cells_of z4
             have s0 := ZQ.out _ b4
             have s1 := (set_other w4 (w.heap.size + 1 + 1) w.heap.size 0 (.bool sx) (.slice a4 l4 c4) (.int .i64 px) (by omega)).trans s0
             have XE := hide (sum_end z4 (by omega) (ZB.out _ b4) h4 (fun k hk => by have : wc.heap.size ≤ k := f4 k hk; omega))))
        go_wp2
        obtain ⟨y1, y2, y3⟩ := XE.out (.bool sx) (.int .i64 px)
        refine bodyPost_ret (results_cell_row rfl _ _ (w.heap.size + 1 + 1) _ _ _ _ rfl y1 Tryz.underlying41 rfl (by kernel_rfl)) rfl ?_
        exact ⟨a4, l4, c4, by rw [e1.out], by rw [e2.out]; exact y2, y3⟩
      · have hsb : (sx == sy) = false := beq_eq_false_iff_ne.2 hs
        clear AD
        rcases Nat.lt_trichotomy A B with hAB | hAB | hAB
        · have e1 : Hid (sumS sx sy A B = sy) := hide (by unfold sumS; rw [if_neg hs, if_neg (by omega), if_neg (by omega)])
          have e2 : Hid (sumM sx sy A B = B - A) := hide (by unfold sumM; rw [if_neg hs, if_neg (by omega)])
          rw [cmpN_lt hAB] at CM
          have SB := fun wt hb => SB wt hb (by omega)
          clear SA
          go_wp2_with (go_at_call 50; refine CM.mono ?_; rintro e w3 ⟨rfl, b5⟩; clear CM; have s3 := ZP.out _ b5)
          go_region_held3 (fun w' => w'.cell? ⟨w.heap.size + 1, 0, none⟩ = some (.bool sy)) (go_keep) (first
            | (go_at_call 51; refine (SB _ b5.drew).mono ?_; rintro e w4 ⟨v4, rfl, h4, f4, b4⟩
               have b4 := b5.trans ((undrew' b4).mono b5.size)
               obtain ⟨a4, l4, c4, rfl⟩ := amt_form h4
               have z4 := ZE.out _ b4
               obtain ⟨k0, k1, k2, j0, j1, j2⟩ := cells_of z4
               have s0 := ZP.out _ b4
               have s1 := (set_other w4 (w.heap.size + 1 + 1) (w.heap.size + 1) 0 (.bool sy) (.slice a4 l4 c4) (.int .i64 px) (by omega)).trans s0
               have XE := hide (sum_end z4 (by omega) (ZB.out _ b4) h4 (fun k hk => by have : w3.heap.size ≤ k := f4 k hk; have := b5.size; omega))))
          go_wp2
          obtain ⟨y1, y2, y3⟩ := XE.out (.bool sy) (.int .i64 px)
          refine bodyPost_ret (results_cell_row rfl _ _ (w.heap.size + 1 + 1) _ _ _ _ rfl y1 Tryz.underlying41 rfl (by kernel_rfl)) rfl ?_
          exact ⟨a4, l4, c4, by rw [e1.out], by rw [e2.out]; exact y2, y3⟩
        · have e1 : Hid (sumS sx sy A B = false) := hide (by unfold sumS; rw [if_neg hs, if_pos hAB])
          have e2 : Hid (sumM sx sy A B = 0) := hide (by unfold sumM; rw [if_neg hs, if_pos (by omega)]; omega)
          rw [cmpN_eq hAB] at CM
          clear SA SB
          go_wp2_with (go_at_call 50; refine CM.mono ?_; rintro e w4 ⟨rfl, b4⟩; clear CM
                       have z4 := ZE.out _ b4
                       obtain ⟨k0, k1, k2, j0, j1, j2⟩ := cells_of z4
                       have XE := hide (sum_end z4 (by omega) (ZB.out _ b4) (amt_nil w4) (fun k hk => by cases hk)))
          obtain ⟨y1, y2, y3⟩ := XE.out (.bool false) (.int .i64 px)
          refine bodyPost_ret (results_cell_row rfl _ _ (w.heap.size + 1 + 1) _ _ _ _ rfl y1 Tryz.underlying41 rfl (by kernel_rfl)) rfl ?_
          exact ⟨none, 0, 0, by rw [e1.out], by rw [e2.out]; exact y2, y3⟩
        · have e1 : Hid (sumS sx sy A B = sx) := hide (by unfold sumS; rw [if_neg hs, if_neg (by omega), if_pos hAB])
          have e2 : Hid (sumM sx sy A B = A - B) := hide (by unfold sumM; rw [if_neg hs, if_pos (by omega)])
          rw [cmpN_gt hAB] at CM
          have SA := fun wt hb => SA wt hb (by omega)
          clear SB
          go_wp2_with (go_at_call 50; refine CM.mono ?_; rintro e w3 ⟨rfl, b5⟩; clear CM; have s3 := ZQ.out _ b5)
          go_region_held3 (fun w' => w'.cell? ⟨w.heap.size, 0, none⟩ = some (.bool sx)) (go_keep) (first
            | (go_at_call 51; refine (SA _ b5.drew).mono ?_; rintro e w4 ⟨v4, rfl, h4, f4, b4⟩
               have b4 := b5.trans ((undrew' b4).mono b5.size)
               obtain ⟨a4, l4, c4, rfl⟩ := amt_form h4
               have z4 := ZE.out _ b4
               obtain ⟨k0, k1, k2, j0, j1, j2⟩ := cells_of z4
               have s0 := ZQ.out _ b4
               have s1 := (set_other w4 (w.heap.size + 1 + 1) w.heap.size 0 (.bool sx) (.slice a4 l4 c4) (.int .i64 px) (by omega)).trans s0
               have XE := hide (sum_end z4 (by omega) (ZB.out _ b4) h4 (fun k hk => by have : w3.heap.size ≤ k := f4 k hk; have := b5.size; omega))))
          go_wp2
          obtain ⟨y1, y2, y3⟩ := XE.out (.bool sx) (.int .i64 px)
          refine bodyPost_ret (results_cell_row rfl _ _ (w.heap.size + 1 + 1) _ _ _ _ rfl y1 Tryz.underlying41 rfl (by kernel_rfl)) rfl ?_
          exact ⟨a4, l4, c4, by rw [e1.out], by rw [e2.out]; exact y2, y3⟩
  · rw [Int.sub_self, show IntKind.i64.wrap 0 = 0 by decide] at ey
    subst ey
    go_enter Tryz.func29, Tryz.ntmps29
    go_upto_region 2 with fail
    have W3 := hide (three_below w (.cells #[.bool sx, vx, .int .i64 px] 41) (.cells #[.bool sy, vy, .int .i64 py] 41) (.cells #[.bool false, .slice none 0 0, .int .i64 0] 41))
    go_cut [6, 7] (fun a b wx => ∃ a1 l1 c1 a2 l2 c2, a = .slice a1 l1 c1 ∧ b = .slice a2 l2 c2 ∧ IsAmt wx a A ∧ IsAmt wx b B ∧ Below (w.heap.size + 1 + 1 + 1) (three w (.cells #[.bool sx, vx, .int .i64 px] 41) (.cells #[.bool sy, vy, .int .i64 py] 41) (.cells #[.bool false, .slice none 0 0, .int .i64 0] 41)) wx)
    case first =>
      go_region_held3 (fun w' => w'.cell? ⟨w.heap.size, 1, none⟩ = some vx ∧ w'.cell? ⟨w.heap.size, 2, none⟩ = some (.int .i64 px) ∧ w'.cell? ⟨w.heap.size + 1, 1, none⟩ = some vy ∧ w'.cell? ⟨w.heap.size + 1, 2, none⟩ = some (.int .i64 py)) (go_keep) (first
        | (go_at_call 36; refine (SX _ W3.out.drew).mono ?_; rintro e w1 ⟨v1, rfl, h1, b1⟩; clear SX
           have b1' := (undrew' b1).mono (Nat.le_of_eq (three_size w _ _ _).symm)
           obtain ⟨q0, q1, q2, p0, p1, p2, hz, bb, zz⟩ := three_kept b1'; clear b1)
        | (go_at_call 36; refine (SY _ bb).mono ?_; rintro e w2 ⟨v2, rfl, h2, b2⟩; clear SY
           obtain ⟨a1, l1, c1, rfl⟩ := amt_form h1
           obtain ⟨a2, l2, c2, rfl⟩ := amt_form h2
           have h1' := h1.below b2
           have b3 := b1'.trans (b2.mono zz)
           obtain ⟨q0, q1, q2, p0, p1, p2, hz, bb, zz⟩ := three_kept b3))
      go_wp2_with fail
      go_meet
      exact ⟨a1, l1, c1, a2, l2, c2, rfl, rfl, h1', h2, b3⟩
    case rest =>
      obtain ⟨a1, l1, c1, a2, l2, c2, rfl, rfl, h1, h2, b3⟩ := hcut
      obtain ⟨q0, q1, q2, p0, p1, p2, hz, bb, zz⟩ := three_kept b3
      clear W3 b3 SX SY q1 q2 p1 p2
      have AD := fun wt (hb : Below wc.heap.size wc wt) => addD_any _ _ A B wt (h1.below hb) (h2.below hb) BA.out BB.out
      have CM := cmpD_any _ _ A B wc h1 h2
      have SA := fun wt (hb : Below wc.heap.size wc wt) (h : B ≤ A) => subD_any _ _ A B wt (h1.below hb) (h2.below hb) h BA.out
      have SB := fun wt (hb : Below wc.heap.size wc wt) (h : A ≤ B) => subD_any _ _ B A wt (h2.below hb) (h1.below hb) h BB.out
      have ZE := hide (fun w4 (hb : Below wc.heap.size wc w4) => (hb.block _ zz).trans hz)
      have ZB := hide (fun w4 (hb : Below wc.heap.size wc w4) => bb.trans (hb.mono (by omega : w.heap.size ≤ wc.heap.size)))
      have ZQ := hide (fun w4 (hb : Below wc.heap.size wc w4) => (hb.cell (p := ⟨w.heap.size, 0, none⟩) (by simp; omega)).trans q0)
      have ZP := hide (fun w4 (hb : Below wc.heap.size wc w4) => (hb.cell (p := ⟨w.heap.size + 1, 0, none⟩) (by simp; omega)).trans p0)
      clear h1 h2 hz BA BB
      by_cases hs : sx = sy
      · subst hs
        have e1 : Hid (sumS sx sx A B = sx) := hide (if_pos rfl)
        have e2 : Hid (sumM sx sx A B = A + B) := hide (if_pos rfl)
        clear CM SA SB
        go_upto_region 4 with fail
        go_region_held3 (fun w' => w'.cell? ⟨w.heap.size, 0, none⟩ = some (.bool sx)) (go_keep) (first
          | (go_at_call 46; refine (AD _ (Below.refl _ _).drew).mono ?_; rintro e w4 ⟨v4, rfl, h4, f4, b4⟩
             have b4 := undrew' b4
             obtain ⟨a4, l4, c4, rfl⟩ := amt_form h4
             have z4 := ZE.out _ b4
             obtain ⟨k0, k1, k2, j0, j1, j2⟩ := cells_of z4
             have s0 := ZQ.out _ b4
             have s1 := (set_other w4 (w.heap.size + 1 + 1) w.heap.size 0 (.bool sx) (.slice a4 l4 c4) (.int .i64 py) (by omega)).trans s0
             have XE := hide (sum_end z4 (by omega) (ZB.out _ b4) h4 (fun k hk => by have : wc.heap.size ≤ k := f4 k hk; omega))))
        go_wp2
        obtain ⟨y1, y2, y3⟩ := XE.out (.bool sx) (.int .i64 py)
        refine bodyPost_ret (results_cell_row rfl _ _ (w.heap.size + 1 + 1) _ _ _ _ rfl y1 Tryz.underlying41 rfl (by kernel_rfl)) rfl ?_
        exact ⟨a4, l4, c4, by rw [e1.out], by rw [e2.out]; exact y2, y3⟩
      · have hsb : (sx == sy) = false := beq_eq_false_iff_ne.2 hs
        clear AD
        rcases Nat.lt_trichotomy A B with hAB | hAB | hAB
        · have e1 : Hid (sumS sx sy A B = sy) := hide (by unfold sumS; rw [if_neg hs, if_neg (by omega), if_neg (by omega)])
          have e2 : Hid (sumM sx sy A B = B - A) := hide (by unfold sumM; rw [if_neg hs, if_neg (by omega)])
          rw [cmpN_lt hAB] at CM
          have SB := fun wt hb => SB wt hb (by omega)
          clear SA
          go_wp2_with (go_at_call 50; refine CM.mono ?_; rintro e w3 ⟨rfl, b5⟩; clear CM; have s3 := ZP.out _ b5)
          go_region_held3 (fun w' => w'.cell? ⟨w.heap.size + 1, 0, none⟩ = some (.bool sy)) (go_keep) (first
            | (go_at_call 51; refine (SB _ b5.drew).mono ?_; rintro e w4 ⟨v4, rfl, h4, f4, b4⟩
               have b4 := b5.trans ((undrew' b4).mono b5.size)
               obtain ⟨a4, l4, c4, rfl⟩ := amt_form h4
               have z4 := ZE.out _ b4
               obtain ⟨k0, k1, k2, j0, j1, j2⟩ := cells_of z4
               have s0 := ZP.out _ b4
               have s1 := (set_other w4 (w.heap.size + 1 + 1) (w.heap.size + 1) 0 (.bool sy) (.slice a4 l4 c4) (.int .i64 py) (by omega)).trans s0
               have XE := hide (sum_end z4 (by omega) (ZB.out _ b4) h4 (fun k hk => by have : w3.heap.size ≤ k := f4 k hk; have := b5.size; omega))))
          go_wp2
          obtain ⟨y1, y2, y3⟩ := XE.out (.bool sy) (.int .i64 py)
          refine bodyPost_ret (results_cell_row rfl _ _ (w.heap.size + 1 + 1) _ _ _ _ rfl y1 Tryz.underlying41 rfl (by kernel_rfl)) rfl ?_
          exact ⟨a4, l4, c4, by rw [e1.out], by rw [e2.out]; exact y2, y3⟩
        · have e1 : Hid (sumS sx sy A B = false) := hide (by unfold sumS; rw [if_neg hs, if_pos hAB])
          have e2 : Hid (sumM sx sy A B = 0) := hide (by unfold sumM; rw [if_neg hs, if_pos (by omega)]; omega)
          rw [cmpN_eq hAB] at CM
          clear SA SB
          go_wp2_with (go_at_call 50; refine CM.mono ?_; rintro e w4 ⟨rfl, b4⟩; clear CM
                       have z4 := ZE.out _ b4
                       obtain ⟨k0, k1, k2, j0, j1, j2⟩ := cells_of z4
                       have XE := hide (sum_end z4 (by omega) (ZB.out _ b4) (amt_nil w4) (fun k hk => by cases hk)))
          obtain ⟨y1, y2, y3⟩ := XE.out (.bool false) (.int .i64 py)
          refine bodyPost_ret (results_cell_row rfl _ _ (w.heap.size + 1 + 1) _ _ _ _ rfl y1 Tryz.underlying41 rfl (by kernel_rfl)) rfl ?_
          exact ⟨none, 0, 0, by rw [e1.out], by rw [e2.out]; exact y2, y3⟩
        · have e1 : Hid (sumS sx sy A B = sx) := hide (by unfold sumS; rw [if_neg hs, if_neg (by omega), if_pos hAB])
          have e2 : Hid (sumM sx sy A B = A - B) := hide (by unfold sumM; rw [if_neg hs, if_pos (by omega)])
          rw [cmpN_gt hAB] at CM
          have SA := fun wt hb => SA wt hb (by omega)
          clear SB
          go_wp2_with (go_at_call 50; refine CM.mono ?_; rintro e w3 ⟨rfl, b5⟩; clear CM; have s3 := ZQ.out _ b5)
          go_region_held3 (fun w' => w'.cell? ⟨w.heap.size, 0, none⟩ = some (.bool sx)) (go_keep) (first
            | (go_at_call 51; refine (SA _ b5.drew).mono ?_; rintro e w4 ⟨v4, rfl, h4, f4, b4⟩
               have b4 := b5.trans ((undrew' b4).mono b5.size)
               obtain ⟨a4, l4, c4, rfl⟩ := amt_form h4
               have z4 := ZE.out _ b4
               obtain ⟨k0, k1, k2, j0, j1, j2⟩ := cells_of z4
               have s0 := ZQ.out _ b4
               have s1 := (set_other w4 (w.heap.size + 1 + 1) w.heap.size 0 (.bool sx) (.slice a4 l4 c4) (.int .i64 py) (by omega)).trans s0
               have XE := hide (sum_end z4 (by omega) (ZB.out _ b4) h4 (fun k hk => by have : w3.heap.size ≤ k := f4 k hk; have := b5.size; omega))))
          go_wp2
          obtain ⟨y1, y2, y3⟩ := XE.out (.bool sx) (.int .i64 py)
          refine bodyPost_ret (results_cell_row rfl _ _ (w.heap.size + 1 + 1) _ _ _ _ rfl y1 Tryz.underlying41 rfl (by kernel_rfl)) rfl ?_
          exact ⟨a4, l4, c4, by rw [e1.out], by rw [e2.out]; exact y2, y3⟩
end Go.Proofs.YtiglacchpmooeaaGreatDoor
