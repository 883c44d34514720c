/- Unifiers: unify. -/
import Derived.Test.YtlijfkmcaccflaaGreatDoorProg
import Derived.Test.YtlijfkmcaccflaaGreatDoorTy10
import Derived.WalkKit
import Derived.ProofKit
import Derived.OpenShut
import Derived.Below
import Derived.WalkLawsBesides
import Derived.OwnWalk
import Derived.BigQuiet
import Derived.Deep.QuietTactic
import Derived.Deep.MidRow
import Derived.Deep.RegionHeld
import Derived.Deep.RegionHeld3
import Derived.Deep.DeepCutAuto
import Derived.WalkSmall
namespace Go.Proofs.YtlijfkmcaccflaaGreatDoor
open Go.ChangeShapes Go.WideShapes Go.ChangeAt Go.RowKit

theorem TcAt.below {w w' : World} {g o B : Nat} {c : Tc} (h : TcAt w g o c) (b : Below B w w') (hg : g < B) : TcAt w' g o c := h.block (b.block g hg)
/-- Two types in boxes of their own. -/
structure Two (W wx : World) (X Y : Nat) (cx cy : Tc) : Prop where
  hx : TcAt wx X 0 cx
  hy : TcAt wx Y 0 cy
  bel : Below W.heap.size W wx
  x1 : W.heap.size ≤ X
  x2 : X < wx.heap.size
  y1 : W.heap.size ≤ Y
  y2 : Y < wx.heap.size
theorem two_a (wr : World) (cx cy : Tc) (vx vy : Value) (T : TypeId) (hx : cx.av = vx) (hy : cy.av = vy) : Two wr (((wr.alloc (.cells #[.int .i64 cx.kind, .int .i64 cx.con, .slice none 0 0, vx, .bool false, .int .i64 0, .int .i64 cx.level, .string ⟨#[]⟩, .bool false, .bool false, .int .i64 cx.to, .int .i64 0] T)).alloc (.cells #[.int .i64 cy.kind, .int .i64 cy.con, .slice none 0 0, vy, .bool false, .int .i64 0, .int .i64 cy.level, .string ⟨#[]⟩, .bool false, .bool false, .int .i64 cy.to, .int .i64 0] T)).drew) wr.heap.size (wr.heap.size + 1) cx cy := by
  subst hx
  subst hy
  exact ⟨by constructor <;> simp, by constructor <;> simp, (((Below.refl _ _).alloc (Nat.le_refl _) _).alloc (by simp) _).drew, Nat.le_refl _, by simp; omega, by omega, by simp⟩
theorem two_b (wr : World) (cx cy : Tc) (vx vy : Value) (T : TypeId) (hx : cx.av = vx) (hy : cy.av = vy) : Two wr (((wr.alloc (.cells #[.int .i64 cy.kind, .int .i64 cy.con, .slice none 0 0, vy, .bool false, .int .i64 0, .int .i64 cy.level, .string ⟨#[]⟩, .bool false, .bool false, .int .i64 cy.to, .int .i64 0] T)).alloc (.cells #[.int .i64 cx.kind, .int .i64 cx.con, .slice none 0 0, vx, .bool false, .int .i64 0, .int .i64 cx.level, .string ⟨#[]⟩, .bool false, .bool false, .int .i64 cx.to, .int .i64 0] T)).drew) (wr.heap.size + 1) wr.heap.size cx cy := by
  subst hx
  subst hy
  exact ⟨by constructor <;> simp, by constructor <;> simp, (((Below.refl _ _).alloc (Nat.le_refl _) _).alloc (by simp) _).drew, by omega, by simp, Nat.le_refl _, by simp; omega⟩
def Tc.valV (c : Tc) (v : Value) : Value := .agg #[.int .i64 c.kind, .int .i64 c.con, .slice none 0 0, v, .bool false, .int .i64 0, .int .i64 c.level, .string ⟨#[]⟩, .bool false, .bool false, .int .i64 c.to, .int .i64 0]

set_option maxRecDepth 100000 in
set_option maxHeartbeats 16000000 in
theorem unify_becomes (t b hi : Nat) (cv : Value) (cs : List Tc) (tv : Value) (n s q d : Nat) (found : Int) (w : World) (R : World → Prop) (hb : Bk b hi w cv cs) (hu : Un t b w tv n) (hs : Good cs s) (hq : Good cs q) (hne : nw cs s ≠ nw cs q)
    (hox : Ok cs d (nw cs s : Nat)) (hoy : Ok cs d (nw cs q : Nat)) (hsx : siz cs d (nw cs s : Nat) ≤ 2048) (hsy : siz cs d (nw cs q : Nat) ≤ 2048) (hkx : kindA cs (nw cs s) = 1) (hky : kindA cs (nw cs q) ≠ 1)
    (hbec : ∀ W, Below w.heap.size w W → Calls Tryz.prog 91 #[.pointer (some ⟨t, 0, none⟩), .int .i64 (nw cs s : Nat), .int .i64 (nw cs q : Nat)] W fun e w' => e = .returned (.tuple #[]) ∧ R w') :
    Calls Tryz.prog 73 #[.pointer (some ⟨t, 0, none⟩), .int .i64 (s : Int), .int .i64 (q : Int), .int .i64 found] w fun e w' => e = .returned (.tuple #[]) ∧ R w' := by
  have HB := hide' hb
  have HU := hide' hu
  have hil := hb.hil
  have u0 := hu.c0
  have u1 := hu.c1
  obtain ⟨zs, hzs⟩ := hu.row
  obtain ⟨to', tc, htv⟩ := own_some hzs
  rw [htv] at u1
  have HTV := hide' htv
  have hn10 := hu.sm
  have CN := hide' (fun (z : Nat) (hz : z = s ∨ z = q) k => now_of b hi cv cs z (w.drewN k) (hb.below (below_drew _ _ _)) (by rcases hz with rfl | rfl; exact hs; exact hq))
  obtain ⟨x, hx⟩ : ∃ x, nw cs s = x := ⟨_, rfl⟩
  obtain ⟨y, hy⟩ : ∃ y, nw cs q = y := ⟨_, rfl⟩
  have hxl := hs.2.1
  have hyl := hq.2.1
  rw [hx] at hxl hne hox hsx hkx hbec
  rw [hy] at hyl hne hoy hsy hky hbec
  have hxy : ((x : Int) == (y : Int)) = false := by simp; omega
  have CB := hide' (fun W (hW : Below w.heap.size w W) (hr : Rd W (.slice (some ⟨W.heap.size - 1, 0, none⟩) 2 2) [(x : Int), (y : Int)]) (hpos : 0 < W.heap.size) => bound_ok t b hi cv cs tv n d _ [(x : Int), (y : Int)] W (HB.out.below (hW.mono hil)) (HU.out.below hW) hr (fun g hg => own1_lt (by omega) hg) (fun a ha => by
    rcases List.mem_cons.1 ha with rfl | ha
    · exact hox
    · rw [List.mem_singleton.1 ha]; exact hoy) (fun a ha => by
    rcases List.mem_cons.1 ha with rfl | ha
    · exact hsx
    · rw [List.mem_singleton.1 ha]; exact hsy))
  obtain ⟨N, hN⟩ : ∃ N, cs.length = N := ⟨_, rfl⟩
  have HN := hide' hN
  have hsm := hb.sm
  rw [hN] at hxl hyl hsm
  obtain ⟨cx, hcx⟩ : ∃ c, cs.getD x Tc.zero = c := ⟨_, rfl⟩
  obtain ⟨cy, hcy⟩ : ∃ c, cs.getD y Tc.zero = c := ⟨_, rfl⟩
  have HCX := hide' hcx
  have HCY := hide' hcy
  have HBEC := hide' hbec
  have hkx2 : (cx.kind == 1) = true := by rw [← hcx]; simpa [kindA] using hkx
  have hky2 : (cy.kind == 1) = false := by rw [← hcy]; simpa [kindA] using hky
  clear hb hu hbec hzs htv hs hq hne hox hoy hsx hsy hkx hky hN hcx hcy
  go_enter Tryz.func73, Tryz.ntmps73
  go_upto_region 0 with fail
  go_quiet ((go_at_call 48; exact Calls.quiet_of_same (CN.out _ (by first | exact .inl rfl | exact .inr rfl) _)))
  try rw [hx]
  try rw [hy]
  clear CN hx hy
  have B1 : Below w.heap.size w (w.drewN nq) := below_drew _ _ _
  replace u0 : (w.drewN nq).cell? ⟨t, 0, none⟩ = some (.pointer (some ⟨b, 0, none⟩)) := u0
  replace u1 : (w.drewN nq).cell? ⟨t, 1, none⟩ = some (.slice to' n tc) := u1
  obtain ⟨W1, hW1⟩ : ∃ W1, w.drewN nq = W1 := ⟨_, rfl⟩
  rw [hW1] at B1 u0 u1 ⊢
  clear hW1
  have hstep : ∃ W2, Below w.heap.size w W2 := ⟨_, B1⟩
  clear hstep
  by_cases hf : found = (n : Int)
  · subst hf
    go_upto_region 5 with fail
    obtain ⟨wr, hwr⟩ : ∃ wr, wr = W1 := ⟨_, rfl⟩
    rw [← hwr] at B1 ⊢
    have bel := B1
    clear hwr B1 u0 u1 CB
    have hbw := HB.out.below (bel.mono hil)
    have u0 := (HU.out.below bel).c0
    obtain ⟨g, cap, hcv, hbg, hghi, hatx⟩ := hbw.at (j := x) (by rw [HN.out]; exact hxl)
    obtain ⟨g', cap', hcv', _, _, haty⟩ := hbw.at (j := y) (by rw [HN.out]; exact hyl)
    rw [hcv] at hcv'
    injection hcv' with e1 e2 e3
    injection e1 with e1
    injection e1 with e1
    subst e1
    have c2 := hbw.c2
    rw [hcv, HN.out] at c2
    obtain ⟨cxo, cxc, hvx, _, _⟩ := (hbw.args x (by rw [HN.out]; exact hxl)).rd
    obtain ⟨cyo, cyc, hvy, _, _⟩ := (hbw.args y (by rw [HN.out]; exact hyl)).rd
    rw [HCX.out] at hatx hvx
    rw [HCY.out] at haty hvy
    obtain ⟨cxn, hcxn⟩ : ∃ k, cx.args.length = k := ⟨_, rfl⟩
    obtain ⟨cyn, hcyn⟩ : ∃ k, cy.args.length = k := ⟨_, rfl⟩
    rw [hcxn] at hvx
    rw [hcyn] at hvy
    have HVX := hide' hvx
    have HVY := hide' hvy
    obtain ⟨x0, x1, x2, x3, x4, x5, x6, x7, x8, x9, x10, x11⟩ := hatx
    obtain ⟨y0, y1, y2, y3, y4, y5, y6, y7, y8, y9, y10, y11⟩ := haty
    rw [hvx] at x3
    rw [hvy] at y3
    have hgw : g < wr.heap.size := Nat.lt_of_lt_of_le hghi hbw.hil
    have htw := (HU.out.below bel).old
    have hbw2 : b < wr.heap.size := Nat.lt_of_lt_of_le hbw.old hbw.hil
    have p1 : ¬ g = wr.heap.size := by omega
    have p2 : ¬ t = wr.heap.size := by omega
    have p3 : ¬ b = wr.heap.size := by omega
    have p4 : ¬ g = wr.heap.size + 1 := by omega
    have p5 : ¬ t = wr.heap.size + 1 := by omega
    have p6 : ¬ b = wr.heap.size + 1 := by omega
    clear hbw e2 e3 hvx hvy hcxn hcyn hcv
    go_cut [8, 9] (fun vx vy wx => ∃ X Y, vx = .pointer (some ⟨X, 0, none⟩) ∧ vy = .pointer (some ⟨Y, 0, none⟩) ∧ Hid' (Two wr wx X Y cx cy))
    case first =>
      go_region_held3 (fun w' => w'.cell? ⟨t, 0, none⟩ = some (.pointer (some ⟨b, 0, none⟩)) ∧ w'.cell? ⟨b, 2, none⟩ = some (.slice (some ⟨g, 0, none⟩) N cap) ∧ w'.cell? ⟨g, x * 12, none⟩ = some (.int .i64 cx.kind) ∧ w'.cell? ⟨g, x * 12 + 1, none⟩ = some (.int .i64 cx.con) ∧ w'.cell? ⟨g, x * 12 + 2, none⟩ = some (.slice none 0 0) ∧ w'.cell? ⟨g, x * 12 + 3, none⟩ = some (.slice cxo cxn cxc) ∧ w'.cell? ⟨g, x * 12 + 4, none⟩ = some (.bool false) ∧ w'.cell? ⟨g, x * 12 + 5, none⟩ = some (.int .i64 0) ∧ w'.cell? ⟨g, x * 12 + 6, none⟩ = some (.int .i64 cx.level) ∧ w'.cell? ⟨g, x * 12 + 7, none⟩ = some (.string ⟨#[]⟩) ∧ w'.cell? ⟨g, x * 12 + 8, none⟩ = some (.bool false) ∧ w'.cell? ⟨g, x * 12 + 9, none⟩ = some (.bool false) ∧ w'.cell? ⟨g, x * 12 + 10, none⟩ = some (.int .i64 cx.to) ∧ w'.cell? ⟨g, x * 12 + 11, none⟩ = some (.int .i64 0) ∧ w'.cell? ⟨g, y * 12, none⟩ = some (.int .i64 cy.kind) ∧ w'.cell? ⟨g, y * 12 + 1, none⟩ = some (.int .i64 cy.con) ∧ w'.cell? ⟨g, y * 12 + 2, none⟩ = some (.slice none 0 0) ∧ w'.cell? ⟨g, y * 12 + 3, none⟩ = some (.slice cyo cyn cyc) ∧ w'.cell? ⟨g, y * 12 + 4, none⟩ = some (.bool false) ∧ w'.cell? ⟨g, y * 12 + 5, none⟩ = some (.int .i64 0) ∧ w'.cell? ⟨g, y * 12 + 6, none⟩ = some (.int .i64 cy.level) ∧ w'.cell? ⟨g, y * 12 + 7, none⟩ = some (.string ⟨#[]⟩) ∧ w'.cell? ⟨g, y * 12 + 8, none⟩ = some (.bool false) ∧ w'.cell? ⟨g, y * 12 + 9, none⟩ = some (.bool false) ∧ w'.cell? ⟨g, y * 12 + 10, none⟩ = some (.int .i64 cy.to) ∧ w'.cell? ⟨g, y * 12 + 11, none⟩ = some (.int .i64 0)) (go_keep) (fail)
      · go_wp2_with fail
        go_meet
        exact ⟨_, _, rfl, rfl, ⟨two_a wr cx cy _ _ _ HVX.out HVY.out⟩⟩
      · go_wp2_with fail
        go_meet
        exact ⟨_, _, rfl, rfl, ⟨two_b wr cx cy _ _ _ HVX.out HVY.out⟩⟩
    case rest =>
      obtain ⟨X, Y, rfl, rfl, HT2⟩ := hcut
      clear x0 x1 x2 x3 x4 x5 x6 x7 x8 x9 x10 x11 y0 y1 y2 y3 y4 y5 y6 y7 y8 y9 y10 y11 c2 u0 p1 p2 p3 p4 p5 p6
      obtain ⟨x0, x1, x2, x3, x4, x5, x6, x7, x8, x9, x10, x11⟩ := HT2.out.hx
      obtain ⟨y0, y1, y2, y3, y4, y5, y6, y7, y8, y9, y10, y11⟩ := HT2.out.hy
      simp only [Nat.zero_add] at x0 x1 x2 x3 x4 x5 x6 x7 x8 x9 x10 x11 y0 y1 y2 y3 y4 y5 y6 y7 y8 y9 y10 y11
      rw [HVX.out] at x3
      rw [HVY.out] at y3
      have hX := HT2.out.x2
      have hY := HT2.out.y2
      have HBC := hide' (bel.trans (HT2.out.bel.mono bel.size))
      have FX := hide' (fun W => isFlexible_any cx W _ _ _ HVX.out)
      have FY := hide' (fun W => isFlexible_any cy W _ _ _ HVY.out)
      rw [hkx2] at FX
      rw [hky2] at FY
      unfold Tc.val at FX FY
      rw [HVX.out] at FX
      rw [HVY.out] at FY
      have FX2 := FX
      go_upto_region 15 with (first | (go_at_call 89; refine (FX.out _).mono ?_; clear FX; rintro e w5 ⟨rfl, b5⟩; (have hc5 := fun b o h => b5.cell (p := ⟨b, o, none⟩) h); (have hX5 := Nat.lt_of_lt_of_le hX b5.size); (have hY5 := Nat.lt_of_lt_of_le hY b5.size)) | (go_at_call 89; refine (FY.out _).mono ?_; clear FY; rintro e w6 ⟨rfl, b6⟩; (have hc6 := fun b o h => b6.cell (p := ⟨b, o, none⟩) h); (have hX6 := Nat.lt_of_lt_of_le hX5 b6.size)))
      have HB6 := hide' ((HBC.out.trans (b5.mono HBC.out.size)).trans (b6.mono (Nat.le_trans HBC.out.size b5.size)))
      go_wp2_with (first | (go_at_call 89; refine (FX2.out _).mono ?_; clear FX2; rintro e w7 ⟨rfl, b7⟩; (have HB7 := hide' (HB6.out.trans (b7.mono HB6.out.size)))) | (go_at_call 91; refine (HBEC.out _ HB7.out).mono ?_; clear HBEC; rintro e w8 ⟨rfl, hR⟩))
      go_end0
      exact ⟨rfl, hR⟩
  · have hf2 : (found != (n : Int)) = true := by simpa using hf
    obtain ⟨W3, hW3⟩ : ∃ W3, W1.alloc (.cells #[.int .i64 (x : Int), .int .i64 (y : Int)] 3) = W3 := ⟨_, rfl⟩
    have B3 : Below w.heap.size w W3 := by rw [← hW3]; exact B1.alloc B1.size _
    have S3 : W3.heap.size = W1.heap.size + 1 := by rw [← hW3]; simp
    have R3 := rd_new2 W1 (x : Int) (y : Int) 3
    rw [hW3] at R3
    have CB3 := hide' (CB.out W3 B3 (by rw [S3, Nat.add_sub_cancel]; exact R3) (by omega))
    rw [S3, Nat.add_sub_cancel] at CB3
    have HB3 := hide' B3
    have u0' := (HU.out.below B3).c0
    have hs1 := B1.size
    clear CB B3 R3 S3 hf
    go_upto_region 4 with (go_at_call 88; refine CB3.out.mono ?_; clear CB3; rintro e w4 ⟨rfl, h4⟩)
    have bel : Below w.heap.size w w4 := HB3.out.trans (h4.mono (Nat.le_succ_of_le hs1))
    have u1' := (HU.out.below bel).c1
    rw [HTV.out] at u1'
    clear u0' HB3 h4 u0 u1 B1 hW3
    go_upto_region 5 with fail
    obtain ⟨wr, hwr⟩ : ∃ wr, wr = w4 := ⟨_, rfl⟩
    rw [← hwr] at bel ⊢
    clear hwr
    have hbw := HB.out.below (bel.mono hil)
    have u0 := (HU.out.below bel).c0
    obtain ⟨g, cap, hcv, hbg, hghi, hatx⟩ := hbw.at (j := x) (by rw [HN.out]; exact hxl)
    obtain ⟨g', cap', hcv', _, _, haty⟩ := hbw.at (j := y) (by rw [HN.out]; exact hyl)
    rw [hcv] at hcv'
    injection hcv' with e1 e2 e3
    injection e1 with e1
    injection e1 with e1
    subst e1
    have c2 := hbw.c2
    rw [hcv, HN.out] at c2
    obtain ⟨cxo, cxc, hvx, _, _⟩ := (hbw.args x (by rw [HN.out]; exact hxl)).rd
    obtain ⟨cyo, cyc, hvy, _, _⟩ := (hbw.args y (by rw [HN.out]; exact hyl)).rd
    rw [HCX.out] at hatx hvx
    rw [HCY.out] at haty hvy
    obtain ⟨cxn, hcxn⟩ : ∃ k, cx.args.length = k := ⟨_, rfl⟩
    obtain ⟨cyn, hcyn⟩ : ∃ k, cy.args.length = k := ⟨_, rfl⟩
    rw [hcxn] at hvx
    rw [hcyn] at hvy
    have HVX := hide' hvx
    have HVY := hide' hvy
    obtain ⟨x0, x1, x2, x3, x4, x5, x6, x7, x8, x9, x10, x11⟩ := hatx
    obtain ⟨y0, y1, y2, y3, y4, y5, y6, y7, y8, y9, y10, y11⟩ := haty
    rw [hvx] at x3
    rw [hvy] at y3
    have hgw : g < wr.heap.size := Nat.lt_of_lt_of_le hghi hbw.hil
    have htw := (HU.out.below bel).old
    have hbw2 : b < wr.heap.size := Nat.lt_of_lt_of_le hbw.old hbw.hil
    have p1 : ¬ g = wr.heap.size := by omega
    have p2 : ¬ t = wr.heap.size := by omega
    have p3 : ¬ b = wr.heap.size := by omega
    have p4 : ¬ g = wr.heap.size + 1 := by omega
    have p5 : ¬ t = wr.heap.size + 1 := by omega
    have p6 : ¬ b = wr.heap.size + 1 := by omega
    clear hbw e2 e3 hvx hvy hcxn hcyn hcv
    go_cut [8, 9] (fun vx vy wx => ∃ X Y, vx = .pointer (some ⟨X, 0, none⟩) ∧ vy = .pointer (some ⟨Y, 0, none⟩) ∧ Hid' (Two wr wx X Y cx cy))
    case first =>
      go_region_held3 (fun w' => w'.cell? ⟨t, 0, none⟩ = some (.pointer (some ⟨b, 0, none⟩)) ∧ w'.cell? ⟨b, 2, none⟩ = some (.slice (some ⟨g, 0, none⟩) N cap) ∧ w'.cell? ⟨g, x * 12, none⟩ = some (.int .i64 cx.kind) ∧ w'.cell? ⟨g, x * 12 + 1, none⟩ = some (.int .i64 cx.con) ∧ w'.cell? ⟨g, x * 12 + 2, none⟩ = some (.slice none 0 0) ∧ w'.cell? ⟨g, x * 12 + 3, none⟩ = some (.slice cxo cxn cxc) ∧ w'.cell? ⟨g, x * 12 + 4, none⟩ = some (.bool false) ∧ w'.cell? ⟨g, x * 12 + 5, none⟩ = some (.int .i64 0) ∧ w'.cell? ⟨g, x * 12 + 6, none⟩ = some (.int .i64 cx.level) ∧ w'.cell? ⟨g, x * 12 + 7, none⟩ = some (.string ⟨#[]⟩) ∧ w'.cell? ⟨g, x * 12 + 8, none⟩ = some (.bool false) ∧ w'.cell? ⟨g, x * 12 + 9, none⟩ = some (.bool false) ∧ w'.cell? ⟨g, x * 12 + 10, none⟩ = some (.int .i64 cx.to) ∧ w'.cell? ⟨g, x * 12 + 11, none⟩ = some (.int .i64 0) ∧ w'.cell? ⟨g, y * 12, none⟩ = some (.int .i64 cy.kind) ∧ w'.cell? ⟨g, y * 12 + 1, none⟩ = some (.int .i64 cy.con) ∧ w'.cell? ⟨g, y * 12 + 2, none⟩ = some (.slice none 0 0) ∧ w'.cell? ⟨g, y * 12 + 3, none⟩ = some (.slice cyo cyn cyc) ∧ w'.cell? ⟨g, y * 12 + 4, none⟩ = some (.bool false) ∧ w'.cell? ⟨g, y * 12 + 5, none⟩ = some (.int .i64 0) ∧ w'.cell? ⟨g, y * 12 + 6, none⟩ = some (.int .i64 cy.level) ∧ w'.cell? ⟨g, y * 12 + 7, none⟩ = some (.string ⟨#[]⟩) ∧ w'.cell? ⟨g, y * 12 + 8, none⟩ = some (.bool false) ∧ w'.cell? ⟨g, y * 12 + 9, none⟩ = some (.bool false) ∧ w'.cell? ⟨g, y * 12 + 10, none⟩ = some (.int .i64 cy.to) ∧ w'.cell? ⟨g, y * 12 + 11, none⟩ = some (.int .i64 0)) (go_keep) (fail)
      · go_wp2_with fail
        go_meet
        exact ⟨_, _, rfl, rfl, ⟨two_a wr cx cy _ _ _ HVX.out HVY.out⟩⟩
      · go_wp2_with fail
        go_meet
        exact ⟨_, _, rfl, rfl, ⟨two_b wr cx cy _ _ _ HVX.out HVY.out⟩⟩
    case rest =>
      obtain ⟨X, Y, rfl, rfl, HT2⟩ := hcut
      clear x0 x1 x2 x3 x4 x5 x6 x7 x8 x9 x10 x11 y0 y1 y2 y3 y4 y5 y6 y7 y8 y9 y10 y11 c2 u0 p1 p2 p3 p4 p5 p6
      obtain ⟨x0, x1, x2, x3, x4, x5, x6, x7, x8, x9, x10, x11⟩ := HT2.out.hx
      obtain ⟨y0, y1, y2, y3, y4, y5, y6, y7, y8, y9, y10, y11⟩ := HT2.out.hy
      simp only [Nat.zero_add] at x0 x1 x2 x3 x4 x5 x6 x7 x8 x9 x10 x11 y0 y1 y2 y3 y4 y5 y6 y7 y8 y9 y10 y11
      rw [HVX.out] at x3
      rw [HVY.out] at y3
      have hX := HT2.out.x2
      have hY := HT2.out.y2
      have HBC := hide' (bel.trans (HT2.out.bel.mono bel.size))
      have FX := hide' (fun W => isFlexible_any cx W _ _ _ HVX.out)
      have FY := hide' (fun W => isFlexible_any cy W _ _ _ HVY.out)
      rw [hkx2] at FX
      rw [hky2] at FY
      unfold Tc.val at FX FY
      rw [HVX.out] at FX
      rw [HVY.out] at FY
      have FX2 := FX
      go_upto_region 15 with (first | (go_at_call 89; refine (FX.out _).mono ?_; clear FX; rintro e w5 ⟨rfl, b5⟩; (have hc5 := fun b o h => b5.cell (p := ⟨b, o, none⟩) h); (have hX5 := Nat.lt_of_lt_of_le hX b5.size); (have hY5 := Nat.lt_of_lt_of_le hY b5.size)) | (go_at_call 89; refine (FY.out _).mono ?_; clear FY; rintro e w6 ⟨rfl, b6⟩; (have hc6 := fun b o h => b6.cell (p := ⟨b, o, none⟩) h); (have hX6 := Nat.lt_of_lt_of_le hX5 b6.size)))
      have HB6 := hide' ((HBC.out.trans (b5.mono HBC.out.size)).trans (b6.mono (Nat.le_trans HBC.out.size b5.size)))
      go_wp2_with (first | (go_at_call 89; refine (FX2.out _).mono ?_; clear FX2; rintro e w7 ⟨rfl, b7⟩; (have HB7 := hide' (HB6.out.trans (b7.mono HB6.out.size)))) | (go_at_call 91; refine (HBEC.out _ HB7.out).mono ?_; clear HBEC; rintro e w8 ⟨rfl, hR⟩))
      go_end0
      exact ⟨rfl, hR⟩
end Go.Proofs.YtlijfkmcaccflaaGreatDoor
