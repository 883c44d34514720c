/- Unifiers: unify. -/
import Derived.Test.YtlijfkmcaccflaaGreatDoorProg
import Derived.Test.YtlijfkmcaccflaaGreatDoorTy12
import Derived.WalkKit
import Derived.ProofKit
import Derived.OpenShut
import Derived.Below
import Derived.WalkLawsBesides
import Derived.OwnWalk
import Derived.BigQuiet
import Derived.Deep.QuietTactic
import Derived.Deep.MidRow
import Derived.Deep.RegionHeld
import Derived.Deep.RegionHeld3
import Derived.Deep.DeepCutAuto
import Derived.WalkSmall
namespace Go.Proofs.YtlijfkmcaccflaaGreatDoor
open Go.ChangeShapes Go.WideShapes Go.ChangeAt Go.RowKit

theorem nums_two {lo hi : Nat} {no : Option Nat} {w : World} {v : Value} {a b : Int} {o : Option Addr} {n c : Nat} (h : Nums lo hi no w v [a, b]) (hv : v = .slice o n c) : ∃ g, o = some ⟨g, 0, none⟩ ∧ n = 2 ∧ g < hi ∧ no ≠ some g ∧ w.cell? ⟨g, 0, none⟩ = some (.int .i64 a) ∧ w.cell? ⟨g, 1, none⟩ = some (.int .i64 b) := by
  obtain ⟨ao, cap, h1, _, _, hc⟩ := h
  rw [hv] at h1
  injection h1 with e1 e2 e3
  obtain ⟨g, eg, _, hl, hn, h0⟩ := hc 0 (by simp)
  obtain ⟨g', eg', _, _, _, h2⟩ := hc 1 (by simp)
  rw [eg] at eg'
  injection eg' with eg'
  injection eg' with eg'
  subst eg'
  exact ⟨g, e1.trans eg, e2, hl, hn, h0, h2⟩

set_option maxRecDepth 100000 in
set_option maxHeartbeats 32000000 in
theorem unify_arrows (t b hi : Nat) (cv : Value) (cs cs1 cs2 : List Tc) (tv : Value) (n n1 n2 s q d d2 : Nat) (found : Int) (w : World) (a0 a1 c0 c1 : Nat) (hb : Bk b hi w cv cs) (hu : Un t b w tv n) (hht : hi ≤ t) (hs : Good cs s) (hq : Good cs q) (hne : nw cs s ≠ nw cs q) (hfn : found ≠ (n : Int))
    (hox : Ok cs d (nw cs s : Nat)) (hoy : Ok cs d (nw cs q : Nat)) (hsx : siz cs d (nw cs s : Nat) ≤ 2048) (hsy : siz cs d (nw cs q : Nat) ≤ 2048) (hkx : kindA cs (nw cs s) = 4) (hky : kindA cs (nw cs q) = 4) (hcon : (cs.getD (nw cs s) Tc.zero).con = (cs.getD (nw cs q) Tc.zero).con) (hax : argsA cs (nw cs s) = [(a0 : Int), (a1 : Int)]) (hay : argsA cs (nw cs q) = [(c0 : Int), (c1 : Int)])
    (hU1 : ∀ W, Below w.heap.size w W → Calls Tryz.prog 73 #[.pointer (some ⟨t, 0, none⟩), .int .i64 (a0 : Int), .int .i64 (c0 : Int), .int .i64 (n : Int)] W fun e w' => e = .returned (.tuple #[]) ∧ Bk b hi w' cv cs1 ∧ (∃ tv1, Un t b w' tv1 n1 ∧ Urel t cv tv tv1 W w'))
    (hU2 : ∀ W tv1, Bk b hi W cv cs1 → Un t b W tv1 n1 → Calls Tryz.prog 73 #[.pointer (some ⟨t, 0, none⟩), .int .i64 (a1 : Int), .int .i64 (c1 : Int), .int .i64 (n : Int)] W fun e w' => e = .returned (.tuple #[]) ∧ Bk b hi w' cv cs2 ∧ (∃ tv2, Un t b w' tv2 n2 ∧ Urel t cv tv1 tv2 W w'))
    (hn2 : (n : Int) ≠ (n2 : Int)) (hox2 : Ok cs2 d2 (nw cs s : Nat)) (hsx2 : siz cs2 d2 (nw cs s : Nat) ≤ 2048) :
    Calls Tryz.prog 73 #[.pointer (some ⟨t, 0, none⟩), .int .i64 (s : Int), .int .i64 (q : Int), .int .i64 found] w fun e w' => e = .returned (.tuple #[]) ∧ Bk b hi w' cv cs2 ∧ (∃ tv2, Un t b w' tv2 n2 ∧ Urel t cv tv tv2 w w') := by
  have HB := hide' hb
  have HU := hide' hu
  have hil := hb.hil
  have u0 := hu.c0
  have u1 := hu.c1
  obtain ⟨zs, hzs⟩ := hu.row
  obtain ⟨to', tc, htv⟩ := own_some hzs
  rw [htv] at u1
  have HTV := hide' htv
  have hn10 := hu.sm
  have CN := hide' (fun (z : Nat) (hz : z = s ∨ z = q) k => now_of b hi cv cs z (w.drewN k) (hb.below (below_drew _ _ _)) (by rcases hz with rfl | rfl; exact hs; exact hq))
  obtain ⟨x, hx⟩ : ∃ x, nw cs s = x := ⟨_, rfl⟩
  obtain ⟨y, hy⟩ : ∃ y, nw cs q = y := ⟨_, rfl⟩
  have hxl := hs.2.1
  have hyl := hq.2.1
  rw [hx] at hxl hne hox hsx hkx hax hcon hox2 hsx2
  rw [hy] at hyl hne hoy hsy hky hay hcon
  have hxy : ((x : Int) == (y : Int)) = false := by simp; omega
  have CB := hide' (fun W (hW : Below w.heap.size w W) (hr : Rd W (.slice (some ⟨W.heap.size - 1, 0, none⟩) 2 2) [(x : Int), (y : Int)]) (hpos : 0 < W.heap.size) => bound_ok t b hi cv cs tv n d _ [(x : Int), (y : Int)] W (HB.out.below (hW.mono hil)) (HU.out.below hW) hr (fun g hg => own1_lt (by omega) hg) (fun a ha => by
    rcases List.mem_cons.1 ha with rfl | ha
    · exact hox
    · rw [List.mem_singleton.1 ha]; exact hoy) (fun a ha => by
    rcases List.mem_cons.1 ha with rfl | ha
    · exact hsx
    · rw [List.mem_singleton.1 ha]; exact hsy))
  obtain ⟨N, hN⟩ : ∃ N, cs.length = N := ⟨_, rfl⟩
  have HN := hide' hN
  have hsm := hb.sm
  rw [hN] at hxl hyl hsm
  obtain ⟨cx, hcx⟩ : ∃ c, cs.getD x Tc.zero = c := ⟨_, rfl⟩
  obtain ⟨cy, hcy⟩ : ∃ c, cs.getD y Tc.zero = c := ⟨_, rfl⟩
  have HCX := hide' hcx
  have HCY := hide' hcy
  have HU1 := hide' hU1
  have HU2 := hide' hU2
  have hkx2 : (cx.kind == 1) = false := by rw [← hcx, show (cs.getD x Tc.zero).kind = 4 from hkx]; rfl
  have hky2 : (cy.kind == 1) = false := by rw [← hcy, show (cs.getD y Tc.zero).kind = 4 from hky]; rfl
  have hk4 : Hid' (cx.kind = cy.kind) := ⟨by rw [← hcx, ← hcy]; exact hkx.trans hky.symm⟩
  have hc4 : Hid' (cx.con = cy.con) := ⟨by rw [← hcx, ← hcy]; exact hcon⟩
  have HAX : Hid' (cx.args = [(a0 : Int), (a1 : Int)]) := ⟨by rw [← hcx]; exact hax⟩
  have HAY : Hid' (cy.args = [(c0 : Int), (c1 : Int)]) := ⟨by rw [← hcy]; exact hay⟩
  have HO2 := hide' hox2
  have HS2 := hide' hsx2
  have hn2' : ((n : Int) != (n2 : Int)) = true := by simpa using hn2
  clear hb hu hU1 hU2 hzs htv hs hq hne hox hoy hsx hsy hkx hky hcon hax hay hN hcx hcy hox2 hsx2 hn2
  go_enter Tryz.func73, Tryz.ntmps73
  go_upto_region 0 with fail
  go_quiet ((go_at_call 48; exact Calls.quiet_of_same (CN.out _ (by first | exact .inl rfl | exact .inr rfl) _)))
  try rw [hx]
  try rw [hy]
  clear CN hx hy
  have B1 : Below w.heap.size w (w.drewN nq) := below_drew _ _ _
  replace u0 : (w.drewN nq).cell? ⟨t, 0, none⟩ = some (.pointer (some ⟨b, 0, none⟩)) := u0
  replace u1 : (w.drewN nq).cell? ⟨t, 1, none⟩ = some (.slice to' n tc) := u1
  obtain ⟨W1, hW1⟩ : ∃ W1, w.drewN nq = W1 := ⟨_, rfl⟩
  rw [hW1] at B1 u0 u1 ⊢
  clear hW1
  have hstep : ∃ W2, Below w.heap.size w W2 := ⟨_, B1⟩
  clear hstep
  by_cases hf : found = (n : Int)
  · exact absurd hf hfn
  · have hf2 : (found != (n : Int)) = true := by simpa using hf
    obtain ⟨W3, hW3⟩ : ∃ W3, W1.alloc (.cells #[.int .i64 (x : Int), .int .i64 (y : Int)] 3) = W3 := ⟨_, rfl⟩
    have B3 : Below w.heap.size w W3 := by rw [← hW3]; exact B1.alloc B1.size _
    have S3 : W3.heap.size = W1.heap.size + 1 := by rw [← hW3]; simp
    have R3 := rd_new2 W1 (x : Int) (y : Int) 3
    rw [hW3] at R3
    have CB3 := hide' (CB.out W3 B3 (by rw [S3, Nat.add_sub_cancel]; exact R3) (by omega))
    rw [S3, Nat.add_sub_cancel] at CB3
    have HB3 := hide' B3
    have u0' := (HU.out.below B3).c0
    have hs1 := B1.size
    clear CB B3 R3 S3 hf
    go_upto_region 4 with (go_at_call 88; refine CB3.out.mono ?_; clear CB3; rintro e w4 ⟨rfl, h4⟩)
    have bel : Below w.heap.size w w4 := HB3.out.trans (h4.mono (Nat.le_succ_of_le hs1))
    have u1' := (HU.out.below bel).c1
    rw [HTV.out] at u1'
    clear u0' HB3 h4 u0 u1 B1 hW3
    go_upto_region 5 with fail
    obtain ⟨wr, hwr⟩ : ∃ wr, wr = w4 := ⟨_, rfl⟩
    rw [← hwr] at bel ⊢
    clear hwr
    have hbw := HB.out.below (bel.mono hil)
    have u0 := (HU.out.below bel).c0
    obtain ⟨g, cap, hcv, hbg, hghi, hatx⟩ := hbw.at (j := x) (by rw [HN.out]; exact hxl)
    obtain ⟨g', cap', hcv', _, _, haty⟩ := hbw.at (j := y) (by rw [HN.out]; exact hyl)
    rw [hcv] at hcv'
    injection hcv' with e1 e2 e3
    injection e1 with e1
    injection e1 with e1
    subst e1
    have c2 := hbw.c2
    rw [hcv, HN.out] at c2
    obtain ⟨cxo, cxc, hvx, _, _⟩ := (hbw.args x (by rw [HN.out]; exact hxl)).rd
    obtain ⟨cyo, cyc, hvy, _, _⟩ := (hbw.args y (by rw [HN.out]; exact hyl)).rd
    rw [HCX.out] at hatx hvx
    rw [HCY.out] at haty hvy
    obtain ⟨cxn, hcxn⟩ : ∃ k, cx.args.length = k := ⟨_, rfl⟩
    obtain ⟨cyn, hcyn⟩ : ∃ k, cy.args.length = k := ⟨_, rfl⟩
    rw [hcxn] at hvx
    rw [hcyn] at hvy
    have HVX := hide' hvx
    have HVY := hide' hvy
    obtain ⟨x0, x1, x2, x3, x4, x5, x6, x7, x8, x9, x10, x11⟩ := hatx
    obtain ⟨y0, y1, y2, y3, y4, y5, y6, y7, y8, y9, y10, y11⟩ := haty
    rw [hvx] at x3
    rw [hvy] at y3
    have hgw : g < wr.heap.size := Nat.lt_of_lt_of_le hghi hbw.hil
    have htw := (HU.out.below bel).old
    have hbw2 : b < wr.heap.size := Nat.lt_of_lt_of_le hbw.old hbw.hil
    have p1 : ¬ g = wr.heap.size := by omega
    have p2 : ¬ t = wr.heap.size := by omega
    have p3 : ¬ b = wr.heap.size := by omega
    have p4 : ¬ g = wr.heap.size + 1 := by omega
    have p5 : ¬ t = wr.heap.size + 1 := by omega
    have p6 : ¬ b = wr.heap.size + 1 := by omega
    clear hbw e2 e3 hvx hvy hcxn hcyn hcv
    go_cut [8, 9] (fun vx vy wx => ∃ X Y, vx = .pointer (some ⟨X, 0, none⟩) ∧ vy = .pointer (some ⟨Y, 0, none⟩) ∧ Hid' (Two wr wx X Y cx cy))
    case first =>
      go_region_held3 (fun w' => w'.cell? ⟨t, 0, none⟩ = some (.pointer (some ⟨b, 0, none⟩)) ∧ w'.cell? ⟨b, 2, none⟩ = some (.slice (some ⟨g, 0, none⟩) N cap) ∧ w'.cell? ⟨g, x * 12, none⟩ = some (.int .i64 cx.kind) ∧ w'.cell? ⟨g, x * 12 + 1, none⟩ = some (.int .i64 cx.con) ∧ w'.cell? ⟨g, x * 12 + 2, none⟩ = some (.slice none 0 0) ∧ w'.cell? ⟨g, x * 12 + 3, none⟩ = some (.slice cxo cxn cxc) ∧ w'.cell? ⟨g, x * 12 + 4, none⟩ = some (.bool false) ∧ w'.cell? ⟨g, x * 12 + 5, none⟩ = some (.int .i64 0) ∧ w'.cell? ⟨g, x * 12 + 6, none⟩ = some (.int .i64 cx.level) ∧ w'.cell? ⟨g, x * 12 + 7, none⟩ = some (.string ⟨#[]⟩) ∧ w'.cell? ⟨g, x * 12 + 8, none⟩ = some (.bool false) ∧ w'.cell? ⟨g, x * 12 + 9, none⟩ = some (.bool false) ∧ w'.cell? ⟨g, x * 12 + 10, none⟩ = some (.int .i64 cx.to) ∧ w'.cell? ⟨g, x * 12 + 11, none⟩ = some (.int .i64 0) ∧ w'.cell? ⟨g, y * 12, none⟩ = some (.int .i64 cy.kind) ∧ w'.cell? ⟨g, y * 12 + 1, none⟩ = some (.int .i64 cy.con) ∧ w'.cell? ⟨g, y * 12 + 2, none⟩ = some (.slice none 0 0) ∧ w'.cell? ⟨g, y * 12 + 3, none⟩ = some (.slice cyo cyn cyc) ∧ w'.cell? ⟨g, y * 12 + 4, none⟩ = some (.bool false) ∧ w'.cell? ⟨g, y * 12 + 5, none⟩ = some (.int .i64 0) ∧ w'.cell? ⟨g, y * 12 + 6, none⟩ = some (.int .i64 cy.level) ∧ w'.cell? ⟨g, y * 12 + 7, none⟩ = some (.string ⟨#[]⟩) ∧ w'.cell? ⟨g, y * 12 + 8, none⟩ = some (.bool false) ∧ w'.cell? ⟨g, y * 12 + 9, none⟩ = some (.bool false) ∧ w'.cell? ⟨g, y * 12 + 10, none⟩ = some (.int .i64 cy.to) ∧ w'.cell? ⟨g, y * 12 + 11, none⟩ = some (.int .i64 0)) (go_keep) (fail)
      · go_wp2_with fail
        go_meet
        exact ⟨_, _, rfl, rfl, ⟨two_a wr cx cy _ _ _ HVX.out HVY.out⟩⟩
      · go_wp2_with fail
        go_meet
        exact ⟨_, _, rfl, rfl, ⟨two_b wr cx cy _ _ _ HVX.out HVY.out⟩⟩
    case rest =>
      obtain ⟨X, Y, rfl, rfl, HT2⟩ := hcut
      clear x0 x1 x2 x3 x4 x5 x6 x7 x8 x9 x10 x11 y0 y1 y2 y3 y4 y5 y6 y7 y8 y9 y10 y11 c2 u0 p1 p2 p3 p4 p5 p6
      obtain ⟨x0, x1, x2, x3, x4, x5, x6, x7, x8, x9, x10, x11⟩ := HT2.out.hx
      obtain ⟨y0, y1, y2, y3, y4, y5, y6, y7, y8, y9, y10, y11⟩ := HT2.out.hy
      simp only [Nat.zero_add] at x0 x1 x2 x3 x4 x5 x6 x7 x8 x9 x10 x11 y0 y1 y2 y3 y4 y5 y6 y7 y8 y9 y10 y11
      rw [HVX.out] at x3
      rw [HVY.out] at y3
      have hX := HT2.out.x2
      have hY := HT2.out.y2
      have HBC := hide' (bel.trans (HT2.out.bel.mono bel.size))
      have FX := hide' (fun W => isFlexible_any cx W _ _ _ HVX.out)
      have FY := hide' (fun W => isFlexible_any cy W _ _ _ HVY.out)
      rw [hkx2] at FX
      rw [hky2] at FY
      unfold Tc.val at FX FY
      rw [HVX.out] at FX
      rw [HVY.out] at FY
      have FX2 := FX
      have FX3 := FX
      have FY3 := FY
      have k4 : (cx.kind != cy.kind) = false := by rw [hk4.out]; simp
      have k5 : (cx.con != cy.con) = false := by rw [hc4.out]; simp
      go_upto_region 15 with (go_at_call 89; refine (FX.out _).mono ?_; clear FX; rintro e w5 ⟨rfl, b5⟩; (have hc5 := fun b o h => b5.cell (p := ⟨b, o, none⟩) h); (have hX5 := Nat.lt_of_lt_of_le hX b5.size); (have hY5 := Nat.lt_of_lt_of_le hY b5.size))
      go_upto_region 17 with (go_at_call 89; refine (FX2.out _).mono ?_; clear FX2; rintro e w6 ⟨rfl, b6⟩; (have hc6 := fun b o h => b6.cell (p := ⟨b, o, none⟩) h); (have hX6 := Nat.lt_of_lt_of_le hX5 b6.size); (have hY6 := Nat.lt_of_lt_of_le hY5 b6.size))
      go_upto_region 19 with (go_at_call 89; refine (FY.out _).mono ?_; clear FY; rintro e w7 ⟨rfl, b7⟩)
      have B7 := ((HBC.out.trans (b5.mono HBC.out.size)).trans (b6.mono (Nat.le_trans HBC.out.size b5.size))).trans (b7.mono (Nat.le_trans HBC.out.size (Nat.le_trans b5.size b6.size)))
      have X7 := ((HT2.out.hx.below b5 hX).below b6 hX5).below b7 hX6
      have Y7 := ((HT2.out.hy.below b5 hY).below b6 hY5).below b7 hY6
      have hX7 := Nat.lt_of_lt_of_le hX6 b7.size
      have hY7 := Nat.lt_of_lt_of_le hY6 b7.size
      have hX1 : w.heap.size ≤ X := Nat.le_trans bel.size HT2.out.x1
      have hY1 : w.heap.size ≤ Y := Nat.le_trans bel.size HT2.out.y1
      have HB7 := hide' B7
      have HX7 := hide' X7
      have HY7 := hide' Y7
      clear x0 x1 x2 x3 x4 x5 x6 x7 x8 x9 x10 x11 y0 y1 y2 y3 y4 y5 y6 y7 y8 y9 y10 y11 hc5 hc6 b5 b6 b7 hX hY hX5 hX6 hY5 hY6 B7 HBC bel
      obtain ⟨x0, x1, x2, x3, x4, x5, x6, x7, x8, x9, x10, x11⟩ := X7
      obtain ⟨y0, y1, y2, y3, y4, y5, y6, y7, y8, y9, y10, y11⟩ := Y7
      simp only [Nat.zero_add] at x0 x1 x2 x3 x4 x5 x6 x7 x8 x9 x10 x11 y0 y1 y2 y3 y4 y5 y6 y7 y8 y9 y10 y11
      rw [HVX.out] at x3
      rw [HVY.out] at y3
      have CE := hide' (equalS_nil w7)
      go_upto_region 6 with (go_at_call 93; refine CE.out.mono ?_; clear CE; rintro e w8 ⟨rfl, h8⟩; replace h8 := h8.symm; subst h8)
      have NX7 := (HB.out.below (HB7.out.mono hil)).args x (by rw [HN.out]; exact hxl)
      have NY7 := (HB.out.below (HB7.out.mono hil)).args y (by rw [HN.out]; exact hyl)
      rw [HCX.out, HAX.out] at NX7
      rw [HCY.out, HAY.out] at NY7
      obtain ⟨ga, ea, en, hgal, hgan, ga0, ga1⟩ := nums_two NX7 HVX.out
      obtain ⟨gb, eb, em, hgbl, hgbn, gb0, gb1⟩ := nums_two NY7 HVY.out
      subst ea en eb em
      have hxv : cv.ownBlock ≠ some Y := fun e => by have := HB.out.rhi Y e; omega
      have hty : Y ≠ t := by have := HU.out.old; omega
      have hgt : ga ≠ t := by omega
      have hgt2 : gb ≠ t := by omega
      have hvy : tv.ownBlock ≠ some Y := fun e => by have := HU.out.urel Y e; omega
      have hva : tv.ownBlock ≠ some ga := fun e => by
        obtain ⟨zs, hzs⟩ := HU.out.row
        have := (hzs.lt ga e).1
        omega
      have hvb : tv.ownBlock ≠ some gb := fun e => by
        obtain ⟨zs, hzs⟩ := HU.out.row
        have := (hzs.lt gb e).1
        omega
      have hs7 := HB7.out.size
      have HKE : Hid' (∀ W tv', Urel t cv tv tv' w7 W → W.cell? ⟨ga, 1, none⟩ = some (.int .i64 (a1 : Int)) ∧ W.cell? ⟨gb, 1, none⟩ = some (.int .i64 (c1 : Int)) ∧ W.cell? ⟨Y, 3, none⟩ = some (.slice (some ⟨gb, 0, none⟩) 2 cyc)) := ⟨fun W tv' hU => ⟨(cell_of_block (a := ⟨ga, 1, none⟩) (hU.rest ga (by omega) hgt hgan hva)).trans ga1, (cell_of_block (a := ⟨gb, 1, none⟩) (hU.rest gb (by omega) hgt2 hgbn hvb)).trans gb1, (cell_of_block (a := ⟨Y, 3, none⟩) (hU.rest Y hY7 hty hxv hvy)).trans y3⟩⟩
      clear NX7 NY7 x0 x1 x2 x4 x5 x6 x7 x8 x9 x10 x11 y0 y1 y2 y4 y5 y6 y7 y8 y9 y10 y11 hxv hty hgt hgt2 hvy hva hvb hgan hgbn
      go_upto_region 7 with fail
      go_loopw [68] (fun v wr => (v = .int .i64 0 ∧ wr = w7) ∨ (v = .int .i64 1 ∧ Hid' (Bk b hi wr cv cs1 ∧ ∃ tv1, Un t b wr tv1 n1 ∧ Urel t cv tv tv1 w7 wr)) ∨ (v = .int .i64 2 ∧ Hid' (Bk b hi wr cv cs2 ∧ ∃ tv2, Un t b wr tv2 n2 ∧ Urel t cv tv tv2 w7 wr))) (fun v _ => 2 - (intOf v).toNat)
      case atStart => exact .inl ⟨rfl, rfl⟩
      case round =>
        rcases hrel with ⟨rfl, hw⟩ | ⟨rfl, HI⟩ | ⟨rfl, HI⟩
        · have C1 := hide' (HU1.out w7 HB7.out)
          obtain rfl : w7 = _ := hw.symm
          go_wp2_with (go_at_call 73; refine C1.out.mono ?_; clear C1; rintro e w9 ⟨rfl, hI⟩)
          go_roundw
          case rel => exact .inr (.inl ⟨by go_num, ⟨hI⟩⟩)
          case measure => simp [intOf]
        · obtain ⟨hB1, tv1, hUn1, hUr1⟩ := HI.out
          obtain ⟨f1, f2, f3⟩ := HKE.out _ _ hUr1
          have C2 := hide' (HU2.out _ tv1 hB1 hUn1)
          have HR1 := hide' hUr1
          clear hB1 hUn1 hUr1 ga0 ga1 gb0 gb1 x3 y3
          go_wp2_with (go_at_call 73; refine C2.out.mono ?_; clear C2; rintro e w9 ⟨rfl, hB2, tv2, hUn2, hUr2⟩)
          go_roundw
          case rel => exact .inr (.inr ⟨by go_num, ⟨hB2, tv2, hUn2, HR1.out.trans hUr2⟩⟩)
          case measure => simp [intOf]
        · obtain ⟨hB2, tv2, hUn2, hUr2⟩ := HI.out
          obtain ⟨zs, hzs⟩ := hUn2.row
          obtain ⟨to2, tc2, htv2⟩ := own_some hzs
          have u1 := hUn2.c1
          rw [htv2] at u1
          obtain ⟨W3, hW3⟩ : ∃ W3, wr.alloc (.cells #[.int .i64 (x : Int)] 3) = W3 := ⟨_, rfl⟩
          have B3 : Below wr.heap.size wr W3 := by rw [← hW3]; exact (Below.refl _ _).alloc (Nat.le_refl _) _
          have S3 : wr.heap.size < W3.heap.size := by rw [← hW3]; simp
          have R3 := rd_new1 wr (x : Int) 3
          rw [hW3] at R3
          have CB3 := hide' (bound_ok t b hi cv cs2 tv2 n2 d2 _ [(x : Int)] W3 (hB2.below (B3.mono hB2.hil)) (hUn2.below B3) R3 (fun g hg => own1_lt S3 hg) (fun a ha => by rw [List.mem_singleton.1 ha]; exact HO2.out) (fun a ha => by rw [List.mem_singleton.1 ha]; exact HS2.out))
          have HB3 := hide' B3
          have hsm2 := hUn2.sm
          have HBK2 := hide' hB2
          have HUN2 := hide' hUn2
          have HUR2 := hide' hUr2
          clear hzs htv2 R3 S3 B3 hB2 hUn2 hUr2 ga0 ga1 gb0 gb1 x3 y3
          go_wp2_with (go_at_call 88; refine CB3.out.mono ?_; clear CB3; rintro e w10 ⟨rfl, h10⟩)
          go_end0
          have B10 : Below wr.heap.size wr w10 := HB3.out.trans (h10.mono HB3.out.size)
          exact ⟨rfl, HBK2.out.below (B10.mono HBK2.out.hil), tv2, HUN2.out.below B10, (Urel.of HB7.out).trans (HUR2.out.trans (Urel.of B10))⟩
end Go.Proofs.YtlijfkmcaccflaaGreatDoor
