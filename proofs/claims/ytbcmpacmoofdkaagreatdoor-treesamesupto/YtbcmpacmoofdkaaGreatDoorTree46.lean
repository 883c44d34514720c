/- Check: a node by itself, and all below a root. -/
import Derived.Test.YtbcmpacmoofdkaaGreatDoorProg
import Derived.Test.YtbcmpacmoofdkaaGreatDoorTree42
import Derived.Test.YtbcmpacmoofdkaaGreatDoorTree43
import Derived.WalkKit
import Derived.ProofKit
import Derived.OpenShut
import Derived.Below
import Derived.WalkLawsBesides
import Derived.OwnWalk
import Derived.BigQuiet
import Derived.Deep.MidRow
import Derived.Deep.RegionHeld
import Derived.Deep.RegionHeld3
import Derived.WalkSmall
import Derived.Deep.DeepCutAuto
import Derived.Test.YtbcmpacmoofdkaaGreatDoorTree39
import Derived.Test.YtbcmpacmoofdkaaGreatDoorTree31
namespace Go.Proofs.YtbcmpacmoofdkaaGreatDoor
open Go.ChangeShapes Go.WideShapes Go.ChangeAt Go.RowKit

theorem rdN_mono {B B' : Nat} {w : World} {v : Value} {l : List Nod} (h : RdN B w v l) (hb : B ≤ B') : RdN B' w v l := by
  obtain ⟨ao, cap, hv, hm, hc⟩ := h
  refine ⟨ao, cap, hv, hm, fun j hj => ?_⟩
  obtain ⟨g, o, pv, kv, ha, hg, hx⟩ := hc j hj
  refine ⟨g, o, pv, kv, ha, by omega, ⟨hx.c0, hx.c1, hx.c2, hx.c3, hx.c4, hx.c5, ?_, rdI_mono hx.rk hb⟩⟩
  obtain ⟨ao2, c2, h9, h10, h11⟩ := hx.rp
  exact ⟨ao2, c2, h9, h10, fun i hi => by
    obtain ⟨a, h12, h13, h14⟩ := h11 i hi
    exact ⟨a, h12, by omega, h14⟩⟩
theorem rdPt_mono {B B' : Nat} {w : World} {v : Value} {l : List (Int × Int × Int)} (h : RdPt B w v l) (hb : B ≤ B') : RdPt B' w v l := by
  obtain ⟨ao, cap, hv, hm, hc⟩ := h
  refine ⟨ao, cap, hv, hm, fun j hj => ?_⟩
  obtain ⟨g, o, ha, hg, hx⟩ := hc j hj
  exact ⟨g, o, ha, by omega, hx⟩
theorem rdPt_below {B : Nat} {w w' : World} {v : Value} {l : List (Int × Int × Int)} (h : RdPt B w v l) (b : Below B w w') : RdPt B w' v l := by
  obtain ⟨ao, cap, hv, hm, hc⟩ := h
  refine ⟨ao, cap, hv, hm, fun j hj => ?_⟩
  obtain ⟨g, o, ha, hg, h0, h1, h2⟩ := hc j hj
  exact ⟨g, o, ha, hg, (b.cell (p := ⟨g, _, none⟩) hg).trans h0, (b.cell (p := ⟨g, _, none⟩) hg).trans h1, (b.cell (p := ⟨g, _, none⟩) hg).trans h2⟩
set_option maxRecDepth 100000 in
set_option maxHeartbeats 16000000 in
theorem sound_of (v : Value) (l : List Nod) (i : Nat) (ps : List (Int × Int × Int)) (w : World) (hv : RdN w.heap.size w v l) (hc : NCap w v l) (hi : i < l.length) (fit : Int → Int → Bool)
    (hlow : ∀ j, j < (l.getD i Nod.zero).kids.length → 0 ≤ (l.getD i Nod.zero).kids.getD j 0 ∧ (l.getD i Nod.zero).kids.getD j 0 < (i : Int))
    (hP : ∀ W, Calls Tryz.prog 24 #[.int .i64 (l.getD i Nod.zero).kind] W fun e w' => ∃ po n pc, e = .returned (.tuple #[.slice po n pc, .bool true]) ∧ RdPt w'.heap.size w' (.slice po n pc) ps ∧ Below W.heap.size W w')
    (hb : ∀ p ∈ ps, 0 ≤ p.2.1 ∧ p.2.1 ≤ 1000) (hbm : ∀ p ∈ ps, 0 ≤ p.2.2 ∧ p.2.2 ≤ 9223372036854775807)
    (hf : ∀ a j W, a < ps.length → j < (l.getD i Nod.zero).kids.length → Calls Tryz.prog 48 #[.int .i64 (ps.getD a (0, 0, 0)).1, .int .i64 (l.getD ((l.getD i Nod.zero).kids.getD j 0).toNat Nod.zero).kind] W fun e w' => e = .returned (.bool (fit (ps.getD a (0, 0, 0)).1 (l.getD ((l.getD i Nod.zero).kids.getD j 0).toNat Nod.zero).kind)) ∧ w' = W)
    (hgo : goM fit (sumL ps) ps ((l.getD i Nod.zero).kids.map fun k => (l.getD k.toNat Nod.zero).kind) = true)
    (hS : ∀ t1 pv ko kc x y W, Calls Tryz.prog 26 #[v, .agg #[.int .i64 (l.getD i Nod.zero).kind, t1, pv, .slice ko (l.getD i Nod.zero).kids.length kc, .int .i64 x, .int .i64 y]] W fun e w' => e = .returned (.bool true) ∧ Below W.heap.size W w') :
    Calls Tryz.prog 14 #[v, .int .i64 (i : Int)] w fun e w' => e = .returned (.bool true) ∧ Below w.heap.size w w' := by
  have CM := hide' (fun (ko : Option Addr) kc pv W (b : Below w.heap.size w W) (h1 : RdI W.heap.size W (.slice ko (l.getD i Nod.zero).kids.length kc) (l.getD i Nod.zero).kids) (h2 : (l.getD i Nod.zero).kids.length ≤ kc) (h3 : RdPt W.heap.size W pv ps) => match_any v l ko kc (l.getD i Nod.zero).kids pv ps W (rdN_mono (rdN_below hv b) b.size) h1 h2 h3 (fun j hj => ⟨(hlow j hj).1, by have := (hlow j hj).2; omega⟩) fit hb hbm hf)
  rw [hgo] at CM
  obtain ⟨vo, vc, hvv, hvl, hvc⟩ := hv
  subst hvv
  obtain ⟨g, o, pv, kv, ea, hg, ⟨c0, c1, c2, c3, c4, c5, rp, rk⟩⟩ := hvc i hi
  subst ea
  obtain ⟨po, pc, hpv, _, _⟩ := rp
  subst hpv
  have hn3 := hc i hi g o _ _ rfl
  rw [c3] at hn3
  obtain ⟨_, _, _, hn3, hnc⟩ := hn3
  have HRK := hide' rk
  obtain ⟨ko, kc, hkv, hkm, hkc⟩ := rk
  subst hkv
  injection hn3 with hn3
  injection hn3 with hn30 hn31 hn32
  subst hn30 hn31 hn32
  have HKC := hide' hkc
  have HLOW := hide' hlow
  have HP := hide' hP
  have HS := hide' hS
  clear hvc hc hlow hP hb hbm hf hgo hS hkc
  generalize l.getD i Nod.zero = t at *
  obtain ⟨N, hN⟩ : ∃ N, t.kids.length = N := ⟨_, rfl⟩
  have HN := hide' hN
  rw [hN] at c3 hkm hnc CM HS
  rw [hN] at HKC
  rw [hN] at HLOW
  have CL := hide' (lower_any)
  generalize t.kind = kd at *
  generalize t.line = ln at *
  generalize t.column = cl at *
  generalize ByteArray.mk t.text.toArray = tx at *
  obtain ⟨LL, hLL⟩ : ∃ LL, l.length = LL := ⟨_, rfl⟩
  rw [hLL] at hvl hi CM HS ⊢
  obtain ⟨PN, hPN⟩ : ∃ PN, t.path.length = PN := ⟨_, rfl⟩
  rw [hPN] at c2
  clear hLL hN hPN
  obtain ⟨W1, hW1⟩ : ∃ W1, w.alloc (.cells #[.int .i64 kd, .string tx, .slice po PN pc, .slice ko N kc, .int .i64 ln, .int .i64 cl] 37) = W1 := ⟨_, rfl⟩
  have BW1 : Below w.heap.size w W1 := by rw [← hW1]; exact (Below.refl _ _).alloc (Nat.le_refl _) _
  have SW1 : w.heap.size < W1.heap.size := by rw [← hW1]; simp
  have sx := six_new w (.int .i64 kd) (.string tx) (.slice po PN pc) (.slice ko N kc) (.int .i64 ln) (.int .i64 cl) 37
  rw [hW1] at sx
  obtain ⟨⟨k0, k1, k2, k3, k4, k5⟩, kf⟩ := sx
  have HKF := hide' kf
  clear kf
  have HBW1 := hide' BW1
  clear BW1
  go_enter Tryz.func14, Tryz.ntmps14
  go_upto_region 3 with fail
  try rw [hW1]
  obtain ⟨U, hU⟩ : ∃ U, w.heap.size = U := ⟨_, rfl⟩
  have HU := hide' hU
  rw [hU] at k0 k1 k2 k3 k4 k5 SW1 HKF
  try rw [hU]
  clear hW1 c0 c1 c2 c3 c4 c5
  have HG := hide' hg
  clear hg hU
  go_loopw [17] (fun v wr => ∃ k : Nat, k ≤ N ∧ v = .int .i64 (k : Int) ∧ Below W1.heap.size W1 wr) (fun v _ => N - (intOf v).toNat)
  case atStart => exact ⟨0, Nat.zero_le _, rfl, Below.refl _ _⟩
  case round =>
    obtain ⟨k, hk, rfl, bw⟩ := hrel
    by_cases hlt : k < N
    · obtain ⟨a, ea, hab, hcell⟩ := HKC.out k hlt
      subst ea
      obtain ⟨h0, h1⟩ := HLOW.out k hlt
      have d := (bw.cell (p := a.add k) (by rw [addBlock]; exact Nat.lt_of_lt_of_le hab HBW1.out.size)).trans ((HBW1.out.cell (p := a.add k) (by rw [addBlock]; exact hab)).trans hcell)
      generalize t.kids.getD k 0 = x at *
      have CLk : Hid' (∀ W, Calls Tryz.prog 23 #[.int .i64 x, .int .i64 (i : Int)] W fun e w' => e = .returned (.bool true) ∧ w' = W) := ⟨fun W => by
        have := CL.out x i W
        rw [decide_eq_true h0, decide_eq_true h1] at this
        exact this⟩
      clear hcell h0 h1
      go_wp2_with (go_at_call 23; refine (CLk.out _).mono ?_; rintro e w1 ⟨rfl, h9⟩; replace h9 := h9.symm; subst h9)
      go_roundw
      case rel => exact ⟨k + 1, by omega, by go_num, bw⟩
      case measure => first | (simp [intOf]; done) | (simp [intOf]; omega)
    · have e0 := (bw.cell (p := ⟨U, 0, none⟩) SW1).trans k0
      have e1 := (bw.cell (p := ⟨U, 1, none⟩) SW1).trans k1
      have e2 := (bw.cell (p := ⟨U, 2, none⟩) SW1).trans k2
      have e3 := (bw.cell (p := ⟨U, 3, none⟩) SW1).trans k3
      have e4 := (bw.cell (p := ⟨U, 4, none⟩) SW1).trans k4
      have e5 := (bw.cell (p := ⟨U, 5, none⟩) SW1).trans k5
      have hUr := Nat.lt_of_lt_of_le SW1 bw.size
      have HBW := hide' bw
      clear bw k0 k1 k2 k3 k4 k5
      go_upto_region 9 with (go_at_call 24; refine (HP.out _).mono ?_; clear HP; rintro e w2 ⟨qo, qn, qc, rfl, hq, b2⟩)
      have d0 := (b2.cell (p := ⟨U, 0, none⟩) hUr).trans e0
      have d1 := (b2.cell (p := ⟨U, 1, none⟩) hUr).trans e1
      have d2 := (b2.cell (p := ⟨U, 2, none⟩) hUr).trans e2
      have d3 := (b2.cell (p := ⟨U, 3, none⟩) hUr).trans e3
      have d4 := (b2.cell (p := ⟨U, 4, none⟩) hUr).trans e4
      have d5 := (b2.cell (p := ⟨U, 5, none⟩) hUr).trans e5
      have hU2 := Nat.lt_of_lt_of_le hUr b2.size
      have B2 : Below w.heap.size w w2 := (HBW1.out.trans (HBW.out.mono HBW1.out.size)).trans (b2.mono (Nat.le_trans HBW1.out.size HBW.out.size))
      have CM2 : Hid' (∀ W, Below w2.heap.size w2 W → Calls Tryz.prog 25 #[.slice (some ⟨g, o, none⟩) LL vc, .slice ko N kc, .slice qo qn qc] W fun e w' => e = .returned (.bool true) ∧ Below W.heap.size W w') := ⟨fun W bW => CM.out ko kc (.slice qo qn qc) W (B2.trans (bW.mono B2.size)) (by
        have h1 := rdI_below (rdI_below HRK.out B2) (bW.mono B2.size)
        rw [HN.out] at h1
        exact rdI_mono h1 (Nat.le_trans B2.size bW.size)) hnc (rdPt_mono (rdPt_below hq bW) bW.size)⟩
      have CS2 := hide' (fun W => HS.out (.string tx) (.slice po PN pc) ko kc ln cl W)
      have HB2 := hide' B2
      clear e0 e1 e2 e3 e4 e5 HS CM hq b2 B2 CL
      go_wp2_with (first
        | (go_at_call 25; refine (CM2.out _ (Below.refl _ _)).mono ?_; clear CM2; rintro e W3 ⟨rfl, B3⟩; (have hU3 := Nat.lt_of_lt_of_le hU2 B3.size); (have f0 := (B3.cell (p := ⟨U, 0, none⟩) hU2).trans d0); (have f1 := (B3.cell (p := ⟨U, 1, none⟩) hU2).trans d1); (have f2 := (B3.cell (p := ⟨U, 2, none⟩) hU2).trans d2); (have f3 := (B3.cell (p := ⟨U, 3, none⟩) hU2).trans d3); (have f4 := (B3.cell (p := ⟨U, 4, none⟩) hU2).trans d4); (have f5 := (B3.cell (p := ⟨U, 5, none⟩) hU2).trans d5))
        | (go_at_call 26; refine (CS2.out _).mono ?_; clear CS2; rintro e W4 ⟨rfl, b4⟩; (have h4 := Nat.lt_of_lt_of_le hU3 b4.size); (have h0 := (b4.cell (p := ⟨U, 0, none⟩) hU3).trans f0); (have h1 := (b4.cell (p := ⟨U, 1, none⟩) hU3).trans f1); (have h2 := (b4.cell (p := ⟨U, 2, none⟩) hU3).trans f2); (have h3 := (b4.cell (p := ⟨U, 3, none⟩) hU3).trans f3); (have h4 := (b4.cell (p := ⟨U, 4, none⟩) hU3).trans f4); (have h5 := (b4.cell (p := ⟨U, 5, none⟩) hU3).trans f5)))
      go_ret
      exact ⟨rfl, (HB2.out.trans (B3.mono HB2.out.size)).trans (b4.mono (Nat.le_trans HB2.out.size B3.size))⟩
theorem rdI_box (w : World) (r : Int) (t : TypeId) : RdI (w.alloc (.cells #[.int .i64 r] t)).heap.size (w.alloc (.cells #[.int .i64 r] t)) (.slice (some ⟨w.heap.size, 0, none⟩) 1 1) [r] := by
  refine ⟨_, _, rfl, by simp, fun j hj => ?_⟩
  have hj0 : j = 0 := by simp at hj; exact hj
  subst hj0
  refine ⟨_, rfl, by simp, ?_⟩
  simp [Addr.add]
set_option maxRecDepth 100000 in
set_option maxHeartbeats 16000000 in
theorem check_of (v : Value) (l : List Nod) (root : Nat) (rows : List Nat) (w : World) (hv : RdN w.heap.size w v l) (hr : root < l.length) (hrow : belowN (kidsOf l) (reachI l.length [(root : Int)]) [(root : Int)] = rows) (hrl : rows.length ≤ 1000000)
    (hs : ∀ j, j < rows.length → ∀ W, Below w.heap.size w W → Calls Tryz.prog 14 #[v, .int .i64 ((rows.getD j 0 : Nat) : Int)] W fun e w' => e = .returned (.bool true) ∧ Below W.heap.size W w') :
    Calls Tryz.prog 6 #[v, .int .i64 (root : Int)] w fun e w' => e = .returned (.int .i64 0) ∧ Below w.heap.size w w' := by
  have CB := hide' (fun W (b : Below w.heap.size w W) rv (h1 : RdI W.heap.size W rv [(root : Int)]) => below_any v l rv [(root : Int)] W (rdN_mono (rdN_below hv b) b.size) h1)
  rw [hrow] at CB
  obtain ⟨vo, vc, hvv, hvl, _⟩ := hv
  subst hvv
  have CI := hide' (fun W => within_any vo l.length vc (root : Int) W)
  rw [decide_eq_true (show (0 : Int) ≤ (root : Int) by omega), decide_eq_true (show (root : Int) < (l.length : Int) by omega)] at CI
  obtain ⟨LL, hLL⟩ : ∃ LL, l.length = LL := ⟨_, rfl⟩
  have HS := hide' hs
  rw [hLL] at hvl hr CI CB HS ⊢
  clear hLL hrow hs
  obtain ⟨N, hN⟩ : ∃ N, rows.length = N := ⟨_, rfl⟩
  have HN := hide' hN
  rw [hN] at hrl HS
  clear hN
  go_enter Tryz.func6, Tryz.ntmps6
  go_upto_region 4 with (first
    | (go_at_call 13; refine (CI.out _).mono ?_; clear CI; rintro e w1 ⟨rfl, h9⟩; replace h9 := h9.symm; subst h9)
    | (go_at_call 9; refine (CB.out _ ((Below.refl _ _).alloc (Nat.le_refl _) _) _ (rdI_box _ _ _)).mono ?_; clear CB; rintro e w2 ⟨va, rfl, ov, b2⟩; (obtain ⟨ao, cap, hva⟩ := ownI_slice ov); subst hva; (have HOV := hide' ov); (rw [HN.out] at HOV)))
  rw [HN.out]
  have HB2 : Hid' (Below w.heap.size w w2) := ⟨((Below.refl _ _).alloc (Nat.le_refl _) _).trans (b2.mono (by simp))⟩
  have HC : Hid' (∀ j, j < N → ∃ g, ao = some ⟨g, 0, none⟩ ∧ g < w2.heap.size ∧ w2.cell? ⟨g, j, none⟩ = some (.int .i64 ((rows.getD j 0 : Nat) : Int))) := ⟨fun j hj => by
    have ho := ov
    unfold OwnI at ho
    have hj' : j < rows.length := by rw [HN.out]; exact hj
    obtain ⟨g, c, hvv, hg, hlt⟩ := ho.form (by omega)
    injection hvv with e1 e2 e3
    refine ⟨g, e1, hlt, ?_⟩
    subst e1 e3
    rw [ho.cellAt j (by omega)]
    simp [intCells, hj']⟩
  clear ov b2 HOV
  go_loopw [16] (fun v wr => ∃ k : Nat, k ≤ N ∧ v = .int .i64 (k : Int) ∧ Below w2.heap.size w2 wr) (fun v _ => N - (intOf v).toNat)
  case atStart => exact ⟨0, Nat.zero_le _, rfl, Below.refl _ _⟩
  case round =>
    obtain ⟨k, hk, rfl, bw⟩ := hrel
    by_cases hlt : k < N
    · obtain ⟨g, ea, hg, hcell⟩ := HC.out k hlt
      subst ea
      have d := (bw.cell (p := ⟨g, k, none⟩) hg).trans hcell
      have CS := hide' (HS.out k hlt)
      generalize rows.getD k 0 = x at *
      have bz : Below w.heap.size w wr := HB2.out.trans (bw.mono HB2.out.size)
      have HBZ := hide' bz
      clear hcell bz
      go_wp2_with (go_at_call 14; refine (CS.out _ HBZ.out).mono ?_; clear CS; rintro e w1 ⟨rfl, b1⟩)
      go_roundw
      case rel => exact ⟨k + 1, by omega, by go_num, bw.trans (b1.mono bw.size)⟩
      case measure => first | (simp [intOf]; done) | (simp [intOf]; omega)
    · go_wp2_with fail
      go_ret
      exact ⟨rfl, HB2.out.trans (bw.mono HB2.out.size)⟩
end Go.Proofs.YtbcmpacmoofdkaaGreatDoor
/- The road: the declarations of `val x = 1 + 2 * 3`. -/
namespace Go.Proofs.YtbcmpacmoofdkaaGreatDoor
open Go.ChangeShapes Go.WideShapes Go.ChangeAt Go.RowKit

theorem scan_alive : scanL [118, 97, 108, 32, 120, 32, 61, 32, 49, 32, 43, 32, 50, 32, 42, 32, 51] = ([⟨1, [118, 97, 108], [], 1, 1⟩, ⟨2, [120], [], 1, 5⟩, ⟨1, [61], [], 1, 7⟩, ⟨4, [49], [], 1, 9⟩, ⟨2, [43], [], 1, 11⟩, ⟨4, [50], [], 1, 13⟩, ⟨2, [42], [], 1, 15⟩, ⟨4, [51], [], 1, 17⟩], 0, 0, 0) := by kernel_rfl
theorem fx_plus : fxD (scD 8) [43] = (true, 6, false) := by kernel_rfl
theorem fx_star : fxD (scD 8) [42] = (true, 7, false) := by kernel_rfl
theorem fx_x : fxD (scD 8) [120] = (false, 0, false) := by kernel_rfl
def tks (P : Nat → Option Addr × Nat) : List ITk :=
  [⟨1, [118, 97, 108], [], 1, 1, (P 0).1, (P 0).2, by decide⟩, ⟨2, [120], [], 1, 5, (P 1).1, (P 1).2, by decide⟩, ⟨1, [61], [], 1, 7, (P 2).1, (P 2).2, by decide⟩, ⟨4, [49], [], 1, 9, (P 3).1, (P 3).2, by decide⟩, ⟨2, [43], [], 1, 11, (P 4).1, (P 4).2, by decide⟩, ⟨4, [50], [], 1, 13, (P 5).1, (P 5).2, by decide⟩, ⟨2, [42], [], 1, 15, (P 6).1, (P 6).2, by decide⟩, ⟨4, [51], [], 1, 17, (P 7).1, (P 7).2, by decide⟩]
def nd0 : List Nod := [⟨31, [120], [], [], 1, 5⟩]
def nd1 : List Nod := [⟨31, [120], [], [], 1, 5⟩, ⟨1, [49], [], [], 1, 9⟩]
def nd2 : List Nod := [⟨31, [120], [], [], 1, 5⟩, ⟨1, [49], [], [], 1, 9⟩, ⟨1, [50], [], [], 1, 13⟩]
def nd3 : List Nod := [⟨31, [120], [], [], 1, 5⟩, ⟨1, [49], [], [], 1, 9⟩, ⟨1, [50], [], [], 1, 13⟩, ⟨1, [51], [], [], 1, 17⟩]
def ndA : List Nod := [⟨31, [120], [], [], 1, 5⟩, ⟨1, [49], [], [], 1, 9⟩, ⟨1, [50], [], [], 1, 13⟩, ⟨1, [51], [], [], 1, 17⟩, ⟨10, [42], [], [], 1, 15⟩, ⟨13, [], [], [2, 3], 1, 15⟩, ⟨17, [], [], [4, 5], 1, 15⟩]
def ndB : List Nod := [⟨31, [120], [], [], 1, 5⟩, ⟨1, [49], [], [], 1, 9⟩, ⟨1, [50], [], [], 1, 13⟩, ⟨1, [51], [], [], 1, 17⟩, ⟨10, [42], [], [], 1, 15⟩, ⟨13, [], [], [2, 3], 1, 15⟩, ⟨17, [], [], [4, 5], 1, 15⟩, ⟨10, [43], [], [], 1, 11⟩, ⟨13, [], [], [1, 6], 1, 11⟩, ⟨17, [], [], [7, 8], 1, 11⟩]
def ndC : List Nod := ndB ++ [⟨53, [], [], [0, 9], 1, 5⟩]
def ndD : List Nod := ndC ++ [⟨51, [], [], [10], 1, 1⟩]
def ndE : List Nod := ndD ++ [⟨50, [], [], [11], 1, 1⟩]
def dpB : List Nat := [1, 1, 1, 1, 1, 2, 3, 1, 4, 5]
def dpC : List Nat := [1, 1, 1, 1, 1, 2, 3, 1, 4, 5, 6]
def dpD : List Nat := [1, 1, 1, 1, 1, 2, 3, 1, 4, 5, 6, 7]
def dpE : List Nat := [1, 1, 1, 1, 1, 2, 3, 1, 4, 5, 6, 7, 8]

theorem beg_lift {b : Nat} {w : World} {t : ITk} {m : Nat} (h : ∀ W, Below w.heap.size w W → Calls Tryz.prog 138 #[.pointer (some ⟨b, 0, none⟩), t.val] W fun e w' => e = .returned (.int .u8 (m : Int)) ∧ Below W.heap.size W w') : Beg b w t m := fun W bW =>
  (h W bW).mono (fun _ _ x => ⟨x.1, bW.trans (x.2.mono bW.size)⟩)
theorem beg_int {b : Nat} {w : World} {t : ITk} (hk : t.kind = 4) : Beg b w t 96 := beg_lift (fun W _ => begun_int b t W hk)
theorem beg_none {b : Nat} {w : World} {t : ITk} (hk : t.kind = 0) : Beg b w t 0 := beg_lift (fun W _ => begun_none b t W hk)
theorem beg_val {b : Nat} {w : World} {t : ITk} (hk : t.kind = 1) (ht : t.text = [118, 97, 108]) : Beg b w t 3 := beg_lift (fun W _ => begun_word b t W hk 3 (fun W2 b2 => by
  rw [ht]
  exact (word_val W2).mono (fun _ _ x => ⟨x.1, b2.trans (x.2.mono b2.size)⟩)))
theorem beg_eq {b : Nat} {w : World} {t : ITk} (hk : t.kind = 1) (ht : t.text = [61]) : Beg b w t 0 := beg_lift (fun W _ => begun_word b t W hk 0 (fun W2 b2 => by
  rw [ht]
  exact (word_eq W2).mono (fun _ _ x => ⟨x.1, b2.trans (x.2.mono b2.size)⟩)))
theorem beg_name {b : Nat} {w : World} {tv : Value} {toks : List ITk} {at' op : Nat} {so : Option Addr} {fx : List UInt8 → Fix} {ns : List Nod} {ds : List Nat} {nv dv : Value} (h : St b w tv toks at' op so fx ns ds nv dv) {t : ITk} {m : Nat} (hk : t.kind = 2) (hn : isNm t = true) (hm : bnN fx t = m) : Beg b w t m := beg_lift (fun W bW => begun_name b t W hk m (fun W2 b2 => by
  have s := (h.below bW).below b2
  have c := begunByName_any b tv toks at' op so nv dv fx t W2 s.ps s.fn hn
  rw [hm] at c
  exact c.mono (fun _ _ x => ⟨x.1, b2.trans (x.2.mono b2.size)⟩)))

theorem road_app (b : Nat) (tv : Value) (P : Nat → Option Addr × Nat) (at' op : Nat) (so : Option Addr) (ns : List Nod) (ds : List Nat) (nv dv : Value) (w : World) (h : St b w tv (tks P) at' op so (fxD (scD 8)) ns ds nv dv)
    (hl : at' < 8) (hk : (lookT (tks P) at').kind = 4) (hds : ∀ j, j < ds.length → ds.getD j 0 ≤ 1000) (hcap : ns.length + 1 ≤ 1000)
    (hm : (lookT (tks P) (at' + 1)).kind = 0 ∨ ((lookT (tks P) (at' + 1)).kind = 2 ∧ isNm (lookT (tks P) (at' + 1)) = true ∧ (bnN (fxD (scD 8)) (lookT (tks P) (at' + 1)) = 28 ∨ bnN (fxD (scD 8)) (lookT (tks P) (at' + 1)) = 12))) :
    Calls Tryz.prog 275 #[.pointer (some ⟨b, 0, none⟩)] w fun e w' => e = .returned (.int .i64 (ns.length : Int)) ∧ (∃ nv' dv', St b w' tv (tks P) (at' + 1) op so (fxD (scD 8)) (ns ++ [⟨1, (lookT (tks P) at').text, [], [], (lookT (tks P) at').line, (lookT (tks P) at').column⟩]) (ds ++ [1]) nv' dv') ∧ Rel b w w' :=
  app_one b tv (tks P) (at' + 1) op so (fxD (scD 8)) _ _ w _
    (atexp_int b tv (tks P) at' op so (fxD (scD 8)) ns ds nv dv w h hl (by omega) hk (beg_int hk) (lookT (tks P) at').tl hds hcap)
    (fun W nv' dv' s => by
      rcases hm with h0 | ⟨h1, h2, h3 | h3⟩
      · exact begins_0_64 b tv (tks P) (at' + 1) op _ nv' dv' W s.ps (beg_none h0)
      · exact begins_28_64 b tv (tks P) (at' + 1) op _ nv' dv' W s.ps (beg_name s h1 h2 h3)
      · exact begins_12_64 b tv (tks P) (at' + 1) op _ nv' dv' W s.ps (beg_name s h1 h2 h3))

theorem dp_ok {l : List Nat} (h : (l.all fun x => decide (x ≤ 1000)) = true) : ∀ j, j < l.length → l.getD j 0 ≤ 1000 := fun j hj => by
  have h1 := List.all_eq_true.1 h l[j] (List.getElem_mem hj)
  rw [List.getD_eq_getElem?_getD, List.getElem?_eq_getElem hj]
  simpa using h1
theorem fxP_plus (P : Nat → Option Addr × Nat) : fxP (fxD (scD 8)) (lookT (tks P) 4) = (true, 6, false) := fx_plus
theorem fxP_star (P : Nat → Option Addr × Nat) : fxP (fxD (scD 8)) (lookT (tks P) 6) = (true, 7, false) := fx_star

theorem road_infixes (b : Nat) (tv : Value) (P : Nat → Option Addr × Nat) (op : Nat) (so : Option Addr) (nv dv : Value) (w : World) (h : St b w tv (tks P) 3 op so (fxD (scD 8)) nd0 [1] nv dv) :
    Calls Tryz.prog 233 #[.pointer (some ⟨b, 0, none⟩), expMix b] w fun e w' => e = .returned (.int .i64 9) ∧ (∃ nv' dv', St b w' tv (tks P) 8 op so (fxD (scD 8)) ndB dpB nv' dv') ∧ Rel b w w' :=
  infixes_three b tv (tks P) op so (fxD (scD 8)) 3 4 6 8 nd0 nd1 nd2 nd3 [1] [1, 1] [1, 1, 1] [1, 1, 1, 1] nv dv w 1 2 3 4 6 7 false false h
    (fun W bW => road_app b tv P 3 op so nd0 [1] nv dv W (h.below bW) (by decide) rfl (dp_ok rfl) (by decide) (.inr ⟨rfl, rfl, .inl (by unfold bnN; rw [show (lookT (tks P) 4).text = [43] from rfl, fx_plus]; rfl)⟩))
    (fun W nv dv s => road_app b tv P 5 op so nd1 [1, 1] nv dv W s (by decide) rfl (dp_ok rfl) (by decide) (.inr ⟨rfl, rfl, .inr (by unfold bnN; rw [show (lookT (tks P) 6).text = [42] from rfl, fx_star]; rfl)⟩))
    (fun W nv dv s => road_app b tv P 7 op so nd2 [1, 1, 1] nv dv W s (by decide) rfl (dp_ok rfl) (by decide) (.inl rfl))
    (by show (2 : Int) ≠ 1; decide) (by show (2 : Int) ≠ 1; decide) (by show (0 : Int) ≠ 1; decide)
    (fxP_plus P) (fxP_star P) rfl (by decide) (show 4 < 8 by decide) (show 6 < 8 by decide) (by decide) (by decide)
    (by simp [nd1]) (by simp [nd2]) (by simp [nd3])
    1 11 1 15 ⟨#[43]⟩ ⟨#[42]⟩ rfl rfl rfl rfl rfl rfl rfl (by decide) (by decide) (by decide) (by decide) (dp_ok (l := [1, 1, 1, 1]) rfl) (by decide) (by decide)
    [1, 1, 1, 1, 1] [1, 1, 1, 1, 1, 2] [1, 1, 1, 1, 1, 2, 3] [1, 1, 1, 1, 1, 2, 3, 1] [1, 1, 1, 1, 1, 2, 3, 1, 4] dpB rfl rfl rfl (by decide) (by decide) (dp_ok (l := [1, 1, 1, 1, 1, 2, 3]) rfl) rfl rfl rfl (by decide) (by decide) ndA ndB rfl rfl

theorem road_exp (b : Nat) (tv : Value) (P : Nat → Option Addr × Nat) (op : Nat) (so : Option Addr) (nv dv : Value) (w : World) (h : St b w tv (tks P) 3 op so (fxD (scD 8)) nd0 [1] nv dv) (ho : op < 1000) :
    Calls Tryz.prog 204 #[.pointer (some ⟨b, 0, none⟩)] w fun e w' => e = .returned (.int .i64 9) ∧ (∃ nv' dv', St b w' tv (tks P) 8 op so (fxD (scD 8)) ndB dpB nv' dv') ∧ Rel b w w' :=
  exp_of b tv (tks P) 3 8 op so (fxD (scD 8)) nd0 ndB [1] dpB nv dv w 9 h ho
    (begins_96_192 b tv (tks P) 3 op _ nv dv w h.ps (beg_int rfl))
    (fun W s => handled_of b tv (tks P) 8 (op + 1) so (fxD (scD 8)) ndB dpB W 9 rfl
      (or_of b tv (tks P) 8 (op + 1) so (fxD (scD 8)) ndB dpB W 9 rfl
        (and_of b tv (tks P) 8 (op + 1) so (fxD (scD 8)) ndB dpB W 9 rfl
          (operand_of b tv (tks P) 3 8 (op + 1) so (fxD (scD 8)) nd0 ndB [1] dpB nv dv W 9 s (show 3 < 8 by decide) rfl rfl rfl rfl rfl rfl
            (fun W2 b2 => road_infixes b tv P (op + 1) so nv dv W2 (s.below b2))))))

theorem road_pat (b : Nat) (tv : Value) (P : Nat → Option Addr × Nat) (op : Nat) (so : Option Addr) (nv dv : Value) (w : World) (h : St b w tv (tks P) 1 op so (fxD (scD 8)) [] [] nv dv) (ho : op < 1000) :
    Calls Tryz.prog 202 #[.pointer (some ⟨b, 0, none⟩)] w fun e w' => e = .returned (.int .i64 0) ∧ (∃ nv' dv', St b w' tv (tks P) 2 op so (fxD (scD 8)) nd0 [1] nv' dv') ∧ Rel b w w' := by
  have hm : bnN (fxD (scD 8)) (lookT (tks P) 1) = 124 := by unfold bnN; rw [show (lookT (tks P) 1).text = [120] from rfl, fx_x]; rfl
  exact pat_of b tv (tks P) 1 2 op so (fxD (scD 8)) [] nd0 [] [1] nv dv w 0 h ho
    (begins_124_32 b tv (tks P) 1 op _ nv dv w h.ps (beg_name h rfl rfl hm))
    (fun W s => pattern_of b tv (tks P) 1 2 (op + 1) so (fxD (scD 8)) [] nd0 [] [1] nv dv W 0 s rfl rfl rfl
      (fun W2 b2 => infixes_pat b tv (tks P) 1 2 (op + 1) so (fxD (scD 8)) [] nd0 [] [1] nv dv W2 0 (s.below b2)
        (fun W3 b3 => apppat_name b tv (tks P) 1 (op + 1) so (fxD (scD 8)) [] [] nv dv W3 ((s.below b2).below b3) (show 1 < 8 by decide) (by decide) rfl rfl
          (fun W4 b4 => beg_name (((s.below b2).below b3).below b4) rfl rfl hm) (lookT (tks P) 1).tl (dp_ok rfl) (by decide)
          (fun W4 ns' ds' nv' dv' s4 => begins_0_32 b tv (tks P) 2 (op + 1) _ nv' dv' W4 s4.ps (beg_eq rfl rfl)))
        rfl))

theorem road_bind (b : Nat) (tv : Value) (P : Nat → Option Addr × Nat) (op : Nat) (so : Option Addr) (nv dv : Value) (w : World) (h : St b w tv (tks P) 1 op so (fxD (scD 8)) [] [] nv dv) (ho : op < 1000) :
    Calls Tryz.prog 180 #[.pointer (some ⟨b, 0, none⟩)] w fun e w' => e = .returned (.int .i64 10) ∧ (∃ nv' dv', St b w' tv (tks P) 8 op so (fxD (scD 8)) ndC dpC nv' dv') ∧ Rel b w w' :=
  bind_of b tv (tks P) 2 8 op so (fxD (scD 8)) nd0 ndB [1] dpB w 0 9 (road_pat b tv P op so nv dv w h ho) rfl (by decide)
    (fun W nv dv s => road_exp b tv P op so nv dv W s ho) (by decide) (by decide) (by decide) (dp_ok rfl) (by decide)

theorem road_decl (b : Nat) (tv : Value) (P : Nat → Option Addr × Nat) (op : Nat) (so : Option Addr) (nv dv : Value) (w : World) (h : St b w tv (tks P) 0 op so (fxD (scD 8)) [] [] nv dv) (ho : op < 1000) :
    Calls Tryz.prog 141 #[.pointer (some ⟨b, 0, none⟩)] w fun e w' => e = .returned (.int .i64 11) ∧ (∃ nv' dv', St b w' tv (tks P) 8 op so (fxD (scD 8)) ndD dpD nv' dv') ∧ Rel b w w' :=
  declaration_val b tv (tks P) 0 8 op so (fxD (scD 8)) [] ndD [] dpD nv dv w 11 h (show 0 < 8 by decide) (by decide) rfl
    (fun W s => values_of b tv (tks P) 1 op _ nv dv W 1 1 _ s.ps rfl
      (fun W2 b2 => (group_bind b tv (tks P) 1 8 op so (fxD (scD 8)) [] ndC [] dpC nv dv W2 10 1 1 51 (s.below b2) rfl
        (fun W3 b3 => road_bind b tv P op so nv dv W3 ((s.below b2).below b3) ho) (by decide) (by decide) (dp_ok rfl) (by decide)).mono
        (fun _ _ x => ⟨11, x.1, x.1, x.2.1, (Rel.of b2 s.ps.old).trans x.2.2⟩)))

theorem road_decs (b : Nat) (tv : Value) (P : Nat → Option Addr × Nat) (op : Nat) (so : Option Addr) (nv dv : Value) (w : World) (h : St b w tv (tks P) 0 op so (fxD (scD 8)) [] [] nv dv) (ho : op < 900) :
    Calls Tryz.prog 105 #[.pointer (some ⟨b, 0, none⟩)] w fun e w' => e = .returned (.int .i64 12) ∧ (∃ nv' dv', St b w' tv (tks P) 8 op so (fxD (scD 8)) ndE dpE nv' dv') ∧ Rel b w w' :=
  declarations_one b tv (tks P) 0 8 op so (fxD (scD 8)) [] ndD [] dpD nv dv w 11 h (show 0 < 8 by decide) rfl rfl
    (fun W b1 => begins_3_1 b tv (tks P) 0 op _ nv dv W (h.below b1).ps (beg_val rfl rfl))
    (fun W b1 => dec_of b tv (tks P) 0 8 op so (fxD (scD 8)) [] ndD [] dpD nv dv W 11 (h.below b1) (by omega)
      (begins_3_1 b tv (tks P) 0 op _ nv dv W (h.below b1).ps (beg_val rfl rfl))
      (fun W2 s2 => road_decl b tv P (op + 1) so nv dv W2 s2 (by omega)))
    (fun W nv' dv' s => begins_0_1 b tv (tks P) 8 op _ nv' dv' W s.ps (beg_none rfl)) (by decide) (by decide) (dp_ok rfl) (by decide)
end Go.Proofs.YtbcmpacmoofdkaaGreatDoor
/- Check of alive's nodes. -/
namespace Go.Proofs.YtbcmpacmoofdkaaGreatDoor
open Go.ChangeShapes Go.WideShapes Go.ChangeAt Go.RowKit

set_option maxRecDepth 100000 in
set_option maxHeartbeats 8000000 in
theorem fits_m1_31 (w : World) : Calls Tryz.prog 48 #[.int .i64 (-1), .int .i64 31] w fun e w' => e = .returned (.bool false) ∧ w' = w := by
  go_enter Tryz.func48, Tryz.ntmps48
  go_wp2
  go_ret
  exact ⟨rfl, rfl⟩

set_option maxRecDepth 100000 in
set_option maxHeartbeats 8000000 in
theorem fits_m2_17 (w : World) : Calls Tryz.prog 48 #[.int .i64 (-2), .int .i64 17] w fun e w' => e = .returned (.bool false) ∧ w' = w := by
  go_enter Tryz.func48, Tryz.ntmps48
  go_wp2
  go_ret
  exact ⟨rfl, rfl⟩

theorem ncap_below {w w' : World} {v : Value} {l : List Nod} (h : NCap w v l) (hv : RdN w.heap.size w v l) (b : Below w.heap.size w w') : NCap w' v l := fun j hj g o n c e => by
  obtain ⟨ao, n', c', h1, h2⟩ := h j hj g o n c e
  obtain ⟨ao2, c2, hvv, _, hc⟩ := hv
  obtain ⟨g2, o2, _, _, ea, hg, _⟩ := hc j hj
  rw [e] at hvv
  injection hvv with e1 e2 e3
  rw [ea] at e1
  injection e1 with e1
  injection e1 with e1 e4
  subst e1
  exact ⟨ao, n', c', (b.cell (p := ⟨g, o + j * 6 + 3, none⟩) hg).trans h1, h2⟩
theorem rdPt_nil (w : World) : RdPt w.heap.size w (.slice none 0 0) [] := ⟨none, 0, rfl, by simp, fun j hj => absurd hj (by simp)⟩
def fitT : Int → Int → Bool := fun _ _ => true
def fitB : Int → Int → Bool := fun a k => (a == -2 && k == 31) || (a == -1 && k == 17)

theorem sound_0 (v : Value) (w : World) (hv : RdN w.heap.size w v ndE) (hc : NCap w v ndE) : Calls Tryz.prog 14 #[v, .int .i64 0] w fun e w' => e = .returned (.bool true) ∧ Below w.heap.size w w' :=
  sound_of v ndE 0 [] w hv hc (by decide) fitT
    (fun j hj => absurd hj (by show ¬ j < 0; omega))
    (fun W => (partsOf_31 W).mono (fun e w' x => ⟨none, 0, 0, x.1, rdPt_nil w', x.2⟩))
    (by decide) (by decide)
    (fun a j W ha hj => absurd ha (by show ¬ a < 0; omega))
    (by decide)
    (fun t1 pv ko kc x y W => suits_31 v t1 pv ko 0 kc x y W)

theorem sound_1 (v : Value) (w : World) (hv : RdN w.heap.size w v ndE) (hc : NCap w v ndE) : Calls Tryz.prog 14 #[v, .int .i64 1] w fun e w' => e = .returned (.bool true) ∧ Below w.heap.size w w' :=
  sound_of v ndE 1 [] w hv hc (by decide) fitT
    (fun j hj => absurd hj (by show ¬ j < 0; omega))
    (fun W => (partsOf_1 W).mono (fun e w' x => ⟨none, 0, 0, x.1, rdPt_nil w', x.2⟩))
    (by decide) (by decide)
    (fun a j W ha hj => absurd ha (by show ¬ a < 0; omega))
    (by decide)
    (fun t1 pv ko kc x y W => suits_1 v t1 pv ko 0 kc x y W)

theorem sound_2 (v : Value) (w : World) (hv : RdN w.heap.size w v ndE) (hc : NCap w v ndE) : Calls Tryz.prog 14 #[v, .int .i64 2] w fun e w' => e = .returned (.bool true) ∧ Below w.heap.size w w' :=
  sound_of v ndE 2 [] w hv hc (by decide) fitT
    (fun j hj => absurd hj (by show ¬ j < 0; omega))
    (fun W => (partsOf_1 W).mono (fun e w' x => ⟨none, 0, 0, x.1, rdPt_nil w', x.2⟩))
    (by decide) (by decide)
    (fun a j W ha hj => absurd ha (by show ¬ a < 0; omega))
    (by decide)
    (fun t1 pv ko kc x y W => suits_1 v t1 pv ko 0 kc x y W)

theorem sound_3 (v : Value) (w : World) (hv : RdN w.heap.size w v ndE) (hc : NCap w v ndE) : Calls Tryz.prog 14 #[v, .int .i64 3] w fun e w' => e = .returned (.bool true) ∧ Below w.heap.size w w' :=
  sound_of v ndE 3 [] w hv hc (by decide) fitT
    (fun j hj => absurd hj (by show ¬ j < 0; omega))
    (fun W => (partsOf_1 W).mono (fun e w' x => ⟨none, 0, 0, x.1, rdPt_nil w', x.2⟩))
    (by decide) (by decide)
    (fun a j W ha hj => absurd ha (by show ¬ a < 0; omega))
    (by decide)
    (fun t1 pv ko kc x y W => suits_1 v t1 pv ko 0 kc x y W)

theorem sound_4 (v : Value) (w : World) (hv : RdN w.heap.size w v ndE) (hc : NCap w v ndE) : Calls Tryz.prog 14 #[v, .int .i64 4] w fun e w' => e = .returned (.bool true) ∧ Below w.heap.size w w' :=
  sound_of v ndE 4 [] w hv hc (by decide) fitT
    (fun j hj => absurd hj (by show ¬ j < 0; omega))
    (fun W => (partsOf_10 W).mono (fun e w' x => ⟨none, 0, 0, x.1, rdPt_nil w', x.2⟩))
    (by decide) (by decide)
    (fun a j W ha hj => absurd ha (by show ¬ a < 0; omega))
    (by decide)
    (fun t1 pv ko kc x y W => suits_10 v t1 pv ko 0 kc x y W)

theorem sound_5 (v : Value) (w : World) (hv : RdN w.heap.size w v ndE) (hc : NCap w v ndE) : Calls Tryz.prog 14 #[v, .int .i64 5] w fun e w' => e = .returned (.bool true) ∧ Below w.heap.size w w' :=
  sound_of v ndE 5 [(-1, 0, 9223372036854775807)] w hv hc (by decide) fitT
    (by decide)
    (fun W => (partsOf_13 W).mono (fun e w' x => by obtain ⟨g, h1, h2, h3⟩ := x; exact ⟨_, _, _, h1, h2, h3⟩))
    (by decide) (by decide)
    (fun a j W ha hj => by
      have ha' : a < 1 := ha
      have hj' : j < 2 := hj
      have qa : a = 0 := by omega
      have qj : j = 0 ∨ j = 1 := by omega
      clear ha hj ha' hj'
      subst qa <;> rcases qj with rfl | rfl
      · exact fits_m1_1 W
      · exact fits_m1_1 W)
    (by decide)
    (fun t1 pv ko kc x y W => suits_13 v t1 pv ko 2 kc x y W (by decide))

theorem sound_6 (v : Value) (w : World) (hv : RdN w.heap.size w v ndE) (hc : NCap w v ndE) : Calls Tryz.prog 14 #[v, .int .i64 6] w fun e w' => e = .returned (.bool true) ∧ Below w.heap.size w w' :=
  sound_of v ndE 6 [(-1, 1, 1), (-1, 1, 1)] w hv hc (by decide) fitT
    (by decide)
    (fun W => (partsOf_17 W).mono (fun e w' x => by obtain ⟨g, h1, h2, h3⟩ := x; exact ⟨_, _, _, h1, h2, h3⟩))
    (by decide) (by decide)
    (fun a j W ha hj => by
      have ha' : a < 2 := ha
      have hj' : j < 2 := hj
      have qa : a = 0 ∨ a = 1 := by omega
      have qj : j = 0 ∨ j = 1 := by omega
      clear ha hj ha' hj'
      rcases qa with rfl | rfl <;> rcases qj with rfl | rfl
      · exact fits_m1_10 W
      · exact fits_m1_13 W
      · exact fits_m1_10 W
      · exact fits_m1_13 W)
    (by decide)
    (fun t1 pv ko kc x y W => suits_17 v t1 pv ko 2 kc x y W)

theorem sound_7 (v : Value) (w : World) (hv : RdN w.heap.size w v ndE) (hc : NCap w v ndE) : Calls Tryz.prog 14 #[v, .int .i64 7] w fun e w' => e = .returned (.bool true) ∧ Below w.heap.size w w' :=
  sound_of v ndE 7 [] w hv hc (by decide) fitT
    (fun j hj => absurd hj (by show ¬ j < 0; omega))
    (fun W => (partsOf_10 W).mono (fun e w' x => ⟨none, 0, 0, x.1, rdPt_nil w', x.2⟩))
    (by decide) (by decide)
    (fun a j W ha hj => absurd ha (by show ¬ a < 0; omega))
    (by decide)
    (fun t1 pv ko kc x y W => suits_10 v t1 pv ko 0 kc x y W)

theorem sound_8 (v : Value) (w : World) (hv : RdN w.heap.size w v ndE) (hc : NCap w v ndE) : Calls Tryz.prog 14 #[v, .int .i64 8] w fun e w' => e = .returned (.bool true) ∧ Below w.heap.size w w' :=
  sound_of v ndE 8 [(-1, 0, 9223372036854775807)] w hv hc (by decide) fitT
    (by decide)
    (fun W => (partsOf_13 W).mono (fun e w' x => by obtain ⟨g, h1, h2, h3⟩ := x; exact ⟨_, _, _, h1, h2, h3⟩))
    (by decide) (by decide)
    (fun a j W ha hj => by
      have ha' : a < 1 := ha
      have hj' : j < 2 := hj
      have qa : a = 0 := by omega
      have qj : j = 0 ∨ j = 1 := by omega
      clear ha hj ha' hj'
      subst qa <;> rcases qj with rfl | rfl
      · exact fits_m1_1 W
      · exact fits_m1_17 W)
    (by decide)
    (fun t1 pv ko kc x y W => suits_13 v t1 pv ko 2 kc x y W (by decide))

theorem sound_9 (v : Value) (w : World) (hv : RdN w.heap.size w v ndE) (hc : NCap w v ndE) : Calls Tryz.prog 14 #[v, .int .i64 9] w fun e w' => e = .returned (.bool true) ∧ Below w.heap.size w w' :=
  sound_of v ndE 9 [(-1, 1, 1), (-1, 1, 1)] w hv hc (by decide) fitT
    (by decide)
    (fun W => (partsOf_17 W).mono (fun e w' x => by obtain ⟨g, h1, h2, h3⟩ := x; exact ⟨_, _, _, h1, h2, h3⟩))
    (by decide) (by decide)
    (fun a j W ha hj => by
      have ha' : a < 2 := ha
      have hj' : j < 2 := hj
      have qa : a = 0 ∨ a = 1 := by omega
      have qj : j = 0 ∨ j = 1 := by omega
      clear ha hj ha' hj'
      rcases qa with rfl | rfl <;> rcases qj with rfl | rfl
      · exact fits_m1_10 W
      · exact fits_m1_13 W
      · exact fits_m1_10 W
      · exact fits_m1_13 W)
    (by decide)
    (fun t1 pv ko kc x y W => suits_17 v t1 pv ko 2 kc x y W)

theorem sound_10 (v : Value) (w : World) (hv : RdN w.heap.size w v ndE) (hc : NCap w v ndE) : Calls Tryz.prog 14 #[v, .int .i64 10] w fun e w' => e = .returned (.bool true) ∧ Below w.heap.size w w' :=
  sound_of v ndE 10 [(-2, 1, 1), (-1, 1, 1)] w hv hc (by decide) fitB
    (by decide)
    (fun W => (partsOf_53 W).mono (fun e w' x => by obtain ⟨g, h1, h2, h3⟩ := x; exact ⟨_, _, _, h1, h2, h3⟩))
    (by decide) (by decide)
    (fun a j W ha hj => by
      have ha' : a < 2 := ha
      have hj' : j < 2 := hj
      have qa : a = 0 ∨ a = 1 := by omega
      have qj : j = 0 ∨ j = 1 := by omega
      clear ha hj ha' hj'
      rcases qa with rfl | rfl <;> rcases qj with rfl | rfl
      · exact fits_m2_31 W
      · exact fits_m2_17 W
      · exact fits_m1_31 W
      · exact fits_m1_17 W)
    (by decide)
    (fun t1 pv ko kc x y W => suits_53 v t1 pv ko 2 kc x y W)

theorem sound_11 (v : Value) (w : World) (hv : RdN w.heap.size w v ndE) (hc : NCap w v ndE) : Calls Tryz.prog 14 #[v, .int .i64 11] w fun e w' => e = .returned (.bool true) ∧ Below w.heap.size w w' :=
  sound_of v ndE 11 [(53, 1, 9223372036854775807)] w hv hc (by decide) fitT
    (by decide)
    (fun W => (partsOf_51 W).mono (fun e w' x => by obtain ⟨g, h1, h2, h3⟩ := x; exact ⟨_, _, _, h1, h2, h3⟩))
    (by decide) (by decide)
    (fun a j W ha hj => by
      have ha' : a < 1 := ha
      have hj' : j < 1 := hj
      have qa : a = 0 := by omega
      have qj : j = 0 := by omega
      clear ha hj ha' hj'
      subst qa <;> subst qj
      · exact fits_53_53 W)
    (by decide)
    (fun t1 pv ko kc x y W => suits_51 v t1 pv ko 1 kc x y W)

theorem sound_12 (v : Value) (w : World) (hv : RdN w.heap.size w v ndE) (hc : NCap w v ndE) : Calls Tryz.prog 14 #[v, .int .i64 12] w fun e w' => e = .returned (.bool true) ∧ Below w.heap.size w w' :=
  sound_of v ndE 12 [(-4, 0, 9223372036854775807)] w hv hc (by decide) fitT
    (by decide)
    (fun W => (partsOf_50 W).mono (fun e w' x => by obtain ⟨g, h1, h2, h3⟩ := x; exact ⟨_, _, _, h1, h2, h3⟩))
    (by decide) (by decide)
    (fun a j W ha hj => by
      have ha' : a < 1 := ha
      have hj' : j < 1 := hj
      have qa : a = 0 := by omega
      have qj : j = 0 := by omega
      clear ha hj ha' hj'
      subst qa <;> subst qj
      · exact fits_m4_51 W)
    (by decide)
    (fun t1 pv ko kc x y W => suits_50 v t1 pv ko 1 kc x y W)

theorem check_alive (v : Value) (w : World) (hv : RdN w.heap.size w v ndE) (hc : NCap w v ndE) : Calls Tryz.prog 6 #[v, .int .i64 12] w fun e w' => e = .returned (.int .i64 0) ∧ Below w.heap.size w w' :=
  check_of v ndE 12 [0, 1, 2, 3, 4, 5, 6, 7, 8, 9, 10, 11, 12] w hv (by decide) (by decide) (by decide) (fun j hj W bW => by
    have h1 := rdN_mono (rdN_below hv bW) bW.size
    have h2 := ncap_below hc hv bW
    match j, hj with
    | 0, _ => exact sound_0 v W h1 h2
    | 1, _ => exact sound_1 v W h1 h2
    | 2, _ => exact sound_2 v W h1 h2
    | 3, _ => exact sound_3 v W h1 h2
    | 4, _ => exact sound_4 v W h1 h2
    | 5, _ => exact sound_5 v W h1 h2
    | 6, _ => exact sound_6 v W h1 h2
    | 7, _ => exact sound_7 v W h1 h2
    | 8, _ => exact sound_8 v W h1 h2
    | 9, _ => exact sound_9 v W h1 h2
    | 10, _ => exact sound_10 v W h1 h2
    | 11, _ => exact sound_11 v W h1 h2
    | 12, _ => exact sound_12 v W h1 h2
    | j + 13, hj => exact absurd hj (by show ¬ j + 13 < 13; omega))
end Go.Proofs.YtbcmpacmoofdkaaGreatDoor
