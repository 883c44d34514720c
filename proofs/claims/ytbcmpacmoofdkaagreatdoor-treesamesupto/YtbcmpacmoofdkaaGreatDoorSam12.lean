/- The document's Same, at any nodes. -/
import Derived.Test.YtbcmpacmoofdkaaGreatDoorProg
import Derived.Test.YtbcmpacmoofdkaaGreatDoorSam13
import Derived.WalkKit
import Derived.ProofKit
import Derived.OpenShut
import Derived.Below
import Derived.WalkLawsBesides
import Derived.OwnWalk
import Derived.BigQuiet
import Derived.Deep.MidRow
import Derived.Deep.RegionHeld
import Derived.Deep.RegionHeld3
import Derived.Deep.AppendLies
import Derived.WalkSmall
import Derived.Deep.DeepCutAuto
namespace Go.Proofs.YtbcmpacmoofdkaaGreatDoor
open Go.ChangeShapes Go.WideShapes Go.ChangeAt Go.RowKit

theorem rbelow_one (l : List Nod) (r : Nat) (h : r < l.length) : belowN (kidsOf l) l.length [(r : Int)] = belowR (kidsOf l) r := by
  have e : reachI l.length [(r : Int)] = r + 1 := by
    unfold reachI
    rw [if_pos ⟨by omega, by omega⟩]
    simp [reachI]
  have := below_same (kidsOf l) (reach_le l.length [(r : Int)]) (reach_hit l.length [(r : Int)])
  rw [e] at this
  exact this
theorem belowR_len (l : List Nod) (r : Nat) (h : r < l.length) : (belowR (kidsOf l) r).length ≤ l.length := by
  unfold belowR belowN
  have := List.length_filter_le (markF (kidsOf l) (r + 1) (rootsM (r + 1) [(r : Int)])) (List.range (r + 1))
  rw [List.length_range] at this
  omega
theorem ownI_cells {B : Nat} {v : Value} {L : List Nat} {w : World} (h : OwnI B v L w) : ∃ ao cap, v = .slice ao L.length cap ∧ ∀ j, j < L.length → ∃ g, ao = some ⟨g, 0, none⟩ ∧ B ≤ g ∧ g < w.heap.size ∧ w.cell? ⟨g, j, none⟩ = some (.int .i64 ((L.getD j 0 : Nat) : Int)) := by
  obtain ⟨ao, cap, hva⟩ := ownI_slice h
  subst hva
  refine ⟨ao, cap, rfl, fun j hj => ?_⟩
  unfold OwnI at h
  obtain ⟨g, c, hvv, hg, hlt⟩ := h.form (by omega)
  injection hvv with e1 e2 e3
  refine ⟨g, e1, hg, hlt, ?_⟩
  subst e1 e3
  rw [h.cellAt j (by omega)]
  simp [intCells, hj]

theorem cellsNew2 (w : World) (xs : List Value) (e : TypeId) (o : Obj) : ∀ j u, xs[j]? = some u → ((w.alloc (.cells xs.toArray e)).alloc o).cell? ((⟨w.heap.size, 0, none⟩ : Addr).add j) = some u := by
  intro j u h
  have h1 := cellsNew w xs e j u h
  rw [← h1]
  exact ((Below.refl (w.alloc (.cells xs.toArray e)).heap.size _).alloc (Nat.le_refl _) o).cell (by rw [addBlock]; show w.heap.size < _; simp)
theorem cellsAt {w : World} {B : Nat} (hB : w.heap.size = B) (xs : List Value) (e : TypeId) : ∀ j u, xs[j]? = some u → (w.alloc (.cells xs.toArray e)).cell? ((⟨B, 0, none⟩ : Addr).add j) = some u := by subst hB; exact cellsNew w xs e
theorem cellsAt2 {w : World} {B : Nat} (hB : w.heap.size = B) (xs : List Value) (e : TypeId) (o : Obj) : ∀ j u, xs[j]? = some u → ((w.alloc (.cells xs.toArray e)).alloc o).cell? ((⟨B, 0, none⟩ : Addr).add j) = some u := by subst hB; exact cellsNew2 w xs e o
theorem appL_facts {Wm W1 w6 : World} {B2 : Nat} {lv cv : Value} (u1 : Below Wm.heap.size Wm W1) (g6 : W1.grownBy w6 lv.ownBlock) (hl : ∀ k, lv.ownBlock = some k → B2 ≤ k ∧ k < Wm.heap.size) (hB2 : B2 ≤ Wm.heap.size) (hc : ∀ x, cv.ownBlock = some x → x < Wm.heap.size ∧ lv.ownBlock ≠ some x) :
    (∀ k, k < B2 → w6.heap[k]? = Wm.heap[k]?) ∧ (∀ x, cv.ownBlock = some x → w6.heap[x]? = Wm.heap[x]?) ∧ (∀ bk, Wm.heap.size ≤ bk → bk < W1.heap.size → w6.heap[bk]? = W1.heap[bk]?) ∧ Wm.heap.size ≤ w6.heap.size := by
  have s1 := u1.size
  have s6 := g6.size
  refine ⟨fun k hk => ?_, fun x hx => ?_, fun bk h1 h2 => ?_, by omega⟩
  · rw [g6.block k (by omega) (fun e => by have := (hl k e.symm).1; omega), u1.block k (by omega)]
  · rw [g6.block x (by have := (hc x hx).1; omega) (fun e => (hc x hx).2 e.symm), u1.block x (hc x hx).1]
  · exact g6.block bk h2 (fun e => by have := (hl bk e.symm).2; omega)
theorem appC_facts {w6 W2 w7 : World} {B2 : Nat} {cv : Value} (u2 : Below w6.heap.size w6 W2) (g7 : W2.grownBy w7 cv.ownBlock) (hc : ∀ x, cv.ownBlock = some x → B2 ≤ x) (hB2 : B2 ≤ w6.heap.size) : ∀ k, k < B2 → w7.heap[k]? = w6.heap[k]? := fun k hk => by
  have s2 := u2.size
  rw [g7.block k (by omega) (fun e => by have := hc k e.symm; omega), u2.block k (by omega)]
theorem turnM_congr (ks : List Int) (i n : Nat) (g : Nat → Int) (hi : i ≤ n) : turnM ks i (fun j => ((List.range n).map g).getD j 0) = turnM ks i g := by
  unfold turnM
  refine List.map_congr_left fun k _ => ?_
  by_cases hk : 0 ≤ k ∧ k < (i : Int)
  · rw [if_pos hk, if_pos hk]
    have : k.toNat < n := by omega
    simp [List.getD, this]
  · rw [if_neg hk, if_neg hk]
theorem turnM_upd (ks : List Int) (i : Nat) (g : Nat → Int) (c : Int) : turnM ks i (updN g i c) = turnM ks i g := by
  unfold turnM
  refine List.map_congr_left fun k _ => ?_
  by_cases hk : 0 ≤ k ∧ k < (i : Int)
  · rw [if_pos hk, if_pos hk]
    exact updN_other _ _ (by omega)
  · rw [if_neg hk, if_neg hk]
theorem classM_congr (nd : Nod) (i n : Nat) (g : Nat → Int) (E : List Nod) (C : List Int) (hi : i ≤ n) : classM nd i (fun j => ((List.range n).map g).getD j 0) E C = classM nd i g E C := by
  unfold classM
  rw [turnM_congr nd.kids i n g hi]
theorem runRs_snoc (l : List Nod) (L : List Nat) (s : StR) (j : Nat) (hj : j < L.length) : runRs l (L.take (j + 1)) s = stepR l (runRs l (L.take j) s) (L.getD j 0) := by
  unfold runRs
  rw [List.take_succ_eq_append_getElem hj, List.foldl_append, show L.getD j 0 = L[j] by simp [List.getD, hj]]
  rfl
theorem runRs_len (l : List Nod) : ∀ (L : List Nat) (s : StR), (runRs l L s).E.length = s.E.length + L.length ∧ (runRs l L s).C.length = s.C.length + L.length
  | [], s => ⟨rfl, rfl⟩
  | i :: L, s => by
    have := runRs_len l L (stepR l s i)
    show (runRs l L (stepR l s i)).E.length = _ ∧ (runRs l L (stepR l s i)).C.length = _
    rw [this.1, this.2]
    unfold stepR
    simp only [List.length_append, List.length_cons, List.length_nil]
    omega
theorem runRs_kids (l : List Nod) (hl : ∀ j, j < l.length → (l.getD j Nod.zero).kids.length ≤ 1048576) : ∀ (L : List Nat) (s : StR), (∀ e ∈ s.E, e.kids.length ≤ 1048576) → ∀ e ∈ (runRs l L s).E, e.kids.length ≤ 1048576
  | [], _, h => h
  | i :: L, s, h => by
    show ∀ e ∈ (runRs l L (stepR l s i)).E, _
    refine runRs_kids l hl L _ fun e he => ?_
    unfold stepR at he
    rcases List.mem_append.1 he with he | he
    · exact h e he
    · rw [List.mem_singleton] at he
      rw [he]
      show (turnM (l.getD i Nod.zero).kids i s.g).length ≤ _
      rw [turnM_len]
      by_cases hi : i < l.length
      · exact hl i hi
      · rw [show l.getD i Nod.zero = Nod.zero by simp [List.getD, hi]]
        exact Nat.zero_le _

set_option maxRecDepth 100000 in
set_option maxHeartbeats 8000000 in
theorem rsameS_in (va vb : Value) (a b : List Nod) (i k : Nat) (w : World) (ha : RdN w.heap.size w va a) (hb : RdN w.heap.size w vb b) (hi : i < a.length) (hk : k < b.length) (hA20 : a.length ≤ 1048576) (hB20 : b.length ≤ 1048576) (hsa : ∀ j, j < a.length → (a.getD j Nod.zero).kids.length ≤ 1048576) (hsb : ∀ j, j < b.length → (b.getD j Nod.zero).kids.length ≤ 1048576) :
    Calls Tryz.prog 12 #[va, .int .i64 (i : Int), vb, .int .i64 (k : Int)] w fun e w' => e = .returned (.bool (sameR a i b k)) ∧ Below w.heap.size w w' := by
  obtain ⟨j0, hji, jz0, jz1, jz2⟩ := info_parts infoInt
  have CB1 := hide' (fun W (bw : Below w.heap.size w W) rv (h1 : RdI W.heap.size W rv [(i : Int)]) => rbelow_any va a rv [(i : Int)] W (rdN_mono (rdN_below ha bw) bw.size) h1)
  have CB2 := hide' (fun W (bw : Below w.heap.size w W) rv (h1 : RdI W.heap.size W rv [(k : Int)]) => rbelow_any vb b rv [(k : Int)] W (rdN_mono (rdN_below hb bw) bw.size) h1)
  rw [rbelow_one a i hi] at CB1
  rw [rbelow_one b k hk] at CB2
  have hla := belowR_len a i hi
  have hlb := belowR_len b k hk
  obtain ⟨X, hX⟩ : ∃ X, belowR (kidsOf a) i = X := ⟨_, rfl⟩
  obtain ⟨Y, hY⟩ : ∃ Y, belowR (kidsOf b) k = Y := ⟨_, rfl⟩
  have HXle : Hid' (∀ j, j < X.length → X.getD j 0 ≤ i) := ⟨fun j hj => belowR_le (K := kidsOf a) (by rw [hX, show X.getD j 0 = X[j] by simp [List.getD, hj]]; exact List.getElem_mem hj)⟩
  have HYle : Hid' (∀ j, j < Y.length → Y.getD j 0 ≤ k) := ⟨fun j hj => belowR_le (K := kidsOf b) (by rw [hY, show Y.getD j 0 = Y[j] by simp [List.getD, hj]]; exact List.getElem_mem hj)⟩
  have HA := hide' ha
  have HB := hide' hb
  obtain ⟨ao, ac, hva, hal, _⟩ := ha
  subst hva
  obtain ⟨bo, bc, hvb, hbl, _⟩ := hb
  subst hvb
  rw [hX] at CB1 hla
  rw [hY] at CB2 hlb
  obtain ⟨R, hR⟩ : ∃ R, sameR a i b k = R := ⟨_, rfl⟩
  have HR : Hid' ((decide (0 ≤ (runRs a X ⟨[], [], fun _ => 0⟩).g i) && decide ((runRs a X ⟨[], [], fun _ => 0⟩).g i = (runRs b Y ⟨(runRs a X ⟨[], [], fun _ => 0⟩).E, (runRs a X ⟨[], [], fun _ => 0⟩).C, fun _ => 0⟩).g k)) = R) := ⟨by rw [← hR, ← hX, ← hY]; rfl⟩
  rw [hR]
  obtain ⟨AL, hAL⟩ : ∃ AL, a.length = AL := ⟨_, rfl⟩
  obtain ⟨BL, hBL⟩ : ∃ BL, b.length = BL := ⟨_, rfl⟩
  have HAL := hide' hAL
  have HBL := hide' hBL
  rw [hAL] at hi hla hal hA20 CB1 hsa HA ⊢
  rw [hBL] at hk hlb hbl hB20 CB2 hsb HB ⊢
  have HSA := hide' hsa
  have HSB := hide' hsb
  have f1 : decide ((i : Int) < 0) = false := decide_eq_false (by omega)
  have f2 : decide ((k : Int) < 0) = false := decide_eq_false (by omega)
  have f3 : decide ((i : Int) ≥ (AL : Int)) = false := decide_eq_false (by omega)
  have f4 : decide ((k : Int) ≥ (BL : Int)) = false := decide_eq_false (by omega)
  clear hX hY hR hAL hBL hsa hsb
  go_enter Tryz.func12, Tryz.ntmps12
  go_upto_region 6 with (first
    | (go_at_call 10; refine (CB1.out _ ((Below.refl _ _).alloc (Nat.le_refl _) _) _ (rdI_box _ _ _)).mono ?_; clear CB1; rintro e w1 ⟨va, rfl, ox, b1⟩; (have HB1 : Hid' (Below w.heap.size w w1) := ⟨((Below.refl _ _).alloc (Nat.le_refl _) _).trans (b1.mono (by simp))⟩); (have HOX := hide' ox); clear ox)
    | (go_at_call 10; refine (CB2.out _ (HB1.out.alloc HB1.out.size _) _ (rdI_box _ _ _)).mono ?_; clear CB2; rintro e w2 ⟨vb2, rfl, oy, b2⟩; (have HB2 : Hid' (Below w1.heap.size w1 w2) := ⟨((Below.refl _ _).alloc (Nat.le_refl _) _).trans (b2.mono (by simp))⟩); (have HOY := hide' oy); clear oy))
  obtain ⟨xo, xc, hvx, hxc⟩ := ownI_cells HOX.out
  subst hvx
  obtain ⟨yo, yc, hvy, hyc⟩ := ownI_cells HOY.out
  subst hvy
  have HXC := hide' hxc
  have HYC := hide' hyc
  obtain ⟨XN, hXN⟩ : ∃ XN, X.length = XN := ⟨_, rfl⟩
  obtain ⟨YN, hYN⟩ : ∃ YN, Y.length = YN := ⟨_, rfl⟩
  have HXN := hide' hXN
  have HYN := hide' hYN
  rw [hXN] at hla HXC HXle ⊢
  rw [hYN] at hlb HYC HYle ⊢
  have sz1 := HB1.out.size
  have sz2 := HB2.out.size
  clear hxc hyc hXN hYN HOX HOY b1 b2
  go_upto_region 9 with (first
    | (at_make; refine wpList_make_full _ rfl _ _ 28 rfl w2.heap.size 3 j0 _ 1 Tryz.underlying28 hji jz0 jz1 _ _ _ _ AL rfl rfl rfl rfl (by rw [jz2]; omega) (by unfold maxLen; omega) (Nat.le_refl _) ?_; intro w3 o3 g3; (have B3 := (Below.refl w2.heap.size w2).grown g3 (Nat.le_refl _) (fun k e => by cases e)); (have I3 := hide' (int_made o3)); (have s3 : w2.heap.size < w3.heap.size := (o3.lt _ rfl).2); clear o3 g3)
    | (at_make; refine wpList_make_full _ rfl _ _ 28 rfl w3.heap.size 3 j0 _ 1 Tryz.underlying28 hji jz0 jz1 _ _ _ _ BL rfl rfl rfl rfl (by rw [jz2]; omega) (by unfold maxLen; omega) (Nat.le_refl _) ?_; intro w4 o4 g4; (have B4 := (Below.refl w3.heap.size w3).grown g4 (Nat.le_refl _) (fun k e => by cases e)); (have I4 := hide' (int_made o4)); (have s4 : w3.heap.size < w4.heap.size := (o4.lt _ rfl).2); clear o4 g4))
  have HB4 : Hid' (Below w.heap.size w w4) := ⟨(HB1.out.trans (HB2.out.mono sz1)).trans ((B3.trans (B4.mono (Nat.le_of_lt s3))).mono (by omega))⟩
  have HF4 : Hid' (IntR w4 w2.heap.size AL (fun _ => 0)) := ⟨I3.out.below B4 s3⟩
  have HX4 : Hid' (∀ j, j < XN → ∃ g, xo = some ⟨g, 0, none⟩ ∧ g < w2.heap.size ∧ w4.cell? ⟨g, j, none⟩ = some (.int .i64 ((X.getD j 0 : Nat) : Int))) := ⟨fun j hj => by
    obtain ⟨g, e1, e2, e3, e4⟩ := HXC.out j hj
    refine ⟨g, e1, by omega, ?_⟩
    rw [B4.cell (p := ⟨g, j, none⟩) (by show g < _; omega), B3.cell (p := ⟨g, j, none⟩) (by show g < _; omega), HB2.out.cell (p := ⟨g, j, none⟩) (by show g < _; omega)]
    exact e4⟩
  have HY4 : Hid' (∀ j, j < YN → ∃ g, yo = some ⟨g, 0, none⟩ ∧ g < w2.heap.size ∧ w4.cell? ⟨g, j, none⟩ = some (.int .i64 ((Y.getD j 0 : Nat) : Int))) := ⟨fun j hj => by
    obtain ⟨g, e1, e2, e3, e4⟩ := HYC.out j hj
    refine ⟨g, e1, e3, ?_⟩
    rw [B4.cell (p := ⟨g, j, none⟩) (by show g < _; omega), B3.cell (p := ⟨g, j, none⟩) (by show g < _; omega)]
    exact e4⟩
  have HS4 : Hid' (SS w.heap.size w4.heap.size w2.heap.size AL w4 w4 (runRs a (X.take 0) ⟨[], [], fun _ => 0⟩).g (.slice none 0 0) (.slice none 0 0) (runRs a (X.take 0) ⟨[], [], fun _ => 0⟩).E (runRs a (X.take 0) ⟨[], [], fun _ => 0⟩).C) := ⟨⟨Below.refl _ _, Nat.le_refl _, fun _ _ _ => rfl, HF4.out, ⟨[], ⟨rfl, World.ownsRow_nil _ _ _ _, fun j hj => absurd hj (Nat.not_lt_zero _)⟩⟩, ownZ_nil _ _, rfl⟩⟩
  have hB2 : w.heap.size ≤ w2.heap.size := by omega
  have hfb : w2.heap.size < w4.heap.size := by omega
  obtain ⟨fb, hfbe⟩ : ∃ fb, w2.heap.size = fb := ⟨_, rfl⟩
  obtain ⟨sb, hsbe⟩ : ∃ sb, w3.heap.size = sb := ⟨_, rfl⟩
  have HLNs := hide' (runRs_len a)
  have HSNs := hide' (runRs_snoc a X ⟨[], [], fun _ => 0⟩)
  rw [HXN.out] at HSNs
  rw [hfbe] at HX4 HY4 HS4 HF4 hB2 hfb s3 ⊢
  rw [hsbe] at I4 s3 s4 ⊢
  clear B3 B4 I3 HXC HYC
  go_loopw [11, 12, 15] (fun vl vc vj wr => ∃ j : Nat, vj = .int .i64 (j : Int) ∧ j ≤ XN ∧ Hid' (SS w.heap.size w4.heap.size fb AL w4 wr (runRs a (X.take j) ⟨[], [], fun _ => 0⟩).g vl vc (runRs a (X.take j) ⟨[], [], fun _ => 0⟩).E (runRs a (X.take j) ⟨[], [], fun _ => 0⟩).C)) (fun _ _ vj _ => XN - (intOf vj).toNat)
  case atStart => exact ⟨0, rfl, Nat.zero_le _, HS4⟩
  case round =>
    obtain ⟨j, rfl, hj, HS⟩ := hrel
    by_cases h1 : j < XN
    · obtain ⟨gx, ex, hgx, hxcell⟩ := HX4.out j h1
      subst ex
      have hxi := HXle.out j h1
      have HSN := hide' (HSNs.out j h1)
      have hlE := (HLNs.out (X.take j) ⟨[], [], fun _ => 0⟩).1
      have hlC := (HLNs.out (X.take j) ⟨[], [], fun _ => 0⟩).2
      have hkE := hide' (runRs_kids a (by rw [HAL.out]; exact HSA.out) (X.take j) ⟨[], [], fun _ => 0⟩ (fun e he => absurd he (by simp)))
      obtain ⟨q, hq⟩ : ∃ q, X.getD j 0 = q := ⟨_, rfl⟩
      rw [hq] at hxi hxcell HSN
      obtain ⟨st, hst⟩ : ∃ st, runRs a (X.take j) ⟨[], [], fun _ => 0⟩ = st := ⟨_, rfl⟩
      rw [hst] at HS HSN hlE hlC hkE
      have hXt : (X.take j).length = j := by rw [List.length_take, HXN.out]; omega
      rw [hXt] at hlE hlC
      obtain ⟨rn, hrn⟩ : ∃ rn, 0 + j = rn := ⟨_, rfl⟩
      have hE : st.E.length = rn := by rw [hlE, ← hrn]; rfl
      have hC : st.C.length = rn := by rw [hlC, ← hrn]; rfl
      have hrn20 : rn ≤ 4194304 := by omega
      clear hrn
      have hqA : q < AL := by omega
      obtain ⟨ks, hrows⟩ := HS.out.row
      obtain ⟨lo, lc, hvl⟩ := ownR_slice hrows.own
      obtain ⟨co, cc, hvc⟩ := ownZ_slice HS.out.cl
      rw [hE] at hvl
      rw [hC] at hvc
      subst hvl hvc
      have HRW := hide' hrows
      have hxw : wr.cell? ⟨gx, j, none⟩ = some (.int .i64 (q : Int)) := (World.cell?_of_block (a := ⟨gx, j, none⟩) (HS.out.low gx (by omega) (by omega))).trans hxcell
      have hgw : gx < wr.heap.size := by have := HS.out.sz; omega
      have hgf : ¬ gx = fb := by omega
      have hfg : ¬ fb = gx := by omega
      have HWB : Hid' (Below w.heap.size w wr) := ⟨HB4.out.trans HS.out.bel⟩
      obtain ⟨c, hc⟩ : ∃ c, classM (a.getD q Nod.zero) q st.g st.E st.C = c := ⟨_, rfl⟩
      have CC : Hid' (∀ W, Below wr.heap.size wr W → Calls Tryz.prog 21 #[.slice ao AL ac, .int .i64 (q : Int), .slice (some ⟨fb, 0, none⟩) AL AL, .slice lo rn lc, .slice co rn cc] W fun e w' => e = .returned (.int .i64 c) ∧ Below W.heap.size W w') := ⟨fun W bw => by
        have hs := HS.out.below (by omega) hfb bw
        obtain ⟨ks', hr'⟩ := hs.row
        have hbw : Below w.heap.size w W := HWB.out.trans (bw.mono HWB.out.size)
        have hsz := hs.sz
        have := rclassed_any (.slice ao AL ac) a q (.slice (some ⟨fb, 0, none⟩) AL AL) ((List.range AL).map st.g) (.slice lo rn lc) st.E (.slice co rn cc) st.C W (rdN_mono (rdN_below HA.out hbw) hbw.size) (by rw [HAL.out]; exact hqA) (hs.fr.rdI (by omega) (by omega)) (by simp; omega) (HSA.out q hqA)
          (hr'.rdN (by omega) (by omega) (fun m hm => by
            have := hkE.out (st.E.getD m Nod.zero) (by rw [show st.E.getD m Nod.zero = st.E[m] by simp [List.getD, hm]]; exact List.getElem_mem hm)
            omega)) (ownZ_rdI hs.cl (by omega)) (by omega)
        rw [classM_congr _ _ _ _ _ _ (by omega), hc] at this
        exact this⟩
      have HCM := hide' hc
      have HST := hide' hst
      clear hq hst hXt hlE hlC hrows hxcell hc
      go_upto_region 11 with fail
      go_region_held3 (fun w' => w'.cell? ⟨gx, j, none⟩ = some (.int .i64 (q : Int))) (go_keep) (first
        | (go_at_call 21; refine (CC.out _ ((Below.refl _ _).drew)).mono ?_; clear CC; rintro e W5 ⟨rfl, b5⟩; (have bq : Below wr.heap.size wr W5 := ((Below.refl _ _).drew).trans b5); (have x5 := (bq.cell (p := ⟨gx, j, none⟩) hgw).trans hxw); (have HS5 := hide' (HS.out.below (by omega) hfb bq)); (have c5 := HS5.out.fr.cells q hqA); (have z5 := HS5.out.fr.froze q hqA); clear b5))
      go_upto_region 12 with fail
      have HSm := hide' (HS5.out.store hB2 hfb hqA c)
      generalize W5.setCell ⟨fb, q, none⟩ (.int .i64 c) = Wm at *
      obtain ⟨ks2, hr2⟩ := HSm.out.row
      have HR2 := hide' hr2
      have HRO : Hid' (Wm.ownsRow w4.heap.size 37 6 (.slice lo rn lc) rn (nCells st.E ks2)) := ⟨by have := hr2.own; rw [hE] at this; exact this⟩
      have HCO : Hid' (Wm.ownsRow w4.heap.size 3 1 (.slice co rn cc) rn (zCells st.C)) := ⟨by have := HSm.out.cl; unfold OwnZ at this; rw [hC] at this; exact this⟩
      have HLO : Hid' (∀ k, (Value.slice lo rn lc).ownBlock = some k → w4.heap.size ≤ k ∧ k < Wm.heap.size) := ⟨fun k hk => HRO.out.lt k hk⟩
      have HCX : Hid' (∀ x, (Value.slice co rn cc).ownBlock = some x → x < Wm.heap.size ∧ (Value.slice lo rn lc).ownBlock ≠ some x) := ⟨fun x hx => ⟨(HCO.out.lt x hx).2, fun e => rows_apart HRO.out HCO.out node_int x e hx⟩⟩
      have HWm : Hid' (Below w.heap.size w Wm) := ⟨HB4.out.trans HSm.out.bel⟩
      have hszm := HSm.out.sz
      obtain ⟨_, _, hva2, _, hca⟩ := HA.out
      injection hva2 with ea1 ea2 ea3
      obtain ⟨ga, oa, pv, kv, ea, hga, hat⟩ := hca q (by rw [HAL.out]; exact hqA)
      subst ea1
      subst ea
      obtain ⟨n0, n1, n2, n3, n4, n5, rpa, rka⟩ := hat
      obtain ⟨po, pc, hpv, _, _⟩ := id rpa
      subst hpv
      obtain ⟨ko, kc, hkv, _, _⟩ := id rka
      subst hkv
      have HRPA : Hid' (RdP w.heap.size Wm (.slice po (a.getD q Nod.zero).path.length pc) (a.getD q Nod.zero).path) := ⟨rdP_below rpa HWm.out⟩
      have m0 : Wm.cell? ⟨gx, j, none⟩ = some (.int .i64 (q : Int)) := (World.cell?_of_block (a := ⟨gx, j, none⟩) ((HSm.out.low gx (by omega) hgf).trans (HS.out.low gx (by omega) hgf).symm)).trans hxw
      have m1 := (HWm.out.cell (p := ⟨ga, oa + q * 6, none⟩) hga).trans n0
      have m2 := (HWm.out.cell (p := ⟨ga, oa + q * 6 + 1, none⟩) hga).trans n1
      have m3 := (HWm.out.cell (p := ⟨ga, oa + q * 6 + 2, none⟩) hga).trans n2
      have m4 := (HWm.out.cell (p := ⟨ga, oa + q * 6 + 3, none⟩) hga).trans n3
      have m5 := (HWm.out.cell (p := ⟨ga, oa + q * 6 + 4, none⟩) hga).trans n4
      have m6 := (HWm.out.cell (p := ⟨ga, oa + q * 6 + 5, none⟩) hga).trans n5
      have m7 : Wm.cell? ⟨fb, q, none⟩ = some (.int .i64 c) := by have := HSm.out.fr.cells q hqA; rw [updN_same] at this; exact this
      obtain ⟨tx, htx⟩ : ∃ tx, ByteArray.mk (a.getD q Nod.zero).text.toArray = tx := ⟨_, rfl⟩
      obtain ⟨tk, htk⟩ : ∃ tk, (a.getD q Nod.zero).kind = tk := ⟨_, rfl⟩
      obtain ⟨tl, htl⟩ : ∃ tl, (a.getD q Nod.zero).line = tl := ⟨_, rfl⟩
      obtain ⟨tc, htc⟩ : ∃ tc, (a.getD q Nod.zero).column = tc := ⟨_, rfl⟩
      obtain ⟨PN, hPN⟩ : ∃ PN, (a.getD q Nod.zero).path.length = PN := ⟨_, rfl⟩
      obtain ⟨KN, hKN⟩ : ∃ KN, (a.getD q Nod.zero).kids.length = KN := ⟨_, rfl⟩
      rw [htk] at m1
      rw [htx] at m2
      rw [hPN] at m3 HRPA
      rw [hKN] at m4
      rw [htl] at m5
      rw [htc] at m6
      have HSIX : Hid' (sixC (a.getD q Nod.zero) (.slice po PN pc, .slice ko KN kc) = [.int .i64 tk, .string tx, .slice po PN pc, .slice ko KN kc, .int .i64 tl, .int .i64 tc]) := ⟨by unfold sixC; rw [htk, htx, htl, htc]⟩
      have HGX2 : Hid' (gx < w4.heap.size) := ⟨by omega⟩
      have HGA2 : Hid' (ga < w4.heap.size) := ⟨by have := HB4.out.size; omega⟩
      obtain ⟨jn, hjn, jn0, jn1, jn2⟩ := info_parts infoNode
      clear n0 n1 n2 n3 n4 n5 rpa rka hr2 hca ea2 ea3 htx htk htl htc hPN hKN x5 c5 z5 bq
      go_cut [11, 12] (fun vl vc wx => ∃ (gl capl gc capc : Nat), vl = .slice (some ⟨gl, 0, none⟩) (rn + 1) capl ∧ vc = .slice (some ⟨gc, 0, none⟩) (rn + 1) capc ∧ Hid' (MidS w.heap.size w4.heap.size fb AL w4 wx (updN st.g q c) gl capl gc capc rn st.E (st.C ++ [c]) ks2 (a.getD q Nod.zero) (.slice po PN pc) (.slice ko KN kc)))
      case first =>
        go_region_held3 (fun w' => w'.cell? ⟨gx, j, none⟩ = some (.int .i64 (q : Int)) ∧ w'.cell? ⟨ga, oa + q * 6, none⟩ = some (.int .i64 tk) ∧ w'.cell? ⟨ga, oa + q * 6 + 1, none⟩ = some (.string tx) ∧ w'.cell? ⟨ga, oa + q * 6 + 2, none⟩ = some (.slice po PN pc) ∧ w'.cell? ⟨ga, oa + q * 6 + 3, none⟩ = some (.slice ko KN kc) ∧ w'.cell? ⟨ga, oa + q * 6 + 4, none⟩ = some (.int .i64 tl) ∧ w'.cell? ⟨ga, oa + q * 6 + 5, none⟩ = some (.int .i64 tc) ∧ w'.cell? ⟨fb, q, none⟩ = some (.int .i64 c)) (go_keep) (first
          | (refine step_append_lies _ (by rfl) _ _ 22 (by rfl) w4.heap.size 37 jn (.agg #[.int .i64 0, .string ⟨#[]⟩, .slice none 0 0, .slice none 0 0, .int .i64 0, .int .i64 0]) 6 88 Tryz.underlying22 hjn jn0 jn1 jn2 rfl (by decide) (.slice lo rn lc) rn (nCells st.E ks2) (by rfl) (own_kept HRO.out (by first | exact ((Below.refl _ _).drew).alloc (Nat.le_refl _) _ | exact (((Below.refl _ _).drew).alloc (Nat.le_refl _) _).alloc (by simp) _)) ⟨_, 0, none⟩ 1 1 [.int .i64 tk, .string tx, .slice po PN pc, .slice ko KN kc, .int .i64 tl, .int .i64 tc] (by rfl) rfl (by first | exact cellsAt (by simp) _ _ | exact cellsAt2 (by simp) _ _ _) (by simp [Value.oneCell']) (by decide) (by unfold maxLen; omega) (by omega) (by simp; omega) _ rfl ?_; intro gl capl w6 hown6 hgrow6 hat6 hlt6; (have F6 := appL_facts (Wm := Wm) (cv := .slice co rn cc) (by first | exact ((Below.refl _ _).drew).alloc (Nat.le_refl _) _ | exact (((Below.refl _ _).drew).alloc (Nat.le_refl _) _).alloc (by simp) _) hgrow6 HLO.out hszm HCX.out); (have p0 := (World.cell?_of_block (a := ⟨gx, j, none⟩) (F6.1 _ HGX2.out)).trans m0); (have p1 := (World.cell?_of_block (a := ⟨ga, oa + q * 6, none⟩) (F6.1 _ HGA2.out)).trans m1); (have p2 := (World.cell?_of_block (a := ⟨ga, oa + q * 6 + 1, none⟩) (F6.1 _ HGA2.out)).trans m2); (have p3 := (World.cell?_of_block (a := ⟨ga, oa + q * 6 + 2, none⟩) (F6.1 _ HGA2.out)).trans m3); (have p4 := (World.cell?_of_block (a := ⟨ga, oa + q * 6 + 3, none⟩) (F6.1 _ HGA2.out)).trans m4); (have p5 := (World.cell?_of_block (a := ⟨ga, oa + q * 6 + 4, none⟩) (F6.1 _ HGA2.out)).trans m5); (have p6 := (World.cell?_of_block (a := ⟨ga, oa + q * 6 + 5, none⟩) (F6.1 _ HGA2.out)).trans m6); (have p7 := (World.cell?_of_block (a := ⟨fb, q, none⟩) (F6.1 _ hfb)).trans m7); (have HF6 := hide' F6); (have HG6 := hide' hgrow6); (have HO6 := hide' hown6); (have HA6 := hide' hat6); (have s6 := F6.2.2.2); clear F6 hgrow6 hown6 hat6)
          | (refine step_append_lies _ (by rfl) _ _ 28 (by rfl) w4.heap.size 3 j0 (.int .i64 0) 1 8 Tryz.underlying28 hji jz0 jz1 jz2 rfl (by decide) (.slice co rn cc) rn (zCells st.C) (by rfl) (by first | exact (row_keep HCO.out HF6.out.2.1).alloc _ | exact row_keep HCO.out HF6.out.2.1) ⟨_, 0, none⟩ 1 1 [.int .i64 c] (by rfl) rfl (by first | exact cellsAt (by simp) _ _ | (intro jj u hu; exact (World.cell?_of_block (by rw [addBlock]; exact HF6.out.2.2.1 _ (by first | (simp; done) | (simp; omega)) (by first | (simp; done) | (simp; omega)))).trans (cellsAt (by simp) _ _ jj u hu)) | (intro jj u hu; exact (World.cell?_of_block (by rw [addBlock]; exact HF6.out.2.2.1 _ (by first | (simp; done) | (simp; omega)) (by first | (simp; done) | (simp; omega)))).trans (cellsAt2 (by simp) _ _ _ jj u hu))) (by simp [Value.oneCell']) (by decide) (by unfold maxLen; omega) (by omega) (by first | omega | (simp; omega)) _ rfl ?_; intro gc capc w7 hown7 hgrow7 hat7 hlt7; (have E7 := appC_facts (w6 := w6) (by first | exact Below.refl _ _ | exact (Below.refl _ _).alloc (Nat.le_refl _) _) hgrow7 (fun x hx => (HCO.out.lt x hx).1) (Nat.le_trans hszm s6)); (have r0 := (World.cell?_of_block (a := ⟨gx, j, none⟩) (E7 _ HGX2.out)).trans p0); (have r1 := (World.cell?_of_block (a := ⟨ga, oa + q * 6, none⟩) (E7 _ HGA2.out)).trans p1); (have r2 := (World.cell?_of_block (a := ⟨ga, oa + q * 6 + 1, none⟩) (E7 _ HGA2.out)).trans p2); (have r3 := (World.cell?_of_block (a := ⟨ga, oa + q * 6 + 2, none⟩) (E7 _ HGA2.out)).trans p3); (have r4 := (World.cell?_of_block (a := ⟨ga, oa + q * 6 + 3, none⟩) (E7 _ HGA2.out)).trans p4); (have r5 := (World.cell?_of_block (a := ⟨ga, oa + q * 6 + 4, none⟩) (E7 _ HGA2.out)).trans p5); (have r6 := (World.cell?_of_block (a := ⟨ga, oa + q * 6 + 5, none⟩) (E7 _ HGA2.out)).trans p6); (have r7 := (World.cell?_of_block (a := ⟨fb, q, none⟩) (E7 _ hfb)).trans p7); (have HG7 := hide' hgrow7); (have HO7 := hide' hown7); (have HA7 := hide' hat7); clear E7 hgrow7 hown7 hat7)
          | fail)
        all_goals (
          go_wp2_with fail
          go_meet
          refine ⟨gl, capl, gc, capc, rfl, rfl, ⟨?_⟩⟩
          exact mid_of HSm.out HR2.out hB2 hfb hE (by first | exact ((Below.refl _ _).drew).alloc (Nat.le_refl _) _ | exact (((Below.refl _ _).drew).alloc (Nat.le_refl _) _).alloc (by simp) _) HG6.out HA6.out (by rw [HSIX.out]; exact HO6.out) (by first | exact Below.refl _ _ | exact (Below.refl _ _).alloc (Nat.le_refl _) _) HG7.out HA7.out HO7.out HRPA.out)
      case rest =>
        obtain ⟨gl, capl, gc, capc, rfl, rfl, HM⟩ := hcut
        have HWc : Hid' (Below w.heap.size w wc) := ⟨HB4.out.trans HM.out.bel⟩
        have hszc := HM.out.sz
        have m0c : wc.cell? ⟨gx, j, none⟩ = some (.int .i64 (q : Int)) := (World.cell?_of_block (a := ⟨gx, j, none⟩) ((HM.out.low gx (by omega) hgf).trans (HS.out.low gx (by omega) hgf).symm)).trans hxw
        have CT := hide' (rturned_any (.slice (some ⟨ga, oa, none⟩) AL ac) a q (.slice (some ⟨fb, 0, none⟩) AL AL) ((List.range AL).map (updN st.g q c)) wc (rdN_mono (rdN_below HA.out HWc.out) HWc.out.size) (by rw [HAL.out]; exact hqA) (HM.out.fr.rdI (by omega) (by omega)) (by simp; omega) (HSA.out q hqA))
        rw [turnM_congr _ _ _ _ (by omega), turnM_upd] at CT
        have HO8 : Hid' (∀ W8, Below wc.heap.size wc W8 → (∃ u, W8.cell? ⟨gl, rn * 6 + 3, none⟩ = some u) ∧ W8.frozen? ⟨gl, rn * 6 + 3, none⟩ = false) := ⟨fun W8 b8 => by
          have o8 := own_kept HM.out.own b8
          have hlen := (nCells_len st.E ks2 HM.out.klen)
          refine ⟨?_, o8.frozenAt _⟩
          rw [o8.cellAt (rn * 6 + 3) (by omega)]
          rw [List.getElem?_append_right (by rw [hlen, hE]; omega), hlen, hE, show rn * 6 + 3 - rn * 6 = 3 by omega]
          exact ⟨_, rfl⟩⟩
        have HEND : Hid' (∀ W8 kv, Below wc.heap.size wc W8 → OwnZ wc.heap.size kv (turnM (a.getD q Nod.zero).kids q st.g) W8 → SS w.heap.size w4.heap.size fb AL w4 (W8.setCell ⟨gl, rn * 6 + 3, none⟩ kv) (runRs a (X.take (j + 1)) ⟨[], [], fun _ => 0⟩).g (.slice (some ⟨gl, 0, none⟩) (rn + 1) capl) (.slice (some ⟨gc, 0, none⟩) (rn + 1) capc) (runRs a (X.take (j + 1)) ⟨[], [], fun _ => 0⟩).E (runRs a (X.take (j + 1)) ⟨[], [], fun _ => 0⟩).C) := ⟨fun W8 kv b8 ok => by
          have := mid_end HM.out (by omega) hfb (by rw [List.length_append, hC]; rfl) b8 ok
          rw [HSN.out]
          unfold stepR
          rw [HCM.out]
          exact this⟩
        have jm : ((rn + 1 : Nat) : Int) - 1 = (rn : Int) := by omega
        clear HS HS5 HSm HR2 HRO HCO HLO HCX HRW m0 m1 m2 m3 m4 m5 m6 m7 hxw HSN HCM HST hkE
        go_wp2_with (go_at_call 22; refine CT.out.mono ?_; clear CT; rintro e W8 ⟨kv, rfl, ok, b8⟩; (obtain ⟨ko8, kc8, hk8⟩ := ownZ_slice ok); subst hk8; (obtain ⟨u8v, hu8⟩ := (HO8.out W8 b8).1); (have hf8 := (HO8.out W8 b8).2); (have HN8 := hide' (HEND.out W8 _ b8 ok)); clear ok b8; (generalize (turnM (a.getD q Nod.zero).kids q st.g).length = TL at *))
        go_roundw
        case rel => exact ⟨j + 1, by go_num, by omega, HN8⟩
        case measure => first | (simp [intOf]; done) | (simp [intOf]; omega)
    · obtain ⟨st1, hst1⟩ : ∃ st1, runRs a X ⟨[], [], fun _ => 0⟩ = st1 := ⟨_, rfl⟩
      have hXt : X.take j = X := List.take_of_length_le (by rw [HXN.out]; omega)
      have hl1 := HLNs.out X ⟨[], [], fun _ => 0⟩
      have HK0 := hide' (runRs_kids a (by rw [HAL.out]; exact HSA.out) X ⟨[], [], fun _ => 0⟩ (fun e he => absurd he (by simp)))
      rw [hXt] at HS
      rw [hst1] at HS HR hl1 HK0
      obtain ⟨E1, C1, g1⟩ := st1
      obtain ⟨EN1, hEN1⟩ : ∃ EN1, E1.length = EN1 := ⟨_, rfl⟩
      have hE1 : EN1 = XN := by rw [← hEN1]; have := hl1.1; rw [HXN.out] at this; show E1.length = XN; rw [this]; exact Nat.zero_add XN
      have HEN1 := hide' hEN1
      have HCN1 : Hid' (C1.length = EN1) := ⟨by rw [HS.out.len]; exact hEN1⟩
      have HK1 : Hid' (∀ e ∈ (⟨E1, C1, fun _ => 0⟩ : StR).E, e.kids.length ≤ 1048576) := ⟨HK0.out⟩
      obtain ⟨ws, hws⟩ : ∃ ws, wr = ws := ⟨_, rfl⟩
      have HS1 := hide' HS.out
      rw [hws] at HS1
      have HBS : Hid' (Below w.heap.size w ws) := ⟨HB4.out.trans HS1.out.bel⟩
      have hsb : sb < w4.heap.size := s4
      have hB2s : w.heap.size ≤ sb := by omega
      have HFS : Hid' (IntR ws sb BL (fun _ => 0)) := ⟨⟨fun m hm => (World.cell?_of_block (a := ⟨sb, m, none⟩) (HS1.out.low sb (by omega) (by omega))).trans (I4.out.cells m hm), fun m hm => (World.frozen?_of_block (a := ⟨sb, m, none⟩) (HS1.out.low sb (by omega) (by omega))).trans (I4.out.froze m hm)⟩⟩
      have HYW : Hid' (∀ j, j < YN → ∃ g, yo = some ⟨g, 0, none⟩ ∧ g < fb ∧ ws.cell? ⟨g, j, none⟩ = some (.int .i64 ((Y.getD j 0 : Nat) : Int))) := ⟨fun m hm => by
        obtain ⟨g, e1, e2, e3⟩ := HY4.out m hm
        exact ⟨g, e1, e2, (World.cell?_of_block (a := ⟨g, m, none⟩) (HS1.out.low g (by omega) (by omega))).trans e3⟩⟩
      have HC1 : Hid' (ws.cell? ⟨fb, i, none⟩ = some (.int .i64 (g1 i))) := ⟨HS1.out.fr.cells i hi⟩
      have HLNt := hide' (runRs_len b)
      have HSNt := hide' (runRs_snoc b Y ⟨E1, C1, fun _ => 0⟩)
      rw [HYN.out] at HSNt
      clear hXt hl1 HK0 hst1 hEN1
      go_upto_region 15 with fail
      try rw [hws]
      clear HS hws
      go_loopw [11, 12, 16] (fun vl vc vj wr => ∃ j : Nat, vj = .int .i64 (j : Int) ∧ j ≤ YN ∧ Hid' (SS w.heap.size w4.heap.size sb BL ws wr (runRs b (Y.take j) ⟨E1, C1, fun _ => 0⟩).g vl vc (runRs b (Y.take j) ⟨E1, C1, fun _ => 0⟩).E (runRs b (Y.take j) ⟨E1, C1, fun _ => 0⟩).C)) (fun _ _ vj _ => YN - (intOf vj).toNat)
      case atStart => exact ⟨0, rfl, Nat.zero_le _, ⟨⟨Below.refl _ _, HS1.out.sz, fun _ _ _ => rfl, HFS.out, HS1.out.row, HS1.out.cl, HS1.out.len⟩⟩⟩
      case round =>
        obtain ⟨j, rfl, hj, HS⟩ := hrel
        clear HS1 HFS
        by_cases h1 : j < YN
        · obtain ⟨gx, ex, hgx, hxcell⟩ := HYW.out j h1
          subst ex
          have hxi := HYle.out j h1
          have HSN := hide' (HSNt.out j h1)
          have hlE := (HLNt.out (Y.take j) ⟨E1, C1, fun _ => 0⟩).1
          have hlC := (HLNt.out (Y.take j) ⟨E1, C1, fun _ => 0⟩).2
          have hkE := hide' (runRs_kids b (by rw [HBL.out]; exact HSB.out) (Y.take j) ⟨E1, C1, fun _ => 0⟩ HK1.out)
          obtain ⟨q, hq⟩ : ∃ q, Y.getD j 0 = q := ⟨_, rfl⟩
          rw [hq] at hxi hxcell HSN
          obtain ⟨st, hst⟩ : ∃ st, runRs b (Y.take j) ⟨E1, C1, fun _ => 0⟩ = st := ⟨_, rfl⟩
          rw [hst] at HS HSN hlE hlC hkE
          have hXt : (Y.take j).length = j := by rw [List.length_take, HYN.out]; omega
          rw [hXt] at hlE hlC
          obtain ⟨rn, hrn⟩ : ∃ rn, EN1 + j = rn := ⟨_, rfl⟩
          have hE : st.E.length = rn := by rw [hlE, ← hrn]; show E1.length + j = _; rw [HEN1.out]
          have hC : st.C.length = rn := by rw [hlC, ← hrn]; show C1.length + j = _; rw [HCN1.out]
          have hrn20 : rn ≤ 4194304 := by omega
          clear hrn
          have hqA : q < BL := by omega
          obtain ⟨ks, hrows⟩ := HS.out.row
          obtain ⟨lo, lc, hvl⟩ := ownR_slice hrows.own
          obtain ⟨co, cc, hvc⟩ := ownZ_slice HS.out.cl
          rw [hE] at hvl
          rw [hC] at hvc
          subst hvl hvc
          have HRW := hide' hrows
          have hxw : wr.cell? ⟨gx, j, none⟩ = some (.int .i64 (q : Int)) := (World.cell?_of_block (a := ⟨gx, j, none⟩) (HS.out.low gx (by omega) (by omega))).trans hxcell
          have hgw : gx < wr.heap.size := by have := HS.out.sz; omega
          have hgf : ¬ gx = sb := by omega
          have hfg : ¬ sb = gx := by omega
          have HWB : Hid' (Below w.heap.size w wr) := ⟨HBS.out.trans HS.out.bel⟩
          obtain ⟨c, hc⟩ : ∃ c, classM (b.getD q Nod.zero) q st.g st.E st.C = c := ⟨_, rfl⟩
          have CC : Hid' (∀ W, Below wr.heap.size wr W → Calls Tryz.prog 21 #[.slice bo BL bc, .int .i64 (q : Int), .slice (some ⟨sb, 0, none⟩) BL BL, .slice lo rn lc, .slice co rn cc] W fun e w' => e = .returned (.int .i64 c) ∧ Below W.heap.size W w') := ⟨fun W bw => by
            have hs := HS.out.below (by omega) hsb bw
            obtain ⟨ks', hr'⟩ := hs.row
            have hbw : Below w.heap.size w W := HWB.out.trans (bw.mono HWB.out.size)
            have hsz := hs.sz
            have := rclassed_any (.slice bo BL bc) b q (.slice (some ⟨sb, 0, none⟩) BL BL) ((List.range BL).map st.g) (.slice lo rn lc) st.E (.slice co rn cc) st.C W (rdN_mono (rdN_below HB.out hbw) hbw.size) (by rw [HBL.out]; exact hqA) (hs.fr.rdI (by omega) (by omega)) (by simp; omega) (HSB.out q hqA)
              (hr'.rdN (by omega) (by omega) (fun m hm => by
                have := hkE.out (st.E.getD m Nod.zero) (by rw [show st.E.getD m Nod.zero = st.E[m] by simp [List.getD, hm]]; exact List.getElem_mem hm)
                omega)) (ownZ_rdI hs.cl (by omega)) (by omega)
            rw [classM_congr _ _ _ _ _ _ (by omega), hc] at this
            exact this⟩
          have HCM := hide' hc
          have HST := hide' hst
          clear hq hst hXt hlE hlC hrows hxcell hc
          go_upto_region 17 with fail
          go_region_held3 (fun w' => w'.cell? ⟨gx, j, none⟩ = some (.int .i64 (q : Int))) (go_keep) (first
            | (go_at_call 21; refine (CC.out _ ((Below.refl _ _).drew)).mono ?_; clear CC; rintro e W5 ⟨rfl, b5⟩; (have bq : Below wr.heap.size wr W5 := ((Below.refl _ _).drew).trans b5); (have x5 := (bq.cell (p := ⟨gx, j, none⟩) hgw).trans hxw); (have HS5 := hide' (HS.out.below (by omega) hsb bq)); (have c5 := HS5.out.fr.cells q hqA); (have z5 := HS5.out.fr.froze q hqA); clear b5))
          go_upto_region 18 with fail
          have HSm := hide' (HS5.out.store hB2s hsb hqA c)
          generalize W5.setCell ⟨sb, q, none⟩ (.int .i64 c) = Wm at *
          obtain ⟨ks2, hr2⟩ := HSm.out.row
          have HR2 := hide' hr2
          have HRO : Hid' (Wm.ownsRow w4.heap.size 37 6 (.slice lo rn lc) rn (nCells st.E ks2)) := ⟨by have := hr2.own; rw [hE] at this; exact this⟩
          have HCO : Hid' (Wm.ownsRow w4.heap.size 3 1 (.slice co rn cc) rn (zCells st.C)) := ⟨by have := HSm.out.cl; unfold OwnZ at this; rw [hC] at this; exact this⟩
          have HLO : Hid' (∀ k, (Value.slice lo rn lc).ownBlock = some k → w4.heap.size ≤ k ∧ k < Wm.heap.size) := ⟨fun k hk => HRO.out.lt k hk⟩
          have HCX : Hid' (∀ x, (Value.slice co rn cc).ownBlock = some x → x < Wm.heap.size ∧ (Value.slice lo rn lc).ownBlock ≠ some x) := ⟨fun x hx => ⟨(HCO.out.lt x hx).2, fun e => rows_apart HRO.out HCO.out node_int x e hx⟩⟩
          have HWm : Hid' (Below w.heap.size w Wm) := ⟨HBS.out.trans HSm.out.bel⟩
          have hszm := HSm.out.sz
          obtain ⟨_, _, hva2, _, hca⟩ := HB.out
          injection hva2 with ea1 ea2 ea3
          obtain ⟨ga, oa, pv, kv, ea, hga, hat⟩ := hca q (by rw [HBL.out]; exact hqA)
          subst ea1
          subst ea
          obtain ⟨n0, n1, n2, n3, n4, n5, rpa, rka⟩ := hat
          obtain ⟨po, pc, hpv, _, _⟩ := id rpa
          subst hpv
          obtain ⟨ko, kc, hkv, _, _⟩ := id rka
          subst hkv
          have HRPA : Hid' (RdP w.heap.size Wm (.slice po (b.getD q Nod.zero).path.length pc) (b.getD q Nod.zero).path) := ⟨rdP_below rpa HWm.out⟩
          have m0 : Wm.cell? ⟨gx, j, none⟩ = some (.int .i64 (q : Int)) := (World.cell?_of_block (a := ⟨gx, j, none⟩) ((HSm.out.low gx (by omega) hgf).trans (HS.out.low gx (by omega) hgf).symm)).trans hxw
          have m1 := (HWm.out.cell (p := ⟨ga, oa + q * 6, none⟩) hga).trans n0
          have m2 := (HWm.out.cell (p := ⟨ga, oa + q * 6 + 1, none⟩) hga).trans n1
          have m3 := (HWm.out.cell (p := ⟨ga, oa + q * 6 + 2, none⟩) hga).trans n2
          have m4 := (HWm.out.cell (p := ⟨ga, oa + q * 6 + 3, none⟩) hga).trans n3
          have m5 := (HWm.out.cell (p := ⟨ga, oa + q * 6 + 4, none⟩) hga).trans n4
          have m6 := (HWm.out.cell (p := ⟨ga, oa + q * 6 + 5, none⟩) hga).trans n5
          have m7 : Wm.cell? ⟨sb, q, none⟩ = some (.int .i64 c) := by have := HSm.out.fr.cells q hqA; rw [updN_same] at this; exact this
          obtain ⟨tx, htx⟩ : ∃ tx, ByteArray.mk (b.getD q Nod.zero).text.toArray = tx := ⟨_, rfl⟩
          obtain ⟨tk, htk⟩ : ∃ tk, (b.getD q Nod.zero).kind = tk := ⟨_, rfl⟩
          obtain ⟨tl, htl⟩ : ∃ tl, (b.getD q Nod.zero).line = tl := ⟨_, rfl⟩
          obtain ⟨tc, htc⟩ : ∃ tc, (b.getD q Nod.zero).column = tc := ⟨_, rfl⟩
          obtain ⟨PN, hPN⟩ : ∃ PN, (b.getD q Nod.zero).path.length = PN := ⟨_, rfl⟩
          obtain ⟨KN, hKN⟩ : ∃ KN, (b.getD q Nod.zero).kids.length = KN := ⟨_, rfl⟩
          rw [htk] at m1
          rw [htx] at m2
          rw [hPN] at m3 HRPA
          rw [hKN] at m4
          rw [htl] at m5
          rw [htc] at m6
          have HSIX : Hid' (sixC (b.getD q Nod.zero) (.slice po PN pc, .slice ko KN kc) = [.int .i64 tk, .string tx, .slice po PN pc, .slice ko KN kc, .int .i64 tl, .int .i64 tc]) := ⟨by unfold sixC; rw [htk, htx, htl, htc]⟩
          have HGX2 : Hid' (gx < w4.heap.size) := ⟨by omega⟩
          have HGA2 : Hid' (ga < w4.heap.size) := ⟨by have := HBS.out.size; omega⟩
          obtain ⟨jn, hjn, jn0, jn1, jn2⟩ := info_parts infoNode
          clear n0 n1 n2 n3 n4 n5 rpa rka hr2 hca ea2 ea3 htx htk htl htc hPN hKN x5 c5 z5 bq
          go_cut [11, 12] (fun vl vc wx => ∃ (gl capl gc capc : Nat), vl = .slice (some ⟨gl, 0, none⟩) (rn + 1) capl ∧ vc = .slice (some ⟨gc, 0, none⟩) (rn + 1) capc ∧ Hid' (MidS w.heap.size w4.heap.size sb BL ws wx (updN st.g q c) gl capl gc capc rn st.E (st.C ++ [c]) ks2 (b.getD q Nod.zero) (.slice po PN pc) (.slice ko KN kc)))
          case first =>
            go_region_held3 (fun w' => w'.cell? ⟨gx, j, none⟩ = some (.int .i64 (q : Int)) ∧ w'.cell? ⟨ga, oa + q * 6, none⟩ = some (.int .i64 tk) ∧ w'.cell? ⟨ga, oa + q * 6 + 1, none⟩ = some (.string tx) ∧ w'.cell? ⟨ga, oa + q * 6 + 2, none⟩ = some (.slice po PN pc) ∧ w'.cell? ⟨ga, oa + q * 6 + 3, none⟩ = some (.slice ko KN kc) ∧ w'.cell? ⟨ga, oa + q * 6 + 4, none⟩ = some (.int .i64 tl) ∧ w'.cell? ⟨ga, oa + q * 6 + 5, none⟩ = some (.int .i64 tc) ∧ w'.cell? ⟨sb, q, none⟩ = some (.int .i64 c)) (go_keep) (first
              | (refine step_append_lies _ (by rfl) _ _ 22 (by rfl) w4.heap.size 37 jn (.agg #[.int .i64 0, .string ⟨#[]⟩, .slice none 0 0, .slice none 0 0, .int .i64 0, .int .i64 0]) 6 88 Tryz.underlying22 hjn jn0 jn1 jn2 rfl (by decide) (.slice lo rn lc) rn (nCells st.E ks2) (by rfl) (own_kept HRO.out (by first | exact ((Below.refl _ _).drew).alloc (Nat.le_refl _) _ | exact (((Below.refl _ _).drew).alloc (Nat.le_refl _) _).alloc (by simp) _)) ⟨_, 0, none⟩ 1 1 [.int .i64 tk, .string tx, .slice po PN pc, .slice ko KN kc, .int .i64 tl, .int .i64 tc] (by rfl) rfl (by first | exact cellsAt (by simp) _ _ | exact cellsAt2 (by simp) _ _ _) (by simp [Value.oneCell']) (by decide) (by unfold maxLen; omega) (by omega) (by simp; omega) _ rfl ?_; intro gl capl w6 hown6 hgrow6 hat6 hlt6; (have F6 := appL_facts (Wm := Wm) (cv := .slice co rn cc) (by first | exact ((Below.refl _ _).drew).alloc (Nat.le_refl _) _ | exact (((Below.refl _ _).drew).alloc (Nat.le_refl _) _).alloc (by simp) _) hgrow6 HLO.out hszm HCX.out); (have p0 := (World.cell?_of_block (a := ⟨gx, j, none⟩) (F6.1 _ HGX2.out)).trans m0); (have p1 := (World.cell?_of_block (a := ⟨ga, oa + q * 6, none⟩) (F6.1 _ HGA2.out)).trans m1); (have p2 := (World.cell?_of_block (a := ⟨ga, oa + q * 6 + 1, none⟩) (F6.1 _ HGA2.out)).trans m2); (have p3 := (World.cell?_of_block (a := ⟨ga, oa + q * 6 + 2, none⟩) (F6.1 _ HGA2.out)).trans m3); (have p4 := (World.cell?_of_block (a := ⟨ga, oa + q * 6 + 3, none⟩) (F6.1 _ HGA2.out)).trans m4); (have p5 := (World.cell?_of_block (a := ⟨ga, oa + q * 6 + 4, none⟩) (F6.1 _ HGA2.out)).trans m5); (have p6 := (World.cell?_of_block (a := ⟨ga, oa + q * 6 + 5, none⟩) (F6.1 _ HGA2.out)).trans m6); (have p7 := (World.cell?_of_block (a := ⟨sb, q, none⟩) (F6.1 _ hsb)).trans m7); (have HF6 := hide' F6); (have HG6 := hide' hgrow6); (have HO6 := hide' hown6); (have HA6 := hide' hat6); (have s6 := F6.2.2.2); clear F6 hgrow6 hown6 hat6)
              | (refine step_append_lies _ (by rfl) _ _ 28 (by rfl) w4.heap.size 3 j0 (.int .i64 0) 1 8 Tryz.underlying28 hji jz0 jz1 jz2 rfl (by decide) (.slice co rn cc) rn (zCells st.C) (by rfl) (by first | exact (row_keep HCO.out HF6.out.2.1).alloc _ | exact row_keep HCO.out HF6.out.2.1) ⟨_, 0, none⟩ 1 1 [.int .i64 c] (by rfl) rfl (by first | exact cellsAt (by simp) _ _ | (intro jj u hu; exact (World.cell?_of_block (by rw [addBlock]; exact HF6.out.2.2.1 _ (by first | (simp; done) | (simp; omega)) (by first | (simp; done) | (simp; omega)))).trans (cellsAt (by simp) _ _ jj u hu)) | (intro jj u hu; exact (World.cell?_of_block (by rw [addBlock]; exact HF6.out.2.2.1 _ (by first | (simp; done) | (simp; omega)) (by first | (simp; done) | (simp; omega)))).trans (cellsAt2 (by simp) _ _ _ jj u hu))) (by simp [Value.oneCell']) (by decide) (by unfold maxLen; omega) (by omega) (by first | omega | (simp; omega)) _ rfl ?_; intro gc capc w7 hown7 hgrow7 hat7 hlt7; (have E7 := appC_facts (w6 := w6) (by first | exact Below.refl _ _ | exact (Below.refl _ _).alloc (Nat.le_refl _) _) hgrow7 (fun x hx => (HCO.out.lt x hx).1) (Nat.le_trans hszm s6)); (have r0 := (World.cell?_of_block (a := ⟨gx, j, none⟩) (E7 _ HGX2.out)).trans p0); (have r1 := (World.cell?_of_block (a := ⟨ga, oa + q * 6, none⟩) (E7 _ HGA2.out)).trans p1); (have r2 := (World.cell?_of_block (a := ⟨ga, oa + q * 6 + 1, none⟩) (E7 _ HGA2.out)).trans p2); (have r3 := (World.cell?_of_block (a := ⟨ga, oa + q * 6 + 2, none⟩) (E7 _ HGA2.out)).trans p3); (have r4 := (World.cell?_of_block (a := ⟨ga, oa + q * 6 + 3, none⟩) (E7 _ HGA2.out)).trans p4); (have r5 := (World.cell?_of_block (a := ⟨ga, oa + q * 6 + 4, none⟩) (E7 _ HGA2.out)).trans p5); (have r6 := (World.cell?_of_block (a := ⟨ga, oa + q * 6 + 5, none⟩) (E7 _ HGA2.out)).trans p6); (have r7 := (World.cell?_of_block (a := ⟨sb, q, none⟩) (E7 _ hsb)).trans p7); (have HG7 := hide' hgrow7); (have HO7 := hide' hown7); (have HA7 := hide' hat7); clear E7 hgrow7 hown7 hat7)
              | fail)
            all_goals (
              go_wp2_with fail
              go_meet
              refine ⟨gl, capl, gc, capc, rfl, rfl, ⟨?_⟩⟩
              exact mid_of HSm.out HR2.out hB2s hsb hE (by first | exact ((Below.refl _ _).drew).alloc (Nat.le_refl _) _ | exact (((Below.refl _ _).drew).alloc (Nat.le_refl _) _).alloc (by simp) _) HG6.out HA6.out (by rw [HSIX.out]; exact HO6.out) (by first | exact Below.refl _ _ | exact (Below.refl _ _).alloc (Nat.le_refl _) _) HG7.out HA7.out HO7.out HRPA.out)
          case rest =>
            obtain ⟨gl, capl, gc, capc, rfl, rfl, HM⟩ := hcut
            have HWc : Hid' (Below w.heap.size w wc) := ⟨HBS.out.trans HM.out.bel⟩
            have hszc := HM.out.sz
            have m0c : wc.cell? ⟨gx, j, none⟩ = some (.int .i64 (q : Int)) := (World.cell?_of_block (a := ⟨gx, j, none⟩) ((HM.out.low gx (by omega) hgf).trans (HS.out.low gx (by omega) hgf).symm)).trans hxw
            have CT := hide' (rturned_any (.slice (some ⟨ga, oa, none⟩) BL bc) b q (.slice (some ⟨sb, 0, none⟩) BL BL) ((List.range BL).map (updN st.g q c)) wc (rdN_mono (rdN_below HB.out HWc.out) HWc.out.size) (by rw [HBL.out]; exact hqA) (HM.out.fr.rdI (by omega) (by omega)) (by simp; omega) (HSB.out q hqA))
            rw [turnM_congr _ _ _ _ (by omega), turnM_upd] at CT
            have HO8 : Hid' (∀ W8, Below wc.heap.size wc W8 → (∃ u, W8.cell? ⟨gl, rn * 6 + 3, none⟩ = some u) ∧ W8.frozen? ⟨gl, rn * 6 + 3, none⟩ = false) := ⟨fun W8 b8 => by
              have o8 := own_kept HM.out.own b8
              have hlen := (nCells_len st.E ks2 HM.out.klen)
              refine ⟨?_, o8.frozenAt _⟩
              rw [o8.cellAt (rn * 6 + 3) (by omega)]
              rw [List.getElem?_append_right (by rw [hlen, hE]; omega), hlen, hE, show rn * 6 + 3 - rn * 6 = 3 by omega]
              exact ⟨_, rfl⟩⟩
            have HEND : Hid' (∀ W8 kv, Below wc.heap.size wc W8 → OwnZ wc.heap.size kv (turnM (b.getD q Nod.zero).kids q st.g) W8 → SS w.heap.size w4.heap.size sb BL ws (W8.setCell ⟨gl, rn * 6 + 3, none⟩ kv) (runRs b (Y.take (j + 1)) ⟨E1, C1, fun _ => 0⟩).g (.slice (some ⟨gl, 0, none⟩) (rn + 1) capl) (.slice (some ⟨gc, 0, none⟩) (rn + 1) capc) (runRs b (Y.take (j + 1)) ⟨E1, C1, fun _ => 0⟩).E (runRs b (Y.take (j + 1)) ⟨E1, C1, fun _ => 0⟩).C) := ⟨fun W8 kv b8 ok => by
              have := mid_end HM.out (by omega) hsb (by rw [List.length_append, hC]; rfl) b8 ok
              rw [HSN.out]
              unfold stepR
              rw [HCM.out]
              exact this⟩
            have jm : ((rn + 1 : Nat) : Int) - 1 = (rn : Int) := by omega
            clear HS HS5 HSm HR2 HRO HCO HLO HCX HRW m0 m1 m2 m3 m4 m5 m6 m7 hxw HSN HCM HST hkE
            go_wp2_with (go_at_call 22; refine CT.out.mono ?_; clear CT; rintro e W8 ⟨kv, rfl, ok, b8⟩; (obtain ⟨ko8, kc8, hk8⟩ := ownZ_slice ok); subst hk8; (obtain ⟨u8v, hu8⟩ := (HO8.out W8 b8).1); (have hf8 := (HO8.out W8 b8).2); (have HN8 := hide' (HEND.out W8 _ b8 ok)); clear ok b8; (generalize (turnM (b.getD q Nod.zero).kids q st.g).length = TL at *))
            go_roundw
            case rel => exact ⟨j + 1, by go_num, by omega, HN8⟩
            case measure => first | (simp [intOf]; done) | (simp [intOf]; omega)
        · obtain ⟨st2, hst2⟩ : ∃ st2, runRs b Y ⟨E1, C1, fun _ => 0⟩ = st2 := ⟨_, rfl⟩
          have hYt : Y.take j = Y := List.take_of_length_le (by rw [HYN.out]; omega)
          rw [hYt, hst2] at HS
          rw [hst2] at HR
          obtain ⟨E2, C2, g2⟩ := st2
          have x1 : (_ : World).cell? ⟨fb, i, none⟩ = some (.int .i64 (g1 i)) := (World.cell?_of_block (a := ⟨fb, i, none⟩) (HS.out.low fb (by omega) (by omega))).trans HC1.out
          have x2 := HS.out.fr.cells k hk
          have HBF : Hid' (Below w.heap.size w _) := ⟨HBS.out.trans HS.out.bel⟩
          obtain ⟨p1, hp1⟩ : ∃ p1, g1 i = p1 := ⟨_, rfl⟩
          obtain ⟨p2, hp2⟩ : ∃ p2, g2 k = p2 := ⟨_, rfl⟩
          have HRR : Hid' ((decide (0 ≤ p1) && decide (p1 = p2)) = R) := ⟨by rw [← HR.out, ← hp1, ← hp2]⟩
          rw [hp1] at x1
          rw [show (⟨E2, C2, g2⟩ : StR).g k = p2 from hp2] at x2
          clear hYt hst2 HR hp1 hp2 HS HC1
          by_cases h0 : 0 ≤ p1
          · have f5 : decide (p1 ≥ 0) = true := decide_eq_true (by omega)
            have HE : Hid' (R = (p1 == p2)) := ⟨by
              rw [← HRR.out, decide_eq_true h0, Bool.true_and]
              by_cases e : p1 = p2
              · rw [decide_eq_true e, e]; simp
              · rw [decide_eq_false e]; symm; rw [beq_eq_false_iff_ne]; exact e⟩
            clear h0 HRR
            go_upto_region 20 with fail
            go_quiet (fail)
            go_wp2_with fail
            go_ret
            rw [HE.out]
            exact ⟨rfl, HBF.out.trans (below_drewN _ _ _)⟩
          · have f5 : decide (p1 ≥ 0) = false := decide_eq_false (by omega)
            have HE : Hid' (R = false) := ⟨by rw [← HRR.out, decide_eq_false h0]; rfl⟩
            clear h0 HRR
            go_upto_region 20 with fail
            go_quiet (fail)
            go_wp2_with fail
            go_ret
            rw [HE.out]
            exact ⟨rfl, HBF.out.trans (below_drewN _ _ _)⟩
end Go.Proofs.YtbcmpacmoofdkaaGreatDoor
