/- The parser: together. -/
import Derived.Test.YtbcmpacmoofdkaaGreatDoorProg
import Derived.Test.YtbcmpacmoofdkaaGreatDoorTree35
import Derived.WalkKit
import Derived.ProofKit
import Derived.OpenShut
import Derived.Below
import Derived.WalkLawsBesides
import Derived.OwnWalk
import Derived.BigQuiet
import Derived.Deep.MidRow
import Derived.Deep.RegionHeld
import Derived.Deep.RegionHeld3
import Derived.WalkSmall
import Derived.Deep.DeepCutAuto
import Derived.Deep.AppendLies
namespace Go.Proofs.YtbcmpacmoofdkaaGreatDoor
open Go.ChangeShapes Go.WideShapes Go.ChangeAt Go.RowKit

/-- What is left when two sides are put together. -/
structure TogK (b : Nat) (w0 w w' : World) (tv : Value) (toks : List ITk) (at' op : Nat) (so : Option Addr) (fx : List UInt8 → Fix) (ns : List Nod) (ds : List Nat) (g g' cap' : Nat) (sd : List Int) : Prop where
  st : ∃ nv' dv' kvs', St b w' tv toks at' op so fx ns ds nv' dv' ∧ KOk b w' ns kvs' ∧ w'.ownsRow (b + 1) 37 6 nv' ns.length (nodCells ns kvs') ∧ KNe g' ns kvs'
  sd : w'.ownsRow w0.heap.size 3 1 (.slice (some ⟨g', 0, none⟩) sd.length cap') sd.length (intCellsI sd)
  pg : Prot b w' g'
  rel : Rel b w0 w'
  nw : g' = g ∨ w.heap.size ≤ g'
  oth : ∀ k, k ≠ g → Prot b w k → w'.heap[k]? = w.heap[k]? ∧ Prot b w' k

theorem PutK.mono {b : Nat} {w' : World} {tv : Value} {toks : List ITk} {at' op : Nat} {so : Option Addr} {fx : List UInt8 → Fix} {ns : List Nod} {ds : List Nat} {kvs : List Value} {base base' : Nat} (h : PutK b w' tv toks at' op so fx ns ds kvs base) (hb : base' ≤ base) : PutK b w' tv toks at' op so fx ns ds kvs base' := by
  obtain ⟨nv', dv', kv, h1, h2, h3, h4⟩ := h
  exact ⟨nv', dv', kv, h1, h2, h3, fun g hg => Nat.le_trans hb (h4 g hg)⟩

set_option maxRecDepth 100000 in
set_option maxHeartbeats 16000000 in
theorem together_of (b : Nat) (tv : Value) (toks : List ITk) (at' op : Nat) (so : Option Addr) (fx : List UInt8 → Fix) (ns : List Nod) (ds : List Nat) (nv dv : Value) (w w0 : World) (h : St b w tv toks at' op so fx ns ds nv dv) (kvs : List Value) (hko : KOk b w ns kvs) (hro : w.ownsRow (b + 1) 37 6 nv ns.length (nodCells ns kvs))
    (r0 : Rel b w0 w) (hb0 : b < w0.heap.size) (f0 : Fnd b w0 (.pointer so) fx) (mt mf : Value) (ka kn kt fl line col : Int) (fi fr : Bool) (z : ByteArray) (hz : z.size ≤ 1048576)
    (g cap N : Nat) (pre : List Int) (s1 s2 : Nat) (hN : ns.length = N) (hsd : w.ownsRow w0.heap.size 3 1 (.slice (some ⟨g, 0, none⟩) (pre.length + 2) cap) (pre.length + 2) (intCellsI (pre ++ [(s1 : Int), (s2 : Int)]))) (hpg : Prot b w g) (hkn : KNe g ns kvs) (hpl : pre.length ≤ 1000)
    (hs1 : s1 < N) (hs2 : s2 < N) (hcap : N + 3 ≤ 1000) (hds : ∀ j, j < N → ds.getD j 0 ≤ 1000)
    (D1 D2 D3 : List Nat) (hD1 : D1 = ds ++ [1]) (hD2 : D2 = D1 ++ [depM D1 [(s1 : Int), (s2 : Int)]]) (hD3 : D3 = D2 ++ [depM D2 [(N : Int), ((N + 1 : Nat) : Int)]]) (hd1 : depM D1 [(s1 : Int), (s2 : Int)] ≤ 1000) (hd2 : depM D2 [(N : Int), ((N + 1 : Nat) : Int)] ≤ 1000) :
    Calls Tryz.prog 249 #[.pointer (some ⟨b, 0, none⟩), .agg #[mt, mf, .int .i64 ka, .int .i64 kn, .int .i64 kt], .agg #[.bool fi, .int .i64 fl, .bool fr, .int .i64 line, .int .i64 col, .string z], .slice (some ⟨g, 0, none⟩) (pre.length + 2) cap] w fun e w' => ∃ g' cap', e = .returned (.slice (some ⟨g', 0, none⟩) (pre.length + 1) cap') ∧ TogK b w0 w w' tv toks at' op so fx (ns ++ [⟨kn, z.data.toList, [], [], line, col⟩] ++ [⟨kt, [], [], [(s1 : Int), (s2 : Int)], line, col⟩] ++ [⟨ka, [], [], [(N : Int), ((N + 1 : Nat) : Int)], line, col⟩]) D3 g g' cap' (pre ++ [((N + 2 : Nat) : Int)]) := by
  obtain ⟨i0, hi, hz0, hz1, hz2⟩ := info_parts infoInt
  have hold := h.ps.old
  have hln := h.ln
  rw [hN] at hln
  have hgl := hpg.1
  obtain ⟨W0, hW0⟩ : ∃ W0, (w.alloc (.cells #[mt, mf, .int .i64 ka, .int .i64 kn, .int .i64 kt] 241)).alloc (.cells #[.bool fi, .int .i64 fl, .bool fr, .int .i64 line, .int .i64 col, .string z] 251) = W0 := ⟨_, rfl⟩
  have B0 : Below w.heap.size w W0 := by rw [← hW0]; exact ((Below.refl _ _).alloc (Nat.le_refl _) _).alloc (by simp) _
  have S0 : W0.heap.size = w.heap.size + 2 := by rw [← hW0]; simp
  have m2 : W0.cell? ⟨w.heap.size, 2, none⟩ = some (.int .i64 ka) := by rw [← hW0]; simp
  have m3 : W0.cell? ⟨w.heap.size, 3, none⟩ = some (.int .i64 kn) := by rw [← hW0]; simp
  have m4 : W0.cell? ⟨w.heap.size, 4, none⟩ = some (.int .i64 kt) := by rw [← hW0]; simp
  have a3 : W0.cell? ⟨w.heap.size + 1, 3, none⟩ = some (.int .i64 line) := by rw [← hW0]; simp
  have a4 : W0.cell? ⟨w.heap.size + 1, 4, none⟩ = some (.int .i64 col) := by rw [← hW0]; simp
  have a5 : W0.cell? ⟨w.heap.size + 1, 5, none⟩ = some (.string z) := by rw [← hW0]; simp
  have HQ0 := hide' (h.prot (h.ps.below B0 hold) (Nat.le_refl _) (show w.heap.size < W0.heap.size by omega))
  have HQ1 := hide' (h.prot (h.ps.below B0 hold) (Nat.le_succ _) (show w.heap.size + 1 < W0.heap.size by omega))
  have HSw := hide' h
  have C1 := hide' (put_k b tv toks at' op so fx ns ds nv dv W0 (h.below B0) kvs (hko.rel (Rel.of B0 hold)) (own_kept hro B0) z hz line col kn (.slice none 0 0) [] ⟨none, 0, rfl, by decide, fun j hj => absurd hj (by simp)⟩ (fun _ => rfl) (by decide) (fun j hj => absurd hj (by simp)) (by simp [depM]) (by rw [hln]; exact hds) (by omega))
  rw [show depM ds [] = 1 from rfl, ← hD1, hN] at C1
  have HD1 := hide' hD1
  have HD2 := hide' hD2
  have HD3 := hide' hD3
  obtain ⟨NS, hNS⟩ : ∃ NS, (ns ++ ([⟨kn, z.data.toList, [], [], line, col⟩] : List Nod) ++ ([⟨kt, [], [], [(s1 : Int), (s2 : Int)], line, col⟩] : List Nod) ++ ([⟨ka, [], [], [(N : Int), ((N + 1 : Nat) : Int)], line, col⟩] : List Nod)) = NS := ⟨_, rfl⟩
  obtain ⟨SDL, hSDL⟩ : ∃ SDL, pre ++ [((N + 2 : Nat) : Int)] = SDL := ⟨_, rfl⟩
  rw [hNS, hSDL]
  have HNS := hide' hNS
  have HSDL := hide' hSDL
  clear hD1 hD2 hD3 hNS hSDL
  obtain ⟨L, hL⟩ : ∃ L, pre.length = L := ⟨_, rfl⟩
  have HLp := hide' hL
  rw [hL] at hsd hpl ⊢
  have hcapL : L + 2 ≤ cap ∧ cap ≤ maxLen := by
    rcases hsd.2 with ⟨hv, _⟩ | ⟨_, _, _, hv, _, _, h1, h2, _⟩
    · cases hv
    · injection hv with e1 e2 e3; subst e3; exact ⟨h1, h2⟩
  have HSD := hide' hsd
  have HB0 := hide' B0
  unfold maxLen at hcapL
  have hib1 : (0 : Int) ≤ (L : Int) := by omega
  have hib2 : (L : Int) ≤ (L : Int) + 2 := by omega
  have hib3 : (L : Int) ≤ (cap : Int) := by omega
  have hib4 : (L : Int) ≤ ((L + 2 : Nat) : Int) := by omega
  have hib5 : ¬ cap = L := by omega
  have hib6 : IntKind.i64.wrap ((L : Int) + 2) = (L : Int) + 2 := by simp [IntKind.wrap, IntKind.bits, IntKind.signed]; omega
  clear h hL hsd B0
  go_enter Tryz.func249, Tryz.ntmps249
  go_upto_region 2 with fail
  try rw [hW0]
  clear hW0
  go_upto_region 3 with (go_at_call 125; refine C1.out.mono ?_; clear C1; rintro e w1 ⟨rfl, pk1, r1⟩; (have PK1 := hide' pk1); (have R1 := hide' r1); (have x0 := r1.rest _ HQ0.out); (have x1 := r1.rest _ HQ1.out); clear pk1 r1)
  have b3 := (cell_of_block (a := ⟨w.heap.size + 1, 3, none⟩) x1.1).trans a3
  have b4 := (cell_of_block (a := ⟨w.heap.size + 1, 4, none⟩) x1.1).trans a4
  have n2 := (cell_of_block (a := ⟨w.heap.size, 2, none⟩) x0.1).trans m2
  have n4 := (cell_of_block (a := ⟨w.heap.size, 4, none⟩) x0.1).trans m4
  have HX0 := hide' x0.2
  have HX1 := hide' x1.2
  clear x0 x1 a3 a4 a5 m2 m3 m4
  obtain ⟨nv1, dv1, k1, st1, ko1, ro1, fr1⟩ := PK1.out
  have hG0 := (Rel.of HB0.out hold).rest g hpg
  have hG1 := R1.out.rest g hG0.2
  have hgw1 : w1.heap[g]? = w.heap[g]? := hG1.1.trans hG0.1
  have HGP1 := hide' hG1.2
  have hgs1 := hG1.2.1
  have HSD1 := hide' (row_keep HSD.out (w' := w1) (fun k hk => by
    have e : g = k := by simpa [Value.ownBlock] using hk
    subst e
    exact hgw1))
  have hxs : ∀ j x, (pre ++ [(s1 : Int), (s2 : Int)])[j]? = some x → w1.cell? ⟨g, j, none⟩ = some (.int .i64 x) := fun j x hj => by
    have hjl : j < L + 2 := by
      have := (List.getElem?_eq_some_iff.1 hj).1
      have e := HLp.out
      simp at this
      omega
    rw [HSD1.out.cellAt j (by omega)]
    unfold intCellsI
    rw [List.getElem?_map, hj]
    rfl
  have y1 : w1.cell? ⟨g, L, none⟩ = some (.int .i64 (s1 : Int)) := hxs L s1 (by rw [← HLp.out]; simp)
  have y2 : w1.cell? ⟨g, L + 1, none⟩ = some (.int .i64 (s2 : Int)) := hxs (L + 1) s2 (by rw [← HLp.out]; simp)
  have HRI : Hid' (∀ W c, Below w1.heap.size w1 W → RdI W.heap.size W (.slice (some ⟨g, L, none⟩) 2 c) [(s1 : Int), (s2 : Int)]) := ⟨fun W c bW => by
    refine ⟨_, _, rfl, by simp, fun j hj => ⟨⟨g, L, none⟩, rfl, Nat.lt_of_lt_of_le hgs1 bW.size, ?_⟩⟩
    match j, hj with
    | 0, _ => exact (bW.cell (p := ⟨g, L, none⟩) hgs1).trans y1
    | 1, _ => exact (bW.cell (p := ⟨g, L + 1, none⟩) hgs1).trans y2⟩
  have hl1 : (ns ++ ([⟨kn, z.data.toList, [], [], line, col⟩] : List Nod)).length = N + 1 := by simp [hN]
  have hlD1 : D1.length = N + 1 := by rw [HD1.out]; simp [hln]
  have HDS1 : Hid' (∀ j, j < D1.length → D1.getD j 0 ≤ 1000) := ⟨fun j hj => by
    rw [HD1.out, List.getD_eq_getElem?_getD]
    by_cases hj2 : j < N
    · rw [List.getElem?_append_left (by omega)]
      have := hds j hj2
      rwa [List.getD_eq_getElem?_getD] at this
    · rw [List.getElem?_append_right (by omega), hln]
      have : j = N := by omega
      subst this
      simp⟩
  have C2 := hide' (fun W kvv (bW : Below w1.heap.size w1 W) (hk : RdI W.heap.size W kvv [(s1 : Int), (s2 : Int)]) => put_k b tv toks at' op so fx _ D1 nv1 dv1 W (st1.below bW) _ (ko1.rel (Rel.of bW st1.ps.old)) (own_kept ro1 bW) ⟨#[]⟩ (by decide) line col kt kvv [(s1 : Int), (s2 : Int)] hk (fun e => by cases e) (by simp) (fun j hj => by
    rw [hlD1]
    match j, hj with
    | 0, _ => exact ⟨by simp, by simp; omega⟩
    | 1, _ => exact ⟨by simp, by simp; omega⟩) hd1 HDS1.out (by rw [hl1]; omega))
  rw [← HD2.out, hl1] at C2
  go_region_held3 (fun w' => w'.cell? ⟨w.heap.size + 1, 3, none⟩ = some (.int .i64 line) ∧ w'.cell? ⟨w.heap.size + 1, 4, none⟩ = some (.int .i64 col) ∧ w'.cell? ⟨w.heap.size, 4, none⟩ = some (.int .i64 kt)) (go_keep) ((go_at_call 125; refine (C2.out _ _ ((Below.refl _ _).drew) (HRI.out _ _ ((Below.refl _ _).drew))).mono ?_; clear C2; rintro e w2 ⟨rfl, pk2, r2⟩; (have PK2 := hide' pk2); (have R2 := hide' r2); (have z0 := r2.rest _ HX0.out); (have z1 := r2.rest _ HX1.out); (have v3 := (cell_of_block (a := ⟨w.heap.size + 1, 3, none⟩) z1.1).trans b3); (have v4 := (cell_of_block (a := ⟨w.heap.size + 1, 4, none⟩) z1.1).trans b4); (have v5 := (cell_of_block (a := ⟨w.heap.size, 2, none⟩) z0.1).trans n2); (have v6 := (cell_of_block (a := ⟨w.heap.size, 4, none⟩) z0.1).trans n4); (have HZ0 := hide' z0.2); (have HZ1 := hide' z1.2); clear pk2 r2 z0 z1))
  obtain ⟨nv2, dv2, k2, st2, ko2, ro2, fr2⟩ := PK2.out
  have hG2 := R2.out.rest g HGP1.out
  have HGP2 := hide' hG2.2
  have hgs2 := hG2.2.1
  have hgw2 : w2.heap[g]? = w.heap[g]? := hG2.1.trans hgw1
  have hl2 : (ns ++ ([⟨kn, z.data.toList, [], [], line, col⟩] : List Nod) ++ ([⟨kt, [], [], [(s1 : Int), (s2 : Int)], line, col⟩] : List Nod)).length = N + 2 := by simp [hN]
  have hlD2 : D2.length = N + 2 := by rw [HD2.out]; simp [hlD1]
  have HDS2 : Hid' (∀ j, j < D2.length → D2.getD j 0 ≤ 1000) := ⟨fun j hj => by
    rw [HD2.out, List.getD_eq_getElem?_getD]
    by_cases hj2 : j < N + 1
    · rw [List.getElem?_append_left (by omega)]
      have := HDS1.out j (by omega)
      rwa [List.getD_eq_getElem?_getD] at this
    · rw [List.getElem?_append_right (by omega), hlD1]
      have : j = N + 1 := by omega
      subst this
      simpa using hd1⟩
  have e12 : ((N + 1 : Nat) : Int) = (N : Int) + 1 := by omega
  have C3 := hide' (fun W kvv (bW : Below w2.heap.size w2 W) (hk : RdI W.heap.size W kvv [(N : Int), (N : Int) + 1]) => put_k b tv toks at' op so fx _ D2 nv2 dv2 W (st2.below bW) _ (ko2.rel (Rel.of bW st2.ps.old)) (own_kept ro2 bW) ⟨#[]⟩ (by decide) line col ka kvv [(N : Int), ((N + 1 : Nat) : Int)] (by rw [e12]; exact hk) (fun e => by cases e) (by simp) (fun j hj => by
    rw [hlD2]
    match j, hj with
    | 0, _ => exact ⟨by simp, by simp; omega⟩
    | 1, _ => exact ⟨by first | (simp; done) | (simp; omega), by first | (simp; done) | (simp; omega)⟩) hd2 HDS2.out (by rw [hl2]; omega))
  rw [← HD3.out, hl2, HNS.out] at C3
  have hPs2 := HZ0.out.1
  have hQs2 := HZ1.out.1
  have hgP : ¬ w.heap.size = g := by omega
  have hgQ : ¬ w.heap.size + 1 = g := by omega
  have hw0g : w0.heap.size ≤ g := by
    rcases HSD.out.2 with ⟨hv, _⟩ | ⟨_, _, _, hv, hx, _⟩
    · cases hv
    · injection hv with e1 _ _
      injection e1 with e1
      injection e1 with e1
      subst e1
      exact hx
  have hw0w : w0.heap.size ≤ w.heap.size := r0.low.size
  have HOT : Hid' (∀ W : World, W.heap[g]? = w.heap[g]? → W.ownsRow w0.heap.size 3 1 (.slice (some ⟨g, 0, none⟩) L cap) L (intCellsI pre)) := ⟨fun W hW => by
    have hk := own_take (m := L) (row_keep HSD.out (w' := W) (fun k hk => by
      have e : g = k := by simpa [Value.ownBlock] using hk
      subst e
      exact hW)) (by omega)
    have e : (intCellsI (pre ++ [(s1 : Int), (s2 : Int)])).take (L * 1) = intCellsI pre := by
      unfold intCellsI
      rw [List.map_append, Nat.mul_one, List.take_append_of_le_length (by simp [HLp.out]), List.take_of_length_le (by simp [HLp.out])]
    rw [e] at hk
    exact hk⟩
  go_upto_region 4 with fail
  go_cut [8] (fun v8 wx => ∃ (g' cap' : Nat), v8 = .slice (some ⟨g', 0, none⟩) (L + 1) cap' ∧ Hid' (∃ (w3 w4 : World), PutK b w3 tv toks at' op so fx NS D3 (kvs ++ [k1] ++ [k2]) w2.heap.size ∧ Rel b w2 w3 ∧ Below w3.heap.size w3 w4 ∧ w4.grownBy wx (some g) ∧ wx.ownsRow w0.heap.size 3 1 (.slice (some ⟨g', 0, none⟩) (L + 1) cap') (L + 1) (intCellsI pre ++ [.int .i64 ((N : Int) + 2)]) ∧ (g' = g ∨ w3.heap.size ≤ g') ∧ g' < wx.heap.size))
  case first =>
    go_region_held3 (fun w' => w'.cell? ⟨w.heap.size + 1, 3, none⟩ = some (.int .i64 line) ∧ w'.cell? ⟨w.heap.size + 1, 4, none⟩ = some (.int .i64 col) ∧ w'.cell? ⟨w.heap.size, 2, none⟩ = some (.int .i64 ka)) (go_keep) (first
      | (go_at_call 125; refine (C3.out _ _ (((Below.refl _ _).drew).alloc (Nat.le_refl _) _) (two_new _ _ _ _)).mono ?_; clear C3; rintro e w3 ⟨rfl, pk3, r3⟩; (have R3 : Rel b w2 w3 := (Rel.of (((Below.refl _ _).drew).alloc (Nat.le_refl _) _) st2.ps.old).trans r3); (have HPK3 := hide' (pk3.mono (base' := w2.heap.size) (by simp))); (have t0 := R3.rest _ HZ0.out); (have t1 := R3.rest _ HZ1.out); (have tg := R3.rest _ HGP2.out); (have u3 := (cell_of_block (a := ⟨w.heap.size + 1, 3, none⟩) t1.1).trans v3); (have u4 := (cell_of_block (a := ⟨w.heap.size + 1, 4, none⟩) t1.1).trans v4); (have u5 := (cell_of_block (a := ⟨w.heap.size, 2, none⟩) t0.1).trans v5); (have HS3 : Hid' (w3.ownsRow w0.heap.size 3 1 (.slice (some ⟨g, 0, none⟩) L cap) L (intCellsI pre)) := ⟨HOT.out w3 (tg.1.trans hgw2)⟩); (have s3 := tg.2.1); (have s30 := t0.2.1); (have s31 := t1.2.1); (have HR3 := hide' R3); clear pk3 r3 R3 t0 t1 tg)
      | (refine step_append_lies _ (by rfl) _ _ 28 (by rfl) w0.heap.size 3 i0 (.int .i64 0) 1 8 Tryz.underlying28 hi hz0 hz1 hz2 rfl (by decide) (.slice (some ⟨g, 0, none⟩) L cap) L (intCellsI pre) (by rfl) (HS3.out.alloc _) ⟨_, 0, none⟩ 1 1 [.int .i64 ((N : Int) + 2)] (by rfl) rfl (cellsNew _ _ _) (by simp [Value.oneCell']) (by decide) (by unfold maxLen; omega) (by omega) (by simp; omega) (w3.heap.size + 1) (by simp) ?_; intro g6 cap6 w6 hown6 hgrow6 hat6 hlt6; (have e6 : ∀ k, k < w3.heap.size → k ≠ g → w6.heap[k]? = w3.heap[k]? := fun k hk hne => (hgrow6.block k (by simp; omega) (by simpa [Value.ownBlock] using hne)).trans (((Below.refl w3.heap.size w3).alloc (Nat.le_refl _) _).block k hk)); (have q3 := (cell_of_block (w := w3) (a := ⟨w.heap.size + 1, 3, none⟩) (e6 _ s31 hgQ)).trans u3); (have q4 := (cell_of_block (w := w3) (a := ⟨w.heap.size + 1, 4, none⟩) (e6 _ s31 hgQ)).trans u4); (have q5 := (cell_of_block (w := w3) (a := ⟨w.heap.size, 2, none⟩) (e6 _ s30 hgP)).trans u5)))
    all_goals (
      go_wp2_with fail
      go_meet
      refine ⟨g6, cap6, rfl, ⟨w3, _, HPK3.out, HR3.out, (Below.refl _ _).alloc (Nat.le_refl _) _, hgrow6, hown6, ?_, hlt6⟩⟩
      rcases hat6 with x | x
      · exact .inl (by simpa [Value.ownBlock] using x.symm)
      · exact .inr (by omega))
  case rest =>
    obtain ⟨g', cap', rfl, HC⟩ := hcut
    go_wp2_with fail
    go_ret
    obtain ⟨w3, w4, pk, r3, b4', gr, row, hg', hlt⟩ := HC.out
    obtain ⟨nv3, dv3, k3, st3, ko3, ro3, fr3⟩ := pk
    have hg : ∀ k, k < w3.heap.size → k ≠ g → wc.heap[k]? = w3.heap[k]? := fun k hk hne => (gr.block k (Nat.lt_of_lt_of_le hk b4'.size) (by simpa using hne)).trans (b4'.block k hk)
    have hs : w3.heap.size ≤ wc.heap.size := Nat.le_trans b4'.size gr.size
    have hp3 : Prot b w3 g := (r3.rest g HGP2.out).2
    have kn1 := KNe.snoc (t := ⟨kn, z.data.toList, [], [], line, col⟩) (k := k1) (fun x hx => Nat.lt_of_lt_of_le (show g < W0.heap.size by omega) (fr1 x hx)) hko.length hkn
    have kn2 := KNe.snoc (t := ⟨kt, [], [], [(s1 : Int), (s2 : Int)], line, col⟩) (k := k2) (fun x hx => Nat.lt_of_lt_of_le hgs1 (fr2 x hx)) ko1.length kn1
    have kn3 := KNe.snoc (t := ⟨ka, [], [], [(N : Int), ((N + 1 : Nat) : Int)], line, col⟩) (k := k3) (fun x hx => Nat.lt_of_lt_of_le hgs2 (fr3 x hx)) ko2.length kn2
    have rw3 : Rel b w w3 := (Rel.of HB0.out hold).trans (R1.out.trans ((Rel.of ((Below.refl _ _).drew) st1.ps.old).trans (R2.out.trans r3)))
    rw [HNS.out] at kn3
    have hos : wc.os = w3.os := gr.os.trans b4'.os
    have htp : wc.tape = w3.tape := gr.tape.trans b4'.tape
    have hou : wc.output = w3.output := gr.output.trans b4'.output
    obtain ⟨st4, ko4, ro4⟩ := st3.poke ko3 ro3 hp3 kn3 (r0.trans rw3) hw0g hb0 f0 hos htp hou hs hg
    have hbg : b ≠ g := fun e => hp3.2.1 e.symm
    have esd : intCellsI SDL = intCellsI pre ++ [.int .i64 ((N : Int) + 2)] := by rw [← HSDL.out]; simp [intCellsI]
    have lsd : SDL.length = L + 1 := by rw [← HSDL.out]; simp [HLp.out]
    refine ⟨g', cap', rfl, ⟨nv3, dv3, _, st4, ko4, ro4, ?_⟩, ?_, ?_, (r0.trans rw3).poke hw0g hb0 hos htp hou hs hg, hg'.imp id (fun e => Nat.le_trans rw3.low.size e), fun k hne hk => ?_⟩
    · rcases hg' with e | e
      · rw [e]; exact kn3
      · exact KNe.new e ko3
    · rw [esd, lsd]; exact row
    · rcases hg' with e | e
      · rw [e]; exact hp3.poke hg hs st3.ps.old hbg
      · exact st3.rw'.prot st4.ps st3.ps.old e hlt
    · obtain ⟨h1, h2⟩ := rw3.rest k hk
      exact ⟨(hg k h2.1 hne).trans h1, h2.poke hg hs st3.ps.old hbg⟩
end Go.Proofs.YtbcmpacmoofdkaaGreatDoor
/- What infixes holds beside the parser: its sides and its names. -/
namespace Go.Proofs.YtbcmpacmoofdkaaGreatDoor
open Go.ChangeShapes Go.WideShapes Go.ChangeAt Go.RowKit

theorem KNe.leaf {g : Nat} : ∀ {ns : List Nod} {ks : List Value}, (∀ t ∈ ns, t.kids = []) → KNe g ns ks
  | t :: r, k :: ks, h => ⟨fun hne => absurd (h t (List.mem_cons_self ..)) hne, KNe.leaf (fun x hx => h x (List.mem_cons_of_mem _ hx))⟩
  | [], _, _ => by cases ‹List Value› <;> trivial
  | _ :: _, [], _ => trivial

structure IxS (b : Nat) (w W0 wr : World) (tv : Value) (toks : List ITk) (at' op : Nat) (so : Option Addr) (fx : List UInt8 → Fix) (ns : List Nod) (ds : List Nat) (v5 v6 : Value) (sd : List Int) (bt : List Value) (n6 : Nat) : Prop where
  st : ∃ nv dv, St b wr tv toks at' op so fx ns ds nv dv
  s5 : wr.ownsRow (w.heap.size + 1) 3 1 v5 sd.length (intCellsI sd)
  s6 : wr.ownsRow (w.heap.size + 1) 251 6 v6 n6 bt
  p5 : ∀ g, v5.ownBlock = some g → Prot b wr g
  p6 : ∀ g, v6.ownBlock = some g → Prot b wr g
  rel : Rel b w wr
  pb : wr.heap[w.heap.size]? = W0.heap[w.heap.size]? ∧ Prot b wr w.heap.size

theorem IxS.step {b : Nat} {w W0 wr w' : World} {tv : Value} {toks : List ITk} {at' at1 op : Nat} {so : Option Addr} {fx : List UInt8 → Fix} {ns ns' : List Nod} {ds ds' : List Nat} {v5 v6 : Value} {sd : List Int} {bt : List Value} {n6 : Nat} (x : IxS b w W0 wr tv toks at' op so fx ns ds v5 v6 sd bt n6) (r : Rel b wr w') (s : ∃ nv dv, St b w' tv toks at1 op so fx ns' ds' nv dv) : IxS b w W0 w' tv toks at1 op so fx ns' ds' v5 v6 sd bt n6 :=
  ⟨s, row_keep x.s5 fun g hg => (r.rest g (x.p5 g hg)).1, row_keep x.s6 fun g hg => (r.rest g (x.p6 g hg)).1, fun g hg => (r.rest g (x.p5 g hg)).2, fun g hg => (r.rest g (x.p6 g hg)).2, x.rel.trans r, ⟨(r.rest _ x.pb.2).1.trans x.pb.1, (r.rest _ x.pb.2).2⟩⟩
theorem IxS.below {b : Nat} {w W0 wr w' : World} {tv : Value} {toks : List ITk} {at' op : Nat} {so : Option Addr} {fx : List UInt8 → Fix} {ns : List Nod} {ds : List Nat} {v5 v6 : Value} {sd : List Int} {bt : List Value} {n6 : Nat} (x : IxS b w W0 wr tv toks at' op so fx ns ds v5 v6 sd bt n6) (g : Below wr.heap.size wr w') : IxS b w W0 w' tv toks at' op so fx ns ds v5 v6 sd bt n6 := by
  obtain ⟨nv, dv, s⟩ := x.st
  exact x.step (Rel.of g s.ps.old) ⟨nv, dv, s.below g⟩

/-- A row of one's own was written, or made anew: the parser stands as it was. -/
theorem St.grown {b : Nat} {w0 wr wx : World} {tv : Value} {toks : List ITk} {at' op : Nat} {so : Option Addr} {fx : List UInt8 → Fix} {ns : List Nod} {ds : List Nat} {nv dv : Value} {v : Value} (h : St b wr tv toks at' op so fx ns ds nv dv) (hl : ∀ t ∈ ns, t.kids = []) (hp : ∀ g, v.ownBlock = some g → Prot b wr g ∧ w0.heap.size ≤ g) (r0 : Rel b w0 wr) (hb0 : b < w0.heap.size) (f0 : Fnd b w0 (.pointer so) fx) (gr : wr.grownBy wx v.ownBlock) :
    St b wx tv toks at' op so fx ns ds nv dv ∧ Rel b w0 wx ∧ ∀ k, v.ownBlock ≠ some k → Prot b wr k → wx.heap[k]? = wr.heap[k]? ∧ Prot b wx k := by
  cases hv : v.ownBlock with
  | none =>
    rw [hv] at gr
    have bw := below_of_grown gr
    exact ⟨h.below bw, r0.trans (Rel.of bw h.ps.old), fun k _ hk => (Rel.of bw h.ps.old).rest k hk⟩
  | some g =>
    rw [hv] at gr
    obtain ⟨hp1, hp2⟩ := hp g hv
    have hg : ∀ k, k < wr.heap.size → k ≠ g → wx.heap[k]? = wr.heap[k]? := fun k hk hne => gr.block k hk (by simpa using hne)
    obtain ⟨kvs, k1, k2⟩ := h.rn
    have hbg : b ≠ g := fun e => hp1.2.1 e.symm
    refine ⟨(h.poke k1 k2 hp1 (KNe.leaf hl) r0 hp2 hb0 f0 gr.os gr.tape gr.output gr.size hg).1, r0.poke hp2 hb0 gr.os gr.tape gr.output gr.size hg, fun k hne hk => ?_⟩
    exact ⟨hg k hk.1 (fun e => hne (by rw [e])), hk.poke hg gr.size h.ps.old hbg⟩

theorem IxS.app6 {b : Nat} {w W0 wr wx : World} {tv : Value} {toks : List ITk} {at' op : Nat} {so : Option Addr} {fx : List UInt8 → Fix} {ns : List Nod} {ds : List Nat} {v5 v6 : Value} {sd : List Int} {bt news : List Value} {n6 g' c' : Nat} (x : IxS b w W0 wr tv toks at' op so fx ns ds v5 v6 sd bt n6) (hl : ∀ t ∈ ns, t.kids = []) (hb0 : b < w.heap.size) (f0 : Fnd b w (.pointer so) fx) (gr : wr.grownBy wx v6.ownBlock)
    (row : wx.ownsRow (w.heap.size + 1) 251 6 (.slice (some ⟨g', 0, none⟩) (n6 + 1) c') (n6 + 1) (bt ++ news)) (hat : v6.ownBlock = some g' ∨ wr.heap.size ≤ g') (hlt : g' < wx.heap.size) : IxS b w W0 wx tv toks at' op so fx ns ds v5 (.slice (some ⟨g', 0, none⟩) (n6 + 1) c') sd (bt ++ news) (n6 + 1) := by
  obtain ⟨nv, dv, s⟩ := x.st
  obtain ⟨s1, r1, o1⟩ := s.grown hl (fun g hg => ⟨x.p6 g hg, Nat.le_of_succ_le (x.s6.lt g hg).1⟩) x.rel hb0 f0 gr
  have hap := rows_apart x.s5 x.s6 (by decide)
  refine ⟨⟨nv, dv, s1⟩, row_keep x.s5 fun g hg => (o1 g (hap g hg) (x.p5 g hg)).1, row, fun g hg => (o1 g (hap g hg) (x.p5 g hg)).2, fun g hg => ?_, r1, ?_⟩
  · have e : g' = g := by simpa [Value.ownBlock] using hg
    subst e
    rcases hat with h | h
    · have hp := x.p6 g' h
      refine ⟨hlt, hp.2.1, fun v hv => ?_, fun v hv => ?_⟩
      · rw [s1.ps.c4] at hv; exact hp.2.2.1 v (by rw [s.ps.c4]; exact hv)
      · rw [s1.ps.c5] at hv; exact hp.2.2.2 v (by rw [s.ps.c5]; exact hv)
    · exact s.rw'.prot s1.ps s.ps.old h hlt
  · have hne : v6.ownBlock ≠ some w.heap.size := fun e => by have := (x.s6.lt _ e).1; omega
    exact ⟨(o1 _ hne x.pb.2).1.trans x.pb.1, (o1 _ hne x.pb.2).2⟩
theorem IxS.app5 {b : Nat} {w W0 wr wx : World} {tv : Value} {toks : List ITk} {at' op : Nat} {so : Option Addr} {fx : List UInt8 → Fix} {ns : List Nod} {ds : List Nat} {v5 v6 : Value} {sd : List Int} {bt : List Value} {n6 g' c' : Nat} {n : Int} (x : IxS b w W0 wr tv toks at' op so fx ns ds v5 v6 sd bt n6) (hl : ∀ t ∈ ns, t.kids = []) (hb0 : b < w.heap.size) (f0 : Fnd b w (.pointer so) fx) (gr : wr.grownBy wx v5.ownBlock)
    (row : wx.ownsRow (w.heap.size + 1) 3 1 (.slice (some ⟨g', 0, none⟩) (sd.length + 1) c') (sd.length + 1) (intCellsI sd ++ [.int .i64 n])) (hat : v5.ownBlock = some g' ∨ wr.heap.size ≤ g') (hlt : g' < wx.heap.size) : IxS b w W0 wx tv toks at' op so fx ns ds (.slice (some ⟨g', 0, none⟩) (sd.length + 1) c') v6 (sd ++ [n]) bt n6 := by
  obtain ⟨nv, dv, s⟩ := x.st
  obtain ⟨s1, r1, o1⟩ := s.grown hl (fun g hg => ⟨x.p5 g hg, Nat.le_of_succ_le (x.s5.lt g hg).1⟩) x.rel hb0 f0 gr
  have hap := rows_apart x.s6 x.s5 (by decide)
  refine ⟨⟨nv, dv, s1⟩, ?_, row_keep x.s6 fun g hg => (o1 g (hap g hg) (x.p6 g hg)).1, fun g hg => ?_, fun g hg => (o1 g (hap g hg) (x.p6 g hg)).2, r1, ?_⟩
  · rw [List.length_append]
    have e : intCellsI (sd ++ [n]) = intCellsI sd ++ [.int .i64 n] := by simp [intCellsI]
    rw [e]
    exact row
  · have e : g' = g := by simpa [Value.ownBlock] using hg
    subst e
    rcases hat with h | h
    · have hp := x.p5 g' h
      refine ⟨hlt, hp.2.1, fun v hv => ?_, fun v hv => ?_⟩
      · rw [s1.ps.c4] at hv; exact hp.2.2.1 v (by rw [s.ps.c4]; exact hv)
      · rw [s1.ps.c5] at hv; exact hp.2.2.2 v (by rw [s.ps.c5]; exact hv)
    · exact s.rw'.prot s1.ps s.ps.old h hlt
  · have hne : v5.ownBlock ≠ some w.heap.size := fun e => by have := (x.s5.lt _ e).1; omega
    exact ⟨(o1 _ hne x.pb.2).1.trans x.pb.1, (o1 _ hne x.pb.2).2⟩
end Go.Proofs.YtbcmpacmoofdkaaGreatDoor
