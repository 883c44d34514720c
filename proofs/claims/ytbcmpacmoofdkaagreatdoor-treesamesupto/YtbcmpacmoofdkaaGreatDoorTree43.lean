/- The parser: tokens that lex writes. -/
import Derived.Test.YtbcmpacmoofdkaaGreatDoorProg
import Derived.Test.YtbcmpacmoofdkaaGreatDoorTree35
import Derived.Test.YtbcmpacmoofdkaaGreatDoorLexE5
import Derived.Test.YtbcmpacmoofdkaaGreatDoorLexD17
import Derived.WalkKit
import Derived.ProofKit
import Derived.OpenShut
import Derived.Below
import Derived.WalkLawsBesides
import Derived.OwnWalk
import Derived.WalkSmall
import Derived.BigQuiet
import Derived.Deep.MidRow
import Derived.Deep.RegionHeld
import Derived.Deep.RegionHeld3
import Derived.Deep.DeepCutAuto
namespace Go.Proofs.YtbcmpacmoofdkaaGreatDoor
open Go.ChangeShapes Go.WideShapes Go.ChangeAt Go.RowKit

set_option maxRecDepth 100000 in
set_option maxHeartbeats 8000000 in
theorem writes_ok (k : Int) (z : ByteArray) (po : Option Addr) (pl pc : Nat) (p : List (List UInt8)) (w : World) (RD : Rdy w) (hv : RdS w (.slice po pl pc) p) (hz : z.size ≤ 1048576) (hp : p = []) (hok : okW k z.data.toList p = true) :
    Calls Tryz.prog 68 #[.int .i64 k, .string z, .slice po pl pc] w fun e w' => e = .returned (.bool true) ∧ Below w.heap.size w w' := by
  have CW := hide' (write_tok k 0 0 z (.slice po pl pc) p w RD hv (by omega) (by subst hp; intro j hj; simp at hj))
  unfold writeL at CW
  rw [if_pos hok] at CW
  simp only at CW
  generalize (ByteArray.mk (spellI k z.data.toList p).toArray) = sp at *
  clear RD hv hok
  go_enter Tryz.func68, Tryz.ntmps68
  go_wp2_with (go_at_call 100; refine CW.out.mono ?_; clear CW; rintro e w1 ⟨rfl, b1⟩)
  go_ret
  exact ⟨rfl, b1⟩

set_option maxRecDepth 100000 in
set_option maxHeartbeats 8000000 in
theorem written_ok (t : ITk) (w : World) (RD : Rdy w) (hv : RdP w.heap.size w t.pv t.path) (hp : t.path = []) (hok : okW t.kind t.text t.path = true) :
    Calls Tryz.prog 38 #[t.val] w fun e w' => e = .returned (.bool true) ∧ Below w.heap.size w w' := by
  obtain ⟨tk, tt, tp, tx, ty, po, pc, tl⟩ := t
  unfold ITk.pv at hv
  simp only at hv hp hok
  have CW := hide' (fun W (g : Below w.heap.size w W) => writes_ok tk ⟨tt.toArray⟩ po tp.length pc tp W (RD.below g) (rdS_below hv g) (by simpa [ByteArray.size] using tl) hp hok)
  unfold ITk.val ITk.pv
  simp only
  generalize tp.length = PL at *
  generalize ByteArray.mk tt.toArray = z at *
  obtain ⟨W0, hW0⟩ : ∃ W0, w.alloc (.cells #[.int .i64 tk, .string z, .slice po PL pc, .int .i64 tx, .int .i64 ty] 72) = W0 := ⟨_, rfl⟩
  have F0 := five_new w (.int .i64 tk) (.string z) (.slice po PL pc) (.int .i64 tx) (.int .i64 ty) 72
  have B0 : Below w.heap.size w (w.alloc (.cells #[.int .i64 tk, .string z, .slice po PL pc, .int .i64 tx, .int .i64 ty] 72)) := (Below.refl _ _).alloc (Nat.le_refl _) _
  rw [hW0] at F0 B0
  obtain ⟨t0, t1, t2, t3, t4, _, _, _, _, _⟩ := F0
  have HB0 := hide' B0
  clear hv hp hok B0 RD
  go_enter Tryz.func38, Tryz.ntmps38
  go_upto_region 1 with fail
  try rw [hW0]
  clear hW0
  go_wp2_with (go_at_call 68; refine (CW.out _ HB0.out).mono ?_; clear CW; rintro e w1 ⟨rfl, b1⟩)
  go_ret
  exact ⟨rfl, HB0.out.trans (b1.mono HB0.out.size)⟩
end Go.Proofs.YtbcmpacmoofdkaaGreatDoor
/- Parse, over what its declarations are. -/
namespace Go.Proofs.YtbcmpacmoofdkaaGreatDoor
open Go.ChangeShapes Go.WideShapes Go.ChangeAt Go.RowKit

/-- Each node's list of kids has room for them. -/
def NCap (w : World) (v : Value) (l : List Nod) : Prop := ∀ j, j < l.length → ∀ g o n c, v = .slice (some ⟨g, o, none⟩) n c → ∃ ao n' c', w.cell? ⟨g, o + j * 6 + 3, none⟩ = some (.slice ao n' c') ∧ n' ≤ c'
theorem nodAll {b : Nat} {w : World} : ∀ (ns : List Nod) (kvs : List Value) (_ : KOk b w ns kvs) (i : Nat) (_ : i < ns.length), ∃ kv, (ns.getD i Nod.zero).path = [] ∧ RdK b w kv (ns.getD i Nod.zero).kids ∧ (nodCells ns kvs)[i * 6]? = some (.int .i64 (ns.getD i Nod.zero).kind) ∧ (nodCells ns kvs)[i * 6 + 1]? = some (.string ⟨(ns.getD i Nod.zero).text.toArray⟩) ∧ (nodCells ns kvs)[i * 6 + 2]? = some (.slice none 0 0) ∧ (nodCells ns kvs)[i * 6 + 3]? = some kv ∧ (nodCells ns kvs)[i * 6 + 4]? = some (.int .i64 (ns.getD i Nod.zero).line) ∧ (nodCells ns kvs)[i * 6 + 5]? = some (.int .i64 (ns.getD i Nod.zero).column)
  | [], _, _, i, hi => absurd hi (by simp)
  | _ :: _, [], h, _, _ => absurd h (by simp [KOk])
  | t :: r, k :: ks, h, 0, _ => ⟨k, by simpa using h.1.1, by simpa using h.1.2, by simp [nodCells], by simp [nodCells], by simp [nodCells], by simp [nodCells], by simp [nodCells], by simp [nodCells]⟩
  | t :: r, k :: ks, h, i + 1, hi => by
    obtain ⟨kv, h1, h2, h3⟩ := nodAll r ks h.2 i (by simpa using hi)
    refine ⟨kv, by simpa using h1, by simpa using h2, ?_⟩
    have e0 : (i + 1) * 6 = (i * 6) + 6 := by omega
    have e1 : (i + 1) * 6 + 1 = (i * 6 + 1) + 6 := by omega
    have e2 : (i + 1) * 6 + 2 = (i * 6 + 2) + 6 := by omega
    have e3 : (i + 1) * 6 + 3 = (i * 6 + 3) + 6 := by omega
    have e4 : (i + 1) * 6 + 4 = (i * 6 + 4) + 6 := by omega
    have e5 : (i + 1) * 6 + 5 = (i * 6 + 5) + 6 := by omega
    rw [e1, e2, e3, e4, e5, e0]
    simpa [nodCells] using h3
/-- What the parser has put can be read as nodes. -/
theorem Rw.rdN {b : Nat} {w : World} {ns : List Nod} {ds : List Nat} {nv dv : Value} (h : Rw b w ns ds nv dv) (hne : ns ≠ []) (hkb : ∀ j, j < ns.length → (ns.getD j Nod.zero).kids.length ≤ 1000) : RdN w.heap.size w nv ns ∧ NCap w nv ns := by
  obtain ⟨kvs, hko, hr⟩ := h.rn
  have hsm := h.sm
  have hl : 0 < ns.length := by cases ns with
    | nil => exact absurd rfl hne
    | cons _ _ => simp
  obtain ⟨g, cap, hv, hg, hlt⟩ := hr.form hl
  subst hv
  have hcell : ∀ j u, (nodCells ns kvs)[j]? = some u → w.cell? ⟨g, j, none⟩ = some u := fun j u hj => by
    have hjl : j < ns.length * 6 := by
      have h1 := (List.getElem?_eq_some_iff.1 hj).1
      rw [hr.1] at h1
      exact h1
    rw [hr.cellAt j hjl]; exact hj
  have hrd : ∀ kv (ks : List Int), ks.length ≤ 1000 → RdK b w kv ks → RdI w.heap.size w kv ks := fun kv ks hlk hk => by
    obtain ⟨ao, c, hv, hcl, hc⟩ := hk
    refine ⟨ao, c, hv, by omega, fun j hj => ?_⟩
    · obtain ⟨g', ha, hp, _, hx⟩ := hc j hj
      exact ⟨⟨g', 0, none⟩, ha, hp.1, by
        have e : (⟨g', 0, none⟩ : Addr).add j = ⟨g', j, none⟩ := by unfold Addr.add; split <;> simp_all
        rw [e]; exact hx⟩
  refine ⟨⟨_, _, rfl, by omega, fun j hj => ?_⟩, fun j hj g' o' n c hv => ?_⟩
  · obtain ⟨kv, h1, h2, c0, c1, c2, c3, c4, c5⟩ := nodAll ns kvs hko j hj
    refine ⟨g, 0, .slice none 0 0, kv, rfl, hlt, ?_⟩
    rw [Nat.zero_add]
    exact ⟨hcell _ _ c0, hcell _ _ c1, hcell _ _ c2, hcell _ _ c3, hcell _ _ c4, hcell _ _ c5, by rw [h1]; exact ⟨none, 0, rfl, by decide, fun j hj => absurd hj (by simp)⟩, hrd _ _ (hkb j hj) h2⟩
  · injection hv with e1 e2 e3
    injection e1 with e1
    injection e1 with e1 e4
    subst e1 e4
    obtain ⟨kv, _, ⟨ao, c', hkv, hcl, _⟩, _, _, _, c3, _⟩ := nodAll ns kvs hko j hj
    subst hkv
    rw [Nat.zero_add]
    exact ⟨_, _, _, hcell _ _ c3, hcl⟩
theorem results_tmp5 {fn : Func} {t u v x y : Tmp} (h : fn.results = #[.tmp t, .tmp u, .tmp v, .tmp x, .tmp y]) (tmps : Array Value) (P : Program) (w : World) :
    (results fn tmps).run P w = .ok (.tuple #[tmps.getD t undef, tmps.getD u undef, tmps.getD v undef, tmps.getD x undef, tmps.getD y undef]) w := by
  simp [results, h]
set_option maxRecDepth 100000 in
set_option maxHeartbeats 16000000 in
theorem parse_of (tv : Value) (toks : List ITk) (w : World) (RD : Rdy w) (htab : Lib.TabIs Tryz.prog w "strings.asciiSpace" .u8 Lib.asciiSpaceTab) (hrt : RdTk w.heap.size w tv toks) (hpt : ∀ j, j < toks.length → (toks.getD j ITk.zero).path = []) (hok : ∀ j, j < toks.length → okW (toks.getD j ITk.zero).kind (toks.getD j ITk.zero).text (toks.getD j ITk.zero).path = true)
    (at1 : Nat) (n : Int) (NS : List Nod) (DS : List Nat) (hend : toks.length ≤ at1) (hne : NS ≠ []) (hkb : ∀ j, j < NS.length → (NS.getD j Nod.zero).kids.length ≤ 1000)
    (hd : ∀ b W g1, St b W tv toks 0 0 (some ⟨g1, 0, none⟩) (fxD (scD 8)) [] [] (.slice none 0 0) (.slice none 0 0) → Calls Tryz.prog 105 #[.pointer (some ⟨b, 0, none⟩)] W fun e w' => e = .returned (.int .i64 n) ∧ (∃ nv' dv', St b w' tv toks at1 0 (some ⟨g1, 0, none⟩) (fxD (scD 8)) NS DS nv' dv') ∧ Rel b W w') :
    Calls Tryz.prog 17 #[tv] w fun e w' => ∃ nv, e = .returned (.tuple #[nv, .int .i64 n, .int .i64 0, .int .i64 0, .int .i64 0]) ∧ RdN w'.heap.size w' nv NS ∧ NCap w' nv NS ∧ Below w.heap.size w w' := by
  have HRT := hide' hrt
  obtain ⟨ao, cap, htv, hm, hcc⟩ := hrt
  obtain ⟨L, hL⟩ : ∃ L, toks.length = L := ⟨_, rfl⟩
  have HL := hide' hL
  subst htv
  have HCC := hide' hcc
  have HPT := hide' hpt
  have HOK := hide' hok
  have HRD := hide' RD
  have HTAB := hide' htab
  have HD := hide' hd
  have HKB := hide' hkb
  rw [hL] at hm hend HD ⊢
  clear hcc hpt hok RD htab hd hkb hL
  go_enter Tryz.func17, Tryz.ntmps17
  go_wp2_with fail
  go_loopw [14] (fun v wr => ∃ k : Nat, k ≤ L ∧ v = .int .i64 (k : Int) ∧ Below w.heap.size w wr) (fun v _ => L - (intOf v).toNat)
  case atStart => exact ⟨0, Nat.zero_le _, rfl, Below.refl _ _⟩
  case round =>
    obtain ⟨k, hk, rfl, bw⟩ := hrel
    by_cases hlt : k < L
    · obtain ⟨g, o, ea, hg, hat⟩ := HCC.out k (by have := HL.out; omega)
      subst ea
      have hat2 := hat.below bw hg
      have CW := hide' (fun W (b : Below wr.heap.size wr W) => written_ok (toks.getD k ITk.zero) W (HRD.out.below (bw.trans (b.mono bw.size))) (by
        have h1 := rdP_below hat2.rp (b.mono bw.size)
        obtain ⟨ao', c', h2, h3, h4⟩ := h1
        exact ⟨ao', c', h2, h3, fun j hj => by
          obtain ⟨a, h5, h6, h7⟩ := h4 j hj
          exact ⟨a, h5, Nat.lt_of_lt_of_le h6 (Nat.le_trans bw.size b.size), h7⟩⟩) (HPT.out k (by have := HL.out; omega)) (HOK.out k (by have := HL.out; omega)))
      generalize toks.getD k ITk.zero = T at *
      obtain ⟨tk, tt, tp, tx, ty, po, pc, tl⟩ := T
      obtain ⟨d0, d1, d2, d3, d4, _⟩ := hat2
      unfold ITk.val ITk.pv at CW
      simp only [ITk.pv] at d0 d1 d2 d3 d4 CW
      generalize tp.length = PL at *
      generalize ByteArray.mk tt.toArray = z at *
      clear hat
      go_wp2_with (go_at_call 38; refine (CW.out _ ((Below.refl _ _).alloc (Nat.le_refl _) _)).mono ?_; clear CW; rintro e w1 ⟨rfl, b1⟩)
      go_roundw
      case rel => exact ⟨k + 1, by omega, by go_num, (bw.alloc bw.size _).trans (b1.mono (by simp; have := bw.size; omega))⟩
      case measure => first | (simp [intOf]; done) | (simp [intOf]; omega)
    · have CS := hide' (firstScope_any wr (tab_keep spaceG HTAB.out bw))
      have hk8 : k = L := by omega
      have HBW := hide' bw
      go_upto_region 8 with (go_at_call 39; refine CS.out.mono ?_; clear CS; rintro e w1 ⟨rfl, b1, s1, g0, g1, om⟩)
      have hws := bw.size
      have B1 : Below w.heap.size w w1 := bw.trans (b1.mono hws)
      obtain ⟨b, hb⟩ : ∃ b, w1.heap.size = b := ⟨_, rfl⟩
      obtain ⟨W, hW⟩ : ∃ W, w1.alloc (.cells #[.slice ao L cap, .int .i64 0, .int .i64 0, .pointer (some ⟨wr.heap.size + 1, 0, none⟩), .slice none 0 0, .slice none 0 0] 80) = W := ⟨_, rfl⟩
      have BW : Below w1.heap.size w1 W := by rw [← hW]; exact (Below.refl _ _).alloc (Nat.le_refl _) _
      have SW : W.heap.size = b + 1 := by rw [← hW, ← hb]; simp
      have sx := six_new w1 (.slice ao L cap) (.int .i64 0) (.int .i64 0) (.pointer (some ⟨wr.heap.size + 1, 0, none⟩)) (.slice none 0 0) (.slice none 0 0) 80
      rw [hW, hb] at sx
      obtain ⟨⟨k0, k1, k2, k3, k4, k5⟩, kf⟩ := sx
      have hwb : w.heap.size ≤ b := by rw [← hb]; exact B1.size
      have hrtb : RdTk b W (.slice ao L cap) toks := by
        have h1 := HRT.out
        rw [HL.out] at h1
        have h2 := rdTk_below (rdTk_below h1 B1) (BW.mono (by rw [hb]; exact hwb))
        obtain ⟨ao', c', h3, h4, h5⟩ := h2
        refine ⟨ao', c', h3, h4, fun j hj => ?_⟩
        obtain ⟨g, o, h6, h7, h8⟩ := h5 j hj
        refine ⟨g, o, h6, by omega, ⟨h8.c0, h8.c1, h8.c2, h8.c3, h8.c4, ?_⟩⟩
        obtain ⟨ao2, c2, h9, h10, h11⟩ := h8.rp
        exact ⟨ao2, c2, h9, h10, fun i hi => by
          obtain ⟨a, h12, h13, h14⟩ := h11 i hi
          exact ⟨a, h12, by omega, h14⟩⟩
      have hps : ∀ W', Below W.heap.size W W' → b + 3 ≤ W'.heap.size → PS b W' (.slice ao L cap) toks 0 0 (.pointer (some ⟨wr.heap.size + 1, 0, none⟩)) (.slice none 0 0) (.slice none 0 0) := fun W' bW h3 => by
        have hbl : b < W.heap.size := by omega
        exact ⟨(bW.cell (p := ⟨b, 0, none⟩) hbl).trans k0, (bW.cell (p := ⟨b, 1, none⟩) hbl).trans k1, (bW.cell (p := ⟨b, 2, none⟩) hbl).trans k2, (bW.cell (p := ⟨b, 3, none⟩) hbl).trans k3, (bW.cell (p := ⟨b, 4, none⟩) hbl).trans k4, (bW.cell (p := ⟨b, 5, none⟩) hbl).trans k5, (bW.frozen (p := ⟨b, 1, none⟩) hbl).trans (kf 1 (by decide)), (bW.frozen (p := ⟨b, 2, none⟩) hbl).trans (kf 2 (by decide)), (bW.frozen (p := ⟨b, 3, none⟩) hbl).trans (kf 3 (by decide)), (bW.frozen (p := ⟨b, 4, none⟩) hbl).trans (kf 4 (by decide)), (bW.frozen (p := ⟨b, 5, none⟩) hbl).trans (kf 5 (by decide)), rdTk_below hrtb (bW.mono (by omega)), Nat.zero_le _, h3⟩
      have hpr : ∀ W' k, Below W.heap.size W W' → k ≠ b → k < W'.heap.size → Prot b W' k := fun W' k bW h1 h2 => by
        have hbl : b < W.heap.size := by omega
        refine ⟨h2, h1, fun v hv e => ?_, fun v hv e => ?_⟩
        · rw [(bW.cell (p := ⟨b, 4, none⟩) hbl).trans k4] at hv; injection hv with hv; subst hv; cases e
        · rw [(bW.cell (p := ⟨b, 5, none⟩) hbl).trans k5] at hv; injection hv with hv; subst hv; cases e
      have hrw : ∀ W', Rw b W' [] [] (.slice none 0 0) (.slice none 0 0) := fun W' => ⟨⟨[], trivial, World.ownsRow_nil _ _ _ _⟩, World.ownsRow_nil _ _ _ _, rfl, by decide⟩
      have hsc : ∀ W', Below W.heap.size W W' → Sc b W' (wr.heap.size + 1) wr.heap.size none 64 (scD 8) := fun W' bW => by
        have hB : Below w1.heap.size w1 W' := BW.trans (bW.mono (by omega))
        have hsz := hB.size
        refine ⟨hpr W' _ bW (by omega) (by omega), hpr W' _ bW (by omega) (by omega), (hB.cell (p := ⟨wr.heap.size + 1, 0, none⟩) s1).trans g0, (hB.cell (p := ⟨wr.heap.size + 1, 1, none⟩) s1).trans g1, ?_⟩
        obtain ⟨es, cl, hbm, F, hs, hD⟩ := om
        exact ⟨es, cl, (hB.block _ (by omega)).trans hbm, F, hs, hD⟩
      have CP := hide' (program_of b (.slice ao L cap) toks at1 0 (.pointer (some ⟨wr.heap.size + 1, 0, none⟩)) NS DS W n SW ⟨ao, cap, by rw [HL.out], by rw [HL.out]; exact hm⟩ (by rw [HL.out]; exact hend) (fun W' bW h3 => decs_of b (.slice ao L cap) toks 0 at1 0 (wr.heap.size + 1) wr.heap.size 64 (scD 8) [] NS [] DS (.slice none 0 0) (.slice none 0 0) W' n (hps W' bW h3) (hrw W') (hsc W' bW) (fun W2 g2 hst => HD.out b W2 g2 hst)) (fun W' k bW h1 h2 => hpr W' k bW (by omega) h2))
      have HB1 := hide' B1
      have HBWW := hide' BW
      try rw [hW]
      try rw [hb]
      clear hps hpr hrw hsc hrtb k0 k1 k2 k3 k4 k5 kf g0 g1 om b1 s1 B1 BW hW bw
      have HSW := hide' SW
      have HHB := hide' hb
      clear SW hb
      go_wp2_with (go_at_call 40; refine CP.out.mono ?_; clear CP; rintro e w2 ⟨rfl, ⟨nv', dv', hp2, hx2⟩, r2⟩; (have c4 := hp2.c4); (have hb2 := hp2.old); (have HX2 := hide' hx2); (have HR2 := hide' r2); clear hp2 hx2 r2)
      have hx3 : Rw b (w2.alloc (.cells #[.int .i64 0, .int .i64 0, .int .i64 0] 84)) NS DS nv' dv' := HX2.out.below ((Below.refl _ _).alloc (Nat.le_refl _) _) hb2
      have hR := hx3.rdN hne HKB.out
      have hbl : Below w.heap.size w (w2.alloc (.cells #[.int .i64 0, .int .i64 0, .int .i64 0] 84)) :=
        ((HB1.out.trans (HBWW.out.mono (by rw [HHB.out]; exact hwb))).trans (HR2.out.low.mono hwb)).alloc (by omega) _
      refine bodyPost_ret (results_tmp5 rfl _ _ _) rfl ?_
      exact ⟨nv', rfl, hR.1, hR.2, hbl⟩
end Go.Proofs.YtbcmpacmoofdkaaGreatDoor
