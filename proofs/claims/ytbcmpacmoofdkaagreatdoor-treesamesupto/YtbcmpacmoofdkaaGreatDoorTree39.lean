/- The parser: infixes, where a sum has a product behind it. -/
import Derived.Test.YtbcmpacmoofdkaaGreatDoorProg
import Derived.Test.YtbcmpacmoofdkaaGreatDoorTree38
import Derived.WalkKit
import Derived.ProofKit
import Derived.OpenShut
import Derived.Below
import Derived.WalkLawsBesides
import Derived.OwnWalk
import Derived.BigQuiet
import Derived.Deep.MidRow
import Derived.Deep.RegionHeld
import Derived.Deep.RegionHeld3
import Derived.WalkSmall
import Derived.Deep.DeepCutAuto
import Derived.Deep.AppendLies
namespace Go.Proofs.YtbcmpacmoofdkaaGreatDoor
open Go.ChangeShapes Go.WideShapes Go.ChangeAt Go.RowKit

/-- Where infixes puts its sides together: what it holds beside the parser. -/
structure TG (b : Nat) (w wc wy : World) (tv : Value) (toks : List ITk) (at' op : Nat) (so : Option Addr) (fx : List UInt8 → Fix) (ns : List Nod) (ds : List Nat) (g c : Nat) (sd : List Int) (T g6 : Nat) : Prop where
  st : ∃ nv' dv' kvs', St b wy tv toks at' op so fx ns ds nv' dv' ∧ KOk b wy ns kvs' ∧ wy.ownsRow (b + 1) 37 6 nv' ns.length (nodCells ns kvs') ∧ KNe g ns kvs'
  sd : wy.ownsRow w.heap.size 3 1 (.slice (some ⟨g, 0, none⟩) sd.length c) sd.length (intCellsI sd)
  pg : Prot b wy g
  rel : Rel b w wy
  kT : wy.heap[T]? = wc.heap[T]? ∧ Prot b wy T
  k6 : wy.heap[g6]? = wc.heap[g6]? ∧ Prot b wy g6
  kP : wy.heap[w.heap.size]? = wc.heap[w.heap.size]? ∧ Prot b wy w.heap.size
  ne : g6 ≠ g ∧ T ≠ g ∧ w.heap.size ≠ g
theorem TG.next {b : Nat} {w wc wy W w' : World} {tv : Value} {toks : List ITk} {at' op : Nat} {so : Option Addr} {fx : List UInt8 → Fix} {ns ns' : List Nod} {ds ds' : List Nat} {g g' c c' : Nat} {sd sd' : List Int} {T g6 : Nat} (x : TG b w wc wy tv toks at' op so fx ns ds g c sd T g6) (bq : Below wy.heap.size wy W) (k : TogK b w W w' tv toks at' op so fx ns' ds' g g' c' sd') : TG b w wc w' tv toks at' op so fx ns' ds' g' c' sd' T g6 := by
  obtain ⟨nv, dv, kvs, s, _, _, _⟩ := x.st
  have r := Rel.of bq s.ps.old
  have aT := r.rest T x.kT.2
  have a6 := r.rest g6 x.k6.2
  have aP := r.rest _ x.kP.2
  have oT := k.oth T x.ne.2.1 aT.2
  have o6 := k.oth g6 x.ne.1 a6.2
  have oP := k.oth _ x.ne.2.2 aP.2
  refine ⟨k.st, k.sd, k.pg, k.rel, ⟨oT.1.trans (aT.1.trans x.kT.1), oT.2⟩, ⟨o6.1.trans (a6.1.trans x.k6.1), o6.2⟩, ⟨oP.1.trans (aP.1.trans x.kP.1), oP.2⟩, ?_⟩
  rcases k.nw with e | e
  · rw [e]; exact x.ne
  · have h1 := aT.2.1
    have h2 := a6.2.1
    have h3 := aP.2.1
    exact ⟨by omega, by omega, by omega⟩

theorem infoBtw : (Tryz.prog.info? 251).map (fun i => (i.zero, i.size, i.bytes)) = some (some (.agg #[.bool false, .int .i64 0, .bool false, .int .i64 0, .int .i64 0, .string ⟨#[]⟩]), 6, 56) := by kernel_rfl

set_option maxRecDepth 100000 in
set_option maxHeartbeats 32000000 in
theorem infixes_three (b : Nat) (tv : Value) (toks : List ITk) (op : Nat) (so : Option Addr) (fx : List UInt8 → Fix) (at0 at1 at2 at3 : Nat) (ns0 ns1 ns2 ns3 : List Nod) (ds0 ds1 ds2 ds3 : List Nat) (nv dv : Value) (w : World) (n1 n2 n3 N : Nat) (l1 l2 : Int) (r1 r2 : Bool) (h : St b w tv toks at0 op so fx ns0 ds0 nv dv)
    (t1 : ∀ W, Below w.heap.size w W → Calls Tryz.prog 275 #[.pointer (some ⟨b, 0, none⟩)] W fun e w' => e = .returned (.int .i64 (n1 : Int)) ∧ (∃ nv' dv', St b w' tv toks at1 op so fx ns1 ds1 nv' dv') ∧ Rel b W w')
    (t2 : ∀ W nv dv, St b W tv toks (at1 + 1) op so fx ns1 ds1 nv dv → Calls Tryz.prog 275 #[.pointer (some ⟨b, 0, none⟩)] W fun e w' => e = .returned (.int .i64 (n2 : Int)) ∧ (∃ nv' dv', St b w' tv toks at2 op so fx ns2 ds2 nv' dv') ∧ Rel b W w')
    (t3 : ∀ W nv dv, St b W tv toks (at2 + 1) op so fx ns2 ds2 nv dv → Calls Tryz.prog 275 #[.pointer (some ⟨b, 0, none⟩)] W fun e w' => e = .returned (.int .i64 (n3 : Int)) ∧ (∃ nv' dv', St b w' tv toks at3 op so fx ns3 ds3 nv' dv') ∧ Rel b W w')
    (hk1 : (lookT toks at1).kind ≠ 1) (hk2 : (lookT toks at2).kind ≠ 1) (hk3 : (lookT toks at3).kind ≠ 1)
    (hf1 : fxP fx (lookT toks at1) = (true, l1, r1)) (hf2 : fxP fx (lookT toks at2) = (true, l2, r2)) (hf3 : (fxP fx (lookT toks at3)).1 = false) (hl12 : l1 < l2)
    (hn1 : at1 < toks.length) (hn2 : at2 < toks.length) (hb1 : at1 + 1 ≤ 8796093022208) (hb2 : at2 + 1 ≤ 8796093022208)
    (lf1 : ∀ t ∈ ns1, t.kids = []) (lf2 : ∀ t ∈ ns2, t.kids = []) (lf3 : ∀ t ∈ ns3, t.kids = [])
    (x1 y1 x2 y2 : Int) (z1 z2 : ByteArray) (hx1 : (lookT toks at1).line = x1) (hy1 : (lookT toks at1).column = y1) (hz1 : ByteArray.mk (lookT toks at1).text.toArray = z1) (hx2 : (lookT toks at2).line = x2) (hy2 : (lookT toks at2).column = y2) (hz2 : ByteArray.mk (lookT toks at2).text.toArray = z2)
    (hN : ns3.length = N) (m1 : n1 < N) (m2 : n2 < N) (m3 : n3 < N) (hcap : N + 6 ≤ 1000) (hds : ∀ j, j < N → ds3.getD j 0 ≤ 1000) (hzs1 : z1.size ≤ 1048576) (hzs2 : z2.size ≤ 1048576)
    (D1 D2 D3 E1 E2 E3 : List Nat) (hD1 : D1 = ds3 ++ [1]) (hD2 : D2 = D1 ++ [depM D1 [(n2 : Int), (n3 : Int)]]) (hD3 : D3 = D2 ++ [depM D2 [(N : Int), ((N + 1 : Nat) : Int)]]) (hd1 : depM D1 [(n2 : Int), (n3 : Int)] ≤ 1000) (hd2 : depM D2 [(N : Int), ((N + 1 : Nat) : Int)] ≤ 1000)
    (hds3 : ∀ j, j < N + 3 → D3.getD j 0 ≤ 1000) (hE1 : E1 = D3 ++ [1]) (hE2 : E2 = E1 ++ [depM E1 [(n1 : Int), ((N + 2 : Nat) : Int)]]) (hE3 : E3 = E2 ++ [depM E2 [((N + 3 : Nat) : Int), ((N + 3 + 1 : Nat) : Int)]]) (he1 : depM E1 [(n1 : Int), ((N + 2 : Nat) : Int)] ≤ 1000) (he2 : depM E2 [((N + 3 : Nat) : Int), ((N + 3 + 1 : Nat) : Int)] ≤ 1000)
    (NSa NSb : List Nod) (hNSa : NSa = ns3 ++ ([⟨10, z2.data.toList, [], [], x2, y2⟩] : List Nod) ++ ([⟨13, [], [], [(n2 : Int), (n3 : Int)], x2, y2⟩] : List Nod) ++ ([⟨17, [], [], [(N : Int), ((N + 1 : Nat) : Int)], x2, y2⟩] : List Nod))
    (hNSb : NSb = NSa ++ ([⟨10, z1.data.toList, [], [], x1, y1⟩] : List Nod) ++ ([⟨13, [], [], [(n1 : Int), ((N + 2 : Nat) : Int)], x1, y1⟩] : List Nod) ++ ([⟨17, [], [], [((N + 3 : Nat) : Int), ((N + 3 + 1 : Nat) : Int)], x1, y1⟩] : List Nod)) :
    Calls Tryz.prog 233 #[.pointer (some ⟨b, 0, none⟩), expMix b] w fun e w' => e = .returned (.int .i64 ((N + 3 + 2 : Nat) : Int)) ∧ (∃ nv' dv', St b w' tv toks at3 op so fx NSb E3 nv' dv') ∧ Rel b w w' := by
  obtain ⟨i0, hi, hz0', hz1', hz2'⟩ := info_parts infoInt
  obtain ⟨j0, hj, jz0, jz1, jz2⟩ := info_parts infoBtw
  have hold := h.ps.old
  have f0 := h.fn
  unfold expMix
  obtain ⟨W0, hW0⟩ : ∃ W0, w.alloc (.cells #[.func (.func 275) #[.pointer (some ⟨b, 0, none⟩)] #[], .func (.func 276) #[.pointer (some ⟨b, 0, none⟩)] #[], .int .i64 17, .int .i64 10, .int .i64 13] 241) = W0 := ⟨_, rfl⟩
  have B0 : Below w.heap.size w W0 := by rw [← hW0]; exact (Below.refl _ _).alloc (Nat.le_refl _) _
  have p0 : W0.cell? ⟨w.heap.size, 0, none⟩ = some (.func (.func 275) #[.pointer (some ⟨b, 0, none⟩)] #[]) := by rw [← hW0]; simp
  have p1 : W0.cell? ⟨w.heap.size, 1, none⟩ = some (.func (.func 276) #[.pointer (some ⟨b, 0, none⟩)] #[]) := by rw [← hW0]; simp
  have p2 : W0.cell? ⟨w.heap.size, 2, none⟩ = some (.int .i64 17) := by rw [← hW0]; simp
  have p3 : W0.cell? ⟨w.heap.size, 3, none⟩ = some (.int .i64 10) := by rw [← hW0]; simp
  have p4 : W0.cell? ⟨w.heap.size, 4, none⟩ = some (.int .i64 13) := by rw [← hW0]; simp
  have s0 : w.heap.size < W0.heap.size := by rw [← hW0]; simp
  have HPR := hide' (h.prot (h.ps.below B0 hold) (Nat.le_refl _) s0)
  have CT := hide' (t1 W0 B0)
  have CT2 := hide' t2
  have CT3 := hide' t3
  have CL1 : Hid' (∀ W nv' dv' NS DS, St b W tv toks at1 op so fx NS DS nv' dv' → Calls Tryz.prog 139 #[.pointer (some ⟨b, 0, none⟩), .int .i64 0] W fun e w' => e = .returned (lookT toks (at1 + 0)).val ∧ Below W.heap.size W w') := ⟨fun W nv' dv' NS DS g => look_any b tv toks at1 op 0 (.pointer so) nv' dv' W g.ps (by decide)⟩
  rw [Nat.add_zero] at CL1
  have CF1 := hide' (fun W nv' dv' NS DS (g : St b W tv toks at1 op so fx NS DS nv' dv') => fixityInExp_any b tv toks at1 op so nv' dv' fx (lookT toks at1) W g.ps g.fn hk1)
  have CL2 : Hid' (∀ W nv' dv' NS DS, St b W tv toks at2 op so fx NS DS nv' dv' → Calls Tryz.prog 139 #[.pointer (some ⟨b, 0, none⟩), .int .i64 0] W fun e w' => e = .returned (lookT toks (at2 + 0)).val ∧ Below W.heap.size W w') := ⟨fun W nv' dv' NS DS g => look_any b tv toks at2 op 0 (.pointer so) nv' dv' W g.ps (by decide)⟩
  rw [Nat.add_zero] at CL2
  have CF2 := hide' (fun W nv' dv' NS DS (g : St b W tv toks at2 op so fx NS DS nv' dv') => fixityInExp_any b tv toks at2 op so nv' dv' fx (lookT toks at2) W g.ps g.fn hk2)
  have CL3 : Hid' (∀ W nv' dv' NS DS, St b W tv toks at3 op so fx NS DS nv' dv' → Calls Tryz.prog 139 #[.pointer (some ⟨b, 0, none⟩), .int .i64 0] W fun e w' => e = .returned (lookT toks (at3 + 0)).val ∧ Below W.heap.size W w') := ⟨fun W nv' dv' NS DS g => look_any b tv toks at3 op 0 (.pointer so) nv' dv' W g.ps (by decide)⟩
  rw [Nat.add_zero] at CL3
  have CF3 := hide' (fun W nv' dv' NS DS (g : St b W tv toks at3 op so fx NS DS nv' dv') => fixityInExp_any b tv toks at3 op so nv' dv' fx (lookT toks at3) W g.ps g.fn hk3)
  have CH1 := hide' (fun W nv' dv' NS DS (g : St b W tv toks at1 op so fx NS DS nv' dv') => here_any b tv toks at1 op (.pointer so) nv' dv' W g.ps hn1)
  have CN1 := hide' (fun W nv' dv' NS DS (g : St b W tv toks at1 op so fx NS DS nv' dv') => next_any b tv toks at1 op (.pointer so) nv' dv' W g.ps hb1)
  rw [hx1, hy1] at CH1
  rw [hf1] at CF1
  unfold fixV at CF1
  unfold ITk.val ITk.pv at CL1 CF1 CN1
  rw [hz1, hx1, hy1] at CL1 CF1 CN1
  simp only at CL1 CF1 CN1
  generalize (lookT toks at1).kind = tk1 at *
  generalize (lookT toks at1).path.length = pl1 at *
  generalize (lookT toks at1).po = po1 at *
  generalize (lookT toks at1).pc = pc1 at *
  have hfd1 : ∀ W, (Instr.field 72 (.agg #[.int .i64 tk1, .string z1, .slice po1 pl1 pc1, .int .i64 x1, .int .i64 y1]) 1).run Tryz.prog W = .ok (.string z1) W := fun W => by kernel_rfl
  have CH2 := hide' (fun W nv' dv' NS DS (g : St b W tv toks at2 op so fx NS DS nv' dv') => here_any b tv toks at2 op (.pointer so) nv' dv' W g.ps hn2)
  have CN2 := hide' (fun W nv' dv' NS DS (g : St b W tv toks at2 op so fx NS DS nv' dv') => next_any b tv toks at2 op (.pointer so) nv' dv' W g.ps hb2)
  rw [hx2, hy2] at CH2
  rw [hf2] at CF2
  unfold fixV at CF2
  unfold ITk.val ITk.pv at CL2 CF2 CN2
  rw [hz2, hx2, hy2] at CL2 CF2 CN2
  simp only at CL2 CF2 CN2
  generalize (lookT toks at2).kind = tk2 at *
  generalize (lookT toks at2).path.length = pl2 at *
  generalize (lookT toks at2).po = po2 at *
  generalize (lookT toks at2).pc = pc2 at *
  have hfd2 : ∀ W, (Instr.field 72 (.agg #[.int .i64 tk2, .string z2, .slice po2 pl2 pc2, .int .i64 x2, .int .i64 y2]) 1).run Tryz.prog W = .ok (.string z2) W := fun W => by kernel_rfl
  generalize fxP fx (lookT toks at3) = f at *
  obtain ⟨fi, fl, fr⟩ := f
  simp only at hf3
  subst hf3
  unfold fixV at CF3
  simp only at CF3
  unfold ITk.val ITk.pv at CL3 CF3
  generalize ByteArray.mk (lookT toks at3).text.toArray = z3 at *
  generalize (lookT toks at3).kind = tk3 at *
  generalize (lookT toks at3).path.length = pl3 at *
  generalize (lookT toks at3).po = po3 at *
  generalize (lookT toks at3).pc = pc3 at *
  generalize (lookT toks at3).line = x3 at *
  generalize (lookT toks at3).column = y3 at *
  have HB0 := hide' B0
  have HF0 := hide' f0
  have LF1 := hide' lf1
  have LF2 := hide' lf2
  have LF3 := hide' lf3
  have hl21 : l1 ≠ l2 := by omega
  have hwr1 : IntKind.i64.wrap 1 = 1 := by decide
  have hwr0 : IntKind.i64.wrap 0 = 0 := by decide
  have hl22 : decide (l2 < l1) = false := by simp; omega
  have HNa : Hid' (NSa.length = N + 3) := ⟨by rw [hNSa]; simp [hN]⟩
  have CTA := hide' (fun W nv' dv' kvs (g : St b W tv toks at3 op so fx ns3 ds3 nv' dv') (hko : KOk b W ns3 kvs) (hro : W.ownsRow (b + 1) 37 6 nv' ns3.length (nodCells ns3 kvs)) (r0 : Rel b w W) (g5 c5 : Nat) (hsd : W.ownsRow w.heap.size 3 1 (.slice (some ⟨g5, 0, none⟩) 3 c5) 3 (intCellsI [(n1 : Int), (n2 : Int), (n3 : Int)])) (hpg : Prot b W g5) (hkn : KNe g5 ns3 kvs) => together_of b tv toks at3 op so fx ns3 ds3 nv' dv' W w g kvs hko hro r0 hold f0 (.func (.func 275) #[.pointer (some ⟨b, 0, none⟩)] #[]) (.func (.func 276) #[.pointer (some ⟨b, 0, none⟩)] #[]) 17 10 13 l2 x2 y2 true r2 z2 hzs2 g5 c5 N [(n1 : Int)] n2 n3 hN hsd hpg hkn (by simp) m2 m3 (by omega) hds D1 D2 D3 hD1 hD2 hD3 hd1 hd2)
  rw [← hNSa] at CTA
  have CTB := hide' (fun W nv' dv' kvs (g : St b W tv toks at3 op so fx NSa D3 nv' dv') (hko : KOk b W NSa kvs) (hro : W.ownsRow (b + 1) 37 6 nv' NSa.length (nodCells NSa kvs)) (r0 : Rel b w W) (g5 c5 : Nat) (hsd : W.ownsRow w.heap.size 3 1 (.slice (some ⟨g5, 0, none⟩) 2 c5) 2 (intCellsI [(n1 : Int), ((N + 2 : Nat) : Int)])) (hpg : Prot b W g5) (hkn : KNe g5 NSa kvs) => together_of b tv toks at3 op so fx NSa D3 nv' dv' W w g kvs hko hro r0 hold f0 (.func (.func 275) #[.pointer (some ⟨b, 0, none⟩)] #[]) (.func (.func 276) #[.pointer (some ⟨b, 0, none⟩)] #[]) 17 10 13 l1 x1 y1 true r1 z1 hzs1 g5 c5 (N + 3) [] n1 (N + 2) HNa.out hsd hpg hkn (by simp) (by omega) (by omega) (by omega) hds3 E1 E2 E3 hE1 hE2 hE3 he1 he2)
  rw [← hNSb] at CTB
  simp only [List.length_cons, List.length_nil, Nat.zero_add, List.singleton_append, List.nil_append] at CTA CTB
  obtain ⟨NN, hNN⟩ : ∃ NN : Int, ((N + 3 + 2 : Nat) : Int) = NN := ⟨_, rfl⟩
  obtain ⟨NM, hNM⟩ : ∃ NM : Int, ((N + 2 : Nat) : Int) = NM := ⟨_, rfl⟩
  rw [hNN]
  rw [hNN, hNM] at CTB
  rw [hNM] at CTA
  clear hNN hNM
  clear h t1 t2 t3 B0 f0 hf1 hf2 lf1 lf2 lf3 hD1 hD2 hD3 hE1 hE2 hE3 hNSa hNSb hds hds3 hd1 hd2 he1 he2 hx1 hy1 hz1 hx2 hy2 hz2 hk1 hk2 hk3
  go_enter Tryz.func233, Tryz.ntmps233
  go_upto_region 1 with fail
  try rw [hW0]
  clear hW0
  go_upto_region 3 with (go_at_call 275; refine CT.out.mono ?_; clear CT; rintro e w1 ⟨rfl, ⟨nv', dv', h1⟩, r1'⟩; (have H1 := hide' h1); (have R1 := hide' r1'); clear h1 r1')
  have q1 := R1.out.rest _ HPR.out
  obtain ⟨W2, hW2⟩ : ∃ W2, w1.alloc (.cells #[.int .i64 (n1 : Int)] 3) = W2 := ⟨_, rfl⟩
  have s2 : w1.heap.size < W2.heap.size := by rw [← hW2]; simp
  have B2 : Below w1.heap.size w1 W2 := by rw [← hW2]; exact (Below.refl _ _).alloc (Nat.le_refl _) _
  have hw1 : w.heap.size + 1 ≤ w1.heap.size := q1.2.1
  have X0 : IxS b w W0 W2 tv toks at1 op so fx ns1 ds1 (.slice (some ⟨w1.heap.size, 0, none⟩) 1 1) (.slice none 0 0) [(n1 : Int)] [] 0 := by
    have hst := H1.out.below B2
    refine ⟨⟨nv', dv', hst⟩, ?_, World.ownsRow_nil _ _ _ _, fun g hg => ?_, fun g hg => (by cases hg), (Rel.of HB0.out hold).trans (R1.out.trans (Rel.of B2 H1.out.ps.old)), ⟨(B2.block _ q1.2.1).trans q1.1, ((Rel.of B2 H1.out.ps.old).rest _ q1.2).2⟩⟩
    · rw [← hW2]; exact World.ownsRow_lit w1 #[.int .i64 (n1 : Int)] 1 hw1 (by decide) rfl
    · have e : w1.heap.size = g := by simpa [Value.ownBlock] using hg
      subst e
      exact H1.out.rw'.prot hst.ps H1.out.ps.old (Nat.le_refl _) s2
  have HX0 := hide' X0
  generalize w1.heap.size = g5 at *
  try rw [hW2]
  clear hW2 X0 B2 H1 R1 q1
  go_loopw [5, 6] (fun v5 v6 wr => (∃ g5 c5 : Nat, v5 = .slice (some ⟨g5, 0, none⟩) 1 c5 ∧ v6 = .slice none 0 0 ∧ Hid' (IxS b w W0 wr tv toks at1 op so fx ns1 ds1 (.slice (some ⟨g5, 0, none⟩) 1 c5) (.slice none 0 0) [(n1 : Int)] [] 0)) ∨ (∃ g5 c5 g6 c6 : Nat, v5 = .slice (some ⟨g5, 0, none⟩) 2 c5 ∧ v6 = .slice (some ⟨g6, 0, none⟩) 1 c6 ∧ Hid' (IxS b w W0 wr tv toks at2 op so fx ns2 ds2 (.slice (some ⟨g5, 0, none⟩) 2 c5) (.slice (some ⟨g6, 0, none⟩) 1 c6) [(n1 : Int), (n2 : Int)] [.bool true, .int .i64 l1, .bool r1, .int .i64 x1, .int .i64 y1, .string z1] 1)) ∨ (∃ g5 c5 g6 c6 : Nat, v5 = .slice (some ⟨g5, 0, none⟩) 3 c5 ∧ v6 = .slice (some ⟨g6, 0, none⟩) 2 c6 ∧ Hid' (IxS b w W0 wr tv toks at3 op so fx ns3 ds3 (.slice (some ⟨g5, 0, none⟩) 3 c5) (.slice (some ⟨g6, 0, none⟩) 2 c6) [(n1 : Int), (n2 : Int), (n3 : Int)] [.bool true, .int .i64 l1, .bool r1, .int .i64 x1, .int .i64 y1, .string z1, .bool true, .int .i64 l2, .bool r2, .int .i64 x2, .int .i64 y2, .string z2] 2))) (fun _ v6 _ => 2 - lenV v6)
  case atStart => exact .inl ⟨g5, 1, rfl, rfl, HX0⟩
  case round =>
    clear HX0 s2 hw1
    rcases hrel with ⟨g5, c5, rfl, rfl, HX⟩ | ⟨g5, c5, g6, c6, rfl, rfl, HX⟩ | ⟨g5, c5, g6, c6, rfl, rfl, HX⟩
    ·
      obtain ⟨nvk, dvk, stk⟩ := HX.out.st
      have HST := hide' stk
      have c0 := (cell_of_block (a := ⟨w.heap.size, 0, none⟩) HX.out.pb.1).trans p0
      have c1 := (cell_of_block (a := ⟨w.heap.size, 1, none⟩) HX.out.pb.1).trans p1
      have sP := HX.out.pb.2.1
      have holdr := stk.ps.old
      obtain ⟨wq, hwq⟩ : ∃ wq, wq = wr := ⟨_, rfl⟩
      subst hwq
      have nr : ¬ wq.heap.size = w.heap.size := by omega
      have nr' : ¬ w.heap.size = wq.heap.size := by omega
      clear stk
      go_upto_region 3 with fail
      go_cut [7] (fun v7 wx => ∃ T : Nat, v7 = .pointer (some ⟨T, 0, none⟩) ∧ Three wx T (.bool true) (.int .i64 l1) (.bool r1) ∧ Below wq.heap.size wq wx ∧ wq.heap.size ≤ T ∧ T < wx.heap.size)
      case first =>
        go_region_held3 (fun w' => w'.cell? ⟨w.heap.size, 1, none⟩ = some (.func (.func 276) #[.pointer (some ⟨b, 0, none⟩)] #[])) (go_keep) (first
          | (go_at_call 139; refine (CL1.out _ nvk dvk _ _ (HST.out.below (by first | exact (Below.refl _ _).drew | exact ((Below.refl _ _).drew).alloc (Nat.le_refl _) _ | exact ((Below.refl _ _).alloc (Nat.le_refl _) _).drew))).mono ?_; rintro e w3 ⟨rfl, b3⟩; (have B3 : Below wq.heap.size wq w3 := by first | exact ((Below.refl _ _).drew).trans b3 | exact (((Below.refl _ _).drew).alloc (Nat.le_refl _) _).trans (b3.mono (by simp))); (have k3 := (B3.cell (p := ⟨w.heap.size, 1, none⟩) (show w.heap.size < _ by omega)).trans c1); (have s3b := B3.size); (have n3 : ¬ w3.heap.size = w.heap.size := by omega); (have n3' : ¬ w.heap.size = w3.heap.size := by omega); (try have T3 : Three w3 wq.heap.size (.bool false) (.int .i64 0) (.bool false) := Three.below (by constructor <;> simp) b3 (by first | (simp; done) | (simp; omega) | omega)); (try have s3c : wq.heap.size < w3.heap.size := by have := b3.size; first | (simp at this; omega) | omega))
          | (go_at_call 276; refine (CF1.out _ nvk dvk _ _ (HST.out.below (by first | exact B3 | exact B3.alloc s3b _))).mono ?_; rintro e w4 ⟨rfl, b4⟩; (have B4 : Below wq.heap.size wq w4 := by first | exact B3.trans (b4.mono s3b) | exact (B3.alloc s3b _).trans (b4.mono (by simp; omega))); (have k4 := (B4.cell (p := ⟨w.heap.size, 1, none⟩) (show w.heap.size < _ by omega)).trans c1); (have s4b := B4.size); (have n4 : ¬ w4.heap.size = w.heap.size := by omega); (have n4' : ¬ w.heap.size = w4.heap.size := by omega); (have s4c := b4.size); (try have T4 := Three.below T3 b4 (by have := b3.size; first | (simp at this; omega) | omega)); (try have T4 : Three w4 w3.heap.size (.bool false) (.int .i64 0) (.bool false) := Three.below (by constructor <;> simp) b4 (by first | (simp; done) | (simp; omega) | omega)); (try (obtain ⟨y0', y1', y2', z0', z1'', z2''⟩ := T4))))
        all_goals (
          go_wp2_with fail
          go_meet
          first
            | exact ⟨_, rfl, (Three.mk y0' y1' y2' z0' z1'' z2'').setAll _ _ _, below_set3 B4 (by first | exact Nat.le_refl _ | exact s3b) _ _ _, by first | exact Nat.le_refl _ | exact s3b, by first | (simp; omega) | (simp at s4c ⊢; omega)⟩
            | exact ⟨_, rfl, three_new _ _ _ _ _, B4.alloc s4b _, s4b, by simp⟩)
      case rest =>
        obtain ⟨T, rfl, t3, bx, hT, hT2⟩ := hcut
        have HX1 := hide' (HX.out.below bx)
        have HT3 := hide' t3
        have hsx := bx.size
        clear HX HST c0 c1 t3 bx
        go_wp2_with fail
        go_loopw [5, 6] (fun a5 a6 wy => a5 = .slice (some ⟨g5, 0, none⟩) 1 c5 ∧ a6 = .slice none 0 0 ∧ wy = wc) (fun _ _ _ => 0)
        case atStart => exact ⟨rfl, rfl, rfl⟩
        case round =>
          obtain ⟨rfl, rfl, hy⟩ := hrel
          obtain rfl : wc = _ := hy.symm
          go_upto_region 4 with fail
          go_quiet (fail)
          obtain ⟨W5, hW5⟩ : ∃ W5, W5 = wc.drewN nq := ⟨_, rfl⟩
          have bq : Below wc.heap.size wc W5 := by rw [hW5]; exact below_drew2 _ _ nq
          try rw [← hW5]
          clear hW5
          have HX2 := hide' (HX1.out.below bq)
          have hs5 := bq.size
          obtain ⟨nvm, dvm, stm⟩ := HX2.out.st
          have HSM := hide' stm
          have t5 := HT3.out.below bq hT2
          have HT5 := hide' t5
          have d0 := t5.c0
          have d1 := t5.c1
          have d2 := t5.c2
          have hbm := stm.ps.old
          clear HX1 HT3 bq t5 stm
          go_upto_region 10 with (go_at_call 107; refine (CH1.out _ nvm dvm _ _ HSM.out).mono ?_; rintro e w6 ⟨rfl, b6⟩)
          have s6 := b6.size
          obtain ⟨V, hV⟩ : ∃ V, w6.heap.size = V := ⟨_, rfl⟩
          obtain ⟨W7, hW7⟩ : ∃ W7, w6.alloc (.cells #[.int .i64 x1, .int .i64 y1] 82) = W7 := ⟨_, rfl⟩
          have B7 : Below W5.heap.size W5 W7 := by rw [← hW7]; exact b6.alloc s6 _
          have e0 : W7.cell? ⟨V, 0, none⟩ = some (.int .i64 x1) := by rw [← hW7, ← hV]; simp
          have e1 : W7.cell? ⟨V, 1, none⟩ = some (.int .i64 y1) := by rw [← hW7, ← hV]; simp
          have S7 : W7.heap.size = V + 1 := by rw [← hW7, ← hV]; simp
          have HX7 := hide' (HX2.out.below B7)
          have HS7 := hide' (HSM.out.below B7)
          have t7 := HT5.out.below B7 (by omega)
          have d0' := t7.c0
          have d1' := t7.c1
          have d2' := t7.c2
          rw [hV] at s6
          rw [hW7, hV]
          have hb7 : b < W7.heap.size := by omega
          have hTb : ¬ T = b := by omega
          have hVb : ¬ V = b := by omega
          have hTs : T < W7.heap.size := by omega
          have hVs : V < W7.heap.size := by omega
          clear hW7 hV b6 B7 t7 d0 d1 d2 HX2 HSM HT5
          have hvT : (Value.ownBlock (.slice none 0 0)) ≠ some T := by simp [Value.ownBlock]
          have hvV : (Value.ownBlock (.slice none 0 0)) ≠ some V := by simp [Value.ownBlock]
          go_cut [6] (fun a6 wx => ∃ g' c' : Nat, a6 = .slice (some ⟨g', 0, none⟩) 1 c' ∧ Hid' (IxS b w W0 wx tv toks (at1 + 1) op so fx ns1 ds1 (.slice (some ⟨g5, 0, none⟩) 1 c5) (.slice (some ⟨g', 0, none⟩) 1 c') [(n1 : Int)] [.bool true, .int .i64 l1, .bool r1, .int .i64 x1, .int .i64 y1, .string z1] 1))
          case first =>
            go_region_held3 (fun w' => w'.cell? ⟨T, 0, none⟩ = some (.bool true) ∧ w'.cell? ⟨T, 1, none⟩ = some (.int .i64 l1) ∧ w'.cell? ⟨T, 2, none⟩ = some (.bool r1) ∧ w'.cell? ⟨V, 0, none⟩ = some (.int .i64 x1) ∧ w'.cell? ⟨V, 1, none⟩ = some (.int .i64 y1)) (go_keep) (first
              | (go_at_call 157; refine (CN1.out _ nvm dvm _ _ (HS7.out.below ((Below.refl _ _).drew))).mono ?_; rintro e w8 ⟨rfl, hp8, m8⟩; (have M8 : Moved b W7 w8 := (Moved.of ((Below.refl _ _).drew) (Nat.le_of_lt hb7)).trans m8); (have tT := M8.rest T hTs hTb); (have tV := M8.rest V hVs hVb); (have u0 := (cell_of_block (a := ⟨T, 0, none⟩) tT).trans d0'); (have u1 := (cell_of_block (a := ⟨T, 1, none⟩) tT).trans d1'); (have u2 := (cell_of_block (a := ⟨T, 2, none⟩) tT).trans d2'); (have u3 := (cell_of_block (a := ⟨V, 0, none⟩) tV).trans e0); (have u4 := (cell_of_block (a := ⟨V, 1, none⟩) tV).trans e1); (have HX8 := hide' (HX7.out.step (rel_of_moved HS7.out.ps hp8 M8) ⟨nvm, dvm, HS7.out.moved hp8 M8⟩)); (have hs8 : W7.heap.size ≤ w8.heap.size := M8.low.size); clear hp8 m8 M8 tT tV)
              | (refine step_append_lies _ (by rfl) _ _ 248 (by rfl) (w.heap.size + 1) 251 j0 (.agg #[.bool false, .int .i64 0, .bool false, .int .i64 0, .int .i64 0, .string ⟨#[]⟩]) 6 56 Tryz.underlying248 hj jz0 jz1 jz2 rfl (by decide) (.slice none 0 0) 0 [] (by rfl) (HX8.out.s6.alloc _) ⟨_, 0, none⟩ 1 1 [.bool true, .int .i64 l1, .bool r1, .int .i64 x1, .int .i64 y1, .string z1] (by rfl) rfl (cellsNew _ _ _) (by simp [Value.oneCell']) (by decide) (by decide) (by decide) (by simp; omega) (w8.heap.size + 1) (by simp) ?_; intro g9 c9 w9 hown9 hgrow9 hat9 hlt9; (have e9 : ∀ k', k' < w8.heap.size → (Value.ownBlock (.slice none 0 0)) ≠ some k' → w9.heap[k']? = w8.heap[k']? := fun k' hk' hne => (hgrow9.block k' (by simp; omega) (fun e => hne e.symm)).trans (((Below.refl w8.heap.size w8).alloc (Nat.le_refl _) _).block k' hk')); (have o0 := (cell_of_block (w := w8) (a := ⟨T, 0, none⟩) (e9 T (by omega) hvT)).trans u0); (have o1 := (cell_of_block (w := w8) (a := ⟨T, 1, none⟩) (e9 T (by omega) hvT)).trans u1); (have o2 := (cell_of_block (w := w8) (a := ⟨T, 2, none⟩) (e9 T (by omega) hvT)).trans u2); (have o3 := (cell_of_block (w := w8) (a := ⟨V, 0, none⟩) (e9 V (by omega) hvV)).trans u3); (have o4 := (cell_of_block (w := w8) (a := ⟨V, 1, none⟩) (e9 V (by omega) hvV)).trans u4)))
            all_goals (
              go_wp2_with fail
              go_meet
              exact ⟨g9, c9, rfl, ⟨HX8.out.app6 LF1.out hold HF0.out ((World.grownBy_alloc w8 _ _).trans hgrow9) hown9 (hat9.imp id (fun e => by omega)) hlt9⟩⟩)
          case rest =>
            obtain ⟨g6n, c6n, rfl, HX8⟩ := hcut
            obtain ⟨nvr, dvr, str⟩ := HX8.out.st
            have HSR := hide' str
            have f0' := (cell_of_block (a := ⟨w.heap.size, 0, none⟩) HX8.out.pb.1).trans p0
            clear str HX7 HS7 d0' d1' d2' e0 e1
            go_wp2_with (first
              | (go_at_call 275; refine (CT2.out _ nvr dvr HSR.out).mono ?_; rintro e w8 ⟨rfl, st8, r8⟩; (have HX9 := hide' (HX8.out.step r8 st8)); (have hs9 := HX9.out.rel.low.size); (have hp9 := HX9.out.pb.2.1); clear st8 r8)
              | (at_builtin; refine wpList_append_lies _ rfl _ _ 28 rfl (w.heap.size + 1) 3 i0 (.int .i64 0) 1 8 Tryz.underlying28 hi hz0' hz1' hz2' rfl (by decide) (.slice (some ⟨g5, 0, none⟩) 1 c5) 1 (intCellsI [(n1 : Int)]) rfl (HX9.out.s5.alloc _) ⟨_, 0, none⟩ 1 1 [.int .i64 (n2 : Int)] rfl rfl (cellsNew _ _ _) (by simp [Value.oneCell']) (by decide) (by decide) (by decide) (by simp; omega) (w8.heap.size + 1) (by simp) ?_; intro g9 c9 w9 hown9 hgrow9 hat9 hlt9))
            go_roundw
            case rel => exact .inr (.inl ⟨g9, c9, g6n, c6n, rfl, rfl, ⟨HX9.out.app5 LF2.out hold HF0.out ((World.grownBy_alloc w8 _ _).trans hgrow9) hown9 (hat9.imp id (fun e => by omega)) hlt9⟩⟩)
            case measure => simp [lenV]
    ·
      obtain ⟨nvk, dvk, stk⟩ := HX.out.st
      have HST := hide' stk
      have c0 := (cell_of_block (a := ⟨w.heap.size, 0, none⟩) HX.out.pb.1).trans p0
      have c1 := (cell_of_block (a := ⟨w.heap.size, 1, none⟩) HX.out.pb.1).trans p1
      have sP := HX.out.pb.2.1
      have holdr := stk.ps.old
      obtain ⟨wq, hwq⟩ : ∃ wq, wq = wr := ⟨_, rfl⟩
      subst hwq
      have nr : ¬ wq.heap.size = w.heap.size := by omega
      have nr' : ¬ w.heap.size = wq.heap.size := by omega
      clear stk
      go_upto_region 3 with fail
      go_cut [7] (fun v7 wx => ∃ T : Nat, v7 = .pointer (some ⟨T, 0, none⟩) ∧ Three wx T (.bool true) (.int .i64 l2) (.bool r2) ∧ Below wq.heap.size wq wx ∧ wq.heap.size ≤ T ∧ T < wx.heap.size)
      case first =>
        go_region_held3 (fun w' => w'.cell? ⟨w.heap.size, 1, none⟩ = some (.func (.func 276) #[.pointer (some ⟨b, 0, none⟩)] #[])) (go_keep) (first
          | (go_at_call 139; refine (CL2.out _ nvk dvk _ _ (HST.out.below (by first | exact (Below.refl _ _).drew | exact ((Below.refl _ _).drew).alloc (Nat.le_refl _) _ | exact ((Below.refl _ _).alloc (Nat.le_refl _) _).drew))).mono ?_; rintro e w3 ⟨rfl, b3⟩; (have B3 : Below wq.heap.size wq w3 := by first | exact ((Below.refl _ _).drew).trans b3 | exact (((Below.refl _ _).drew).alloc (Nat.le_refl _) _).trans (b3.mono (by simp))); (have k3 := (B3.cell (p := ⟨w.heap.size, 1, none⟩) (show w.heap.size < _ by omega)).trans c1); (have s3b := B3.size); (have n3 : ¬ w3.heap.size = w.heap.size := by omega); (have n3' : ¬ w.heap.size = w3.heap.size := by omega); (try have T3 : Three w3 wq.heap.size (.bool false) (.int .i64 0) (.bool false) := Three.below (by constructor <;> simp) b3 (by first | (simp; done) | (simp; omega) | omega)); (try have s3c : wq.heap.size < w3.heap.size := by have := b3.size; first | (simp at this; omega) | omega))
          | (go_at_call 276; refine (CF2.out _ nvk dvk _ _ (HST.out.below (by first | exact B3 | exact B3.alloc s3b _))).mono ?_; rintro e w4 ⟨rfl, b4⟩; (have B4 : Below wq.heap.size wq w4 := by first | exact B3.trans (b4.mono s3b) | exact (B3.alloc s3b _).trans (b4.mono (by simp; omega))); (have k4 := (B4.cell (p := ⟨w.heap.size, 1, none⟩) (show w.heap.size < _ by omega)).trans c1); (have s4b := B4.size); (have n4 : ¬ w4.heap.size = w.heap.size := by omega); (have n4' : ¬ w.heap.size = w4.heap.size := by omega); (have s4c := b4.size); (try have T4 := Three.below T3 b4 (by have := b3.size; first | (simp at this; omega) | omega)); (try have T4 : Three w4 w3.heap.size (.bool false) (.int .i64 0) (.bool false) := Three.below (by constructor <;> simp) b4 (by first | (simp; done) | (simp; omega) | omega)); (try (obtain ⟨y0', y1', y2', z0', z1'', z2''⟩ := T4))))
        all_goals (
          go_wp2_with fail
          go_meet
          first
            | exact ⟨_, rfl, (Three.mk y0' y1' y2' z0' z1'' z2'').setAll _ _ _, below_set3 B4 (by first | exact Nat.le_refl _ | exact s3b) _ _ _, by first | exact Nat.le_refl _ | exact s3b, by first | (simp; omega) | (simp at s4c ⊢; omega)⟩
            | exact ⟨_, rfl, three_new _ _ _ _ _, B4.alloc s4b _, s4b, by simp⟩)
      case rest =>
        obtain ⟨T, rfl, t3, bx, hT, hT2⟩ := hcut
        have HX1 := hide' (HX.out.below bx)
        have HT3 := hide' t3
        have hsx := bx.size
        have hg6 := (HX.out.s6.lt g6 rfl).2
        clear HX HST c0 c1 t3 bx
        go_wp2_with fail
        go_loopw [5, 6] (fun a5 a6 wy => a5 = .slice (some ⟨g5, 0, none⟩) 2 c5 ∧ a6 = .slice (some ⟨g6, 0, none⟩) 1 c6 ∧ wy = wc) (fun _ _ _ => 0)
        case atStart => exact ⟨rfl, rfl, rfl⟩
        case round =>
          obtain ⟨rfl, rfl, hy⟩ := hrel
          obtain rfl : wc = _ := hy.symm
          have g0c : wc.cell? ⟨g6, 0, none⟩ = some (.bool true) := HX1.out.s6.cellAt 0 (by decide)
          have g1c : wc.cell? ⟨g6, 1, none⟩ = some (.int .i64 l1) := HX1.out.s6.cellAt 1 (by decide)
          have g2c : wc.cell? ⟨g6, 2, none⟩ = some (.bool r1) := HX1.out.s6.cellAt 2 (by decide)
          have hg6c := (HX1.out.s6.lt g6 rfl).2
          have a0 := HT3.out.c0
          have a1 := HT3.out.c1
          have a2 := HT3.out.c2
          have hix : ∀ W, (Instr.indexAt 248 (.slice (some ⟨g6, 0, none⟩) 1 c6) (.int .i64 0)).run Tryz.prog W = .ok (.pointer (some ⟨g6, 0, none⟩)) W := fun W => by kernel_rfl
          go_upto_region 4 with fail
          go_region_held (fun w' => w'.cell? ⟨g6, 0, none⟩ = some (.bool true) ∧ w'.cell? ⟨g6, 1, none⟩ = some (.int .i64 l1) ∧ w'.cell? ⟨g6, 2, none⟩ = some (.bool r1) ∧ w'.cell? ⟨T, 0, none⟩ = some (.bool true) ∧ w'.cell? ⟨T, 1, none⟩ = some (.int .i64 l2) ∧ w'.cell? ⟨T, 2, none⟩ = some (.bool r2)) (go_keep) ((go_at_call 248; refine (goesFirst_level _ _ _ _ _ _ _ hl21).mono ?_; rw [hl22]; rintro e W5 ⟨rfl, b5⟩; (have bq : Below wc.heap.size wc W5 := ((Below.refl _ _).drew).trans b5); (have j0' := (bq.cell (p := ⟨g6, 0, none⟩) hg6c).trans g0c); (have j1' := (bq.cell (p := ⟨g6, 1, none⟩) hg6c).trans g1c); (have j2' := (bq.cell (p := ⟨g6, 2, none⟩) hg6c).trans g2c); (have j3' := (bq.cell (p := ⟨T, 0, none⟩) hT2).trans a0); (have j4' := (bq.cell (p := ⟨T, 1, none⟩) hT2).trans a1); (have j5' := (bq.cell (p := ⟨T, 2, none⟩) hT2).trans a2); clear b5))
          clear j0' j1' j2' j3' j4' j5' a0 a1 a2 g0c g1c g2c
          have HX2 := hide' (HX1.out.below bq)
          have hs5 := bq.size
          obtain ⟨nvm, dvm, stm⟩ := HX2.out.st
          have HSM := hide' stm
          have t5 := HT3.out.below bq hT2
          have HT5 := hide' t5
          have d0 := t5.c0
          have d1 := t5.c1
          have d2 := t5.c2
          have hbm := stm.ps.old
          clear HX1 HT3 bq t5 stm
          go_upto_region 10 with (go_at_call 107; refine (CH2.out _ nvm dvm _ _ HSM.out).mono ?_; rintro e w6 ⟨rfl, b6⟩)
          have s6 := b6.size
          obtain ⟨V, hV⟩ : ∃ V, w6.heap.size = V := ⟨_, rfl⟩
          obtain ⟨W7, hW7⟩ : ∃ W7, w6.alloc (.cells #[.int .i64 x2, .int .i64 y2] 82) = W7 := ⟨_, rfl⟩
          have B7 : Below W5.heap.size W5 W7 := by rw [← hW7]; exact b6.alloc s6 _
          have e0 : W7.cell? ⟨V, 0, none⟩ = some (.int .i64 x2) := by rw [← hW7, ← hV]; simp
          have e1 : W7.cell? ⟨V, 1, none⟩ = some (.int .i64 y2) := by rw [← hW7, ← hV]; simp
          have S7 : W7.heap.size = V + 1 := by rw [← hW7, ← hV]; simp
          have HX7 := hide' (HX2.out.below B7)
          have HS7 := hide' (HSM.out.below B7)
          have t7 := HT5.out.below B7 (by omega)
          have d0' := t7.c0
          have d1' := t7.c1
          have d2' := t7.c2
          rw [hV] at s6
          rw [hW7, hV]
          have hb7 : b < W7.heap.size := by omega
          have hTb : ¬ T = b := by omega
          have hVb : ¬ V = b := by omega
          have hTs : T < W7.heap.size := by omega
          have hVs : V < W7.heap.size := by omega
          clear hW7 hV b6 B7 t7 d0 d1 d2 HX2 HSM HT5
          have hvT : (Value.ownBlock (.slice (some ⟨g6, 0, none⟩) 1 c6)) ≠ some T := by simp [Value.ownBlock]; omega
          have hvV : (Value.ownBlock (.slice (some ⟨g6, 0, none⟩) 1 c6)) ≠ some V := by simp [Value.ownBlock]; omega
          go_cut [6] (fun a6 wx => ∃ g' c' : Nat, a6 = .slice (some ⟨g', 0, none⟩) 2 c' ∧ Hid' (IxS b w W0 wx tv toks (at2 + 1) op so fx ns2 ds2 (.slice (some ⟨g5, 0, none⟩) 2 c5) (.slice (some ⟨g', 0, none⟩) 2 c') [(n1 : Int), (n2 : Int)] [.bool true, .int .i64 l1, .bool r1, .int .i64 x1, .int .i64 y1, .string z1, .bool true, .int .i64 l2, .bool r2, .int .i64 x2, .int .i64 y2, .string z2] 2))
          case first =>
            go_region_held3 (fun w' => w'.cell? ⟨T, 0, none⟩ = some (.bool true) ∧ w'.cell? ⟨T, 1, none⟩ = some (.int .i64 l2) ∧ w'.cell? ⟨T, 2, none⟩ = some (.bool r2) ∧ w'.cell? ⟨V, 0, none⟩ = some (.int .i64 x2) ∧ w'.cell? ⟨V, 1, none⟩ = some (.int .i64 y2)) (go_keep) (first
              | (go_at_call 157; refine (CN2.out _ nvm dvm _ _ (HS7.out.below ((Below.refl _ _).drew))).mono ?_; rintro e w8 ⟨rfl, hp8, m8⟩; (have M8 : Moved b W7 w8 := (Moved.of ((Below.refl _ _).drew) (Nat.le_of_lt hb7)).trans m8); (have tT := M8.rest T hTs hTb); (have tV := M8.rest V hVs hVb); (have u0 := (cell_of_block (a := ⟨T, 0, none⟩) tT).trans d0'); (have u1 := (cell_of_block (a := ⟨T, 1, none⟩) tT).trans d1'); (have u2 := (cell_of_block (a := ⟨T, 2, none⟩) tT).trans d2'); (have u3 := (cell_of_block (a := ⟨V, 0, none⟩) tV).trans e0); (have u4 := (cell_of_block (a := ⟨V, 1, none⟩) tV).trans e1); (have HX8 := hide' (HX7.out.step (rel_of_moved HS7.out.ps hp8 M8) ⟨nvm, dvm, HS7.out.moved hp8 M8⟩)); (have hs8 : W7.heap.size ≤ w8.heap.size := M8.low.size); clear hp8 m8 M8 tT tV)
              | (refine step_append_lies _ (by rfl) _ _ 248 (by rfl) (w.heap.size + 1) 251 j0 (.agg #[.bool false, .int .i64 0, .bool false, .int .i64 0, .int .i64 0, .string ⟨#[]⟩]) 6 56 Tryz.underlying248 hj jz0 jz1 jz2 rfl (by decide) (.slice (some ⟨g6, 0, none⟩) 1 c6) 1 [.bool true, .int .i64 l1, .bool r1, .int .i64 x1, .int .i64 y1, .string z1] (by rfl) (HX8.out.s6.alloc _) ⟨_, 0, none⟩ 1 1 [.bool true, .int .i64 l2, .bool r2, .int .i64 x2, .int .i64 y2, .string z2] (by rfl) rfl (cellsNew _ _ _) (by simp [Value.oneCell']) (by decide) (by decide) (by decide) (by simp; omega) (w8.heap.size + 1) (by simp) ?_; intro g9 c9 w9 hown9 hgrow9 hat9 hlt9; (have e9 : ∀ k', k' < w8.heap.size → (Value.ownBlock (.slice (some ⟨g6, 0, none⟩) 1 c6)) ≠ some k' → w9.heap[k']? = w8.heap[k']? := fun k' hk' hne => (hgrow9.block k' (by simp; omega) (fun e => hne e.symm)).trans (((Below.refl w8.heap.size w8).alloc (Nat.le_refl _) _).block k' hk')); (have o0 := (cell_of_block (w := w8) (a := ⟨T, 0, none⟩) (e9 T (by omega) hvT)).trans u0); (have o1 := (cell_of_block (w := w8) (a := ⟨T, 1, none⟩) (e9 T (by omega) hvT)).trans u1); (have o2 := (cell_of_block (w := w8) (a := ⟨T, 2, none⟩) (e9 T (by omega) hvT)).trans u2); (have o3 := (cell_of_block (w := w8) (a := ⟨V, 0, none⟩) (e9 V (by omega) hvV)).trans u3); (have o4 := (cell_of_block (w := w8) (a := ⟨V, 1, none⟩) (e9 V (by omega) hvV)).trans u4)))
            all_goals (
              go_wp2_with fail
              go_meet
              exact ⟨g9, c9, rfl, ⟨HX8.out.app6 LF2.out hold HF0.out ((World.grownBy_alloc w8 _ _).trans hgrow9) hown9 (hat9.imp id (fun e => by omega)) hlt9⟩⟩)
          case rest =>
            obtain ⟨g6n, c6n, rfl, HX8⟩ := hcut
            obtain ⟨nvr, dvr, str⟩ := HX8.out.st
            have HSR := hide' str
            have f0' := (cell_of_block (a := ⟨w.heap.size, 0, none⟩) HX8.out.pb.1).trans p0
            clear str HX7 HS7 d0' d1' d2' e0 e1
            go_wp2_with (first
              | (go_at_call 275; refine (CT3.out _ nvr dvr HSR.out).mono ?_; rintro e w8 ⟨rfl, st8, r8⟩; (have HX9 := hide' (HX8.out.step r8 st8)); (have hs9 := HX9.out.rel.low.size); (have hp9 := HX9.out.pb.2.1); clear st8 r8)
              | (at_builtin; refine wpList_append_lies _ rfl _ _ 28 rfl (w.heap.size + 1) 3 i0 (.int .i64 0) 1 8 Tryz.underlying28 hi hz0' hz1' hz2' rfl (by decide) (.slice (some ⟨g5, 0, none⟩) 2 c5) 2 (intCellsI [(n1 : Int), (n2 : Int)]) rfl (HX9.out.s5.alloc _) ⟨_, 0, none⟩ 1 1 [.int .i64 (n3 : Int)] rfl rfl (cellsNew _ _ _) (by simp [Value.oneCell']) (by decide) (by decide) (by decide) (by simp; omega) (w8.heap.size + 1) (by simp) ?_; intro g9 c9 w9 hown9 hgrow9 hat9 hlt9))
            go_roundw
            case rel => exact .inr (.inr ⟨g9, c9, g6n, c6n, rfl, rfl, ⟨HX9.out.app5 LF3.out hold HF0.out ((World.grownBy_alloc w8 _ _).trans hgrow9) hown9 (hat9.imp id (fun e => by omega)) hlt9⟩⟩)
            case measure => simp [lenV]
    ·
      obtain ⟨nvk, dvk, stk⟩ := HX.out.st
      have HST := hide' stk
      have c0 := (cell_of_block (a := ⟨w.heap.size, 0, none⟩) HX.out.pb.1).trans p0
      have c1 := (cell_of_block (a := ⟨w.heap.size, 1, none⟩) HX.out.pb.1).trans p1
      have sP := HX.out.pb.2.1
      have holdr := stk.ps.old
      obtain ⟨wq, hwq⟩ : ∃ wq, wq = wr := ⟨_, rfl⟩
      subst hwq
      have nr : ¬ wq.heap.size = w.heap.size := by omega
      have nr' : ¬ w.heap.size = wq.heap.size := by omega
      clear stk
      go_upto_region 3 with fail
      go_cut [7] (fun v7 wx => ∃ T : Nat, v7 = .pointer (some ⟨T, 0, none⟩) ∧ Three wx T (.bool false) (.int .i64 fl) (.bool fr) ∧ Below wq.heap.size wq wx ∧ wq.heap.size ≤ T ∧ T < wx.heap.size)
      case first =>
        go_region_held3 (fun w' => w'.cell? ⟨w.heap.size, 1, none⟩ = some (.func (.func 276) #[.pointer (some ⟨b, 0, none⟩)] #[])) (go_keep) (first
          | (go_at_call 139; refine (CL3.out _ nvk dvk _ _ (HST.out.below (by first | exact (Below.refl _ _).drew | exact ((Below.refl _ _).drew).alloc (Nat.le_refl _) _ | exact ((Below.refl _ _).alloc (Nat.le_refl _) _).drew))).mono ?_; rintro e w3 ⟨rfl, b3⟩; (have B3 : Below wq.heap.size wq w3 := by first | exact ((Below.refl _ _).drew).trans b3 | exact (((Below.refl _ _).drew).alloc (Nat.le_refl _) _).trans (b3.mono (by simp))); (have k3 := (B3.cell (p := ⟨w.heap.size, 1, none⟩) (show w.heap.size < _ by omega)).trans c1); (have s3b := B3.size); (have n3 : ¬ w3.heap.size = w.heap.size := by omega); (have n3' : ¬ w.heap.size = w3.heap.size := by omega); (try have T3 : Three w3 wq.heap.size (.bool false) (.int .i64 0) (.bool false) := Three.below (by constructor <;> simp) b3 (by first | (simp; done) | (simp; omega) | omega)); (try have s3c : wq.heap.size < w3.heap.size := by have := b3.size; first | (simp at this; omega) | omega))
          | (go_at_call 276; refine (CF3.out _ nvk dvk _ _ (HST.out.below (by first | exact B3 | exact B3.alloc s3b _))).mono ?_; rintro e w4 ⟨rfl, b4⟩; (have B4 : Below wq.heap.size wq w4 := by first | exact B3.trans (b4.mono s3b) | exact (B3.alloc s3b _).trans (b4.mono (by simp; omega))); (have k4 := (B4.cell (p := ⟨w.heap.size, 1, none⟩) (show w.heap.size < _ by omega)).trans c1); (have s4b := B4.size); (have n4 : ¬ w4.heap.size = w.heap.size := by omega); (have n4' : ¬ w.heap.size = w4.heap.size := by omega); (have s4c := b4.size); (try have T4 := Three.below T3 b4 (by have := b3.size; first | (simp at this; omega) | omega)); (try have T4 : Three w4 w3.heap.size (.bool false) (.int .i64 0) (.bool false) := Three.below (by constructor <;> simp) b4 (by first | (simp; done) | (simp; omega) | omega)); (try (obtain ⟨y0', y1', y2', z0', z1'', z2''⟩ := T4))))
        all_goals (
          go_wp2_with fail
          go_meet
          first
            | exact ⟨_, rfl, (Three.mk y0' y1' y2' z0' z1'' z2'').setAll _ _ _, below_set3 B4 (by first | exact Nat.le_refl _ | exact s3b) _ _ _, by first | exact Nat.le_refl _ | exact s3b, by first | (simp; omega) | (simp at s4c ⊢; omega)⟩
            | exact ⟨_, rfl, three_new _ _ _ _ _, B4.alloc s4b _, s4b, by simp⟩)
      case rest =>
        obtain ⟨T, rfl, t3, bx, hT, hT2⟩ := hcut
        have HX1 := hide' (HX.out.below bx)
        have HT3 := hide' t3
        have hg6q := (HX.out.s6.lt g6 rfl).2
        have hg5q := (HX.out.s5.lt g5 rfl).2
        have hg5l := (HX.out.s5.lt g5 rfl).1
        have hc6 : 2 ≤ c6 := by
          rcases HX.out.s6.2 with ⟨hv, _⟩ | ⟨_, _, _, hv, _, _, h1, _⟩
          · cases hv
          · injection hv with e1 e2 e3; subst e3; exact h1
        have hc6' : (1 : Int) ≤ (c6 : Int) := by omega
        have PT : Prot b wc T := HST.out.rw'.prot (HST.out.ps.below bx holdr) holdr hT hT2
        have h56 := rows_apart HX.out.s5 HX.out.s6 (by decide) g5 rfl
        have hg56 : g6 ≠ g5 := fun e => h56 (by rw [e]; rfl)
        have HG0 : Hid' (TG b w wc wc tv toks at3 op so fx ns3 ds3 g5 c5 [(n1 : Int), (n2 : Int), (n3 : Int)] T g6) := by
          obtain ⟨nvj, dvj, stj⟩ := HX1.out.st
          obtain ⟨kvj, k1, k2⟩ := stj.rn
          exact ⟨⟨nvj, dvj, kvj, stj, k1, k2, KNe.leaf LF3.out⟩, row_mono HX1.out.s5 (Nat.le_succ _), HX1.out.p5 g5 rfl, HX1.out.rel, ⟨rfl, PT⟩, ⟨rfl, HX1.out.p6 g6 rfl⟩, ⟨rfl, HX1.out.pb.2⟩, hg56, by omega, by omega⟩
        clear HX HST c0 c1 t3 bx PT h56
        go_wp2_with fail
        go_loopw [5, 6] (fun a5 a6 wy => (∃ g c : Nat, a5 = .slice (some ⟨g, 0, none⟩) 3 c ∧ a6 = .slice (some ⟨g6, 0, none⟩) 2 c6 ∧ Hid' (TG b w wc wy tv toks at3 op so fx ns3 ds3 g c [(n1 : Int), (n2 : Int), (n3 : Int)] T g6)) ∨ (∃ g c : Nat, a5 = .slice (some ⟨g, 0, none⟩) 2 c ∧ a6 = .slice (some ⟨g6, 0, none⟩) 1 c6 ∧ Hid' (TG b w wc wy tv toks at3 op so fx NSa D3 g c [(n1 : Int), NM] T g6)) ∨ (∃ g c : Nat, a5 = .slice (some ⟨g, 0, none⟩) 1 c ∧ a6 = .slice (some ⟨g6, 0, none⟩) 0 c6 ∧ Hid' (TG b w wc wy tv toks at3 op so fx NSb E3 g c [NN] T g6))) (fun _ a6 _ => lenV a6)
        case atStart => exact .inl ⟨g5, c5, rfl, rfl, HG0⟩
        case round =>
          clear HG0
          obtain ⟨wy, hwy⟩ : ∃ wy, wy = wr := ⟨_, rfl⟩
          subst hwy
          rcases hrel with ⟨g, c, rfl, rfl, HG⟩ | ⟨g, c, rfl, rfl, HG⟩ | ⟨g, c, rfl, rfl, HG⟩
          ·
            obtain ⟨nvj, dvj, kvj, stj, koj, roj, knj⟩ := HG.out.st
            have F6 := HG.out.k6.1
            have G6 := HG.out.k6.2.1
            have FT := HG.out.kT.1
            have GT := HG.out.kT.2.1
            have FP := HG.out.kP.1.trans HX1.out.pb.1
            have GP := HG.out.kP.2.1
            have HSJ := hide' stj
            have HKJ := hide' koj
            have HRJ := hide' roj
            have HNJ := hide' knj
            clear stj koj roj knj
            have c0n : wy.cell? ⟨g6, 6, none⟩ = some (.bool true) := (cell_of_block (a := ⟨g6, 6, none⟩) F6).trans (HX1.out.s6.cellAt 6 (by decide))
            have c1n : wy.cell? ⟨g6, 7, none⟩ = some (.int .i64 l2) := (cell_of_block (a := ⟨g6, 7, none⟩) F6).trans (HX1.out.s6.cellAt 7 (by decide))
            have c2n : wy.cell? ⟨g6, 8, none⟩ = some (.bool r2) := (cell_of_block (a := ⟨g6, 8, none⟩) F6).trans (HX1.out.s6.cellAt 8 (by decide))
            have c3n : wy.cell? ⟨g6, 9, none⟩ = some (.int .i64 x2) := (cell_of_block (a := ⟨g6, 9, none⟩) F6).trans (HX1.out.s6.cellAt 9 (by decide))
            have c4n : wy.cell? ⟨g6, 10, none⟩ = some (.int .i64 y2) := (cell_of_block (a := ⟨g6, 10, none⟩) F6).trans (HX1.out.s6.cellAt 10 (by decide))
            have c5n : wy.cell? ⟨g6, 11, none⟩ = some (.string z2) := (cell_of_block (a := ⟨g6, 11, none⟩) F6).trans (HX1.out.s6.cellAt 11 (by decide))
            have a0 := (cell_of_block (a := ⟨T, 0, none⟩) FT).trans HT3.out.c0
            have a1 := (cell_of_block (a := ⟨T, 1, none⟩) FT).trans HT3.out.c1
            have a2 := (cell_of_block (a := ⟨T, 2, none⟩) FT).trans HT3.out.c2
            go_upto_region 4 with fail
            go_region_held (fun w' => w'.cell? ⟨g6, 6, none⟩ = some (.bool true) ∧ w'.cell? ⟨g6, 7, none⟩ = some (.int .i64 l2) ∧ w'.cell? ⟨g6, 8, none⟩ = some (.bool r2) ∧ w'.cell? ⟨T, 0, none⟩ = some (.bool false) ∧ w'.cell? ⟨T, 1, none⟩ = some (.int .i64 fl) ∧ w'.cell? ⟨T, 2, none⟩ = some (.bool fr)) (go_keep) ((go_at_call 248; refine (goesFirst_end _ _ _ _ _ _ _).mono ?_; rintro e W5 ⟨rfl, b5⟩; (have bq : Below wy.heap.size wy W5 := ((Below.refl _ _).drew).trans b5); (have j0' := (bq.cell (p := ⟨g6, 6, none⟩) G6).trans c0n); (have j1' := (bq.cell (p := ⟨g6, 7, none⟩) G6).trans c1n); (have j2' := (bq.cell (p := ⟨g6, 8, none⟩) G6).trans c2n); (have j3' := (bq.cell (p := ⟨T, 0, none⟩) GT).trans a0); (have j4' := (bq.cell (p := ⟨T, 1, none⟩) GT).trans a1); (have j5' := (bq.cell (p := ⟨T, 2, none⟩) GT).trans a2); clear b5))
            clear j0' j1' j2' j3' j4' j5' a0 a1 a2
            have d0n := (cell_of_block (a := ⟨w.heap.size, 0, none⟩) FP).trans p0
            have d1n := (cell_of_block (a := ⟨w.heap.size, 1, none⟩) FP).trans p1
            have d2n := (cell_of_block (a := ⟨w.heap.size, 2, none⟩) FP).trans p2
            have d3n := (cell_of_block (a := ⟨w.heap.size, 3, none⟩) FP).trans p3
            have d4n := (cell_of_block (a := ⟨w.heap.size, 4, none⟩) FP).trans p4
            have e0n := (bq.cell (p := ⟨g6, 6, none⟩) G6).trans c0n
            have e1n := (bq.cell (p := ⟨g6, 7, none⟩) G6).trans c1n
            have e2n := (bq.cell (p := ⟨g6, 8, none⟩) G6).trans c2n
            have e3n := (bq.cell (p := ⟨g6, 9, none⟩) G6).trans c3n
            have e4n := (bq.cell (p := ⟨g6, 10, none⟩) G6).trans c4n
            have e5n := (bq.cell (p := ⟨g6, 11, none⟩) G6).trans c5n
            have b0n := (bq.cell (p := ⟨w.heap.size, 0, none⟩) GP).trans d0n
            have b1n := (bq.cell (p := ⟨w.heap.size, 1, none⟩) GP).trans d1n
            have b2n := (bq.cell (p := ⟨w.heap.size, 2, none⟩) GP).trans d2n
            have b3n := (bq.cell (p := ⟨w.heap.size, 3, none⟩) GP).trans d3n
            have b4n := (bq.cell (p := ⟨w.heap.size, 4, none⟩) GP).trans d4n
            have HBQ := hide' bq
            clear bq
            go_upto_region 5 with fail
            go_region_held (fun w' => w'.cell? ⟨w.heap.size, 0, none⟩ = some (.func (.func 275) #[.pointer (some ⟨b, 0, none⟩)] #[]) ∧ w'.cell? ⟨w.heap.size, 1, none⟩ = some (.func (.func 276) #[.pointer (some ⟨b, 0, none⟩)] #[]) ∧ w'.cell? ⟨w.heap.size, 2, none⟩ = some (.int .i64 17) ∧ w'.cell? ⟨w.heap.size, 3, none⟩ = some (.int .i64 10) ∧ w'.cell? ⟨w.heap.size, 4, none⟩ = some (.int .i64 13) ∧ w'.cell? ⟨g6, 6, none⟩ = some (.bool true) ∧ w'.cell? ⟨g6, 7, none⟩ = some (.int .i64 l2) ∧ w'.cell? ⟨g6, 8, none⟩ = some (.bool r2) ∧ w'.cell? ⟨g6, 9, none⟩ = some (.int .i64 x2) ∧ w'.cell? ⟨g6, 10, none⟩ = some (.int .i64 y2) ∧ w'.cell? ⟨g6, 11, none⟩ = some (.string z2)) (go_keep) ((go_at_call 249; refine (CTA.out _ nvj dvj kvj (HSJ.out.below HBQ.out.drew) (HKJ.out.rel (Rel.of HBQ.out.drew HSJ.out.ps.old)) (own_kept HRJ.out HBQ.out.drew) (HG.out.rel.trans (Rel.of HBQ.out.drew HSJ.out.ps.old)) _ _ (own_kept HG.out.sd HBQ.out.drew) ((Rel.of HBQ.out.drew HSJ.out.ps.old).rest _ HG.out.pg).2 HNJ.out).mono ?_; rintro e w7 ⟨g7, c7, rfl, tk⟩; (have TN := HG.out.next HBQ.out.drew tk); (have HTN := hide' TN); (have h6' := TN.k6.1.trans (HG.out.k6.1.symm)); (have hP' := TN.kP.1.trans (HG.out.kP.1.symm)); (have m0n := (cell_of_block (a := ⟨w.heap.size, 0, none⟩) hP').trans d0n); (have m1n := (cell_of_block (a := ⟨w.heap.size, 1, none⟩) hP').trans d1n); (have m2n := (cell_of_block (a := ⟨w.heap.size, 2, none⟩) hP').trans d2n); (have m3n := (cell_of_block (a := ⟨w.heap.size, 3, none⟩) hP').trans d3n); (have m4n := (cell_of_block (a := ⟨w.heap.size, 4, none⟩) hP').trans d4n); (have q0n := (cell_of_block (a := ⟨g6, 6, none⟩) h6').trans c0n); (have q1n := (cell_of_block (a := ⟨g6, 7, none⟩) h6').trans c1n); (have q2n := (cell_of_block (a := ⟨g6, 8, none⟩) h6').trans c2n); (have q3n := (cell_of_block (a := ⟨g6, 9, none⟩) h6').trans c3n); (have q4n := (cell_of_block (a := ⟨g6, 10, none⟩) h6').trans c4n); (have q5n := (cell_of_block (a := ⟨g6, 11, none⟩) h6').trans c5n); clear tk TN h6' hP'))
            go_wp2_with fail
            go_roundw
            case rel => exact .inr (.inl ⟨g7, c7, rfl, rfl, HTN⟩)
            case measure => simp [lenV]
          ·
            obtain ⟨nvj, dvj, kvj, stj, koj, roj, knj⟩ := HG.out.st
            have F6 := HG.out.k6.1
            have G6 := HG.out.k6.2.1
            have FT := HG.out.kT.1
            have GT := HG.out.kT.2.1
            have FP := HG.out.kP.1.trans HX1.out.pb.1
            have GP := HG.out.kP.2.1
            have HSJ := hide' stj
            have HKJ := hide' koj
            have HRJ := hide' roj
            have HNJ := hide' knj
            clear stj koj roj knj
            have c0n : wy.cell? ⟨g6, 0, none⟩ = some (.bool true) := (cell_of_block (a := ⟨g6, 0, none⟩) F6).trans (HX1.out.s6.cellAt 0 (by decide))
            have c1n : wy.cell? ⟨g6, 1, none⟩ = some (.int .i64 l1) := (cell_of_block (a := ⟨g6, 1, none⟩) F6).trans (HX1.out.s6.cellAt 1 (by decide))
            have c2n : wy.cell? ⟨g6, 2, none⟩ = some (.bool r1) := (cell_of_block (a := ⟨g6, 2, none⟩) F6).trans (HX1.out.s6.cellAt 2 (by decide))
            have c3n : wy.cell? ⟨g6, 3, none⟩ = some (.int .i64 x1) := (cell_of_block (a := ⟨g6, 3, none⟩) F6).trans (HX1.out.s6.cellAt 3 (by decide))
            have c4n : wy.cell? ⟨g6, 4, none⟩ = some (.int .i64 y1) := (cell_of_block (a := ⟨g6, 4, none⟩) F6).trans (HX1.out.s6.cellAt 4 (by decide))
            have c5n : wy.cell? ⟨g6, 5, none⟩ = some (.string z1) := (cell_of_block (a := ⟨g6, 5, none⟩) F6).trans (HX1.out.s6.cellAt 5 (by decide))
            have a0 := (cell_of_block (a := ⟨T, 0, none⟩) FT).trans HT3.out.c0
            have a1 := (cell_of_block (a := ⟨T, 1, none⟩) FT).trans HT3.out.c1
            have a2 := (cell_of_block (a := ⟨T, 2, none⟩) FT).trans HT3.out.c2
            go_upto_region 4 with fail
            go_region_held (fun w' => w'.cell? ⟨g6, 0, none⟩ = some (.bool true) ∧ w'.cell? ⟨g6, 1, none⟩ = some (.int .i64 l1) ∧ w'.cell? ⟨g6, 2, none⟩ = some (.bool r1) ∧ w'.cell? ⟨T, 0, none⟩ = some (.bool false) ∧ w'.cell? ⟨T, 1, none⟩ = some (.int .i64 fl) ∧ w'.cell? ⟨T, 2, none⟩ = some (.bool fr)) (go_keep) ((go_at_call 248; refine (goesFirst_end _ _ _ _ _ _ _).mono ?_; rintro e W5 ⟨rfl, b5⟩; (have bq : Below wy.heap.size wy W5 := ((Below.refl _ _).drew).trans b5); (have j0' := (bq.cell (p := ⟨g6, 0, none⟩) G6).trans c0n); (have j1' := (bq.cell (p := ⟨g6, 1, none⟩) G6).trans c1n); (have j2' := (bq.cell (p := ⟨g6, 2, none⟩) G6).trans c2n); (have j3' := (bq.cell (p := ⟨T, 0, none⟩) GT).trans a0); (have j4' := (bq.cell (p := ⟨T, 1, none⟩) GT).trans a1); (have j5' := (bq.cell (p := ⟨T, 2, none⟩) GT).trans a2); clear b5))
            clear j0' j1' j2' j3' j4' j5' a0 a1 a2
            have d0n := (cell_of_block (a := ⟨w.heap.size, 0, none⟩) FP).trans p0
            have d1n := (cell_of_block (a := ⟨w.heap.size, 1, none⟩) FP).trans p1
            have d2n := (cell_of_block (a := ⟨w.heap.size, 2, none⟩) FP).trans p2
            have d3n := (cell_of_block (a := ⟨w.heap.size, 3, none⟩) FP).trans p3
            have d4n := (cell_of_block (a := ⟨w.heap.size, 4, none⟩) FP).trans p4
            have e0n := (bq.cell (p := ⟨g6, 0, none⟩) G6).trans c0n
            have e1n := (bq.cell (p := ⟨g6, 1, none⟩) G6).trans c1n
            have e2n := (bq.cell (p := ⟨g6, 2, none⟩) G6).trans c2n
            have e3n := (bq.cell (p := ⟨g6, 3, none⟩) G6).trans c3n
            have e4n := (bq.cell (p := ⟨g6, 4, none⟩) G6).trans c4n
            have e5n := (bq.cell (p := ⟨g6, 5, none⟩) G6).trans c5n
            have b0n := (bq.cell (p := ⟨w.heap.size, 0, none⟩) GP).trans d0n
            have b1n := (bq.cell (p := ⟨w.heap.size, 1, none⟩) GP).trans d1n
            have b2n := (bq.cell (p := ⟨w.heap.size, 2, none⟩) GP).trans d2n
            have b3n := (bq.cell (p := ⟨w.heap.size, 3, none⟩) GP).trans d3n
            have b4n := (bq.cell (p := ⟨w.heap.size, 4, none⟩) GP).trans d4n
            have HBQ := hide' bq
            clear bq
            go_upto_region 5 with fail
            go_region_held (fun w' => w'.cell? ⟨w.heap.size, 0, none⟩ = some (.func (.func 275) #[.pointer (some ⟨b, 0, none⟩)] #[]) ∧ w'.cell? ⟨w.heap.size, 1, none⟩ = some (.func (.func 276) #[.pointer (some ⟨b, 0, none⟩)] #[]) ∧ w'.cell? ⟨w.heap.size, 2, none⟩ = some (.int .i64 17) ∧ w'.cell? ⟨w.heap.size, 3, none⟩ = some (.int .i64 10) ∧ w'.cell? ⟨w.heap.size, 4, none⟩ = some (.int .i64 13) ∧ w'.cell? ⟨g6, 0, none⟩ = some (.bool true) ∧ w'.cell? ⟨g6, 1, none⟩ = some (.int .i64 l1) ∧ w'.cell? ⟨g6, 2, none⟩ = some (.bool r1) ∧ w'.cell? ⟨g6, 3, none⟩ = some (.int .i64 x1) ∧ w'.cell? ⟨g6, 4, none⟩ = some (.int .i64 y1) ∧ w'.cell? ⟨g6, 5, none⟩ = some (.string z1)) (go_keep) ((go_at_call 249; refine (CTB.out _ nvj dvj kvj (HSJ.out.below HBQ.out.drew) (HKJ.out.rel (Rel.of HBQ.out.drew HSJ.out.ps.old)) (own_kept HRJ.out HBQ.out.drew) (HG.out.rel.trans (Rel.of HBQ.out.drew HSJ.out.ps.old)) _ _ (own_kept HG.out.sd HBQ.out.drew) ((Rel.of HBQ.out.drew HSJ.out.ps.old).rest _ HG.out.pg).2 HNJ.out).mono ?_; rintro e w7 ⟨g7, c7, rfl, tk⟩; (have TN := HG.out.next HBQ.out.drew tk); (have HTN := hide' TN); (have h6' := TN.k6.1.trans (HG.out.k6.1.symm)); (have hP' := TN.kP.1.trans (HG.out.kP.1.symm)); (have m0n := (cell_of_block (a := ⟨w.heap.size, 0, none⟩) hP').trans d0n); (have m1n := (cell_of_block (a := ⟨w.heap.size, 1, none⟩) hP').trans d1n); (have m2n := (cell_of_block (a := ⟨w.heap.size, 2, none⟩) hP').trans d2n); (have m3n := (cell_of_block (a := ⟨w.heap.size, 3, none⟩) hP').trans d3n); (have m4n := (cell_of_block (a := ⟨w.heap.size, 4, none⟩) hP').trans d4n); (have q0n := (cell_of_block (a := ⟨g6, 0, none⟩) h6').trans c0n); (have q1n := (cell_of_block (a := ⟨g6, 1, none⟩) h6').trans c1n); (have q2n := (cell_of_block (a := ⟨g6, 2, none⟩) h6').trans c2n); (have q3n := (cell_of_block (a := ⟨g6, 3, none⟩) h6').trans c3n); (have q4n := (cell_of_block (a := ⟨g6, 4, none⟩) h6').trans c4n); (have q5n := (cell_of_block (a := ⟨g6, 5, none⟩) h6').trans c5n); clear tk TN h6' hP'))
            go_wp2_with fail
            go_roundw
            case rel => exact .inr (.inr ⟨g7, c7, rfl, rfl, HTN⟩)
            case measure => simp [lenV]
          · obtain ⟨nvj, dvj, kvj, stj, koj, roj, knj⟩ := HG.out.st
            have a0 := (cell_of_block (a := ⟨T, 0, none⟩) HG.out.kT.1).trans HT3.out.c0
            have v0 : wy.cell? ⟨g, 0, none⟩ = some (.int .i64 NN) := HG.out.sd.cellAt 0 (by simp)
            have HSJ := hide' stj
            clear stj koj roj knj
            go_upto_region 4 with fail
            go_quiet (fail)
            go_wp2_with fail
            go_ret
            have bq : Below wy.heap.size wy (wy.drewN nq) := below_drew2 _ _ nq
            exact ⟨rfl, ⟨nvj, dvj, HSJ.out.below bq⟩, HG.out.rel.trans (Rel.of bq HSJ.out.ps.old)⟩
end Go.Proofs.YtbcmpacmoofdkaaGreatDoor
