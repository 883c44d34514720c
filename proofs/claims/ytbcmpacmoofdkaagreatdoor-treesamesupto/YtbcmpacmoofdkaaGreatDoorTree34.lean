/- Scopes: inner, find. -/
import Derived.Test.YtbcmpacmoofdkaaGreatDoorProg
import Derived.Test.YtbcmpacmoofdkaaGreatDoorTree31
import Derived.WalkKit
import Derived.ProofKit
import Derived.OpenShut
import Derived.Below
import Derived.WalkLawsBesides
import Derived.OwnWalk
import Derived.BigQuiet
import Derived.Deep.MidRow
import Derived.Deep.RegionHeld
import Derived.Deep.RegionHeld3
import Derived.WalkSmall
import Derived.Deep.DeepCutAuto
import Derived.Maps.Own
import Derived.Maps.OwnOps
import Derived.Maps.OwnSet
import Derived.Test.YtbcmpacmoofdkaaGreatDoorShelf3
namespace Go.Proofs.YtbcmpacmoofdkaaGreatDoor
open Go.ChangeShapes Go.WideShapes Go.ChangeAt Go.RowKit

/-- How a fixity reads as a map's element. -/
def fixElem (v : Value) : Option (DataW Unit × List MemPlace) :=
  match v with
  | .agg cs => match cs.toList with
    | [.bool a, .int .i64 l, .bool r] => some (.agg [.lit (.bool a), .lit (.int .i64 l), .lit (.bool r)], [])
    | _ => none
  | _ => none
theorem fixElem_inv {v : Value} {z : DataW Unit × List MemPlace} (h : fixElem v = some z) : ∃ a l r, v = .agg #[.bool a, .int .i64 l, .bool r] ∧ z = (.agg [.lit (.bool a), .lit (.int .i64 l), .lit (.bool r)], []) := by
  unfold fixElem at h
  split at h
  · rename_i cs
    split at h
    · rename_i a l r hc
      injection h with h
      exact ⟨a, l, r, by rw [← hc], h.symm⟩
    · cases h
  · cases h
def zeroFix : DataW Unit := .agg [.lit (.bool false), .lit (.int .i64 0), .lit (.bool false)]
def fixOf : DataW Unit → Fix
  | .agg [.lit (.bool a), .lit (.int .i64 l), .lit (.bool r)] => (a, l, r)
  | _ => (false, 0, false)
/-- What a name is by a map. -/
def fxD (D : DataW Unit) (z : List UInt8) : Fix := if Maps.has D (.string z) then fixOf (D.atKey (.string z) zeroFix) else (false, 0, false)
theorem keyLaw : Maps.Keyed Tryz.prog 9 := Maps.string_keyed Tryz.underlying9
theorem zeroE (w : World) : (zeroValue 114).run Tryz.prog w = .ok (.agg #[.bool false, .int .i64 0, .bool false]) w := by kernel_rfl

/-- A scope in memory: its block, its map's block. -/
structure Sc (b : Nat) (w : World) (g m : Nat) (nx : Option Addr) (n : Nat) (D : DataW Unit) : Prop where
  pg : Prot b w g
  pm : Prot b w m
  c0 : w.cell? ⟨g, 0, none⟩ = some (.pointer nx)
  c1 : w.cell? ⟨g, 1, none⟩ = some (.map (some m))
  om : w.ownsMap Tryz.prog 9 fixElem m n D
theorem Sc.rel {b : Nat} {w w' : World} {g m : Nat} {nx : Option Addr} {n : Nat} {D : DataW Unit} (h : Sc b w g m nx n D) (r : Rel b w w') : Sc b w' g m nx n D := by
  obtain ⟨e1, p1⟩ := r.rest g h.pg
  obtain ⟨e2, p2⟩ := r.rest m h.pm
  obtain ⟨es, cl, hb, F, hs, hD⟩ := h.om
  exact ⟨p1, p2, (cell_of_block (a := ⟨g, 0, none⟩) e1).trans h.c0, (cell_of_block (a := ⟨g, 1, none⟩) e1).trans h.c1, ⟨es, cl, e2.trans hb, F, hs, hD⟩⟩

set_option maxRecDepth 100000 in
set_option maxHeartbeats 8000000 in
theorem inner_any (so : Option Addr) (w : World) : Calls Tryz.prog 71 #[.pointer so] w fun e w' => e = .returned (.pointer (some ⟨w.heap.size + 1, 0, none⟩)) ∧ w' = (w.alloc (.map #[] 0)).alloc (.cells #[.pointer so, .map (some w.heap.size)] 117) := by
  have hmm := @run_makeMap Tryz.prog
  go_enter Tryz.func71, Tryz.ntmps71
  go_wp2_with fail
  go_ret
  exact ⟨rfl, rfl⟩

set_option maxRecDepth 100000 in
set_option maxHeartbeats 16000000 in
theorem find_two (b : Nat) (w : World) (g1 m1 g0 m0 n0 : Nat) (D0 : DataW Unit) (z : ByteArray) (hz : z.size ≤ 1048576) (hne : g1 ≠ g0) (h1 : Sc b w g1 m1 (some ⟨g0, 0, none⟩) 0 (.map [])) (h0 : Sc b w g0 m0 none n0 D0) :
    Calls Tryz.prog 201 #[.pointer (some ⟨g1, 0, none⟩), .string z] w fun e w' => e = .returned (fixV (fxD D0 z.data.toList)) ∧ Below w.heap.size w w' := by
  have hkey : keyOf Tryz.prog 9 (.string z) = some (.string z.data.toList) := WideMaps.keyOf_string_mk Tryz.underlying9 (by unfold maxLen; omega)
  have hh1 : Maps.has (DataW.map [] : DataW Unit) (.string z.data.toList) = false := rfl
  generalize z.data.toList = zl at *
  obtain ⟨F, hF⟩ : ∃ F, fxD D0 zl = F := ⟨_, rfl⟩
  rw [hF]
  have HF := hide' hF
  clear hF
  unfold fxD at HF
  obtain ⟨W0, hW0⟩ : ∃ W0, w.alloc (.cells #[.bool false, .int .i64 0, .bool false] 114) = W0 := ⟨_, rfl⟩
  have T0 : Three W0 w.heap.size (.bool false) (.int .i64 0) (.bool false) := by rw [← hW0]; exact three_new _ _ _ _ _
  have B0 : Below w.heap.size w W0 := by rw [← hW0]; exact (Below.refl _ _).alloc (Nat.le_refl _) _
  have s0 : w.heap.size < W0.heap.size := by rw [← hW0]; simp
  have a1 := (B0.cell (p := ⟨g1, 0, none⟩) h1.pg.1).trans h1.c0
  have a2 := (B0.cell (p := ⟨g1, 1, none⟩) h1.pg.1).trans h1.c1
  have a3 := (B0.cell (p := ⟨g0, 0, none⟩) h0.pg.1).trans h0.c0
  have a4 := (B0.cell (p := ⟨g0, 1, none⟩) h0.pg.1).trans h0.c1
  have l1 : g1 < W0.heap.size := Nat.lt_trans h1.pg.1 s0
  have l0 : g0 < W0.heap.size := Nat.lt_trans h0.pg.1 s0
  have k1 : ¬ g1 = W0.heap.size := by omega
  have k0 : ¬ g0 = W0.heap.size := by omega
  have o1 : W0.ownsMap Tryz.prog 9 fixElem m1 0 (.map []) := by rw [← hW0]; exact h1.om.alloc _
  have o0 : W0.ownsMap Tryz.prog 9 fixElem m0 n0 D0 := by rw [← hW0]; exact h0.om.alloc _
  have HO1 := hide' o1
  have HO0 := hide' o0
  have HT0 := hide' T0
  have HB0 := hide' B0
  have hm0 := h0.pm.1
  clear h1 h0 o1 o0 T0 B0
  go_enter Tryz.func201, Tryz.ntmps201
  go_wp2_with fail
  try rw [hW0]
  clear hW0
  go_loopw [0] (fun v wr => (v = .pointer (some ⟨g1, 0, none⟩) ∧ wr = W0) ∨ (v = .pointer (some ⟨g0, 0, none⟩) ∧ Below W0.heap.size W0 wr) ∨ (v = .pointer none ∧ Below W0.heap.size W0 wr ∧ Maps.has D0 (.string zl) = false)) (fun v _ => match v with | .pointer (some a) => (if a.block = g1 then 2 else 1) | _ => 0)
  case atStart => exact .inl ⟨rfl, rfl⟩
  case round =>
    rcases hrel with ⟨rfl, hw⟩ | ⟨rfl, bw⟩ | ⟨rfl, bw, hno⟩
    · obtain rfl : wr = _ := hw
      go_wp2_with (at_lookup; refine wpList_lookup_own_ok _ rfl _ _ 115 rfl 9 114 keyLaw Tryz.underlying115 fixElem (zeroE _) zeroFix [] rfl m1 0 (.map []) rfl HO1.out _ _ rfl hkey ?_; intro v ps hv; (obtain ⟨fa, fl, fr, hv2, hv3⟩ := fixElem_inv hv); subst hv2; clear hv hv3)
      go_roundw
      case rel => exact .inr (.inl ⟨rfl, (Below.refl _ _).alloc (Nat.le_refl _) _⟩)
      case measure =>
        have hn' : ¬ g0 = g1 := fun e => hne e.symm
        simp [hn']
    · have c3 := (bw.cell (p := ⟨g0, 0, none⟩) l0).trans a3
      have c4 := (bw.cell (p := ⟨g0, 1, none⟩) l0).trans a4
      have oo : wr.ownsMap Tryz.prog 9 fixElem m0 n0 D0 := by
        obtain ⟨es, cl, hb, F, hs, hD⟩ := HO0.out
        exact ⟨es, cl, (bw.block m0 (by omega)).trans hb, F, hs, hD⟩
      have HO := hide' oo
      have T1 := HT0.out.below bw s0
      have HT1 := hide' T1
      have lww : w.heap.size < wr.heap.size := Nat.lt_of_lt_of_le s0 bw.size
      have l0w : g0 < wr.heap.size := Nat.lt_of_lt_of_le l0 bw.size
      have k0' : ¬ g0 = wr.heap.size := by have := bw.size; omega
      have k0w : ¬ w.heap.size = wr.heap.size := by have := bw.size; omega
      have k0w' : ¬ wr.heap.size = w.heap.size := by have := bw.size; omega
      obtain ⟨y0, y1, y2, z0, z1, z2⟩ := T1
      clear oo
      cases hh : Maps.has D0 (.string zl)
      · go_wp2_with (at_lookup; refine wpList_lookup_own_ok _ rfl _ _ 115 rfl 9 114 keyLaw Tryz.underlying115 fixElem (zeroE _) zeroFix [] rfl m0 n0 D0 rfl HO.out _ _ rfl hkey ?_; intro v ps hv; (obtain ⟨fa, fl, fr, hv2, hv3⟩ := fixElem_inv hv); subst hv2; clear hv hv3)
        go_roundw
        case rel => exact .inr (.inr ⟨rfl, bw.alloc bw.size _, by first | exact hh | rfl | trivial⟩)
        case measure => simp; try (split <;> decide)
      · go_wp2_with (at_lookup; refine wpList_lookup_own_ok _ rfl _ _ 115 rfl 9 114 keyLaw Tryz.underlying115 fixElem (zeroE _) zeroFix [] rfl m0 n0 D0 rfl HO.out _ _ rfl hkey ?_; intro v ps hv; (obtain ⟨fa, fl, fr, hv2, hv3⟩ := fixElem_inv hv); subst hv2; (have HV : Hid' (D0.atKey (.string zl) zeroFix = .agg [.lit (.bool fa), .lit (.int .i64 fl), .lit (.bool fr)]) := ⟨congrArg Prod.fst hv3⟩); clear hv hv3)
        rw [← World.setCell_alloc_past _ _ _ _ (by simpa using lww), ← World.setCell_alloc_past _ _ _ _ (by simpa using lww), ← World.setCell_alloc_past _ _ _ _ lww]
        refine fix_end (w1 := wr.alloc (.cells #[.bool fa, .int .i64 fl, .bool fr] 114)) rfl (HT1.out.below ((Below.refl _ _).alloc (Nat.le_refl _) _) (by have := bw.size; omega)) rfl ?_
        refine ⟨?_, below_set3 ((HB0.out.trans (bw.mono (Nat.le_of_lt s0))).alloc (by have := bw.size; omega) _) (Nat.le_refl _) _ _ _⟩
        have e9 := HF.out
        rw [if_pos hh, HV.out] at e9
        rw [← e9]
        rfl
    · have T1 := HT0.out.below bw s0
      have HT1 := hide' T1
      obtain ⟨y0, y1, y2, z0, z1, z2⟩ := T1
      have e9 := HF.out
      rw [if_neg (by rw [hno]; decide)] at e9
      subst e9
      go_wp2_with fail
      refine fix_end (w1 := wr) rfl HT1.out rfl ?_
      exact ⟨rfl, below_set3 (HB0.out.trans (bw.mono (Nat.le_of_lt s0))) (Nat.le_refl _) _ _ _⟩
end Go.Proofs.YtbcmpacmoofdkaaGreatDoor
/- The parser: decs, in a scope of their own. -/
namespace Go.Proofs.YtbcmpacmoofdkaaGreatDoor
open Go.ChangeShapes Go.WideShapes Go.ChangeAt Go.RowKit

theorem fnd_two {b : Nat} {w : World} {g1 m1 g0 m0 n0 : Nat} {D0 : DataW Unit} (hne : g1 ≠ g0) (h1 : Sc b w g1 m1 (some ⟨g0, 0, none⟩) 0 (.map [])) (h0 : Sc b w g0 m0 none n0 D0) : Fnd b w (.pointer (some ⟨g1, 0, none⟩)) (fxD D0) :=
  fun z hz W r => find_two b W g1 m1 g0 m0 n0 D0 z hz hne (h1.rel r) (h0.rel r)

/-- The parser's rows, whatever its scope is. -/
structure Rw (b : Nat) (w : World) (ns : List Nod) (ds : List Nat) (nv dv : Value) : Prop where
  rn : ∃ kvs, KOk b w ns kvs ∧ w.ownsRow (b + 1) 37 6 nv ns.length (nodCells ns kvs)
  rd : w.ownsRow (b + 1) 3 1 dv ds.length (intCells ds)
  ln : ds.length = ns.length
  sm : ns.length ≤ 1000
theorem St.rw' {b : Nat} {w : World} {tv : Value} {toks : List ITk} {at' op : Nat} {so : Option Addr} {fx : List UInt8 → Fix} {ns : List Nod} {ds : List Nat} {nv dv : Value} (h : St b w tv toks at' op so fx ns ds nv dv) : Rw b w ns ds nv dv := ⟨h.rn, h.rd, h.ln, h.sm⟩
theorem Rw.st {b : Nat} {w : World} {tv : Value} {toks : List ITk} {at' op : Nat} {so : Option Addr} {fx : List UInt8 → Fix} {ns : List Nod} {ds : List Nat} {nv dv : Value} (h : Rw b w ns ds nv dv) (p : PS b w tv toks at' op (.pointer so) nv dv) (f : Fnd b w (.pointer so) fx) : St b w tv toks at' op so fx ns ds nv dv := ⟨p, h.rn, h.rd, f, h.ln, h.sm⟩
theorem Rw.below {b : Nat} {w w' : World} {ns : List Nod} {ds : List Nat} {nv dv : Value} (h : Rw b w ns ds nv dv) (g : Below w.heap.size w w') (hb : b < w.heap.size) : Rw b w' ns ds nv dv := by
  obtain ⟨kvs, h1, h2⟩ := h.rn
  exact ⟨⟨kvs, h1.rel (Rel.of g hb), own_kept h2 g⟩, own_kept h.rd g, h.ln, h.sm⟩
theorem Rw.scoped {b : Nat} {w : World} {ns : List Nod} {ds : List Nat} {nv dv : Value} (h : Rw b w ns ds nv dv) (u : Value) : Rw b (w.setCell ⟨b, 3, none⟩ u) ns ds nv dv := by
  obtain ⟨kvs, h1, h2⟩ := h.rn
  exact ⟨⟨kvs, h1.rel ((Rel.refl b w).set (by decide) u), ownsRow_setCell_below h2 (a := ⟨b, 3, none⟩) (Nat.lt_succ_self b) _⟩, ownsRow_setCell_below h.rd (a := ⟨b, 3, none⟩) (Nat.lt_succ_self b) _, h.ln, h.sm⟩
theorem PS.scoped {b : Nat} {w : World} {tv : Value} {toks : List ITk} {at' op : Nat} {sc nv dv : Value} (h : PS b w tv toks at' op sc nv dv) (u : Value) : PS b (w.setCell ⟨b, 3, none⟩ u) tv toks at' op u nv dv :=
  ⟨(World.cell?_setCell_other _ _ _ _ (by simp)).trans h.c0, (World.cell?_setCell_other _ _ _ _ (by simp)).trans h.c1, (World.cell?_setCell_other _ _ _ _ (by simp)).trans h.c2, World.cell?_setCell_same _ _ _ h.c3, (World.cell?_setCell_other _ _ _ _ (by simp)).trans h.c4, (World.cell?_setCell_other _ _ _ _ (by simp)).trans h.c5,
   by rw [World.frozen?_setCell]; exact h.f1, by rw [World.frozen?_setCell]; exact h.f2, by rw [World.frozen?_setCell]; exact h.f3, by rw [World.frozen?_setCell]; exact h.f4, by rw [World.frozen?_setCell]; exact h.f5,
   rdTk_below h.rt ((Below.refl b w).setCell (p := ⟨b, 3, none⟩) (Nat.le_refl _) _), h.ba, by simpa using h.old3⟩
/-- A block that is new is none of the parser's. -/
theorem Rw.prot {b : Nat} {w w' : World} {tv : Value} {toks : List ITk} {at' op : Nat} {sc : Value} {ns : List Nod} {ds : List Nat} {nv dv : Value} (h : Rw b w ns ds nv dv) (p : PS b w' tv toks at' op sc nv dv) (hb : b < w.heap.size) {k : Nat} (h1 : w.heap.size ≤ k) (h2 : k < w'.heap.size) : Prot b w' k := by
  obtain ⟨kvs, _, hr⟩ := h.rn
  refine ⟨h2, by omega, fun v hv e => ?_, fun v hv e => ?_⟩
  · rw [p.c4] at hv
    injection hv with hv
    subst hv
    have := (hr.lt k e).2
    omega
  · rw [p.c5] at hv
    injection hv with hv
    subst hv
    have := (h.rd.lt k e).2
    omega

set_option maxRecDepth 100000 in
set_option maxHeartbeats 8000000 in
theorem decs_of (b : Nat) (tv : Value) (toks : List ITk) (at' at1 op : Nat) (g0 m0 n0 : Nat) (D0 : DataW Unit) (ns ns' : List Nod) (ds ds' : List Nat) (nv dv : Value) (w : World) (n : Int)
    (h : PS b w tv toks at' op (.pointer (some ⟨g0, 0, none⟩)) nv dv) (hr : Rw b w ns ds nv dv) (hs : Sc b w g0 m0 none n0 D0)
    (hd : ∀ W g1, St b W tv toks at' op (some ⟨g1, 0, none⟩) (fxD D0) ns ds nv dv → Calls Tryz.prog 105 #[.pointer (some ⟨b, 0, none⟩)] W fun e w' => e = .returned (.int .i64 n) ∧ (∃ nv' dv', St b w' tv toks at1 op (some ⟨g1, 0, none⟩) (fxD D0) ns' ds' nv' dv') ∧ Rel b W w') :
    Calls Tryz.prog 74 #[.pointer (some ⟨b, 0, none⟩)] w fun e w' => e = .returned (.int .i64 n) ∧ (∃ nv' dv', PS b w' tv toks at1 op (.pointer (some ⟨g0, 0, none⟩)) nv' dv' ∧ Rw b w' ns' ds' nv' dv') ∧ Rel b w w' := by
  have hold := h.old
  have CI := hide' (inner_any (some ⟨g0, 0, none⟩) w)
  have CD := hide' hd
  obtain ⟨W1, hW1⟩ : ∃ W1, (w.alloc (.map #[] 0)).alloc (.cells #[.pointer (some ⟨g0, 0, none⟩), .map (some w.heap.size)] 117) = W1 := ⟨_, rfl⟩
  rw [hW1] at CI
  have B1 : Below w.heap.size w W1 := by rw [← hW1]; exact ((Below.refl _ _).alloc (Nat.le_refl _) _).alloc (by simp) _
  have S1 : W1.heap.size = w.heap.size + 2 := by rw [← hW1]; simp
  have d0 : W1.cell? ⟨w.heap.size + 1, 0, none⟩ = some (.pointer (some ⟨g0, 0, none⟩)) := by rw [← hW1]; simp
  have d1 : W1.cell? ⟨w.heap.size + 1, 1, none⟩ = some (.map (some w.heap.size)) := by rw [← hW1]; simp
  have om : W1.ownsMap Tryz.prog 9 fixElem w.heap.size 0 (.map []) := by rw [← hW1]; exact (World.ownsMap_made w _ _ _).alloc _
  obtain ⟨W2, hW2⟩ : ∃ W2, W1.setCell ⟨b, 3, none⟩ (.pointer (some ⟨w.heap.size + 1, 0, none⟩)) = W2 := ⟨_, rfl⟩
  have p1 := h.below B1 hold
  have p2 := p1.scoped (.pointer (some ⟨w.heap.size + 1, 0, none⟩))
  have r1 := hr.below B1 hold
  have r2 := r1.scoped (.pointer (some ⟨w.heap.size + 1, 0, none⟩))
  have R2 : Rel b w (W1.setCell ⟨b, 3, none⟩ (.pointer (some ⟨w.heap.size + 1, 0, none⟩))) := (Rel.of B1 hold).set (by decide) _
  have q0 : Prot b W1 w.heap.size := hr.prot p1 hold (Nat.le_refl _) (by omega)
  have q1 : Prot b W1 (w.heap.size + 1) := hr.prot p1 hold (by omega) (by omega)
  have s1 : Sc b (W1.setCell ⟨b, 3, none⟩ (.pointer (some ⟨w.heap.size + 1, 0, none⟩))) (w.heap.size + 1) w.heap.size (some ⟨g0, 0, none⟩) 0 (.map []) := (Sc.mk q1 q0 d0 d1 om).rel ((Rel.refl b W1).set (by decide) _)
  have s0 := hs.rel R2
  have hg0 : w.heap.size + 1 ≠ g0 := by have := hs.pg.1; omega
  have st2 := r2.st p2 (fnd_two hg0 s1 s0)
  rw [hW2] at st2 R2
  have HST := hide' st2
  have HR2 := hide' R2
  have c3 := h.c3
  have c31 := p1.c3
  have f31 := p1.f3
  clear h hr hs hd p1 p2 r1 r2 s1 s0 q0 q1 d0 d1 om st2 R2
  go_enter Tryz.func74, Tryz.ntmps74
  go_upto_region 3 with (go_at_call 71; refine CI.out.mono ?_; clear CI; rintro e w1 ⟨rfl, hw1⟩; subst hw1)
  try rw [hW2]
  clear hW2
  go_wp2_with (go_at_call 105; refine (CD.out _ _ HST.out).mono ?_; clear CD; rintro e w3 ⟨rfl, ⟨nv', dv', h3⟩, r3⟩; (have H3 := hide' h3); (have R3 := hide' r3); (have c33 := h3.ps.c3); (have f33 := h3.ps.f3); clear h3 r3)
  go_ret
  exact ⟨rfl, ⟨nv', dv', H3.out.ps.scoped _, H3.out.rw'.scoped _⟩, (HR2.out.trans R3.out).set (by decide) _⟩
end Go.Proofs.YtbcmpacmoofdkaaGreatDoor
/- The first scope. -/
namespace Go.Proofs.YtbcmpacmoofdkaaGreatDoor
open Go.ChangeShapes Go.WideShapes Go.ChangeAt Go.RowKit

theorem tab_keep {P : Program} {w w' : World} {g : Nat} {n : String} {k : IntKind} {zs : List Int} (hg : P.globalNamed n = some g) (h : Lib.TabIs P w n k zs) (hb : Below w.heap.size w w') : Lib.TabIs P w' n k zs := by
  unfold Lib.TabIs World.var? at h ⊢
  rw [hg] at h ⊢
  simp only [Option.bind_some] at h ⊢
  have hlt : g < w.heap.size := by
    rcases Nat.lt_or_ge g w.heap.size with h' | h'
    · exact h'
    · rw [Array.getElem?_eq_none h'] at h; cases h
  rw [hb.block g hlt]
  exact h
theorem spaceG : Tryz.prog.globalNamed "strings.asciiSpace" = some 0 := by kernel_rfl

/-- The names of each level. -/
def lvT (k : Nat) : ByteArray :=
  match k with
  | 0 => ⟨#[98, 101, 102, 111, 114, 101]⟩
  | 3 => ⟨#[58, 61, 32, 111]⟩
  | 4 => ⟨#[61, 32, 60, 62, 32, 62, 32, 62, 61, 32, 60, 32, 60, 61]⟩
  | 5 => ⟨#[58, 58, 32, 64]⟩
  | 6 => ⟨#[43, 32, 45, 32, 94]⟩
  | 7 => ⟨#[42, 32, 47, 32, 100, 105, 118, 32, 109, 111, 100]⟩
  | _ => ⟨#[]⟩
def lvN (k : Nat) : List (List UInt8) := Lib.fields (lvT k).data.toList
def lvArr : Value := .agg #[.string ⟨#[98, 101, 102, 111, 114, 101]⟩, .string ⟨#[]⟩, .string ⟨#[]⟩, .string ⟨#[58, 61, 32, 111]⟩, .string ⟨#[61, 32, 60, 62, 32, 62, 32, 62, 61, 32, 60, 32, 60, 61]⟩, .string ⟨#[58, 58, 32, 64]⟩, .string ⟨#[43, 32, 45, 32, 94]⟩, .string ⟨#[42, 32, 47, 32, 100, 105, 118, 32, 109, 111, 100]⟩]
def scPut (k : Nat) (D : DataW Unit) (n : List UInt8) : DataW Unit := D.put (.string n) (.agg [.lit (.bool true), .lit (.int .i64 (k : Int)), .lit (.bool ((k : Int) == 5))])
def scD : Nat → DataW Unit
  | 0 => .map []
  | k + 1 => (lvN k).foldl (scPut k) (scD k)
theorem lv_ok : ∀ k, k < 8 → (lvT k).size < 4294967281 ∧ (∀ (j : Nat) b, (lvT k).data.toList[j]? = some b → b.toNat < 128) ∧ (lvN k).length ≤ 6 ∧ (∀ j, ((lvN k).getD j []).length ≤ 8) := by
  intro k hk
  have hall : ∀ l : List UInt8, (l.all fun b => decide (b.toNat < 128)) = true → ∀ (j : Nat) b, l[j]? = some b → b.toNat < 128 := fun l h j b hj => by
    have := List.all_eq_true.1 h b (List.mem_of_getElem? hj)
    simpa using this
  have hlen : ∀ l : List (List UInt8), (l.all fun x => decide (x.length ≤ 8)) = true → ∀ j, (l.getD j []).length ≤ 8 := fun l h j => by
    rw [List.getD_eq_getElem?_getD]
    cases hx : l[j]? with
    | none => simp
    | some x =>
      have := List.all_eq_true.1 h x (List.mem_of_getElem? hx)
      simpa using this
  match k, hk with
  | 0, _ => exact ⟨by decide, hall _ (by decide), by decide, hlen _ (by decide)⟩
  | 1, _ => exact ⟨by decide, hall _ (by decide), by decide, hlen _ (by decide)⟩
  | 2, _ => exact ⟨by decide, hall _ (by decide), by decide, hlen _ (by decide)⟩
  | 3, _ => exact ⟨by decide, hall _ (by decide), by decide, hlen _ (by decide)⟩
  | 4, _ => exact ⟨by decide, hall _ (by decide), by decide, hlen _ (by decide)⟩
  | 5, _ => exact ⟨by decide, hall _ (by decide), by decide, hlen _ (by decide)⟩
  | 6, _ => exact ⟨by decide, hall _ (by decide), by decide, hlen _ (by decide)⟩
  | 7, _ => exact ⟨by decide, hall _ (by decide), by decide, hlen _ (by decide)⟩
theorem lv_index : ∀ k : Nat, k < 8 → ∀ W, (Instr.index 111 lvArr (.int .i64 (k : Int))).run Tryz.prog W = .ok (.string (lvT k)) W := by
  intro k hk W
  match k, hk with
  | 0, _ => show _ = _; kernel_rfl
  | 1, _ => show _ = _; kernel_rfl
  | 2, _ => show _ = _; kernel_rfl
  | 3, _ => show _ = _; kernel_rfl
  | 4, _ => show _ = _; kernel_rfl
  | 5, _ => show _ = _; kernel_rfl
  | 6, _ => show _ = _; kernel_rfl
  | 7, _ => show _ = _; kernel_rfl
theorem fold_snoc {α β : Type} (f : β → α → β) (d : β) (z : α) (l : List α) (j : Nat) (h : j < l.length) : (l.take (j + 1)).foldl f d = f ((l.take j).foldl f d) (l.getD j z) := by
  rw [List.take_succ_eq_append_getElem h, List.foldl_append]
  simp [List.getD_eq_getElem?_getD, h]

set_option maxRecDepth 100000 in
set_option maxHeartbeats 16000000 in
theorem firstScope_any (w : World) (htab : Lib.TabIs Tryz.prog w "strings.asciiSpace" .u8 Lib.asciiSpaceTab) :
    Calls Tryz.prog 39 #[] w fun e w' => e = .returned (.pointer (some ⟨w.heap.size + 1, 0, none⟩)) ∧ Below w.heap.size w w' ∧ w.heap.size + 1 < w'.heap.size ∧ w'.cell? ⟨w.heap.size + 1, 0, none⟩ = some (.pointer none) ∧ w'.cell? ⟨w.heap.size + 1, 1, none⟩ = some (.map (some w.heap.size)) ∧ w'.ownsMap Tryz.prog 9 fixElem w.heap.size 64 (scD 8) := by
  have CI := hide' (inner_any none w)
  obtain ⟨W1, hW1⟩ : ∃ W1, (w.alloc (.map #[] 0)).alloc (.cells #[.pointer none, .map (some w.heap.size)] 117) = W1 := ⟨_, rfl⟩
  rw [hW1] at CI
  have B1 : Below w.heap.size w W1 := by rw [← hW1]; exact ((Below.refl _ _).alloc (Nat.le_refl _) _).alloc (by simp) _
  have S1 : W1.heap.size = w.heap.size + 2 := by rw [← hW1]; simp
  have d0 : W1.cell? ⟨w.heap.size + 1, 0, none⟩ = some (.pointer none) := by rw [← hW1]; simp
  have d1 : W1.cell? ⟨w.heap.size + 1, 1, none⟩ = some (.map (some w.heap.size)) := by rw [← hW1]; simp
  have om : W1.ownsMap Tryz.prog 9 fixElem w.heap.size 0 (.map []) := by rw [← hW1]; exact (World.ownsMap_made w _ _ _).alloc _
  have HTAB := hide' htab
  have HB1 := hide' B1
  have HOM := hide' om
  clear htab B1 om hW1
  go_enter Tryz.func39, Tryz.ntmps39
  go_wp2_with (go_at_call 71; refine CI.out.mono ?_; clear CI; rintro e w1 ⟨rfl, hw1⟩; subst hw1)
  go_loopw [10] (fun v wr => ∃ k : Nat, k ≤ 8 ∧ v = .int .i64 (k : Int) ∧ Hid' (Below w.heap.size w wr ∧ w.heap.size + 1 < wr.heap.size ∧ wr.cell? ⟨w.heap.size + 1, 0, none⟩ = some (.pointer none) ∧ wr.cell? ⟨w.heap.size + 1, 1, none⟩ = some (.map (some w.heap.size)) ∧ wr.ownsMap Tryz.prog 9 fixElem w.heap.size (8 * k) (scD k))) (fun v _ => 8 - (intOf v).toNat)
  case atStart => exact ⟨0, by decide, rfl, ⟨HB1.out, by omega, d0, d1, HOM.out⟩⟩
  case round =>
    obtain ⟨k, hk, rfl, HI⟩ := hrel
    by_cases h8 : k < 8
    · obtain ⟨bw, hsz, e0, e1, om⟩ := HI.out
      have hix := lv_index k h8
      unfold lvArr at hix
      obtain ⟨o1, o2, o3, o4⟩ := lv_ok k h8
      have CF := hide' (Tryz.strings_Fields (lvT k) wr o1 o2 (tab_keep spaceG HTAB.out bw))
      have HL8 := hide' o4
      have HSD : Hid' (scD (k + 1) = (lvN k).foldl (scPut k) (scD k)) := ⟨rfl⟩
      have hnm : Lib.fields (lvT k).data.toList = lvN k := rfl
      rw [hnm] at CF
      generalize lvT k = tk at *
      generalize lvN k = nm at *
      obtain ⟨L, hL⟩ : ∃ L, nm.length = L := ⟨_, rfl⟩
      rw [hL] at CF o3
      have HL := hide' hL
      obtain ⟨W2, hW2⟩ : ∃ W2, wr.alloc (.cells (nm.map fun l => Value.string ⟨l.toArray⟩).toArray 9) = W2 := ⟨_, rfl⟩
      rw [hW2] at CF
      have hcs : Hid' (∀ j, j < L → W2.cell? ⟨wr.heap.size, j, none⟩ = some (.string ⟨(nm.getD j []).toArray⟩)) := ⟨fun j hj => by
        have := cellsNew wr (nm.map fun l => Value.string ⟨l.toArray⟩) 9 j (.string ⟨(nm.getD j []).toArray⟩) (by
          have hj' : j < nm.length := by omega
          simp [List.getD_eq_getElem?_getD, hj'])
        rw [hW2, show (⟨wr.heap.size, 0, none⟩ : Addr).add j = ⟨wr.heap.size, j, none⟩ from by unfold Addr.add; simp; omega] at this
        exact this⟩
      have B2 : Below wr.heap.size wr W2 := by rw [← hW2]; exact (Below.refl _ _).alloc (Nat.le_refl _) _
      have S2 : W2.heap.size = wr.heap.size + 1 := by rw [← hW2]; simp
      have om2 : W2.ownsMap Tryz.prog 9 fixElem w.heap.size (8 * k) (scD k) := by rw [← hW2]; exact om.alloc _
      have HB2 := hide' (bw.trans (B2.mono (by omega)))
      have e0' := (B2.cell (p := ⟨w.heap.size + 1, 0, none⟩) hsz).trans e0
      have e1' := (B2.cell (p := ⟨w.heap.size + 1, 1, none⟩) hsz).trans e1
      have HOM2 := hide' om2
      obtain ⟨F, hF⟩ : ∃ F, wr.heap.size = F := ⟨_, rfl⟩
      rw [hF] at CF hcs S2 hsz
      clear bw e0 e1 om om2 hW2 hL hnm o1 o2 o4 hF B2
      go_wp2_with (go_at_call 72; refine CF.out.mono ?_; clear CF; rintro e w2 ⟨rfl, hw2⟩; subst hw2)
      have S2' : w2.heap.size = F + 1 := S2
      go_loopw [17] (fun v wy => ∃ j : Nat, j ≤ L ∧ v = .int .i64 (j : Int) ∧ Hid' (Below w.heap.size w wy ∧ w2.heap.size ≤ wy.heap.size ∧ (∀ g, g < w2.heap.size → g ≠ w.heap.size → wy.heap[g]? = w2.heap[g]?) ∧ wy.ownsMap Tryz.prog 9 fixElem w.heap.size (8 * k + j) ((nm.take j).foldl (scPut k) (scD k)))) (fun v _ => L - (intOf v).toNat)
      case atStart => exact ⟨0, by omega, rfl, ⟨HB2.out, Nat.le_refl _, fun _ _ _ => rfl, HOM2.out⟩⟩
      case round =>
        obtain ⟨j, hj, rfl, HJ⟩ := hrel
        obtain ⟨x1, x2, x3, x4⟩ := HJ.out
        have y0 := (cell_of_block (a := ⟨w.heap.size + 1, 0, none⟩) (x3 _ (by show w.heap.size + 1 < _; omega) (by show w.heap.size + 1 ≠ _; omega))).trans e0'
        have y1 := (cell_of_block (a := ⟨w.heap.size + 1, 1, none⟩) (x3 _ (by show w.heap.size + 1 < _; omega) (by show w.heap.size + 1 ≠ _; omega))).trans e1'
        have HX4 := hide' x4
        have HX1 := hide' x1
        have HX3 := hide' x3
        clear x1 x3 x4
        by_cases hjl : j < L
        · have yc := (cell_of_block (a := ⟨F, j, none⟩) (HX3.out _ (by show F < _; omega) (by show F ≠ _; omega))).trans (hcs.out j hjl)
          have hkey : keyOf Tryz.prog 9 (.string ⟨(nm.getD j []).toArray⟩) = some (.string (nm.getD j [])) := WideMaps.keyOf_string_mk Tryz.underlying9 (Nat.le_trans (show ((nm.getD j []).toArray).size ≤ 8 by simpa using HL8.out j) (by unfold maxLen; decide))
          have HFS := hide' (fold_snoc (scPut k) (scD k) [] nm j (by have := HL.out; omega))
          generalize nm.getD j [] = nj at *
          go_wp2_with (at_mapUpdate; refine wpList_mapUpdate_own _ rfl _ _ _ 115 rfl 9 114 keyLaw Tryz.underlying115 fixElem w.heap.size (8 * k + j) _ rfl HX4.out (by unfold maxLen; omega) _ _ _ rfl rfl hkey (.agg [.lit (.bool true), .lit (.int .i64 (k : Int)), .lit (.bool ((k : Int) == 5))]) [] rfl ?_; intro w9 hown9 hgrow9)
          go_roundw
          case rel =>
            refine ⟨j + 1, by omega, by go_num, ⟨⟨HX1.out.os ▸ hgrow9.os, HX1.out.tape ▸ hgrow9.tape, HX1.out.output ▸ hgrow9.output, Nat.le_trans HX1.out.size hgrow9.size, fun g hg => (hgrow9.block g (Nat.lt_of_lt_of_le hg HX1.out.size) (by simp; omega)).trans (HX1.out.block g hg)⟩, Nat.le_trans x2 hgrow9.size, fun g hg hne => (hgrow9.block g (by omega) (by simpa using hne)).trans (HX3.out g hg hne), ?_⟩⟩
            rw [HFS.out]
            exact hown9
          case measure => first | (simp [intOf]; done) | (simp [intOf]; omega)
        · have htk : nm.take j = nm := List.take_of_length_le (by have := HL.out; omega)
          rw [htk] at HX4
          go_wp2_with fail
          go_roundw
          case rel => exact ⟨k + 1, by omega, by go_num, ⟨HX1.out, by omega, y0, y1, by rw [HSD.out]; exact HX4.out.mono (by omega)⟩⟩
          case measure => first | (simp [intOf]; done) | (simp [intOf]; omega)
    · obtain rfl : k = 8 := by omega
      go_wp2_with fail
      go_ret
      exact ⟨rfl, HI.out.1, HI.out.2.1, HI.out.2.2.1, HI.out.2.2.2.1, HI.out.2.2.2.2⟩
end Go.Proofs.YtbcmpacmoofdkaaGreatDoor
