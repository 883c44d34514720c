/- Copies of strings and of numbers. -/
import Derived.Test.YtbcmpacmoofdkaaGreatDoorProg
import Derived.Test.YtbcmpacmoofdkaaGreatDoorShelf
import Derived.Test.YtbcmpacmoofdkaaGreatDoorTree7
import Derived.WalkKit
import Derived.ProofKit
import Derived.OpenShut
import Derived.Below
import Derived.WalkLawsBesides
import Derived.OwnWalk
import Derived.Laws.OwnMore
import Derived.Laws.AppendOwn
import Derived.WalkSmall
import Derived.Deep.DeepCutAuto
import Derived.Test.YtbcmpacmoofdkaaGreatDoorTree9
import Derived.Test.YtbcmpacmoofdkaaGreatDoorTree4
import Derived.Laws.Rows
import Derived.BigQuiet
import Derived.Deep.MidRow
import Derived.Deep.RegionHeld
import Derived.Deep.RegionHeld3
import Derived.Deep.AppendLies
import Derived.Deep.RegionHeldLaw
import Derived.Deep.RegionLaw
namespace Go.Proofs.YtbcmpacmoofdkaaGreatDoor
open Go.ChangeShapes Go.WideShapes Go.ChangeAt Go.RowKit

theorem cloneS_any (s : ByteArray) (w : World) (hs : s.size ≤ 281474976710656) : Calls Tryz.prog 89 #[.string s] w fun e w' => e = .returned (.string s) ∧ Below w.heap.size w w' := by
  go_enter Tryz.func89, Tryz.ntmps89
  go_wp2_with (go_at_call 110; refine (Tryz.stringslite_Clone _ _ hs).mono ?_; rintro e w1 ⟨rfl, g1⟩)
  go_ret
  exact ⟨rfl, g1⟩
def intCellsI (l : List Int) : List Value := l.map fun x => Value.int .i64 x

set_option maxRecDepth 100000 in
set_option maxHeartbeats 8000000 in
theorem cloneI_any (kv : Value) (ks : List Int) (w : World) (h : RdI w.heap.size w kv ks) (hnil : ks = [] → kv = .slice none 0 0) (hn : ks.length ≤ 1000000) :
    Calls Tryz.prog 170 #[kv] w fun e w' => ∃ v', e = .returned v' ∧ w'.ownsRow w.heap.size 3 1 v' ks.length (intCellsI ks) ∧ Below w.heap.size w w' := by
  obtain ⟨i0, hi, hz0, hz1, hz2⟩ := info_parts infoInt
  by_cases h0 : ks = []
  · rw [hnil h0]
    subst h0
    clear h hnil
    have hq : ∀ W, (binOp BinOp.eql 28 (.slice none 0 0) (.slice none 0 0)).run Tryz.prog W = .ok (.bool true) W := fun W => by kernel_rfl
    go_enter Tryz.func170, Tryz.ntmps170
    go_wp2
    go_ret
    exact ⟨_, rfl, World.ownsRow_nil _ _ _ _, Below.refl _ _⟩
  · obtain ⟨ao, cap, rfl, hm, hc⟩ := h
    obtain ⟨L, hL⟩ : ∃ L, ks.length = L := ⟨_, rfl⟩
    have hL0 : 0 < L := by
      rw [← hL]
      cases ks with
      | nil => exact absurd rfl h0
      | cons x r => simp
    obtain ⟨a, ea, hab, _⟩ := hc 0 (by omega)
    subst ea
    have HCc : Hid' (∀ j u, (intCellsI ks)[j]? = some u → w.cell? (a.add j) = some u) := by
      refine ⟨fun j u hu => ?_⟩
      have hj : j < ks.length := by
        rcases Nat.lt_or_ge j ks.length with x | x
        · exact x
        · rw [List.getElem?_eq_none (by simp [intCellsI]; exact x)] at hu; cases hu
      obtain ⟨a2, e2, _, hx⟩ := hc j hj
      have : a = a2 := by injection e2
      subst this
      rw [hx]
      simp [intCellsI, List.getD_eq_getElem?_getD, hj] at hu ⊢
      exact hu
    have HON : Hid' (∀ u ∈ intCellsI ks, u.oneCell' = true) := ⟨fun u hu => by obtain ⟨x, _, rfl⟩ := List.mem_map.1 hu; rfl⟩
    have HLC : Hid' ((intCellsI ks).length = L) := ⟨by simp [intCellsI, hL]⟩
    rw [hL] at hn ⊢
    rw [hL] at hm
    generalize intCellsI ks = XS at *
    clear hc hnil h0 hL
    have hq : ∀ W, (binOp BinOp.eql 28 (.slice (some a) L cap) (.slice none 0 0)).run Tryz.prog W = .ok (.bool false) W := fun W => by kernel_rfl
    go_enter Tryz.func170, Tryz.ntmps170
    go_upto_region 3 with fail
    have O0 : (w.alloc (.cells #[] 3)).ownsRow w.heap.size 3 1 (.slice (some ⟨w.heap.size, 0, none⟩) 0 0) 0 [] := World.ownsRow_lit w #[] 0 (Nat.le_refl _) (by unfold maxLen; omega) rfl
    have HO0 := hide' O0
    clear O0
    have HC2 : Hid' (∀ j u, XS[j]? = some u → (w.alloc (.cells #[] 3)).cell? (a.add j) = some u) := ⟨fun j u hu => by rw [((Below.refl w.heap.size w).alloc (Nat.le_refl _) _).cell (p := a.add j) (by rw [addBlock]; exact hab)]; exact HCc.out j u hu⟩
    go_wp2_with (at_builtin; refine wpList_append_own _ rfl _ _ 28 rfl w.heap.size 3 i0 (.int .i64 0) 1 8 Tryz.underlying28 hi hz0 hz1 hz2 rfl (by decide) _ _ _ rfl HO0.out a L cap XS rfl (by rw [HLC.out, Nat.mul_one]) HC2.out HON.out (by unfold maxLen; omega) (by omega) (by simp) ?_; intro v4 w4 o4 gr4 _; have H4 := hide' o4; clear o4)
    go_ret
    refine ⟨_, rfl, ?_, ?_⟩
    · have h := H4.out
      rw [Nat.zero_add, List.nil_append] at h
      exact h
    · exact ((Below.refl _ _).alloc (Nat.le_refl _) _).grown gr4 (by simp) (fun j hj => (HO0.out.lt j hj).1)
end Go.Proofs.YtbcmpacmoofdkaaGreatDoor
/- The parser's nodes, and how one is put. -/
namespace Go.Proofs.YtbcmpacmoofdkaaGreatDoor
open Go.ChangeShapes Go.WideShapes Go.ChangeAt Go.RowKit

/-- The cells of nodes without a path, their kids' slices given. -/
def nodCells : List Nod → List Value → List Value
  | t :: r, k :: ks => .int .i64 t.kind :: .string ⟨t.text.toArray⟩ :: .slice none 0 0 :: k :: .int .i64 t.line :: .int .i64 t.column :: nodCells r ks
  | _, _ => []
/-- A node's kids, in a block that no call of the parser's writes. -/
def RdK (b : Nat) (w : World) (kv : Value) (ks : List Int) : Prop := ∃ ao cap, kv = .slice ao ks.length cap ∧ ks.length ≤ cap ∧ ∀ j, j < ks.length → ∃ g, ao = some ⟨g, 0, none⟩ ∧ Prot b w g ∧ b + 3 ≤ g ∧ w.cell? ⟨g, j, none⟩ = some (.int .i64 (ks.getD j 0))
def KOk (b : Nat) (w : World) : List Nod → List Value → Prop
  | [], [] => True
  | t :: r, k :: ks => (t.path = [] ∧ RdK b w k t.kids) ∧ KOk b w r ks
  | _, _ => False
theorem RdK.rel {b : Nat} {w w' : World} {kv : Value} {ks : List Int} (h : RdK b w kv ks) (r : Rel b w w') : RdK b w' kv ks := by
  obtain ⟨ao, cap, hv, hcl, hc⟩ := h
  refine ⟨ao, cap, hv, hcl, fun j hj => ?_⟩
  obtain ⟨g, ha, hp, hl, hx⟩ := hc j hj
  obtain ⟨h1, h2⟩ := r.rest g hp
  exact ⟨g, ha, h2, hl, by rw [cell_of_block (a := ⟨g, j, none⟩) h1]; exact hx⟩
theorem KOk.rel {b : Nat} {w w' : World} (r : Rel b w w') : ∀ {ns : List Nod} {ks : List Value}, KOk b w ns ks → KOk b w' ns ks
  | [], [], _ => trivial
  | _ :: _, _ :: _, h => ⟨⟨h.1.1, h.1.2.rel r⟩, KOk.rel r h.2⟩
  | [], _ :: _, h => h.elim
  | _ :: _, [], h => h.elim
theorem KOk.snoc {b : Nat} {w : World} {t : Nod} {k : Value} : ∀ {ns : List Nod} {ks : List Value}, KOk b w ns ks → t.path = [] → RdK b w k t.kids → KOk b w (ns ++ [t]) (ks ++ [k])
  | [], [], _, h1, h2 => ⟨⟨h1, h2⟩, trivial⟩
  | _ :: _, _ :: _, h, h1, h2 => ⟨h.1, KOk.snoc h.2 h1 h2⟩
  | [], _ :: _, h, _, _ => h.elim
  | _ :: _, [], h, _, _ => h.elim
theorem KOk.length {b : Nat} {w : World} : ∀ {ns : List Nod} {ks : List Value}, KOk b w ns ks → ks.length = ns.length
  | [], [], _ => rfl
  | _ :: _, _ :: _, h => by rw [List.length_cons, List.length_cons, KOk.length h.2]
  | [], _ :: _, h => h.elim
  | _ :: _, [], h => h.elim
theorem nodCells_snoc {t : Nod} {k : Value} : ∀ {ns : List Nod} {ks : List Value}, ks.length = ns.length → nodCells (ns ++ [t]) (ks ++ [k]) = nodCells ns ks ++ [.int .i64 t.kind, .string ⟨t.text.toArray⟩, .slice none 0 0, k, .int .i64 t.line, .int .i64 t.column]
  | [], [], _ => rfl
  | a :: l, c :: ks, h => by
    have := nodCells_snoc (t := t) (k := k) (ns := l) (ks := ks) (by simpa using h)
    show _ :: _ :: _ :: _ :: _ :: _ :: nodCells (l ++ [t]) (ks ++ [k]) = _
    rw [this]; rfl
  | [], _ :: _, h => by simp at h
  | _ :: _, [], h => by simp at h
/-- The parser with what it has put. -/
structure St (b : Nat) (w : World) (tv : Value) (toks : List ITk) (at' op : Nat) (so : Option Addr) (fx : List UInt8 → Fix) (ns : List Nod) (ds : List Nat) (nv dv : Value) : Prop where
  ps : PS b w tv toks at' op (.pointer so) nv dv
  rn : ∃ kvs, KOk b w ns kvs ∧ w.ownsRow (b + 1) 37 6 nv ns.length (nodCells ns kvs)
  rd : w.ownsRow (b + 1) 3 1 dv ds.length (intCells ds)
  fn : Fnd b w (.pointer so) fx
  ln : ds.length = ns.length
  sm : ns.length ≤ 1000
theorem own_kept {W W' : World} {B e size n : Nat} {v : Value} {xs : List Value} (h : W.ownsRow B e size v n xs) (hb : Below W.heap.size W W') : W'.ownsRow B e size v n xs :=
  h.kept (row := none) ⟨hb.os, hb.tape, hb.output, hb.size, fun k hk _ => hb.block k hk⟩ (Classical.em _)
theorem St.below {b : Nat} {w w' : World} {tv : Value} {toks : List ITk} {at' op : Nat} {so : Option Addr} {fx : List UInt8 → Fix} {ns : List Nod} {ds : List Nat} {nv dv : Value} (h : St b w tv toks at' op so fx ns ds nv dv) (g : Below w.heap.size w w') : St b w' tv toks at' op so fx ns ds nv dv := by
  obtain ⟨kvs, h1, h2⟩ := h.rn
  exact ⟨h.ps.below g h.ps.old, ⟨kvs, h1.rel (Rel.of g h.ps.old), own_kept h2 g⟩, own_kept h.rd g, h.fn.rel (Rel.of g h.ps.old), h.ln, h.sm⟩
theorem ownR_slice {w : World} {B e size n : Nat} {v : Value} {xs : List Value} (h : w.ownsRow B e size v n xs) : ∃ ao cap, v = .slice ao n cap := by
  rcases h.2 with ⟨hv, h0⟩ | ⟨g, cap, cur, hv, _⟩
  · exact ⟨none, 0, by rw [hv, h0]⟩
  · exact ⟨_, _, hv⟩
theorem rows_apart {w : World} {B B' e e' s s' n n' : Nat} {v v' : Value} {xs xs' : List Value} (h : w.ownsRow B e s v n xs) (h' : w.ownsRow B' e' s' v' n' xs') (hne : e ≠ e') : ∀ g, v.ownBlock = some g → v'.ownBlock ≠ some g := by
  intro g hg hg'
  rcases h.2 with ⟨h1, _⟩ | ⟨b1, cap1, cur1, h1, _, hw1, _⟩
  · rw [h1] at hg; cases hg
  · rcases h'.2 with ⟨h2, _⟩ | ⟨b2, cap2, cur2, h2, _, hw2, _⟩
    · rw [h2] at hg'; cases hg'
    · rw [h1] at hg
      rw [h2] at hg'
      have x1 : b1 = g := by simpa [Value.ownBlock] using hg
      have x2 : b2 = g := by simpa [Value.ownBlock] using hg'
      subst x1 x2
      rw [hw1] at hw2
      injection hw2 with hw3
      injection hw3 with _ h9
      exact hne h9
theorem row_keep {w w' : World} {B e size n : Nat} {v : Value} {xs : List Value} (h : w.ownsRow B e size v n xs) (hk : ∀ g, v.ownBlock = some g → w'.heap[g]? = w.heap[g]?) : w'.ownsRow B e size v n xs := by
  refine ⟨h.1, ?_⟩
  rcases h.2 with h0 | ⟨g, cap, cur, hv, hg, hw, hr⟩
  · exact .inl h0
  · exact .inr ⟨g, cap, cur, hv, hg, by rw [hk g (by rw [hv]; rfl)]; exact hw, hr⟩
theorem six_end {w1 : World} {T : Nat} {u0 u1 u2 u3 u4 u5 v0 v1 v2 v3 v4 v5 : Value} (c0 : w1.cell? ⟨T, 0, none⟩ = some u0) (c1 : w1.cell? ⟨T, 1, none⟩ = some u1) (c2 : w1.cell? ⟨T, 2, none⟩ = some u2) (c3 : w1.cell? ⟨T, 3, none⟩ = some u3) (c4 : w1.cell? ⟨T, 4, none⟩ = some u4) (c5 : w1.cell? ⟨T, 5, none⟩ = some u5)
    (f0 : w1.frozen? ⟨T, 0, none⟩ = false) (f1 : w1.frozen? ⟨T, 1, none⟩ = false) (f2 : w1.frozen? ⟨T, 2, none⟩ = false) (f3 : w1.frozen? ⟨T, 3, none⟩ = false) (f4 : w1.frozen? ⟨T, 4, none⟩ = false) (f5 : w1.frozen? ⟨T, 5, none⟩ = false) :
    (((((((w1.setCell ⟨T, 0, none⟩ v0).setCell ⟨T, 1, none⟩ v1).setCell ⟨T, 2, none⟩ v2).setCell ⟨T, 3, none⟩ v3).setCell ⟨T, 4, none⟩ v4).setCell ⟨T, 5, none⟩ v5).cell? ⟨T, 0, none⟩ = some v0 ∧ ((((((w1.setCell ⟨T, 0, none⟩ v0).setCell ⟨T, 1, none⟩ v1).setCell ⟨T, 2, none⟩ v2).setCell ⟨T, 3, none⟩ v3).setCell ⟨T, 4, none⟩ v4).setCell ⟨T, 5, none⟩ v5).cell? ⟨T, 1, none⟩ = some v1 ∧ ((((((w1.setCell ⟨T, 0, none⟩ v0).setCell ⟨T, 1, none⟩ v1).setCell ⟨T, 2, none⟩ v2).setCell ⟨T, 3, none⟩ v3).setCell ⟨T, 4, none⟩ v4).setCell ⟨T, 5, none⟩ v5).cell? ⟨T, 2, none⟩ = some v2 ∧ ((((((w1.setCell ⟨T, 0, none⟩ v0).setCell ⟨T, 1, none⟩ v1).setCell ⟨T, 2, none⟩ v2).setCell ⟨T, 3, none⟩ v3).setCell ⟨T, 4, none⟩ v4).setCell ⟨T, 5, none⟩ v5).cell? ⟨T, 3, none⟩ = some v3 ∧ ((((((w1.setCell ⟨T, 0, none⟩ v0).setCell ⟨T, 1, none⟩ v1).setCell ⟨T, 2, none⟩ v2).setCell ⟨T, 3, none⟩ v3).setCell ⟨T, 4, none⟩ v4).setCell ⟨T, 5, none⟩ v5).cell? ⟨T, 4, none⟩ = some v4 ∧ ((((((w1.setCell ⟨T, 0, none⟩ v0).setCell ⟨T, 1, none⟩ v1).setCell ⟨T, 2, none⟩ v2).setCell ⟨T, 3, none⟩ v3).setCell ⟨T, 4, none⟩ v4).setCell ⟨T, 5, none⟩ v5).cell? ⟨T, 5, none⟩ = some v5) ∧ ∀ i, i < 6 → ((((((w1.setCell ⟨T, 0, none⟩ v0).setCell ⟨T, 1, none⟩ v1).setCell ⟨T, 2, none⟩ v2).setCell ⟨T, 3, none⟩ v3).setCell ⟨T, 4, none⟩ v4).setCell ⟨T, 5, none⟩ v5).frozen? ⟨T, i, none⟩ = false := by
  have ht : w1.there T 0 [v0, v1, v2, v3, v4, v5].length := by
    intro j hj
    simp only [List.length_cons, List.length_nil] at hj
    match j, hj with
    | 0, _ => exact ⟨by rw [c0]; rfl, f0⟩
    | 1, _ => exact ⟨by rw [c1]; rfl, f1⟩
    | 2, _ => exact ⟨by rw [c2]; rfl, f2⟩
    | 3, _ => exact ⟨by rw [c3]; rfl, f3⟩
    | 4, _ => exact ⟨by rw [c4]; rfl, f4⟩
    | 5, _ => exact ⟨by rw [c5]; rfl, f5⟩
  have hr := World.rangeAt_setCells_same w1 T 0 [v0, v1, v2, v3, v4, v5] ht
  refine ⟨⟨hr 0 v0 rfl, hr 1 v1 rfl, hr 2 v2 rfl, hr 3 v3 rfl, hr 4 v4 rfl, hr 5 v5 rfl⟩, fun i hi => ?_⟩
  simp only [World.frozen?_setCell]
  match i, hi with
  | 0, _ => exact f0
  | 1, _ => exact f1
  | 2, _ => exact f2
  | 3, _ => exact f3
  | 4, _ => exact f4
  | 5, _ => exact f5
theorem six_new (w : World) (v0 v1 v2 v3 v4 v5 : Value) (t : TypeId) :
    ((w.alloc (.cells #[v0, v1, v2, v3, v4, v5] t)).cell? ⟨w.heap.size, 0, none⟩ = some v0 ∧ (w.alloc (.cells #[v0, v1, v2, v3, v4, v5] t)).cell? ⟨w.heap.size, 1, none⟩ = some v1 ∧ (w.alloc (.cells #[v0, v1, v2, v3, v4, v5] t)).cell? ⟨w.heap.size, 2, none⟩ = some v2 ∧ (w.alloc (.cells #[v0, v1, v2, v3, v4, v5] t)).cell? ⟨w.heap.size, 3, none⟩ = some v3 ∧ (w.alloc (.cells #[v0, v1, v2, v3, v4, v5] t)).cell? ⟨w.heap.size, 4, none⟩ = some v4 ∧ (w.alloc (.cells #[v0, v1, v2, v3, v4, v5] t)).cell? ⟨w.heap.size, 5, none⟩ = some v5) ∧ ∀ i, i < 6 → (w.alloc (.cells #[v0, v1, v2, v3, v4, v5] t)).frozen? ⟨w.heap.size, i, none⟩ = false := by
  refine ⟨⟨by simp, by simp, by simp, by simp, by simp, by simp⟩, fun i _ => by simp⟩
theorem own_set6 {w1 : World} {T B e size n : Nat} {v : Value} {xs : List Value} (h : w1.ownsRow B e size v n xs) (hT : T < B) (v0 v1 v2 v3 v4 v5 : Value) : ((((((w1.setCell ⟨T, 0, none⟩ v0).setCell ⟨T, 1, none⟩ v1).setCell ⟨T, 2, none⟩ v2).setCell ⟨T, 3, none⟩ v3).setCell ⟨T, 4, none⟩ v4).setCell ⟨T, 5, none⟩ v5).ownsRow B e size v n xs :=
  ownsRow_setCell_below (ownsRow_setCell_below (ownsRow_setCell_below (ownsRow_setCell_below (ownsRow_setCell_below (ownsRow_setCell_below h (a := ⟨T, 0, none⟩) hT _) (a := ⟨T, 1, none⟩) hT _) (a := ⟨T, 2, none⟩) hT _) (a := ⟨T, 3, none⟩) hT _) (a := ⟨T, 4, none⟩) hT _) (a := ⟨T, 5, none⟩) hT _
theorem below_set6 {w w1 : World} {B T : Nat} (h : Below B w w1) (hT : B ≤ T) (v0 v1 v2 v3 v4 v5 : Value) : Below B w ((((((w1.setCell ⟨T, 0, none⟩ v0).setCell ⟨T, 1, none⟩ v1).setCell ⟨T, 2, none⟩ v2).setCell ⟨T, 3, none⟩ v3).setCell ⟨T, 4, none⟩ v4).setCell ⟨T, 5, none⟩ v5) :=
  (((((h.setCell (p := ⟨T, 0, none⟩) hT _).setCell (p := ⟨T, 1, none⟩) hT _).setCell (p := ⟨T, 2, none⟩) hT _).setCell (p := ⟨T, 3, none⟩) hT _).setCell (p := ⟨T, 4, none⟩) hT _).setCell (p := ⟨T, 5, none⟩) hT _
theorem row_mono {w : World} {B B' e size n : Nat} {v : Value} {xs : List Value} (h : w.ownsRow B e size v n xs) (hb : B' ≤ B) : w.ownsRow B' e size v n xs := by
  refine ⟨h.1, ?_⟩
  rcases h.2 with h0 | ⟨g, cap, cur, hv, hg, hr⟩
  · exact .inl h0
  · exact .inr ⟨g, cap, cur, hv, Nat.le_trans hb hg, hr⟩
def depM (ds : List Nat) (ks : List Int) : Nat := ks.foldl (fun d k => max d (ds.getD k.toNat 0 + 1)) 1
theorem depM_snoc (ds : List Nat) (ks : List Int) (k : Nat) (h : k < ks.length) : depM ds (ks.take (k + 1)) = max (depM ds (ks.take k)) (ds.getD (ks.getD k 0).toNat 0 + 1) := by
  unfold depM
  rw [List.take_succ_eq_append_getElem h, List.foldl_append]
  simp [List.getD_eq_getElem?_getD, h]
theorem infoNode : (Tryz.prog.info? 37).map (fun i => (i.zero, i.size, i.bytes)) = some (some (.agg #[.int .i64 0, .string ⟨#[]⟩, .slice none 0 0, .slice none 0 0, .int .i64 0, .int .i64 0]), 6, 88) := by kernel_rfl

/-- The parser with one node more; its kids' slices are told, the last one lies in a block from base on. -/
def PutK (b : Nat) (w' : World) (tv : Value) (toks : List ITk) (at' op : Nat) (so : Option Addr) (fx : List UInt8 → Fix) (ns : List Nod) (ds : List Nat) (kvs : List Value) (base : Nat) : Prop :=
  ∃ nv' dv' kv, St b w' tv toks at' op so fx ns ds nv' dv' ∧ KOk b w' ns (kvs ++ [kv]) ∧ w'.ownsRow (b + 1) 37 6 nv' ns.length (nodCells ns (kvs ++ [kv])) ∧ (∀ g, kv.ownBlock = some g → base ≤ g)

set_option maxRecDepth 100000 in
set_option maxHeartbeats 16000000 in
theorem putNamed_k (b : Nat) (tv : Value) (toks : List ITk) (at' op : Nat) (so : Option Addr) (fx : List UInt8 → Fix) (ns : List Nod) (ds : List Nat) (nv dv : Value) (w : World) (h : St b w tv toks at' op so fx ns ds nv dv) (kvs : List Value) (hko : KOk b w ns kvs) (hro : w.ownsRow (b + 1) 37 6 nv ns.length (nodCells ns kvs))
    (t : ITk) (ht : t.path = []) (htl : t.text.length ≤ 1048576) (line col kind : Int) (kv : Value) (ks : List Int) (hk : RdI w.heap.size w kv ks) (hnil : ks = [] → kv = .slice none 0 0) (hkl : ks.length ≤ 1000) (hks : ∀ j, j < ks.length → 0 ≤ ks.getD j 0 ∧ ks.getD j 0 < (ds.length : Int)) (hdep : depM ds ks ≤ 1000) (hds : ∀ j, j < ds.length → ds.getD j 0 ≤ 1000) (hcap : ns.length + 1 ≤ 1000) :
    Calls Tryz.prog 142 #[.pointer (some ⟨b, 0, none⟩), .agg #[.int .i64 line, .int .i64 col], .int .i64 kind, t.val, kv] w fun e w' => e = .returned (.int .i64 (ns.length : Int)) ∧ PutK b w' tv toks at' op so fx (ns ++ [⟨kind, t.text, [], ks, line, col⟩]) (ds ++ [depM ds ks]) kvs w.heap.size ∧ Rel b w w' := by
  have HKO0 := hide' hko
  have HRO0 := hide' hro
  obtain ⟨i0, hi, hz0, hz1, hz2⟩ := info_parts infoInt
  obtain ⟨j0, hj, jz0, jz1, jz2⟩ := info_parts infoNode
  have hold := h.ps.old
  have hold3 := h.ps.old3
  obtain ⟨tk, tt, tp, tx, ty, po, pc, tl⟩ := t
  simp only at ht htl
  subst ht
  unfold ITk.val ITk.pv
  simp only [List.length_nil]
  obtain ⟨z, hz⟩ : ∃ z : ByteArray, ByteArray.mk tt.toArray = z := ⟨_, rfl⟩
  rw [hz]
  have HZ := hide' hz
  have hzs : z.size ≤ 1048576 := by rw [← hz]; simpa [ByteArray.size] using htl
  -- the two boxes
  obtain ⟨W2, hW2⟩ : ∃ W2, (w.alloc (.cells #[.int .i64 line, .int .i64 col] 82)).alloc (.cells #[.int .i64 tk, .string z, .slice po 0 pc, .int .i64 tx, .int .i64 ty] 72) = W2 := ⟨_, rfl⟩
  have B2 : Below w.heap.size w W2 := by rw [← hW2]; exact ((Below.refl _ _).alloc (Nat.le_refl _) _).alloc (by simp) _
  have S2 : W2.heap.size = w.heap.size + 2 := by rw [← hW2]; simp
  have p0 : W2.cell? ⟨w.heap.size, 0, none⟩ = some (.int .i64 line) := by rw [← hW2]; simp
  have p1 : W2.cell? ⟨w.heap.size, 1, none⟩ = some (.int .i64 col) := by rw [← hW2]; simp
  have q1 : W2.cell? ⟨w.heap.size + 1, 1, none⟩ = some (.string z) := by rw [← hW2]; simp
  have q2 : W2.cell? ⟨w.heap.size + 1, 2, none⟩ = some (.slice po 0 pc) := by rw [← hW2]; simp
  have HS2 := hide' (h.below B2)
  have HB2 := hide' B2
  have HK2 := hide' (rdI_below hk B2)
  obtain ⟨ko, kc, hkv, hkm, hkc⟩ := HK2.out
  have HKC := hide' hkc
  obtain ⟨L, hL⟩ : ∃ L, ks.length = L := ⟨_, rfl⟩
  have HL := hide' hL
  have HKS := hide' hks
  have HNIL := hide' hnil
  obtain ⟨N, hN⟩ : ∃ N, ns.length = N := ⟨_, rfl⟩
  have HN := hide' hN
  obtain ⟨do', dc, hdv⟩ : ∃ ao cap, dv = .slice ao ds.length cap := ownI_slice (show OwnI (b + 1) dv ds w from h.rd)
  obtain ⟨D, hD⟩ : ∃ D, ds.length = D := ⟨_, rfl⟩
  have hDN : Hid' (D = N) := ⟨by rw [← hD, ← hN]; exact h.ln⟩
  have c4 := HS2.out.ps.c4
  have c5 := HS2.out.ps.c5
  rw [hdv, hD] at c5
  have HDV : Hid' (dv = .slice do' D dc) := ⟨by rw [hdv, hD]⟩
  have HDL : Hid' (ds.length = D) := ⟨hD⟩
  have HDS : Hid' (∀ j, j < D → ∃ g, do' = some ⟨g, 0, none⟩ ∧ W2.cell? ⟨g, j, none⟩ = some (.int .i64 (ds.getD j 0 : Nat))) := by
    refine ⟨fun j hj2 => ?_⟩
    have r := HS2.out.rd
    rw [hdv, hD] at r
    rcases r.2 with ⟨hv, h0⟩ | ⟨g, cap, cur, hv, _⟩
    · omega
    · injection hv with e1 e2 e3
      subst e1
      refine ⟨g, rfl, ?_⟩
      rw [r.cellAt j (by omega)]
      simp [intCells, List.getD_eq_getElem?_getD, hD, hj2]
  have HDB := hide' hds
  obtain ⟨noo, nc, hnv⟩ : ∃ ao cap, nv = .slice ao N cap := by
    obtain ⟨kvs, _, r⟩ := h.rn
    rcases r.2 with ⟨hv, h0⟩ | ⟨g, cap, cur, hv, _⟩
    · exact ⟨none, 0, by rw [hv, ← hN, h0]⟩
    · exact ⟨_, _, by rw [hv, hN]⟩
  rw [hnv] at c4
  rw [hkv, hL]
  rw [hN]
  rw [hL] at hkl hkm
  rw [hN] at hcap
  have HDEP := hide' hdep
  have HK3 : Hid' (RdI w.heap.size W2 (.slice ko ks.length kc) ks) := ⟨by rw [← hkv]; exact HK2.out⟩
  have HNIL3 : Hid' (ks = [] → Value.slice ko ks.length kc = .slice none 0 0) := ⟨by rw [← hkv]; exact hnil⟩
  clear h hk hkv hkc hks hnil hdep hds hL hz B2 hdv hD hN hko hro
  go_enter Tryz.func142, Tryz.ntmps142
  go_upto_region 3 with fail
  try rw [hW2]
  clear hW2
  go_loopw [11, 19] (fun vd vi wr => ∃ (k d : Nat), vi = .int .i64 (k : Int) ∧ vd = .int .i64 (d : Int) ∧ k ≤ L ∧ d ≤ 1001 ∧ Hid' (d = depM ds (ks.take k)) ∧ wr = W2) (fun _ vi _ => L - (intOf vi).toNat)
  case atStart => exact ⟨0, 1, rfl, rfl, Nat.zero_le _, by decide, ⟨rfl⟩, rfl⟩
  case round =>
    obtain ⟨k, d, rfl, rfl, hkL, hd, HI, hww⟩ := hrel
    subst hww
    by_cases h1 : k < L
    · obtain ⟨a, ea, hab, hcell⟩ := HKC.out k (by have := HL.out; omega)
      subst ea
      obtain ⟨hx0, hx1⟩ := HKS.out k (by have := HL.out; omega)
      have HDM := hide' (depM_snoc ds ks k (by have := HL.out; omega))
      generalize ks.getD k 0 = x at *
      obtain ⟨q, rfl⟩ : ∃ q : Nat, x = (q : Int) := ⟨x.toNat, by omega⟩
      obtain ⟨g, eg, hdc⟩ := HDS.out q (by have := HS2.out.ln; have := HN.out; have := hDN.out; omega)
      subst eg
      have hdq := HDB.out q (by omega)
      have hqD : q < D := by have := HS2.out.ln; have := HN.out; have := hDN.out; omega
      rw [Int.toNat_natCast] at HDM
      generalize ds.getD q 0 = dq at *
      clear hx0 hx1
      go_wp2
      go_roundw
      case rel => exact ⟨k + 1, max d (dq + 1), by go_num, by congr 1; first | omega | (split <;> omega), by omega, by omega, ⟨by rw [HDM.out, HI.out]⟩, by first | rfl | trivial⟩
      case measure => first | (simp [intOf]; done) | (simp [intOf]; omega)
    · have htk : ks.take k = ks := List.take_of_length_le (by have := HL.out; omega)
      rw [htk] at HI
      have hd1 : d ≤ 1000 := by rw [HI.out]; exact HDEP.out
      have hkl2 : decide ((k : Int) < (L : Int)) = false := by simp; omega
      have hd2 : decide ((1000 : Int) < (d : Int)) = false := by simp; omega
      have hNm : ((N : Int) == 262144) = false := by simp; omega
      clear htk
      go_upto_region 11 with fail
      have HNIL2 : Hid' (ks = [] → Value.slice ko L kc = .slice none 0 0) := ⟨by rw [← HL.out]; exact HNIL3.out⟩
      go_cut [14] (fun vp wx => ∃ (T : Nat) (vo : Option Addr) (vc : Nat), vp = .pointer (some ⟨T, 0, none⟩) ∧ Hid' ((wx.cell? ⟨T, 0, none⟩ = some (.int .i64 kind) ∧ wx.cell? ⟨T, 1, none⟩ = some (.string z) ∧ wx.cell? ⟨T, 2, none⟩ = some (.slice none 0 0) ∧ wx.cell? ⟨T, 3, none⟩ = some (.slice vo L vc) ∧ wx.cell? ⟨T, 4, none⟩ = some (.int .i64 line) ∧ wx.cell? ⟨T, 5, none⟩ = some (.int .i64 col)) ∧ (∀ i, i < 6 → wx.frozen? ⟨T, i, none⟩ = false)) ∧ Hid' (wx.ownsRow wr.heap.size 3 1 (.slice vo L vc) L (intCellsI ks)) ∧ Below wr.heap.size wr wx ∧ wr.heap.size ≤ T ∧ T < wx.heap.size ∧ (Value.slice vo L vc).ownBlock ≠ some T)
      case first =>
        go_region_held3 (fun w' => w'.cell? ⟨w.heap.size, 0, none⟩ = some (.int .i64 line) ∧ w'.cell? ⟨w.heap.size, 1, none⟩ = some (.int .i64 col) ∧ w'.cell? ⟨w.heap.size + 1, 1, none⟩ = some (.string z)) (go_keep) (first
          | (go_at_call 89; refine (cloneS_any z _ (by omega)).mono ?_; rintro e w3 ⟨rfl, b3⟩; (have BW3 : Below wr.heap.size wr w3 := by first | exact (Below.refl _ _).drew.trans b3 | exact (((Below.refl _ _).alloc (Nat.le_refl _) _).drew).trans (b3.mono (by simp)) | exact (((Below.refl _ _).drew).alloc (Nat.le_refl _) _).trans (b3.mono (by simp))); have m0 := (BW3.cell (p := ⟨w.heap.size, 0, none⟩) (show w.heap.size < _ by omega)).trans p0; have m1 := (BW3.cell (p := ⟨w.heap.size, 1, none⟩) (show w.heap.size < _ by omega)).trans p1; have m2 := (BW3.cell (p := ⟨w.heap.size + 1, 1, none⟩) (show w.heap.size + 1 < _ by omega)).trans q1; (have s3 := BW3.size); (have s3b := b3.size); (try simp at s3b); (have n3 : ¬ w3.heap.size = w.heap.size := by omega); (have n4 : ¬ w.heap.size = w3.heap.size := by omega); (have BWm := BW3.mono (show w.heap.size ≤ wr.heap.size by omega)); (have hws3 : w.heap.size ≤ w3.heap.size := by omega); (try have ac0 := (b3.cell (p := ⟨w.heap.size + 2, 0, none⟩) (by first | (simp; done) | (simp; omega) | omega)).trans (show _ = some (.int .i64 0) by rw [← S2]; simp)); (try have af0 := (b3.frozen (p := ⟨w.heap.size + 2, 0, none⟩) (by first | (simp; done) | (simp; omega) | omega)).trans (show _ = false by rw [← S2]; simp)); (try have ac1 := (b3.cell (p := ⟨w.heap.size + 2, 1, none⟩) (by first | (simp; done) | (simp; omega) | omega)).trans (show _ = some (.string ⟨#[]⟩) by rw [← S2]; simp)); (try have af1 := (b3.frozen (p := ⟨w.heap.size + 2, 1, none⟩) (by first | (simp; done) | (simp; omega) | omega)).trans (show _ = false by rw [← S2]; simp)); (try have ac2 := (b3.cell (p := ⟨w.heap.size + 2, 2, none⟩) (by first | (simp; done) | (simp; omega) | omega)).trans (show _ = some (.slice none 0 0) by rw [← S2]; simp)); (try have af2 := (b3.frozen (p := ⟨w.heap.size + 2, 2, none⟩) (by first | (simp; done) | (simp; omega) | omega)).trans (show _ = false by rw [← S2]; simp)); (try have ac3 := (b3.cell (p := ⟨w.heap.size + 2, 3, none⟩) (by first | (simp; done) | (simp; omega) | omega)).trans (show _ = some (.slice none 0 0) by rw [← S2]; simp)); (try have af3 := (b3.frozen (p := ⟨w.heap.size + 2, 3, none⟩) (by first | (simp; done) | (simp; omega) | omega)).trans (show _ = false by rw [← S2]; simp)); (try have ac4 := (b3.cell (p := ⟨w.heap.size + 2, 4, none⟩) (by first | (simp; done) | (simp; omega) | omega)).trans (show _ = some (.int .i64 0) by rw [← S2]; simp)); (try have af4 := (b3.frozen (p := ⟨w.heap.size + 2, 4, none⟩) (by first | (simp; done) | (simp; omega) | omega)).trans (show _ = false by rw [← S2]; simp)); (try have ac5 := (b3.cell (p := ⟨w.heap.size + 2, 5, none⟩) (by first | (simp; done) | (simp; omega) | omega)).trans (show _ = some (.int .i64 0) by rw [← S2]; simp)); (try have af5 := (b3.frozen (p := ⟨w.heap.size + 2, 5, none⟩) (by first | (simp; done) | (simp; omega) | omega)).trans (show _ = false by rw [← S2]; simp)))
          | (go_at_call 170; refine (cloneI_any _ ks _ (by rw [HL.out.symm]; refine rdI_mono (rdI_below HK3.out ?_) ?_; (first | exact BWm | exact BWm.alloc hws3 _); (first | omega | (simp; omega))) HNIL2.out (by rw [HL.out]; omega)).mono ?_; rintro e w5 ⟨v5, rfl, o5, b5⟩; rw [HL.out] at o5; (obtain ⟨vo, vc, hv5⟩ := ownR_slice o5); subst hv5; (have HO5 := hide' o5); (have BW5 : Below wr.heap.size wr w5 := by first | exact BW3.trans (b5.mono (by omega)) | exact (BW3.alloc (by omega) _).trans (b5.mono (by simp; omega))); (have s5 := BW5.size); have l0 := (BW5.cell (p := ⟨w.heap.size, 0, none⟩) (show w.heap.size < _ by omega)).trans p0; have l1 := (BW5.cell (p := ⟨w.heap.size, 1, none⟩) (show w.heap.size < _ by omega)).trans p1; have l2 := (BW5.cell (p := ⟨w.heap.size + 1, 1, none⟩) (show w.heap.size + 1 < _ by omega)).trans q1; (have n5 : ¬ w3.heap.size = w.heap.size + 1 := by omega); (have n6 : ¬ w.heap.size + 1 = w3.heap.size := by omega); (have s5b := b5.size); (try simp at s5b); (try have ec0 := (b5.cell (p := ⟨w.heap.size + 2, 0, none⟩) (by first | (simp; done) | (simp; omega) | omega)).trans (ac0)); (try have ef0 := (b5.frozen (p := ⟨w.heap.size + 2, 0, none⟩) (by first | (simp; done) | (simp; omega) | omega)).trans (af0)); (try have ec1 := (b5.cell (p := ⟨w.heap.size + 2, 1, none⟩) (by first | (simp; done) | (simp; omega) | omega)).trans (ac1)); (try have ef1 := (b5.frozen (p := ⟨w.heap.size + 2, 1, none⟩) (by first | (simp; done) | (simp; omega) | omega)).trans (af1)); (try have ec2 := (b5.cell (p := ⟨w.heap.size + 2, 2, none⟩) (by first | (simp; done) | (simp; omega) | omega)).trans (ac2)); (try have ef2 := (b5.frozen (p := ⟨w.heap.size + 2, 2, none⟩) (by first | (simp; done) | (simp; omega) | omega)).trans (af2)); (try have ec3 := (b5.cell (p := ⟨w.heap.size + 2, 3, none⟩) (by first | (simp; done) | (simp; omega) | omega)).trans (ac3)); (try have ef3 := (b5.frozen (p := ⟨w.heap.size + 2, 3, none⟩) (by first | (simp; done) | (simp; omega) | omega)).trans (af3)); (try have ec4 := (b5.cell (p := ⟨w.heap.size + 2, 4, none⟩) (by first | (simp; done) | (simp; omega) | omega)).trans (ac4)); (try have ef4 := (b5.frozen (p := ⟨w.heap.size + 2, 4, none⟩) (by first | (simp; done) | (simp; omega) | omega)).trans (af4)); (try have ec5 := (b5.cell (p := ⟨w.heap.size + 2, 5, none⟩) (by first | (simp; done) | (simp; omega) | omega)).trans (ac5)); (try have ef5 := (b5.frozen (p := ⟨w.heap.size + 2, 5, none⟩) (by first | (simp; done) | (simp; omega) | omega)).trans (af5)); (try have gc0 := (b5.cell (p := ⟨w3.heap.size, 0, none⟩) (by first | (simp; done) | (simp; omega) | omega)).trans (show _ = some (.int .i64 0) by simp)); (try have gf0 := (b5.frozen (p := ⟨w3.heap.size, 0, none⟩) (by first | (simp; done) | (simp; omega) | omega)).trans (show _ = false by simp)); (try have gc1 := (b5.cell (p := ⟨w3.heap.size, 1, none⟩) (by first | (simp; done) | (simp; omega) | omega)).trans (show _ = some (.string ⟨#[]⟩) by simp)); (try have gf1 := (b5.frozen (p := ⟨w3.heap.size, 1, none⟩) (by first | (simp; done) | (simp; omega) | omega)).trans (show _ = false by simp)); (try have gc2 := (b5.cell (p := ⟨w3.heap.size, 2, none⟩) (by first | (simp; done) | (simp; omega) | omega)).trans (show _ = some (.slice none 0 0) by simp)); (try have gf2 := (b5.frozen (p := ⟨w3.heap.size, 2, none⟩) (by first | (simp; done) | (simp; omega) | omega)).trans (show _ = false by simp)); (try have gc3 := (b5.cell (p := ⟨w3.heap.size, 3, none⟩) (by first | (simp; done) | (simp; omega) | omega)).trans (show _ = some (.slice none 0 0) by simp)); (try have gf3 := (b5.frozen (p := ⟨w3.heap.size, 3, none⟩) (by first | (simp; done) | (simp; omega) | omega)).trans (show _ = false by simp)); (try have gc4 := (b5.cell (p := ⟨w3.heap.size, 4, none⟩) (by first | (simp; done) | (simp; omega) | omega)).trans (show _ = some (.int .i64 0) by simp)); (try have gf4 := (b5.frozen (p := ⟨w3.heap.size, 4, none⟩) (by first | (simp; done) | (simp; omega) | omega)).trans (show _ = false by simp)); (try have gc5 := (b5.cell (p := ⟨w3.heap.size, 5, none⟩) (by first | (simp; done) | (simp; omega) | omega)).trans (show _ = some (.int .i64 0) by simp)); (try have gf5 := (b5.frozen (p := ⟨w3.heap.size, 5, none⟩) (by first | (simp; done) | (simp; omega) | omega)).trans (show _ = false by simp))))
        · go_wp2_with fail
          go_meet
          have hne : (Value.slice vo L vc).ownBlock ≠ some w5.heap.size := fun hg => by have := (HO5.out.lt _ hg).2; omega
          have hro := row_mono (B' := wr.heap.size) (HO5.out.alloc (.cells #[.int .i64 kind, .string z, .slice none 0 0, .slice vo L vc, .int .i64 line, .int .i64 col] 37)) (by omega)
          exact ⟨w5.heap.size, vo, vc, rfl, ⟨six_new w5 _ _ _ _ _ _ _⟩, ⟨hro⟩, BW5.alloc s5 _, s5, by simp, hne⟩
        · go_wp2_with fail
          go_meet
          have hB : (w3.alloc (.cells #[.int .i64 0, .string ⟨#[]⟩, .slice none 0 0, .slice none 0 0, .int .i64 0, .int .i64 0] 37)).heap.size = w3.heap.size + 1 := by simp
          have hne : (Value.slice vo L vc).ownBlock ≠ some w3.heap.size := fun hg => by have := (HO5.out.lt _ hg).1; omega
          have hT : w3.heap.size < w5.heap.size := by have := b5.size; omega
          have hro := row_mono (B' := wr.heap.size) (own_set6 (T := w3.heap.size) HO5.out (by omega) (.int .i64 kind) (.string z) (.slice none 0 0) (.slice vo L vc) (.int .i64 line) (.int .i64 col)) (by omega)
          exact ⟨w3.heap.size, vo, vc, rfl, ⟨six_end gc0 gc1 gc2 gc3 gc4 gc5 gf0 gf1 gf2 gf3 gf4 gf5⟩, ⟨hro⟩, below_set6 BW5 s3 _ _ _ _ _ _, s3, by simpa using hT, hne⟩
        · go_wp2_with fail
          go_meet
          have hne : (Value.slice vo L vc).ownBlock ≠ some (w.heap.size + 2) := fun hg => by have := (HO5.out.lt _ hg).1; omega
          have hro := row_mono (B' := wr.heap.size) (own_set6 (T := w.heap.size + 2) HO5.out (by omega) (.int .i64 kind) (.string z) (.slice none 0 0) (.slice vo L vc) (.int .i64 line) (.int .i64 col)) (by omega)
          exact ⟨w.heap.size + 2, vo, vc, rfl, ⟨six_end ec0 ec1 ec2 ec3 ec4 ec5 ef0 ef1 ef2 ef3 ef4 ef5⟩, ⟨hro⟩, below_set6 BW5 (by omega) _ _ _ _ _ _, by omega, by simp; omega, hne⟩
      case rest =>
        obtain ⟨T, vo, vc, rfl, HC6, HOW, bel, hT1, hT2, hne⟩ := hcut
        have HSc := hide' (HS2.out.below bel)
        have c4c := HSc.out.ps.c4
        rw [hnv] at c4c
        have f4c := HSc.out.ps.f4
        have q2c := (bel.cell (p := ⟨w.heap.size + 1, 2, none⟩) (show w.heap.size + 1 < _ by omega)).trans q2
        obtain ⟨⟨t0, t1, t2, t3, t4, t5⟩, tf⟩ := HC6.out
        have HG : Hid' (∀ g, (Value.slice noo N nc).ownBlock = some g → some b ≠ some g ∧ some T ≠ some g) := by
          refine ⟨fun g hg => ?_⟩
          obtain ⟨kvs, _, r⟩ := HS2.out.rn
          rw [hnv] at r
          have := r.lt g hg
          exact ⟨by simp; omega, by simp; omega⟩
        have HGb : Hid' (some b ≠ (Value.slice noo N nc).ownBlock) := ⟨fun e => (HG.out b e.symm).1 rfl⟩
        have HGT : Hid' (some T ≠ (Value.slice noo N nc).ownBlock) := ⟨fun e => (HG.out T e.symm).2 rfl⟩
        clear c4 c5 p0 p1 q1 q2
        go_wp2
        go_loopw [62] (fun vi w9 => vi = .int .i64 0 ∧ w9 = wc) (fun _ _ => 0)
        case atStart => exact ⟨rfl, rfl⟩
        case round =>
          obtain ⟨rfl, hw9⟩ := hrel
          obtain rfl : wc = _ := hw9.symm
          go_upto_region 17 with fail
          have hkok : KOk b wc ns kvs := (HKO0.out.rel (Rel.of HB2.out hold)).rel (Rel.of bel (Nat.lt_of_lt_of_le hold HB2.out.size))
          have hnrow := own_kept (own_kept HRO0.out HB2.out) bel
          rw [HN.out, hnv] at hnrow
          have HKO := hide' hkok
          have HNR := hide' hnrow
          have hbl : b < wc.heap.size := HSc.out.ps.old
          have hTb : ¬ T = b := by omega
          have hbT : ¬ b = T := by omega
          have hbc : ¬ b = wc.heap.size := by omega
          have hcb : ¬ wc.heap.size = b := by omega
          have hTc : ¬ T = wc.heap.size := by omega
          have hcT : ¬ wc.heap.size = T := by omega
          clear hkok hnrow
          obtain ⟨wm, rfl⟩ : ∃ wm, wm = wc := ⟨wc, rfl⟩
          have HBN : Hid' (∀ g, (Value.slice noo N nc).ownBlock = some g → b ≤ g) := ⟨fun g hg => Nat.le_of_succ_le (HNR.out.lt g hg).1⟩
          go_cut [11] (fun vd wx => vd = .int .i64 (d : Int) ∧ ∃ (g6 cap6 : Nat), Hid' (wx.cell? ⟨b, 4, none⟩ = some (.slice (some ⟨g6, 0, none⟩) (N + 1) cap6) ∧ wx.frozen? ⟨b, 4, none⟩ = false ∧ wx.ownsRow (b + 1) 37 6 (.slice (some ⟨g6, 0, none⟩) (N + 1) cap6) (N + 1) (nodCells ns kvs ++ [.int .i64 kind, .string z, .slice none 0 0, .slice vo L vc, .int .i64 line, .int .i64 col])) ∧ Hid' (∀ k, k < wm.heap.size → k ≠ b → some k ≠ (Value.slice noo N nc).ownBlock → wx.heap[k]? = wm.heap[k]?) ∧ Hid' (∀ j, j ≠ 4 → wx.cell? ⟨b, j, none⟩ = wm.cell? ⟨b, j, none⟩ ∧ wx.frozen? ⟨b, j, none⟩ = wm.frozen? ⟨b, j, none⟩) ∧ ((Value.slice noo N nc).ownBlock = some g6 ∨ wm.heap.size ≤ g6) ∧ g6 < wx.heap.size ∧ Below b wm wx)
          case first =>
            go_region_law
              ((refine step_append_lies _ (by rfl) _ _ 22 (by rfl) (b + 1) 37 j0 (.agg #[.int .i64 0, .string ⟨#[]⟩, .slice none 0 0, .slice none 0 0, .int .i64 0, .int .i64 0]) 6 88 Tryz.underlying22 hj jz0 jz1 jz2 rfl (by decide) _ _ _ (by rfl) (HNR.out.drew.alloc _) ⟨_, 0, none⟩ 1 1 [.int .i64 kind, .string z, .slice none 0 0, .slice vo L vc, .int .i64 line, .int .i64 col] (by rfl) rfl (cellsNew _ _ _) (by simp [Value.oneCell']) (by decide) (by unfold maxLen; omega) (by omega) (by simp; omega) (wm.heap.size + 1) (by simp) ?_; intro g6 cap6 w6 hown6 hgrow6 hat6 hlt6; (have e6 : ∀ k, k < wm.heap.size → some k ≠ (Value.slice noo N nc).ownBlock → w6.heap[k]? = wm.heap[k]? := fun k hk hne => (hgrow6.block k (by simp; omega) hne).trans (((Below.refl wm.heap.size wm).drew.alloc (Nat.le_refl _) _).block k hk)); have k6b := (cell_of_block (w := wm) (a := ⟨b, 4, none⟩) (e6 b (by omega) HGb.out)).trans c4c; have k60 := (cell_of_block (w := wm) (a := ⟨T, 0, none⟩) (e6 T (by omega) HGT.out)).trans t0; have k61 := (cell_of_block (w := wm) (a := ⟨T, 1, none⟩) (e6 T (by omega) HGT.out)).trans t1; have k62 := (cell_of_block (w := wm) (a := ⟨T, 2, none⟩) (e6 T (by omega) HGT.out)).trans t2; have k63 := (cell_of_block (w := wm) (a := ⟨T, 3, none⟩) (e6 T (by omega) HGT.out)).trans t3; have k64 := (cell_of_block (w := wm) (a := ⟨T, 4, none⟩) (e6 T (by omega) HGT.out)).trans t4; have k65 := (cell_of_block (w := wm) (a := ⟨T, 5, none⟩) (e6 T (by omega) HGT.out)).trans t5; (have k6f : w6.frozen? ⟨b, 4, none⟩ = false := (World.frozen?_of_block (w := wm) (a := ⟨b, 4, none⟩) (e6 b (by omega) HGb.out)).trans f4c)))
            all_goals (
              go_wp2_with fail
              go_meet
              have BB : Below b wm w6 := ⟨hgrow6.os, hgrow6.tape, hgrow6.output, Nat.le_trans (Nat.le_succ _) (by have := hgrow6.size; simpa using this), fun k hk => e6 k (by omega) (fun e => by have := HBN.out k e.symm; omega)⟩
              refine ⟨rfl, g6, cap6, ⟨World.cell?_setCell_same _ _ _ k6b, by rw [World.frozen?_setCell]; exact k6f, ownsRow_setCell_below hown6 (a := ⟨b, 4, none⟩) (Nat.lt_succ_self b) _⟩, ⟨fun k hk hkb hkn => by rw [Below.heap_setCell _ _ _ _ (by show k ≠ b; exact hkb)]; exact e6 k hk hkn⟩, ⟨fun j hj4 => ⟨?_, ?_⟩⟩, ?_, by simpa using hlt6, BB.setCell (Nat.le_refl _) _⟩
              · rw [World.cell?_setCell_other _ _ _ _ (by simp <;> omega)]; exact cell_of_block (a := ⟨b, j, none⟩) (e6 b (by omega) HGb.out)
              · rw [World.frozen?_setCell]; exact World.frozen?_of_block (a := ⟨b, j, none⟩) (e6 b (by omega) HGb.out)
              · rcases hat6 with x | x
                · exact .inl x
                · exact .inr (by omega))
          case rest =>
            obtain ⟨rfl, g6, cap6, H6, HE6, HJ6, hat6, hlt6, bb6⟩ := hcut
            have hrdm := HSc.out.rd
            rw [HDV.out, HDL.out] at hrdm
            have HAP := hide' (rows_apart HNR.out hrdm (by decide))
            have c5m := HSc.out.ps.c5
            rw [HDV.out] at c5m
            have c5c := ((HJ6.out 5 (by decide)).1).trans c5m
            have f5c := ((HJ6.out 5 (by decide)).2).trans HSc.out.ps.f5
            have c4c := H6.out.1
            have f4c := H6.out.2.1
            have HDB2 : Hid' (∀ g, (Value.slice do' D dc).ownBlock = some g → b < g ∧ g < wr.heap.size) := ⟨fun g hg => by
              have r := HS2.out.rd
              rw [HDV.out] at r
              exact ⟨(r.lt g hg).1, (r.lt g hg).2⟩⟩
            have hwrm := bel.size
            have HDR : Hid' (wc.ownsRow (b + 1) 3 1 (.slice do' D dc) D (intCells ds)) := ⟨row_keep hrdm fun g hg => HE6.out g (by have := (HDB2.out g hg).2; omega) (by have := (HDB2.out g hg).1; omega) (fun e => HAP.out g e.symm hg)⟩
            have hsz6 := bb6.size
            have hDb : D ≤ 1000 := by have h1 := hDN.out; omega
            clear hrdm
            go_wp2_with (at_builtin; refine wpList_append_lies _ rfl _ _ 28 rfl (b + 1) 3 i0 (.int .i64 0) 1 8 Tryz.underlying28 hi hz0 hz1 hz2 rfl (by decide) (.slice do' D dc) D (intCells ds) rfl (HDR.out.alloc _) ⟨_, 0, none⟩ 1 1 [.int .i64 (d : Int)] rfl rfl (cellsNew _ _ _) (by simp [Value.oneCell']) (by decide) (by unfold maxLen; omega) (by omega) (by simp; omega) (wc.heap.size + 1) (by simp) ?_; intro g7 cap7 w7 hown7 hgrow7 hat7 hlt7; (have e7 : ∀ k, k < wc.heap.size → some k ≠ (Value.slice do' D dc).ownBlock → w7.heap[k]? = wc.heap[k]? := fun k hk hne => (hgrow7.block k (by simp; omega) hne).trans (((Below.refl wc.heap.size wc).alloc (Nat.le_refl _) _).block k hk)); (have hbd : some b ≠ (Value.slice do' D dc).ownBlock := fun e => by have := (HDB2.out b e.symm).1; omega); (have k74 := (cell_of_block (w := wc) (a := ⟨b, 4, none⟩) (e7 b (by omega) hbd)).trans c4c); (have k75 := (cell_of_block (w := wc) (a := ⟨b, 5, none⟩) (e7 b (by omega) hbd)).trans c5c); (have k7f := (World.frozen?_of_block (w := wc) (a := ⟨b, 5, none⟩) (e7 b (by omega) hbd)).trans f5c))
            go_ret
            have hDe := hDN.out
            have hb7 : Below b wm (w7.setCell ⟨b, 5, none⟩ (.slice (some ⟨g7, 0, none⟩) (D + 1) cap7)) := by
              refine Below.setCell ?_ (p := ⟨b, 5, none⟩) (Nat.le_refl _) _
              refine bb6.trans ⟨hgrow7.os, hgrow7.tape, hgrow7.output, Nat.le_trans (Nat.le_succ _) (by have := hgrow7.size; simpa using this), fun k hk => e7 k (by omega) (fun e => by have := (HDB2.out k e.symm).1; omega)⟩
            have hsz7 : wc.heap.size + 1 ≤ w7.heap.size := by have := hgrow7.size; simpa using this
            have HB7 : Hid' (∀ k, k < wm.heap.size → k ≠ b → some k ≠ (Value.slice noo N nc).ownBlock → some k ≠ (Value.slice do' D dc).ownBlock → (w7.setCell ⟨b, 5, none⟩ (.slice (some ⟨g7, 0, none⟩) (D + 1) cap7)).heap[k]? = wm.heap[k]?) := ⟨fun k hk hkb hkn hkd => by rw [Below.heap_setCell _ _ _ _ (by show k ≠ b; exact hkb)]; exact (e7 k (by omega) hkd).trans (HE6.out k hk hkb hkn)⟩
            have HC4 : Hid' ((w7.setCell ⟨b, 5, none⟩ (.slice (some ⟨g7, 0, none⟩) (D + 1) cap7)).cell? ⟨b, 4, none⟩ = some (.slice (some ⟨g6, 0, none⟩) (N + 1) cap6)) := ⟨(World.cell?_setCell_other _ _ _ _ (by simp)).trans k74⟩
            have HC5 : Hid' ((w7.setCell ⟨b, 5, none⟩ (.slice (some ⟨g7, 0, none⟩) (D + 1) cap7)).cell? ⟨b, 5, none⟩ = some (.slice (some ⟨g7, 0, none⟩) (D + 1) cap7)) := ⟨World.cell?_setCell_same _ _ _ k75⟩
            have HR7 : Hid' (Rel b wm (w7.setCell ⟨b, 5, none⟩ (.slice (some ⟨g7, 0, none⟩) (D + 1) cap7))) := by
              refine ⟨hb7, fun k hk => ?_⟩
              obtain ⟨hk1, hk2, hk3, hk4⟩ := hk
              have hkn := hk3 _ (by have := HSc.out.ps.c4; rw [hnv] at this; exact this)
              have hkd := hk4 _ c5m
              refine ⟨HB7.out k hk1 hk2 (Ne.symm hkn) (Ne.symm hkd), by simp; omega, hk2, fun v hv => ?_, fun v hv => ?_⟩
              · rw [HC4.out] at hv
                injection hv with hv
                subst hv
                intro e
                have e' : g6 = k := by simpa [Value.ownBlock] using e
                rcases hat6 with x | x
                · exact hkn (by rw [x, e'])
                · omega
              · rw [HC5.out] at hv
                injection hv with hv
                subst hv
                intro e
                have e' : g7 = k := by simpa [Value.ownBlock] using e
                rcases hat7 with x | x
                · exact hkd (by rw [x, e'])
                · omega
            have hg6d : some g6 ≠ (Value.slice do' D dc).ownBlock := fun e => by
              rcases hat6 with x | x
              · exact HAP.out g6 x e.symm
              · have := (HDB2.out g6 e.symm).2; omega
            have HROW : Hid' ((w7.setCell ⟨b, 5, none⟩ (.slice (some ⟨g7, 0, none⟩) (D + 1) cap7)).ownsRow (b + 1) 37 6 (.slice (some ⟨g6, 0, none⟩) (N + 1) cap6) (N + 1) (nodCells ns kvs ++ [.int .i64 kind, .string z, .slice none 0 0, .slice vo L vc, .int .i64 line, .int .i64 col])) := ⟨ownsRow_setCell_below (row_keep H6.out.2.2 fun g hg => by
              have e' : g6 = g := by simpa [Value.ownBlock] using hg
              subst e'
              exact e7 g6 (by omega) hg6d) (a := ⟨b, 5, none⟩) (Nat.lt_succ_self b) _⟩
            have HRK : Hid' (RdK b (w7.setCell ⟨b, 5, none⟩ (.slice (some ⟨g7, 0, none⟩) (D + 1) cap7)) (.slice vo L vc) ks) := by
              refine ⟨vo, vc, by rw [HL.out], ?_, fun j hj => ?_⟩
              · rw [HL.out]
                rcases HOW.out.2 with ⟨_, h0⟩ | ⟨g, cap, cur, hv, _, _, hcl, _⟩
                · omega
                · injection hv with e1 e2 e3
                  subst e3
                  exact hcl
              rw [HL.out] at hj
              rcases HOW.out.2 with ⟨_, h0⟩ | ⟨g, cap, cur, hv, hgb, hw, hr⟩
              · omega
              · injection hv with e1 e2 e3
                subst e1
                have hgl := (HOW.out.lt g rfl).2
                have hpr : Prot b wm g := by
                  refine ⟨hgl, by omega, fun v hv2 => ?_, fun v hv2 => ?_⟩
                  · have h4 := HSc.out.ps.c4
                    rw [hnv] at h4
                    rw [h4] at hv2
                    injection hv2 with hv2
                    subst hv2
                    intro e
                    obtain ⟨_, _, r⟩ := HS2.out.rn
                    rw [hnv] at r
                    have := (r.lt g e).2
                    omega
                  · rw [c5m] at hv2
                    injection hv2 with hv2
                    subst hv2
                    intro e
                    have := (HDB2.out g e).2
                    omega
                obtain ⟨h1, h2⟩ := HR7.out.rest g hpr
                refine ⟨g, rfl, h2, by have := HB2.out.size; omega, ?_⟩
                rw [cell_of_block (a := ⟨g, j, none⟩) h1, HOW.out.cellAt j (by omega)]
                have hj2 : j < ks.length := by have := HL.out; omega
                simp [intCellsI, List.getD_eq_getElem?_getD, hj2]
            have hBW : Below w.heap.size w wm := HB2.out.trans (bel.mono (by omega))
            have HKN := KOk.snoc (t := ⟨kind, tt, [], ks, line, col⟩) (HKO.out.rel HR7.out) rfl HRK.out
            have HRN : (w7.setCell ⟨b, 5, none⟩ (.slice (some ⟨g7, 0, none⟩) (D + 1) cap7)).ownsRow (b + 1) 37 6 (.slice (some ⟨g6, 0, none⟩) (N + 1) cap6) (N + 1) (nodCells (ns ++ [⟨kind, tt, [], ks, line, col⟩]) (kvs ++ [.slice vo L vc])) := by
              rw [nodCells_snoc HKO.out.length]
              have := HROW.out
              rw [← HZ.out] at this
              exact this
            have hwrw : w.heap.size ≤ wr.heap.size := HB2.out.size
            refine ⟨?_, ⟨.slice (some ⟨g6, 0, none⟩) (N + 1) cap6, .slice (some ⟨g7, 0, none⟩) (D + 1) cap7, .slice vo L vc, ⟨?_, ?_, ?_, HSc.out.fn.rel HR7.out, ?_, ?_⟩, HKN, by rw [List.length_append, HN.out]; exact HRN, fun g hg => Nat.le_trans hwrw (HOW.out.lt g hg).1⟩, (Rel.of hBW hold).trans HR7.out⟩
            · first | rfl | (show Ending.returned (.int .i64 _) = _; congr 2; omega)
            · exact ⟨(World.cell?_setCell_other _ _ _ _ (by simp)).trans ((cell_of_block (w := wc) (a := ⟨b, 0, none⟩) (e7 b (by omega) hbd)).trans ((HJ6.out 0 (by decide)).1.trans HSc.out.ps.c0)), (World.cell?_setCell_other _ _ _ _ (by simp)).trans ((cell_of_block (w := wc) (a := ⟨b, 1, none⟩) (e7 b (by omega) hbd)).trans ((HJ6.out 1 (by decide)).1.trans HSc.out.ps.c1)), (World.cell?_setCell_other _ _ _ _ (by simp)).trans ((cell_of_block (w := wc) (a := ⟨b, 2, none⟩) (e7 b (by omega) hbd)).trans ((HJ6.out 2 (by decide)).1.trans HSc.out.ps.c2)), (World.cell?_setCell_other _ _ _ _ (by simp)).trans ((cell_of_block (w := wc) (a := ⟨b, 3, none⟩) (e7 b (by omega) hbd)).trans ((HJ6.out 3 (by decide)).1.trans HSc.out.ps.c3)), HC4.out, HC5.out, by rw [World.frozen?_setCell]; exact (World.frozen?_of_block (w := wc) (a := ⟨b, 1, none⟩) (e7 b (by omega) hbd)).trans ((HJ6.out 1 (by decide)).2.trans HSc.out.ps.f1), by rw [World.frozen?_setCell]; exact (World.frozen?_of_block (w := wc) (a := ⟨b, 2, none⟩) (e7 b (by omega) hbd)).trans ((HJ6.out 2 (by decide)).2.trans HSc.out.ps.f2), by rw [World.frozen?_setCell]; exact (World.frozen?_of_block (w := wc) (a := ⟨b, 3, none⟩) (e7 b (by omega) hbd)).trans ((HJ6.out 3 (by decide)).2.trans HSc.out.ps.f3), by rw [World.frozen?_setCell]; exact (World.frozen?_of_block (w := wc) (a := ⟨b, 4, none⟩) (e7 b (by omega) hbd)).trans H6.out.2.1, by rw [World.frozen?_setCell]; exact k7f, rdTk_below HSc.out.ps.rt hb7, HSc.out.ps.ba, by simp; omega⟩
            · refine ⟨kvs ++ [.slice vo L vc], HKN, ?_⟩
              rw [List.length_append, HN.out]
              exact HRN
            · have h9 := ownsRow_setCell_below hown7 (a := ⟨b, 5, none⟩) (Nat.lt_succ_self b) (.slice (some ⟨g7, 0, none⟩) (D + 1) cap7)
              have e1 : intCells (ds ++ [depM ds ks]) = intCells ds ++ [.int .i64 (d : Int)] := by rw [← HI.out]; simp [intCells]
              rw [e1, List.length_append, HDL.out]
              exact h9
            · rw [List.length_append, List.length_append, HN.out, HDL.out, hDN.out]; rfl
            · rw [List.length_append, HN.out]; exact hcap
theorem putNamed_any (b : Nat) (tv : Value) (toks : List ITk) (at' op : Nat) (so : Option Addr) (fx : List UInt8 → Fix) (ns : List Nod) (ds : List Nat) (nv dv : Value) (w : World) (h : St b w tv toks at' op so fx ns ds nv dv)
    (t : ITk) (ht : t.path = []) (htl : t.text.length ≤ 1048576) (line col kind : Int) (kv : Value) (ks : List Int) (hk : RdI w.heap.size w kv ks) (hnil : ks = [] → kv = .slice none 0 0) (hkl : ks.length ≤ 1000) (hks : ∀ j, j < ks.length → 0 ≤ ks.getD j 0 ∧ ks.getD j 0 < (ds.length : Int)) (hdep : depM ds ks ≤ 1000) (hds : ∀ j, j < ds.length → ds.getD j 0 ≤ 1000) (hcap : ns.length + 1 ≤ 1000) :
    Calls Tryz.prog 142 #[.pointer (some ⟨b, 0, none⟩), .agg #[.int .i64 line, .int .i64 col], .int .i64 kind, t.val, kv] w fun e w' => e = .returned (.int .i64 (ns.length : Int)) ∧ (∃ nv' dv', St b w' tv toks at' op so fx (ns ++ [⟨kind, t.text, [], ks, line, col⟩]) (ds ++ [depM ds ks]) nv' dv') ∧ Rel b w w' := by
  obtain ⟨kvs, h1, h2⟩ := h.rn
  refine (putNamed_k b tv toks at' op so fx ns ds nv dv w h kvs h1 h2 t ht htl line col kind kv ks hk hnil hkl hks hdep hds hcap).mono ?_
  rintro e w' ⟨he, ⟨nv', dv', _, hs, _⟩, hr⟩
  exact ⟨he, ⟨nv', dv', hs⟩, hr⟩
end Go.Proofs.YtbcmpacmoofdkaaGreatDoor
/- The parser with its nodes: moving on, putting a node. -/
namespace Go.Proofs.YtbcmpacmoofdkaaGreatDoor
open Go.ChangeShapes Go.WideShapes Go.ChangeAt Go.RowKit

theorem St.moved {b : Nat} {w w' : World} {tv : Value} {toks : List ITk} {a a' op op' : Nat} {so : Option Addr} {fx : List UInt8 → Fix} {ns : List Nod} {ds : List Nat} {nv dv : Value} (h : St b w tv toks a op so fx ns ds nv dv) (p' : PS b w' tv toks a' op' (.pointer so) nv dv) (m : Moved b w w') : St b w' tv toks a' op' so fx ns ds nv dv := by
  have r := rel_of_moved h.ps p' m
  obtain ⟨kvs, h1, h2⟩ := h.rn
  refine ⟨p', ⟨kvs, h1.rel r, row_keep h2 fun g hg => ?_⟩, row_keep h.rd fun g hg => ?_, h.fn.rel r, h.ln, h.sm⟩
  · have := h2.lt g hg
    exact m.rest g this.2 (by omega)
  · have := h.rd.lt g hg
    exact m.rest g this.2 (by omega)

set_option maxRecDepth 100000 in
set_option maxHeartbeats 8000000 in
theorem put_k (b : Nat) (tv : Value) (toks : List ITk) (at' op : Nat) (so : Option Addr) (fx : List UInt8 → Fix) (ns : List Nod) (ds : List Nat) (nv dv : Value) (w : World) (h : St b w tv toks at' op so fx ns ds nv dv) (kvs : List Value) (hko : KOk b w ns kvs) (hro : w.ownsRow (b + 1) 37 6 nv ns.length (nodCells ns kvs))
    (z : ByteArray) (hz : z.size ≤ 1048576) (line col kind : Int) (kv : Value) (ks : List Int) (hk : RdI w.heap.size w kv ks) (hnil : ks = [] → kv = .slice none 0 0) (hkl : ks.length ≤ 1000) (hks : ∀ j, j < ks.length → 0 ≤ ks.getD j 0 ∧ ks.getD j 0 < (ds.length : Int)) (hdep : depM ds ks ≤ 1000) (hds : ∀ j, j < ds.length → ds.getD j 0 ≤ 1000) (hcap : ns.length + 1 ≤ 1000) :
    Calls Tryz.prog 125 #[.pointer (some ⟨b, 0, none⟩), .agg #[.int .i64 line, .int .i64 col], .int .i64 kind, .string z, kv] w fun e w' => e = .returned (.int .i64 (ns.length : Int)) ∧ PutK b w' tv toks at' op so fx (ns ++ [⟨kind, z.data.toList, [], ks, line, col⟩]) (ds ++ [depM ds ks]) kvs w.heap.size ∧ Rel b w w' := by
  have hold := h.ps.old
  obtain ⟨W0, hW0⟩ : ∃ W0, w.alloc (.cells #[.int .i64 line, .int .i64 col] 82) = W0 := ⟨_, rfl⟩
  have B0 : Below w.heap.size w W0 := by rw [← hW0]; exact (Below.refl _ _).alloc (Nat.le_refl _) _
  have p0 : W0.cell? ⟨w.heap.size, 0, none⟩ = some (.int .i64 line) := by rw [← hW0]; simp
  have p1 : W0.cell? ⟨w.heap.size, 1, none⟩ = some (.int .i64 col) := by rw [← hW0]; simp
  have CP := hide' (putNamed_k b tv toks at' op so fx ns ds nv dv W0 (h.below B0) kvs (hko.rel (Rel.of B0 hold)) (own_kept hro B0) ⟨0, z.data.toList, [], 0, 0, none, 0, by simpa using hz⟩ rfl (by simpa using hz) line col kind kv ks (rdI_mono (rdI_below hk B0) B0.size) hnil hkl hks hdep hds hcap)
  unfold ITk.val ITk.pv at CP
  simp only [List.length_nil] at CP
  have e0 : ByteArray.mk z.data.toList.toArray = z := by apply ByteArray.ext; simp
  rw [e0] at CP
  obtain ⟨ko, kc, hkv, _, _⟩ := hk
  rw [hkv] at CP ⊢
  generalize ks.length = L at *
  generalize ns.length = N at *
  have hs0 := B0.size
  have HB0 := hide' B0
  clear h hks hdep hds hnil e0 hkv B0 hko hro
  go_enter Tryz.func125, Tryz.ntmps125
  go_upto_region 1 with fail
  try rw [hW0]
  clear hW0
  go_wp2_with (go_at_call 142; refine CP.out.mono ?_; clear CP; rintro e w1 ⟨rfl, hs, hr⟩; (obtain ⟨nv', dv', kv', hs1, hs2, hs3, hs4⟩ := hs); (have hs : PutK b w1 tv toks at' op so fx (ns ++ [⟨kind, z.data.toList, [], ks, line, col⟩]) (ds ++ [depM ds ks]) kvs w.heap.size := ⟨nv', dv', kv', hs1, hs2, hs3, fun g hg => Nat.le_trans hs0 (hs4 g hg)⟩); clear hs1 hs2 hs3 hs4; (have HS := hide' hs); (have HR := hide' hr); clear hs hr)
  go_ret
  exact ⟨rfl, HS.out, (Rel.of HB0.out hold).trans HR.out⟩

theorem put_any (b : Nat) (tv : Value) (toks : List ITk) (at' op : Nat) (so : Option Addr) (fx : List UInt8 → Fix) (ns : List Nod) (ds : List Nat) (nv dv : Value) (w : World) (h : St b w tv toks at' op so fx ns ds nv dv)
    (z : ByteArray) (hz : z.size ≤ 1048576) (line col kind : Int) (kv : Value) (ks : List Int) (hk : RdI w.heap.size w kv ks) (hnil : ks = [] → kv = .slice none 0 0) (hkl : ks.length ≤ 1000) (hks : ∀ j, j < ks.length → 0 ≤ ks.getD j 0 ∧ ks.getD j 0 < (ds.length : Int)) (hdep : depM ds ks ≤ 1000) (hds : ∀ j, j < ds.length → ds.getD j 0 ≤ 1000) (hcap : ns.length + 1 ≤ 1000) :
    Calls Tryz.prog 125 #[.pointer (some ⟨b, 0, none⟩), .agg #[.int .i64 line, .int .i64 col], .int .i64 kind, .string z, kv] w fun e w' => e = .returned (.int .i64 (ns.length : Int)) ∧ (∃ nv' dv', St b w' tv toks at' op so fx (ns ++ [⟨kind, z.data.toList, [], ks, line, col⟩]) (ds ++ [depM ds ks]) nv' dv') ∧ Rel b w w' := by
  obtain ⟨kvs, h1, h2⟩ := h.rn
  refine (put_k b tv toks at' op so fx ns ds nv dv w h kvs h1 h2 z hz line col kind kv ks hk hnil hkl hks hdep hds hcap).mono ?_
  rintro e w' ⟨he, ⟨nv', dv', _, hs, _⟩, hr⟩
  exact ⟨he, ⟨nv', dv', hs⟩, hr⟩
end Go.Proofs.YtbcmpacmoofdkaaGreatDoor
