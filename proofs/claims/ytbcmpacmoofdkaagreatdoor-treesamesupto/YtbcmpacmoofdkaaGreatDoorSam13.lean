/- The document's comparisons of two rows of strings, and of two rows of numbers. -/
import Derived.Test.YtbcmpacmoofdkaaGreatDoorProg
import Derived.Test.YtbcmpacmoofdkaaGreatDoorTree2
import Derived.Test.YtbcmpacmoofdkaaGreatDoorTree41
import Derived.Test.YtbcmpacmoofdkaaGreatDoorLexE4
import Derived.WalkKit
import Derived.ProofKit
import Derived.OpenShut
import Derived.Below
import Derived.WalkLawsBesides
import Derived.OwnWalk
import Derived.BigQuiet
import Derived.WalkSmall
import Derived.Deep.MidRow
import Derived.Test.YtbcmpacmoofdkaaGreatDoorSam5
import Derived.Test.YtbcmpacmoofdkaaGreatDoorTree4
import Derived.Test.YtbcmpacmoofdkaaGreatDoorTree46
import Derived.Deep.DeepCutAuto
import Derived.Deep.RegionHeld
import Derived.Deep.RegionHeld3
import Derived.Test.YtbcmpacmoofdkaaGreatDoorTree12
import Derived.Laws.OwnMore
namespace Go.Proofs.YtbcmpacmoofdkaaGreatDoor
open Go.ChangeShapes Go.WideShapes Go.ChangeAt Go.RowKit

theorem take_eq_succI {p q : List Int} {k : Nat} (hp : k < p.length) (hq : k < q.length) : p.take (k + 1) = q.take (k + 1) ↔ p.take k = q.take k ∧ p.getD k 0 = q.getD k 0 := by
  rw [List.take_succ_eq_append_getElem hp, List.take_succ_eq_append_getElem hq]
  have e1 : p.getD k 0 = p[k] := by simp [List.getD_eq_getElem?_getD, hp]
  have e2 : q.getD k 0 = q[k] := by simp [List.getD_eq_getElem?_getD, hq]
  rw [e1, e2]
  constructor
  · intro h
    have := List.append_inj' h rfl
    exact ⟨this.1, by simpa using this.2⟩
  · rintro ⟨h1, h2⟩
    rw [h1, h2]

set_option maxRecDepth 100000 in
set_option maxHeartbeats 8000000 in
theorem rstrings_any (v1 v2 : Value) (p q : List (List UInt8)) (w : World) (h1 : RdP w.heap.size w v1 p) (h2 : RdP w.heap.size w v2 q) :
    Calls Tryz.prog 42 #[v1, v2] w fun e w' => e = .returned (.bool (decide (p = q))) ∧ ∃ m, w' = w.drewN m := by
  obtain ⟨ao, cap, rfl, hm, hc⟩ := h1
  obtain ⟨bo, cap2, rfl, hm2, hc2⟩ := h2
  obtain ⟨L, hL⟩ : ∃ L, p.length = L := ⟨_, rfl⟩
  have HL := hide' hL
  obtain ⟨M, hM⟩ : ∃ M, q.length = M := ⟨_, rfl⟩
  have HM := hide' hM
  have HC := hide' hc
  have HC2 := hide' hc2
  rw [hL] at hm ⊢
  rw [hM] at hm2 ⊢
  clear hL hM hc hc2
  obtain ⟨b, hb⟩ : ∃ b, decide (p = q) = b := ⟨_, rfl⟩
  have HB := hide' hb
  rw [hb]
  clear hb
  by_cases hLM : L = M
  · subst hLM
    go_enter Tryz.func42, Tryz.ntmps42
    go_wp2
    go_loopw [5] (fun vi wr => ∃ k : Nat, vi = .int .i64 (k : Int) ∧ k ≤ L ∧ Hid' (p.take k = q.take k) ∧ ∃ m, wr = w.drewN m) (fun vi _ => L - (intOf vi).toNat)
    case atStart => exact ⟨0, rfl, Nat.zero_le _, ⟨rfl⟩, 0, (World.drewN_zero w).symm⟩
    case round =>
      obtain ⟨k, rfl, hk, HI, m, hw⟩ := hrel
      have bw : Below w.heap.size w wr := by rw [hw]; exact below_drewN _ _ _
      have HDM := hide' hw
      clear hw
      by_cases hkL : k < L
      · obtain ⟨a1, ea1, hab1, hcell1⟩ := HC.out k (by have := HL.out; omega)
        obtain ⟨a2, ea2, hab2, hcell2⟩ := HC2.out k (by have := HM.out; omega)
        subst ea1 ea2
        obtain ⟨u1, ez1⟩ : ∃ z, ByteArray.mk (p.getD k []).toArray = z := ⟨_, rfl⟩
        obtain ⟨u2, ez2⟩ : ∃ z, ByteArray.mk (q.getD k []).toArray = z := ⟨_, rfl⟩
        have EE := hide' (strE_eq ez1 ez2)
        rw [ez1] at hcell1
        rw [ez2] at hcell2
        rw [← bw.cell (p := a1.add k) (by rw [addBlock]; exact hab1)] at hcell1
        rw [← bw.cell (p := a2.add k) (by rw [addBlock]; exact hab2)] at hcell2
        have TS := hide' (take_eq_succ (p := p) (q := q) (k := k) (by have := HL.out; omega) (by have := HM.out; omega))
        clear ez1 ez2
        by_cases he : p.getD k [] = q.getD k []
        · have g : (u1.toList == u2.toList) = true := by rw [EE.out, he]; simp
          have HI2 : Hid' (p.take (k + 1) = q.take (k + 1)) := ⟨TS.out.2 ⟨HI.out, he⟩⟩
          clear he HI TS bw EE
          go_wp2
          go_quiet (fail)
          go_wp2
          go_roundw
          case rel => exact ⟨k + 1, by go_num, by omega, HI2, m + nq, by rw [HDM.out, World.drewN_drewN]⟩
          case measure => first | (simp [intOf]; done) | (simp [intOf]; omega)
        · have g : (u1.toList == u2.toList) = false := by rw [EE.out]; simpa using he
          have HF : Hid' (b = false) := ⟨by rw [← HB.out]; exact decide_eq_false (fun e => he (by rw [e]))⟩
          clear he HI TS bw EE
          go_wp2
          go_quiet (fail)
          go_wp2
          go_ret
          rw [HF.out]
          exact ⟨rfl, m + nq, by rw [HDM.out, World.drewN_drewN]⟩
      · have HF : Hid' (b = true) := ⟨by
          rw [← HB.out]
          have h := HI.out
          rw [List.take_of_length_le (by have := HL.out; omega), List.take_of_length_le (by have := HM.out; omega)] at h
          exact decide_eq_true h⟩
        clear HI
        go_wp2
        go_ret
        rw [HF.out]
        exact ⟨rfl, m, HDM.out⟩
  · have HF : Hid' (b = false) := ⟨by
      rw [← HB.out]
      refine decide_eq_false fun e => hLM ?_
      rw [← HL.out, ← HM.out, e]⟩
    have g : ((L : Int) != (M : Int)) = true := by rw [bne_iff_ne]; omega
    clear hLM
    go_enter Tryz.func42, Tryz.ntmps42
    go_wp2
    go_ret
    rw [HF.out]
    exact ⟨rfl, 0, (World.drewN_zero w).symm⟩

set_option maxRecDepth 100000 in
set_option maxHeartbeats 8000000 in
theorem rints_any (v1 v2 : Value) (p q : List Int) (w : World) (h1 : RdI w.heap.size w v1 p) (h2 : RdI w.heap.size w v2 q) :
    Calls Tryz.prog 43 #[v1, v2] w fun e w' => e = .returned (.bool (decide (p = q))) ∧ ∃ m, w' = w.drewN m := by
  obtain ⟨ao, cap, rfl, hm, hc⟩ := h1
  obtain ⟨bo, cap2, rfl, hm2, hc2⟩ := h2
  obtain ⟨L, hL⟩ : ∃ L, p.length = L := ⟨_, rfl⟩
  have HL := hide' hL
  obtain ⟨M, hM⟩ : ∃ M, q.length = M := ⟨_, rfl⟩
  have HM := hide' hM
  have HC := hide' hc
  have HC2 := hide' hc2
  rw [hL] at hm ⊢
  rw [hM] at hm2 ⊢
  clear hL hM hc hc2
  obtain ⟨b, hb⟩ : ∃ b, decide (p = q) = b := ⟨_, rfl⟩
  have HB := hide' hb
  rw [hb]
  clear hb
  by_cases hLM : L = M
  · subst hLM
    go_enter Tryz.func43, Tryz.ntmps43
    go_wp2
    go_loopw [5] (fun vi wr => ∃ k : Nat, vi = .int .i64 (k : Int) ∧ k ≤ L ∧ Hid' (p.take k = q.take k) ∧ ∃ m, wr = w.drewN m) (fun vi _ => L - (intOf vi).toNat)
    case atStart => exact ⟨0, rfl, Nat.zero_le _, ⟨rfl⟩, 0, (World.drewN_zero w).symm⟩
    case round =>
      obtain ⟨k, rfl, hk, HI, m, hw⟩ := hrel
      have bw : Below w.heap.size w wr := by rw [hw]; exact below_drewN _ _ _
      have HDM := hide' hw
      clear hw
      by_cases hkL : k < L
      · obtain ⟨a1, ea1, hab1, hcell1⟩ := HC.out k (by have := HL.out; omega)
        obtain ⟨a2, ea2, hab2, hcell2⟩ := HC2.out k (by have := HM.out; omega)
        subst ea1 ea2
        obtain ⟨u1, ez1⟩ : ∃ z, p.getD k 0 = z := ⟨_, rfl⟩
        obtain ⟨u2, ez2⟩ : ∃ z, q.getD k 0 = z := ⟨_, rfl⟩
        rw [ez1] at hcell1
        rw [ez2] at hcell2
        rw [← bw.cell (p := a1.add k) (by rw [addBlock]; exact hab1)] at hcell1
        rw [← bw.cell (p := a2.add k) (by rw [addBlock]; exact hab2)] at hcell2
        have TS := hide' (take_eq_succI (p := p) (q := q) (k := k) (by have := HL.out; omega) (by have := HM.out; omega))

        by_cases he : p.getD k 0 = q.getD k 0
        · have g : (u1 != u2) = false := by rw [← ez1, ← ez2, he]; simp
          have HI2 : Hid' (p.take (k + 1) = q.take (k + 1)) := ⟨TS.out.2 ⟨HI.out, he⟩⟩
          clear he HI TS bw ez1 ez2
          go_wp2
          go_quiet (fail)
          go_wp2
          go_roundw
          case rel => exact ⟨k + 1, by go_num, by omega, HI2, m + nq, by rw [HDM.out, World.drewN_drewN]⟩
          case measure => first | (simp [intOf]; done) | (simp [intOf]; omega)
        · have g : (u1 != u2) = true := by rw [bne_iff_ne, ← ez1, ← ez2]; exact he
          have HF : Hid' (b = false) := ⟨by rw [← HB.out]; exact decide_eq_false (fun e => he (by rw [e]))⟩
          clear he HI TS bw ez1 ez2
          go_wp2
          go_quiet (fail)
          go_wp2
          go_ret
          rw [HF.out]
          exact ⟨rfl, m + nq, by rw [HDM.out, World.drewN_drewN]⟩
      · have HF : Hid' (b = true) := ⟨by
          rw [← HB.out]
          have h := HI.out
          rw [List.take_of_length_le (by have := HL.out; omega), List.take_of_length_le (by have := HM.out; omega)] at h
          exact decide_eq_true h⟩
        clear HI
        go_wp2
        go_ret
        rw [HF.out]
        exact ⟨rfl, m, HDM.out⟩
  · have HF : Hid' (b = false) := ⟨by
      rw [← HB.out]
      refine decide_eq_false fun e => hLM ?_
      rw [← HL.out, ← HM.out, e]⟩
    have g : ((L : Int) != (M : Int)) = true := by rw [bne_iff_ne]; omega
    clear hLM
    go_enter Tryz.func43, Tryz.ntmps43
    go_wp2
    go_ret
    rw [HF.out]
    exact ⟨rfl, 0, (World.drewN_zero w).symm⟩
end Go.Proofs.YtbcmpacmoofdkaaGreatDoor
/- The document's turned: a node's kids as classes. -/
namespace Go.Proofs.YtbcmpacmoofdkaaGreatDoor
open Go.ChangeShapes Go.WideShapes Go.ChangeAt Go.RowKit

def zCells (l : List Int) : List Value := l.map fun x : Int => Value.int .i64 x
/-- A row of numbers of the call's own. -/
def OwnZ (B : Nat) (v : Value) (l : List Int) (w : World) : Prop := w.ownsRow B 3 1 v l.length (zCells l)
theorem ownZ_nil (B : Nat) (w : World) : OwnZ B (.slice none 0 0) [] w := World.ownsRow_nil _ _ _ _
theorem ownZ_slice {B : Nat} {v : Value} {l : List Int} {w : World} (h : OwnZ B v l w) : ∃ ao cap, v = .slice ao l.length cap := by
  rcases h.2 with ⟨hv, h0⟩ | ⟨g, cap, cur, hv, _⟩
  · exact ⟨none, 0, by rw [hv, h0]⟩
  · exact ⟨_, _, hv⟩
theorem ownZ_snoc {B : Nat} {v : Value} {l : List Int} {w : World} {L : Nat} {x : Int} (e : l.length = L) (h : w.ownsRow B 3 1 v (L + 1) (zCells l ++ [.int .i64 x])) : OwnZ B v (l ++ [x]) w := by
  unfold OwnZ zCells
  rw [List.length_append, List.map_append, e]
  exact h
theorem ownZ_rdI {B : Nat} {v : Value} {l : List Int} {w : World} (h : OwnZ B v l w) (hl : l.length ≤ 9223372036854775807) : RdI w.heap.size w v l := by
  obtain ⟨ao, cap, hv⟩ := ownZ_slice h
  subst hv
  refine ⟨ao, cap, rfl, hl, fun j hj => ?_⟩
  unfold OwnZ at h
  obtain ⟨g, c, hvv, hg, hlt⟩ := h.form (by omega)
  injection hvv with e1 e2 e3
  refine ⟨⟨g, 0, none⟩, e1, hlt, ?_⟩
  subst e1 e3
  rw [show (⟨g, 0, none⟩ : Addr).add j = ⟨g, j, none⟩ from by unfold Addr.add; simp; omega, h.cellAt j (by omega)]
  simp [zCells, List.getD, hj]
theorem turnM_take (ks : List Int) (i : Nat) (g : Nat → Int) (k : Nat) (h : k < ks.length) : turnM (ks.take (k + 1)) i g = turnM (ks.take k) i g ++ [if 0 ≤ ks.getD k 0 ∧ ks.getD k 0 < (i : Int) then g (ks.getD k 0).toNat else -1] := by
  unfold turnM
  rw [List.take_succ_eq_append_getElem h, List.map_append]
  simp [List.getD, h]
theorem turnM_len (ks : List Int) (i : Nat) (g : Nat → Int) : (turnM ks i g).length = ks.length := by unfold turnM; rw [List.length_map]

set_option maxRecDepth 100000 in
set_option maxHeartbeats 8000000 in
theorem rturned_any (v : Value) (l : List Nod) (i : Nat) (ov : Value) (gs : List Int) (w : World) (hv : RdN w.heap.size w v l) (hil : i < l.length) (ho : RdI w.heap.size w ov gs) (hg : i ≤ gs.length) (hkl : (l.getD i Nod.zero).kids.length ≤ 1048576) :
    Calls Tryz.prog 22 #[v, .int .i64 (i : Int), ov] w fun e w' => ∃ kv, e = .returned kv ∧ OwnZ w.heap.size kv (turnM (l.getD i Nod.zero).kids i (fun j => gs.getD j 0)) w' ∧ Below w.heap.size w w' := by
  obtain ⟨i0, hi, hz0, hz1, hz2⟩ := info_parts infoInt
  obtain ⟨vo, vc, hvv, hvl, hvc⟩ := hv
  subst hvv
  obtain ⟨g, o, pv, kv, ea, hgB, ⟨c0, c1, c2, c3, c4, c5, rp, rk⟩⟩ := hvc i hil
  subst ea
  obtain ⟨oo, oc, hov, hom, hoc⟩ := ho
  subst hov
  have HOC := hide' hoc
  obtain ⟨ko, kc, hkv, hkm, hkc⟩ := rk
  subst hkv
  have HKC := hide' hkc
  have HTT := hide' (turnM_take (l.getD i Nod.zero).kids i (fun j => gs.getD j 0))
  have HTL := hide' (fun k => turnM_len ((l.getD i Nod.zero).kids.take k) i (fun j => gs.getD j 0))
  generalize (l.getD i Nod.zero).kids = ks at *
  obtain ⟨N, hN⟩ : ∃ N, ks.length = N := ⟨_, rfl⟩
  have HN := hide' hN
  rw [hN] at c3 hkm hkl HKC HTT
  obtain ⟨G, hG⟩ : ∃ G, gs.length = G := ⟨_, rfl⟩
  rw [hG] at hom hg HOC ⊢
  generalize l.length = LL at *
  clear hvc hkc hoc c0 c1 c2 c4 c5 hN hG rp
  have HGB := hide' hgB
  go_enter Tryz.func22, Tryz.ntmps22
  go_wp2
  go_loopw [7, 8] (fun va vi wr => ∃ k : Nat, vi = .int .i64 (k : Int) ∧ k ≤ N ∧ Hid' (OwnZ w.heap.size va (turnM (ks.take k) i (fun j => gs.getD j 0)) wr) ∧ Below w.heap.size w wr) (fun _ vi _ => N - (intOf vi).toNat)
  case atStart => exact ⟨0, rfl, Nat.zero_le _, ⟨ownZ_nil _ _⟩, Below.refl _ _⟩
  case round =>
    obtain ⟨k, rfl, hk, HO, bel⟩ := hrel
    have e3 := (bel.cell (p := ⟨g, o + i * 6 + 3, none⟩) HGB.out).trans c3
    have bsz := bel.size
    have HBL := hide' bel
    by_cases h1 : k < N
    · obtain ⟨a, ea, hab, hcell⟩ := HKC.out k h1
      subst ea
      have d := (bel.cell (p := a.add k) (by rw [addBlock]; exact hab)).trans hcell
      have HT := hide' (HTT.out k h1)
      have HL := hide' (HTL.out k)
      obtain ⟨q, hq⟩ : ∃ q, ks.getD k 0 = q := ⟨_, rfl⟩
      rw [hq] at d HT
      obtain ⟨T, hT⟩ : ∃ T, turnM (ks.take k) i (fun j => gs.getD j 0) = T := ⟨_, rfl⟩
      rw [hT] at HO HT HL
      have hTk : T.length = k := by rw [HL.out, List.length_take, HN.out]; omega
      obtain ⟨qo, tc, hvo⟩ := ownZ_slice HO.out
      rw [hTk] at hvo
      subst hvo
      have HW : Hid' ((_ : World).ownsRow w.heap.size 3 1 (.slice qo k tc) k (zCells T)) := ⟨by have h := HO.out; unfold OwnZ at h; rw [hTk] at h; exact h⟩
      have HTK := hide' hTk
      clear hcell hq hT HO HL hTk bel
      by_cases hlo : 0 ≤ q
      · by_cases hhi : q < (i : Int)
        · obtain ⟨n, hn⟩ : ∃ n : Nat, q = (n : Int) := ⟨q.toNat, by omega⟩
          subst hn
          rw [if_pos ⟨hlo, hhi⟩, Int.toNat_natCast] at HT
          obtain ⟨b, eb, hbb, hcb⟩ := HOC.out n (by omega)
          subst eb
          have d2 := (HBL.out.cell (p := b.add n) (by rw [addBlock]; exact hbb)).trans hcb
          obtain ⟨y, hy⟩ : ∃ y, gs.getD n 0 = y := ⟨_, rfl⟩
          rw [hy] at d2 HT
          have f1 : decide ((n : Int) ≥ 0) = true := decide_eq_true (by omega)
          clear hcb hy hlo
          go_wp2_with (at_builtin; refine wpList_append_own _ rfl _ _ 28 rfl w.heap.size 3 i0 (.int .i64 0) 1 8 Tryz.underlying28 hi hz0 hz1 hz2 rfl (by decide) _ _ _ rfl (HW.out.alloc _) ⟨_, 0, none⟩ 1 1 [.int .i64 y] rfl rfl (cellsNew _ _ _) (by simp [Value.oneCell']) (by unfold maxLen; omega) (by omega) (by simp; omega) ?_; intro v4 w4 o4 gr4 _; have H4 := hide' o4; clear o4)
          have B4 := hide' ((HBL.out.alloc bsz _).grown gr4 (by simp; omega) (fun j hj => (HW.out.lt j hj).1))
          go_roundw
          case rel => exact ⟨k + 1, by go_num, by omega, ⟨by rw [HT.out]; exact ownZ_snoc HTK.out H4.out⟩, B4.out⟩
          case measure => first | (simp [intOf]; done) | (simp [intOf]; omega)
        · rw [if_neg (fun h => hhi h.2)] at HT
          have f1 : decide (q ≥ 0) = true := decide_eq_true (by omega)
          have f2 : decide (q < (i : Int)) = false := decide_eq_false hhi
          clear hlo
          go_wp2_with (at_builtin; refine wpList_append_own _ rfl _ _ 28 rfl w.heap.size 3 i0 (.int .i64 0) 1 8 Tryz.underlying28 hi hz0 hz1 hz2 rfl (by decide) _ _ _ rfl (HW.out.alloc _) ⟨_, 0, none⟩ 1 1 [.int .i64 (-1)] rfl rfl (cellsNew _ _ _) (by simp [Value.oneCell']) (by unfold maxLen; omega) (by omega) (by simp; omega) ?_; intro v4 w4 o4 gr4 _; have H4 := hide' o4; clear o4)
          have B4 := hide' ((HBL.out.alloc bsz _).grown gr4 (by simp; omega) (fun j hj => (HW.out.lt j hj).1))
          go_roundw
          case rel => exact ⟨k + 1, by go_num, by omega, ⟨by rw [HT.out]; exact ownZ_snoc HTK.out H4.out⟩, B4.out⟩
          case measure => first | (simp [intOf]; done) | (simp [intOf]; omega)
      · rw [if_neg (fun h => hlo h.1)] at HT
        have f1 : decide (q ≥ 0) = false := decide_eq_false (by omega)
        go_wp2_with (at_builtin; refine wpList_append_own _ rfl _ _ 28 rfl w.heap.size 3 i0 (.int .i64 0) 1 8 Tryz.underlying28 hi hz0 hz1 hz2 rfl (by decide) _ _ _ rfl (HW.out.alloc _) ⟨_, 0, none⟩ 1 1 [.int .i64 (-1)] rfl rfl (cellsNew _ _ _) (by simp [Value.oneCell']) (by unfold maxLen; omega) (by omega) (by simp; omega) ?_; intro v4 w4 o4 gr4 _; have H4 := hide' o4; clear o4)
        have B4 := hide' ((HBL.out.alloc bsz _).grown gr4 (by simp; omega) (fun j hj => (HW.out.lt j hj).1))
        go_roundw
        case rel => exact ⟨k + 1, by go_num, by omega, ⟨by rw [HT.out]; exact ownZ_snoc HTK.out H4.out⟩, B4.out⟩
        case measure => first | (simp [intOf]; done) | (simp [intOf]; omega)
    · have HE : Hid' (ks.take k = ks) := ⟨List.take_of_length_le (by rw [HN.out]; omega)⟩
      rw [HE.out] at HO
      go_wp2
      go_ret
      exact ⟨_, rfl, HO.out, HBL.out⟩
end Go.Proofs.YtbcmpacmoofdkaaGreatDoor
/- The document's classed: the class of a node. -/
namespace Go.Proofs.YtbcmpacmoofdkaaGreatDoor
open Go.ChangeShapes Go.WideShapes Go.ChangeAt Go.RowKit

theorem rdP_monoR {B B' : Nat} {w : World} {v : Value} {l : List (List UInt8)} (h : RdP B w v l) (hb : B ≤ B') : RdP B' w v l := by
  obtain ⟨ao, cap, hv, hm, hc⟩ := h
  refine ⟨ao, cap, hv, hm, fun j hj => ?_⟩
  obtain ⟨a, ha, hl, hx⟩ := hc j hj
  exact ⟨a, ha, Nat.lt_of_lt_of_le hl hb, hx⟩
theorem any_neg (T : List Int) (k : Nat) (hk : k < T.length) (h : T.getD k 0 < 0) : T.any (fun k => decide (k < 0)) = true := by
  rw [List.any_eq_true]
  refine ⟨T.getD k 0, ?_, decide_eq_true h⟩
  rw [show T.getD k 0 = T[k] by simp [List.getD, hk]]
  exact List.getElem_mem hk
theorem any_pos (T : List Int) (h : ∀ a, a < T.length → 0 ≤ T.getD a 0) : ¬ (T.any (fun k => decide (k < 0)) = true) := by
  rw [List.any_eq_true]
  rintro ⟨x, hx, hb⟩
  obtain ⟨a, ha, rfl⟩ := List.getElem_of_mem hx
  have := h a ha
  rw [show T.getD a 0 = T[a] by simp [List.getD, ha]] at this
  have := of_decide_eq_true hb
  omega
theorem seek_step (nd : Nod) (ks : List Int) (d : Int) (E : List Nod) (C : List Int) (j : Nat) (hj : j < E.length) (hC : C.length = E.length) : seekM nd ks d (E.drop j) (C.drop j) = if eqNod (E.getD j Nod.zero) nd.kind nd.text nd.path ks = true then C.getD j 0 else seekM nd ks d (E.drop (j + 1)) (C.drop (j + 1)) := by
  rw [List.drop_eq_getElem_cons hj, List.drop_eq_getElem_cons (by omega : j < C.length), show E.getD j Nod.zero = E[j] by simp [List.getD, hj], show C.getD j 0 = C[j]'(by omega) by simp [List.getD, show j < C.length by omega]]
  rfl
theorem eqNod_no1 {e : Nod} {kind : Int} {text : List UInt8} {path : List (List UInt8)} {ks : List Int} (h : e.kind ≠ kind) : ¬ (eqNod e kind text path ks = true) := fun g => by
  rw [eqNod_iff] at g
  injection g with g
  exact h g
theorem eqNod_no2 {e : Nod} {kind : Int} {text : List UInt8} {path : List (List UInt8)} {ks : List Int} (h : e.text ≠ text) : ¬ (eqNod e kind text path ks = true) := fun g => by
  rw [eqNod_iff] at g
  injection g with _ g
  injection g with g
  exact h g
theorem eqNod_no3 {e : Nod} {kind : Int} {text : List UInt8} {path : List (List UInt8)} {ks : List Int} (h : e.path ≠ path) : ¬ (eqNod e kind text path ks = true) := fun g => by
  rw [eqNod_iff] at g
  injection g with _ g
  injection g with _ g
  injection g with g
  exact h g
theorem eqNod_no4 {e : Nod} {kind : Int} {text : List UInt8} {path : List (List UInt8)} {ks : List Int} (h : e.kids ≠ ks) : ¬ (eqNod e kind text path ks = true) := fun g => by
  rw [eqNod_iff] at g
  injection g with _ g
  injection g with _ g
  injection g with _ g
  exact h g

set_option maxRecDepth 100000 in
set_option maxHeartbeats 8000000 in
theorem rclassed_any (v : Value) (l : List Nod) (i : Nat) (ov : Value) (gs : List Int) (ev : Value) (E : List Nod) (cv : Value) (C : List Int) (w : World) (hv : RdN w.heap.size w v l) (hil : i < l.length) (ho : RdI w.heap.size w ov gs) (hg : i ≤ gs.length) (hkl : (l.getD i Nod.zero).kids.length ≤ 1048576) (he : RdN w.heap.size w ev E) (hc : RdI w.heap.size w cv C) (hCE : C.length = E.length) :
    Calls Tryz.prog 21 #[v, .int .i64 (i : Int), ov, ev, cv] w fun e w' => e = .returned (.int .i64 (classM (l.getD i Nod.zero) i (fun j => gs.getD j 0) E C)) ∧ Below w.heap.size w w' := by
  have CT := hide' (rturned_any v l i ov gs w hv hil ho hg hkl)
  have CST := hide' (fun v1 v2 p q W (h1 : RdP W.heap.size W v1 p) (h2 : RdP W.heap.size W v2 q) => rstrings_any v1 v2 p q W h1 h2)
  have CIN := hide' (fun v1 v2 p q W (h1 : RdI W.heap.size W v1 p) (h2 : RdI W.heap.size W v2 q) => rints_any v1 v2 p q W h1 h2)
  obtain ⟨oo, oc, hov, _, _⟩ := ho
  subst hov
  obtain ⟨vo, vc, hvv, hvl, hvc⟩ := hv
  subst hvv
  obtain ⟨g, o, pv, kv0, ea, hgB, ⟨c0, c1, c2, c3, c4, c5, rp, rk⟩⟩ := hvc i hil
  subst ea
  obtain ⟨po, pc, hpv, _, _⟩ := id rp
  subst hpv
  obtain ⟨eo, ec, hev, hel, hec⟩ := he
  subst hev
  obtain ⟨co, cc, hcv, hcl, hcc⟩ := hc
  subst hcv
  have HEC := hide' hec
  have HCC := hide' hcc
  have HRP := hide' rp
  obtain ⟨T, hT⟩ : ∃ T, turnM (l.getD i Nod.zero).kids i (fun j => gs.getD j 0) = T := ⟨_, rfl⟩
  rw [hT] at CT
  have hTl : T.length ≤ 1048576 := by rw [← hT, turnM_len]; exact hkl
  obtain ⟨R, hR⟩ : ∃ R, classM (l.getD i Nod.zero) i (fun j => gs.getD j 0) E C = R := ⟨_, rfl⟩
  have HR := hide' hR
  rw [hR]
  unfold classM at HR
  rw [hT] at HR
  have HSK := hide' (fun j (hj : j < E.length) => seek_step (l.getD i Nod.zero) T (E.length : Int) E C j hj hCE)
  generalize l.getD i Nod.zero = t at *
  obtain ⟨EN, hEN⟩ : ∃ EN, E.length = EN := ⟨_, rfl⟩
  have HEN := hide' hEN
  rw [hCE] at hcl HCC ⊢
  rw [hEN] at hcl HCC hel HEC HR HSK ⊢
  generalize gs.length = GL at *
  generalize l.length = LL at *
  obtain ⟨PN, hPN⟩ : ∃ PN, t.path.length = PN := ⟨_, rfl⟩
  rw [hPN] at c2 HRP
  obtain ⟨tx, htx⟩ : ∃ tx, ByteArray.mk t.text.toArray = tx := ⟨_, rfl⟩
  have HTX := hide' htx
  rw [htx] at c1
  obtain ⟨kd, hkd⟩ : ∃ kd, t.kind = kd := ⟨_, rfl⟩
  have HKD := hide' hkd
  rw [hkd] at c0 HSK
  have HGB := hide' hgB
  clear hvc hec hcc rp rk c3 c4 c5 hR hT htx hkd hPN hEN hCE hgB
  go_enter Tryz.func21, Tryz.ntmps21
  go_upto_region 3 with (go_at_call 22; refine CT.out.mono ?_; clear CT; rintro e w1 ⟨kv, rfl, ok, b1⟩; (obtain ⟨ko, kc, hkv⟩ := ownZ_slice ok); subst hkv; (have HRK := hide' (ownZ_rdI ok (by omega))))
  obtain ⟨N, hN⟩ : ∃ N, T.length = N := ⟨_, rfl⟩
  have HN := hide' hN
  rw [hN] at hTl HRK ⊢
  have HB1 := hide' b1
  clear ok hN b1
  go_loopw [12] (fun vi wr => ∃ k : Nat, vi = .int .i64 (k : Int) ∧ k ≤ N ∧ Hid' (∀ a, a < k → 0 ≤ T.getD a 0) ∧ Below w1.heap.size w1 wr) (fun vi _ => N - (intOf vi).toNat)
  case atStart => exact ⟨0, rfl, Nat.zero_le _, ⟨fun a ha => absurd ha (Nat.not_lt_zero _)⟩, Below.refl _ _⟩
  case round =>
    obtain ⟨k, rfl, hk, HA, bw⟩ := hrel
    by_cases h1 : k < N
    · obtain ⟨ko', kc', hkv, _, hkc⟩ := HRK.out
      injection hkv with q1 q2 q3
      subst q1 q3
      obtain ⟨a, ea, hab, hcell⟩ := hkc k (by rw [HN.out]; exact h1)
      subst ea
      have d := (bw.cell (p := a.add k) (by rw [addBlock]; exact hab)).trans hcell
      have HNG := hide' (any_neg T k (by rw [HN.out]; exact h1))
      obtain ⟨x, hx⟩ : ∃ x, T.getD k 0 = x := ⟨_, rfl⟩
      have HX := hide' hx
      rw [hx] at d HNG
      have HBW := hide' bw
      clear hkc hcell hx bw q2
      by_cases hneg : x < 0
      · have HF : Hid' (R = -1) := ⟨by rw [← HR.out, if_pos (HNG.out hneg)]⟩
        have f1 : decide (x < 0) = true := decide_eq_true hneg
        clear HNG
        go_wp2_with fail
        go_ret
        rw [HF.out]
        exact ⟨rfl, HB1.out.trans (HBW.out.mono HB1.out.size)⟩
      · have f1 : decide (x < 0) = false := decide_eq_false hneg
        clear HNG
        go_wp2_with fail
        go_roundw
        case rel => exact ⟨k + 1, by go_num, by omega, ⟨fun a ha => by
          by_cases hak : a < k
          · exact HA.out a hak
          · have : a = k := by omega
            subst this
            rw [HX.out]; omega⟩, HBW.out⟩
        case measure => first | (simp [intOf]; done) | (simp [intOf]; omega)
    · have HRS : Hid' (seekM t T (EN : Int) E C = R) := ⟨by
        rw [← HR.out, if_neg (any_pos T (fun a ha => HA.out a (by have := HN.out; omega)))]⟩
      have HBW := hide' bw
      clear HA HR bw
      go_upto_region 8 with fail
      have HB2 : Hid' (Below w.heap.size w _) := ⟨HB1.out.trans (HBW.out.mono HB1.out.size)⟩
      go_loopw [13] (fun vi wr2 => ∃ j : Nat, vi = .int .i64 (j : Int) ∧ j ≤ EN ∧ Hid' (seekM t T (EN : Int) (E.drop j) (C.drop j) = R) ∧ Below w1.heap.size w1 wr2) (fun vi _ => EN - (intOf vi).toNat)
      case atStart => exact ⟨0, rfl, Nat.zero_le _, ⟨by rw [List.drop_zero, List.drop_zero]; exact HRS.out⟩, HBW.out⟩
      case round =>
        obtain ⟨j, rfl, hj, HS, bl⟩ := hrel
        clear HRS HB2
        by_cases h2 : j < EN
        · have HST := hide' (HSK.out j h2)
          obtain ⟨ge, oe, pe, ke, ea2, hgeB, hat⟩ := HEC.out j h2
          subst ea2
          obtain ⟨ac, eac, hacB, hccell⟩ := HCC.out j h2
          subst eac
          have HBz : Hid' (Below w.heap.size w wr) := ⟨HB1.out.trans (bl.mono HB1.out.size)⟩
          have HB1z := hide' bl
          obtain ⟨y, hy⟩ : ∃ y, E.getD j Nod.zero = y := ⟨_, rfl⟩
          rw [hy] at hat HST
          obtain ⟨u0, u1, u2, u3, u4, u5, urp, urk⟩ := hat
          obtain ⟨yo, yc, hpe, _, _⟩ := id urp
          subst hpe
          obtain ⟨zo, zc, hke, _, _⟩ := id urk
          subst hke
          have HYP := hide' urp
          have HYK := hide' urk
          obtain ⟨YP, hYP⟩ : ∃ n, y.path.length = n := ⟨_, rfl⟩
          obtain ⟨YK, hYK⟩ : ∃ n, y.kids.length = n := ⟨_, rfl⟩
          rw [hYP] at u2 HYP
          rw [hYK] at u3 HYK
          obtain ⟨ty, hty⟩ : ∃ ty, ByteArray.mk y.text.toArray = ty := ⟨_, rfl⟩
          have HEQ := hide' (strE_eq hty HTX.out)
          rw [hty] at u1
          have x0 := (HBz.out.cell (p := ⟨ge, oe + j * 6, none⟩) hgeB).trans u0
          have x1 := (HBz.out.cell (p := ⟨ge, oe + j * 6 + 1, none⟩) hgeB).trans u1
          have x2 := (HBz.out.cell (p := ⟨ge, oe + j * 6 + 2, none⟩) hgeB).trans u2
          have x3 := (HBz.out.cell (p := ⟨ge, oe + j * 6 + 3, none⟩) hgeB).trans u3
          have n0 := (HBz.out.cell (p := ⟨g, o + i * 6, none⟩) HGB.out).trans c0
          have n1 := (HBz.out.cell (p := ⟨g, o + i * 6 + 1, none⟩) HGB.out).trans c1
          have n2 := (HBz.out.cell (p := ⟨g, o + i * 6 + 2, none⟩) HGB.out).trans c2
          have dc := (HBz.out.cell (p := ac.add j) (by rw [addBlock]; exact hacB)).trans hccell
          obtain ⟨cj, hcj⟩ : ∃ cj, C.getD j 0 = cj := ⟨_, rfl⟩
          rw [hcj] at dc HST
          obtain ⟨yk, hyk⟩ : ∃ yk, y.kind = yk := ⟨_, rfl⟩
          rw [hyk] at x0
          have HGE := hide' hgeB
          have HYK0 := hide' hyk
          clear hccell u0 u1 u2 u3 u4 u5 urp urk hy hYP hYK hty hcj bl c0 c1 c2 hgeB hyk
          go_upto_region 10 with fail
          by_cases hk1 : yk = kd
          · subst hk1
            by_cases ht1 : y.text = t.text
            · have f1 : (ty.toList == tx.toList) = true := by rw [HEQ.out, ht1]; simp
              have CS1 : Hid' (∀ n, Calls Tryz.prog 42 #[.slice yo YP yc, .slice po PN pc] (wr.drewN n) fun e w' => e = .returned (.bool (decide (y.path = t.path))) ∧ ∃ m, w' = (wr.drewN n).drewN m) := ⟨fun n => by
                have b : Below w.heap.size w (wr.drewN n) := HBz.out.trans (below_drewN _ _ _)
                exact CST.out _ _ _ _ _ (rdP_monoR (rdP_below HYP.out b) b.size) (rdP_monoR (rdP_below HRP.out b) b.size)⟩
              by_cases hp1 : y.path = t.path
              · rw [decide_eq_true hp1] at CS1
                have CI1 : Hid' (∀ n, Calls Tryz.prog 43 #[.slice zo YK zc, .slice ko N kc] (wr.drewN n) fun e w' => e = .returned (.bool (decide (y.kids = T))) ∧ ∃ m, w' = (wr.drewN n).drewN m) := ⟨fun n => by
                  have b : Below w1.heap.size w1 (wr.drewN n) := HB1z.out.trans (below_drewN _ _ _)
                  have b' : Below w.heap.size w (wr.drewN n) := HBz.out.trans (below_drewN _ _ _)
                  exact CIN.out _ _ _ _ _ (rdI_mono (rdI_below HYK.out b') b'.size) (rdI_mono (rdI_below HRK.out b) b.size)⟩
                obtain ⟨bk, hbk⟩ : ∃ bk, decide (y.kids = T) = bk := ⟨_, rfl⟩
                rw [hbk] at CI1
                have HTR : Hid' (bk = true → R = cj) := ⟨fun e => by
                  rw [e] at hbk
                  rw [← HS.out, HST.out, if_pos ((eqNod_iff _ _ _ _ _).2 (by rw [HYK0.out, ht1, hp1, of_decide_eq_true hbk]))]⟩
                have HFA : Hid' (bk = false → seekM t T (EN : Int) (E.drop (j + 1)) (C.drop (j + 1)) = R) := ⟨fun e => by
                  rw [e] at hbk
                  rw [← HS.out, HST.out, if_neg (eqNod_no4 (of_decide_eq_false hbk))]⟩
                clear HST HS ht1 hp1 hbk HEC HCC HRP HYP HYK HSK HRK HEQ HTX CST CIN
                go_quiet (first
                  | (go_at_call 42; refine Calls.quiet_of (CS1.out _))
                  | (go_at_call 43; refine Calls.quiet_of (CI1.out _)))
                cases bk with
                | true =>
                  have HF : Hid' (R = cj) := ⟨HTR.out rfl⟩
                  go_wp2_with fail
                  go_ret
                  rw [HF.out]
                  exact ⟨rfl, HBz.out.trans (below_drewN _ _ _)⟩
                | false =>
                  have HN2 : Hid' (seekM t T (EN : Int) (E.drop (j + 1)) (C.drop (j + 1)) = R) := ⟨HFA.out rfl⟩
                  go_wp2_with fail
                  go_roundw
                  case rel => exact ⟨j + 1, by go_num, by omega, HN2, HB1z.out.trans (below_drewN _ _ _)⟩
                  case measure => first | (simp [intOf]; done) | (simp [intOf]; omega)
              · rw [decide_eq_false hp1] at CS1
                have HN2 : Hid' (seekM t T (EN : Int) (E.drop (j + 1)) (C.drop (j + 1)) = R) := ⟨by rw [← HS.out, HST.out, if_neg (eqNod_no3 hp1)]⟩
                clear HST HS ht1 hp1 HEC HCC HRP HYP HYK HSK HRK HEQ HTX CST CIN
                go_quiet (first
                  | (go_at_call 42; refine Calls.quiet_of (CS1.out _)))
                go_wp2_with fail
                go_roundw
                case rel => exact ⟨j + 1, by go_num, by omega, HN2, HB1z.out.trans (below_drewN _ _ _)⟩
                case measure => first | (simp [intOf]; done) | (simp [intOf]; omega)
            · have f1 : (ty.toList == tx.toList) = false := by rw [HEQ.out]; simpa using ht1
              have HN2 : Hid' (seekM t T (EN : Int) (E.drop (j + 1)) (C.drop (j + 1)) = R) := ⟨by rw [← HS.out, HST.out, if_neg (eqNod_no2 ht1)]⟩
              clear HST HS ht1
              go_quiet (fail)
              go_wp2_with fail
              go_roundw
              case rel => exact ⟨j + 1, by go_num, by omega, HN2, HB1z.out.trans (below_drewN _ _ _)⟩
              case measure => first | (simp [intOf]; done) | (simp [intOf]; omega)
          · have f1 : (yk == kd) = false := by rw [beq_eq_false_iff_ne]; exact hk1
            have HN2 : Hid' (seekM t T (EN : Int) (E.drop (j + 1)) (C.drop (j + 1)) = R) := ⟨by rw [← HS.out, HST.out, if_neg (eqNod_no1 (by rw [HYK0.out]; exact hk1))]⟩
            clear HST HS hk1
            go_quiet (fail)
            go_wp2_with fail
            go_roundw
            case rel => exact ⟨j + 1, by go_num, by omega, HN2, HB1z.out.trans (below_drewN _ _ _)⟩
            case measure => first | (simp [intOf]; done) | (simp [intOf]; omega)
        · have HF : Hid' (R = (EN : Int)) := ⟨by rw [← HS.out, List.drop_eq_nil_of_le (by rw [HEN.out]; omega)]; rfl⟩
          go_wp2_with fail
          go_ret
          rw [HF.out]
          exact ⟨rfl, HB1.out.trans (bl.mono HB1.out.size)⟩
end Go.Proofs.YtbcmpacmoofdkaaGreatDoor
/- The memory of the document's Same: the rows of nodes and classes that it keeps. -/
namespace Go.Proofs.YtbcmpacmoofdkaaGreatDoor
open Go.ChangeShapes Go.WideShapes Go.ChangeAt Go.RowKit

def sixC (t : Nod) (k : Value × Value) : List Value := [.int .i64 t.kind, .string ⟨t.text.toArray⟩, k.1, k.2, .int .i64 t.line, .int .i64 t.column]
def nCells : List Nod → List (Value × Value) → List Value
  | t :: ns, k :: ks => sixC t k ++ nCells ns ks
  | _, _ => []
def kz : Value × Value := (.slice none 0 0, .slice none 0 0)
theorem nCells_len : ∀ (E : List Nod) (ks : List (Value × Value)), ks.length = E.length → (nCells E ks).length = E.length * 6
  | [], [], _ => rfl
  | [], _ :: _, h => absurd h (by simp)
  | _ :: _, [], h => absurd h (by simp)
  | t :: E, k :: ks, h => by
    show (sixC t k ++ nCells E ks).length = _
    rw [List.length_append, nCells_len E ks (by simpa using h), List.length_cons]
    simp [sixC]
    omega
theorem nCells_snoc : ∀ (E : List Nod) (ks : List (Value × Value)) (t : Nod) (k : Value × Value), ks.length = E.length → nCells (E ++ [t]) (ks ++ [k]) = nCells E ks ++ sixC t k
  | [], [], t, k, _ => by simp [nCells]
  | [], _ :: _, _, _, h => absurd h (by simp)
  | _ :: _, [], _, _, h => absurd h (by simp)
  | t' :: E, k' :: ks, t, k, h => by
    show sixC t' k' ++ nCells (E ++ [t]) (ks ++ [k]) = sixC t' k' ++ nCells E ks ++ sixC t k
    rw [nCells_snoc E ks t k (by simpa using h), List.append_assoc]
theorem nCells_at : ∀ (E : List Nod) (ks : List (Value × Value)), ks.length = E.length → ∀ j, j < E.length → ∀ c, c < 6 → (nCells E ks)[j * 6 + c]? = (sixC (E.getD j Nod.zero) (ks.getD j kz))[c]?
  | [], [], _, j, hj, _, _ => absurd hj (by simp)
  | [], _ :: _, h, _, _, _, _ => absurd h (by simp)
  | _ :: _, [], h, _, _, _, _ => absurd h (by simp)
  | t :: E, k :: ks, h, 0, _, c, hc => by
    show (sixC t k ++ nCells E ks)[0 * 6 + c]? = (sixC t k)[c]?
    rw [Nat.zero_mul, Nat.zero_add, List.getElem?_append_left (by simpa [sixC] using hc)]
  | t :: E, k :: ks, h, j + 1, hj, c, hc => by
    have ih := nCells_at E ks (by simpa using h) j (by simpa using hj) c hc
    show (sixC t k ++ nCells E ks)[(j + 1) * 6 + c]? = (sixC (E.getD j Nod.zero) (ks.getD j kz))[c]?
    rw [List.getElem?_append_right (by simp [sixC]; omega), ← ih]
    congr 1
    simp [sixC]
    omega
theorem nCells_turn (E : List Nod) (ks : List (Value × Value)) (t : Nod) (pv kv kv' : Value) (T : List Int) (h : ks.length = E.length) : (nCells E ks ++ sixC t (pv, kv)).set (E.length * 6 + 3) kv' = nCells (E ++ [{ t with kids := T }]) (ks ++ [(pv, kv')]) := by
  rw [nCells_snoc _ _ _ _ h, List.set_append_right _ _ (by rw [nCells_len _ _ h]; omega), nCells_len _ _ h]
  congr 1
  rw [show E.length * 6 + 3 - E.length * 6 = 3 by omega]
  rfl
/-- The rows of nodes, their kids in rows of their own. -/
structure RowsN (B B2 : Nat) (w : World) (lv cv : Value) (E : List Nod) (ks : List (Value × Value)) : Prop where
  len : ks.length = E.length
  own : w.ownsRow B2 37 6 lv E.length (nCells E ks)
  pk : ∀ j, j < E.length → RdP B w (ks.getD j kz).1 (E.getD j Nod.zero).path ∧ OwnZ B2 (ks.getD j kz).2 (E.getD j Nod.zero).kids w ∧ ∀ x, (ks.getD j kz).2.ownBlock = some x → cv.ownBlock ≠ some x
theorem RowsN.rdN {B B2 : Nat} {w : World} {lv cv : Value} {E : List Nod} {ks : List (Value × Value)} (h : RowsN B B2 w lv cv E ks) (hB : B ≤ w.heap.size) (hE : E.length ≤ 8796093022208) (hk : ∀ j, j < E.length → (E.getD j Nod.zero).kids.length ≤ 9223372036854775807) : RdN w.heap.size w lv E := by
  obtain ⟨ao, cap, hv⟩ := ownR_slice h.own
  subst hv
  refine ⟨ao, cap, rfl, hE, fun j hj => ?_⟩
  have ho := h.own
  obtain ⟨g, c, hvv, hg, hlt⟩ := ho.form (by omega)
  injection hvv with e1 e2 e3
  subst e1 e3
  obtain ⟨h1, h2, _⟩ := h.pk j hj
  have hc : ∀ c, c < 6 → w.cell? ⟨g, 0 + j * 6 + c, none⟩ = (sixC (E.getD j Nod.zero) (ks.getD j kz))[c]? := fun c hc => by
    rw [Nat.zero_add, ho.cellAt (j * 6 + c) (by omega), nCells_at E ks h.len j hj c hc]
  refine ⟨g, 0, (ks.getD j kz).1, (ks.getD j kz).2, rfl, hlt, ⟨?_, ?_, ?_, ?_, ?_, ?_, ?_, ?_⟩⟩
  · exact hc 0 (by omega)
  · exact hc 1 (by omega)
  · exact hc 2 (by omega)
  · exact hc 3 (by omega)
  · exact hc 4 (by omega)
  · exact hc 5 (by omega)
  · obtain ⟨ao, cap, hv, hm, hc⟩ := h1
    refine ⟨ao, cap, hv, hm, fun j hj => ?_⟩
    obtain ⟨a, ha, hl, hx⟩ := hc j hj
    exact ⟨a, ha, Nat.lt_of_lt_of_le hl hB, hx⟩
  · exact ownZ_rdI h2 (hk j hj)
theorem ownZ_keep {w w' : World} {B : Nat} {v : Value} {l : List Int} (h : OwnZ B v l w) (hk : ∀ g, v.ownBlock = some g → w'.heap[g]? = w.heap[g]?) : OwnZ B v l w' := row_keep h hk
/-- Other blocks than X stay: so do the rows, if none of them lies in X. -/
theorem RowsN.keep {B B2 : Nat} {w w' : World} {lv cv : Value} {E : List Nod} {ks : List (Value × Value)} (h : RowsN B B2 w lv cv E ks) (b : Below B w w') (hk : ∀ k, k < w.heap.size → B2 ≤ k → (lv.ownBlock = some k ∨ ∃ j, j < E.length ∧ (ks.getD j kz).2.ownBlock = some k) → w'.heap[k]? = w.heap[k]?) : RowsN B B2 w' lv cv E ks := by
  refine ⟨h.len, row_keep h.own fun g hg => hk g (h.own.lt g hg).2 (h.own.lt g hg).1 (.inl hg), fun j hj => ?_⟩
  obtain ⟨h1, h2, h3⟩ := h.pk j hj
  exact ⟨rdP_below h1 b, ownZ_keep h2 fun g hg => hk g (h2.lt g hg).2 (h2.lt g hg).1 (.inr ⟨j, hj, hg⟩), h3⟩
structure SS (B B2 fb AL : Nat) (w2 w : World) (g : Nat → Int) (lv cv : Value) (E : List Nod) (C : List Int) : Prop where
  bel : Below B w2 w
  sz : B2 ≤ w.heap.size
  low : ∀ k, k < B2 → k ≠ fb → w.heap[k]? = w2.heap[k]?
  fr : IntR w fb AL g
  row : ∃ ks, RowsN B B2 w lv cv E ks
  cl : OwnZ B2 cv C w
  len : C.length = E.length
theorem SS.below {B B2 fb AL : Nat} {w2 w w' : World} {g : Nat → Int} {lv cv : Value} {E : List Nod} {C : List Int} (h : SS B B2 fb AL w2 w g lv cv E C) (hB : B ≤ B2) (hfb : fb < B2) (b : Below w.heap.size w w') : SS B B2 fb AL w2 w' g lv cv E C := by
  have hsz := h.sz
  obtain ⟨ks, hr⟩ := h.row
  have bB : Below B w w' := b.mono (by omega)
  exact ⟨h.bel.trans bB, Nat.le_trans hsz b.size, fun k hk hne => (b.block k (by omega)).trans (h.low k hk hne), h.fr.below b (by omega), ⟨ks, hr.keep bB (fun k hk _ _ => b.block k hk)⟩, ownZ_keep h.cl fun g hg => b.block g (h.cl.lt g hg).2, h.len⟩
theorem SS.store {B B2 fb AL : Nat} {w2 w : World} {g : Nat → Int} {lv cv : Value} {E : List Nod} {C : List Int} (h : SS B B2 fb AL w2 w g lv cv E C) (hB : B ≤ fb) (hfb : fb < B2) {i : Nat} (hi : i < AL) (c : Int) : SS B B2 fb AL w2 (w.setCell ⟨fb, i, none⟩ (.int .i64 c)) (updN g i c) lv cv E C := by
  obtain ⟨ks, hr⟩ := h.row
  have hk : ∀ k, k ≠ fb → (w.setCell ⟨fb, i, none⟩ (.int .i64 c)).heap[k]? = w.heap[k]? := fun k hk => Below.heap_setCell _ _ _ _ hk
  have bB : Below B w (w.setCell ⟨fb, i, none⟩ (.int .i64 c)) := (Below.refl B w).setCell (p := ⟨fb, i, none⟩) hB _
  exact ⟨h.bel.trans bB, by have := h.sz; simpa using this, fun k hk' hne => (hk k hne).trans (h.low k hk' hne), h.fr.set hi c, ⟨ks, hr.keep bB (fun k _ h2 _ => hk k (by omega))⟩, ownZ_keep h.cl fun g hg => hk g (by have := (h.cl.lt g hg).1; omega), h.len⟩
end Go.Proofs.YtbcmpacmoofdkaaGreatDoor
/- The memory of the document's Same: a node and a class more. -/
namespace Go.Proofs.YtbcmpacmoofdkaaGreatDoor
open Go.ChangeShapes Go.WideShapes Go.ChangeAt Go.RowKit

/-- Both rows have grown; the new node's kids are still the old ones. -/
structure MidS (B B2 fb AL : Nat) (w2 w : World) (g : Nat → Int) (gl capl gc capc n : Nat) (E : List Nod) (C : List Int) (ks : List (Value × Value)) (t : Nod) (pv kv0 : Value) : Prop where
  bel : Below B w2 w
  sz : B2 ≤ w.heap.size
  low : ∀ k, k < B2 → k ≠ fb → w.heap[k]? = w2.heap[k]?
  fr : IntR w fb AL g
  klen : ks.length = E.length
  elen : E.length = n
  own : w.ownsRow B2 37 6 (.slice (some ⟨gl, 0, none⟩) (n + 1) capl) (n + 1) (nCells E ks ++ sixC t (pv, kv0))
  pk : ∀ j, j < n → RdP B w (ks.getD j kz).1 (E.getD j Nod.zero).path ∧ OwnZ B2 (ks.getD j kz).2 (E.getD j Nod.zero).kids w ∧ ∀ x, (ks.getD j kz).2.ownBlock = some x → x ≠ gc ∧ x ≠ gl
  pt : RdP B w pv t.path
  cl : OwnZ B2 (.slice (some ⟨gc, 0, none⟩) (n + 1) capc) C w
  gne : gl ≠ gc
theorem node_int : (37 : Nat) ≠ 3 := by decide
theorem mid_of {B B2 fb AL : Nat} {w2 W W1 w6 W2 w7 : World} {g : Nat → Int} {lv cv : Value} {E : List Nod} {C : List Int} {ks : List (Value × Value)} {n gl capl gc capc : Nat} {t : Nod} {pv kv0 : Value} {c : Int}
    (h : SS B B2 fb AL w2 W g lv cv E C) (hr : RowsN B B2 W lv cv E ks) (hB : B ≤ fb) (hfb : fb < B2) (hn : E.length = n)
    (u1 : Below W.heap.size W W1) (g6 : W1.grownBy w6 lv.ownBlock) (a6 : lv.ownBlock = some gl ∨ gl = W1.heap.size) (o6 : w6.ownsRow B2 37 6 (.slice (some ⟨gl, 0, none⟩) (n + 1) capl) (n + 1) (nCells E ks ++ sixC t (pv, kv0)))
    (u2 : Below w6.heap.size w6 W2) (g7 : W2.grownBy w7 cv.ownBlock) (a7 : cv.ownBlock = some gc ∨ gc = W2.heap.size) (o7 : w7.ownsRow B2 3 1 (.slice (some ⟨gc, 0, none⟩) (n + 1) capc) (n + 1) (zCells C ++ [.int .i64 c])) (hp : RdP B W pv t.path) :
    MidS B B2 fb AL w2 w7 g gl capl gc capc n E (C ++ [c]) ks t pv kv0 := by
  have s1 := u1.size
  have s6 := g6.size
  have s2 := u2.size
  have s7 := g7.size
  have sW := h.sz
  have hlv : ∀ k, lv.ownBlock = some k → B2 ≤ k ∧ k < W.heap.size := fun k hk => hr.own.lt k hk
  have hcv : ∀ k, cv.ownBlock = some k → B2 ≤ k ∧ k < W.heap.size := fun k hk => h.cl.lt k hk
  have keep : ∀ k, k < W.heap.size → lv.ownBlock ≠ some k → cv.ownBlock ≠ some k → w7.heap[k]? = W.heap[k]? := fun k hk hl hc => by
    rw [g7.block k (by omega) (fun e => hc e.symm), u2.block k (by omega), g6.block k (by omega) (fun e => hl e.symm), u1.block k hk]
  have low7 : ∀ k, k < B2 → w7.heap[k]? = W.heap[k]? := fun k hk => keep k (by omega) (fun e => by have := (hlv k e).1; omega) (fun e => by have := (hcv k e).1; omega)
  have b7 : Below B W w7 := ⟨by rw [g7.os, u2.os, g6.os, u1.os], by rw [g7.tape, u2.tape, g6.tape, u1.tape], by rw [g7.output, u2.output, g6.output, u1.output], by omega, fun k hk => low7 k (by omega)⟩
  have hlc : ∀ x, lv.ownBlock = some x → cv.ownBlock ≠ some x := rows_apart hr.own h.cl node_int
  have o6' : W2.ownsRow B2 37 6 (.slice (some ⟨gl, 0, none⟩) (n + 1) capl) (n + 1) (nCells E ks ++ sixC t (pv, kv0)) := own_kept o6 u2
  have hgl6 : gl < w6.heap.size := (o6.lt gl rfl).2
  have hglc : cv.ownBlock ≠ some gl := fun e => by
    rcases a6 with e' | e'
    · exact hlc gl e' e
    · have := (hcv gl e).2; omega
  have gne : gl ≠ gc := fun e => by
    subst e
    rcases a7 with e' | e'
    · exact hglc e'
    · omega
  have o67 : w7.ownsRow B2 37 6 (.slice (some ⟨gl, 0, none⟩) (n + 1) capl) (n + 1) (nCells E ks ++ sixC t (pv, kv0)) := row_keep o6' fun x hx => by
    have : x = gl := by simpa [Value.ownBlock] using hx.symm
    subst this
    exact g7.block x (by omega) (fun e => hglc e.symm)
  refine ⟨h.bel.trans b7, by omega, fun k hk hne => (low7 k hk).trans (h.low k hk hne), ⟨fun j hj => ?_, fun j hj => ?_⟩, hr.len, hn, o67, fun j hj => ?_, rdP_below hp b7, ?_, gne⟩
  · exact (World.cell?_of_block (a := ⟨fb, j, none⟩) (low7 fb hfb)).trans (h.fr.cells j hj)
  · exact (World.frozen?_of_block (a := ⟨fb, j, none⟩) (low7 fb hfb)).trans (h.fr.froze j hj)
  · obtain ⟨h1, h2, h3⟩ := hr.pk j (by omega)
    have hx : ∀ x, (ks.getD j kz).2.ownBlock = some x → x < W.heap.size ∧ lv.ownBlock ≠ some x ∧ cv.ownBlock ≠ some x := fun x hx => ⟨(h2.lt x hx).2, fun e => rows_apart hr.own h2 node_int x e hx, h3 x hx⟩
    refine ⟨rdP_below h1 b7, ownZ_keep h2 fun x e => keep x (hx x e).1 (hx x e).2.1 (hx x e).2.2, fun x e => ⟨fun eg => ?_, fun eg => ?_⟩⟩
    · subst eg
      rcases a7 with e' | e'
      · exact (hx x e).2.2 e'
      · have := (hx x e).1; omega
    · subst eg
      rcases a6 with e' | e'
      · exact (hx x e).2.1 e'
      · have := (hx x e).1; omega
  · have hC : C.length = n := by rw [h.len]; exact hn
    exact ownZ_snoc hC o7
theorem getD_snoc_lt {α : Type} (l : List α) (x d : α) (j : Nat) (h : j < l.length) : (l ++ [x]).getD j d = l.getD j d := by
  simp [List.getD, List.getElem?_append_left h]
theorem getD_snoc_eq {α : Type} (l : List α) (x d : α) : (l ++ [x]).getD l.length d = x := by
  simp [List.getD]
theorem mid_end {B B2 fb AL : Nat} {w2 w W8 : World} {g : Nat → Int} {E : List Nod} {C : List Int} {ks : List (Value × Value)} {n gl capl gc capc : Nat} {t : Nod} {pv kv0 kv : Value} {T : List Int}
    (h : MidS B B2 fb AL w2 w g gl capl gc capc n E C ks t pv kv0) (hBB : B ≤ B2) (hfb : fb < B2) (hC : C.length = n + 1) (b8 : Below w.heap.size w W8) (ok : OwnZ w.heap.size kv T W8) :
    SS B B2 fb AL w2 (W8.setCell ⟨gl, n * 6 + 3, none⟩ kv) g (.slice (some ⟨gl, 0, none⟩) (n + 1) capl) (.slice (some ⟨gc, 0, none⟩) (n + 1) capc) (E ++ [{ t with kids := T }]) C := by
  have sz := h.sz
  have s8 := b8.size
  have hgl := h.own.lt gl rfl
  have hgc := h.cl.lt gc rfl
  have o8 := own_kept h.own b8
  have hk : ∀ k, k ≠ gl → (W8.setCell ⟨gl, n * 6 + 3, none⟩ kv).heap[k]? = W8.heap[k]? := fun k hk => Below.heap_setCell _ _ _ _ hk
  have hk2 : ∀ k, k < w.heap.size → k ≠ gl → (W8.setCell ⟨gl, n * 6 + 3, none⟩ kv).heap[k]? = w.heap[k]? := fun k hk1 hk3 => (hk k hk3).trans (b8.block k hk1)
  have bB : Below B w (W8.setCell ⟨gl, n * 6 + 3, none⟩ kv) := (b8.mono (by omega)).setCell (p := ⟨gl, n * 6 + 3, none⟩) (by show B ≤ gl; omega) _
  have hkv : ∀ x, kv.ownBlock = some x → w.heap.size ≤ x := fun x hx => (ok.lt x hx).1
  refine ⟨h.bel.trans bB, by simp; omega, fun k hk' hne => (hk2 k (by omega) (by omega)).trans (h.low k hk' hne), (h.fr.below b8 (by omega)).setOther (a := ⟨gl, n * 6 + 3, none⟩) (by show fb ≠ gl; omega) _, ⟨ks ++ [(pv, kv)], ⟨?_, ?_, fun j hj => ?_⟩⟩, ?_, ?_⟩
  · rw [List.length_append, List.length_append, h.klen]; rfl
  · have h1 := (o8.stored (n * 6 + 3) kv).1
    have e := nCells_turn E ks t pv kv0 kv T h.klen
    rw [h.elen] at e
    rw [e] at h1
    rw [List.length_append, h.elen]
    exact h1
  · rw [List.length_append, h.elen, List.length_singleton] at hj
    by_cases e : j < n
    · rw [getD_snoc_lt _ _ _ _ (by rw [h.klen, h.elen]; exact e), getD_snoc_lt _ _ _ _ (by rw [h.elen]; exact e)]
      obtain ⟨h1, h2, h3⟩ := h.pk j e
      refine ⟨rdP_below h1 bB, ownZ_keep h2 fun x hx => hk2 x (h2.lt x hx).2 (h3 x hx).2, fun x hx e2 => ?_⟩
      have : gc = x := by simpa [Value.ownBlock] using e2
      exact (h3 x hx).1 this.symm
    · have hjn : j = n := by omega
      subst hjn
      have e1 : (ks ++ [(pv, kv)]).getD j kz = (pv, kv) := by have := getD_snoc_eq ks (pv, kv) kz; rw [h.klen, h.elen] at this; exact this
      have e2 : (E ++ [{ t with kids := T }]).getD j Nod.zero = { t with kids := T } := by have := getD_snoc_eq E { t with kids := T } Nod.zero; rw [h.elen] at this; exact this
      rw [e1, e2]
      refine ⟨rdP_below h.pt bB, ownZ_keep (row_mono ok (by omega)) fun x hx => hk x (by have := hkv x hx; omega), fun x hx e3 => ?_⟩
      have : gc = x := by simpa [Value.ownBlock] using e3
      have := hkv x hx
      omega
  · exact ownZ_keep h.cl fun x hx => by
      have : gc = x := by simpa [Value.ownBlock] using hx
      subst this
      exact hk2 gc hgc.2 (fun e => h.gne e.symm)
  · rw [hC, List.length_append, h.elen]; rfl
end Go.Proofs.YtbcmpacmoofdkaaGreatDoor
