/- The program's scanner: Scan. -/
import Derived.Test.YtbcmpacmoofdkaaGreatDoorProg
import Derived.Test.YtbcmpacmoofdkaaGreatDoorLexD16
import Derived.WalkKit
import Derived.ProofKit
import Derived.OpenShut
import Derived.Below
import Derived.WalkLawsBesides
import Derived.OwnWalk
import Derived.BigQuiet
import Derived.WalkSmall
import Derived.Deep.MidRow
import Derived.Deep.RegionHeld
import Derived.Deep.RegionHeld3
namespace Go.Proofs.YtbcmpacmoofdkaaGreatDoor
open Go.ChangeShapes Go.WideShapes Go.ChangeAt Go.RowKit

def strSize : Value → Nat
  | .string s => s.size
  | _ => 0
theorem PathsOk.low {B B' : Nat} {w : World} (hb : B' ≤ B) : ∀ {l : List Tok} {ps : List Value}, PathsOk B w l ps → PathsOk B' w l ps
  | [], [], _ => trivial
  | _ :: _, _ :: _, h => ⟨ownS_mono h.1 hb, PathsOk.low hb h.2⟩
  | [], _ :: _, h => h.elim
  | _ :: _, [], h => h.elim
theorem tokRow_mono {B B' : Nat} {v : Value} {l : List Tok} {w : World} (h : TokRow B v l w) (hb : B' ≤ B) : TokRow B' v l w := by
  obtain ⟨ps, h1, h2⟩ := h
  refine ⟨ps, h1.low hb, h2.1, ?_⟩
  rcases h2.2 with h0 | ⟨g, cap, cur, hv, hg, hr⟩
  · exact .inl h0
  · exact .inr ⟨g, cap, cur, hv, Nat.le_trans hb hg, hr⟩
theorem scanL_of {L : List UInt8} {S : List Tok × Option (Nat × Nat × Nat)} (h : ¬ 1048576 < L.length) (hS : scanP (1, 1) L = S) : (S.2 = none → scanL L = (S.1, 0, 0, 0)) ∧ (∀ x y e, S.2 = some (x, y, e) → scanL L = ([], x, y, e)) := by
  unfold scanL
  rw [if_neg h, hS]
  exact ⟨fun g => by rw [g], fun x y e g => by rw [g]⟩
theorem empty_of {r : ByteArray} (h : r.size = 0) : r = ⟨#[]⟩ := by
  apply ByteArray.ext
  exact Array.eq_empty_of_size_eq_zero h
theorem nempty_of {r : ByteArray} (h : 0 < r.size) : (r.toList == []) = false := by
  rw [ByteArray.toList_eq]
  have := drop_at r 0 h
  rw [List.drop_zero] at this
  rw [this]; rfl

theorem ownS_set_ne {B b k : Nat} {v u : Value} {l : List (List UInt8)} {w : World} (h : OwnS B v l w) (hb : ∀ g, v.ownBlock = some g → g ≠ b) : OwnS B v l (w.setCell ⟨b, k, none⟩ u) := by
  refine ⟨h.1, ?_⟩
  rcases h.2 with h0 | ⟨g, cap, cur, hv, hg, hw, hr⟩
  · exact .inl h0
  · refine .inr ⟨g, cap, cur, hv, hg, ?_, hr⟩
    rw [Below.heap_setCell _ _ _ _ (by show g ≠ b; exact hb g (by rw [hv]; rfl))]
    exact hw
theorem ownS_drew {B : Nat} {v : Value} {l : List (List UInt8)} {w : World} (h : OwnS B v l w) : OwnS B v l w.drew := ownS_below h (Below.refl _ _).drew
/-- A token's cells, once its place is written. -/
theorem five_cells {w : World} {b : Nat} {c0 c1 c2 c3 c4 v3 v4 : Value} (t0 : w.cell? ⟨b, 0, none⟩ = some c0) (t1 : w.cell? ⟨b, 1, none⟩ = some c1) (t2 : w.cell? ⟨b, 2, none⟩ = some c2) (t3 : w.cell? ⟨b, 3, none⟩ = some c3) (t4 : w.cell? ⟨b, 4, none⟩ = some c4) :
    ((w.setCell ⟨b, 3, none⟩ v3).setCell ⟨b, 4, none⟩ v4).drew.cell? ⟨b, 0, none⟩ = some c0 ∧ ((w.setCell ⟨b, 3, none⟩ v3).setCell ⟨b, 4, none⟩ v4).drew.cell? ⟨b, 1, none⟩ = some c1 ∧ ((w.setCell ⟨b, 3, none⟩ v3).setCell ⟨b, 4, none⟩ v4).drew.cell? ⟨b, 2, none⟩ = some c2
    ∧ ((w.setCell ⟨b, 3, none⟩ v3).setCell ⟨b, 4, none⟩ v4).drew.cell? ⟨b, 3, none⟩ = some v3 ∧ ((w.setCell ⟨b, 3, none⟩ v3).setCell ⟨b, 4, none⟩ v4).drew.cell? ⟨b, 4, none⟩ = some v4 := by
  have d : ∀ (W : World) a, W.drew.cell? a = W.cell? a := fun _ _ => rfl
  simp only [d]
  have e3 : (w.setCell ⟨b, 3, none⟩ v3).cell? ⟨b, 4, none⟩ = some c4 := by rw [World.cell?_setCell_other _ _ _ _ (by simp)]; exact t4
  refine ⟨?_, ?_, ?_, ?_, World.cell?_setCell_same _ _ _ e3⟩
  · rw [World.cell?_setCell_other _ _ _ _ (by simp), World.cell?_setCell_other _ _ _ _ (by simp)]; exact t0
  · rw [World.cell?_setCell_other _ _ _ _ (by simp), World.cell?_setCell_other _ _ _ _ (by simp)]; exact t1
  · rw [World.cell?_setCell_other _ _ _ _ (by simp), World.cell?_setCell_other _ _ _ _ (by simp)]; exact t2
  · rw [World.cell?_setCell_other _ _ _ _ (by simp)]; exact World.cell?_setCell_same _ _ _ t3
theorem two_cells {w : World} {b : Nat} {u0 u1 v0 v1 : Value} (h0 : w.cell? ⟨b, 0, none⟩ = some u0) (h1 : w.cell? ⟨b, 1, none⟩ = some u1) :
    ((w.setCell ⟨b, 0, none⟩ v0).setCell ⟨b, 1, none⟩ v1).cell? ⟨b, 0, none⟩ = some v0 ∧ ((w.setCell ⟨b, 0, none⟩ v0).setCell ⟨b, 1, none⟩ v1).cell? ⟨b, 1, none⟩ = some v1 := by
  have e1 : (w.setCell ⟨b, 0, none⟩ v0).cell? ⟨b, 1, none⟩ = some u1 := by rw [World.cell?_setCell_other _ _ _ _ (by simp)]; exact h1
  refine ⟨?_, World.cell?_setCell_same _ _ _ e1⟩
  rw [World.cell?_setCell_other _ _ _ _ (by simp)]
  exact World.cell?_setCell_same _ _ _ h0

set_option maxRecDepth 100000 in
set_option maxHeartbeats 16000000 in
theorem scan_any (s : ByteArray) (hs : s.size ≤ 281474976710656) (w : World) (RD : Rdy w) : Calls Tryz.prog 16 #[.string s] w fun e w' => ScanV w.heap.size (scanL s.data.toList) e w' ∧ Below w.heap.size w w' := by
  obtain ⟨i0, hi, hz0, hz1, hz2⟩ := info_parts infoTok3
  by_cases hlong : 1048576 < s.size
  · have HR : Hid (scanL s.data.toList = ([], 0, 0, 2)) := by show _ = _; unfold scanL; rw [if_pos (by rw [size_list]; exact hlong)]
    rw [HR.out]
    clear HR
    go_enter Tryz.func16, Tryz.ntmps16
    go_wp2
    refine bodyPost_ret (results_tmp4 rfl _ _ _) rfl ?_
    exact ⟨⟨_, tokRow_nil _ _, rfl⟩, Below.refl _ _⟩
  · obtain ⟨S, hS⟩ : ∃ S, scanP (1, 1) s.data.toList = S := ⟨_, rfl⟩
    have HF := hide (scanL_of (by rw [size_list]; exact hlong) hS)
    have H0 : Hid (ScanAt S s.data.toList [] 1 1 0) := ⟨by rw [List.drop_zero, hS]; simp, by omega, by omega, by omega, by omega, by simp⟩
    obtain ⟨R, hR⟩ : ∃ R, scanL s.data.toList = R := ⟨_, rfl⟩
    rw [hR] at HF ⊢
    have hs2 : s.size ≤ 1048576 := by omega
    clear hS hR hs
    have RDh := hide RD
    clear RD
    obtain ⟨W1, hW1⟩ : ∃ W1, w.alloc (.cells tableC 105) = W1 := ⟨_, rfl⟩
    have T1 : Hid (IsTab W1 w.heap.size) := by rw [← hW1]; exact isTab_new w
    have S1 : W1.heap.size = w.heap.size + 1 := by rw [← hW1]; simp
    have B1 : Hid (Below w.heap.size w W1) := by rw [← hW1]; exact (Below.refl _ _).alloc (Nat.le_refl _) _
    have CRD := hide (readers_any w)
    rw [hW1] at CRD
    clear hW1
    go_enter Tryz.func16, Tryz.ntmps16
    go_wp2_with (go_at_call 35; refine CRD.out.mono ?_; rintro e w1 ⟨rfl, h9⟩; replace h9 := h9.symm; subst h9)
    have P0 : (W1.alloc (.cells #[.int .i64 1, .int .i64 1] 68)).cell? ⟨w.heap.size + 1, 0, none⟩ = some (.int .i64 1) := by rw [← S1]; simp
    have P1 : (W1.alloc (.cells #[.int .i64 1, .int .i64 1] 68)).cell? ⟨w.heap.size + 1, 1, none⟩ = some (.int .i64 1) := by rw [← S1]; simp
    have Q0 : (W1.alloc (.cells #[.int .i64 1, .int .i64 1] 68)).frozen? ⟨w.heap.size + 1, 0, none⟩ = false := by rw [← S1]; simp
    have Q1 : (W1.alloc (.cells #[.int .i64 1, .int .i64 1] 68)).frozen? ⟨w.heap.size + 1, 1, none⟩ = false := by rw [← S1]; simp
    have B0 : Below W1.heap.size W1 (W1.alloc (.cells #[.int .i64 1, .int .i64 1] 68)) := (Below.refl _ _).alloc (Nat.le_refl _) _
    have S0 : (W1.alloc (.cells #[.int .i64 1, .int .i64 1] 68)).heap.size = w.heap.size + 2 := by simp; omega
    generalize W1.alloc (.cells #[.int .i64 1, .int .i64 1] 68) = W0 at *
    go_loopw [6, 9] (fun va vl wr => ∃ (i x y : Nat) (ts : List Tok) (r : ByteArray), vl = .string r ∧ r.size + i = s.size ∧ Hid (r.data.toList = s.data.toList.drop i ∧ TokRow (w.heap.size + 2) va ts wr ∧ ScanAt S s.data.toList ts x y i) ∧ wr.cell? ⟨w.heap.size + 1, 0, none⟩ = some (.int .i64 (x : Int)) ∧ wr.cell? ⟨w.heap.size + 1, 1, none⟩ = some (.int .i64 (y : Int)) ∧ wr.frozen? ⟨w.heap.size + 1, 0, none⟩ = false ∧ wr.frozen? ⟨w.heap.size + 1, 1, none⟩ = false ∧ Below W1.heap.size W1 wr ∧ w.heap.size + 2 ≤ wr.heap.size) (fun _ vl _ => strSize vl)
    case atStart => exact ⟨0, 1, 1, [], s, rfl, rfl, ⟨by rw [List.drop_zero], tokRow_nil _ _, H0.out⟩, P0, P1, Q0, Q1, B0, by omega⟩
    case round =>
      obtain ⟨i, x, y, ts, r, rfl, hri, HI, c0, c1, f0, f1, bel, hsz⟩ := hrel
      obtain ⟨hr, htr, hsc⟩ := HI.out
      obtain ⟨hx, hy⟩ : x ≤ 1048577 ∧ y ≤ 1048577 := by obtain ⟨_, _, a1, _, a2, _⟩ := hsc; omega
      clear P0 P1 Q0 Q1 B0 S0
      by_cases h0 : 0 < r.size
      · have hne := nempty_of h0
        have HT2 := hide (T1.out.below bel)
        have RD2 := hide (RDh.out.below (B1.out.trans (bel.mono (by omega))))
        have CRE := hide (read_any r w.heap.size wr RD2.out HT2.out h0 (by omega))
        rw [hr] at CRE
        cases hrd : rdL (s.data.toList.drop i) with
        | bad e =>
          have HE : Hid (R = ([], x, y, e)) := HF.out.2 x y e (hsc.bad (by rw [size_list]; omega) hrd)
          have he := rdL_err hrd
          rw [hrd] at CRE
          have ge : ((e : Int) != 0) = true := by simp; omega
          clear hrd HI hr htr hsc HF H0
          go_wp2_with (go_at_call 36; refine CRE.out.mono ?_; rintro e' w1 ⟨hv, b1⟩; (have hv2 : e' = .returned (.tuple #[.agg #[.int .i64 0, .string ⟨#[]⟩, .slice none 0 0, .int .i64 0, .int .i64 0], .int .i64 0, .int .i64 (e : Int)]) := hv); subst hv2; clear hv; have k0 := fun o => ((b1.alloc b1.size o).cell (p := ⟨w.heap.size + 1, 0, none⟩) (show w.heap.size + 1 < wr.heap.size by omega)).trans c0; have k1 := fun o => ((b1.alloc b1.size o).cell (p := ⟨w.heap.size + 1, 1, none⟩) (show w.heap.size + 1 < wr.heap.size by omega)).trans c1)
          go_quiet (fail)
          go_wp2
          refine bodyPost_ret (results_tmp4 rfl _ _ _) rfl ?_
          rw [HE.out]
          refine ⟨⟨_, tokRow_nil _ _, rfl⟩, ?_⟩
          exact below_drewN ((B1.out.trans (bel.mono (by omega))).trans ((b1.alloc b1.size _).mono (by omega))) _
        | got k t q n =>
          have hn := rdL_le hrd
          rw [List.length_drop, size_list] at hn
          have hk7 := rdL_kind hrd
          rw [hrd] at CRE
          obtain ⟨u, hu⟩ : ∃ u, r.extract 0 n = u := ⟨_, rfl⟩
          have hul : u.data.toList = (s.data.toList.drop i).take n := by rw [← hu, ext_take, hr]
          have hus : u.size ≤ 1073741824 := by rw [← hu, ByteArray.size_extract]; omega
          have CBH := hide (fun W => behind_any x y u (by omega) (by omega) hus W)
          rw [hul] at CBH
          obtain ⟨r2, hr2⟩ : ∃ u, r.extract n r.size = u := ⟨_, rfl⟩
          have hr2l : r2.data.toList = s.data.toList.drop (i + n) := by rw [← hr2, ext_list, hr, List.drop_drop]
          have hr2s : r2.size + n = r.size := by rw [← hr2, ByteArray.size_extract]; omega
          have hnr : n ≤ r.size := by omega
          have HR2 := hide hr2l
          clear hul hr2l
          obtain ⟨z, hz⟩ : ∃ z : ByteArray, ByteArray.mk t.toArray = z := ⟨_, rfl⟩
          have HZ := hide hz
          obtain ⟨ql, hql⟩ : ∃ ql, q.length = ql := ⟨_, rfl⟩
          have HQL := hide hql
          by_cases hk0 : k = 0
          · subst hk0
            have HA := hide (hsc.skip hrd)
            have HTR := hide htr
            obtain ⟨P, hP⟩ : ∃ P, placeL (x, y) ((s.data.toList.drop i).take n) = P := ⟨_, rfl⟩
            rw [hP] at CBH HA
            clear hrd HI hr htr hsc HF H0 hP hz hql
            go_wp2_with (go_at_call 36; refine CRE.out.mono ?_; rintro e' w1 ⟨⟨pv, hpv, hv⟩, b1⟩; (obtain ⟨ao, cap, hps⟩ := ownS_slice hpv); subst hps; rw [HQL.out] at hpv hv; clear hpv; (have hv2 : e' = .returned (.tuple #[.agg #[.int .i64 0, .string (ByteArray.mk t.toArray), .slice ao ql cap, .int .i64 0, .int .i64 0], .int .i64 (n : Int), .int .i64 0]) := hv); subst hv2; clear hv; rw [HZ.out]; have k0 := fun o => ((b1.alloc b1.size o).cell (p := ⟨w.heap.size + 1, 0, none⟩) (show w.heap.size + 1 < wr.heap.size by omega)).trans c0; have k1 := fun o => ((b1.alloc b1.size o).cell (p := ⟨w.heap.size + 1, 1, none⟩) (show w.heap.size + 1 < wr.heap.size by omega)).trans c1; have j0 := fun o => ((b1.alloc b1.size o).frozen (p := ⟨w.heap.size + 1, 0, none⟩) (show w.heap.size + 1 < wr.heap.size by omega)).trans f0; have j1 := fun o => ((b1.alloc b1.size o).frozen (p := ⟨w.heap.size + 1, 1, none⟩) (show w.heap.size + 1 < wr.heap.size by omega)).trans f1)
            have B2 := hide (b1.alloc b1.size (.cells #[.int .i64 0, .string z, .slice ao ql cap, .int .i64 0, .int .i64 0] 72))
            have S2 := B2.out.size
            replace k0 := k0 (.cells #[.int .i64 0, .string z, .slice ao ql cap, .int .i64 0, .int .i64 0] 72)
            replace k1 := k1 (.cells #[.int .i64 0, .string z, .slice ao ql cap, .int .i64 0, .int .i64 0] 72)
            replace j0 := j0 (.cells #[.int .i64 0, .string z, .slice ao ql cap, .int .i64 0, .int .i64 0] 72)
            replace j1 := j1 (.cells #[.int .i64 0, .string z, .slice ao ql cap, .int .i64 0, .int .i64 0] 72)
            generalize w1.alloc (.cells #[.int .i64 0, .string z, .slice ao ql cap, .int .i64 0, .int .i64 0] 72) = W2 at *
            clear c0 c1 f0 f1
            go_region_with (first
              | (go_at_call 37; refine (CBH.out _).mono ?_; rintro e3 w3 ⟨rfl, b3⟩; have m0 := (b3.cell (p := ⟨w.heap.size + 1, 0, none⟩) (show w.heap.size + 1 < _ by simp; omega)).trans k0; have m1 := (b3.cell (p := ⟨w.heap.size + 1, 1, none⟩) (show w.heap.size + 1 < _ by simp; omega)).trans k1; have n0 := (b3.frozen (p := ⟨w.heap.size + 1, 0, none⟩) (show w.heap.size + 1 < _ by simp; omega)).trans j0; have n1 := (b3.frozen (p := ⟨w.heap.size + 1, 1, none⟩) (show w.heap.size + 1 < _ by simp; omega)).trans j1))
            go_wp2
            go_roundw
            case rel =>
              have B3 : Below wr.heap.size wr w3 := B2.out.drew.trans (b3.mono S2)
              obtain ⟨e0, e1⟩ := two_cells (v0 := .int .i64 (P.1 : Int)) (v1 := .int .i64 (P.2 : Int)) m0 m1
              refine ⟨i + n, P.1, P.2, ts, r2, rfl, by omega, ⟨HR2.out, tokRow_set (tokRow_set (tokRow_below HTR.out B3) (by omega)) (by omega), HA.out⟩, e0, e1, by simpa using n0, by simpa using n1, ?_, ?_⟩
              · exact ((bel.trans (B3.mono bel.size)).setCell (p := ⟨w.heap.size + 1, 0, none⟩) (by show W1.heap.size ≤ w.heap.size + 1; omega) _).setCell (p := ⟨w.heap.size + 1, 1, none⟩) (by show W1.heap.size ≤ w.heap.size + 1; omega) _
              · have := B3.size; simp; omega
            case measure => simp [strSize]; omega
          · have HA := hide (hsc.more hk0 hrd)
            have htl : ts.length ≤ 1048576 := by obtain ⟨_, _, _, _, _, a6⟩ := hsc; omega
            have HTR := hide htr
            obtain ⟨P, hP⟩ : ∃ P, placeL (x, y) ((s.data.toList.drop i).take n) = P := ⟨_, rfl⟩
            rw [hP] at CBH HA
            have gk : ((k : Int) != 0) = true := by simp; omega
            clear hrd HI hr htr hsc HF H0 hP hz hql hk0
            go_wp2_with (go_at_call 36; refine CRE.out.mono ?_; rintro e' w1 ⟨⟨pv, hpv, hv⟩, b1⟩; (obtain ⟨ao, cap, hps⟩ := ownS_slice hpv); subst hps; rw [HQL.out] at hpv hv; (have HPV := hide hpv); clear hpv; (have hv2 : e' = .returned (.tuple #[.agg #[.int .i64 (k : Int), .string (ByteArray.mk t.toArray), .slice ao ql cap, .int .i64 0, .int .i64 0], .int .i64 (n : Int), .int .i64 0]) := hv); subst hv2; clear hv; rw [HZ.out]; have k0 := fun o => ((b1.alloc b1.size o).cell (p := ⟨w.heap.size + 1, 0, none⟩) (show w.heap.size + 1 < wr.heap.size by omega)).trans c0; have k1 := fun o => ((b1.alloc b1.size o).cell (p := ⟨w.heap.size + 1, 1, none⟩) (show w.heap.size + 1 < wr.heap.size by omega)).trans c1; have j0 := fun o => ((b1.alloc b1.size o).frozen (p := ⟨w.heap.size + 1, 0, none⟩) (show w.heap.size + 1 < wr.heap.size by omega)).trans f0; have j1 := fun o => ((b1.alloc b1.size o).frozen (p := ⟨w.heap.size + 1, 1, none⟩) (show w.heap.size + 1 < wr.heap.size by omega)).trans f1)
            obtain ⟨⟨t0, t1, t2, t3, t4⟩, ⟨g0, g1, g2, g3, g4⟩, _, _⟩ := cell5 (new5 w1 (.int .i64 (k : Int)) (.string z) (.slice ao ql cap) (.int .i64 0) (.int .i64 0) 72)
            have B2 := hide (b1.alloc b1.size (.cells #[.int .i64 (k : Int), .string z, .slice ao ql cap, .int .i64 0, .int .i64 0] 72))
            have HPV2 := hide (ownS_alloc HPV.out (.cells #[.int .i64 (k : Int), .string z, .slice ao ql cap, .int .i64 0, .int .i64 0] 72))
            have S2 : (w1.alloc (.cells #[.int .i64 (k : Int), .string z, .slice ao ql cap, .int .i64 0, .int .i64 0] 72)).heap.size = w1.heap.size + 1 := by simp
            replace k0 := k0 (.cells #[.int .i64 (k : Int), .string z, .slice ao ql cap, .int .i64 0, .int .i64 0] 72)
            replace k1 := k1 (.cells #[.int .i64 (k : Int), .string z, .slice ao ql cap, .int .i64 0, .int .i64 0] 72)
            replace j0 := j0 (.cells #[.int .i64 (k : Int), .string z, .slice ao ql cap, .int .i64 0, .int .i64 0] 72)
            replace j1 := j1 (.cells #[.int .i64 (k : Int), .string z, .slice ao ql cap, .int .i64 0, .int .i64 0] 72)
            generalize w1.alloc (.cells #[.int .i64 (k : Int), .string z, .slice ao ql cap, .int .i64 0, .int .i64 0] 72) = W2 at *
            have hT1 := b1.size
            obtain ⟨T, hT⟩ : ∃ T, w1.heap.size = T := ⟨_, rfl⟩
            rw [hT] at t0 t1 t2 t3 t4 g0 g1 g2 g3 g4 S2 hT1 ⊢
            have hTp : ¬ T = w.heap.size + 1 := by omega
            have hTq : ¬ w.heap.size + 1 = T := by omega
            have HG : Hid (∀ g, (Value.slice ao ql cap).ownBlock = some g → g ≠ T) := fun g hg => Nat.ne_of_lt (by rw [← hT]; exact (HPV.out.lt g hg).2)
            clear c0 c1 f0 f1 HPV hT b1
            go_region
            obtain ⟨t0', t1', t2', t3', t4'⟩ := five_cells (v3 := .int .i64 (x : Int)) (v4 := .int .i64 (y : Int)) t0 t1 t2 t3 t4
            have HPV3 := hide (ownS_drew (ownS_set_ne (k := 4) (u := .int .i64 (y : Int)) (ownS_set_ne (k := 3) (u := .int .i64 (x : Int)) HPV2.out HG.out) HG.out))
            have B3 := hide (((B2.out.setCell (p := ⟨T, 3, none⟩) hT1 (.int .i64 (x : Int))).setCell (p := ⟨T, 4, none⟩) hT1 (.int .i64 (y : Int))).drew)
            have k0' : ((W2.setCell ⟨T, 3, none⟩ (.int .i64 (x : Int))).setCell ⟨T, 4, none⟩ (.int .i64 (y : Int))).drew.cell? ⟨w.heap.size + 1, 0, none⟩ = some (.int .i64 (x : Int)) := (B3.out.cell (p := ⟨w.heap.size + 1, 0, none⟩) (show w.heap.size + 1 < wr.heap.size by omega)).trans ((B2.out.cell (p := ⟨w.heap.size + 1, 0, none⟩) (show w.heap.size + 1 < wr.heap.size by omega)).symm.trans k0)
            have k1' : ((W2.setCell ⟨T, 3, none⟩ (.int .i64 (x : Int))).setCell ⟨T, 4, none⟩ (.int .i64 (y : Int))).drew.cell? ⟨w.heap.size + 1, 1, none⟩ = some (.int .i64 (y : Int)) := (B3.out.cell (p := ⟨w.heap.size + 1, 1, none⟩) (show w.heap.size + 1 < wr.heap.size by omega)).trans ((B2.out.cell (p := ⟨w.heap.size + 1, 1, none⟩) (show w.heap.size + 1 < wr.heap.size by omega)).symm.trans k1)
            have j0' : ((W2.setCell ⟨T, 3, none⟩ (.int .i64 (x : Int))).setCell ⟨T, 4, none⟩ (.int .i64 (y : Int))).drew.frozen? ⟨w.heap.size + 1, 0, none⟩ = false := (B3.out.frozen (p := ⟨w.heap.size + 1, 0, none⟩) (show w.heap.size + 1 < wr.heap.size by omega)).trans ((B2.out.frozen (p := ⟨w.heap.size + 1, 0, none⟩) (show w.heap.size + 1 < wr.heap.size by omega)).symm.trans j0)
            have j1' : ((W2.setCell ⟨T, 3, none⟩ (.int .i64 (x : Int))).setCell ⟨T, 4, none⟩ (.int .i64 (y : Int))).drew.frozen? ⟨w.heap.size + 1, 1, none⟩ = false := (B3.out.frozen (p := ⟨w.heap.size + 1, 1, none⟩) (show w.heap.size + 1 < wr.heap.size by omega)).trans ((B2.out.frozen (p := ⟨w.heap.size + 1, 1, none⟩) (show w.heap.size + 1 < wr.heap.size by omega)).symm.trans j1)
            clear t0 t1 t2 t3 t4 g0 g1 g2 g3 g4 k0 k1 j0 j1 HG HPV2 B2
            generalize ((W2.setCell ⟨T, 3, none⟩ (.int .i64 (x : Int))).setCell ⟨T, 4, none⟩ (.int .i64 (y : Int))).drew = W3 at *
            obtain ⟨ps, hps, hrow⟩ := tokRow_below HTR.out B3.out
            obtain ⟨TL, hTL⟩ : ∃ TL, ts.length = TL := ⟨_, rfl⟩
            rw [hTL] at hrow htl
            have HPS := hide hps
            have HW := hide hrow
            have HTL := hide hTL
            have S3 := B3.out.size
            clear hps hrow hTL HTR
            go_wp2_with (at_builtin; refine wpList_append_own _ rfl _ _ 39 rfl (w.heap.size + 2) 72 i0 (.agg #[.int .i64 0, .string ⟨#[]⟩, .slice none 0 0, .int .i64 0, .int .i64 0]) 5 64 Tryz.underlying39 hi hz0 hz1 hz2 rfl (by decide) _ _ _ rfl (HW.out.alloc _) ⟨_, 0, none⟩ 1 1 [.int .i64 (k : Int), .string z, .slice ao ql cap, .int .i64 (x : Int), .int .i64 (y : Int)] rfl rfl (cells_new _ _ _) (by simp [Value.oneCell']) (by unfold maxLen; omega) (by omega) (by simp; omega) ?_; intro v4 w4 o4 gr4 _; have H4 := hide o4; clear o4)
            have B4 := hide (((Below.refl (w.heap.size + 2) W3).alloc (by omega) _).grown gr4 (by simp; omega) (fun j hj => (HW.out.lt j hj).1))
            have TR4 : Hid (TokRow (w.heap.size + 2) v4 (ts ++ [⟨k, t, q, x, y⟩]) w4) := tokRow_push (t := ⟨k, t, q, x, y⟩) HTL.out (PathsOk.mono (fun p q hq => ownS_alloc hq _) HPS.out) (HW.out.alloc _) (ownS_alloc (ownS_mono HPV3.out (by omega)) _) gr4 (by simp only [HZ.out]; exact H4.out)
            have S4 := B4.out.size
            have k0 := (B4.out.cell (p := ⟨w.heap.size + 1, 0, none⟩) (show w.heap.size + 1 < w.heap.size + 2 by omega)).trans k0'
            have k1 := (B4.out.cell (p := ⟨w.heap.size + 1, 1, none⟩) (show w.heap.size + 1 < w.heap.size + 2 by omega)).trans k1'
            have j0 := (B4.out.frozen (p := ⟨w.heap.size + 1, 0, none⟩) (show w.heap.size + 1 < w.heap.size + 2 by omega)).trans j0'
            have j1 := (B4.out.frozen (p := ⟨w.heap.size + 1, 1, none⟩) (show w.heap.size + 1 < w.heap.size + 2 by omega)).trans j1'
            clear t0' t1' t2' t3' t4' k0' k1' j0' j1' H4 gr4 HPS HW HTL HPV3 HQL HZ
            go_region_with (first
              | (go_at_call 37; refine (CBH.out _).mono ?_; rintro e3 w5 ⟨rfl, b5⟩; have m0 := (b5.cell (p := ⟨w.heap.size + 1, 0, none⟩) (show w.heap.size + 1 < _ by simp; omega)).trans k0; have m1 := (b5.cell (p := ⟨w.heap.size + 1, 1, none⟩) (show w.heap.size + 1 < _ by simp; omega)).trans k1; have n0 := (b5.frozen (p := ⟨w.heap.size + 1, 0, none⟩) (show w.heap.size + 1 < _ by simp; omega)).trans j0; have n1 := (b5.frozen (p := ⟨w.heap.size + 1, 1, none⟩) (show w.heap.size + 1 < _ by simp; omega)).trans j1))
            go_wp2
            go_roundw
            case rel =>
              have B5 : Below w4.heap.size w4 w5 := (Below.refl _ _).drew.trans b5
              have S5 := B5.size
              obtain ⟨e0, e1⟩ := two_cells (v0 := .int .i64 (P.1 : Int)) (v1 := .int .i64 (P.2 : Int)) m0 m1
              refine ⟨i + n, P.1, P.2, _, r2, rfl, by omega, ⟨HR2.out, tokRow_set (tokRow_set (tokRow_below TR4.out B5) (by omega)) (by omega), HA.out⟩, e0, e1, by simpa using n0, by simpa using n1, ?_, ?_⟩
              · have Ba : Below W1.heap.size W1 w5 := ((bel.trans (B3.out.mono (by omega))).trans (B4.out.mono (by omega))).trans (B5.mono (by omega))
                exact (Ba.setCell (p := ⟨w.heap.size + 1, 0, none⟩) (by show W1.heap.size ≤ w.heap.size + 1; omega) _).setCell (p := ⟨w.heap.size + 1, 1, none⟩) (by show W1.heap.size ≤ w.heap.size + 1; omega) _
              · simp; omega
            case measure => simp [strSize]; omega
      · have HE : Hid (R = (ts, 0, 0, 0)) := by
          have h := hsc.done (by rw [size_list]; omega)
          have h2 := HF.out.1 (by rw [h])
          show _ = _
          rw [h2, h]
        have HTR := hide htr
        obtain rfl := empty_of (r := r) (by omega)
        clear HI hr htr hsc HF H0
        go_wp2
        refine bodyPost_ret (results_tmp4 rfl _ _ _) rfl ?_
        rw [HE.out]
        exact ⟨⟨_, tokRow_mono HTR.out (by omega), rfl⟩, B1.out.trans (bel.mono (by omega))⟩
end Go.Proofs.YtbcmpacmoofdkaaGreatDoor
