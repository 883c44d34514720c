/- Which nodes are below others: Below. -/
import Derived.Test.YtbcmpacmoofdkaaGreatDoorProg
import Derived.Test.YtbcmpacmoofdkaaGreatDoorTree2
import Derived.WalkKit
import Derived.ProofKit
import Derived.OpenShut
import Derived.Below
import Derived.WalkLawsBesides
import Derived.OwnWalk
import Derived.Laws.OwnMore
import Derived.Laws.MakeOwn
import Derived.WalkSmall
namespace Go.Proofs.YtbcmpacmoofdkaaGreatDoor
open Go.ChangeShapes Go.WideShapes Go.ChangeAt Go.RowKit

theorem rootsM_snoc {n k x : Nat} {rs : List Int} (hk : k < rs.length) (hx : rs.getD k 0 = (x : Int)) (hn : x < n) : ∀ j, j < n → rootsM n (rs.take (k + 1)) j = (rootsM n (rs.take k) j || decide (j = x)) := by
  intro j hj
  unfold rootsM
  rw [hitI_snoc rs k j hk, hx, decide_eq_true hj, Bool.true_and, Bool.true_and]
  congr 1
  by_cases e : j = x
  · subst e; simp
  · rw [decide_eq_false e]
    have : ¬ (x : Int) = (j : Int) := by omega
    simp [this]
theorem rootsM_out {n k : Nat} {x : Int} {rs : List Int} (hk : k < rs.length) (hx : rs.getD k 0 = x) (hn : ¬ (0 ≤ x ∧ x < (n : Int))) : ∀ j, j < n → rootsM n (rs.take (k + 1)) j = rootsM n (rs.take k) j := by
  intro j hj
  unfold rootsM
  rw [hitI_snoc rs k j hk, hx]
  have : (x == (j : Int)) = false := by
    rw [beq_eq_false_iff_ne]
    intro e
    exact hn ⟨by omega, by omega⟩
  rw [this, Bool.or_false]

theorem cellsNew (w : World) (xs : List Value) (e : TypeId) : ∀ j u, xs[j]? = some u → (w.alloc (.cells xs.toArray e)).cell? ((⟨w.heap.size, 0, none⟩ : Addr).add j) = some u := by
  intro j u h
  rw [show (⟨w.heap.size, 0, none⟩ : Addr).add j = ⟨w.heap.size, j, none⟩ from by unfold Addr.add; simp; omega, World.cell?_alloc_mark]
  simpa using h
theorem reach_gt {n k q : Nat} {rs : List Int} (hk : k < rs.length) (hx : rs.getD k 0 = (q : Int)) (hin : 0 ≤ (q : Int) ∧ (q : Int) < (n : Int)) : q < reachI n rs := by
  rcases Nat.lt_or_ge q (reachI n rs) with h | h
  · exact h
  · exfalso
    have h2 := reach_hit n rs q h (by omega)
    have h3 : hitI rs q = true := by
      unfold hitI
      rw [List.any_eq_true]
      refine ⟨rs[k], List.getElem_mem _, ?_⟩
      have : rs.getD k 0 = rs[k] := by simp [List.getD_eq_getElem?_getD, hk]
      rw [← this, hx]; simp
    rw [h2] at h3; cases h3

set_option maxRecDepth 100000 in
set_option maxHeartbeats 16000000 in
theorem below_any (v : Value) (l : List Nod) (rv : Value) (rs : List Int) (w : World) (hv : RdN w.heap.size w v l) (hr : RdI w.heap.size w rv rs) :
    Calls Tryz.prog 9 #[v, rv] w fun e w' => ∃ va, e = .returned va ∧ OwnI w.heap.size va (belowN (kidsOf l) (reachI l.length rs) rs) w' ∧ Below w.heap.size w w' := by
  obtain ⟨i0, hi, hz0, hz1, hz2⟩ := info_parts infoInt
  obtain ⟨j0, hj, jz0, jz1, jz2⟩ := info_parts infoBool
  have CRE := hide' (reach_any v l rv rs w hv hr)
  obtain ⟨ao, cap, rfl, hm, hc⟩ := hv
  obtain ⟨ro, rc, rfl, hrm, hrc⟩ := hr
  have HRC := hide' hrc
  have HNC := hide' hc
  obtain ⟨N, hN⟩ : ∃ N, l.length = N := ⟨_, rfl⟩
  obtain ⟨L, hL⟩ : ∃ L, rs.length = L := ⟨_, rfl⟩
  have HN := hide' hN
  have HL := hide' hL
  have hRN := reach_le N rs
  rw [hN] at hm CRE ⊢
  rw [hL] at hrm CRE ⊢
  obtain ⟨n, hn⟩ : ∃ n, reachI N rs = n := ⟨_, rfl⟩
  have HRn := hide' hn
  have reach_gt : ∀ {k q : Nat}, k < rs.length → rs.getD k 0 = (q : Int) → 0 ≤ (q : Int) ∧ (q : Int) < (N : Int) → q < n := fun hk hx hin => by rw [← hn]; exact reach_gt hk hx hin
  rw [hn] at CRE hRN ⊢
  unfold belowN
  obtain ⟨F, hF0⟩ : ∃ F, markF (kidsOf l) n (rootsM n rs) = F := ⟨_, rfl⟩
  have HF0 := hide' hF0
  rw [hF0]
  clear hc hrc hN hL hn hF0
  go_enter Tryz.func9, Tryz.ntmps9
  go_wp2_with (first | (go_at_call 18; refine CRE.out.mono ?_; clear CRE; rintro e w1 ⟨rfl, h9⟩; replace h9 := h9.symm; subst h9) | (at_make; refine wpList_make_full _ rfl _ _ 44 rfl w.heap.size 4 j0 _ 1 Tryz.underlying44 hj jz0 jz1 _ _ _ _ n rfl rfl rfl rfl (by rw [jz2]; omega) (by unfold maxLen; omega) (Nat.le_refl _) ?_; intro w1 o1 g1))
  have HM0 := hide' (mark_made o1)
  have HB1 := hide' ((Below.refl w.heap.size w).grown g1 (Nat.le_refl _) (fun k e => by cases e))
  have hs1 : w.heap.size + 1 ≤ w1.heap.size := (o1.lt _ rfl).2
  clear o1 g1
  go_loopw [18] (fun vi wr => ∃ k : Nat, vi = .int .i64 (k : Int) ∧ k ≤ L ∧ Hid' (MarkR wr w.heap.size n (rootsM n (rs.take k))) ∧ Below w.heap.size w wr ∧ w.heap.size + 1 ≤ wr.heap.size) (fun vi _ => L - (intOf vi).toNat)
  case atStart => exact ⟨0, rfl, Nat.zero_le _, ⟨HM0.out.congr fun j hj => by simp [rootsM, hitI]⟩, HB1.out, hs1⟩
  case round =>
    obtain ⟨k, rfl, hk, HM, bel, hsz⟩ := hrel
    by_cases h1 : k < L
    · obtain ⟨a, ea, hab, hcell⟩ := HRC.out k (by have := HL.out; omega)
      subst ea
      rw [← bel.cell (p := a.add k) (by rw [addBlock]; exact hab)] at hcell
      obtain ⟨x, hx⟩ : ∃ x, rs.getD k 0 = x := ⟨_, rfl⟩
      rw [hx] at hcell
      have CW := hide' (fun W => within_any ao N cap x W)
      by_cases hin : 0 ≤ x ∧ x < (N : Int)
      · obtain ⟨q, rfl⟩ : ∃ q : Nat, x = (q : Int) := ⟨x.toNat, by omega⟩
        have hqn : q < n := reach_gt (by have := HL.out; omega) hx hin
        have HS := hide' (rootsM_snoc (by have := HL.out; omega) hx hqn)
        have e0 : (decide (0 ≤ (q : Int)) && decide ((q : Int) < (N : Int))) = true := by simp; omega
        rw [e0] at CW
        clear e0
        have cm := HM.out.cells q hqn
        have fm := HM.out.froze q hqn
        clear hin hx
        go_wp2_with (go_at_call 13; refine (CW.out _).mono ?_; rintro e w1 ⟨rfl, h9⟩; replace h9 := h9.symm; subst h9)
        go_roundw
        case rel =>
          refine ⟨k + 1, by go_num, by omega, ⟨(HM.out.set hqn).congr fun j hj => HS.out j hj⟩, bel.setCell (p := ⟨w.heap.size, q, none⟩) (Nat.le_refl _) _, by simpa using hsz⟩
        case measure => first | (simp [intOf]; done) | (simp [intOf]; omega)
      · have HS := hide' (rootsM_out (n := n) (by have := HL.out; omega) hx (fun g => hin ⟨g.1, by omega⟩))
        have e0 : (decide (0 ≤ x) && decide (x < (N : Int))) = false := by
          rw [Bool.and_eq_false_iff]
          by_cases h0 : 0 ≤ x
          · exact .inr (decide_eq_false (fun g => hin ⟨h0, g⟩))
          · exact .inl (decide_eq_false h0)
        rw [e0] at CW
        clear e0 hin hx
        go_wp2_with (go_at_call 13; refine (CW.out _).mono ?_; rintro e w1 ⟨rfl, h9⟩; replace h9 := h9.symm; subst h9)
        go_roundw
        case rel => exact ⟨k + 1, by go_num, by omega, ⟨HM.out.congr fun j hj => HS.out j hj⟩, bel, hsz⟩
        case measure => first | (simp [intOf]; done) | (simp [intOf]; omega)
    · have ht : rs.take k = rs := List.take_of_length_le (by have := HL.out; omega)
      rw [ht] at HM
      have hkl : decide ((k : Int) < (L : Int)) = false := by simp; omega
      clear ht HRC
      have HM1 := hide' HM.out
      clear HM
      go_wp2
      go_loopw [8] (fun vi w2 => ∃ (k : Nat) (M : Nat → Bool), vi = .int .i64 ((k : Int) - 1) ∧ k ≤ n ∧ Hid' (MarkR w2 w.heap.size n M ∧ markF (kidsOf l) k M = F) ∧ Below w.heap.size w w2 ∧ w.heap.size + 1 ≤ w2.heap.size) (fun vi _ => (intOf vi + 1).toNat)
      case atStart => exact ⟨n, _, rfl, Nat.le_refl _, ⟨HM1.out, HF0.out⟩, bel, hsz⟩
      case round =>
        obtain ⟨k2, M, rfl, hk2, HI, bel2, hsz2⟩ := hrel
        clear HM1
        cases k2 with
        | zero =>
          have HM2 : Hid' (MarkR wr w.heap.size n F) := ⟨by have := HI.out.1; have e := HI.out.2; rw [← e]; exact this⟩
          clear HI
          go_wp2
          go_loopw [9, 50] (fun va vi w3 => ∃ k : Nat, vi = .int .i64 (k : Int) ∧ k ≤ n ∧ Hid' (MarkR w3 w.heap.size n F ∧ OwnI (w.heap.size + 1) va ((List.range k).filter F) w3) ∧ Below w.heap.size w w3 ∧ w.heap.size + 1 ≤ w3.heap.size) (fun _ vi _ => n - (intOf vi).toNat)
          case atStart => exact ⟨0, rfl, Nat.zero_le _, ⟨HM2.out, ownI_nil _ _⟩, bel2, hsz2⟩
          case round =>
            obtain ⟨k, rfl, hk, HI, bel3, hsz3⟩ := hrel
            obtain ⟨hmr, how⟩ := HI.out
            obtain ⟨oo, oc, hvo⟩ := ownI_slice how
            subst hvo
            have hle := filter_len F k
            have HMR := hide' hmr
            have HOW := hide' how
            obtain ⟨AL, hAL⟩ : ∃ n, ((List.range k).filter F).length = n := ⟨_, rfl⟩
            have EAL := hide' hAL
            rw [hAL] at hle HOW ⊢
            clear HI hmr how hAL
            by_cases h1 : k < n
            · have ck := HMR.out.cells k h1
              have HF := hide' (range_filter_succ F k)
              cases hF : F k
              · rw [hF] at ck HF
                clear hF
                go_wp2
                go_roundw
                case rel => exact ⟨k + 1, by go_num, by omega, ⟨HMR.out, by rw [HF.out]; exact HOW.out⟩, bel3, hsz3⟩
                case measure => first | (simp [intOf]; done) | (simp [intOf]; omega)
              · rw [hF] at ck HF
                have HW := hide' (show (_ : World).ownsRow (w.heap.size + 1) 3 1 (.slice oo AL oc) AL (intCells ((List.range k).filter F)) by have h := HOW.out; unfold OwnI at h; rw [EAL.out] at h; exact h)
                clear hF
                go_wp2_with (at_builtin; refine wpList_append_own _ rfl _ _ 28 rfl (w.heap.size + 1) 3 i0 (.int .i64 0) 1 8 Tryz.underlying28 hi hz0 hz1 hz2 rfl (by decide) _ _ _ rfl (HW.out.alloc _) ⟨_, 0, none⟩ 1 1 [.int .i64 (k : Int)] rfl rfl (cellsNew _ _ _) (by simp [Value.oneCell']) (by unfold maxLen; omega) (by omega) (by simp; omega) ?_; intro v4 w4 o4 gr4 _; have H4 := hide' o4; clear o4)
                have B4 := hide' (((Below.refl (w.heap.size + 1) _).alloc hsz3 _).grown gr4 (by simp; omega) (fun j hj => (HW.out.lt j hj).1))
                go_roundw
                case rel =>
                  refine ⟨v4, _, _, .int .i64 ((k + 1 : Nat) : Int), ⟨k + 1, rfl, by omega, ⟨⟨HMR.out.below B4.out (by omega), ?_⟩⟩, bel3.trans (B4.out.mono (by omega)), by have := B4.out.size; omega⟩, rfl, rfl, rfl, by go_num⟩
                  rw [HF.out]
                  exact ownI_snoc EAL.out H4.out
                case measure => first | (simp [intOf]; done) | (simp [intOf]; omega)
            · obtain rfl : k = n := by omega
              have hkl : decide ((k : Int) < (k : Int)) = false := by simp
              go_wp2
              go_ret
              refine ⟨_, rfl, ?_, bel3⟩
              exact ownI_mono (B := w.heap.size + 1) HOW.out (Nat.le_succ _)
        | succ i =>
          obtain ⟨hmr, hmf⟩ := HI.out
          have HMR := hide' hmr
          have HMF := hide' (show markF (kidsOf l) i (markS (kidsOf l) i M) = F from hmf)
          have ci := hmr.cells i (by omega)
          have eii : ((i + 1 : Nat) : Int) - 1 = (i : Int) := by omega
          obtain ⟨g, o, pv, kv, ea, hg, hna⟩ := HNC.out i (by have := HN.out; omega)
          subst ea
          have hna2 := hna.below bel2 hg
          have HK := hide' hna2.rk
          have c3 := hna2.c3
          rw [eii]
          clear HI hmr hmf hna hna2
          cases hMi : M i
          · rw [hMi] at ci
            have HMF2 := hide' HMF.out
            rw [markS_none hMi] at HMF2
            clear hMi
            go_wp2
            go_roundw
            case rel => exact ⟨i, M, by go_num, by omega, ⟨HMR.out, HMF2.out⟩, bel2, hsz2⟩
            case measure => first | (simp [intOf]; done) | (simp [intOf]; omega)
          · rw [hMi] at ci
            have HE := hide' (show (fun j => M j || (decide (j < i) && hitI (kidsOf l i) j)) = markS (kidsOf l) i M by funext j; unfold markS; rw [hMi, Bool.true_and])
            have CK := hide' (meetKids_any w.heap.size w.heap.size n i M kv (kidsOf l i) wr (Nat.le_refl _) (by omega) (by omega) HMR.out HK.out)
            rw [HE.out] at CK
            clear hMi
            go_wp2_with (go_at_call 19; refine CK.out.mono ?_; clear CK; rintro e w5 ⟨rfl, hm5, b5, s5⟩; (have HM5 := hide' hm5); clear hm5)
            go_roundw
            case rel => exact ⟨i, _, by go_num, by omega, ⟨HM5.out, HMF.out⟩, bel2.trans b5, by omega⟩
            case measure => first | (simp [intOf]; done) | (simp [intOf]; omega)
end Go.Proofs.YtbcmpacmoofdkaaGreatDoor
/- Which nodes are below others: the document's Below. -/
namespace Go.Proofs.YtbcmpacmoofdkaaGreatDoor
open Go.ChangeShapes Go.WideShapes Go.ChangeAt Go.RowKit

set_option maxRecDepth 100000 in
set_option maxHeartbeats 16000000 in
theorem rbelow_any (v : Value) (l : List Nod) (rv : Value) (rs : List Int) (w : World) (hv : RdN w.heap.size w v l) (hr : RdI w.heap.size w rv rs) :
    Calls Tryz.prog 10 #[v, rv] w fun e w' => ∃ va, e = .returned va ∧ OwnI w.heap.size va (belowN (kidsOf l) l.length rs) w' ∧ Below w.heap.size w w' := by
  obtain ⟨i0, hi, hz0, hz1, hz2⟩ := info_parts infoInt
  obtain ⟨j0, hj, jz0, jz1, jz2⟩ := info_parts infoBool
  obtain ⟨ao, cap, rfl, hm, hc⟩ := hv
  obtain ⟨ro, rc, rfl, hrm, hrc⟩ := hr
  have HRC := hide' hrc
  have HNC := hide' hc
  obtain ⟨N, hN⟩ : ∃ N, l.length = N := ⟨_, rfl⟩
  obtain ⟨L, hL⟩ : ∃ L, rs.length = L := ⟨_, rfl⟩
  have HN := hide' hN
  have HL := hide' hL
  rw [hN] at hm ⊢
  rw [hL] at hrm ⊢
  unfold belowN
  obtain ⟨F, hF0⟩ : ∃ F, markF (kidsOf l) N (rootsM N rs) = F := ⟨_, rfl⟩
  have HF0 := hide' hF0
  rw [hF0]
  clear hc hrc hN hL hF0
  go_enter Tryz.func10, Tryz.ntmps10
  go_wp2_with (at_make; refine wpList_make_full _ rfl _ _ 44 rfl w.heap.size 4 j0 _ 1 Tryz.underlying44 hj jz0 jz1 _ _ _ _ N rfl rfl rfl rfl (by rw [jz2]; omega) (by unfold maxLen; omega) (Nat.le_refl _) ?_; intro w1 o1 g1)
  have HM0 := hide' (mark_made o1)
  have HB1 := hide' ((Below.refl w.heap.size w).grown g1 (Nat.le_refl _) (fun k e => by cases e))
  have hs1 : w.heap.size + 1 ≤ w1.heap.size := (o1.lt _ rfl).2
  clear o1 g1
  go_loopw [6] (fun vi wr => ∃ k : Nat, vi = .int .i64 (k : Int) ∧ k ≤ L ∧ Hid' (MarkR wr w.heap.size N (rootsM N (rs.take k))) ∧ Below w.heap.size w wr ∧ w.heap.size + 1 ≤ wr.heap.size) (fun vi _ => L - (intOf vi).toNat)
  case atStart => exact ⟨0, rfl, Nat.zero_le _, ⟨HM0.out.congr fun j hj => by simp [rootsM, hitI]⟩, HB1.out, hs1⟩
  case round =>
    obtain ⟨k, rfl, hk, HM, bel, hsz⟩ := hrel
    by_cases h1 : k < L
    · obtain ⟨a, ea, hab, hcell⟩ := HRC.out k (by have := HL.out; omega)
      subst ea
      rw [← bel.cell (p := a.add k) (by rw [addBlock]; exact hab)] at hcell
      obtain ⟨x, hx⟩ : ∃ x, rs.getD k 0 = x := ⟨_, rfl⟩
      rw [hx] at hcell
      by_cases hin : 0 ≤ x ∧ x < (N : Int)
      · obtain ⟨q, rfl⟩ : ∃ q : Nat, x = (q : Int) := ⟨x.toNat, by omega⟩
        have hqn : q < N := by omega
        have HS := hide' (rootsM_snoc (by have := HL.out; omega) hx hqn)
        have g1 : decide ((q : Int) < (N : Int)) = true := by simp; omega
        have cm := HM.out.cells q hqn
        have fm := HM.out.froze q hqn
        clear hin hx
        go_wp2
        go_roundw
        case rel =>
          refine ⟨k + 1, by go_num, by omega, ⟨(HM.out.set hqn).congr fun j hj => HS.out j hj⟩, bel.setCell (p := ⟨w.heap.size, q, none⟩) (Nat.le_refl _) _, by simpa using hsz⟩
        case measure => first | (simp [intOf]; done) | (simp [intOf]; omega)
      · have HS := hide' (rootsM_out (n := N) (by have := HL.out; omega) hx (fun g => hin ⟨g.1, by omega⟩))
        by_cases h0 : 0 ≤ x
        · have g1 : decide (x < (N : Int)) = false := by rw [decide_eq_false_iff_not]; exact fun g => hin ⟨h0, g⟩
          have g0 : decide (x ≥ 0) = true := by simp; omega
          clear hin hx
          go_wp2
          go_roundw
          case rel => exact ⟨k + 1, by go_num, by omega, ⟨HM.out.congr fun j hj => HS.out j hj⟩, bel, hsz⟩
          case measure => first | (simp [intOf]; done) | (simp [intOf]; omega)
        · have g0 : decide (x ≥ 0) = false := by simp; omega
          clear hin hx
          go_wp2
          go_roundw
          case rel => exact ⟨k + 1, by go_num, by omega, ⟨HM.out.congr fun j hj => HS.out j hj⟩, bel, hsz⟩
          case measure => first | (simp [intOf]; done) | (simp [intOf]; omega)
    · have ht : rs.take k = rs := List.take_of_length_le (by have := HL.out; omega)
      rw [ht] at HM
      have hkl : decide ((k : Int) < (L : Int)) = false := by simp; omega
      clear ht HRC
      have HM1 := hide' HM.out
      clear HM
      go_wp2
      go_loopw [7] (fun vi w2 => ∃ (k : Nat) (M : Nat → Bool), vi = .int .i64 ((k : Int) - 1) ∧ k ≤ N ∧ Hid' (MarkR w2 w.heap.size N M ∧ markF (kidsOf l) k M = F) ∧ Below w.heap.size w w2 ∧ w.heap.size + 1 ≤ w2.heap.size) (fun vi _ => (intOf vi + 1).toNat)
      case atStart => exact ⟨N, _, rfl, Nat.le_refl _, ⟨HM1.out, HF0.out⟩, bel, hsz⟩
      case round =>
        obtain ⟨k2, M, rfl, hk2, HI, bel2, hsz2⟩ := hrel
        clear HM1
        cases k2 with
        | zero =>
          have HM2 : Hid' (MarkR wr w.heap.size N F) := ⟨by have := HI.out.1; have e := HI.out.2; rw [← e]; exact this⟩
          clear HI
          go_wp2
          go_loopw [10, 11] (fun va vi w3 => ∃ k : Nat, vi = .int .i64 (k : Int) ∧ k ≤ N ∧ Hid' (MarkR w3 w.heap.size N F ∧ OwnI (w.heap.size + 1) va ((List.range k).filter F) w3) ∧ Below w.heap.size w w3 ∧ w.heap.size + 1 ≤ w3.heap.size) (fun _ vi _ => N - (intOf vi).toNat)
          case atStart => exact ⟨0, rfl, Nat.zero_le _, ⟨HM2.out, ownI_nil _ _⟩, bel2, hsz2⟩
          case round =>
            obtain ⟨k, rfl, hk, HI, bel3, hsz3⟩ := hrel
            obtain ⟨hmr, how⟩ := HI.out
            obtain ⟨oo, oc, hvo⟩ := ownI_slice how
            subst hvo
            have hle := filter_len F k
            have HMR := hide' hmr
            have HOW := hide' how
            obtain ⟨AL, hAL⟩ : ∃ n, ((List.range k).filter F).length = n := ⟨_, rfl⟩
            have EAL := hide' hAL
            rw [hAL] at hle HOW ⊢
            clear HI hmr how hAL
            by_cases h1 : k < N
            · have ck := HMR.out.cells k h1
              have HF := hide' (range_filter_succ F k)
              cases hF : F k
              · rw [hF] at ck HF
                clear hF
                go_wp2
                go_roundw
                case rel => exact ⟨k + 1, by go_num, by omega, ⟨HMR.out, by rw [HF.out]; exact HOW.out⟩, bel3, hsz3⟩
                case measure => first | (simp [intOf]; done) | (simp [intOf]; omega)
              · rw [hF] at ck HF
                have HW := hide' (show (_ : World).ownsRow (w.heap.size + 1) 3 1 (.slice oo AL oc) AL (intCells ((List.range k).filter F)) by have h := HOW.out; unfold OwnI at h; rw [EAL.out] at h; exact h)
                clear hF
                go_wp2_with (at_builtin; refine wpList_append_own _ rfl _ _ 28 rfl (w.heap.size + 1) 3 i0 (.int .i64 0) 1 8 Tryz.underlying28 hi hz0 hz1 hz2 rfl (by decide) _ _ _ rfl (HW.out.alloc _) ⟨_, 0, none⟩ 1 1 [.int .i64 (k : Int)] rfl rfl (cellsNew _ _ _) (by simp [Value.oneCell']) (by unfold maxLen; omega) (by omega) (by simp; omega) ?_; intro v4 w4 o4 gr4 _; have H4 := hide' o4; clear o4)
                have B4 := hide' (((Below.refl (w.heap.size + 1) _).alloc hsz3 _).grown gr4 (by simp; omega) (fun j hj => (HW.out.lt j hj).1))
                go_roundw
                case rel =>
                  refine ⟨k + 1, by go_num, by omega, ⟨⟨HMR.out.below B4.out (by omega), ?_⟩⟩, bel3.trans (B4.out.mono (by omega)), by have := B4.out.size; omega⟩
                  rw [HF.out]
                  exact ownI_snoc EAL.out H4.out
                case measure => first | (simp [intOf]; done) | (simp [intOf]; omega)
            · obtain rfl : k = N := by omega
              have hkl : decide ((k : Int) < (k : Int)) = false := by simp
              go_wp2
              go_ret
              refine ⟨_, rfl, ?_, bel3⟩
              exact ownI_mono (B := w.heap.size + 1) HOW.out (Nat.le_succ _)
        | succ i =>
          obtain ⟨hmr, hmf⟩ := HI.out
          have HMR := hide' hmr
          have HMF := hide' (show markF (kidsOf l) i (markS (kidsOf l) i M) = F from hmf)
          have hci := hmr.cells i (by omega)
          have eii : ((i + 1 : Nat) : Int) - 1 = (i : Int) := by omega
          obtain ⟨g, o, pv, kv, ea, hg, hna⟩ := HNC.out i (by have := HN.out; omega)
          subst ea
          have hna2 := hna.below bel2 hg
          obtain ⟨ko, kc, hkv, hkm, hkc⟩ := hna2.rk
          have hKc := hide' (show ∀ j, j < (kidsOf l i).length → ∃ a : Addr, ko = some a ∧ a.block < w.heap.size ∧ wr.cell? (a.add j) = some (.int .i64 ((kidsOf l i).getD j 0)) from hkc)
          have hc3 := hna2.c3
          rw [hkv] at hc3
          obtain ⟨KL, hKL⟩ : ∃ n, (kidsOf l i).length = n := ⟨_, rfl⟩
          have HKL := hide' hKL
          rw [show (l.getD i Nod.zero).kids.length = KL from hKL] at hc3 hkm
          rw [eii]
          clear HI hmr hmf hna hna2 hkc hkv hKL
          obtain ⟨wo, rfl⟩ : ∃ wo, wo = wr := ⟨wr, rfl⟩
          go_wp2
          go_loopw [8] (fun vk w3 => ∃ k : Nat, vk = .int .i64 (k : Int) ∧ k ≤ KL ∧ Hid' (MarkR w3 w.heap.size N (fun j => M j || (M i && (decide (j < i) && hitI ((kidsOf l i).take k) j)))) ∧ Below w.heap.size wo w3 ∧ w3.heap.size = wo.heap.size) (fun vk _ => KL - (intOf vk).toNat)
          case atStart => exact ⟨0, rfl, Nat.zero_le _, ⟨HMR.out.congr fun j hj => by simp [hitI]⟩, Below.refl _ _, rfl⟩
          case round =>
            obtain ⟨k3, rfl, hk3, HM3, bel3, hsz3⟩ := hrel
            have ci := HM3.out.cells i (by omega)
            rw [show (M i || (M i && (decide (i < i) && hitI ((kidsOf l i).take k3) i))) = M i by cases M i <;> simp] at ci
            have c3 : wr.cell? ⟨g, o + i * 6 + 3, none⟩ = some (.slice ko KL kc) := by rw [bel3.cell (p := ⟨g, o + i * 6 + 3, none⟩) hg]; exact hc3
            clear hc3 hci HMR
            cases hMi : M i
            · rw [hMi] at ci
              have HM4 : Hid' (MarkR wr w.heap.size N M) := ⟨HM3.out.congr fun j hj => by rw [hMi]; simp⟩
              have HMF2 := hide' HMF.out
              rw [markS_none hMi] at HMF2
              clear hMi HM3
              go_wp2
              go_roundw
              case rel => exact ⟨i, M, by go_num, by omega, ⟨HM4.out, HMF2.out⟩, bel2.trans bel3, by omega⟩
              case measure => first | (simp [intOf]; done) | (simp [intOf]; omega)
            · rw [hMi] at ci HM3
              by_cases h3 : k3 < KL
              · obtain ⟨a, ea, hab, hcell⟩ := hKc.out k3 (by have := HKL.out; omega)
                subst ea
                rw [← bel3.cell (p := a.add k3) (by rw [addBlock]; exact hab)] at hcell
                have HS := hide' (fun j => hitI_snoc (kidsOf l i) k3 j (by have := HKL.out; omega))
                obtain ⟨x, hx⟩ : ∃ x, (kidsOf l i).getD k3 0 = x := ⟨_, rfl⟩
                rw [hx] at hcell HS
                by_cases hlow : 0 ≤ x ∧ x < (i : Int)
                · obtain ⟨m, rfl⟩ : ∃ m : Nat, x = (m : Int) := ⟨x.toNat, by omega⟩
                  have hmi : m < i := by omega
                  have hmn : m < N := by omega
                  have cm := HM3.out.cells m hmn
                  have fm := HM3.out.froze m hmn
                  clear hlow hx
                  go_wp2
                  go_roundw
                  case rel =>
                    refine ⟨k3 + 1, by go_num, by omega, ⟨(HM3.out.set hmn).congr fun j hj => ?_⟩, bel3.setCell (p := ⟨w.heap.size, m, none⟩) (Nat.le_refl _) _, by simpa using hsz3⟩
                    rw [HS.out j]
                    by_cases e : j = m
                    · subst e; simp [hmi]
                    · have e2 : ((m : Int) == (j : Int)) = false := by simp; omega
                      rw [e2, decide_eq_false e]; simp
                  case measure => first | (simp [intOf]; done) | (simp [intOf]; omega)
                · have HC : Hid' (∀ j, j < N → (M j || (true && (decide (j < i) && hitI ((kidsOf l i).take (k3 + 1)) j))) = (M j || (true && (decide (j < i) && hitI ((kidsOf l i).take k3) j)))) := by
                    refine ⟨fun j hj => ?_⟩
                    rw [HS.out j]
                    by_cases hj2 : j < i
                    · have e2 : (x == (j : Int)) = false := by
                        rw [beq_eq_false_iff_ne]
                        intro e
                        exact hlow ⟨by omega, by omega⟩
                      rw [e2, Bool.or_false]
                    · rw [decide_eq_false hj2]; simp
                  by_cases h0 : 0 ≤ x
                  · have g1 : ¬ x < (i : Int) := fun g => hlow ⟨h0, g⟩
                    clear hlow hx HS
                    go_wp2
                    go_roundw
                    case rel => exact ⟨k3 + 1, by go_num, by omega, ⟨HM3.out.congr fun j hj => HC.out j hj⟩, bel3, hsz3⟩
                    case measure => first | (simp [intOf]; done) | (simp [intOf]; omega)
                  · clear hlow hx HS
                    go_wp2
                    go_roundw
                    case rel => exact ⟨k3 + 1, by go_num, by omega, ⟨HM3.out.congr fun j hj => HC.out j hj⟩, bel3, hsz3⟩
                    case measure => first | (simp [intOf]; done) | (simp [intOf]; omega)
              · have ht : (kidsOf l i).take k3 = kidsOf l i := List.take_of_length_le (by have := HKL.out; omega)
                rw [ht] at HM3
                have HM4 : Hid' (MarkR wr w.heap.size N (markS (kidsOf l) i M)) := ⟨HM3.out.congr fun j hj => by unfold markS; rw [hMi]⟩
                clear hMi HM3 ht
                go_wp2
                go_roundw
                case rel => exact ⟨i, _, by go_num, by omega, ⟨HM4.out, HMF.out⟩, bel2.trans bel3, by omega⟩
                case measure => first | (simp [intOf]; done) | (simp [intOf]; omega)
end Go.Proofs.YtbcmpacmoofdkaaGreatDoor
