/- The document's own comparisons of tokens: Alike, Same. -/
import Derived.Test.YtgcbkjfckmjgeaaGreatDoorProg
import Derived.Test.YtgcbkjfckmjgeaaGreatDoorLexE7
import Derived.WalkKit
import Derived.ProofKit
import Derived.OpenShut
import Derived.Below
import Derived.WalkLawsBesides
import Derived.OwnWalk
import Derived.BigQuiet
import Derived.WalkSmall
import Derived.Deep.MidRow
import Derived.Deep.RegionHeld
import Derived.Deep.RegionHeld3
namespace Go.Proofs.YtgcbkjfckmjgeaaGreatDoor
open Go.ChangeShapes Go.WideShapes Go.ChangeAt Go.RowKit

/-- Two blocks of five cells each, and what is laid behind them. -/
theorem cell55 {w w1 : World} {c0 c1 c2 c3 c4 d0 d1 d2 d3 d4 : Value} {t : TypeId} (h : Below (w.heap.size + 2) ((w.alloc (.cells #[c0, c1, c2, c3, c4] t)).alloc (.cells #[d0, d1, d2, d3, d4] t)) w1) :
    w1.cell? ⟨w.heap.size, 2, none⟩ = some c2 ∧ w1.cell? ⟨w.heap.size + 1, 2, none⟩ = some d2 := by
  have e : (w.alloc (.cells #[c0, c1, c2, c3, c4] t)).heap.size = w.heap.size + 1 := by simp
  constructor
  · rw [h.cell (p := ⟨w.heap.size, 2, none⟩) (by show w.heap.size < w.heap.size + 2; omega)]; simp
  · rw [h.cell (p := ⟨w.heap.size + 1, 2, none⟩) (by show w.heap.size + 1 < w.heap.size + 2; omega), ← e]; simp

set_option maxRecDepth 100000 in
set_option maxHeartbeats 8000000 in
theorem ralike_any (k1 k2 x1 y1 x2 y2 : Int) (z1 z2 : ByteArray) (v1 v2 : Value) (p q : List (List UInt8)) (w : World) (h1 : RdS w v1 p) (h2 : RdS w v2 q) :
    Calls Tryz.prog 23 #[.agg #[.int .i64 k1, .string z1, v1, .int .i64 x1, .int .i64 y1], .agg #[.int .i64 k2, .string z2, v2, .int .i64 x2, .int .i64 y2]] w fun e w' => e = .returned (.bool (k1 == k2 && z1.data.toList == z2.data.toList && p == q)) ∧ Below w.heap.size w w' := by
  obtain ⟨ao, cap, rfl, hm, hc⟩ := h1
  obtain ⟨bo, cap2, rfl, hm2, hc2⟩ := h2
  rw [← toS_eq]
  obtain ⟨L, hL⟩ : ∃ L, p.length = L := ⟨_, rfl⟩
  have HL := hide hL
  obtain ⟨M, hM⟩ : ∃ M, q.length = M := ⟨_, rfl⟩
  have HM := hide hM
  have HC := hide hc
  have HC2 := hide hc2
  rw [hL] at hm ⊢
  rw [hM] at hm2 ⊢
  clear hL hM hc hc2
  cases g1 : (k1 == k2)
  · have g1' : (k1 != k2) = true := by simp only [bne, g1]; rfl
    go_enter Tryz.func23, Tryz.ntmps23
    go_wp2
    go_ret
    exact ⟨rfl, ((Below.refl _ _).alloc (Nat.le_refl _) _).alloc (by simp) _⟩
  · have g1' : (k1 != k2) = false := by simp only [bne, g1]; rfl
    cases g2 : (z1.toList == z2.toList)
    · go_enter Tryz.func23, Tryz.ntmps23
      go_wp2
      go_ret
      exact ⟨rfl, ((Below.refl _ _).alloc (Nat.le_refl _) _).alloc (by simp) _⟩
    · obtain ⟨b, HB⟩ : ∃ b, Hid ((p == q) = b) := ⟨_, rfl⟩
      rw [HB.out]
      by_cases hLM : L = M
      · subst hLM
        go_enter Tryz.func23, Tryz.ntmps23
        go_wp2
        have B0 : Below w.heap.size w ((w.alloc (.cells #[.int .i64 k1, .string z1, .slice ao L cap, .int .i64 x1, .int .i64 y1] 34)).alloc (.cells #[.int .i64 k2, .string z2, .slice bo L cap2, .int .i64 x2, .int .i64 y2] 34)) := ((Below.refl _ _).alloc (Nat.le_refl _) _).alloc (by simp) _
        have C5 : Hid (∀ w1, Below (w.heap.size + 2) ((w.alloc (.cells #[.int .i64 k1, .string z1, .slice ao L cap, .int .i64 x1, .int .i64 y1] 34)).alloc (.cells #[.int .i64 k2, .string z2, .slice bo L cap2, .int .i64 x2, .int .i64 y2] 34)) w1 → _) := fun w1 h => cell55 h
        generalize (w.alloc (.cells #[.int .i64 k1, .string z1, .slice ao L cap, .int .i64 x1, .int .i64 y1] 34)).alloc (.cells #[.int .i64 k2, .string z2, .slice bo L cap2, .int .i64 x2, .int .i64 y2] 34) = W0 at *
        go_loopw [5] (fun vi wr => ∃ k : Nat, vi = .int .i64 (k : Int) ∧ k ≤ L ∧ Hid (p.take k = q.take k) ∧ Below (w.heap.size + 2) W0 wr) (fun vi _ => L - (intOf vi).toNat)
        case atStart => exact ⟨0, rfl, Nat.zero_le _, rfl, Below.refl _ _⟩
        case round =>
          obtain ⟨k, rfl, hk, HI, bel⟩ := hrel
          obtain ⟨c2, d2⟩ := C5.out wr bel
          have bw := B0.trans (bel.mono (by omega))
          by_cases hkL : k < L
          · obtain ⟨a1, ea1, hab1, hcell1⟩ := HC.out k (by have := HL.out; omega)
            obtain ⟨a2, ea2, hab2, hcell2⟩ := HC2.out k (by have := HM.out; omega)
            subst ea1 ea2
            obtain ⟨u1, ez1⟩ : ∃ z, ByteArray.mk (p.getD k []).toArray = z := ⟨_, rfl⟩
            obtain ⟨u2, ez2⟩ : ∃ z, ByteArray.mk (q.getD k []).toArray = z := ⟨_, rfl⟩
            have EE := hide (str_eq ez1 ez2)
            rw [ez1] at hcell1
            rw [ez2] at hcell2
            rw [← bw.cell (p := a1.add k) (by rw [add_block]; exact hab1)] at hcell1
            rw [← bw.cell (p := a2.add k) (by rw [add_block]; exact hab2)] at hcell2
            have TS := hide (take_eq_succ (p := p) (q := q) (k := k) (by have := HL.out; omega) (by have := HM.out; omega))
            clear ez1 ez2
            by_cases he : p.getD k [] = q.getD k []
            · have g : (u1.toList == u2.toList) = true := by rw [EE.out, he]; simp
              have HI2 : Hid (p.take (k + 1) = q.take (k + 1)) := TS.out.2 ⟨HI.out, he⟩
              clear he HI EE TS
              go_wp2
              go_quiet (fail)
              go_wp2
              go_roundw
              case rel => exact ⟨k + 1, by go_num, by omega, HI2, below_drewN bel _⟩
              case measure => simp [intOf]; omega
            · have g : (u1.toList == u2.toList) = false := by rw [EE.out]; simpa using he
              have HF : Hid (b = false) := by
                show _ = _
                rw [← HB.out]
                refine beq_eq_false_iff_ne.2 fun e => he ?_
                rw [e]
              clear he HI EE TS
              go_wp2
              go_quiet (fail)
              go_wp2
              go_ret
              rw [HF.out]
              exact ⟨rfl, below_drewN bw _⟩
          · obtain rfl : k = L := by omega
            have HF : Hid (b = true) := by
              show _ = _
              rw [← HB.out]
              have h := HI.out
              rw [List.take_of_length_le (by have := HL.out; omega), List.take_of_length_le (by have := HM.out; omega)] at h
              rw [h]; simp
            clear HI
            go_wp2
            go_ret
            rw [HF.out]
            exact ⟨rfl, bw⟩
      · have HF : Hid (b = false) := by
          show _ = _
          rw [← HB.out]
          refine beq_eq_false_iff_ne.2 fun e => hLM ?_
          rw [← HL.out, ← HM.out, e]
        have g : ((L : Int) != (M : Int)) = true := by simp; omega
        clear hLM
        go_enter Tryz.func23, Tryz.ntmps23
        go_wp2
        go_ret
        rw [HF.out]
        exact ⟨rfl, ((Below.refl _ _).alloc (Nat.le_refl _) _).alloc (by simp) _⟩

def alikeI (a b : ITok) : Bool := a.kind == b.kind && a.text == b.text && a.path == b.path
def sameI (pl : Bool) : List ITok → List ITok → Bool
  | [], [] => true
  | a :: r, b :: s => alikeI a b && (!pl || (a.line == b.line && a.column == b.column)) && sameI pl r s
  | _, _ => false
theorem sameI_len {pl : Bool} : ∀ {a b : List ITok}, a.length ≠ b.length → sameI pl a b = false
  | [], [], h => absurd rfl h
  | [], _ :: _, _ => rfl
  | _ :: _, [], _ => rfl
  | a :: r, b :: s, h => by
    show (_ && sameI pl r s) = false
    rw [sameI_len (a := r) (b := s) (by simpa using h), Bool.and_false]

set_option maxRecDepth 100000 in
set_option maxHeartbeats 16000000 in
theorem rsame_any (v1 v2 : Value) (l m : List ITok) (w : World) (h1 : RdT w v1 l) (h2 : RdT w v2 m) (hsm : sameI false l m = true) :
    Calls Tryz.prog 8 #[v1, v2, .bool false] w fun e w' => e = .returned (.bool true) ∧ Below w.heap.size w w' := by
  obtain ⟨ao, cap, rfl, hm, hc⟩ := h1
  obtain ⟨bo, cap2, rfl, hm2, hc2⟩ := h2
  have HB := hide hsm
  have hlm : l.length = m.length := by
    rcases Nat.decEq l.length m.length with h | h
    · rw [sameI_len h] at hsm; cases hsm
    · exact h
  clear hsm
  obtain ⟨L, hL⟩ : ∃ L, l.length = L := ⟨_, rfl⟩
  have HL := hide hL
  obtain ⟨M, hM⟩ : ∃ M, m.length = M := ⟨_, rfl⟩
  have HM := hide hM
  have HC := hide hc
  have HC2 := hide hc2
  rw [hL] at hm hlm ⊢
  rw [hM] at hm2 hlm ⊢
  clear hL hM hc hc2
  · subst hlm
    go_enter Tryz.func8, Tryz.ntmps8
    go_wp2
    go_loopw [7] (fun vi wr => ∃ k : Nat, vi = .int .i64 (k : Int) ∧ k ≤ L ∧ Hid (sameI false (l.drop k) (m.drop k) = true) ∧ Below w.heap.size w wr) (fun vi _ => L - (intOf vi).toNat)
    case atStart => exact ⟨0, rfl, Nat.zero_le _, by show _ = _; rw [List.drop_zero, List.drop_zero]; exact HB.out, Below.refl _ _⟩
    case round =>
      obtain ⟨k, rfl, hk, HI, bel⟩ := hrel
      by_cases hkL : k < L
      · obtain ⟨g1, o1, pv1, ea1, hab1, hat1⟩ := HC.out k (by have := HL.out; omega)
        obtain ⟨g2, o2, pv2, ea2, hab2, hat2⟩ := HC2.out k (by have := HM.out; omega)
        subst ea1 ea2
        replace hat1 := hat1.below bel hab1
        replace hat2 := hat2.below bel hab2
        have D1 := hide (drop_getD (l := l) (j := k) (by have := HL.out; omega))
        have D2 := hide (drop_getD (l := m) (j := k) (by have := HM.out; omega))
        rw [D1.out, D2.out] at HI
        generalize l.getD k ITok.zero = t1 at hat1 HI
        generalize m.getD k ITok.zero = t2 at hat2 HI
        obtain ⟨k1, tt1, tp1, x1, y1⟩ := t1
        obtain ⟨k2, tt2, tp2, x2, y2⟩ := t2
        obtain ⟨r0, r1, r2, r3, r4, hrd1, _, _⟩ := hat1
        obtain ⟨s0, s1, s2, s3, s4, hrd2, _, _⟩ := hat2
        simp only at r0 r1 r2 r3 r4 hrd1 s0 s1 s2 s3 s4 hrd2
        obtain ⟨z1, hz1⟩ : ∃ z : ByteArray, ByteArray.mk tt1.toArray = z := ⟨_, rfl⟩
        have hzl1 : z1.data.toList = tt1 := by rw [← hz1]
        obtain ⟨z2, hz2⟩ : ∃ z : ByteArray, ByteArray.mk tt2.toArray = z := ⟨_, rfl⟩
        have hzl2 : z2.data.toList = tt2 := by rw [← hz2]
        rw [hz1] at r1
        rw [hz2] at s1
        have CA := hide (fun W (b : Below wr.heap.size wr W) => ralike_any k1 k2 x1 y1 x2 y2 z1 z2 pv1 pv2 tp1 tp2 W (rdS_below hrd1 b) (rdS_below hrd2 b))
        rw [hzl1, hzl2] at CA
        have HI2 : ((k1 == k2 && tt1 == tt2 && tp1 == tp2) && (!false || (x1 == x2 && y1 == y2)) && sameI false (l.drop (k + 1)) (m.drop (k + 1))) = true := HI.out
        rw [Bool.and_eq_true, Bool.and_eq_true] at HI2
        obtain ⟨⟨ha, hpl⟩, hn⟩ := HI2
        have HN := hide hn
        rw [ha] at CA
        clear ha hn
        obtain ⟨po1, pc1, hpe1, _, _⟩ := hrd1
        obtain ⟨po2, pc2, hpe2, _, _⟩ := hrd2
        subst hpe1 hpe2
        generalize tp1.length = pl1 at CA r2
        generalize tp2.length = pl2 at CA s2
        have hg1 : g1 < wr.heap.size := Nat.lt_of_lt_of_le hab1 bel.size
        have hg2 : g2 < wr.heap.size := Nat.lt_of_lt_of_le hab2 bel.size
        have bel' := Below.refl wr.heap.size wr
        clear HI D1 D2 hz1 hz2 hzl1 hzl2
        clear hpl
        go_wp2
        refine wp_region_held_drew (S := fun w' => w'.cell? ⟨g1, o1 + k * 5, none⟩ = some (.int .i64 k1) ∧ w'.cell? ⟨g1, o1 + k * 5 + 1, none⟩ = some (.string z1) ∧ w'.cell? ⟨g1, o1 + k * 5 + 2, none⟩ = some (.slice po1 pl1 pc1) ∧ w'.cell? ⟨g1, o1 + k * 5 + 3, none⟩ = some (.int .i64 x1) ∧ w'.cell? ⟨g1, o1 + k * 5 + 4, none⟩ = some (.int .i64 y1) ∧ w'.cell? ⟨g2, o2 + k * 5, none⟩ = some (.int .i64 k2) ∧ w'.cell? ⟨g2, o2 + k * 5 + 1, none⟩ = some (.string z2) ∧ w'.cell? ⟨g2, o2 + k * 5 + 2, none⟩ = some (.slice po2 pl2 pc2) ∧ w'.cell? ⟨g2, o2 + k * 5 + 3, none⟩ = some (.int .i64 x2) ∧ w'.cell? ⟨g2, o2 + k * 5 + 4, none⟩ = some (.int .i64 y2)) (by kernel_rfl) ?_ (fun hHeld => ?_)
        · go_keep
        refine wpAnyH_take (i := 0) (v := ?_) rfl (by kernel_rfl) (by kernel_rfl) (by kernel_rfl) (fun _ _ _ h => h) (Or.inl ⟨by rfl, ?_⟩) (by assumption) ?_
        rotate_left 1
        · (intro w hSw; (try dsimp only at hSw); first | (go_simp; done) | (go_simp; with_reducible rfl))
        show wpAnyH _ _ _ _ _ _ _ (Act.put _ (some 19) _) _
        simp only [Act.put, List.setIfInBounds_toArray, List.set_cons_zero, List.set_cons_succ]
        refine wpAnyH_take (i := 1) (v := ?_) rfl (by kernel_rfl) (by kernel_rfl) (by kernel_rfl) (fun _ _ _ h => h) (Or.inl ⟨by rfl, ?_⟩) (by assumption) ?_
        rotate_left 1
        · (intro w hSw; (try dsimp only at hSw); first | (go_simp; done) | (go_simp; with_reducible rfl))
        show wpAnyH _ _ _ _ _ _ _ (Act.put _ (some 20) _) _
        simp only [Act.put, List.setIfInBounds_toArray, List.set_cons_zero, List.set_cons_succ]
        refine wpAnyH_take (i := 2) (v := ?_) rfl (by kernel_rfl) (by kernel_rfl) (by kernel_rfl) (fun _ _ _ h => h) (Or.inl ⟨by rfl, ?_⟩) (by assumption) ?_
        rotate_left 1
        · (intro w hSw; (try dsimp only at hSw); first | (go_simp; done) | (go_simp; with_reducible rfl))
        show wpAnyH _ _ _ _ _ _ _ (Act.put _ (some 21) _) _
        simp only [Act.put, List.setIfInBounds_toArray, List.set_cons_zero, List.set_cons_succ]
        refine wpAnyH_take (i := 3) (v := ?_) rfl (by kernel_rfl) (by kernel_rfl) (by kernel_rfl) (fun _ _ _ h => h) (Or.inl ⟨by rfl, ?_⟩) (by assumption) ?_
        rotate_left 1
        · (intro w hSw; (try dsimp only at hSw); first | (go_simp; done) | (go_simp; with_reducible rfl))
        show wpAnyH _ _ _ _ _ _ _ (Act.put _ (some 22) _) _
        simp only [Act.put, List.setIfInBounds_toArray, List.set_cons_zero, List.set_cons_succ]
        refine wpAnyH_take (i := 4) (v := ?_) rfl (by kernel_rfl) (by kernel_rfl) (by kernel_rfl) (fun _ _ _ h => h) (Or.inl ⟨by rfl, ?_⟩) (by assumption) ?_
        rotate_left 1
        · (intro w hSw; (try dsimp only at hSw); first | (go_simp; done) | (go_simp; with_reducible rfl))
        show wpAnyH _ _ _ _ _ _ _ (Act.put _ (some 23) _) _
        simp only [Act.put, List.setIfInBounds_toArray, List.set_cons_zero, List.set_cons_succ]
        refine wpAnyH_take (i := 5) (v := ?_) rfl (by kernel_rfl) (by kernel_rfl) (by kernel_rfl) (fun _ _ _ h => h) (Or.inl ⟨by rfl, ?_⟩) (by assumption) ?_
        rotate_left 1
        · (intro w hSw; (try dsimp only at hSw); first | (go_simp; done) | (go_simp; with_reducible rfl))
        show wpAnyH _ _ _ _ _ _ _ (Act.put _ (some 24) _) _
        simp only [Act.put, List.setIfInBounds_toArray, List.set_cons_zero, List.set_cons_succ]
        refine wpAnyH_take (i := 6) (v := ?_) rfl (by kernel_rfl) (by kernel_rfl) (by kernel_rfl) (fun _ _ _ h => h) (Or.inl ⟨by rfl, ?_⟩) (by assumption) ?_
        rotate_left 1
        · (intro w hSw; (try dsimp only at hSw); first | (go_simp; done) | (go_simp; with_reducible rfl))
        show wpAnyH _ _ _ _ _ _ _ (Act.put _ (some 25) _) _
        simp only [Act.put, List.setIfInBounds_toArray, List.set_cons_zero, List.set_cons_succ]
        refine wpAnyH_take (i := 7) (v := ?_) rfl (by kernel_rfl) (by kernel_rfl) (by kernel_rfl) (fun _ _ _ h => h) (Or.inl ⟨by rfl, ?_⟩) (by assumption) ?_
        rotate_left 1
        · (intro w hSw; (try dsimp only at hSw); first | (go_simp; done) | (go_simp; with_reducible rfl))
        show wpAnyH _ _ _ _ _ _ _ (Act.put _ (some 26) _) _
        simp only [Act.put, List.setIfInBounds_toArray, List.set_cons_zero, List.set_cons_succ]
        refine wpAnyH_ready (rs := [8]) (by kernel_rfl) (by simp) ?_
        refine AllReadyH.cons rfl (fun K hK => ?_) AllReadyH.nil
        go_simp
        (go_at_call 23; refine (CA.out _ (by first | exact bel' | exact bel'.drew | exact below_drewN bel' _)).mono ?_; rintro e w4 ⟨rfl, b4⟩; have m0 := (b4.cell (p := ⟨g1, o1 + k * 5, none⟩) (show g1 < _ from hg1)).trans r0; have m1 := (b4.cell (p := ⟨g1, o1 + k * 5 + 1, none⟩) (show g1 < _ from hg1)).trans r1; have m2 := (b4.cell (p := ⟨g1, o1 + k * 5 + 2, none⟩) (show g1 < _ from hg1)).trans r2; have m3 := (b4.cell (p := ⟨g1, o1 + k * 5 + 3, none⟩) (show g1 < _ from hg1)).trans r3; have m4 := (b4.cell (p := ⟨g1, o1 + k * 5 + 4, none⟩) (show g1 < _ from hg1)).trans r4; have q0 := (b4.cell (p := ⟨g2, o2 + k * 5, none⟩) (show g2 < _ from hg2)).trans s0; have q1 := (b4.cell (p := ⟨g2, o2 + k * 5 + 1, none⟩) (show g2 < _ from hg2)).trans s1; have q2 := (b4.cell (p := ⟨g2, o2 + k * 5 + 2, none⟩) (show g2 < _ from hg2)).trans s2; have q3 := (b4.cell (p := ⟨g2, o2 + k * 5 + 3, none⟩) (show g2 < _ from hg2)).trans s3; have q4 := (b4.cell (p := ⟨g2, o2 + k * 5 + 4, none⟩) (show g2 < _ from hg2)).trans s4)
        refine hK.out _ _ ?_ (fun hHeld => ?_)
        · go_keep
        clear hK K
        try simp only [Act.put, List.setIfInBounds_toArray, List.set_cons_zero, List.set_cons_succ]
        refine wpAnyH_take (i := 9) (v := ?_) rfl (by kernel_rfl) (by kernel_rfl) (by kernel_rfl) (fun _ _ _ h => h) (Or.inl ⟨by rfl, ?_⟩) (by assumption) ?_
        rotate_left 1
        · (intro w hSw; (try dsimp only at hSw); first | (go_simp; done) | (go_simp; with_reducible rfl))
        show wpAnyH _ _ _ _ _ _ _ (Act.put _ (some 28) _) _
        simp only [Act.put, List.setIfInBounds_toArray, List.set_cons_zero, List.set_cons_succ]
        refine wpAnyH_take (i := 10) (v := ?_) rfl (by kernel_rfl) (by kernel_rfl) (by kernel_rfl) (fun _ _ _ h => h) (Or.inl ⟨by rfl, ?_⟩) (by assumption) ?_
        rotate_left 1
        · (intro w hSw; (try dsimp only at hSw); first | (go_simp; done) | (go_simp; with_reducible rfl))
        show wpAnyH _ _ _ _ _ _ _ (Act.put _ (some 29) _) _
        simp only [Act.put, List.setIfInBounds_toArray, List.set_cons_zero, List.set_cons_succ]
        refine wpAnyH_take (i := 11) (v := ?_) rfl (by kernel_rfl) (by kernel_rfl) (by kernel_rfl) (fun _ _ _ h => h) (Or.inl ⟨by rfl, ?_⟩) (by assumption) ?_
        rotate_left 1
        · (intro w hSw; (try dsimp only at hSw); first | (go_simp; done) | (go_simp; with_reducible rfl))
        show wpAnyH _ _ _ _ _ _ _ (Act.put _ (some 30) _) _
        simp only [Act.put, List.setIfInBounds_toArray, List.set_cons_zero, List.set_cons_succ]
        refine wpAnyH_take (i := 12) (v := ?_) rfl (by kernel_rfl) (by kernel_rfl) (by kernel_rfl) (fun _ _ _ h => h) (Or.inl ⟨by rfl, ?_⟩) (by assumption) ?_
        rotate_left 1
        · (intro w hSw; (try dsimp only at hSw); first | (go_simp; done) | (go_simp; with_reducible rfl))
        show wpAnyH _ _ _ _ _ _ _ (Act.put _ (some 31) _) _
        simp only [Act.put, List.setIfInBounds_toArray, List.set_cons_zero, List.set_cons_succ]
        refine wpAnyH_take (i := 13) (v := undef) rfl (by kernel_rfl) (by kernel_rfl) (by kernel_rfl) (fun _ _ _ h => h) (Or.inr ⟨by rfl, rfl⟩) (by assumption) ?_
        show wpAnyH _ _ _ _ _ _ _ (Act.put _ (some 32) _) _
        simp only [Act.put, List.setIfInBounds_toArray, List.set_cons_zero, List.set_cons_succ]
        refine wpAnyH_take (i := 14) (v := undef) rfl (by kernel_rfl) (by kernel_rfl) (by kernel_rfl) (fun _ _ _ h => h) (Or.inr ⟨by rfl, rfl⟩) (by assumption) ?_
        show wpAnyH _ _ _ _ _ _ _ (Act.put _ (some 33) _) _
        simp only [Act.put, List.setIfInBounds_toArray, List.set_cons_zero, List.set_cons_succ]
        refine wpAnyH_take (i := 15) (v := undef) rfl (by kernel_rfl) (by kernel_rfl) (by kernel_rfl) (fun _ _ _ h => h) (Or.inr ⟨by rfl, rfl⟩) (by assumption) ?_
        show wpAnyH _ _ _ _ _ _ _ (Act.put _ (some 34) _) _
        simp only [Act.put, List.setIfInBounds_toArray, List.set_cons_zero, List.set_cons_succ]
        refine wpAnyH_take (i := 16) (v := undef) rfl (by kernel_rfl) (by kernel_rfl) (by kernel_rfl) (fun _ _ _ h => h) (Or.inr ⟨by rfl, rfl⟩) (by assumption) ?_
        show wpAnyH _ _ _ _ _ _ _ (Act.put _ (some 35) _) _
        simp only [Act.put, List.setIfInBounds_toArray, List.set_cons_zero, List.set_cons_succ]
        refine wpAnyH_take (i := 17) (v := undef) rfl (by kernel_rfl) (by kernel_rfl) (by kernel_rfl) (fun _ _ _ h => h) (Or.inr ⟨by rfl, rfl⟩) (by assumption) ?_
        show wpAnyH _ _ _ _ _ _ _ (Act.put _ (some 36) _) _
        simp only [Act.put, List.setIfInBounds_toArray, List.set_cons_zero, List.set_cons_succ]
        refine wpAnyH_take (i := 18) (v := undef) rfl (by kernel_rfl) (by kernel_rfl) (by kernel_rfl) (fun _ _ _ h => h) (Or.inr ⟨by rfl, rfl⟩) (by assumption) ?_
        show wpAnyH _ _ _ _ _ _ _ (Act.put _ (some 37) _) _
        simp only [Act.put, List.setIfInBounds_toArray, List.set_cons_zero, List.set_cons_succ]
        refine wpAnyH_take (i := 19) (v := undef) rfl (by kernel_rfl) (by kernel_rfl) (by kernel_rfl) (fun _ _ _ h => h) (Or.inr ⟨by rfl, rfl⟩) (by assumption) ?_
        show wpAnyH _ _ _ _ _ _ _ (Act.put _ (some 38) _) _
        simp only [Act.put, List.setIfInBounds_toArray, List.set_cons_zero, List.set_cons_succ]
        refine wpAnyH_take (i := 20) (v := undef) rfl (by kernel_rfl) (by kernel_rfl) (by kernel_rfl) (fun _ _ _ h => h) (Or.inr ⟨by rfl, rfl⟩) (by assumption) ?_
        show wpAnyH _ _ _ _ _ _ _ (Act.put _ (some 39) _) _
        simp only [Act.put, List.setIfInBounds_toArray, List.set_cons_zero, List.set_cons_succ]
        refine wpAnyH_take (i := 21) (v := undef) rfl (by kernel_rfl) (by kernel_rfl) (by kernel_rfl) (fun _ _ _ h => h) (Or.inr ⟨by rfl, rfl⟩) (by assumption) ?_
        show wpAnyH _ _ _ _ _ _ _ (Act.put _ (some 40) _) _
        simp only [Act.put, List.setIfInBounds_toArray, List.set_cons_zero, List.set_cons_succ]
        refine wpAnyH_take (i := 22) (v := undef) rfl (by kernel_rfl) (by kernel_rfl) (by kernel_rfl) (fun _ _ _ h => h) (Or.inr ⟨by rfl, rfl⟩) (by assumption) ?_
        show wpAnyH _ _ _ _ _ _ _ (Act.put _ (some 41) _) _
        simp only [Act.put, List.setIfInBounds_toArray, List.set_cons_zero, List.set_cons_succ]
        refine wpAnyH_take (i := 23) (v := undef) rfl (by kernel_rfl) (by kernel_rfl) (by kernel_rfl) (fun _ _ _ h => h) (Or.inr ⟨by rfl, rfl⟩) (by assumption) ?_
        show wpAnyH _ _ _ _ _ _ _ (Act.put _ (some 42) _) _
        simp only [Act.put, List.setIfInBounds_toArray, List.set_cons_zero, List.set_cons_succ]
        refine wpAnyH_take (i := 24) (v := undef) rfl (by kernel_rfl) (by kernel_rfl) (by kernel_rfl) (fun _ _ _ h => h) (Or.inr ⟨by rfl, rfl⟩) (by assumption) ?_
        show wpAnyH _ _ _ _ _ _ _ (Act.put _ (some 43) _) _
        simp only [Act.put, List.setIfInBounds_toArray, List.set_cons_zero, List.set_cons_succ]
        refine wpAnyH_take (i := 25) (v := undef) rfl (by kernel_rfl) (by kernel_rfl) (by kernel_rfl) (fun _ _ _ h => h) (Or.inr ⟨by rfl, rfl⟩) (by assumption) ?_
        show wpAnyH _ _ _ _ _ _ _ (Act.put _ (some 44) _) _
        simp only [Act.put, List.setIfInBounds_toArray, List.set_cons_zero, List.set_cons_succ]
        refine wpAnyH_take (i := 26) (v := undef) rfl (by kernel_rfl) (by kernel_rfl) (by kernel_rfl) (fun _ _ _ h => h) (Or.inr ⟨by rfl, rfl⟩) (by assumption) ?_
        show wpAnyH _ _ _ _ _ _ _ (Act.put _ (some 45) _) _
        simp only [Act.put, List.setIfInBounds_toArray, List.set_cons_zero, List.set_cons_succ]
        refine wpAnyH_take (i := 27) (v := undef) rfl (by kernel_rfl) (by kernel_rfl) (by kernel_rfl) (fun _ _ _ h => h) (Or.inr ⟨by rfl, rfl⟩) (by assumption) ?_
        show wpAnyH _ _ _ _ _ _ _ (Act.put _ (some 46) _) _
        simp only [Act.put, List.setIfInBounds_toArray, List.set_cons_zero, List.set_cons_succ]
        refine wpAnyH_take (i := 28) (v := undef) rfl (by kernel_rfl) (by kernel_rfl) (by kernel_rfl) (fun _ _ _ h => h) (Or.inr ⟨by rfl, rfl⟩) (by assumption) ?_
        show wpAnyH _ _ _ _ _ _ _ (Act.put _ (some 47) _) _
        simp only [Act.put, List.setIfInBounds_toArray, List.set_cons_zero, List.set_cons_succ]
        refine wpAnyH_take (i := 29) (v := undef) rfl (by kernel_rfl) (by kernel_rfl) (by kernel_rfl) (fun _ _ _ h => h) (Or.inr ⟨by rfl, rfl⟩) (by assumption) ?_
        show wpAnyH _ _ _ _ _ _ _ (Act.put _ (some 48) _) _
        simp only [Act.put, List.setIfInBounds_toArray, List.set_cons_zero, List.set_cons_succ]
        refine wpAnyH_take (i := 30) (v := undef) rfl (by kernel_rfl) (by kernel_rfl) (by kernel_rfl) (fun _ _ _ h => h) (Or.inr ⟨by rfl, rfl⟩) (by assumption) ?_
        show wpAnyH _ _ _ _ _ _ _ (Act.put _ (some 49) _) _
        simp only [Act.put, List.setIfInBounds_toArray, List.set_cons_zero, List.set_cons_succ]
        refine wpAnyH_take (i := 31) (v := undef) rfl (by kernel_rfl) (by kernel_rfl) (by kernel_rfl) (fun _ _ _ h => h) (Or.inr ⟨by rfl, rfl⟩) (by assumption) ?_
        show wpAnyH _ _ _ _ _ _ _ (Act.put _ (some 50) _) _
        simp only [Act.put, List.setIfInBounds_toArray, List.set_cons_zero, List.set_cons_succ]
        refine wpAnyH_take (i := 32) (v := undef) rfl (by kernel_rfl) (by kernel_rfl) (by kernel_rfl) (fun _ _ _ h => h) (Or.inr ⟨by rfl, rfl⟩) (by assumption) ?_
        show wpAnyH _ _ _ _ _ _ _ (Act.put _ (some 51) _) _
        simp only [Act.put, List.setIfInBounds_toArray, List.set_cons_zero, List.set_cons_succ]
        refine wpAnyH_take (i := 33) (v := undef) rfl (by kernel_rfl) (by kernel_rfl) (by kernel_rfl) (fun _ _ _ h => h) (Or.inr ⟨by rfl, rfl⟩) (by assumption) ?_
        show wpAnyH _ _ _ _ _ _ _ (Act.put _ (some 52) _) _
        simp only [Act.put, List.setIfInBounds_toArray, List.set_cons_zero, List.set_cons_succ]
        refine wpAnyH_take (i := 34) (v := undef) rfl (by kernel_rfl) (by kernel_rfl) (by kernel_rfl) (fun _ _ _ h => h) (Or.inr ⟨by rfl, rfl⟩) (by assumption) ?_
        show wpAnyH _ _ _ _ _ _ _ (Act.put _ (some 53) _) _
        simp only [Act.put, List.setIfInBounds_toArray, List.set_cons_zero, List.set_cons_succ]
        refine wpAnyH_take (i := 35) (v := undef) rfl (by kernel_rfl) (by kernel_rfl) (by kernel_rfl) (fun _ _ _ h => h) (Or.inr ⟨by rfl, rfl⟩) (by assumption) ?_
        show wpAnyH _ _ _ _ _ _ _ (Act.put _ (some 54) _) _
        simp only [Act.put, List.setIfInBounds_toArray, List.set_cons_zero, List.set_cons_succ]
        refine wpAnyH_take (i := 36) (v := undef) rfl (by kernel_rfl) (by kernel_rfl) (by kernel_rfl) (fun _ _ _ h => h) (Or.inr ⟨by rfl, rfl⟩) (by assumption) ?_
        show wpAnyH _ _ _ _ _ _ _ (Act.put _ (some 55) _) _
        simp only [Act.put, List.setIfInBounds_toArray, List.set_cons_zero, List.set_cons_succ]
        refine wpAnyH_take (i := 37) (v := ?_) rfl (by kernel_rfl) (by kernel_rfl) (by kernel_rfl) (fun _ _ _ h => h) (Or.inl ⟨by rfl, ?_⟩) (by assumption) ?_
        rotate_left 1
        · (intro w hSw; (try dsimp only at hSw); first | (go_simp; done) | (go_simp; with_reducible rfl))
        show wpAnyH _ _ _ _ _ _ _ (Act.put _ (some 56) _) _
        simp only [Act.put, List.setIfInBounds_toArray, List.set_cons_zero, List.set_cons_succ]
        refine wpAnyH_take (i := 38) (v := ?_) rfl (by kernel_rfl) (by kernel_rfl) (by kernel_rfl) (fun _ _ _ h => h) (Or.inl ⟨by rfl, ?_⟩) (by assumption) ?_
        rotate_left 1
        · (intro w hSw; (try dsimp only at hSw); first | (go_simp; done) | (go_simp; with_reducible rfl))
        show wpAnyH _ _ _ _ _ _ _ (Act.put _ (some 57) _) _
        simp only [Act.put, List.setIfInBounds_toArray, List.set_cons_zero, List.set_cons_succ]
        refine wpAnyH_done (by kernel_rfl) ?_ _
        go_wp2
        go_roundw
        case rel => exact ⟨k + 1, by go_num, by omega, HN, bel.trans ((bel'.drew.trans b4).mono bel.size)⟩
        case measure => simp [intOf]; omega
      · obtain rfl : k = L := by omega
        clear HI
        go_wp2
        go_ret
        exact ⟨rfl, bel⟩
end Go.Proofs.YtgcbkjfckmjgeaaGreatDoor
