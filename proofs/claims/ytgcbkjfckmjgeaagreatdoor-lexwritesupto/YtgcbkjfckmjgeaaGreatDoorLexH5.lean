/- The document's scanner: reserved words and names. -/
import Derived.Test.YtgcbkjfckmjgeaaGreatDoorProg
import Derived.Test.YtgcbkjfckmjgeaaGreatDoorLexH4
import Derived.WalkKit
import Derived.ProofKit
import Derived.OpenShut
import Derived.Below
import Derived.WalkLawsBesides
import Derived.OwnWalk
import Derived.BigQuiet
import Derived.Lib.IndexBytes
import Derived.Deep.MidRow
import Derived.Deep.RegionHeld3
import Derived.WalkSmall
namespace Go.Proofs.YtgcbkjfckmjgeaaGreatDoor
open Go.ChangeShapes Go.WideShapes Go.ChangeAt Go.RowKit

theorem givesP_got {B k n : Nat} {c : List UInt8} {q : List (List UInt8)} {e : Ending} {tx : ByteArray} {v : Value} {w' : World} (h : ByteArray.mk c.toArray = tx) (ho : OwnS B v q w') (he : e = .returned (.tuple #[.agg #[.int .i64 (k : Int), .string tx, v, .int .i64 0, .int .i64 0], .int .i64 (n : Int), .int .i64 0])) : GivesP B (.got k c q n) e w' := by subst h; exact ⟨v, ho, he⟩
theorem longF_bad : ∀ (f : Nat) (p : List (List UInt8)) (m : Nat) (l : List UInt8) (e : Nat), longF f p m l = .bad e → e = 44 := by
  intro f
  induction f with
  | zero => intro p m l e h; cases h; rfl
  | succ f ih =>
    intro p m l e h
    unfold longF at h
    split at h
    · split at h
      · cases h; rfl
      · exact ih _ _ _ _ h
    · cases h
theorem namV_bad {B e' : Nat} {e : Ending} {w' : World} (h : NamV B (.bad e') e w') : ∃ ao L cap n, e = .returned (.tuple #[.agg #[.int .i64 2, .string ⟨#[]⟩, .slice ao L cap, .int .i64 0, .int .i64 0], .int .i64 n, .bool false]) := h
theorem five_new (w : World) (v0 v1 v2 v3 v4 : Value) : Five (w.alloc (.cells #[v0, v1, v2, v3, v4] 34)) w.heap.size v0 v1 v2 v3 v4 := by
  obtain ⟨⟨c0, c1, c2, c3, c4⟩, ⟨f0, f1, f2, f3, f4⟩, _, _⟩ := cell5 (new5 w v0 v1 v2 v3 v4 34)
  exact ⟨c0, c1, c2, c3, c4, f0, f1, f2, f3, f4⟩
theorem Five.alloc {W : World} {b : Nat} {v0 v1 v2 v3 v4 : Value} (h : Five W b v0 v1 v2 v3 v4) (hb : b < W.heap.size) (o : Obj) : Five (W.alloc o) b v0 v1 v2 v3 v4 := h.below ((Below.refl W.heap.size W).alloc (Nat.le_refl _) o) hb

set_option maxRecDepth 100000 in
set_option maxHeartbeats 16000000 in
theorem rnamed_any (b : Nat) (s : ByteArray) (p : Nat) (w : World) (h : IsSc w b s p) (hn : 0 < nameN (s.data.toList.drop p)) : Calls Tryz.prog 51 #[.pointer (some ⟨b, 0, none⟩)] w fun e w' => GivesP w.heap.size (wordR (s.data.toList.drop p)) e w' ∧ Below w.heap.size w w' := by
  have hs := h.small
  have hps := h.inside
  have HF1 := hide (five_new w (.int .i64 0) (.string ⟨#[]⟩) (.slice none 0 0) (.int .i64 0) (.int .i64 0))
  have HB0 := hide ((Below.refl w.heap.size w).alloc (Nat.le_refl _) (.cells #[.int .i64 0, .string ⟨#[]⟩, .slice none 0 0, .int .i64 0, .int .i64 0] 34))
  have S0 : (w.alloc (.cells #[.int .i64 0, .string ⟨#[]⟩, .slice none 0 0, .int .i64 0, .int .i64 0] 34)).heap.size = w.heap.size + 1 := by simp
  have SC := h.below HB0.out
  obtain ⟨l, hl⟩ : ∃ l, s.data.toList.drop p = l := ⟨_, rfl⟩
  have HNM := hide (fun W (sc : IsSc W b s p) R (hR : LNm R l [] 0) => rname_any b s p W sc R (by rw [hl]; exact hR))
  have hkl := nameN_le l
  have hll : l.length = s.size - p := by rw [← hl, List.length_drop, size_list]
  rw [hl] at hn ⊢
  obtain ⟨R, hR⟩ : ∃ R, wordR l = R := ⟨_, rfl⟩
  rw [hR]
  unfold wordR at hR
  obtain ⟨k, hk⟩ : ∃ k, nameN l = k := ⟨_, rfl⟩
  rw [hk] at hR hkl hn
  obtain ⟨z, hz⟩ : ∃ z, p + k = z := ⟨_, rfl⟩
  have hzi : (p : Int) + (k : Int) = (z : Int) := by omega
  have hzs : z ≤ s.size := by omega
  have hqz : p ≤ z := by omega
  obtain ⟨t, ht⟩ : ∃ t, s.extract p z = t := ⟨_, rfl⟩
  have htl : t.data.toList = l.take k := by rw [← ht, ext_mid, hl]; simp; omega
  have HTT : Hid (ByteArray.mk (l.take k).toArray = t) := by
    apply ByteArray.ext
    apply Array.ext'
    rw [htl]
  obtain ⟨W0, hW0⟩ : ∃ W0, w.alloc (.cells #[.int .i64 0, .string ⟨#[]⟩, .slice none 0 0, .int .i64 0, .int .i64 0] 34) = W0 := ⟨_, rfl⟩
  rw [hW0] at HF1 HB0 S0 SC
  have HSC := hide SC
  have CRV : Hid (∀ W, Below W0.heap.size W0 W → Calls Tryz.prog 13 #[.string t] W fun e w' => e = .returned (.bool (resL (l.take k))) ∧ Below W0.heap.size W0 w') := by
    intro W bW
    refine (reserved_any t W).mono ?_
    rintro e w' ⟨rfl, g⟩
    exact ⟨by unfold resB; rw [htl], bW.trans (g.mono bW.size)⟩
  have CR1 : Hid (∀ W, Below W0.heap.size W0 W → Calls Tryz.prog 47 #[.pointer (some ⟨b, 0, none⟩), .int .i64 0, .int .i64 1] W fun e w' => e = .returned (.int .i64 ((runP wordB l : Nat) : Int)) ∧ Below W0.heap.size W0 w') := by
    intro W bW
    refine (run1_any b s p 0 W (SC.below bW) (by omega)).mono ?_
    rintro e w' ⟨rfl, g⟩
    refine ⟨?_, bW.trans (g.mono bW.size)⟩
    rw [Nat.add_zero, (runN_P s p).1, hl]
  have CR2 : Hid (∀ W, Below W0.heap.size W0 W → Calls Tryz.prog 47 #[.pointer (some ⟨b, 0, none⟩), .int .i64 0, .int .i64 2] W fun e w' => e = .returned (.int .i64 ((runP signB l : Nat) : Int)) ∧ Below W0.heap.size W0 w') := by
    intro W bW
    refine (run2_any b s p 0 W (SC.below bW) (by omega)).mono ?_
    rintro e w' ⟨rfl, g⟩
    refine ⟨?_, bW.trans (g.mono bW.size)⟩
    rw [Nat.add_zero, (runN_P s p).2.1, hl]
  obtain ⟨cl, hcl, hlt⟩ := at_kind letterB (by decide) s p
  rw [hl] at hlt
  have CL := hide (fun W => rletter_any cl W)
  rw [hcl, hlt] at CL
  obtain ⟨a0, ha0⟩ : ∃ a, atN s p = a := ⟨_, rfl⟩
  rw [ha0] at CL
  have CA0 : Hid (∀ W, Below W0.heap.size W0 W → Calls Tryz.prog 20 #[.pointer (some ⟨b, 0, none⟩), .int .i64 0] W fun e w' => e = .returned (.int .u8 (a0 : Int)) ∧ Below W0.heap.size W0 w') := by
    intro W bW
    refine (at_any b s p 0 W (SC.below bW) (by omega)).mono ?_
    rintro e w' ⟨rfl, g⟩
    exact ⟨by rw [Nat.add_zero, ha0], bW.trans (g.mono bW.size)⟩
  have bc := Below.refl W0.heap.size W0
  have CN : Hid (resL (l.take k) = false → ∀ W, Below W0.heap.size W0 W → Calls Tryz.prog 73 #[.pointer (some ⟨b, 0, none⟩)] W fun e w' => NamV W.heap.size R e w' ∧ Below W.heap.size W w') := by
    intro hres W bW
    refine HNM.out W (SC.below bW) R ⟨fun x => ?_, fun _ => ?_⟩
    · rw [List.drop_zero, hk, hres] at x
      rcases x with x | x
      · omega
      · cases x
    · rw [hres] at hR
      unfold LongAt
      rw [List.drop_zero]
      exact hR.symm
  have HE1 : Hid (resL (l.take k) = true → R = .got 1 (l.take k) [] k) := by
    intro x
    rw [x, if_pos rfl] at hR
    exact hR.symm
  have HE2 : Hid (resL (l.take k) = false → ∀ e, R = .bad e → e = 44) := by
    intro x e y
    rw [x] at hR
    exact longF_bad _ _ _ _ _ (hR.trans y)
  have HE3 : Hid (resL (l.take k) = false → ∀ x y q n, R = .got x y q n → n ≤ s.size) := by
    intro x kk y q n hq
    rw [x] at hR
    have := longF_le _ _ _ _ _ _ _ _ (hR.trans hq)
    omega
  clear hR HNM
  cases hbl : begP letterB l
  · rw [hbl] at CL
    rw [nameN_sign hbl, hk] at CR2
    obtain ⟨k1, hk1⟩ : ∃ k1, runP wordB l = k1 := ⟨_, rfl⟩
    rw [hk1] at CR1
    have hk1b : k1 ≤ 1048576 := by have := runP_le wordB l; omega
    clear SC hl hk htl hcl hlt ha0 hbl hkl hll hk1
    cases hres : resL (l.take k)
    · have CN2 := hide (CN.out hres)
      have HE4 := hide (HE2.out hres)
      have HE5 := hide (HE3.out hres)
      rw [hres] at CRV
      clear CN HE1 HE2 HE3 hres
      cases R with
      | bad e44 =>
        obtain rfl := HE4.out _ rfl
        clear HE4 HE5
        go_enter Tryz.func51, Tryz.ntmps51
        go_upto_region 1 with fail
        try rw [hW0]
        clear hW0
        go_upto_region 4 with (first | (go_at_call 47; refine (CR1.out _ bc).mono ?_; clear bc CR1; rintro e w1 ⟨rfl, bc⟩) | (go_at_call 47; refine (CR2.out _ bc).mono ?_; clear bc CR2; rintro e w1 ⟨rfl, bc⟩) | (go_at_call 20; refine (CA0.out _ bc).mono ?_; clear bc ; rintro e w1 ⟨rfl, bc⟩) | (go_at_call 49; refine (CL.out _).mono ?_; rintro e w0 ⟨rfl, h0⟩; replace h0 := h0.symm; subst h0) | (go_at_call 13; refine (CRV.out _ bc).mono ?_; clear bc ; rintro e w1 ⟨rfl, bc⟩))
        obtain ⟨c0, c1, _, _, _⟩ := HSC.out.below bc
        go_quiet (fail)
        clear c0 c1
        replace bc := below_drewN bc nq
        go_upto_region 7 with (first | (go_at_call 47; refine (CR1.out _ bc).mono ?_; clear bc CR1; rintro e w1 ⟨rfl, bc⟩) | (go_at_call 47; refine (CR2.out _ bc).mono ?_; clear bc CR2; rintro e w1 ⟨rfl, bc⟩) | (go_at_call 20; refine (CA0.out _ bc).mono ?_; clear bc ; rintro e w1 ⟨rfl, bc⟩) | (go_at_call 49; refine (CL.out _).mono ?_; rintro e w0 ⟨rfl, h0⟩; replace h0 := h0.symm; subst h0) | (go_at_call 13; refine (CRV.out _ bc).mono ?_; clear bc ; rintro e w1 ⟨rfl, bc⟩))
        go_upto_region 8 with (go_at_call 73; refine (CN2.out _ bc).mono ?_; clear CN2; rintro e w2 ⟨hv, b2⟩; (obtain ⟨ao9, L9, cap9, n9, hv2⟩ := namV_bad hv); subst hv2; clear hv)
        have B2 : Below W0.heap.size W0 w2 := bc.trans (b2.mono bc.size)
        have S2 := B2.size
        have T1 := (HF1.out.below B2 (by omega)).alloc (by omega) (.cells #[.int .i64 2, .string ⟨#[]⟩, .slice ao9 L9 cap9, .int .i64 0, .int .i64 0] 34)
        have BW : Below w.heap.size w (w2.alloc (.cells #[.int .i64 2, .string ⟨#[]⟩, .slice ao9 L9 cap9, .int .i64 0, .int .i64 0] 34)) := (HB0.out.trans (B2.mono (by omega))).alloc (by omega) _
        generalize w2.alloc (.cells #[.int .i64 2, .string ⟨#[]⟩, .slice ao9 L9 cap9, .int .i64 0, .int .i64 0] 34) = W2 at *
        obtain ⟨d0, d1, d2, d3, d4, g0, g1, g2, g3, g4⟩ := T1
        go_wp2
        refine tok_end (w1 := W2) rfl (some5 ⟨d0, d1, d2, d3, d4⟩) ⟨g0, g1, g2, g3, g4⟩ rfl BW fun g => ?_
        exact ⟨rfl, g⟩
      | got kk y q n =>
        have hnn := HE5.out _ _ _ _ rfl
        obtain ⟨yx, hyx⟩ : ∃ yx : ByteArray, ByteArray.mk y.toArray = yx := ⟨_, rfl⟩
        have HYX := hide hyx
        obtain ⟨QL, eQL⟩ : ∃ k, q.length = k := ⟨_, rfl⟩
        have EL := hide eQL
        clear hyx eQL
        clear HE4 HE5
        go_enter Tryz.func51, Tryz.ntmps51
        go_upto_region 1 with fail
        try rw [hW0]
        clear hW0
        go_upto_region 4 with (first | (go_at_call 47; refine (CR1.out _ bc).mono ?_; clear bc CR1; rintro e w1 ⟨rfl, bc⟩) | (go_at_call 47; refine (CR2.out _ bc).mono ?_; clear bc CR2; rintro e w1 ⟨rfl, bc⟩) | (go_at_call 20; refine (CA0.out _ bc).mono ?_; clear bc ; rintro e w1 ⟨rfl, bc⟩) | (go_at_call 49; refine (CL.out _).mono ?_; rintro e w0 ⟨rfl, h0⟩; replace h0 := h0.symm; subst h0) | (go_at_call 13; refine (CRV.out _ bc).mono ?_; clear bc ; rintro e w1 ⟨rfl, bc⟩))
        obtain ⟨c0, c1, _, _, _⟩ := HSC.out.below bc
        go_quiet (fail)
        clear c0 c1
        replace bc := below_drewN bc nq
        go_upto_region 7 with (first | (go_at_call 47; refine (CR1.out _ bc).mono ?_; clear bc CR1; rintro e w1 ⟨rfl, bc⟩) | (go_at_call 47; refine (CR2.out _ bc).mono ?_; clear bc CR2; rintro e w1 ⟨rfl, bc⟩) | (go_at_call 20; refine (CA0.out _ bc).mono ?_; clear bc ; rintro e w1 ⟨rfl, bc⟩) | (go_at_call 49; refine (CL.out _).mono ?_; rintro e w0 ⟨rfl, h0⟩; replace h0 := h0.symm; subst h0) | (go_at_call 13; refine (CRV.out _ bc).mono ?_; clear bc ; rintro e w1 ⟨rfl, bc⟩))
        go_upto_region 8 with (go_at_call 73; refine (CN2.out _ bc).mono ?_; clear CN2; rintro e w2 ⟨⟨v9, hv9, hv⟩, b2⟩; (obtain ⟨ao, cap, hps9⟩ := ownS_slice hv9); subst hps9; rw [EL.out] at hv9 hv; (have HV9 := hide hv9); clear hv9; unfold tokV at hv; rw [HYX.out] at hv; subst hv)
        have B2 : Below W0.heap.size W0 w2 := bc.trans (b2.mono bc.size)
        have S2 := B2.size
        have T2 := five_new w2 (.int .i64 (kk : Int)) (.string yx) (.slice ao QL cap) (.int .i64 0) (.int .i64 0)
        have T1 := (HF1.out.below B2 (by omega)).alloc (by omega) (.cells #[.int .i64 (kk : Int), .string yx, .slice ao QL cap, .int .i64 0, .int .i64 0] 34)
        have BW : Below w.heap.size w (w2.alloc (.cells #[.int .i64 (kk : Int), .string yx, .slice ao QL cap, .int .i64 0, .int .i64 0] 34)) := (HB0.out.trans (B2.mono (by omega))).alloc (by omega) _
        have OW : OwnS w.heap.size (.slice ao QL cap) q (w2.alloc (.cells #[.int .i64 (kk : Int), .string yx, .slice ao QL cap, .int .i64 0, .int .i64 0] 34)) := ownS_mono (ownS_alloc HV9.out _) (by have := bc.size; omega)
        have OW2 : OwnS (w.heap.size + 1) (.slice ao QL cap) q (w2.alloc (.cells #[.int .i64 (kk : Int), .string yx, .slice ao QL cap, .int .i64 0, .int .i64 0] 34)) := ownS_mono (ownS_alloc HV9.out _) (by have := bc.size; omega)
        have HOW := hide OW2
        obtain ⟨T, hT⟩ : ∃ T, w2.heap.size = T := ⟨_, rfl⟩
        rw [hT] at T2 ⊢
        have hTp : ¬ T = w.heap.size := by omega
        have hTq : ¬ w.heap.size = T := by omega
        generalize w2.alloc (.cells #[.int .i64 (kk : Int), .string yx, .slice ao QL cap, .int .i64 0, .int .i64 0] 34) = W2 at *
        obtain ⟨c0, c1, c2, c3, c4, f0, f1, f2, f3, f4⟩ := T2
        obtain ⟨d0, d1, d2, d3, d4, g0, g1, g2, g3, g4⟩ := T1
        go_wp2
        refine tok_end (w1 := W2) rfl (some5 ⟨d0, d1, d2, d3, d4⟩) ⟨g0, g1, g2, g3, g4⟩ rfl BW fun g => ?_
        exact ⟨givesP_got HYX.out (ownS_mono (ownS_set5 HOW.out (by omega) _ _ _ _ _) (by omega)) rfl, g⟩
    · have HE := hide (HE1.out hres)
      rw [hres] at CRV
      clear CN HE1 HE2 HE3 hres
      go_enter Tryz.func51, Tryz.ntmps51
      go_upto_region 1 with fail
      try rw [hW0]
      clear hW0
      go_upto_region 4 with (first | (go_at_call 47; refine (CR1.out _ bc).mono ?_; clear bc CR1; rintro e w1 ⟨rfl, bc⟩) | (go_at_call 47; refine (CR2.out _ bc).mono ?_; clear bc CR2; rintro e w1 ⟨rfl, bc⟩) | (go_at_call 20; refine (CA0.out _ bc).mono ?_; clear bc ; rintro e w1 ⟨rfl, bc⟩) | (go_at_call 49; refine (CL.out _).mono ?_; rintro e w0 ⟨rfl, h0⟩; replace h0 := h0.symm; subst h0) | (go_at_call 13; refine (CRV.out _ bc).mono ?_; clear bc ; rintro e w1 ⟨rfl, bc⟩))
      obtain ⟨c0, c1, _, _, _⟩ := HSC.out.below bc
      go_quiet (fail)
      clear c0 c1
      replace bc := below_drewN bc nq
      go_upto_region 6 with (first | (go_at_call 47; refine (CR1.out _ bc).mono ?_; clear bc CR1; rintro e w1 ⟨rfl, bc⟩) | (go_at_call 47; refine (CR2.out _ bc).mono ?_; clear bc CR2; rintro e w1 ⟨rfl, bc⟩) | (go_at_call 20; refine (CA0.out _ bc).mono ?_; clear bc ; rintro e w1 ⟨rfl, bc⟩) | (go_at_call 49; refine (CL.out _).mono ?_; rintro e w0 ⟨rfl, h0⟩; replace h0 := h0.symm; subst h0) | (go_at_call 13; refine (CRV.out _ bc).mono ?_; clear bc ; rintro e w1 ⟨rfl, bc⟩))
      have T1 := HF1.out.below bc (by omega)
      have BW : Below w.heap.size w w1 := HB0.out.trans (bc.mono (by omega))
      obtain ⟨d0, d1, d2, d3, d4, g0, g1, g2, g3, g4⟩ := T1
      go_wp2
      refine tok_end rfl (some5 ⟨d0, d1, d2, d3, d4⟩) ⟨g0, g1, g2, g3, g4⟩ rfl BW fun g => ?_
      rw [HE.out]
      exact ⟨givesP_got HTT.out (ownS_nil _ _) rfl, g⟩
  · obtain ⟨hw1, hk0⟩ := nameN_letter hbl
    rw [hk] at hw1 hk0
    rw [hw1] at CR1
    rw [hbl] at CL
    clear SC hl hk htl hcl hlt ha0 hw1 hbl hkl hll CR2
    cases hres : resL (l.take k)
    · have CN2 := hide (CN.out hres)
      have HE4 := hide (HE2.out hres)
      have HE5 := hide (HE3.out hres)
      rw [hres] at CRV
      clear CN HE1 HE2 HE3 hres
      cases R with
      | bad e44 =>
        obtain rfl := HE4.out _ rfl
        clear HE4 HE5
        go_enter Tryz.func51, Tryz.ntmps51
        go_upto_region 1 with fail
        try rw [hW0]
        clear hW0
        go_upto_region 4 with (first | (go_at_call 47; refine (CR1.out _ bc).mono ?_; clear bc CR1; rintro e w1 ⟨rfl, bc⟩) | (go_at_call 47; refine (CR2.out _ bc).mono ?_; clear bc CR2; rintro e w1 ⟨rfl, bc⟩) | (go_at_call 20; refine (CA0.out _ bc).mono ?_; clear bc ; rintro e w1 ⟨rfl, bc⟩) | (go_at_call 49; refine (CL.out _).mono ?_; rintro e w0 ⟨rfl, h0⟩; replace h0 := h0.symm; subst h0) | (go_at_call 13; refine (CRV.out _ bc).mono ?_; clear bc ; rintro e w1 ⟨rfl, bc⟩))
        obtain ⟨c0, c1, _, _, _⟩ := HSC.out.below bc
        go_quiet (fail)
        clear c0 c1
        replace bc := below_drewN bc nq
        go_upto_region 7 with (first | (go_at_call 47; refine (CR1.out _ bc).mono ?_; clear bc CR1; rintro e w1 ⟨rfl, bc⟩) | (go_at_call 47; refine (CR2.out _ bc).mono ?_; clear bc CR2; rintro e w1 ⟨rfl, bc⟩) | (go_at_call 20; refine (CA0.out _ bc).mono ?_; clear bc ; rintro e w1 ⟨rfl, bc⟩) | (go_at_call 49; refine (CL.out _).mono ?_; rintro e w0 ⟨rfl, h0⟩; replace h0 := h0.symm; subst h0) | (go_at_call 13; refine (CRV.out _ bc).mono ?_; clear bc ; rintro e w1 ⟨rfl, bc⟩))
        go_upto_region 8 with (go_at_call 73; refine (CN2.out _ bc).mono ?_; clear CN2; rintro e w2 ⟨hv, b2⟩; (obtain ⟨ao9, L9, cap9, n9, hv2⟩ := namV_bad hv); subst hv2; clear hv)
        have B2 : Below W0.heap.size W0 w2 := bc.trans (b2.mono bc.size)
        have S2 := B2.size
        have T1 := (HF1.out.below B2 (by omega)).alloc (by omega) (.cells #[.int .i64 2, .string ⟨#[]⟩, .slice ao9 L9 cap9, .int .i64 0, .int .i64 0] 34)
        have BW : Below w.heap.size w (w2.alloc (.cells #[.int .i64 2, .string ⟨#[]⟩, .slice ao9 L9 cap9, .int .i64 0, .int .i64 0] 34)) := (HB0.out.trans (B2.mono (by omega))).alloc (by omega) _
        generalize w2.alloc (.cells #[.int .i64 2, .string ⟨#[]⟩, .slice ao9 L9 cap9, .int .i64 0, .int .i64 0] 34) = W2 at *
        obtain ⟨d0, d1, d2, d3, d4, g0, g1, g2, g3, g4⟩ := T1
        go_wp2
        refine tok_end (w1 := W2) rfl (some5 ⟨d0, d1, d2, d3, d4⟩) ⟨g0, g1, g2, g3, g4⟩ rfl BW fun g => ?_
        exact ⟨rfl, g⟩
      | got kk y q n =>
        have hnn := HE5.out _ _ _ _ rfl
        obtain ⟨yx, hyx⟩ : ∃ yx : ByteArray, ByteArray.mk y.toArray = yx := ⟨_, rfl⟩
        have HYX := hide hyx
        obtain ⟨QL, eQL⟩ : ∃ k, q.length = k := ⟨_, rfl⟩
        have EL := hide eQL
        clear hyx eQL
        clear HE4 HE5
        go_enter Tryz.func51, Tryz.ntmps51
        go_upto_region 1 with fail
        try rw [hW0]
        clear hW0
        go_upto_region 4 with (first | (go_at_call 47; refine (CR1.out _ bc).mono ?_; clear bc CR1; rintro e w1 ⟨rfl, bc⟩) | (go_at_call 47; refine (CR2.out _ bc).mono ?_; clear bc CR2; rintro e w1 ⟨rfl, bc⟩) | (go_at_call 20; refine (CA0.out _ bc).mono ?_; clear bc ; rintro e w1 ⟨rfl, bc⟩) | (go_at_call 49; refine (CL.out _).mono ?_; rintro e w0 ⟨rfl, h0⟩; replace h0 := h0.symm; subst h0) | (go_at_call 13; refine (CRV.out _ bc).mono ?_; clear bc ; rintro e w1 ⟨rfl, bc⟩))
        obtain ⟨c0, c1, _, _, _⟩ := HSC.out.below bc
        go_quiet (fail)
        clear c0 c1
        replace bc := below_drewN bc nq
        go_upto_region 7 with (first | (go_at_call 47; refine (CR1.out _ bc).mono ?_; clear bc CR1; rintro e w1 ⟨rfl, bc⟩) | (go_at_call 47; refine (CR2.out _ bc).mono ?_; clear bc CR2; rintro e w1 ⟨rfl, bc⟩) | (go_at_call 20; refine (CA0.out _ bc).mono ?_; clear bc ; rintro e w1 ⟨rfl, bc⟩) | (go_at_call 49; refine (CL.out _).mono ?_; rintro e w0 ⟨rfl, h0⟩; replace h0 := h0.symm; subst h0) | (go_at_call 13; refine (CRV.out _ bc).mono ?_; clear bc ; rintro e w1 ⟨rfl, bc⟩))
        go_upto_region 8 with (go_at_call 73; refine (CN2.out _ bc).mono ?_; clear CN2; rintro e w2 ⟨⟨v9, hv9, hv⟩, b2⟩; (obtain ⟨ao, cap, hps9⟩ := ownS_slice hv9); subst hps9; rw [EL.out] at hv9 hv; (have HV9 := hide hv9); clear hv9; unfold tokV at hv; rw [HYX.out] at hv; subst hv)
        have B2 : Below W0.heap.size W0 w2 := bc.trans (b2.mono bc.size)
        have S2 := B2.size
        have T2 := five_new w2 (.int .i64 (kk : Int)) (.string yx) (.slice ao QL cap) (.int .i64 0) (.int .i64 0)
        have T1 := (HF1.out.below B2 (by omega)).alloc (by omega) (.cells #[.int .i64 (kk : Int), .string yx, .slice ao QL cap, .int .i64 0, .int .i64 0] 34)
        have BW : Below w.heap.size w (w2.alloc (.cells #[.int .i64 (kk : Int), .string yx, .slice ao QL cap, .int .i64 0, .int .i64 0] 34)) := (HB0.out.trans (B2.mono (by omega))).alloc (by omega) _
        have OW : OwnS w.heap.size (.slice ao QL cap) q (w2.alloc (.cells #[.int .i64 (kk : Int), .string yx, .slice ao QL cap, .int .i64 0, .int .i64 0] 34)) := ownS_mono (ownS_alloc HV9.out _) (by have := bc.size; omega)
        have OW2 : OwnS (w.heap.size + 1) (.slice ao QL cap) q (w2.alloc (.cells #[.int .i64 (kk : Int), .string yx, .slice ao QL cap, .int .i64 0, .int .i64 0] 34)) := ownS_mono (ownS_alloc HV9.out _) (by have := bc.size; omega)
        have HOW := hide OW2
        obtain ⟨T, hT⟩ : ∃ T, w2.heap.size = T := ⟨_, rfl⟩
        rw [hT] at T2 ⊢
        have hTp : ¬ T = w.heap.size := by omega
        have hTq : ¬ w.heap.size = T := by omega
        generalize w2.alloc (.cells #[.int .i64 (kk : Int), .string yx, .slice ao QL cap, .int .i64 0, .int .i64 0] 34) = W2 at *
        obtain ⟨c0, c1, c2, c3, c4, f0, f1, f2, f3, f4⟩ := T2
        obtain ⟨d0, d1, d2, d3, d4, g0, g1, g2, g3, g4⟩ := T1
        go_wp2
        refine tok_end (w1 := W2) rfl (some5 ⟨d0, d1, d2, d3, d4⟩) ⟨g0, g1, g2, g3, g4⟩ rfl BW fun g => ?_
        exact ⟨givesP_got HYX.out (ownS_mono (ownS_set5 HOW.out (by omega) _ _ _ _ _) (by omega)) rfl, g⟩
    · have HE := hide (HE1.out hres)
      rw [hres] at CRV
      clear CN HE1 HE2 HE3 hres
      go_enter Tryz.func51, Tryz.ntmps51
      go_upto_region 1 with fail
      try rw [hW0]
      clear hW0
      go_upto_region 4 with (first | (go_at_call 47; refine (CR1.out _ bc).mono ?_; clear bc CR1; rintro e w1 ⟨rfl, bc⟩) | (go_at_call 47; refine (CR2.out _ bc).mono ?_; clear bc CR2; rintro e w1 ⟨rfl, bc⟩) | (go_at_call 20; refine (CA0.out _ bc).mono ?_; clear bc ; rintro e w1 ⟨rfl, bc⟩) | (go_at_call 49; refine (CL.out _).mono ?_; rintro e w0 ⟨rfl, h0⟩; replace h0 := h0.symm; subst h0) | (go_at_call 13; refine (CRV.out _ bc).mono ?_; clear bc ; rintro e w1 ⟨rfl, bc⟩))
      obtain ⟨c0, c1, _, _, _⟩ := HSC.out.below bc
      go_quiet (fail)
      clear c0 c1
      replace bc := below_drewN bc nq
      go_upto_region 6 with (first | (go_at_call 47; refine (CR1.out _ bc).mono ?_; clear bc CR1; rintro e w1 ⟨rfl, bc⟩) | (go_at_call 47; refine (CR2.out _ bc).mono ?_; clear bc CR2; rintro e w1 ⟨rfl, bc⟩) | (go_at_call 20; refine (CA0.out _ bc).mono ?_; clear bc ; rintro e w1 ⟨rfl, bc⟩) | (go_at_call 49; refine (CL.out _).mono ?_; rintro e w0 ⟨rfl, h0⟩; replace h0 := h0.symm; subst h0) | (go_at_call 13; refine (CRV.out _ bc).mono ?_; clear bc ; rintro e w1 ⟨rfl, bc⟩))
      have T1 := HF1.out.below bc (by omega)
      have BW : Below w.heap.size w w1 := HB0.out.trans (bc.mono (by omega))
      obtain ⟨d0, d1, d2, d3, d4, g0, g1, g2, g3, g4⟩ := T1
      go_wp2
      refine tok_end rfl (some5 ⟨d0, d1, d2, d3, d4⟩) ⟨g0, g1, g2, g3, g4⟩ rfl BW fun g => ?_
      rw [HE.out]
      exact ⟨givesP_got HTT.out (ownS_nil _ _) rfl, g⟩
end Go.Proofs.YtgcbkjfckmjgeaaGreatDoor
