/- The document's scanner: what a token begins with. -/
import Derived.Test.YtgcbkjfckmjgeaaGreatDoorProg
import Derived.Test.YtgcbkjfckmjgeaaGreatDoorLexH5
import Derived.Test.YtgcbkjfckmjgeaaGreatDoorLexG2
import Derived.WalkKit
import Derived.ProofKit
import Derived.OpenShut
import Derived.Below
import Derived.WalkLawsBesides
import Derived.OwnWalk
import Derived.BigQuiet
import Derived.Lib.IndexBytes
import Derived.Deep.MidRow
import Derived.Deep.RegionHeld3
import Derived.WalkSmall
namespace Go.Proofs.YtgcbkjfckmjgeaaGreatDoor
open Go.ChangeShapes Go.WideShapes Go.ChangeAt Go.RowKit

theorem Five.drew {W : World} {b : Nat} {v0 v1 v2 v3 v4 : Value} (h : Five W b v0 v1 v2 v3 v4) : Five W.drew b v0 v1 v2 v3 v4 := ⟨h.c0, h.c1, h.c2, h.c3, h.c4, h.f0, h.f1, h.f2, h.f3, h.f4⟩
theorem gives_P {B : Nat} {r : Rd} {e : Ending} {w' : World} (h : Gives r e) (hq : ∀ k t q n, r = .got k t q n → q = []) : GivesP B r e w' := by
  cases r with
  | bad n => exact h
  | got k t q n =>
    obtain rfl := hq _ _ _ _ rfl
    exact ⟨_, ownS_nil _ _, h⟩
theorem givesP_out {B : Nat} {r : Rd} {e : Ending} {w' : World} (h : GivesP B r e w') : ∃ (K : Int) (tx : ByteArray) (ao : Option Addr) (L cap : Nat) (n z : Int), e = .returned (.tuple #[.agg #[.int .i64 K, .string tx, .slice ao L cap, .int .i64 0, .int .i64 0], .int .i64 n, .int .i64 z])
    ∧ ∀ B0 w'', (∀ q, OwnS B (.slice ao L cap) q w' → OwnS B0 (.slice ao L cap) q w'') → GivesP B0 r e w'' := by
  cases r with
  | bad n => exact ⟨0, ⟨#[]⟩, none, 0, 0, 0, (n : Int), h, fun _ _ _ => h⟩
  | got k t q n =>
    obtain ⟨v, hv, he⟩ := h
    obtain ⟨ao, cap, rfl⟩ := ownS_slice hv
    exact ⟨(k : Int), ⟨t.toArray⟩, ao, q.length, cap, (n : Int), 0, he, fun B0 w'' f => ⟨_, f _ hv, he⟩⟩
theorem strR_q {l : List UInt8} : ∀ k t q n, strR l = .got k t q n → q = [] := by
  intro k t q n h
  unfold strR at h
  split at h
  · cases h
  · split at h <;> cases h; rfl
theorem chrR_q {l : List UInt8} : ∀ k t q n, chrR l = .got k t q n → q = [] := by
  intro k t q n h
  unfold chrR at h
  split at h
  · cases h
  · split at h <;> cases h; rfl

set_option maxRecDepth 100000 in
set_option maxHeartbeats 16000000 in
theorem rone_str (b : Nat) (s : ByteArray) (p : Nat) (w : World) (h : IsSc w b s p) (ha0 : atN s (p + 0) = 34) (hp : p < s.size) : Calls Tryz.prog 22 #[.pointer (some ⟨b, 0, none⟩)] w fun e w' => GivesP w.heap.size (strR (s.data.toList.drop p)) e w' ∧ Below w.heap.size w w' := by
  have hs := h.small
  have hps := h.inside
  have HF1 := hide (five_new w (.int .i64 0) (.string ⟨#[]⟩) (.slice none 0 0) (.int .i64 0) (.int .i64 0))
  have HB0 := hide ((Below.refl w.heap.size w).alloc (Nat.le_refl _) (.cells #[.int .i64 0, .string ⟨#[]⟩, .slice none 0 0, .int .i64 0, .int .i64 0] 34))
  have S0 : (w.alloc (.cells #[.int .i64 0, .string ⟨#[]⟩, .slice none 0 0, .int .i64 0, .int .i64 0] 34)).heap.size = w.heap.size + 1 := by simp
  have SC := h.below HB0.out
  have hbo := h.old
  obtain ⟨W0, hW0⟩ : ∃ W0, w.alloc (.cells #[.int .i64 0, .string ⟨#[]⟩, .slice none 0 0, .int .i64 0, .int .i64 0] 34) = W0 := ⟨_, rfl⟩
  rw [hW0] at HF1 HB0 S0 SC
  have HSC := hide SC
  have bc := Below.refl W0.heap.size W0
  have CA0 : Hid (∀ W, Below W0.heap.size W0 W → Calls Tryz.prog 20 #[.pointer (some ⟨b, 0, none⟩), .int .i64 0] W fun e w' => e = .returned (.int .u8 34) ∧ Below W0.heap.size W0 w') := by
    intro W bW
    refine (at_any b s p 0 W (SC.below bW) (by omega)).mono ?_
    rintro e w' ⟨rfl, g⟩
    exact ⟨by first | (rw [ha0]; rfl) | rw [ha0], bW.trans (g.mono bW.size)⟩
  have CQ : Hid (∀ W, Below W0.heap.size W0 W → Calls Tryz.prog 44 #[.pointer (some ⟨b, 0, none⟩), .int .i64 0, .int .i64 6] W fun e w' => GivesP W.heap.size (strR (s.data.toList.drop p)) e w' ∧ Below W.heap.size W w') := by
    intro W bW
    refine (rstr_any b s p W (SC.below bW) hp).mono ?_
    rintro e w' ⟨g, b⟩
    exact ⟨gives_P g strR_q, b⟩
  generalize strR (s.data.toList.drop p) = R at *
  clear SC ha0
  go_enter Tryz.func22, Tryz.ntmps22
  go_upto_region 1 with fail
  try rw [hW0]
  clear hW0
  go_wp2_with (first | (go_at_call 20; refine (CA0.out _ bc).mono ?_; clear bc CA0; rintro e w1 ⟨rfl, bc⟩) | (go_at_call 44; refine (CQ.out _ bc).mono ?_; clear CQ; rintro e w2 ⟨hv, b2⟩; (obtain ⟨K9, tx9, ao9, L9, cap9, n9, z9, he9, hg9⟩ := givesP_out hv); (have HG9 := hide hg9); clear hv hg9; subst he9; (have S1 := bc.size); (have B2 : Below W0.heap.size W0 w2 := bc.trans (b2.mono bc.size)); (have BW : Below w.heap.size w w2 := HB0.out.trans (B2.mono (by omega))); (have T1 := HF1.out.below B2 (by omega)); obtain ⟨d0, d1, d2, d3, d4, g0, g1, g2, g3, g4⟩ := T1))
  refine tok_end (w1 := w2) rfl (some5 ⟨d0, d1, d2, d3, d4⟩) ⟨g0, g1, g2, g3, g4⟩ rfl BW fun g => ?_
  exact ⟨HG9.out _ _ fun q hq => ownS_mono (ownS_set5 (B := w.heap.size + 1) (ownS_mono hq (by omega)) (by omega) _ _ _ _ _) (by omega), g⟩

set_option maxRecDepth 100000 in
set_option maxHeartbeats 16000000 in
theorem rone_chr (b : Nat) (s : ByteArray) (p : Nat) (w : World) (h : IsSc w b s p) (ha0 : atN s (p + 0) = 35) (ha1 : atN s (p + 1) = 34) (hp : p + 1 < s.size) : Calls Tryz.prog 22 #[.pointer (some ⟨b, 0, none⟩)] w fun e w' => GivesP w.heap.size (chrR (s.data.toList.drop p)) e w' ∧ Below w.heap.size w w' := by
  have hs := h.small
  have hps := h.inside
  have HF1 := hide (five_new w (.int .i64 0) (.string ⟨#[]⟩) (.slice none 0 0) (.int .i64 0) (.int .i64 0))
  have HB0 := hide ((Below.refl w.heap.size w).alloc (Nat.le_refl _) (.cells #[.int .i64 0, .string ⟨#[]⟩, .slice none 0 0, .int .i64 0, .int .i64 0] 34))
  have S0 : (w.alloc (.cells #[.int .i64 0, .string ⟨#[]⟩, .slice none 0 0, .int .i64 0, .int .i64 0] 34)).heap.size = w.heap.size + 1 := by simp
  have SC := h.below HB0.out
  have hbo := h.old
  obtain ⟨W0, hW0⟩ : ∃ W0, w.alloc (.cells #[.int .i64 0, .string ⟨#[]⟩, .slice none 0 0, .int .i64 0, .int .i64 0] 34) = W0 := ⟨_, rfl⟩
  rw [hW0] at HF1 HB0 S0 SC
  have HSC := hide SC
  have bc := Below.refl W0.heap.size W0
  have CA0 : Hid (∀ W, Below W0.heap.size W0 W → Calls Tryz.prog 20 #[.pointer (some ⟨b, 0, none⟩), .int .i64 0] W fun e w' => e = .returned (.int .u8 35) ∧ Below W0.heap.size W0 w') := by
    intro W bW
    refine (at_any b s p 0 W (SC.below bW) (by omega)).mono ?_
    rintro e w' ⟨rfl, g⟩
    exact ⟨by first | (rw [ha0]; rfl) | rw [ha0], bW.trans (g.mono bW.size)⟩
  have CA1 : Hid (∀ W, Below W0.heap.size W0 W → Calls Tryz.prog 20 #[.pointer (some ⟨b, 0, none⟩), .int .i64 1] W fun e w' => e = .returned (.int .u8 34) ∧ Below W0.heap.size W0 w') := by
    intro W bW
    refine (at_any b s p 1 W (SC.below bW) (by omega)).mono ?_
    rintro e w' ⟨rfl, g⟩
    exact ⟨by first | (rw [ha1]; rfl) | rw [ha1], bW.trans (g.mono bW.size)⟩
  have CQ : Hid (∀ W, Below W0.heap.size W0 W → Calls Tryz.prog 44 #[.pointer (some ⟨b, 0, none⟩), .int .i64 1, .int .i64 7] W fun e w' => GivesP W.heap.size (chrR (s.data.toList.drop p)) e w' ∧ Below W.heap.size W w') := by
    intro W bW
    refine (rchr_any b s p W (SC.below bW) hp).mono ?_
    rintro e w' ⟨g, b⟩
    exact ⟨gives_P g chrR_q, b⟩
  generalize chrR (s.data.toList.drop p) = R at *
  clear SC ha0 ha1
  go_enter Tryz.func22, Tryz.ntmps22
  go_upto_region 1 with fail
  try rw [hW0]
  clear hW0
  go_wp2_with (first | (go_at_call 20; refine (CA0.out _ bc).mono ?_; clear bc CA0; rintro e w1 ⟨rfl, bc⟩) | (go_at_call 20; refine (CA1.out _ bc).mono ?_; clear bc CA1; rintro e w1 ⟨rfl, bc⟩) | (go_at_call 44; refine (CQ.out _ bc).mono ?_; clear CQ; rintro e w2 ⟨hv, b2⟩; (obtain ⟨K9, tx9, ao9, L9, cap9, n9, z9, he9, hg9⟩ := givesP_out hv); (have HG9 := hide hg9); clear hv hg9; subst he9; (have S1 := bc.size); (have B2 : Below W0.heap.size W0 w2 := bc.trans (b2.mono bc.size)); (have BW : Below w.heap.size w w2 := HB0.out.trans (B2.mono (by omega))); (have T1 := HF1.out.below B2 (by omega)); obtain ⟨d0, d1, d2, d3, d4, g0, g1, g2, g3, g4⟩ := T1))
  refine tok_end (w1 := w2) rfl (some5 ⟨d0, d1, d2, d3, d4⟩) ⟨g0, g1, g2, g3, g4⟩ rfl BW fun g => ?_
  exact ⟨HG9.out _ _ fun q hq => ownS_mono (ownS_set5 (B := w.heap.size + 1) (ownS_mono hq (by omega)) (by omega) _ _ _ _ _) (by omega), g⟩

set_option maxRecDepth 100000 in
set_option maxHeartbeats 16000000 in
theorem rone_let (b : Nat) (s : ByteArray) (p : Nat) (w : World) (h : IsSc w b s p) (c0 : UInt8) (a0 : Nat) (hc0 : c0.toNat = a0) (ha0 : atN s (p + 0) = a0) (hdg : digitB c0 = false) (n34 : a0 ≠ 34) (n35 : a0 ≠ 35) (n126 : a0 ≠ 126) (n39 : a0 ≠ 39) (n46 : a0 ≠ 46) (hin : soloL.contains c0 = false) (hlt : letterB c0 = true) (hn : 0 < nameN (s.data.toList.drop p)) : Calls Tryz.prog 22 #[.pointer (some ⟨b, 0, none⟩)] w fun e w' => GivesP w.heap.size (wordR (s.data.toList.drop p)) e w' ∧ Below w.heap.size w w' := by
  have hs := h.small
  have hps := h.inside
  have HF1 := hide (five_new w (.int .i64 0) (.string ⟨#[]⟩) (.slice none 0 0) (.int .i64 0) (.int .i64 0))
  have HB0 := hide ((Below.refl w.heap.size w).alloc (Nat.le_refl _) (.cells #[.int .i64 0, .string ⟨#[]⟩, .slice none 0 0, .int .i64 0, .int .i64 0] 34))
  have S0 : (w.alloc (.cells #[.int .i64 0, .string ⟨#[]⟩, .slice none 0 0, .int .i64 0, .int .i64 0] 34)).heap.size = w.heap.size + 1 := by simp
  have SC := h.below HB0.out
  have hbo := h.old
  obtain ⟨W0, hW0⟩ : ∃ W0, w.alloc (.cells #[.int .i64 0, .string ⟨#[]⟩, .slice none 0 0, .int .i64 0, .int .i64 0] 34) = W0 := ⟨_, rfl⟩
  rw [hW0] at HF1 HB0 S0 SC
  have HSC := hide SC
  have bc := Below.refl W0.heap.size W0
  have CA0 : Hid (∀ W, Below W0.heap.size W0 W → Calls Tryz.prog 20 #[.pointer (some ⟨b, 0, none⟩), .int .i64 0] W fun e w' => e = .returned (.int .u8 (a0 : Int)) ∧ Below W0.heap.size W0 w') := by
    intro W bW
    refine (at_any b s p 0 W (SC.below bW) (by omega)).mono ?_
    rintro e w' ⟨rfl, g⟩
    exact ⟨by first | (rw [ha0]; rfl) | rw [ha0], bW.trans (g.mono bW.size)⟩
  have CDG : Hid (∀ W, Calls Tryz.prog 45 #[.int .u8 (a0 : Int)] W fun e w' => e = .returned (.bool false) ∧ w' = W) := by
    intro W
    have g := rdigit_any c0 W
    rw [hc0, hdg] at g
    exact g
  have E0_34 : ((a0 : Int) == 34) = false := by simp; omega
  have E0_35 : ((a0 : Int) == 35) = false := by simp; omega
  have E0_126 : ((a0 : Int) == 126) = false := by simp; omega
  have E0_39 : ((a0 : Int) == 39) = false := by simp; omega
  have E0_46 : ((a0 : Int) == 46) = false := by simp; omega
  have CIN : Hid (∀ W, Calls Tryz.prog 48 #[.int .u8 (a0 : Int), .string ⟨#[40, 41, 91, 93, 123, 125, 44, 59, 95]⟩] W fun e w' => e = .returned (.bool false) ∧ w' = W) := by
    intro W
    have g := rin_any c0 ⟨#[40, 41, 91, 93, 123, 125, 44, 59, 95]⟩ (by decide) W
    rw [hc0, show ((⟨#[40, 41, 91, 93, 123, 125, 44, 59, 95]⟩ : ByteArray).data.toList) = soloL from rfl, hin] at g
    exact g
  have CL : Hid (∀ W, Calls Tryz.prog 49 #[.int .u8 (a0 : Int)] W fun e w' => e = .returned (.bool true) ∧ w' = W) := by
    intro W
    have g := rletter_any c0 W
    rw [hc0, hlt] at g
    exact g
  have CQ : Hid (∀ W, Below W0.heap.size W0 W → Calls Tryz.prog 51 #[.pointer (some ⟨b, 0, none⟩)] W fun e w' => GivesP W.heap.size (wordR (s.data.toList.drop p)) e w' ∧ Below W.heap.size W w') := fun W bW => rnamed_any b s p W (SC.below bW) hn
  generalize wordR (s.data.toList.drop p) = R at *
  clear SC hn ha0 hdg hin hlt hc0 n34 n35 n126 n39 n46
  go_enter Tryz.func22, Tryz.ntmps22
  go_upto_region 1 with fail
  try rw [hW0]
  clear hW0
  go_wp2_with (first | (go_at_call 20; refine (CA0.out _ bc).mono ?_; clear bc CA0; rintro e w1 ⟨rfl, bc⟩) | (go_at_call 45; refine (CDG.out _).mono ?_; clear CDG; rintro e w0 ⟨rfl, h0⟩; replace h0 := h0.symm; subst h0) | (go_at_call 48; refine (CIN.out _).mono ?_; clear CIN; rintro e w0 ⟨rfl, h0⟩; replace h0 := h0.symm; subst h0) | (go_at_call 49; refine (CL.out _).mono ?_; clear CL; rintro e w0 ⟨rfl, h0⟩; replace h0 := h0.symm; subst h0) | (go_at_call 51; refine (CQ.out _ bc).mono ?_; clear CQ; rintro e w2 ⟨hv, b2⟩; (obtain ⟨K9, tx9, ao9, L9, cap9, n9, z9, he9, hg9⟩ := givesP_out hv); (have HG9 := hide hg9); clear hv hg9; subst he9; (have S1 := bc.size); (have B2 : Below W0.heap.size W0 w2 := bc.trans (b2.mono bc.size)); (have BW : Below w.heap.size w w2 := HB0.out.trans (B2.mono (by omega))); (have T1 := HF1.out.below B2 (by omega)); obtain ⟨d0, d1, d2, d3, d4, g0, g1, g2, g3, g4⟩ := T1))
  refine tok_end (w1 := w2) rfl (some5 ⟨d0, d1, d2, d3, d4⟩) ⟨g0, g1, g2, g3, g4⟩ rfl BW fun g => ?_
  exact ⟨HG9.out _ _ fun q hq => ownS_mono (ownS_set5 (B := w.heap.size + 1) (ownS_mono hq (by omega)) (by omega) _ _ _ _ _) (by omega), g⟩

set_option maxRecDepth 100000 in
set_option maxHeartbeats 16000000 in
theorem rone_sig (b : Nat) (s : ByteArray) (p : Nat) (w : World) (h : IsSc w b s p) (c0 : UInt8) (a0 : Nat) (hc0 : c0.toNat = a0) (ha0 : atN s (p + 0) = a0) (hdg : digitB c0 = false) (n34 : a0 ≠ 34) (n35 : a0 ≠ 35) (n126 : a0 ≠ 126) (n39 : a0 ≠ 39) (n46 : a0 ≠ 46) (hin : soloL.contains c0 = false) (hlt : letterB c0 = false) (hsg : signB c0 = true) (hn : 0 < nameN (s.data.toList.drop p)) : Calls Tryz.prog 22 #[.pointer (some ⟨b, 0, none⟩)] w fun e w' => GivesP w.heap.size (wordR (s.data.toList.drop p)) e w' ∧ Below w.heap.size w w' := by
  have hs := h.small
  have hps := h.inside
  have HF1 := hide (five_new w (.int .i64 0) (.string ⟨#[]⟩) (.slice none 0 0) (.int .i64 0) (.int .i64 0))
  have HB0 := hide ((Below.refl w.heap.size w).alloc (Nat.le_refl _) (.cells #[.int .i64 0, .string ⟨#[]⟩, .slice none 0 0, .int .i64 0, .int .i64 0] 34))
  have S0 : (w.alloc (.cells #[.int .i64 0, .string ⟨#[]⟩, .slice none 0 0, .int .i64 0, .int .i64 0] 34)).heap.size = w.heap.size + 1 := by simp
  have SC := h.below HB0.out
  have hbo := h.old
  obtain ⟨W0, hW0⟩ : ∃ W0, w.alloc (.cells #[.int .i64 0, .string ⟨#[]⟩, .slice none 0 0, .int .i64 0, .int .i64 0] 34) = W0 := ⟨_, rfl⟩
  rw [hW0] at HF1 HB0 S0 SC
  have HSC := hide SC
  have bc := Below.refl W0.heap.size W0
  have CA0 : Hid (∀ W, Below W0.heap.size W0 W → Calls Tryz.prog 20 #[.pointer (some ⟨b, 0, none⟩), .int .i64 0] W fun e w' => e = .returned (.int .u8 (a0 : Int)) ∧ Below W0.heap.size W0 w') := by
    intro W bW
    refine (at_any b s p 0 W (SC.below bW) (by omega)).mono ?_
    rintro e w' ⟨rfl, g⟩
    exact ⟨by first | (rw [ha0]; rfl) | rw [ha0], bW.trans (g.mono bW.size)⟩
  have CDG : Hid (∀ W, Calls Tryz.prog 45 #[.int .u8 (a0 : Int)] W fun e w' => e = .returned (.bool false) ∧ w' = W) := by
    intro W
    have g := rdigit_any c0 W
    rw [hc0, hdg] at g
    exact g
  have E0_34 : ((a0 : Int) == 34) = false := by simp; omega
  have E0_35 : ((a0 : Int) == 35) = false := by simp; omega
  have E0_126 : ((a0 : Int) == 126) = false := by simp; omega
  have E0_39 : ((a0 : Int) == 39) = false := by simp; omega
  have E0_46 : ((a0 : Int) == 46) = false := by simp; omega
  have CIN : Hid (∀ W, Calls Tryz.prog 48 #[.int .u8 (a0 : Int), .string ⟨#[40, 41, 91, 93, 123, 125, 44, 59, 95]⟩] W fun e w' => e = .returned (.bool false) ∧ w' = W) := by
    intro W
    have g := rin_any c0 ⟨#[40, 41, 91, 93, 123, 125, 44, 59, 95]⟩ (by decide) W
    rw [hc0, show ((⟨#[40, 41, 91, 93, 123, 125, 44, 59, 95]⟩ : ByteArray).data.toList) = soloL from rfl, hin] at g
    exact g
  have CL : Hid (∀ W, Calls Tryz.prog 49 #[.int .u8 (a0 : Int)] W fun e w' => e = .returned (.bool false) ∧ w' = W) := by
    intro W
    have g := rletter_any c0 W
    rw [hc0, hlt] at g
    exact g
  have CSG : Hid (∀ W, Calls Tryz.prog 50 #[.int .u8 (a0 : Int)] W fun e w' => e = .returned (.bool true) ∧ w' = W) := by
    intro W
    have g := rsign_any c0 W
    rw [hc0, hsg] at g
    exact g
  have CQ : Hid (∀ W, Below W0.heap.size W0 W → Calls Tryz.prog 51 #[.pointer (some ⟨b, 0, none⟩)] W fun e w' => GivesP W.heap.size (wordR (s.data.toList.drop p)) e w' ∧ Below W.heap.size W w') := fun W bW => rnamed_any b s p W (SC.below bW) hn
  generalize wordR (s.data.toList.drop p) = R at *
  clear SC hn ha0 hdg hin hlt hsg hc0 n34 n35 n126 n39 n46
  go_enter Tryz.func22, Tryz.ntmps22
  go_upto_region 1 with fail
  try rw [hW0]
  clear hW0
  go_wp2_with (first | (go_at_call 20; refine (CA0.out _ bc).mono ?_; clear bc CA0; rintro e w1 ⟨rfl, bc⟩) | (go_at_call 45; refine (CDG.out _).mono ?_; clear CDG; rintro e w0 ⟨rfl, h0⟩; replace h0 := h0.symm; subst h0) | (go_at_call 48; refine (CIN.out _).mono ?_; clear CIN; rintro e w0 ⟨rfl, h0⟩; replace h0 := h0.symm; subst h0) | (go_at_call 49; refine (CL.out _).mono ?_; clear CL; rintro e w0 ⟨rfl, h0⟩; replace h0 := h0.symm; subst h0) | (go_at_call 50; refine (CSG.out _).mono ?_; clear CSG; rintro e w0 ⟨rfl, h0⟩; replace h0 := h0.symm; subst h0) | (go_at_call 51; refine (CQ.out _ bc).mono ?_; clear CQ; rintro e w2 ⟨hv, b2⟩; (obtain ⟨K9, tx9, ao9, L9, cap9, n9, z9, he9, hg9⟩ := givesP_out hv); (have HG9 := hide hg9); clear hv hg9; subst he9; (have S1 := bc.size); (have B2 : Below W0.heap.size W0 w2 := bc.trans (b2.mono bc.size)); (have BW : Below w.heap.size w w2 := HB0.out.trans (B2.mono (by omega))); (have T1 := HF1.out.below B2 (by omega)); obtain ⟨d0, d1, d2, d3, d4, g0, g1, g2, g3, g4⟩ := T1))
  refine tok_end (w1 := w2) rfl (some5 ⟨d0, d1, d2, d3, d4⟩) ⟨g0, g1, g2, g3, g4⟩ rfl BW fun g => ?_
  exact ⟨HG9.out _ _ fun q hq => ownS_mono (ownS_set5 (B := w.heap.size + 1) (ownS_mono hq (by omega)) (by omega) _ _ _ _ _) (by omega), g⟩

set_option maxRecDepth 100000 in
set_option maxHeartbeats 16000000 in
theorem rone_sig35 (b : Nat) (s : ByteArray) (p : Nat) (w : World) (h : IsSc w b s p) (a1 : Nat) (ha0 : atN s (p + 0) = 35) (ha1 : atN s (p + 1) = a1) (n1 : a1 ≠ 34) (hn : 0 < nameN (s.data.toList.drop p)) : Calls Tryz.prog 22 #[.pointer (some ⟨b, 0, none⟩)] w fun e w' => GivesP w.heap.size (wordR (s.data.toList.drop p)) e w' ∧ Below w.heap.size w w' := by
  have hs := h.small
  have hps := h.inside
  have HF1 := hide (five_new w (.int .i64 0) (.string ⟨#[]⟩) (.slice none 0 0) (.int .i64 0) (.int .i64 0))
  have HB0 := hide ((Below.refl w.heap.size w).alloc (Nat.le_refl _) (.cells #[.int .i64 0, .string ⟨#[]⟩, .slice none 0 0, .int .i64 0, .int .i64 0] 34))
  have S0 : (w.alloc (.cells #[.int .i64 0, .string ⟨#[]⟩, .slice none 0 0, .int .i64 0, .int .i64 0] 34)).heap.size = w.heap.size + 1 := by simp
  have SC := h.below HB0.out
  have hbo := h.old
  obtain ⟨W0, hW0⟩ : ∃ W0, w.alloc (.cells #[.int .i64 0, .string ⟨#[]⟩, .slice none 0 0, .int .i64 0, .int .i64 0] 34) = W0 := ⟨_, rfl⟩
  rw [hW0] at HF1 HB0 S0 SC
  have HSC := hide SC
  have bc := Below.refl W0.heap.size W0
  have CA0 : Hid (∀ W, Below W0.heap.size W0 W → Calls Tryz.prog 20 #[.pointer (some ⟨b, 0, none⟩), .int .i64 0] W fun e w' => e = .returned (.int .u8 35) ∧ Below W0.heap.size W0 w') := by
    intro W bW
    refine (at_any b s p 0 W (SC.below bW) (by omega)).mono ?_
    rintro e w' ⟨rfl, g⟩
    exact ⟨by first | (rw [ha0]; rfl) | rw [ha0], bW.trans (g.mono bW.size)⟩
  have CA1 : Hid (∀ W, Below W0.heap.size W0 W → Calls Tryz.prog 20 #[.pointer (some ⟨b, 0, none⟩), .int .i64 1] W fun e w' => e = .returned (.int .u8 (a1 : Int)) ∧ Below W0.heap.size W0 w') := by
    intro W bW
    refine (at_any b s p 1 W (SC.below bW) (by omega)).mono ?_
    rintro e w' ⟨rfl, g⟩
    exact ⟨by first | (rw [ha1]; rfl) | rw [ha1], bW.trans (g.mono bW.size)⟩
  have CDG : Hid (∀ W, Calls Tryz.prog 45 #[.int .u8 35] W fun e w' => e = .returned (.bool false) ∧ w' = W) := fun W => rdigit_any 35 W
  have E1_34 : ((a1 : Int) == 34) = false := by simp; omega
  have CIN : Hid (∀ W, Calls Tryz.prog 48 #[.int .u8 35, .string ⟨#[40, 41, 91, 93, 123, 125, 44, 59, 95]⟩] W fun e w' => e = .returned (.bool false) ∧ w' = W) := fun W => rin_any 35 ⟨#[40, 41, 91, 93, 123, 125, 44, 59, 95]⟩ (by decide) W
  have CL : Hid (∀ W, Calls Tryz.prog 49 #[.int .u8 35] W fun e w' => e = .returned (.bool false) ∧ w' = W) := fun W => rletter_any 35 W
  have CSG : Hid (∀ W, Calls Tryz.prog 50 #[.int .u8 35] W fun e w' => e = .returned (.bool true) ∧ w' = W) := fun W => rsign_any 35 W
  have CQ : Hid (∀ W, Below W0.heap.size W0 W → Calls Tryz.prog 51 #[.pointer (some ⟨b, 0, none⟩)] W fun e w' => GivesP W.heap.size (wordR (s.data.toList.drop p)) e w' ∧ Below W.heap.size W w') := fun W bW => rnamed_any b s p W (SC.below bW) hn
  generalize wordR (s.data.toList.drop p) = R at *
  clear SC hn ha0 ha1 n1
  go_enter Tryz.func22, Tryz.ntmps22
  go_upto_region 1 with fail
  try rw [hW0]
  clear hW0
  go_wp2_with (first | (go_at_call 20; refine (CA0.out _ bc).mono ?_; clear bc CA0; rintro e w1 ⟨rfl, bc⟩) | (go_at_call 20; refine (CA1.out _ bc).mono ?_; clear bc CA1; rintro e w1 ⟨rfl, bc⟩) | (go_at_call 45; refine (CDG.out _).mono ?_; clear CDG; rintro e w0 ⟨rfl, h0⟩; replace h0 := h0.symm; subst h0) | (go_at_call 48; refine (CIN.out _).mono ?_; clear CIN; rintro e w0 ⟨rfl, h0⟩; replace h0 := h0.symm; subst h0) | (go_at_call 49; refine (CL.out _).mono ?_; clear CL; rintro e w0 ⟨rfl, h0⟩; replace h0 := h0.symm; subst h0) | (go_at_call 50; refine (CSG.out _).mono ?_; clear CSG; rintro e w0 ⟨rfl, h0⟩; replace h0 := h0.symm; subst h0) | (go_at_call 51; refine (CQ.out _ bc).mono ?_; clear CQ; rintro e w2 ⟨hv, b2⟩; (obtain ⟨K9, tx9, ao9, L9, cap9, n9, z9, he9, hg9⟩ := givesP_out hv); (have HG9 := hide hg9); clear hv hg9; subst he9; (have S1 := bc.size); (have B2 : Below W0.heap.size W0 w2 := bc.trans (b2.mono bc.size)); (have BW : Below w.heap.size w w2 := HB0.out.trans (B2.mono (by omega))); (have T1 := HF1.out.below B2 (by omega)); obtain ⟨d0, d1, d2, d3, d4, g0, g1, g2, g3, g4⟩ := T1))
  refine tok_end (w1 := w2) rfl (some5 ⟨d0, d1, d2, d3, d4⟩) ⟨g0, g1, g2, g3, g4⟩ rfl BW fun g => ?_
  exact ⟨HG9.out _ _ fun q hq => ownS_mono (ownS_set5 (B := w.heap.size + 1) (ownS_mono hq (by omega)) (by omega) _ _ _ _ _) (by omega), g⟩

set_option maxRecDepth 100000 in
set_option maxHeartbeats 16000000 in
theorem rone_sig126 (b : Nat) (s : ByteArray) (p : Nat) (w : World) (h : IsSc w b s p) (c1 : UInt8) (a1 : Nat) (hc1 : c1.toNat = a1) (ha0 : atN s (p + 0) = 126) (ha1 : atN s (p + 1) = a1) (hd1 : digitB c1 = false) (hn : 0 < nameN (s.data.toList.drop p)) : Calls Tryz.prog 22 #[.pointer (some ⟨b, 0, none⟩)] w fun e w' => GivesP w.heap.size (wordR (s.data.toList.drop p)) e w' ∧ Below w.heap.size w w' := by
  have hs := h.small
  have hps := h.inside
  have HF1 := hide (five_new w (.int .i64 0) (.string ⟨#[]⟩) (.slice none 0 0) (.int .i64 0) (.int .i64 0))
  have HB0 := hide ((Below.refl w.heap.size w).alloc (Nat.le_refl _) (.cells #[.int .i64 0, .string ⟨#[]⟩, .slice none 0 0, .int .i64 0, .int .i64 0] 34))
  have S0 : (w.alloc (.cells #[.int .i64 0, .string ⟨#[]⟩, .slice none 0 0, .int .i64 0, .int .i64 0] 34)).heap.size = w.heap.size + 1 := by simp
  have SC := h.below HB0.out
  have hbo := h.old
  obtain ⟨W0, hW0⟩ : ∃ W0, w.alloc (.cells #[.int .i64 0, .string ⟨#[]⟩, .slice none 0 0, .int .i64 0, .int .i64 0] 34) = W0 := ⟨_, rfl⟩
  rw [hW0] at HF1 HB0 S0 SC
  have HSC := hide SC
  have bc := Below.refl W0.heap.size W0
  have CA0 : Hid (∀ W, Below W0.heap.size W0 W → Calls Tryz.prog 20 #[.pointer (some ⟨b, 0, none⟩), .int .i64 0] W fun e w' => e = .returned (.int .u8 126) ∧ Below W0.heap.size W0 w') := by
    intro W bW
    refine (at_any b s p 0 W (SC.below bW) (by omega)).mono ?_
    rintro e w' ⟨rfl, g⟩
    exact ⟨by first | (rw [ha0]; rfl) | rw [ha0], bW.trans (g.mono bW.size)⟩
  have CA1 : Hid (∀ W, Below W0.heap.size W0 W → Calls Tryz.prog 20 #[.pointer (some ⟨b, 0, none⟩), .int .i64 1] W fun e w' => e = .returned (.int .u8 (a1 : Int)) ∧ Below W0.heap.size W0 w') := by
    intro W bW
    refine (at_any b s p 1 W (SC.below bW) (by omega)).mono ?_
    rintro e w' ⟨rfl, g⟩
    exact ⟨by first | (rw [ha1]; rfl) | rw [ha1], bW.trans (g.mono bW.size)⟩
  have CDG : Hid (∀ W, Calls Tryz.prog 45 #[.int .u8 126] W fun e w' => e = .returned (.bool false) ∧ w' = W) := fun W => rdigit_any 126 W
  have CDG1 : Hid (∀ W, Calls Tryz.prog 45 #[.int .u8 (a1 : Int)] W fun e w' => e = .returned (.bool false) ∧ w' = W) := by
    intro W
    have g := rdigit_any c1 W
    rw [hc1, hd1] at g
    exact g
  have CIN : Hid (∀ W, Calls Tryz.prog 48 #[.int .u8 126, .string ⟨#[40, 41, 91, 93, 123, 125, 44, 59, 95]⟩] W fun e w' => e = .returned (.bool false) ∧ w' = W) := fun W => rin_any 126 ⟨#[40, 41, 91, 93, 123, 125, 44, 59, 95]⟩ (by decide) W
  have CL : Hid (∀ W, Calls Tryz.prog 49 #[.int .u8 126] W fun e w' => e = .returned (.bool false) ∧ w' = W) := fun W => rletter_any 126 W
  have CSG : Hid (∀ W, Calls Tryz.prog 50 #[.int .u8 126] W fun e w' => e = .returned (.bool true) ∧ w' = W) := fun W => rsign_any 126 W
  have CQ : Hid (∀ W, Below W0.heap.size W0 W → Calls Tryz.prog 51 #[.pointer (some ⟨b, 0, none⟩)] W fun e w' => GivesP W.heap.size (wordR (s.data.toList.drop p)) e w' ∧ Below W.heap.size W w') := fun W bW => rnamed_any b s p W (SC.below bW) hn
  generalize wordR (s.data.toList.drop p) = R at *
  clear SC hn ha0 ha1 hd1 hc1
  go_enter Tryz.func22, Tryz.ntmps22
  go_upto_region 1 with fail
  try rw [hW0]
  clear hW0
  go_wp2_with (first | (go_at_call 20; refine (CA0.out _ bc).mono ?_; clear bc CA0; rintro e w1 ⟨rfl, bc⟩) | (go_at_call 20; refine (CA1.out _ bc).mono ?_; clear bc CA1; rintro e w1 ⟨rfl, bc⟩) | (go_at_call 45; refine (CDG.out _).mono ?_; clear CDG; rintro e w0 ⟨rfl, h0⟩; replace h0 := h0.symm; subst h0) | (go_at_call 45; refine (CDG1.out _).mono ?_; clear CDG1; rintro e w0 ⟨rfl, h0⟩; replace h0 := h0.symm; subst h0) | (go_at_call 48; refine (CIN.out _).mono ?_; clear CIN; rintro e w0 ⟨rfl, h0⟩; replace h0 := h0.symm; subst h0) | (go_at_call 49; refine (CL.out _).mono ?_; clear CL; rintro e w0 ⟨rfl, h0⟩; replace h0 := h0.symm; subst h0) | (go_at_call 50; refine (CSG.out _).mono ?_; clear CSG; rintro e w0 ⟨rfl, h0⟩; replace h0 := h0.symm; subst h0) | (go_at_call 51; refine (CQ.out _ bc).mono ?_; clear CQ; rintro e w2 ⟨hv, b2⟩; (obtain ⟨K9, tx9, ao9, L9, cap9, n9, z9, he9, hg9⟩ := givesP_out hv); (have HG9 := hide hg9); clear hv hg9; subst he9; (have S1 := bc.size); (have B2 : Below W0.heap.size W0 w2 := bc.trans (b2.mono bc.size)); (have BW : Below w.heap.size w w2 := HB0.out.trans (B2.mono (by omega))); (have T1 := HF1.out.below B2 (by omega)); obtain ⟨d0, d1, d2, d3, d4, g0, g1, g2, g3, g4⟩ := T1))
  refine tok_end (w1 := w2) rfl (some5 ⟨d0, d1, d2, d3, d4⟩) ⟨g0, g1, g2, g3, g4⟩ rfl BW fun g => ?_
  exact ⟨HG9.out _ _ fun q hq => ownS_mono (ownS_set5 (B := w.heap.size + 1) (ownS_mono hq (by omega)) (by omega) _ _ _ _ _) (by omega), g⟩

set_option maxRecDepth 100000 in
set_option maxHeartbeats 16000000 in
theorem rone_none (b : Nat) (s : ByteArray) (p : Nat) (w : World) (h : IsSc w b s p) (c0 : UInt8) (a0 : Nat) (hc0 : c0.toNat = a0) (ha0 : atN s (p + 0) = a0) (hdg : digitB c0 = false) (n34 : a0 ≠ 34) (n35 : a0 ≠ 35) (n126 : a0 ≠ 126) (n39 : a0 ≠ 39) (n46 : a0 ≠ 46) (hin : soloL.contains c0 = false) (hlt : letterB c0 = false) (hsg : signB c0 = false) : Calls Tryz.prog 22 #[.pointer (some ⟨b, 0, none⟩)] w fun e w' => GivesP w.heap.size (.bad 40) e w' ∧ Below w.heap.size w w' := by
  have hs := h.small
  have hps := h.inside
  have HF1 := hide (five_new w (.int .i64 0) (.string ⟨#[]⟩) (.slice none 0 0) (.int .i64 0) (.int .i64 0))
  have HB0 := hide ((Below.refl w.heap.size w).alloc (Nat.le_refl _) (.cells #[.int .i64 0, .string ⟨#[]⟩, .slice none 0 0, .int .i64 0, .int .i64 0] 34))
  have S0 : (w.alloc (.cells #[.int .i64 0, .string ⟨#[]⟩, .slice none 0 0, .int .i64 0, .int .i64 0] 34)).heap.size = w.heap.size + 1 := by simp
  have SC := h.below HB0.out
  have hbo := h.old
  obtain ⟨W0, hW0⟩ : ∃ W0, w.alloc (.cells #[.int .i64 0, .string ⟨#[]⟩, .slice none 0 0, .int .i64 0, .int .i64 0] 34) = W0 := ⟨_, rfl⟩
  rw [hW0] at HF1 HB0 S0 SC
  have HSC := hide SC
  have bc := Below.refl W0.heap.size W0
  have CA0 : Hid (∀ W, Below W0.heap.size W0 W → Calls Tryz.prog 20 #[.pointer (some ⟨b, 0, none⟩), .int .i64 0] W fun e w' => e = .returned (.int .u8 (a0 : Int)) ∧ Below W0.heap.size W0 w') := by
    intro W bW
    refine (at_any b s p 0 W (SC.below bW) (by omega)).mono ?_
    rintro e w' ⟨rfl, g⟩
    exact ⟨by first | (rw [ha0]; rfl) | rw [ha0], bW.trans (g.mono bW.size)⟩
  have CDG : Hid (∀ W, Calls Tryz.prog 45 #[.int .u8 (a0 : Int)] W fun e w' => e = .returned (.bool false) ∧ w' = W) := by
    intro W
    have g := rdigit_any c0 W
    rw [hc0, hdg] at g
    exact g
  have E0_34 : ((a0 : Int) == 34) = false := by simp; omega
  have E0_35 : ((a0 : Int) == 35) = false := by simp; omega
  have E0_126 : ((a0 : Int) == 126) = false := by simp; omega
  have E0_39 : ((a0 : Int) == 39) = false := by simp; omega
  have E0_46 : ((a0 : Int) == 46) = false := by simp; omega
  have CIN : Hid (∀ W, Calls Tryz.prog 48 #[.int .u8 (a0 : Int), .string ⟨#[40, 41, 91, 93, 123, 125, 44, 59, 95]⟩] W fun e w' => e = .returned (.bool false) ∧ w' = W) := by
    intro W
    have g := rin_any c0 ⟨#[40, 41, 91, 93, 123, 125, 44, 59, 95]⟩ (by decide) W
    rw [hc0, show ((⟨#[40, 41, 91, 93, 123, 125, 44, 59, 95]⟩ : ByteArray).data.toList) = soloL from rfl, hin] at g
    exact g
  have CL : Hid (∀ W, Calls Tryz.prog 49 #[.int .u8 (a0 : Int)] W fun e w' => e = .returned (.bool false) ∧ w' = W) := by
    intro W
    have g := rletter_any c0 W
    rw [hc0, hlt] at g
    exact g
  have CSG : Hid (∀ W, Calls Tryz.prog 50 #[.int .u8 (a0 : Int)] W fun e w' => e = .returned (.bool false) ∧ w' = W) := by
    intro W
    have g := rsign_any c0 W
    rw [hc0, hsg] at g
    exact g
  clear SC ha0 hdg hin hlt hsg hc0 n34 n35 n126 n39 n46
  go_enter Tryz.func22, Tryz.ntmps22
  go_upto_region 1 with fail
  try rw [hW0]
  clear hW0
  go_upto_region 25 with (first | (go_at_call 20; refine (CA0.out _ bc).mono ?_; clear bc CA0; rintro e w1 ⟨rfl, bc⟩) | (go_at_call 45; refine (CDG.out _).mono ?_; clear CDG; rintro e w0 ⟨rfl, h0⟩; replace h0 := h0.symm; subst h0) | (go_at_call 48; refine (CIN.out _).mono ?_; clear CIN; rintro e w0 ⟨rfl, h0⟩; replace h0 := h0.symm; subst h0) | (go_at_call 49; refine (CL.out _).mono ?_; clear CL; rintro e w0 ⟨rfl, h0⟩; replace h0 := h0.symm; subst h0) | (go_at_call 50; refine (CSG.out _).mono ?_; clear CSG; rintro e w0 ⟨rfl, h0⟩; replace h0 := h0.symm; subst h0))
  have T1 := HF1.out.below bc (by omega)
  have BW : Below w.heap.size w w1 := HB0.out.trans (bc.mono (by omega))
  obtain ⟨d0, d1, d2, d3, d4, g0, g1, g2, g3, g4⟩ := T1
  go_wp2
  refine tok_end (w1 := w1) rfl (some5 ⟨d0, d1, d2, d3, d4⟩) ⟨g0, g1, g2, g3, g4⟩ rfl BW fun g => ?_
  exact ⟨rfl, g⟩

set_option maxRecDepth 100000 in
set_option maxHeartbeats 16000000 in
theorem rone_dot1 (b : Nat) (s : ByteArray) (p : Nat) (w : World) (h : IsSc w b s p) (a1 : Nat) (ha0 : atN s (p + 0) = 46) (ha1 : atN s (p + 1) = a1) (n1 : a1 ≠ 46) : Calls Tryz.prog 22 #[.pointer (some ⟨b, 0, none⟩)] w fun e w' => GivesP w.heap.size (.bad 40) e w' ∧ Below w.heap.size w w' := by
  have hs := h.small
  have hps := h.inside
  have HF1 := hide (five_new w (.int .i64 0) (.string ⟨#[]⟩) (.slice none 0 0) (.int .i64 0) (.int .i64 0))
  have HB0 := hide ((Below.refl w.heap.size w).alloc (Nat.le_refl _) (.cells #[.int .i64 0, .string ⟨#[]⟩, .slice none 0 0, .int .i64 0, .int .i64 0] 34))
  have S0 : (w.alloc (.cells #[.int .i64 0, .string ⟨#[]⟩, .slice none 0 0, .int .i64 0, .int .i64 0] 34)).heap.size = w.heap.size + 1 := by simp
  have SC := h.below HB0.out
  have hbo := h.old
  obtain ⟨W0, hW0⟩ : ∃ W0, w.alloc (.cells #[.int .i64 0, .string ⟨#[]⟩, .slice none 0 0, .int .i64 0, .int .i64 0] 34) = W0 := ⟨_, rfl⟩
  rw [hW0] at HF1 HB0 S0 SC
  have HSC := hide SC
  have bc := Below.refl W0.heap.size W0
  have CA0 : Hid (∀ W, Below W0.heap.size W0 W → Calls Tryz.prog 20 #[.pointer (some ⟨b, 0, none⟩), .int .i64 0] W fun e w' => e = .returned (.int .u8 46) ∧ Below W0.heap.size W0 w') := by
    intro W bW
    refine (at_any b s p 0 W (SC.below bW) (by omega)).mono ?_
    rintro e w' ⟨rfl, g⟩
    exact ⟨by first | (rw [ha0]; rfl) | rw [ha0], bW.trans (g.mono bW.size)⟩
  have CA1 : Hid (∀ W, Below W0.heap.size W0 W → Calls Tryz.prog 20 #[.pointer (some ⟨b, 0, none⟩), .int .i64 1] W fun e w' => e = .returned (.int .u8 (a1 : Int)) ∧ Below W0.heap.size W0 w') := by
    intro W bW
    refine (at_any b s p 1 W (SC.below bW) (by omega)).mono ?_
    rintro e w' ⟨rfl, g⟩
    exact ⟨by first | (rw [ha1]; rfl) | rw [ha1], bW.trans (g.mono bW.size)⟩
  have E1_46 : ((a1 : Int) == 46) = false := by simp; omega
  have CDG : Hid (∀ W, Calls Tryz.prog 45 #[.int .u8 46] W fun e w' => e = .returned (.bool false) ∧ w' = W) := fun W => rdigit_any 46 W
  have CIN : Hid (∀ W, Calls Tryz.prog 48 #[.int .u8 46, .string ⟨#[40, 41, 91, 93, 123, 125, 44, 59, 95]⟩] W fun e w' => e = .returned (.bool false) ∧ w' = W) := fun W => rin_any 46 ⟨#[40, 41, 91, 93, 123, 125, 44, 59, 95]⟩ (by decide) W
  have CL : Hid (∀ W, Calls Tryz.prog 49 #[.int .u8 46] W fun e w' => e = .returned (.bool false) ∧ w' = W) := fun W => rletter_any 46 W
  have CSG : Hid (∀ W, Calls Tryz.prog 50 #[.int .u8 46] W fun e w' => e = .returned (.bool false) ∧ w' = W) := fun W => rsign_any 46 W
  clear SC ha0 ha1 n1
  go_enter Tryz.func22, Tryz.ntmps22
  go_upto_region 1 with fail
  try rw [hW0]
  clear hW0
  go_upto_region 25 with (first | (go_at_call 20; refine (CA0.out _ bc).mono ?_; clear bc CA0; rintro e w1 ⟨rfl, bc⟩) | (go_at_call 20; refine (CA1.out _ bc).mono ?_; clear bc CA1; rintro e w1 ⟨rfl, bc⟩) | (go_at_call 45; refine (CDG.out _).mono ?_; clear CDG; rintro e w0 ⟨rfl, h0⟩; replace h0 := h0.symm; subst h0) | (go_at_call 48; refine (CIN.out _).mono ?_; clear CIN; rintro e w0 ⟨rfl, h0⟩; replace h0 := h0.symm; subst h0) | (go_at_call 49; refine (CL.out _).mono ?_; clear CL; rintro e w0 ⟨rfl, h0⟩; replace h0 := h0.symm; subst h0) | (go_at_call 50; refine (CSG.out _).mono ?_; clear CSG; rintro e w0 ⟨rfl, h0⟩; replace h0 := h0.symm; subst h0))
  have T1 := HF1.out.below bc (by omega)
  have BW : Below w.heap.size w w1 := HB0.out.trans (bc.mono (by omega))
  obtain ⟨d0, d1, d2, d3, d4, g0, g1, g2, g3, g4⟩ := T1
  go_wp2
  refine tok_end (w1 := w1) rfl (some5 ⟨d0, d1, d2, d3, d4⟩) ⟨g0, g1, g2, g3, g4⟩ rfl BW fun g => ?_
  exact ⟨rfl, g⟩

set_option maxRecDepth 100000 in
set_option maxHeartbeats 16000000 in
theorem rone_dot2 (b : Nat) (s : ByteArray) (p : Nat) (w : World) (h : IsSc w b s p) (a2 : Nat) (ha0 : atN s (p + 0) = 46) (ha1 : atN s (p + 1) = 46) (ha2 : atN s (p + 2) = a2) (n2 : a2 ≠ 46) : Calls Tryz.prog 22 #[.pointer (some ⟨b, 0, none⟩)] w fun e w' => GivesP w.heap.size (.bad 40) e w' ∧ Below w.heap.size w w' := by
  have hs := h.small
  have hps := h.inside
  have HF1 := hide (five_new w (.int .i64 0) (.string ⟨#[]⟩) (.slice none 0 0) (.int .i64 0) (.int .i64 0))
  have HB0 := hide ((Below.refl w.heap.size w).alloc (Nat.le_refl _) (.cells #[.int .i64 0, .string ⟨#[]⟩, .slice none 0 0, .int .i64 0, .int .i64 0] 34))
  have S0 : (w.alloc (.cells #[.int .i64 0, .string ⟨#[]⟩, .slice none 0 0, .int .i64 0, .int .i64 0] 34)).heap.size = w.heap.size + 1 := by simp
  have SC := h.below HB0.out
  have hbo := h.old
  obtain ⟨W0, hW0⟩ : ∃ W0, w.alloc (.cells #[.int .i64 0, .string ⟨#[]⟩, .slice none 0 0, .int .i64 0, .int .i64 0] 34) = W0 := ⟨_, rfl⟩
  rw [hW0] at HF1 HB0 S0 SC
  have HSC := hide SC
  have bc := Below.refl W0.heap.size W0
  have CA0 : Hid (∀ W, Below W0.heap.size W0 W → Calls Tryz.prog 20 #[.pointer (some ⟨b, 0, none⟩), .int .i64 0] W fun e w' => e = .returned (.int .u8 46) ∧ Below W0.heap.size W0 w') := by
    intro W bW
    refine (at_any b s p 0 W (SC.below bW) (by omega)).mono ?_
    rintro e w' ⟨rfl, g⟩
    exact ⟨by first | (rw [ha0]; rfl) | rw [ha0], bW.trans (g.mono bW.size)⟩
  have CA1 : Hid (∀ W, Below W0.heap.size W0 W → Calls Tryz.prog 20 #[.pointer (some ⟨b, 0, none⟩), .int .i64 1] W fun e w' => e = .returned (.int .u8 46) ∧ Below W0.heap.size W0 w') := by
    intro W bW
    refine (at_any b s p 1 W (SC.below bW) (by omega)).mono ?_
    rintro e w' ⟨rfl, g⟩
    exact ⟨by first | (rw [ha1]; rfl) | rw [ha1], bW.trans (g.mono bW.size)⟩
  have CA2 : Hid (∀ W, Below W0.heap.size W0 W → Calls Tryz.prog 20 #[.pointer (some ⟨b, 0, none⟩), .int .i64 2] W fun e w' => e = .returned (.int .u8 (a2 : Int)) ∧ Below W0.heap.size W0 w') := by
    intro W bW
    refine (at_any b s p 2 W (SC.below bW) (by omega)).mono ?_
    rintro e w' ⟨rfl, g⟩
    exact ⟨by first | (rw [ha2]; rfl) | rw [ha2], bW.trans (g.mono bW.size)⟩
  have E2_46 : ((a2 : Int) == 46) = false := by simp; omega
  have CDG : Hid (∀ W, Calls Tryz.prog 45 #[.int .u8 46] W fun e w' => e = .returned (.bool false) ∧ w' = W) := fun W => rdigit_any 46 W
  have CIN : Hid (∀ W, Calls Tryz.prog 48 #[.int .u8 46, .string ⟨#[40, 41, 91, 93, 123, 125, 44, 59, 95]⟩] W fun e w' => e = .returned (.bool false) ∧ w' = W) := fun W => rin_any 46 ⟨#[40, 41, 91, 93, 123, 125, 44, 59, 95]⟩ (by decide) W
  have CL : Hid (∀ W, Calls Tryz.prog 49 #[.int .u8 46] W fun e w' => e = .returned (.bool false) ∧ w' = W) := fun W => rletter_any 46 W
  have CSG : Hid (∀ W, Calls Tryz.prog 50 #[.int .u8 46] W fun e w' => e = .returned (.bool false) ∧ w' = W) := fun W => rsign_any 46 W
  clear SC ha0 ha1 ha2 n2
  go_enter Tryz.func22, Tryz.ntmps22
  go_upto_region 1 with fail
  try rw [hW0]
  clear hW0
  go_upto_region 25 with (first | (go_at_call 20; refine (CA0.out _ bc).mono ?_; clear bc CA0; rintro e w1 ⟨rfl, bc⟩) | (go_at_call 20; refine (CA1.out _ bc).mono ?_; clear bc CA1; rintro e w1 ⟨rfl, bc⟩) | (go_at_call 20; refine (CA2.out _ bc).mono ?_; clear bc CA2; rintro e w1 ⟨rfl, bc⟩) | (go_at_call 45; refine (CDG.out _).mono ?_; clear CDG; rintro e w0 ⟨rfl, h0⟩; replace h0 := h0.symm; subst h0) | (go_at_call 48; refine (CIN.out _).mono ?_; clear CIN; rintro e w0 ⟨rfl, h0⟩; replace h0 := h0.symm; subst h0) | (go_at_call 49; refine (CL.out _).mono ?_; clear CL; rintro e w0 ⟨rfl, h0⟩; replace h0 := h0.symm; subst h0) | (go_at_call 50; refine (CSG.out _).mono ?_; clear CSG; rintro e w0 ⟨rfl, h0⟩; replace h0 := h0.symm; subst h0))
  have T1 := HF1.out.below bc (by omega)
  have BW : Below w.heap.size w w1 := HB0.out.trans (bc.mono (by omega))
  obtain ⟨d0, d1, d2, d3, d4, g0, g1, g2, g3, g4⟩ := T1
  go_wp2
  refine tok_end (w1 := w1) rfl (some5 ⟨d0, d1, d2, d3, d4⟩) ⟨g0, g1, g2, g3, g4⟩ rfl BW fun g => ?_
  exact ⟨rfl, g⟩

set_option maxRecDepth 100000 in
set_option maxHeartbeats 16000000 in
theorem rone_dots (b : Nat) (s : ByteArray) (p : Nat) (w : World) (h : IsSc w b s p) (ha0 : atN s (p + 0) = 46) (ha1 : atN s (p + 1) = 46) (ha2 : atN s (p + 2) = 46) (hl : (s.data.toList.drop p).take 3 = [46, 46, 46]) : Calls Tryz.prog 22 #[.pointer (some ⟨b, 0, none⟩)] w fun e w' => GivesP w.heap.size (cutR 1 (s.data.toList.drop p) 3) e w' ∧ Below w.heap.size w w' := by
  have hs := h.small
  have hps := h.inside
  have HF1 := hide (five_new w (.int .i64 0) (.string ⟨#[]⟩) (.slice none 0 0) (.int .i64 0) (.int .i64 0))
  have HB0 := hide ((Below.refl w.heap.size w).alloc (Nat.le_refl _) (.cells #[.int .i64 0, .string ⟨#[]⟩, .slice none 0 0, .int .i64 0, .int .i64 0] 34))
  have S0 : (w.alloc (.cells #[.int .i64 0, .string ⟨#[]⟩, .slice none 0 0, .int .i64 0, .int .i64 0] 34)).heap.size = w.heap.size + 1 := by simp
  have SC := h.below HB0.out
  have hbo := h.old
  obtain ⟨W0, hW0⟩ : ∃ W0, w.alloc (.cells #[.int .i64 0, .string ⟨#[]⟩, .slice none 0 0, .int .i64 0, .int .i64 0] 34) = W0 := ⟨_, rfl⟩
  rw [hW0] at HF1 HB0 S0 SC
  have HSC := hide SC
  have bc := Below.refl W0.heap.size W0
  have CA0 : Hid (∀ W, Below W0.heap.size W0 W → Calls Tryz.prog 20 #[.pointer (some ⟨b, 0, none⟩), .int .i64 0] W fun e w' => e = .returned (.int .u8 46) ∧ Below W0.heap.size W0 w') := by
    intro W bW
    refine (at_any b s p 0 W (SC.below bW) (by omega)).mono ?_
    rintro e w' ⟨rfl, g⟩
    exact ⟨by first | (rw [ha0]; rfl) | rw [ha0], bW.trans (g.mono bW.size)⟩
  have CA1 : Hid (∀ W, Below W0.heap.size W0 W → Calls Tryz.prog 20 #[.pointer (some ⟨b, 0, none⟩), .int .i64 1] W fun e w' => e = .returned (.int .u8 46) ∧ Below W0.heap.size W0 w') := by
    intro W bW
    refine (at_any b s p 1 W (SC.below bW) (by omega)).mono ?_
    rintro e w' ⟨rfl, g⟩
    exact ⟨by first | (rw [ha1]; rfl) | rw [ha1], bW.trans (g.mono bW.size)⟩
  have CA2 : Hid (∀ W, Below W0.heap.size W0 W → Calls Tryz.prog 20 #[.pointer (some ⟨b, 0, none⟩), .int .i64 2] W fun e w' => e = .returned (.int .u8 46) ∧ Below W0.heap.size W0 w') := by
    intro W bW
    refine (at_any b s p 2 W (SC.below bW) (by omega)).mono ?_
    rintro e w' ⟨rfl, g⟩
    exact ⟨by first | (rw [ha2]; rfl) | rw [ha2], bW.trans (g.mono bW.size)⟩
  have CDG : Hid (∀ W, Calls Tryz.prog 45 #[.int .u8 46] W fun e w' => e = .returned (.bool false) ∧ w' = W) := fun W => rdigit_any 46 W
  have HE : Hid (cutR 1 (s.data.toList.drop p) 3 = .got 1 [46, 46, 46] [] 3) := by show _ = _; unfold cutR; rw [hl]
  rw [HE.out]
  clear SC ha0 ha1 ha2 hl HE
  go_enter Tryz.func22, Tryz.ntmps22
  go_upto_region 1 with fail
  try rw [hW0]
  clear hW0
  go_upto_region 20 with (first | (go_at_call 20; refine (CA0.out _ bc).mono ?_; clear bc CA0; rintro e w1 ⟨rfl, bc⟩) | (go_at_call 20; refine (CA1.out _ bc).mono ?_; clear bc CA1; rintro e w1 ⟨rfl, bc⟩) | (go_at_call 20; refine (CA2.out _ bc).mono ?_; clear bc CA2; rintro e w1 ⟨rfl, bc⟩) | (go_at_call 45; refine (CDG.out _).mono ?_; clear CDG; rintro e w0 ⟨rfl, h0⟩; replace h0 := h0.symm; subst h0))
  have T1 := HF1.out.below bc (by omega)
  have BW : Below w.heap.size w w1 := HB0.out.trans (bc.mono (by omega))
  obtain ⟨d0, d1, d2, d3, d4, g0, g1, g2, g3, g4⟩ := T1
  go_wp2
  refine tok_end (w1 := w1) rfl (some5 ⟨d0, d1, d2, d3, d4⟩) ⟨g0, g1, g2, g3, g4⟩ rfl BW fun g => ?_
  exact ⟨givesP_got (c := [46, 46, 46]) rfl (ownS_nil _ _) rfl, g⟩
end Go.Proofs.YtgcbkjfckmjgeaaGreatDoor
/- The document's scanner: variables of types, and signs that stand alone. -/
namespace Go.Proofs.YtgcbkjfckmjgeaaGreatDoor
open Go.ChangeShapes Go.WideShapes Go.ChangeAt Go.RowKit

set_option maxRecDepth 100000 in
set_option maxHeartbeats 16000000 in
theorem rone_solo (b : Nat) (s : ByteArray) (p : Nat) (w : World) (h : IsSc w b s p) (hp : p < s.size) (c0 : UInt8) (a0 : Nat) (hc0 : c0.toNat = a0) (ha0 : atN s (p + 0) = a0) (hdg : digitB c0 = false) (n34 : a0 ≠ 34) (n35 : a0 ≠ 35) (n126 : a0 ≠ 126) (n39 : a0 ≠ 39) (n46 : a0 ≠ 46) (hin : soloL.contains c0 = true) : Calls Tryz.prog 22 #[.pointer (some ⟨b, 0, none⟩)] w fun e w' => GivesP w.heap.size (cutR 1 (s.data.toList.drop p) 1) e w' ∧ Below w.heap.size w w' := by
  have hs := h.small
  have hps := h.inside
  have HF1 := hide (five_new w (.int .i64 0) (.string ⟨#[]⟩) (.slice none 0 0) (.int .i64 0) (.int .i64 0))
  have HB0 := hide ((Below.refl w.heap.size w).alloc (Nat.le_refl _) (.cells #[.int .i64 0, .string ⟨#[]⟩, .slice none 0 0, .int .i64 0, .int .i64 0] 34))
  have S0 : (w.alloc (.cells #[.int .i64 0, .string ⟨#[]⟩, .slice none 0 0, .int .i64 0, .int .i64 0] 34)).heap.size = w.heap.size + 1 := by simp
  have SC := h.below HB0.out
  have hbo := h.old
  obtain ⟨W0, hW0⟩ : ∃ W0, w.alloc (.cells #[.int .i64 0, .string ⟨#[]⟩, .slice none 0 0, .int .i64 0, .int .i64 0] 34) = W0 := ⟨_, rfl⟩
  rw [hW0] at HF1 HB0 S0 SC
  have HSC := hide SC
  have bc := Below.refl W0.heap.size W0
  have CA0 : Hid (∀ W, Below W0.heap.size W0 W → Calls Tryz.prog 20 #[.pointer (some ⟨b, 0, none⟩), .int .i64 0] W fun e w' => e = .returned (.int .u8 (a0 : Int)) ∧ Below W0.heap.size W0 w') := by
    intro W bW
    refine (at_any b s p 0 W (SC.below bW) (by omega)).mono ?_
    rintro e w' ⟨rfl, g⟩
    exact ⟨by first | (rw [ha0]; rfl) | rw [ha0], bW.trans (g.mono bW.size)⟩
  have CDG : Hid (∀ W, Calls Tryz.prog 45 #[.int .u8 (a0 : Int)] W fun e w' => e = .returned (.bool false) ∧ w' = W) := by
    intro W
    have g := rdigit_any c0 W
    rw [hc0, hdg] at g
    exact g
  have E0_34 : ((a0 : Int) == 34) = false := by simp; omega
  have E0_35 : ((a0 : Int) == 35) = false := by simp; omega
  have E0_126 : ((a0 : Int) == 126) = false := by simp; omega
  have E0_39 : ((a0 : Int) == 39) = false := by simp; omega
  have E0_46 : ((a0 : Int) == 46) = false := by simp; omega
  have CIN : Hid (∀ W, Calls Tryz.prog 48 #[.int .u8 (a0 : Int), .string ⟨#[40, 41, 91, 93, 123, 125, 44, 59, 95]⟩] W fun e w' => e = .returned (.bool true) ∧ w' = W) := by
    intro W
    have g := rin_any c0 ⟨#[40, 41, 91, 93, 123, 125, 44, 59, 95]⟩ (by decide) W
    rw [hc0, show ((⟨#[40, 41, 91, 93, 123, 125, 44, 59, 95]⟩ : ByteArray).data.toList) = soloL from rfl, hin] at g
    exact g
  obtain ⟨z, hz⟩ : ∃ z, p + 1 = z := ⟨_, rfl⟩
  have hzi : (p : Int) + (1 : Int) = (z : Int) := by omega
  have hqz : p ≤ z := by omega
  obtain ⟨t, ht⟩ : ∃ t, s.extract p z = t := ⟨_, rfl⟩
  have HTT : Hid (ByteArray.mk ((s.data.toList.drop p).take 1).toArray = t) := by
    apply ByteArray.ext
    apply Array.ext'
    rw [← ht, ext_mid, ← hz]; simp
  have hzs : z ≤ s.size := by omega
  have hwz : IntKind.i64.wrap (z : Int) = (z : Int) := by simp [IntKind.wrap, IntKind.bits, IntKind.signed]; omega
  have hsl : ∀ W, (Instr.slice 9 (.string s) (some (.int .i64 (p : Int))) (some (.int .i64 (z : Int))) none).run Tryz.prog W = .ok (.string t) W := fun W => by rw [run_slice_string W _ s .i64 .i64 (p : Int) (z : Int) Tryz.underlying9 (by omega) (by omega) (by omega), ← ht]; rfl
  clear SC ha0 hdg hin hc0 n34 n35 n126 n39 n46
  go_enter Tryz.func22, Tryz.ntmps22
  go_upto_region 1 with fail
  try rw [hW0]
  clear hW0
  go_upto_region 22 with (first | (go_at_call 20; refine (CA0.out _ bc).mono ?_; clear bc CA0; rintro e w1 ⟨rfl, bc⟩) | (go_at_call 45; refine (CDG.out _).mono ?_; clear CDG; rintro e w0 ⟨rfl, h0⟩; replace h0 := h0.symm; subst h0) | (go_at_call 48; refine (CIN.out _).mono ?_; clear CIN; rintro e w0 ⟨rfl, h0⟩; replace h0 := h0.symm; subst h0))
  have S1 := bc.size
  have SC1 := HSC.out.below bc
  obtain ⟨c0, c1, ol, _, _⟩ := SC1
  have BW : Below w.heap.size w w1 := HB0.out.trans (bc.mono (by omega))
  have T1 := HF1.out.below bc (by omega)
  obtain ⟨d0, d1, d2, d3, d4, g0, g1, g2, g3, g4⟩ := T1
  have hne : ¬ b = w.heap.size := by omega
  have hne2 : ¬ w.heap.size = b := by omega
  go_region_held3 (fun w' => w'.cell? ⟨b, 0, none⟩ = some (.string s) ∧ w'.cell? ⟨b, 1, none⟩ = some (.int .i64 (p : Int))) (go_keep) (fail)
  go_wp2
  refine tok_end (w1 := w1.drew) rfl (some5 ⟨d0, d1, d2, d3, d4⟩) ⟨g0, g1, g2, g3, g4⟩ rfl BW.drew fun g => ?_
  exact ⟨givesP_got HTT.out (ownS_nil _ _) rfl, g⟩

set_option maxRecDepth 100000 in
set_option maxHeartbeats 16000000 in
theorem rone_var (b : Nat) (s : ByteArray) (p : Nat) (w : World) (h : IsSc w b s p) (k : Nat) (ha0 : atN s (p + 0) = 39) (hk : runP wordB (s.data.toList.drop p) = k) (hkz : p + k ≤ s.size) : Calls Tryz.prog 22 #[.pointer (some ⟨b, 0, none⟩)] w fun e w' => GivesP w.heap.size (cutR 3 (s.data.toList.drop p) k) e w' ∧ Below w.heap.size w w' := by
  have hs := h.small
  have hps := h.inside
  have HF1 := hide (five_new w (.int .i64 0) (.string ⟨#[]⟩) (.slice none 0 0) (.int .i64 0) (.int .i64 0))
  have HB0 := hide ((Below.refl w.heap.size w).alloc (Nat.le_refl _) (.cells #[.int .i64 0, .string ⟨#[]⟩, .slice none 0 0, .int .i64 0, .int .i64 0] 34))
  have S0 : (w.alloc (.cells #[.int .i64 0, .string ⟨#[]⟩, .slice none 0 0, .int .i64 0, .int .i64 0] 34)).heap.size = w.heap.size + 1 := by simp
  have SC := h.below HB0.out
  have hbo := h.old
  obtain ⟨W0, hW0⟩ : ∃ W0, w.alloc (.cells #[.int .i64 0, .string ⟨#[]⟩, .slice none 0 0, .int .i64 0, .int .i64 0] 34) = W0 := ⟨_, rfl⟩
  rw [hW0] at HF1 HB0 S0 SC
  have HSC := hide SC
  have bc := Below.refl W0.heap.size W0
  have CA0 : Hid (∀ W, Below W0.heap.size W0 W → Calls Tryz.prog 20 #[.pointer (some ⟨b, 0, none⟩), .int .i64 0] W fun e w' => e = .returned (.int .u8 39) ∧ Below W0.heap.size W0 w') := by
    intro W bW
    refine (at_any b s p 0 W (SC.below bW) (by omega)).mono ?_
    rintro e w' ⟨rfl, g⟩
    exact ⟨by first | (rw [ha0]; rfl) | rw [ha0], bW.trans (g.mono bW.size)⟩
  have CDG : Hid (∀ W, Calls Tryz.prog 45 #[.int .u8 39] W fun e w' => e = .returned (.bool false) ∧ w' = W) := fun W => rdigit_any 39 W
  obtain ⟨z, hz⟩ : ∃ z, p + k = z := ⟨_, rfl⟩
  have hzi : (p : Int) + (k : Int) = (z : Int) := by omega
  have hqz : p ≤ z := by omega
  obtain ⟨t, ht⟩ : ∃ t, s.extract p z = t := ⟨_, rfl⟩
  have HTT : Hid (ByteArray.mk ((s.data.toList.drop p).take k).toArray = t) := by
    apply ByteArray.ext
    apply Array.ext'
    rw [← ht, ext_mid, ← hz]; simp
  have hzs : z ≤ s.size := by omega
  have hwz : IntKind.i64.wrap (z : Int) = (z : Int) := by simp [IntKind.wrap, IntKind.bits, IntKind.signed]; omega
  have hsl : ∀ W, (Instr.slice 9 (.string s) (some (.int .i64 (p : Int))) (some (.int .i64 (z : Int))) none).run Tryz.prog W = .ok (.string t) W := fun W => by rw [run_slice_string W _ s .i64 .i64 (p : Int) (z : Int) Tryz.underlying9 (by omega) (by omega) (by omega), ← ht]; rfl
  have CR1 : Hid (∀ W, Below W0.heap.size W0 W → Calls Tryz.prog 47 #[.pointer (some ⟨b, 0, none⟩), .int .i64 0, .int .i64 1] W fun e w' => e = .returned (.int .i64 (k : Int)) ∧ Below W0.heap.size W0 w') := by
    intro W bW
    refine (run1_any b s p 0 W (SC.below bW) (by omega)).mono ?_
    rintro e w' ⟨rfl, g⟩
    refine ⟨?_, bW.trans (g.mono bW.size)⟩
    rw [Nat.add_zero, (runN_P s p).1, hk]
  clear SC ha0 hk
  go_enter Tryz.func22, Tryz.ntmps22
  go_upto_region 1 with fail
  try rw [hW0]
  clear hW0
  go_upto_region 18 with (first | (go_at_call 20; refine (CA0.out _ bc).mono ?_; clear bc CA0; rintro e w1 ⟨rfl, bc⟩) | (go_at_call 45; refine (CDG.out _).mono ?_; clear CDG; rintro e w0 ⟨rfl, h0⟩; replace h0 := h0.symm; subst h0) | (go_at_call 47; refine (CR1.out _ bc).mono ?_; clear bc CR1; rintro e w1 ⟨rfl, bc⟩))
  have S1 := bc.size
  have SC1 := HSC.out.below bc
  obtain ⟨c0, c1, ol, _, _⟩ := SC1
  have BW : Below w.heap.size w w1 := HB0.out.trans (bc.mono (by omega))
  have T1 := HF1.out.below bc (by omega)
  obtain ⟨d0, d1, d2, d3, d4, g0, g1, g2, g3, g4⟩ := T1
  have hne : ¬ b = w.heap.size := by omega
  have hne2 : ¬ w.heap.size = b := by omega
  go_region_held3 (fun w' => w'.cell? ⟨b, 0, none⟩ = some (.string s) ∧ w'.cell? ⟨b, 1, none⟩ = some (.int .i64 (p : Int))) (go_keep) (fail)
  go_wp2
  refine tok_end (w1 := w1.drew) rfl (some5 ⟨d0, d1, d2, d3, d4⟩) ⟨g0, g1, g2, g3, g4⟩ rfl BW.drew fun g => ?_
  exact ⟨givesP_got HTT.out (ownS_nil _ _) rfl, g⟩
end Go.Proofs.YtgcbkjfckmjgeaaGreatDoor
/- The document's scanner: numbers. -/
namespace Go.Proofs.YtgcbkjfckmjgeaaGreatDoor
open Go.ChangeShapes Go.WideShapes Go.ChangeAt Go.RowKit

theorem five_set0 {W : World} {b : Nat} {v v0 v1 v2 v3 v4 : Value} (h : Five W b v0 v1 v2 v3 v4) : Five (W.setCell ⟨b, 0, none⟩ v) b v v1 v2 v3 v4 := by
  obtain ⟨c0, c1, c2, c3, c4, f0, f1, f2, f3, f4⟩ := h
  exact ⟨World.cell?_setCell_same _ _ _ c0, (World.cell?_setCell_other _ _ _ _ (by simp)).trans c1, (World.cell?_setCell_other _ _ _ _ (by simp)).trans c2, (World.cell?_setCell_other _ _ _ _ (by simp)).trans c3, (World.cell?_setCell_other _ _ _ _ (by simp)).trans c4,
    by rw [World.frozen?_setCell]; exact f0, by rw [World.frozen?_setCell]; exact f1, by rw [World.frozen?_setCell]; exact f2, by rw [World.frozen?_setCell]; exact f3, by rw [World.frozen?_setCell]; exact f4⟩
theorem IsSc.set_far {w : World} {b b' j p : Nat} {s : ByteArray} {v : Value} (h : IsSc w b s p) (hb : b < b') : IsSc (w.setCell ⟨b', j, none⟩ v) b s p :=
  ⟨by rw [((Below.refl b' w).setCell (p := ⟨b', j, none⟩) (Nat.le_refl _) v).cell (p := ⟨b, 0, none⟩) hb]; exact h.str, by rw [((Below.refl b' w).setCell (p := ⟨b', j, none⟩) (Nat.le_refl _) v).cell (p := ⟨b, 1, none⟩) hb]; exact h.at', by simpa using h.old, h.small, h.inside⟩

set_option maxRecDepth 100000 in
set_option maxHeartbeats 16000000 in
theorem rone_til (b : Nat) (s : ByteArray) (p : Nat) (w : World) (h : IsSc w b s p) (n m : Nat) (real : Bool) (hnm : numN s p = (n, real)) (hm : runP wordB (s.data.toList.drop (p + n)) = m) (hnz : p + n ≤ s.size) (c1 : UInt8) (a1 : Nat) (hc1 : c1.toNat = a1) (ha0 : atN s (p + 0) = 126) (ha1 : atN s (p + 1) = a1) (hd1 : digitB c1 = true) : Calls Tryz.prog 22 #[.pointer (some ⟨b, 0, none⟩)] w fun e w' => GivesP w.heap.size (if 0 < m then .bad 43 else if 4096 < n then .bad 2 else .got (if real then 5 else 4) ((s.data.toList.drop p).take n) [] n) e w' ∧ Below w.heap.size w w' := by
  have hs := h.small
  have hps := h.inside
  have HF1 := hide (five_new w (.int .i64 0) (.string ⟨#[]⟩) (.slice none 0 0) (.int .i64 0) (.int .i64 0))
  have HB0 := hide ((Below.refl w.heap.size w).alloc (Nat.le_refl _) (.cells #[.int .i64 0, .string ⟨#[]⟩, .slice none 0 0, .int .i64 0, .int .i64 0] 34))
  have S0 : (w.alloc (.cells #[.int .i64 0, .string ⟨#[]⟩, .slice none 0 0, .int .i64 0, .int .i64 0] 34)).heap.size = w.heap.size + 1 := by simp
  have SC := h.below HB0.out
  have hbo := h.old
  obtain ⟨W0, hW0⟩ : ∃ W0, w.alloc (.cells #[.int .i64 0, .string ⟨#[]⟩, .slice none 0 0, .int .i64 0, .int .i64 0] 34) = W0 := ⟨_, rfl⟩
  rw [hW0] at HF1 HB0 S0 SC
  have HSC := hide SC
  have bc := Below.refl W0.heap.size W0
  have CA0 : Hid (∀ W, Below W0.heap.size W0 W → Calls Tryz.prog 20 #[.pointer (some ⟨b, 0, none⟩), .int .i64 0] W fun e w' => e = .returned (.int .u8 126) ∧ Below W0.heap.size W0 w') := by
    intro W bW
    refine (at_any b s p 0 W (SC.below bW) (by omega)).mono ?_
    rintro e w' ⟨rfl, g⟩
    exact ⟨by first | (rw [ha0]; rfl) | rw [ha0], bW.trans (g.mono bW.size)⟩
  have CA1 : Hid (∀ W, Below W0.heap.size W0 W → Calls Tryz.prog 20 #[.pointer (some ⟨b, 0, none⟩), .int .i64 1] W fun e w' => e = .returned (.int .u8 (a1 : Int)) ∧ Below W0.heap.size W0 w') := by
    intro W bW
    refine (at_any b s p 1 W (SC.below bW) (by omega)).mono ?_
    rintro e w' ⟨rfl, g⟩
    exact ⟨by first | (rw [ha1]; rfl) | rw [ha1], bW.trans (g.mono bW.size)⟩
  have CDG : Hid (∀ W, Calls Tryz.prog 45 #[.int .u8 126] W fun e w' => e = .returned (.bool false) ∧ w' = W) := fun W => rdigit_any 126 W
  have CDG1 : Hid (∀ W, Calls Tryz.prog 45 #[.int .u8 (a1 : Int)] W fun e w' => e = .returned (.bool true) ∧ w' = W) := by
    intro W
    have g := rdigit_any c1 W
    rw [hc1, hd1] at g
    exact g
  obtain ⟨z, hz⟩ : ∃ z, p + n = z := ⟨_, rfl⟩
  have hzi : (p : Int) + (n : Int) = (z : Int) := by omega
  have hqz : p ≤ z := by omega
  obtain ⟨t, ht⟩ : ∃ t, s.extract p z = t := ⟨_, rfl⟩
  have HTT : Hid (ByteArray.mk ((s.data.toList.drop p).take n).toArray = t) := by
    apply ByteArray.ext
    apply Array.ext'
    rw [← ht, ext_mid, ← hz]; simp
  have hzs : z ≤ s.size := by omega
  have hwz : IntKind.i64.wrap (z : Int) = (z : Int) := by simp [IntKind.wrap, IntKind.bits, IntKind.signed]; omega
  have hsl : ∀ W, (Instr.slice 9 (.string s) (some (.int .i64 (p : Int))) (some (.int .i64 (z : Int))) none).run Tryz.prog W = .ok (.string t) W := fun W => by rw [run_slice_string W _ s .i64 .i64 (p : Int) (z : Int) Tryz.underlying9 (by omega) (by omega) (by omega), ← ht]; rfl
  have hnb : n ≤ 1048576 := by omega
  have CNU : Hid (∀ W, Below W0.heap.size W0 W → Calls Tryz.prog 46 #[.pointer (some ⟨b, 0, none⟩)] W fun e w' => e = .returned (.tuple #[.int .i64 (n : Int), .bool real]) ∧ Below W0.heap.size W0 w') := by
    intro W bW
    refine (rnumber_any b s p W (SC.below bW)).mono ?_
    rintro e w' ⟨rfl, g⟩
    exact ⟨by rw [hnm], bW.trans (g.mono bW.size)⟩
  have CR1 : Hid (∀ W, IsSc W b s p → Calls Tryz.prog 47 #[.pointer (some ⟨b, 0, none⟩), .int .i64 (n : Int), .int .i64 1] W fun e w' => e = .returned (.int .i64 (m : Int)) ∧ Below W.heap.size W w') := by
    intro W sc
    refine (run1_any b s p n W sc (by omega)).mono ?_
    rintro e w' ⟨rfl, g⟩
    refine ⟨?_, g⟩
    rw [(runN_P s (p + n)).1, hm]
  obtain ⟨R, HR⟩ : ∃ R, Hid ((if 0 < m then Rd.bad 43 else if 4096 < n then Rd.bad 2 else Rd.got (if real then 5 else 4) ((s.data.toList.drop p).take n) [] n) = R) := ⟨_, rfl⟩
  rw [HR.out]
  have hmb : m ≤ 1048576 := by
    have := runP_le wordB (s.data.toList.drop (p + n))
    rw [List.length_drop, size_list, hm] at this
    omega
  clear SC hnm hm ha0 ha1 hd1 hc1
  go_enter Tryz.func22, Tryz.ntmps22
  go_upto_region 1 with fail
  try rw [hW0]
  clear hW0
  go_upto_region 7 with (first | (go_at_call 20; refine (CA0.out _ bc).mono ?_; clear bc CA0; rintro e w1 ⟨rfl, bc⟩) | (go_at_call 20; refine (CA1.out _ bc).mono ?_; clear bc CA1; rintro e w1 ⟨rfl, bc⟩) | (go_at_call 45; refine (CDG.out _).mono ?_; clear CDG; rintro e w0 ⟨rfl, h0⟩; replace h0 := h0.symm; subst h0) | (go_at_call 45; refine (CDG1.out _).mono ?_; clear CDG1; rintro e w0 ⟨rfl, h0⟩; replace h0 := h0.symm; subst h0))
  go_upto_region 8 with (first | (go_at_call 46; refine (CNU.out _ bc).mono ?_; clear bc CNU; rintro e w1 ⟨rfl, bc⟩))
  have S1 := bc.size
  have SC1 := HSC.out.below bc
  have HSC1 := hide SC1
  obtain ⟨c0, c1, ol, _, _⟩ := SC1
  have BW : Below w.heap.size w w1 := HB0.out.trans (bc.mono (by omega))
  have hne := World.new_ne w1 ⟨b, 0, none⟩ c0
  have hne1 := World.new_ne w1 ⟨b, 1, none⟩ c1
  have hne2 : ¬ b = w1.heap.size := by omega
  have hne3 : ¬ w1.heap.size = b := by omega
  go_region_held3 (fun w' => w'.cell? ⟨b, 0, none⟩ = some (.string s) ∧ w'.cell? ⟨b, 1, none⟩ = some (.int .i64 (p : Int))) (go_keep) (fail)
  obtain ⟨W2, hW2⟩ : ∃ W2, (w1.alloc (.cells #[.int .i64 4, .string t, .slice none 0 0, .int .i64 0, .int .i64 0] 34)).drew = W2 := ⟨_, rfl⟩
  have BB : Below w1.heap.size w1 W2 := by rw [← hW2]; exact ((Below.refl _ _).alloc (Nat.le_refl _) _).drew
  have T2 : Five W2 w1.heap.size (.int .i64 4) (.string t) (.slice none 0 0) (.int .i64 0) (.int .i64 0) := by rw [← hW2]; exact (five_new w1 _ _ _ _ _).drew
  have T1 := hide ((HF1.out.below bc (by omega)).below BB (by omega))
  have SC2 := hide (HSC1.out.below BB)
  have BW2 := hide (BW.trans (BB.mono (by omega)))
  have S2 : w1.heap.size < W2.heap.size := by rw [← hW2]; simp
  rw [hW2]
  obtain ⟨T, hT⟩ : ∃ T, w1.heap.size = T := ⟨_, rfl⟩
  rw [hT] at T2 S2 S1 ⊢
  have T2 := hide T2
  have hTp : ¬ T = w.heap.size := by omega
  have hTq : ¬ w.heap.size = T := by omega
  have hTb : b < T := by omega
  clear hT hW2 BB BW c0 c1 ol hne hne1 hne2 hne3 HSC1 HSC HF1 HB0 hsl
  cases real
  · skip
    go_upto_region 11 with fail
    obtain ⟨W3, rfl⟩ : ∃ W3, W3 = W2 := ⟨_, rfl⟩
    by_cases hm0 : 0 < m
    · have HE : Hid (R = .bad 43) := by show _ = _; rw [← HR.out, if_pos hm0]
      have hmt : decide ((0 : Int) < (m : Int)) = true := by simp; omega
      clear HR
      go_upto_region 12 with (go_at_call 47; refine (CR1.out _ SC2.out).mono ?_; clear CR1; rintro e w4 ⟨rfl, b4⟩)
      have U1 := T1.out.below b4 (by omega)
      have U2 := T2.out.below b4 S2
      have BW3 := BW2.out.trans (b4.mono (by omega))
      obtain ⟨c0, c1, c2, c3, c4, f0, f1, f2, f3, f4⟩ := U2
      obtain ⟨d0, d1, d2, d3, d4, g0, g1, g2, g3, g4⟩ := U1
      go_wp2
      refine tok_end (w1 := w4) rfl (some5 ⟨d0, d1, d2, d3, d4⟩) ⟨g0, g1, g2, g3, g4⟩ rfl BW3 fun g => ?_
      rw [HE.out]
      exact ⟨rfl, g⟩
    · have hmt : decide ((0 : Int) < (m : Int)) = false := by simp; omega
      by_cases hn0 : 4096 < n
      · have HE : Hid (R = .bad 2) := by show _ = _; rw [← HR.out, if_neg hm0, if_pos hn0]
        have hnt : decide ((4096 : Int) < (n : Int)) = true := by simp; omega
        clear HR
        go_upto_region 14 with (go_at_call 47; refine (CR1.out _ SC2.out).mono ?_; clear CR1; rintro e w4 ⟨rfl, b4⟩)
        have U1 := T1.out.below b4 (by omega)
        have U2 := T2.out.below b4 S2
        have BW3 := BW2.out.trans (b4.mono (by omega))
        obtain ⟨c0, c1, c2, c3, c4, f0, f1, f2, f3, f4⟩ := U2
        obtain ⟨d0, d1, d2, d3, d4, g0, g1, g2, g3, g4⟩ := U1
        go_wp2
        refine tok_end (w1 := w4) rfl (some5 ⟨d0, d1, d2, d3, d4⟩) ⟨g0, g1, g2, g3, g4⟩ rfl BW3 fun g => ?_
        rw [HE.out]
        exact ⟨rfl, g⟩
      · have HE : Hid (R = .got 4 ((s.data.toList.drop p).take n) [] n) := by show _ = _; rw [← HR.out, if_neg hm0, if_neg hn0]; rfl
        have hnt : decide ((4096 : Int) < (n : Int)) = false := by simp; omega
        clear HR
        go_upto_region 15 with (go_at_call 47; refine (CR1.out _ SC2.out).mono ?_; clear CR1; rintro e w4 ⟨rfl, b4⟩)
        have U1 := T1.out.below b4 (by omega)
        have U2 := T2.out.below b4 S2
        have BW3 := BW2.out.trans (b4.mono (by omega))
        obtain ⟨c0, c1, c2, c3, c4, f0, f1, f2, f3, f4⟩ := U2
        obtain ⟨d0, d1, d2, d3, d4, g0, g1, g2, g3, g4⟩ := U1
        go_wp2
        refine tok_end (w1 := w4) rfl (some5 ⟨d0, d1, d2, d3, d4⟩) ⟨g0, g1, g2, g3, g4⟩ rfl BW3 fun g => ?_
        rw [HE.out]
        exact ⟨givesP_got HTT.out (ownS_nil _ _) rfl, g⟩
  · skip
    obtain ⟨c0, c1, c2, c3, c4, f0, f1, f2, f3, f4⟩ := T2.out
    go_upto_region 11 with fail
    clear c0 c1 c2 c3 c4 f0 f1 f2 f3 f4
    have T2 := hide (five_set0 (v := .int .i64 5) T2.out)
    have T1 := hide (T1.out.set (b' := T) (j := 0) (v := .int .i64 5) (by omega))
    have SC2 := hide (SC2.out.set_far (b' := T) (j := 0) (v := .int .i64 5) (by omega))
    have BW2 := hide (BW2.out.setCell (p := ⟨T, 0, none⟩) (by show w.heap.size ≤ T; omega) (.int .i64 5))
    have S2 : T < (W2.setCell ⟨T, 0, none⟩ (.int .i64 5)).heap.size := by simp; exact S2
    generalize W2.setCell ⟨T, 0, none⟩ (.int .i64 5) = W3 at *
    by_cases hm0 : 0 < m
    · have HE : Hid (R = .bad 43) := by show _ = _; rw [← HR.out, if_pos hm0]
      have hmt : decide ((0 : Int) < (m : Int)) = true := by simp; omega
      clear HR
      go_upto_region 12 with (go_at_call 47; refine (CR1.out _ SC2.out).mono ?_; clear CR1; rintro e w4 ⟨rfl, b4⟩)
      have U1 := T1.out.below b4 (by omega)
      have U2 := T2.out.below b4 S2
      have BW3 := BW2.out.trans (b4.mono (by omega))
      obtain ⟨c0, c1, c2, c3, c4, f0, f1, f2, f3, f4⟩ := U2
      obtain ⟨d0, d1, d2, d3, d4, g0, g1, g2, g3, g4⟩ := U1
      go_wp2
      refine tok_end (w1 := w4) rfl (some5 ⟨d0, d1, d2, d3, d4⟩) ⟨g0, g1, g2, g3, g4⟩ rfl BW3 fun g => ?_
      rw [HE.out]
      exact ⟨rfl, g⟩
    · have hmt : decide ((0 : Int) < (m : Int)) = false := by simp; omega
      by_cases hn0 : 4096 < n
      · have HE : Hid (R = .bad 2) := by show _ = _; rw [← HR.out, if_neg hm0, if_pos hn0]
        have hnt : decide ((4096 : Int) < (n : Int)) = true := by simp; omega
        clear HR
        go_upto_region 14 with (go_at_call 47; refine (CR1.out _ SC2.out).mono ?_; clear CR1; rintro e w4 ⟨rfl, b4⟩)
        have U1 := T1.out.below b4 (by omega)
        have U2 := T2.out.below b4 S2
        have BW3 := BW2.out.trans (b4.mono (by omega))
        obtain ⟨c0, c1, c2, c3, c4, f0, f1, f2, f3, f4⟩ := U2
        obtain ⟨d0, d1, d2, d3, d4, g0, g1, g2, g3, g4⟩ := U1
        go_wp2
        refine tok_end (w1 := w4) rfl (some5 ⟨d0, d1, d2, d3, d4⟩) ⟨g0, g1, g2, g3, g4⟩ rfl BW3 fun g => ?_
        rw [HE.out]
        exact ⟨rfl, g⟩
      · have HE : Hid (R = .got 5 ((s.data.toList.drop p).take n) [] n) := by show _ = _; rw [← HR.out, if_neg hm0, if_neg hn0]; rfl
        have hnt : decide ((4096 : Int) < (n : Int)) = false := by simp; omega
        clear HR
        go_upto_region 15 with (go_at_call 47; refine (CR1.out _ SC2.out).mono ?_; clear CR1; rintro e w4 ⟨rfl, b4⟩)
        have U1 := T1.out.below b4 (by omega)
        have U2 := T2.out.below b4 S2
        have BW3 := BW2.out.trans (b4.mono (by omega))
        obtain ⟨c0, c1, c2, c3, c4, f0, f1, f2, f3, f4⟩ := U2
        obtain ⟨d0, d1, d2, d3, d4, g0, g1, g2, g3, g4⟩ := U1
        go_wp2
        refine tok_end (w1 := w4) rfl (some5 ⟨d0, d1, d2, d3, d4⟩) ⟨g0, g1, g2, g3, g4⟩ rfl BW3 fun g => ?_
        rw [HE.out]
        exact ⟨givesP_got HTT.out (ownS_nil _ _) rfl, g⟩

set_option maxRecDepth 100000 in
set_option maxHeartbeats 16000000 in
theorem rone_dig (b : Nat) (s : ByteArray) (p : Nat) (w : World) (h : IsSc w b s p) (n m : Nat) (real : Bool) (hnm : numN s p = (n, real)) (hm : runP wordB (s.data.toList.drop (p + n)) = m) (hnz : p + n ≤ s.size) (c0 : UInt8) (a0 : Nat) (hc0 : c0.toNat = a0) (ha0 : atN s (p + 0) = a0) (hdg : digitB c0 = true) (n34 : a0 ≠ 34) (n35 : a0 ≠ 35) : Calls Tryz.prog 22 #[.pointer (some ⟨b, 0, none⟩)] w fun e w' => GivesP w.heap.size (if 0 < m then .bad 43 else if 4096 < n then .bad 2 else .got (if real then 5 else 4) ((s.data.toList.drop p).take n) [] n) e w' ∧ Below w.heap.size w w' := by
  have hs := h.small
  have hps := h.inside
  have HF1 := hide (five_new w (.int .i64 0) (.string ⟨#[]⟩) (.slice none 0 0) (.int .i64 0) (.int .i64 0))
  have HB0 := hide ((Below.refl w.heap.size w).alloc (Nat.le_refl _) (.cells #[.int .i64 0, .string ⟨#[]⟩, .slice none 0 0, .int .i64 0, .int .i64 0] 34))
  have S0 : (w.alloc (.cells #[.int .i64 0, .string ⟨#[]⟩, .slice none 0 0, .int .i64 0, .int .i64 0] 34)).heap.size = w.heap.size + 1 := by simp
  have SC := h.below HB0.out
  have hbo := h.old
  obtain ⟨W0, hW0⟩ : ∃ W0, w.alloc (.cells #[.int .i64 0, .string ⟨#[]⟩, .slice none 0 0, .int .i64 0, .int .i64 0] 34) = W0 := ⟨_, rfl⟩
  rw [hW0] at HF1 HB0 S0 SC
  have HSC := hide SC
  have bc := Below.refl W0.heap.size W0
  have CA0 : Hid (∀ W, Below W0.heap.size W0 W → Calls Tryz.prog 20 #[.pointer (some ⟨b, 0, none⟩), .int .i64 0] W fun e w' => e = .returned (.int .u8 (a0 : Int)) ∧ Below W0.heap.size W0 w') := by
    intro W bW
    refine (at_any b s p 0 W (SC.below bW) (by omega)).mono ?_
    rintro e w' ⟨rfl, g⟩
    exact ⟨by first | (rw [ha0]; rfl) | rw [ha0], bW.trans (g.mono bW.size)⟩
  have CDG : Hid (∀ W, Calls Tryz.prog 45 #[.int .u8 (a0 : Int)] W fun e w' => e = .returned (.bool true) ∧ w' = W) := by
    intro W
    have g := rdigit_any c0 W
    rw [hc0, hdg] at g
    exact g
  have E0_34 : ((a0 : Int) == 34) = false := by simp; omega
  have E0_35 : ((a0 : Int) == 35) = false := by simp; omega
  obtain ⟨z, hz⟩ : ∃ z, p + n = z := ⟨_, rfl⟩
  have hzi : (p : Int) + (n : Int) = (z : Int) := by omega
  have hqz : p ≤ z := by omega
  obtain ⟨t, ht⟩ : ∃ t, s.extract p z = t := ⟨_, rfl⟩
  have HTT : Hid (ByteArray.mk ((s.data.toList.drop p).take n).toArray = t) := by
    apply ByteArray.ext
    apply Array.ext'
    rw [← ht, ext_mid, ← hz]; simp
  have hzs : z ≤ s.size := by omega
  have hwz : IntKind.i64.wrap (z : Int) = (z : Int) := by simp [IntKind.wrap, IntKind.bits, IntKind.signed]; omega
  have hsl : ∀ W, (Instr.slice 9 (.string s) (some (.int .i64 (p : Int))) (some (.int .i64 (z : Int))) none).run Tryz.prog W = .ok (.string t) W := fun W => by rw [run_slice_string W _ s .i64 .i64 (p : Int) (z : Int) Tryz.underlying9 (by omega) (by omega) (by omega), ← ht]; rfl
  have hnb : n ≤ 1048576 := by omega
  have CNU : Hid (∀ W, Below W0.heap.size W0 W → Calls Tryz.prog 46 #[.pointer (some ⟨b, 0, none⟩)] W fun e w' => e = .returned (.tuple #[.int .i64 (n : Int), .bool real]) ∧ Below W0.heap.size W0 w') := by
    intro W bW
    refine (rnumber_any b s p W (SC.below bW)).mono ?_
    rintro e w' ⟨rfl, g⟩
    exact ⟨by rw [hnm], bW.trans (g.mono bW.size)⟩
  have CR1 : Hid (∀ W, IsSc W b s p → Calls Tryz.prog 47 #[.pointer (some ⟨b, 0, none⟩), .int .i64 (n : Int), .int .i64 1] W fun e w' => e = .returned (.int .i64 (m : Int)) ∧ Below W.heap.size W w') := by
    intro W sc
    refine (run1_any b s p n W sc (by omega)).mono ?_
    rintro e w' ⟨rfl, g⟩
    refine ⟨?_, g⟩
    rw [(runN_P s (p + n)).1, hm]
  obtain ⟨R, HR⟩ : ∃ R, Hid ((if 0 < m then Rd.bad 43 else if 4096 < n then Rd.bad 2 else Rd.got (if real then 5 else 4) ((s.data.toList.drop p).take n) [] n) = R) := ⟨_, rfl⟩
  rw [HR.out]
  have hmb : m ≤ 1048576 := by
    have := runP_le wordB (s.data.toList.drop (p + n))
    rw [List.length_drop, size_list, hm] at this
    omega
  clear SC hnm hm ha0 hdg hc0 n34 n35
  go_enter Tryz.func22, Tryz.ntmps22
  go_upto_region 1 with fail
  try rw [hW0]
  clear hW0
  go_upto_region 7 with (first | (go_at_call 20; refine (CA0.out _ bc).mono ?_; clear bc CA0; rintro e w1 ⟨rfl, bc⟩) | (go_at_call 45; refine (CDG.out _).mono ?_; clear CDG; rintro e w0 ⟨rfl, h0⟩; replace h0 := h0.symm; subst h0))
  go_upto_region 8 with (first | (go_at_call 46; refine (CNU.out _ bc).mono ?_; clear bc CNU; rintro e w1 ⟨rfl, bc⟩))
  have S1 := bc.size
  have SC1 := HSC.out.below bc
  have HSC1 := hide SC1
  obtain ⟨c0, c1, ol, _, _⟩ := SC1
  have BW : Below w.heap.size w w1 := HB0.out.trans (bc.mono (by omega))
  have hne := World.new_ne w1 ⟨b, 0, none⟩ c0
  have hne1 := World.new_ne w1 ⟨b, 1, none⟩ c1
  have hne2 : ¬ b = w1.heap.size := by omega
  have hne3 : ¬ w1.heap.size = b := by omega
  go_region_held3 (fun w' => w'.cell? ⟨b, 0, none⟩ = some (.string s) ∧ w'.cell? ⟨b, 1, none⟩ = some (.int .i64 (p : Int))) (go_keep) (fail)
  obtain ⟨W2, hW2⟩ : ∃ W2, (w1.alloc (.cells #[.int .i64 4, .string t, .slice none 0 0, .int .i64 0, .int .i64 0] 34)).drew = W2 := ⟨_, rfl⟩
  have BB : Below w1.heap.size w1 W2 := by rw [← hW2]; exact ((Below.refl _ _).alloc (Nat.le_refl _) _).drew
  have T2 : Five W2 w1.heap.size (.int .i64 4) (.string t) (.slice none 0 0) (.int .i64 0) (.int .i64 0) := by rw [← hW2]; exact (five_new w1 _ _ _ _ _).drew
  have T1 := hide ((HF1.out.below bc (by omega)).below BB (by omega))
  have SC2 := hide (HSC1.out.below BB)
  have BW2 := hide (BW.trans (BB.mono (by omega)))
  have S2 : w1.heap.size < W2.heap.size := by rw [← hW2]; simp
  rw [hW2]
  obtain ⟨T, hT⟩ : ∃ T, w1.heap.size = T := ⟨_, rfl⟩
  rw [hT] at T2 S2 S1 ⊢
  have T2 := hide T2
  have hTp : ¬ T = w.heap.size := by omega
  have hTq : ¬ w.heap.size = T := by omega
  have hTb : b < T := by omega
  clear hT hW2 BB BW c0 c1 ol hne hne1 hne2 hne3 HSC1 HSC HF1 HB0 hsl
  cases real
  · skip
    go_upto_region 11 with fail
    obtain ⟨W3, rfl⟩ : ∃ W3, W3 = W2 := ⟨_, rfl⟩
    by_cases hm0 : 0 < m
    · have HE : Hid (R = .bad 43) := by show _ = _; rw [← HR.out, if_pos hm0]
      have hmt : decide ((0 : Int) < (m : Int)) = true := by simp; omega
      clear HR
      go_upto_region 12 with (go_at_call 47; refine (CR1.out _ SC2.out).mono ?_; clear CR1; rintro e w4 ⟨rfl, b4⟩)
      have U1 := T1.out.below b4 (by omega)
      have U2 := T2.out.below b4 S2
      have BW3 := BW2.out.trans (b4.mono (by omega))
      obtain ⟨c0, c1, c2, c3, c4, f0, f1, f2, f3, f4⟩ := U2
      obtain ⟨d0, d1, d2, d3, d4, g0, g1, g2, g3, g4⟩ := U1
      go_wp2
      refine tok_end (w1 := w4) rfl (some5 ⟨d0, d1, d2, d3, d4⟩) ⟨g0, g1, g2, g3, g4⟩ rfl BW3 fun g => ?_
      rw [HE.out]
      exact ⟨rfl, g⟩
    · have hmt : decide ((0 : Int) < (m : Int)) = false := by simp; omega
      by_cases hn0 : 4096 < n
      · have HE : Hid (R = .bad 2) := by show _ = _; rw [← HR.out, if_neg hm0, if_pos hn0]
        have hnt : decide ((4096 : Int) < (n : Int)) = true := by simp; omega
        clear HR
        go_upto_region 14 with (go_at_call 47; refine (CR1.out _ SC2.out).mono ?_; clear CR1; rintro e w4 ⟨rfl, b4⟩)
        have U1 := T1.out.below b4 (by omega)
        have U2 := T2.out.below b4 S2
        have BW3 := BW2.out.trans (b4.mono (by omega))
        obtain ⟨c0, c1, c2, c3, c4, f0, f1, f2, f3, f4⟩ := U2
        obtain ⟨d0, d1, d2, d3, d4, g0, g1, g2, g3, g4⟩ := U1
        go_wp2
        refine tok_end (w1 := w4) rfl (some5 ⟨d0, d1, d2, d3, d4⟩) ⟨g0, g1, g2, g3, g4⟩ rfl BW3 fun g => ?_
        rw [HE.out]
        exact ⟨rfl, g⟩
      · have HE : Hid (R = .got 4 ((s.data.toList.drop p).take n) [] n) := by show _ = _; rw [← HR.out, if_neg hm0, if_neg hn0]; rfl
        have hnt : decide ((4096 : Int) < (n : Int)) = false := by simp; omega
        clear HR
        go_upto_region 15 with (go_at_call 47; refine (CR1.out _ SC2.out).mono ?_; clear CR1; rintro e w4 ⟨rfl, b4⟩)
        have U1 := T1.out.below b4 (by omega)
        have U2 := T2.out.below b4 S2
        have BW3 := BW2.out.trans (b4.mono (by omega))
        obtain ⟨c0, c1, c2, c3, c4, f0, f1, f2, f3, f4⟩ := U2
        obtain ⟨d0, d1, d2, d3, d4, g0, g1, g2, g3, g4⟩ := U1
        go_wp2
        refine tok_end (w1 := w4) rfl (some5 ⟨d0, d1, d2, d3, d4⟩) ⟨g0, g1, g2, g3, g4⟩ rfl BW3 fun g => ?_
        rw [HE.out]
        exact ⟨givesP_got HTT.out (ownS_nil _ _) rfl, g⟩
  · skip
    obtain ⟨c0, c1, c2, c3, c4, f0, f1, f2, f3, f4⟩ := T2.out
    go_upto_region 11 with fail
    clear c0 c1 c2 c3 c4 f0 f1 f2 f3 f4
    have T2 := hide (five_set0 (v := .int .i64 5) T2.out)
    have T1 := hide (T1.out.set (b' := T) (j := 0) (v := .int .i64 5) (by omega))
    have SC2 := hide (SC2.out.set_far (b' := T) (j := 0) (v := .int .i64 5) (by omega))
    have BW2 := hide (BW2.out.setCell (p := ⟨T, 0, none⟩) (by show w.heap.size ≤ T; omega) (.int .i64 5))
    have S2 : T < (W2.setCell ⟨T, 0, none⟩ (.int .i64 5)).heap.size := by simp; exact S2
    generalize W2.setCell ⟨T, 0, none⟩ (.int .i64 5) = W3 at *
    by_cases hm0 : 0 < m
    · have HE : Hid (R = .bad 43) := by show _ = _; rw [← HR.out, if_pos hm0]
      have hmt : decide ((0 : Int) < (m : Int)) = true := by simp; omega
      clear HR
      go_upto_region 12 with (go_at_call 47; refine (CR1.out _ SC2.out).mono ?_; clear CR1; rintro e w4 ⟨rfl, b4⟩)
      have U1 := T1.out.below b4 (by omega)
      have U2 := T2.out.below b4 S2
      have BW3 := BW2.out.trans (b4.mono (by omega))
      obtain ⟨c0, c1, c2, c3, c4, f0, f1, f2, f3, f4⟩ := U2
      obtain ⟨d0, d1, d2, d3, d4, g0, g1, g2, g3, g4⟩ := U1
      go_wp2
      refine tok_end (w1 := w4) rfl (some5 ⟨d0, d1, d2, d3, d4⟩) ⟨g0, g1, g2, g3, g4⟩ rfl BW3 fun g => ?_
      rw [HE.out]
      exact ⟨rfl, g⟩
    · have hmt : decide ((0 : Int) < (m : Int)) = false := by simp; omega
      by_cases hn0 : 4096 < n
      · have HE : Hid (R = .bad 2) := by show _ = _; rw [← HR.out, if_neg hm0, if_pos hn0]
        have hnt : decide ((4096 : Int) < (n : Int)) = true := by simp; omega
        clear HR
        go_upto_region 14 with (go_at_call 47; refine (CR1.out _ SC2.out).mono ?_; clear CR1; rintro e w4 ⟨rfl, b4⟩)
        have U1 := T1.out.below b4 (by omega)
        have U2 := T2.out.below b4 S2
        have BW3 := BW2.out.trans (b4.mono (by omega))
        obtain ⟨c0, c1, c2, c3, c4, f0, f1, f2, f3, f4⟩ := U2
        obtain ⟨d0, d1, d2, d3, d4, g0, g1, g2, g3, g4⟩ := U1
        go_wp2
        refine tok_end (w1 := w4) rfl (some5 ⟨d0, d1, d2, d3, d4⟩) ⟨g0, g1, g2, g3, g4⟩ rfl BW3 fun g => ?_
        rw [HE.out]
        exact ⟨rfl, g⟩
      · have HE : Hid (R = .got 5 ((s.data.toList.drop p).take n) [] n) := by show _ = _; rw [← HR.out, if_neg hm0, if_neg hn0]; rfl
        have hnt : decide ((4096 : Int) < (n : Int)) = false := by simp; omega
        clear HR
        go_upto_region 15 with (go_at_call 47; refine (CR1.out _ SC2.out).mono ?_; clear CR1; rintro e w4 ⟨rfl, b4⟩)
        have U1 := T1.out.below b4 (by omega)
        have U2 := T2.out.below b4 S2
        have BW3 := BW2.out.trans (b4.mono (by omega))
        obtain ⟨c0, c1, c2, c3, c4, f0, f1, f2, f3, f4⟩ := U2
        obtain ⟨d0, d1, d2, d3, d4, g0, g1, g2, g3, g4⟩ := U1
        go_wp2
        refine tok_end (w1 := w4) rfl (some5 ⟨d0, d1, d2, d3, d4⟩) ⟨g0, g1, g2, g3, g4⟩ rfl BW3 fun g => ?_
        rw [HE.out]
        exact ⟨givesP_got HTT.out (ownS_nil _ _) rfl, g⟩
end Go.Proofs.YtgcbkjfckmjgeaaGreatDoor
/- The document's scanner: one token. -/
namespace Go.Proofs.YtgcbkjfckmjgeaaGreatDoor
open Go.ChangeShapes Go.WideShapes Go.ChangeAt Go.RowKit

theorem numR_eq {s : ByteArray} {p n m : Nat} {real : Bool} (hnm : numN s p = (n, real)) (hm : runP wordB (s.data.toList.drop (p + n)) = m) : numR (s.data.toList.drop p) = (if 0 < m then .bad 43 else if 4096 < n then .bad 2 else .got (if real then 5 else 4) ((s.data.toList.drop p).take n) [] n) := by
  have h := numN_eq s p
  rw [hnm] at h
  unfold numR
  rw [h]
  show (if begP wordB (List.drop n (List.drop p s.data.toList)) = true then _ else _) = _
  rw [List.drop_drop, beg_run_pos, hm]
  simp only [decide_eq_true_eq]
theorem numN_le (s : ByteArray) (p n : Nat) (real : Bool) (hp : p ≤ s.size) (hnm : numN s p = (n, real)) : p + n ≤ s.size := by
  have h := numN_eq s p
  rw [hnm] at h
  have h2 := measN_le (s.data.toList.drop p)
  rw [h, List.length_drop, size_list] at h2
  have : n ≤ s.size - p := h2
  omega

theorem rone_any (b : Nat) (s : ByteArray) (p : Nat) (w : World) (h : IsSc w b s p) (hp : p < s.size) (hbl : begP lblankB (s.data.toList.drop p) = false) (hco : ¬ (atN s p = 40 ∧ atN s (p + 1) = 42)) : Calls Tryz.prog 22 #[.pointer (some ⟨b, 0, none⟩)] w fun e w' => GivesP w.heap.size (rdL (s.data.toList.drop p)) e w' ∧ Below w.heap.size w w' := by
  obtain ⟨c, hc⟩ : ∃ c : UInt8, s[p]'hp = c := ⟨_, rfl⟩
  have hdr := drop_at s p hp
  rw [hc] at hdr
  have ha : atN s p = c.toNat := by unfold atN; rw [dif_pos hp, hc]
  have ha0 : atN s (p + 0) = c.toNat := ha
  have b1 : ∀ P : UInt8 → Bool, begP P (s.data.toList.drop p) = P c := fun P => by rw [hdr]; rfl
  have hR : rdL (s.data.toList.drop p) = oneR c (s.data.toList.drop p) := by
    rw [hdr]
    refine rd_one ?_ ?_
    · rw [b1] at hbl; exact hbl
    · rintro ⟨x, y⟩
      exact hco ⟨by rw [ha, x]; rfl, (atN_beg (x := 42) (by decide)).2 y⟩
  rw [hR]
  have d1 : (s.data.toList.drop p).drop 1 = s.data.toList.drop (p + 1) := List.drop_drop
  have d2 : (s.data.toList.drop p).drop 2 = s.data.toList.drop (p + 2) := List.drop_drop
  obtain ⟨c1, hc1, hdg1⟩ := at_kind digitB (by decide) s (p + 1)
  have kl : letterB c = true → c ≠ 34 ∧ c ≠ 35 ∧ digitB c = false ∧ c ≠ 126 ∧ c ≠ 39 ∧ c ≠ 46 ∧ soloL.contains c = false := kinds_let c.toFin
  have kd : digitB c = true → c ≠ 34 ∧ c ≠ 35 := kinds_dig c.toFin
  have ks : signB c = true → c ≠ 34 ∧ digitB c = false ∧ letterB c = false ∧ c ≠ 39 ∧ c ≠ 46 ∧ soloL.contains c = false := kinds_sig c.toFin
  have ne : ∀ {x : UInt8}, c ≠ x → c.toNat ≠ x.toNat := fun h g => h (UInt8.toNat_inj.1 g)
  obtain ⟨⟨n, real⟩, hnm⟩ : ∃ r, numN s p = r := ⟨_, rfl⟩
  have hnz := numN_le s p n real (Nat.le_of_lt hp) hnm
  obtain ⟨m, hm⟩ : ∃ m, runP wordB (s.data.toList.drop (p + n)) = m := ⟨_, rfl⟩
  have hNR := numR_eq hnm hm
  unfold oneR
  rw [d1, d2]
  by_cases e34 : c = 34
  · rw [if_pos e34]
    exact rone_str b s p w h (by rw [ha0, e34]; rfl) hp
  rw [if_neg e34]
  by_cases e35 : c = 35 ∧ begP (fun c => decide (c = 34)) (s.data.toList.drop (p + 1)) = true
  · rw [if_pos e35]
    refine rone_chr b s p w h (by rw [ha0, e35.1]; rfl) ((atN_beg (x := 34) (by decide)).2 e35.2) ?_
    rcases Nat.lt_or_ge (p + 1) s.size with x | x
    · exact x
    · rw [drop_end s (p + 1) (by omega)] at e35; cases e35.2
  rw [if_neg e35]
  by_cases edg : digitB c = true ∨ c = 126 ∧ begP digitB (s.data.toList.drop (p + 1)) = true
  · rw [if_pos edg, hNR]
    rcases edg with x | ⟨x, y⟩
    · exact rone_dig b s p w h n m real hnm hm hnz c c.toNat rfl ha0 x (ne (kd x).1) (ne (kd x).2)
    · exact rone_til b s p w h n m real hnm hm hnz c1 c1.toNat rfl (by rw [ha0, x]; rfl) hc1.symm (by rw [hdg1]; exact y)
  rw [if_neg edg]
  have ndg : digitB c = false := by
    cases x : digitB c
    · rfl
    · exact absurd (.inl x) edg
  by_cases e39 : c = 39
  · rw [if_pos e39]
    refine rone_var b s p w h _ (by rw [ha0, e39]; rfl) rfl ?_
    have := runP_le wordB (s.data.toList.drop p)
    rw [List.length_drop, size_list] at this
    omega
  rw [if_neg e39]
  by_cases e46 : c = 46 ∧ begP (fun c => decide (c = 46)) (s.data.toList.drop (p + 1)) = true ∧ begP (fun c => decide (c = 46)) (s.data.toList.drop (p + 2)) = true
  · rw [if_pos e46]
    refine rone_dots b s p w h (by rw [ha0, e46.1]; rfl) ((atN_beg (x := 46) (by decide)).2 e46.2.1) ((atN_beg (x := 46) (by decide)).2 e46.2.2) ?_
    have h3 : ([46, 46, 46] : List UInt8).isPrefixOf (s.data.toList.drop p) = true := by
      rw [dots3, d1, d2, e46.2.1, e46.2.2, b1, e46.1]; rfl
    exact (List.prefix_iff_eq_take.1 (List.isPrefixOf_iff_prefix.1 h3)).symm
  rw [if_neg e46]
  by_cases n46 : c = 46
  · have hs6 : soloL.contains c = false := by rw [n46]; decide
    have hw6 : ¬ (letterB c = true ∨ signB c = true) := by rw [n46]; decide
    rw [if_neg (by rw [hs6]; simp), if_neg hw6]
    by_cases y1 : begP (fun c => decide (c = 46)) (s.data.toList.drop (p + 1)) = true
    · refine rone_dot2 b s p w h _ (by rw [ha0, n46]; rfl) ((atN_beg (x := 46) (by decide)).2 y1) rfl ?_
      intro z
      exact e46 ⟨n46, y1, (atN_beg (x := 46) (by decide)).1 z⟩
    · refine rone_dot1 b s p w h _ (by rw [ha0, n46]; rfl) rfl ?_
      intro z
      exact y1 ((atN_beg (x := 46) (by decide)).1 z)
  by_cases n35 : c = 35
  · have hs5 : soloL.contains c = false := by rw [n35]; decide
    rw [if_neg (by rw [hs5]; simp), if_pos (.inr (by rw [n35]; decide))]
    refine rone_sig35 b s p w h _ (by rw [ha0, n35]; rfl) rfl ?_ ?_
    · intro z
      exact e35 ⟨n35, (atN_beg (x := 34) (by decide)).1 z⟩
    · rw [← nameN_sign (by rw [b1, n35]; decide)]
      exact runP_pos (by rw [b1, n35]; decide)
  by_cases n126 : c = 126
  · have hs5 : soloL.contains c = false := by rw [n126]; decide
    rw [if_neg (by rw [hs5]; simp), if_pos (.inr (by rw [n126]; decide))]
    refine rone_sig126 b s p w h c1 c1.toNat rfl (by rw [ha0, n126]; rfl) hc1.symm ?_ ?_
    · rw [hdg1]
      cases x : begP digitB (s.data.toList.drop (p + 1))
      · rfl
      · exact absurd (.inr ⟨n126, x⟩) edg
    · rw [← nameN_sign (by rw [b1, n126]; decide)]
      exact runP_pos (by rw [b1, n126]; decide)
  cases hso : soloL.contains c
  · rw [if_neg (by simp)]
    cases hlt : letterB c
    · cases hsg : signB c
      · rw [if_neg (by simp)]
        exact rone_none b s p w h c c.toNat rfl ha0 ndg (ne e34) (ne n35) (ne n126) (ne e39) (ne n46) hso hlt hsg
      · rw [if_pos (.inr rfl)]
        refine rone_sig b s p w h c c.toNat rfl ha0 ndg (ne e34) (ne n35) (ne n126) (ne e39) (ne n46) hso hlt hsg ?_
        rw [← nameN_sign (by rw [b1, hlt])]
        exact runP_pos (by rw [b1, hsg])
    · rw [if_pos (.inl rfl)]
      exact rone_let b s p w h c c.toNat rfl ha0 ndg (ne e34) (ne n35) (ne n126) (ne e39) (ne n46) hso hlt (nameN_letter (by rw [b1, hlt])).2
  · rw [if_pos rfl]
    exact rone_solo b s p w h hp c c.toNat rfl ha0 ndg (ne e34) (ne n35) (ne n126) (ne e39) (ne n46) hso
end Go.Proofs.YtgcbkjfckmjgeaaGreatDoor
