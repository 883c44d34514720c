/- The program's scanner: does a text begin with a kind, and how many bytes of it has it? -/
import Derived.Test.YtmeooghcdgpofaaDoorProg
import Derived.Test.YtmeooghcdgpofaaDoorLexK
import Derived.Test.YtmeooghcdgpofaaDoorLexX
import Derived.WalkKit
import Derived.ProofKit
import Derived.OpenShut
import Derived.Below
import Derived.WalkLawsBesides
import Derived.OwnWalk
import Derived.BigQuiet
import Derived.Lib.IndexBytes
namespace Go.Proofs.YtmeooghcdgpofaaDoor
open Go.ChangeShapes Go.WideShapes Go.ChangeAt Go.RowKit

theorem wraps16 (n : Int) (h₀ : 0 ≤ n) (h₁ : n < 2 ^ 16) : IntKind.u16.wrap n = n := by rw [IntKind.wrap_u16]; omega
theorem u16_and (a b : Nat) (ha : a ≤ 65535) (hb : b ≤ 65535) : bits .and .u16 (a : Int) (b : Int) = ((a &&& b : Nat) : Int) := (bits_nat .u16 16 (by decide) wraps16 a b (by omega) (by omega)).1
theorem list_nil (s : ByteArray) (h : s.size = 0) : s.data.toList = [] := by
  apply List.eq_nil_of_length_eq_zero; simpa using h

set_option maxRecDepth 100000 in
set_option maxHeartbeats 4000000 in
theorem begins_any (s : ByteArray) (k : Nat) (hk : k ≤ 65535) (w : World) : Calls Tryd.prog 32 #[.string s, .int .u16 (k : Int)] w fun e w' => e = .returned (.bool (begP (isK k) s.data.toList)) ∧ w' = w := by
  obtain ⟨b, HB⟩ : ∃ b, Hid (begP (isK k) s.data.toList = b) := ⟨_, rfl⟩
  rw [HB.out]
  by_cases h0 : s.size = 0
  · have HF : Hid (b = false) := by show _ = _; rw [← HB.out, list_nil s h0]; rfl
    obtain rfl : s = ⟨#[]⟩ := by
      apply ByteArray.ext
      exact Array.eq_empty_of_size_eq_zero h0
    go_enter Tryd.func32, Tryd.ntmps32
    go_wp2
    go_ret
    exact ⟨ret_bool HF.out.symm, rfl⟩
  · have h1 : 0 < s.size := by omega
    obtain ⟨c, hc⟩ : ∃ c, s[0]'h1 = c := ⟨_, rfl⟩
    have HT : Hid (b = isK k c) := by
      show _ = _
      rw [← HB.out]
      have := drop_at s 0 h1
      rw [List.drop_zero] at this
      rw [this, hc]
      rfl
    have CK := hide (fun W => kindsOf_any c W)
    obtain ⟨n, hn⟩ : ∃ n, c.toNat = n := ⟨_, rfl⟩
    have hcn : (s[0]'h1).toNat = n := by rw [hc, hn]
    rw [hn] at CK
    have hne : (s.toList == []) = false := by
      rw [ByteArray.toList_eq]
      have := drop_at s 0 h1
      rw [List.drop_zero] at this
      rw [this]; rfl
    obtain ⟨m, hm⟩ : ∃ m, kindsN c = m := ⟨_, rfl⟩
    rw [hm] at CK
    have HT2 : Hid (b = (m &&& k != 0)) := by show _ = _; rw [HT.out]; unfold isK; rw [hm]
    have hm2 : m ≤ 65535 := by
      rw [← hm]; unfold kindsN; repeat' split
      all_goals decide
    clear HT hm hn hc HB h0
    go_enter Tryd.func32, Tryd.ntmps32
    go_wp2_with (go_at_call 48; refine (CK.out _).mono ?_; rintro e w1 ⟨rfl, rfl⟩)
    go_ret
    refine ⟨ret_bool ?_, rfl⟩
    rw [u16_and m k hm2 hk, HT2.out]
    rw [Bool.eq_iff_iff]
    simp

theorem ext_list (s : ByteArray) (k : Nat) : (s.extract k s.size).data.toList = s.data.toList.drop k := Lib.extract_to_end s k
theorem size_list (s : ByteArray) : s.data.toList.length = s.size := by simp
theorem run_step {P : UInt8 → Bool} {l : List UInt8} {k : Nat} (h : begP P (l.drop k) = true) : runP P (l.drop k) = runP P (l.drop (k + 1)) + 1 := by
  rw [← List.drop_drop]
  cases e : l.drop k with
  | nil => rw [e] at h; cases h
  | cons c r =>
    rw [e] at h
    unfold runP
    rw [List.takeWhile_cons, if_pos (show P c = true from h)]
    simp

set_option maxRecDepth 100000 in
set_option maxHeartbeats 4000000 in
theorem run_any (s : ByteArray) (k : Nat) (hk : k ≤ 65535) (hs : s.size ≤ 281474976710656) (w : World) : Calls Tryd.prog 38 #[.string s, .int .u16 (k : Int)] w fun e w' => e = .returned (.int .i64 (runP (isK k) s.data.toList : Nat)) ∧ w' = w := by
  obtain ⟨T, HT⟩ : ∃ T, Hid (runP (isK k) s.data.toList = T) := ⟨_, rfl⟩
  rw [HT.out]
  go_enter Tryd.func38, Tryd.ntmps38
  go_wp2
  go_loop [5] (fun vi => ∃ m : Nat, vi = .int .i64 (m : Int) ∧ m ≤ s.size ∧ Hid (T = m + runP (isK k) (s.data.toList.drop m))) (fun vi => s.size + 1 - (intOf vi).toNat)
  case atStart => exact ⟨0, rfl, Nat.zero_le _, by show _ = _; rw [List.drop_zero, Nat.zero_add]; exact HT.out.symm⟩
  case round =>
    obtain ⟨m, rfl, hm, HI⟩ := hrel
    have HL := hide (ext_list s m)
    obtain ⟨t, ht⟩ : ∃ t, s.extract m s.size = t := ⟨_, rfl⟩
    have CB := hide (fun W => begins_any t k hk W)
    rw [ht] at HL
    rw [HL.out] at CB
    by_cases hb : begP (isK k) (s.data.toList.drop m) = true
    · have HT2 : Hid (T = (m + 1) + runP (isK k) (s.data.toList.drop (m + 1))) := by show _ = _; rw [HI.out, run_step hb]; omega
      have hlt : m < s.size := by
        have := begP_len hb
        rw [List.length_drop, size_list] at this
        omega
      rw [hb] at CB
      clear hb HI HL
      go_wp2_with (go_at_call 32; refine (CB.out _).mono ?_; rintro e w1 ⟨rfl, h0⟩; replace h0 := h0.symm; subst h0)
      go_round
      case rel => exact ⟨m + 1, by go_num, by omega, HT2⟩
      case measure => simp [intOf]; omega
    · have hb' : begP (isK k) (s.data.toList.drop m) = false := Bool.eq_false_iff.2 hb
      have hTm : T = m := by rw [HI.out, runP_zero hb']; omega
      subst hTm
      rw [hb'] at CB
      clear hb hb' HI HL
      go_wp2_with (go_at_call 32; refine (CB.out _).mono ?_; rintro e w1 ⟨rfl, h0⟩; replace h0 := h0.symm; subst h0)
      go_ret
      exact ⟨rfl, rfl⟩
end Go.Proofs.YtmeooghcdgpofaaDoor
