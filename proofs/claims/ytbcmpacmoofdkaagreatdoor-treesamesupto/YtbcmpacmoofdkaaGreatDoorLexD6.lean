/- The program's scanner: does a text begin with a kind, and how many bytes of it has it? -/
import Derived.Test.YtbcmpacmoofdkaaGreatDoorProg
import Derived.Test.YtbcmpacmoofdkaaGreatDoorLexK
import Derived.Test.YtbcmpacmoofdkaaGreatDoorLexX
import Derived.WalkKit
import Derived.ProofKit
import Derived.OpenShut
import Derived.Below
import Derived.WalkLawsBesides
import Derived.OwnWalk
import Derived.BigQuiet
import Derived.Lib.IndexBytes
import Derived.Test.YtbcmpacmoofdkaaGreatDoorShelf
import Derived.Deep.MidRow
namespace Go.Proofs.YtbcmpacmoofdkaaGreatDoor
open Go.ChangeShapes Go.WideShapes Go.ChangeAt Go.RowKit

theorem wraps16 (n : Int) (h₀ : 0 ≤ n) (h₁ : n < 2 ^ 16) : IntKind.u16.wrap n = n := by rw [IntKind.wrap_u16]; omega
theorem u16_and (a b : Nat) (ha : a ≤ 65535) (hb : b ≤ 65535) : bits .and .u16 (a : Int) (b : Int) = ((a &&& b : Nat) : Int) := (bits_nat .u16 16 (by decide) wraps16 a b (by omega) (by omega)).1
theorem list_nil (s : ByteArray) (h : s.size = 0) : s.data.toList = [] := by
  apply List.eq_nil_of_length_eq_zero; simpa using h

set_option maxRecDepth 100000 in
set_option maxHeartbeats 4000000 in
theorem begins_any (s : ByteArray) (k : Nat) (hk : k ≤ 65535) (w : World) : Calls Tryz.prog 65 #[.string s, .int .u16 (k : Int)] w fun e w' => e = .returned (.bool (begP (isK k) s.data.toList)) ∧ w' = w := by
  obtain ⟨b, HB⟩ : ∃ b, Hid (begP (isK k) s.data.toList = b) := ⟨_, rfl⟩
  rw [HB.out]
  by_cases h0 : s.size = 0
  · have HF : Hid (b = false) := by show _ = _; rw [← HB.out, list_nil s h0]; rfl
    obtain rfl : s = ⟨#[]⟩ := by
      apply ByteArray.ext
      exact Array.eq_empty_of_size_eq_zero h0
    go_enter Tryz.func65, Tryz.ntmps65
    go_wp2
    go_ret
    exact ⟨ret_bool HF.out.symm, rfl⟩
  · have h1 : 0 < s.size := by omega
    obtain ⟨c, hc⟩ : ∃ c, s[0]'h1 = c := ⟨_, rfl⟩
    have HT : Hid (b = isK k c) := by
      show _ = _
      rw [← HB.out]
      have := drop_at s 0 h1
      rw [List.drop_zero] at this
      rw [this, hc]
      rfl
    have CK := hide (fun W => kindsOf_any c W)
    obtain ⟨n, hn⟩ : ∃ n, c.toNat = n := ⟨_, rfl⟩
    have hcn : (s[0]'h1).toNat = n := by rw [hc, hn]
    rw [hn] at CK
    have hne : (s.toList == []) = false := by
      rw [ByteArray.toList_eq]
      have := drop_at s 0 h1
      rw [List.drop_zero] at this
      rw [this]; rfl
    obtain ⟨m, hm⟩ : ∃ m, kindsN c = m := ⟨_, rfl⟩
    rw [hm] at CK
    have HT2 : Hid (b = (m &&& k != 0)) := by show _ = _; rw [HT.out]; unfold isK; rw [hm]
    have hm2 : m ≤ 65535 := by
      rw [← hm]; unfold kindsN; repeat' split
      all_goals decide
    clear HT hm hn hc HB h0
    go_enter Tryz.func65, Tryz.ntmps65
    go_wp2_with (go_at_call 95; refine (CK.out _).mono ?_; rintro e w1 ⟨rfl, rfl⟩)
    go_ret
    refine ⟨ret_bool ?_, rfl⟩
    rw [u16_and m k hm2 hk, HT2.out]
    rw [Bool.eq_iff_iff]
    simp

theorem ext_list (s : ByteArray) (k : Nat) : (s.extract k s.size).data.toList = s.data.toList.drop k := Lib.extract_to_end s k
theorem size_list (s : ByteArray) : s.data.toList.length = s.size := by simp
theorem run_step {P : UInt8 → Bool} {l : List UInt8} {k : Nat} (h : begP P (l.drop k) = true) : runP P (l.drop k) = runP P (l.drop (k + 1)) + 1 := by
  rw [← List.drop_drop]
  cases e : l.drop k with
  | nil => rw [e] at h; cases h
  | cons c r =>
    rw [e] at h
    unfold runP
    rw [List.takeWhile_cons, if_pos (show P c = true from h)]
    simp

set_option maxRecDepth 100000 in
set_option maxHeartbeats 4000000 in
theorem run_any (s : ByteArray) (k : Nat) (hk : k ≤ 65535) (hs : s.size ≤ 281474976710656) (w : World) : Calls Tryz.prog 85 #[.string s, .int .u16 (k : Int)] w fun e w' => e = .returned (.int .i64 (runP (isK k) s.data.toList : Nat)) ∧ w' = w := by
  obtain ⟨T, HT⟩ : ∃ T, Hid (runP (isK k) s.data.toList = T) := ⟨_, rfl⟩
  rw [HT.out]
  go_enter Tryz.func85, Tryz.ntmps85
  go_wp2
  go_loop [5] (fun vi => ∃ m : Nat, vi = .int .i64 (m : Int) ∧ m ≤ s.size ∧ Hid (T = m + runP (isK k) (s.data.toList.drop m))) (fun vi => s.size + 1 - (intOf vi).toNat)
  case atStart => exact ⟨0, rfl, Nat.zero_le _, by show _ = _; rw [List.drop_zero, Nat.zero_add]; exact HT.out.symm⟩
  case round =>
    obtain ⟨m, rfl, hm, HI⟩ := hrel
    have HL := hide (ext_list s m)
    obtain ⟨t, ht⟩ : ∃ t, s.extract m s.size = t := ⟨_, rfl⟩
    have CB := hide (fun W => begins_any t k hk W)
    rw [ht] at HL
    rw [HL.out] at CB
    by_cases hb : begP (isK k) (s.data.toList.drop m) = true
    · have HT2 : Hid (T = (m + 1) + runP (isK k) (s.data.toList.drop (m + 1))) := by show _ = _; rw [HI.out, run_step hb]; omega
      have hlt : m < s.size := by
        have := begP_len hb
        rw [List.length_drop, size_list] at this
        omega
      rw [hb] at CB
      clear hb HI HL
      go_wp2_with (go_at_call 65; refine (CB.out _).mono ?_; rintro e w1 ⟨rfl, h0⟩; replace h0 := h0.symm; subst h0)
      go_round
      case rel => exact ⟨m + 1, by go_num, by omega, HT2⟩
      case measure => simp [intOf]; omega
    · have hb' : begP (isK k) (s.data.toList.drop m) = false := Bool.eq_false_iff.2 hb
      have hTm : T = m := by rw [HI.out, runP_zero hb']; omega
      subst hTm
      rw [hb'] at CB
      clear hb hb' HI HL
      go_wp2_with (go_at_call 65; refine (CB.out _).mono ?_; rintro e w1 ⟨rfl, h0⟩; replace h0 := h0.symm; subst h0)
      go_ret
      exact ⟨rfl, rfl⟩
end Go.Proofs.YtbcmpacmoofdkaaGreatDoor
/- The program's scanner: names, numbers. -/
namespace Go.Proofs.YtbcmpacmoofdkaaGreatDoor
open Go.ChangeShapes Go.WideShapes Go.ChangeAt Go.RowKit

set_option maxRecDepth 100000 in
theorem name_any (s : ByteArray) (hs : s.size ≤ 281474976710656) (w : World) : Calls Tryz.prog 86 #[.string s] w fun e w' => e = .returned (.int .i64 (nameN s.data.toList : Nat)) ∧ w' = w := by
  have CB := hide (fun W => begins_any s 2 (by decide) W)
  have C1 := hide (fun W => run_any s 16 (by decide) hs W)
  have C2 := hide (fun W => run_any s 32 (by decide) hs W)
  rw [isK_letter] at CB
  rw [isK_word] at C1
  rw [isK_sign] at C2
  have HN : Hid (nameN s.data.toList = if begP letterB s.data.toList then runP wordB s.data.toList else runP signB s.data.toList) := rfl
  rw [HN.out]
  clear HN
  cases hb : begP letterB s.data.toList
  · rw [hb] at CB
    go_enter Tryz.func86, Tryz.ntmps86
    go_wp2_with (first | (go_at_call 65; refine (CB.out _).mono ?_; rintro e w1 ⟨rfl, rfl⟩) | (go_at_call 85; refine (C2.out _).mono ?_; rintro e w1 ⟨rfl, rfl⟩))
    go_ret
    exact ⟨rfl, rfl⟩
  · rw [hb] at CB
    go_enter Tryz.func86, Tryz.ntmps86
    go_wp2_with (first | (go_at_call 65; refine (CB.out _).mono ?_; rintro e w1 ⟨rfl, rfl⟩) | (go_at_call 85; refine (C1.out _).mono ?_; rintro e w1 ⟨rfl, rfl⟩))
    go_ret
    exact ⟨rfl, rfl⟩

set_option maxRecDepth 100000 in
theorem tilde_any (s : ByteArray) (w : World) : Calls Tryz.prog 111 #[.string s] w fun e w' => e = .returned (.int .i64 (tildeN s.data.toList : Nat)) ∧ w' = w := by
  have CB := hide (fun W => Tryz.strings_HasPrefix s ⟨#[126]⟩ W)
  have HN : Hid (tildeN s.data.toList = if ([126] : List UInt8).isPrefixOf s.data.toList then 1 else 0) := rfl
  have e0 : Lib.hasPrefix s.data.toList (ByteArray.mk #[126]).data.toList = ([126] : List UInt8).isPrefixOf s.data.toList := rfl
  rw [HN.out]
  simp only [e0] at CB
  clear HN e0
  cases hb : ([126] : List UInt8).isPrefixOf s.data.toList
  · rw [hb] at CB
    go_enter Tryz.func111, Tryz.ntmps111
    go_wp2_with (go_at_call 92; refine (CB.out _).mono ?_; rintro e w1 ⟨rfl, rfl⟩)
    go_ret
    exact ⟨rfl, rfl⟩
  · rw [hb] at CB
    go_enter Tryz.func111, Tryz.ntmps111
    go_wp2_with (go_at_call 92; refine (CB.out _).mono ?_; rintro e w1 ⟨rfl, rfl⟩)
    go_ret
    exact ⟨rfl, rfl⟩

theorem trim_list {l p : List UInt8} (h : p.isPrefixOf l = true) : Lib.trimPrefix l p = l.drop p.length := by
  unfold Lib.trimPrefix Lib.hasPrefix
  rw [if_pos h]

set_option maxRecDepth 100000 in
set_option maxHeartbeats 4000000 in
theorem prefixed_any (s p : ByteArray) (k : Nat) (hk : k ≤ 65535) (hs : s.size ≤ 281474976710656) (hp : p.size ≤ 100) (w : World) : Calls Tryz.prog 112 #[.string s, .string p, .int .u16 (k : Int)] w fun e w' => e = .returned (.int .i64 (preN p.data.toList (isK k) s.data.toList : Nat)) ∧ w' = w := by
  have CP := hide (fun W => Tryz.strings_CutPrefix s p W)
  have e0 : Lib.hasPrefix s.data.toList p.data.toList = p.data.toList.isPrefixOf s.data.toList := rfl
  simp only [e0] at CP
  have HN : Hid (preN p.data.toList (isK k) s.data.toList = if p.data.toList.isPrefixOf s.data.toList && begP (isK k) (s.data.toList.drop p.data.toList.length) then p.data.toList.length + runP (isK k) (s.data.toList.drop p.data.toList.length) else 0) := rfl
  obtain ⟨T, HT⟩ : ∃ T, Hid (preN p.data.toList (isK k) s.data.toList = T) := ⟨_, rfl⟩
  rw [HT.out] at HN ⊢
  cases hb : p.data.toList.isPrefixOf s.data.toList
  · have h0 : T = 0 := by rw [HN.out, hb]; rfl
    subst h0
    rw [hb] at CP
    clear HN HT
    generalize ByteArray.mk (Lib.trimPrefix s.data.toList p.data.toList).toArray = t at CP
    go_enter Tryz.func112, Tryz.ntmps112
    go_wp2_with (go_at_call 127; refine (CP.out _).mono ?_; rintro e w1 ⟨rfl, rfl⟩)
    go_ret
    exact ⟨rfl, rfl⟩
  · obtain ⟨t, ht⟩ : ∃ t, ByteArray.mk (Lib.trimPrefix s.data.toList p.data.toList).toArray = t := ⟨_, rfl⟩
    have htl : t.data.toList = s.data.toList.drop p.data.toList.length := by rw [← ht, trim_list hb]
    have hts : t.size ≤ 281474976710656 := by
      have := congrArg List.length htl
      rw [size_list, List.length_drop, size_list] at this
      omega
    rw [hb, ht] at CP
    have CB := hide (fun W => begins_any t k hk W)
    have CR := hide (fun W => run_any t k hk hts W)
    have HN2 : Hid (T = if begP (isK k) t.data.toList then p.size + runP (isK k) t.data.toList else 0) := by
      show _ = _; rw [HN.out, hb, htl, size_list]; rfl
    have hrl : runP (isK k) t.data.toList ≤ t.size := by have := runP_le (isK k) t.data.toList; rwa [size_list] at this
    clear HN HT ht htl
    obtain ⟨R, hR⟩ : ∃ R, runP (isK k) t.data.toList = R := ⟨_, rfl⟩
    rw [hR] at CR HN2 hrl
    clear hR
    cases hb2 : begP (isK k) t.data.toList
    · have h0 : T = 0 := by rw [HN2.out, hb2]; rfl
      subst h0
      rw [hb2] at CB
      clear HN2
      go_enter Tryz.func112, Tryz.ntmps112
      go_wp2_with (first | (go_at_call 127; refine (CP.out _).mono ?_; rintro e w1 ⟨rfl, rfl⟩) | (go_at_call 65; refine (CB.out _).mono ?_; rintro e w1 ⟨rfl, rfl⟩))
      go_ret
      exact ⟨rfl, rfl⟩
    · have h0 : T = p.size + R := by rw [HN2.out, hb2]; rfl
      rw [hb2] at CB
      clear HN2
      go_enter Tryz.func112, Tryz.ntmps112
      go_wp2_with (first | (go_at_call 127; refine (CP.out _).mono ?_; rintro e w1 ⟨rfl, rfl⟩) | (go_at_call 65; refine (CB.out _).mono ?_; rintro e w1 ⟨rfl, rfl⟩) | (go_at_call 85; refine (CR.out _).mono ?_; rintro e w1 ⟨rfl, rfl⟩))
      go_ret
      exact ⟨ret_int (by omega), rfl⟩
theorem prefixed_lit (s p : ByteArray) (l : List UInt8) (hl : p.data.toList = l) (P : UInt8 → Bool) (k : Nat) (hP : isK k = P) (hk : k ≤ 65535) (hs : s.size ≤ 281474976710656) (hp : p.size ≤ 100) (w : World) : Calls Tryz.prog 112 #[.string s, .string p, .int .u16 (k : Int)] w fun e w' => e = .returned (.int .i64 (preN l P s.data.toList : Nat)) ∧ w' = w := by
  subst hl hP
  exact prefixed_any s p k hk hs hp w

def altN (a b c d k : Nat) : Nat :=
  if k = 0 then (if 0 < a then a else if 0 < b then b else if 0 < c then c else if 0 < d then d else 0)
  else if k = 1 then (if 0 < b then b else if 0 < c then c else if 0 < d then d else 0)
  else if k = 2 then (if 0 < c then c else if 0 < d then d else 0) else if k = 3 then (if 0 < d then d else 0) else 0
set_option maxRecDepth 100000 in
set_option maxHeartbeats 4000000 in
theorem exponent_any (s : ByteArray) (hs : s.size ≤ 281474976710656) (w : World) : Calls Tryz.prog 113 #[.string s] w fun e w' => e = .returned (.int .i64 (expN s.data.toList : Nat)) ∧ w' = w := by
  have C1 := hide (fun W => prefixed_lit s ⟨#[69]⟩ [69] rfl digitB 4 isK_digit (by decide) hs (by decide) W)
  have C2 := hide (fun W => prefixed_lit s ⟨#[101]⟩ [101] rfl digitB 4 isK_digit (by decide) hs (by decide) W)
  have C3 := hide (fun W => prefixed_lit s ⟨#[69, 126]⟩ [69, 126] rfl digitB 4 isK_digit (by decide) hs (by decide) W)
  have C4 := hide (fun W => prefixed_lit s ⟨#[101, 126]⟩ [101, 126] rfl digitB 4 isK_digit (by decide) hs (by decide) W)
  have HN : Hid (expN s.data.toList = if 0 < preN [69] digitB s.data.toList then preN [69] digitB s.data.toList else if 0 < preN [101] digitB s.data.toList then preN [101] digitB s.data.toList
    else if 0 < preN [69, 126] digitB s.data.toList then preN [69, 126] digitB s.data.toList else preN [101, 126] digitB s.data.toList) := rfl
  obtain ⟨T, HT⟩ : ∃ T, Hid (expN s.data.toList = T) := ⟨_, rfl⟩
  rw [HT.out] at HN ⊢
  clear HT
  generalize preN [69] digitB s.data.toList = a at *
  generalize preN [101] digitB s.data.toList = b at *
  generalize preN [69, 126] digitB s.data.toList = c at *
  generalize preN [101, 126] digitB s.data.toList = d at *
  have i0 : ∀ w, (Instr.index 164 (.agg #[.string ⟨#[69]⟩, .string ⟨#[101]⟩, .string ⟨#[69, 126]⟩, .string ⟨#[101, 126]⟩]) (.int .i64 0)).run Tryz.prog w = .ok (.string ⟨#[69]⟩) w := fun _ => by kernel_rfl
  have i1 : ∀ w, (Instr.index 164 (.agg #[.string ⟨#[69]⟩, .string ⟨#[101]⟩, .string ⟨#[69, 126]⟩, .string ⟨#[101, 126]⟩]) (.int .i64 1)).run Tryz.prog w = .ok (.string ⟨#[101]⟩) w := fun _ => by kernel_rfl
  have i2 : ∀ w, (Instr.index 164 (.agg #[.string ⟨#[69]⟩, .string ⟨#[101]⟩, .string ⟨#[69, 126]⟩, .string ⟨#[101, 126]⟩]) (.int .i64 2)).run Tryz.prog w = .ok (.string ⟨#[69, 126]⟩) w := fun _ => by kernel_rfl
  have i3 : ∀ w, (Instr.index 164 (.agg #[.string ⟨#[69]⟩, .string ⟨#[101]⟩, .string ⟨#[69, 126]⟩, .string ⟨#[101, 126]⟩]) (.int .i64 3)).run Tryz.prog w = .ok (.string ⟨#[101, 126]⟩) w := fun _ => by kernel_rfl
  go_enter Tryz.func113, Tryz.ntmps113
  go_wp2
  have HN2 : Hid (T = altN a b c d 0) := by
    show _ = _
    rw [HN.out]
    unfold altN
    simp only [if_true]
    repeat' split
    all_goals omega
  clear HN
  go_loop [7] (fun vi => ∃ k : Nat, vi = .int .i64 (k : Int) ∧ k ≤ 4 ∧ Hid (T = altN a b c d k)) (fun vi => 5 - (intOf vi).toNat)
  case atStart => exact ⟨0, rfl, by decide, HN2⟩
  case round =>
    obtain ⟨k, rfl, hk, HI⟩ := hrel
    clear HN2
    have cs : k = 0 ∨ k = 1 ∨ k = 2 ∨ k = 3 ∨ k = 4 := by omega
    rcases cs with rfl | rfl | rfl | rfl | rfl
    case inr.inr.inr.inr =>
      have h0 : T = 0 := HI.out
      subst h0
      go_wp2
      go_ret
      exact ⟨rfl, rfl⟩
    case inl =>
      by_cases hx : 0 < a
      · have h0 : T = a := by rw [HI.out]; unfold altN; simp [hx]
        subst h0
        clear HI
        go_wp2_with (go_at_call 112; refine (C1.out _).mono ?_; rintro e w1 ⟨rfl, h0⟩; replace h0 := h0.symm; subst h0)
        go_ret
        exact ⟨rfl, rfl⟩
      · have h0 : Hid (T = altN a b c d 1) := by show _ = _; rw [HI.out]; unfold altN; simp [hx]
        obtain rfl : a = 0 := by omega
        clear HI
        go_wp2_with (go_at_call 112; refine (C1.out _).mono ?_; rintro e w1 ⟨rfl, h0⟩; replace h0 := h0.symm; subst h0)
        go_round
        case rel => exact ⟨1, rfl, by decide, h0⟩
        case measure => simp [intOf]
    case inr.inl =>
      by_cases hx : 0 < b
      · have h0 : T = b := by rw [HI.out]; unfold altN; simp [hx]
        subst h0
        clear HI
        go_wp2_with (go_at_call 112; refine (C2.out _).mono ?_; rintro e w1 ⟨rfl, h0⟩; replace h0 := h0.symm; subst h0)
        go_ret
        exact ⟨rfl, rfl⟩
      · have h0 : Hid (T = altN a b c d 2) := by show _ = _; rw [HI.out]; unfold altN; simp [hx]
        obtain rfl : b = 0 := by omega
        clear HI
        go_wp2_with (go_at_call 112; refine (C2.out _).mono ?_; rintro e w1 ⟨rfl, h0⟩; replace h0 := h0.symm; subst h0)
        go_round
        case rel => exact ⟨2, rfl, by decide, h0⟩
        case measure => simp [intOf]
    case inr.inr.inl =>
      by_cases hx : 0 < c
      · have h0 : T = c := by rw [HI.out]; unfold altN; simp [hx]
        subst h0
        clear HI
        go_wp2_with (go_at_call 112; refine (C3.out _).mono ?_; rintro e w1 ⟨rfl, h0⟩; replace h0 := h0.symm; subst h0)
        go_ret
        exact ⟨rfl, rfl⟩
      · have h0 : Hid (T = altN a b c d 3) := by show _ = _; rw [HI.out]; unfold altN; simp [hx]
        obtain rfl : c = 0 := by omega
        clear HI
        go_wp2_with (go_at_call 112; refine (C3.out _).mono ?_; rintro e w1 ⟨rfl, h0⟩; replace h0 := h0.symm; subst h0)
        go_round
        case rel => exact ⟨3, rfl, by decide, h0⟩
        case measure => simp [intOf]
    case inr.inr.inr.inl =>
      by_cases hx : 0 < d
      · have h0 : T = d := by rw [HI.out]; unfold altN; simp [hx]
        subst h0
        clear HI
        go_wp2_with (go_at_call 112; refine (C4.out _).mono ?_; rintro e w1 ⟨rfl, h0⟩; replace h0 := h0.symm; subst h0)
        go_ret
        exact ⟨rfl, rfl⟩
      · have h0 : Hid (T = altN a b c d 4) := by show _ = _; rw [HI.out]; unfold altN; simp [hx]
        obtain rfl : d = 0 := by omega
        clear HI
        go_wp2_with (go_at_call 112; refine (C4.out _).mono ?_; rintro e w1 ⟨rfl, h0⟩; replace h0 := h0.symm; subst h0)
        go_round
        case rel => exact ⟨4, rfl, by decide, h0⟩
        case measure => simp [intOf]
end Go.Proofs.YtbcmpacmoofdkaaGreatDoor
/- The program's scanner: how long a number is; tokens that are cut off. -/
namespace Go.Proofs.YtbcmpacmoofdkaaGreatDoor
open Go.ChangeShapes Go.WideShapes Go.ChangeAt Go.RowKit

theorem tildeN_one (l : List UInt8) : tildeN l ≤ 1 := by unfold tildeN; split <;> omega
theorem sub_size {s t : ByteArray} {k : Nat} (h : t.data.toList = s.data.toList.drop k) : t.size = s.size - k := by
  have := congrArg List.length h
  rwa [size_list, List.length_drop, size_list] at this

set_option maxRecDepth 100000 in
set_option maxHeartbeats 4000000 in
theorem measure_any (s : ByteArray) (hs : s.size ≤ 1073741824) (w : World) : Calls Tryz.prog 90 #[.string s] w fun e w' => e = .returned (.tuple #[.int .i64 ((measN s.data.toList).1 : Nat), .int .i64 ((measN s.data.toList).2 : Nat)]) ∧ w' = w := by
  have CT := hide (fun W => tilde_any s W)
  have hz := tildeN_one s.data.toList
  have hz2 := tildeN_le s.data.toList
  rw [size_list] at hz2
  have HN : Hid (measN s.data.toList = if 0 < preN [48, 120] hexB (s.data.toList.drop (tildeN s.data.toList)) then (4, tildeN s.data.toList + preN [48, 120] hexB (s.data.toList.drop (tildeN s.data.toList)))
    else meas2 s.data.toList (tildeN s.data.toList + runP digitB (s.data.toList.drop (tildeN s.data.toList)))) := rfl
  obtain ⟨R, HR⟩ : ∃ R, Hid (measN s.data.toList = R) := ⟨_, rfl⟩
  rw [HR.out] at HN ⊢
  clear HR
  generalize tildeN s.data.toList = z at *
  obtain ⟨t1, ht1⟩ : ∃ t, s.extract z s.size = t := ⟨_, rfl⟩
  have hl1 : t1.data.toList = s.data.toList.drop z := by rw [← ht1]; exact ext_list s z
  have hs1 := sub_size hl1
  rw [← hl1] at HN
  have CX := hide (fun W => prefixed_lit t1 ⟨#[48, 120]⟩ [48, 120] rfl hexB 8 isK_hex (by decide) (by omega) (by decide) W)
  have hx2 := preN_le [48, 120] hexB t1.data.toList
  have hr2 := runP_le digitB t1.data.toList
  rw [size_list] at hx2 hr2
  have CR := hide (fun W => run_any t1 4 (by decide) (by omega) W)
  rw [isK_digit] at CR
  generalize preN [48, 120] hexB t1.data.toList = x at *
  generalize runP digitB t1.data.toList = r at *
  by_cases hx : 0 < x
  · have HE : Hid (R = (4, z + x)) := by show _ = _; rw [HN.out, if_pos hx]
    clear HN CR
    go_enter Tryz.func90, Tryz.ntmps90
    go_wp2_with (first | (go_at_call 111; refine (CT.out _).mono ?_; rintro e w1 ⟨rfl, rfl⟩) | (go_at_call 112; refine (CX.out _).mono ?_; rintro e w1 ⟨rfl, rfl⟩))
    go_ret2
    exact ⟨by rw [HE.out]; go_num, rfl⟩
  · obtain rfl : x = 0 := by omega
    obtain ⟨d, hd⟩ : ∃ d, z + r = d := ⟨_, rfl⟩
    have hdi : (z : Int) + (r : Int) = (d : Int) := by omega
    have HM : Hid (R = meas2 s.data.toList d) := by show _ = _; rw [HN.out, if_neg (by omega), hd]
    obtain ⟨t2, ht2⟩ : ∃ t, s.extract d s.size = t := ⟨_, rfl⟩
    have hl2 : t2.data.toList = s.data.toList.drop d := by rw [← ht2]; exact ext_list s d
    have hs2 := sub_size hl2
    have CP := hide (fun W => prefixed_lit t2 ⟨#[46]⟩ [46] rfl digitB 4 isK_digit (by decide) (by omega) (by decide) W)
    have hp2 := preN_le [46] digitB t2.data.toList
    rw [size_list] at hp2
    have HM2 : Hid (R = if 0 < preN [46] digitB t2.data.toList + expN (s.data.toList.drop (d + preN [46] digitB t2.data.toList)) then (5, d + (preN [46] digitB t2.data.toList + expN (s.data.toList.drop (d + preN [46] digitB t2.data.toList)))) else (4, d)) := by
      show _ = _
      rw [HM.out]
      unfold meas2 partN
      rw [← hl2, hl2, List.drop_drop]
    generalize preN [46] digitB t2.data.toList = p at *
    obtain ⟨f, hf⟩ : ∃ f, d + p = f := ⟨_, rfl⟩
    have hfi : (d : Int) + (p : Int) = (f : Int) := by omega
    obtain ⟨t3, ht3⟩ : ∃ t, s.extract f s.size = t := ⟨_, rfl⟩
    have hl3 : t3.data.toList = s.data.toList.drop f := by rw [← ht3]; exact ext_list s f
    have hs3 := sub_size hl3
    have CE := hide (fun W => exponent_any t3 (by omega) W)
    have he2 := expN_le t3.data.toList
    rw [size_list] at he2
    rw [hf, ← hl3] at HM2
    generalize expN t3.data.toList = q at *
    have hfs : f ≤ s.size := by omega
    clear HN HM hl1 hl2 hl3 hd hf
    by_cases hq : 0 < p + q
    · have HE : Hid (R = (5, d + (p + q))) := by show _ = _; rw [HM2.out, if_pos hq]
      clear HM2
      go_enter Tryz.func90, Tryz.ntmps90
      go_wp2_with (first | (go_at_call 111; refine (CT.out _).mono ?_; rintro e w1 ⟨rfl, rfl⟩) | (go_at_call 112; refine (CX.out _).mono ?_; rintro e w1 ⟨rfl, rfl⟩; clear CX) | (go_at_call 112; refine (CP.out _).mono ?_; rintro e w1 ⟨rfl, rfl⟩) | (go_at_call 85; refine (CR.out _).mono ?_; rintro e w1 ⟨rfl, rfl⟩) | (go_at_call 113; refine (CE.out _).mono ?_; rintro e w1 ⟨rfl, rfl⟩))
      go_ret2
      exact ⟨by rw [HE.out]; go_num, rfl⟩
    · have HE : Hid (R = (4, d)) := by show _ = _; rw [HM2.out, if_neg hq]
      obtain rfl : p = 0 := by omega
      obtain rfl : q = 0 := by omega
      obtain rfl : f = d := by omega
      have h23 : t3 = t2 := by rw [← ht3, ← ht2]
      subst h23
      clear HM2 ht3 hfi
      go_enter Tryz.func90, Tryz.ntmps90
      go_wp2_with (first | (go_at_call 111; refine (CT.out _).mono ?_; rintro e w1 ⟨rfl, rfl⟩) | (go_at_call 112; refine (CX.out _).mono ?_; rintro e w1 ⟨rfl, rfl⟩; clear CX) | (go_at_call 112; refine (CP.out _).mono ?_; rintro e w1 ⟨rfl, rfl⟩) | (go_at_call 85; refine (CR.out _).mono ?_; rintro e w1 ⟨rfl, rfl⟩) | (go_at_call 113; refine (CE.out _).mono ?_; rintro e w1 ⟨rfl, rfl⟩))
      go_ret2
      exact ⟨by rw [HE.out]; rfl, rfl⟩
end Go.Proofs.YtbcmpacmoofdkaaGreatDoor
/- The program's scanner: tokens that are cut off. -/
namespace Go.Proofs.YtbcmpacmoofdkaaGreatDoor
open Go.ChangeShapes Go.WideShapes Go.ChangeAt Go.RowKit

theorem clone_any (s : ByteArray) (w : World) (hs : s.size ≤ 281474976710656) : Calls Tryz.prog 89 #[.string s] w fun e w' => e = .returned (.string s) ∧ Below w.heap.size w w' := by
  go_enter Tryz.func89, Tryz.ntmps89
  go_wp2_with (go_at_call 110; refine (Tryz.stringslite_Clone _ _ hs).mono ?_; rintro e w1 ⟨rfl, g1⟩)
  go_ret
  exact ⟨rfl, g1⟩

/-- A token as a value; its path is a row in memory. -/
def tokV (k : Nat) (t : List UInt8) (v : Value) (x y : Nat) : Value := .agg #[.int .i64 (k : Int), .string ⟨t.toArray⟩, v, .int .i64 (x : Int), .int .i64 (y : Int)]
/-- What a reader answers that makes no path. -/
def Gives (r : Rd) (e : Ending) : Prop := match r with
  | .bad n => e = .returned (.tuple #[tokV 0 [] (.slice none 0 0) 0 0, .int .i64 0, .int .i64 (n : Int)])
  | .got k t _ n => e = .returned (.tuple #[tokV k t (.slice none 0 0) 0 0, .int .i64 (n : Int), .int .i64 0])
theorem ext_take (s : ByteArray) (n : Nat) : s.extract 0 n = ⟨(s.data.toList.take n).toArray⟩ := by
  apply ByteArray.ext
  rw [ByteArray.data_extract]
  apply Array.ext'
  simp
/-- The five cells of a token that was laid ahead of a call. -/
theorem cell5 {w w1 : World} {c0 c1 c2 c3 c4 : Value} {t : TypeId} (h : Below (w.alloc (.cells #[c0, c1, c2, c3, c4] t)).heap.size (w.alloc (.cells #[c0, c1, c2, c3, c4] t)) w1) :
    (w1.cell? ⟨w.heap.size, 0, none⟩ = some c0 ∧ w1.cell? ⟨w.heap.size, 1, none⟩ = some c1 ∧ w1.cell? ⟨w.heap.size, 2, none⟩ = some c2 ∧ w1.cell? ⟨w.heap.size, 3, none⟩ = some c3 ∧ w1.cell? ⟨w.heap.size, 4, none⟩ = some c4)
    ∧ (w1.frozen? ⟨w.heap.size, 0, none⟩ = false ∧ w1.frozen? ⟨w.heap.size, 1, none⟩ = false ∧ w1.frozen? ⟨w.heap.size, 2, none⟩ = false ∧ w1.frozen? ⟨w.heap.size, 3, none⟩ = false ∧ w1.frozen? ⟨w.heap.size, 4, none⟩ = false)
    ∧ Below w.heap.size w w1 ∧ w.heap.size < w1.heap.size := by
  have hs : w.heap.size < (w.alloc (.cells #[c0, c1, c2, c3, c4] t)).heap.size := by simp
  refine ⟨⟨?_, ?_, ?_, ?_, ?_⟩, ⟨?_, ?_, ?_, ?_, ?_⟩, ?_, ?_⟩
  · rw [h.cell (p := ⟨w.heap.size, 0, none⟩) hs]; simp
  · rw [h.cell (p := ⟨w.heap.size, 1, none⟩) hs]; simp
  · rw [h.cell (p := ⟨w.heap.size, 2, none⟩) hs]; simp
  · rw [h.cell (p := ⟨w.heap.size, 3, none⟩) hs]; simp
  · rw [h.cell (p := ⟨w.heap.size, 4, none⟩) hs]; simp
  · rw [h.frozen (p := ⟨w.heap.size, 0, none⟩) hs]; simp
  · rw [h.frozen (p := ⟨w.heap.size, 1, none⟩) hs]; simp
  · rw [h.frozen (p := ⟨w.heap.size, 2, none⟩) hs]; simp
  · rw [h.frozen (p := ⟨w.heap.size, 3, none⟩) hs]; simp
  · rw [h.frozen (p := ⟨w.heap.size, 4, none⟩) hs]; simp
  · exact ((Below.refl _ _).alloc (Nat.le_refl _) _).trans (h.mono (Nat.le_of_lt hs))
  · exact Nat.lt_of_lt_of_le hs h.size

theorem results_tok {fn : Func} {p u v : Tmp} {ty : TypeId} (h : fn.results = #[.cell p ty, .tmp u, .tmp v]) (tmps : Array Value) (w : World) (b : Nat) (cs : List Value) (d : TypeDesc)
    (hp : tmps.getD p undef = .pointer (some ⟨b, 0, none⟩)) (hc : w.rangeAt b 0 cs) (hu : Tryz.prog.underlying ty = some d) (hd : d.isRow = true) (hi : (Tryz.prog.info? ty).map (·.size) = some cs.length) :
    (results fn tmps).run Tryz.prog w = .ok (.tuple #[.agg cs.toArray, tmps.getD u undef, tmps.getD v undef]) w := by
  have hp' : tmps[p]?.getD undef = .pointer (some ⟨b, 0, none⟩) := by simpa using hp
  simp [results, h, hp', asAddr, Result.andThen, run_loadVar_mid w b 0 ty cs d hc hu hd hi]
theorem infoTok : (Tryz.prog.info? 72).map (·.size) = some 5 := by kernel_rfl
/-- Once its five cells are written, a token is handed back. -/
theorem tok_end {w w1 : World} {fn : Func} {p u v : Tmp} (h : fn.results = #[.cell p 72, .tmp u, .tmp v]) {tmps : Array Value} {R : Ending → World → Prop} {v0 v1 v2 v3 v4 : Value}
    (c : (w1.cell? ⟨w.heap.size, 0, none⟩).isSome = true ∧ (w1.cell? ⟨w.heap.size, 1, none⟩).isSome = true ∧ (w1.cell? ⟨w.heap.size, 2, none⟩).isSome = true ∧ (w1.cell? ⟨w.heap.size, 3, none⟩).isSome = true ∧ (w1.cell? ⟨w.heap.size, 4, none⟩).isSome = true)
    (f : w1.frozen? ⟨w.heap.size, 0, none⟩ = false ∧ w1.frozen? ⟨w.heap.size, 1, none⟩ = false ∧ w1.frozen? ⟨w.heap.size, 2, none⟩ = false ∧ w1.frozen? ⟨w.heap.size, 3, none⟩ = false ∧ w1.frozen? ⟨w.heap.size, 4, none⟩ = false)
    (hp : tmps.getD p undef = .pointer (some ⟨w.heap.size, 0, none⟩)) (b : Below w.heap.size w w1)
    (g : Below w.heap.size w (((((w1.setCell ⟨w.heap.size, 0, none⟩ v0).setCell ⟨w.heap.size, 1, none⟩ v1).setCell ⟨w.heap.size, 2, none⟩ v2).setCell ⟨w.heap.size, 3, none⟩ v3).setCell ⟨w.heap.size, 4, none⟩ v4) → R (.returned (.tuple #[.agg #[v0, v1, v2, v3, v4], tmps.getD u undef, tmps.getD v undef])) (((((w1.setCell ⟨w.heap.size, 0, none⟩ v0).setCell ⟨w.heap.size, 1, none⟩ v1).setCell ⟨w.heap.size, 2, none⟩ v2).setCell ⟨w.heap.size, 3, none⟩ v3).setCell ⟨w.heap.size, 4, none⟩ v4)) :
    bodyPost Tryz.prog fn R Exit.ret { tmps := tmps, defers := [] } (((((w1.setCell ⟨w.heap.size, 0, none⟩ v0).setCell ⟨w.heap.size, 1, none⟩ v1).setCell ⟨w.heap.size, 2, none⟩ v2).setCell ⟨w.heap.size, 3, none⟩ v3).setCell ⟨w.heap.size, 4, none⟩ v4) := by
  have ht : w1.there w.heap.size 0 [v0, v1, v2, v3, v4].length := by
    intro j hj
    simp only [List.length_cons, List.length_nil] at hj
    match j, hj with
    | 0, _ => exact ⟨c.1, f.1⟩
    | 1, _ => exact ⟨c.2.1, f.2.1⟩
    | 2, _ => exact ⟨c.2.2.1, f.2.2.1⟩
    | 3, _ => exact ⟨c.2.2.2.1, f.2.2.2.1⟩
    | 4, _ => exact ⟨c.2.2.2.2, f.2.2.2.2⟩
  have hr := World.rangeAt_setCells_same w1 w.heap.size 0 [v0, v1, v2, v3, v4] ht
  refine bodyPost_ret (results_tok h _ _ w.heap.size [v0, v1, v2, v3, v4] _ hp hr Tryz.underlying72 rfl infoTok) rfl (g ?_)
  exact ((((b.setCell (Nat.le_refl _) _).setCell (Nat.le_refl _) _).setCell (Nat.le_refl _) _).setCell (Nat.le_refl _) _).setCell (Nat.le_refl _) _
theorem some5 {w1 : World} {b : Nat} {c0 c1 c2 c3 c4 : Value} (h : w1.cell? ⟨b, 0, none⟩ = some c0 ∧ w1.cell? ⟨b, 1, none⟩ = some c1 ∧ w1.cell? ⟨b, 2, none⟩ = some c2 ∧ w1.cell? ⟨b, 3, none⟩ = some c3 ∧ w1.cell? ⟨b, 4, none⟩ = some c4) :
    (w1.cell? ⟨b, 0, none⟩).isSome = true ∧ (w1.cell? ⟨b, 1, none⟩).isSome = true ∧ (w1.cell? ⟨b, 2, none⟩).isSome = true ∧ (w1.cell? ⟨b, 3, none⟩).isSome = true ∧ (w1.cell? ⟨b, 4, none⟩).isSome = true := by
  obtain ⟨h0, h1, h2, h3, h4⟩ := h
  rw [h0, h1, h2, h3, h4]; exact ⟨rfl, rfl, rfl, rfl, rfl⟩

set_option maxRecDepth 100000 in
set_option maxHeartbeats 4000000 in
theorem cut_any (s : ByteArray) (k n : Nat) (_hk : k ≤ 100) (hn : n ≤ s.size) (hs : s.size ≤ 1073741824) (w : World) : Calls Tryz.prog 88 #[.string s, .int .i64 (k : Int), .int .i64 (n : Int)] w fun e w' => e = .returned (.tuple #[tokV k (s.data.toList.take n) (.slice none 0 0) 0 0, .int .i64 (n : Int), .int .i64 0]) ∧ Below w.heap.size w w' := by
  obtain ⟨t, ht⟩ : ∃ t, s.extract 0 n = t := ⟨_, rfl⟩
  have HV : Hid (tokV k (s.data.toList.take n) (.slice none 0 0) 0 0 = .agg #[.int .i64 (k : Int), .string t, .slice none 0 0, .int .i64 0, .int .i64 0]) := by
    show _ = _; unfold tokV; rw [← ext_take s n, ht]; rfl
  have hts : t.size ≤ 281474976710656 := by rw [← ht, ByteArray.size_extract]; omega
  rw [HV.out]
  clear HV
  go_enter Tryz.func88, Tryz.ntmps88
  go_wp2_with (go_at_call 89; refine (clone_any _ _ hts).mono ?_; rintro e w1 ⟨rfl, g1⟩; obtain ⟨⟨c0, c1, c2, c3, c4⟩, ⟨f0, f1, f2, f3, f4⟩, b1, b2⟩ := cell5 g1; clear g1)
  refine tok_end rfl (some5 ⟨c0, c1, c2, c3, c4⟩) ⟨f0, f1, f2, f3, f4⟩ rfl b1 fun g => ?_
  exact ⟨rfl, g⟩
end Go.Proofs.YtbcmpacmoofdkaaGreatDoor
/- The program's scanner: numbers, blanks, signs that stand alone, type variables. -/
namespace Go.Proofs.YtbcmpacmoofdkaaGreatDoor
open Go.ChangeShapes Go.WideShapes Go.ChangeAt Go.RowKit

theorem new5 (w : World) (c0 c1 c2 c3 c4 : Value) (t : TypeId) : Below (w.alloc (.cells #[c0, c1, c2, c3, c4] t)).heap.size (w.alloc (.cells #[c0, c1, c2, c3, c4] t)) (w.alloc (.cells #[c0, c1, c2, c3, c4] t)) := Below.refl _ _

/-- A token that was laid anew is handed back. -/
theorem tok_new {w : World} {fn : Func} {p u v : Tmp} {t : TypeId} (h : fn.results = #[.cell p 72, .tmp u, .tmp v]) {tmps : Array Value} {R : Ending → World → Prop} {v0 v1 v2 v3 v4 : Value}
    (hp : tmps.getD p undef = .pointer (some ⟨w.heap.size, 0, none⟩))
    (g : Below w.heap.size w (w.alloc (.cells #[v0, v1, v2, v3, v4] t)) → R (.returned (.tuple #[.agg #[v0, v1, v2, v3, v4], tmps.getD u undef, tmps.getD v undef])) (w.alloc (.cells #[v0, v1, v2, v3, v4] t))) :
    bodyPost Tryz.prog fn R Exit.ret { tmps := tmps, defers := [] } (w.alloc (.cells #[v0, v1, v2, v3, v4] t)) := by
  obtain ⟨⟨c0, c1, c2, c3, c4⟩, _, b1, _⟩ := cell5 (new5 w v0 v1 v2 v3 v4 t)
  have hr : (w.alloc (.cells #[v0, v1, v2, v3, v4] t)).rangeAt w.heap.size 0 [v0, v1, v2, v3, v4] := by
    intro j v hv
    match j, hv with
    | 0, hv => cases hv; exact c0
    | 1, hv => cases hv; exact c1
    | 2, hv => cases hv; exact c2
    | 3, hv => cases hv; exact c3
    | 4, hv => cases hv; exact c4
  exact bodyPost_ret (results_tok h _ _ w.heap.size [v0, v1, v2, v3, v4] _ hp hr Tryz.underlying72 rfl infoTok) rfl (g b1)

set_option maxRecDepth 100000 in
set_option maxHeartbeats 4000000 in
theorem number_any (s : ByteArray) (hs : s.size ≤ 1073741824) (w : World) : Calls Tryz.prog 58 #[.string s] w fun e w' => Gives (numR s.data.toList) e ∧ Below w.heap.size w w' := by
  have CM := hide (fun W => measure_any s hs W)
  have hle := measN_le s.data.toList
  rw [size_list] at hle
  have HN : Hid (numR s.data.toList = if begP wordB (s.data.toList.drop (measN s.data.toList).2) then .bad 43 else if 4096 < (measN s.data.toList).2 then .bad 2 else .got (measN s.data.toList).1 (s.data.toList.take (measN s.data.toList).2) [] (measN s.data.toList).2) := rfl
  obtain ⟨R, HR⟩ : ∃ R, Hid (numR s.data.toList = R) := ⟨_, rfl⟩
  rw [HR.out] at HN ⊢
  have hk1 : (measN s.data.toList).1 ≤ 100 := by
    unfold measN meas2
    repeat' split
    all_goals (show _ ≤ _; simp)
  clear HR
  generalize (measN s.data.toList).1 = k at *
  generalize (measN s.data.toList).2 = n at *
  obtain ⟨t, ht⟩ : ∃ t, s.extract n s.size = t := ⟨_, rfl⟩
  have hl : t.data.toList = s.data.toList.drop n := by rw [← ht]; exact ext_list s n
  have CB := hide (fun W => begins_any t 16 (by decide) W)
  rw [isK_word, hl] at CB
  have CC := hide (fun W => cut_any s k n hk1 hle hs W)
  clear hl
  cases hb : begP wordB (s.data.toList.drop n)
  · rw [hb] at CB
    by_cases h4 : 4096 < n
    · have HE : Hid (R = .bad 2) := by show _ = _; rw [HN.out, hb, if_neg (by decide), if_pos h4]
      clear HN CC
      go_enter Tryz.func58, Tryz.ntmps58
      go_wp2_with (first | (go_at_call 90; refine (CM.out _).mono ?_; rintro e w1 ⟨rfl, h0⟩; replace h0 := h0.symm; subst h0) | (go_at_call 65; refine (CB.out _).mono ?_; rintro e w1 ⟨rfl, h0⟩; replace h0 := h0.symm; subst h0))
      refine tok_new rfl rfl fun g => ?_
      rw [HE.out]
      exact ⟨rfl, g⟩
    · have HE : Hid (R = .got k (s.data.toList.take n) [] n) := by show _ = _; rw [HN.out, hb, if_neg (by decide), if_neg h4]
      clear HN
      go_enter Tryz.func58, Tryz.ntmps58
      go_wp2_with (first | (go_at_call 90; refine (CM.out _).mono ?_; rintro e w1 ⟨rfl, h0⟩; replace h0 := h0.symm; subst h0) | (go_at_call 65; refine (CB.out _).mono ?_; rintro e w1 ⟨rfl, h0⟩; replace h0 := h0.symm; subst h0) | (go_at_call 88; refine (CC.out _).mono ?_; rintro e w1 ⟨rfl, g1⟩; obtain ⟨⟨c0, c1, c2, c3, c4⟩, ⟨f0, f1, f2, f3, f4⟩, b1, b2⟩ := cell5 g1; clear g1; unfold tokV))
      refine tok_end rfl (some5 ⟨c0, c1, c2, c3, c4⟩) ⟨f0, f1, f2, f3, f4⟩ rfl b1 fun g => ?_
      rw [HE.out]
      exact ⟨rfl, g⟩
  · have HE : Hid (R = .bad 43) := by show _ = _; rw [HN.out, hb]; rfl
    rw [hb] at CB
    clear HN CC
    go_enter Tryz.func58, Tryz.ntmps58
    go_wp2_with (first | (go_at_call 90; refine (CM.out _).mono ?_; rintro e w1 ⟨rfl, h0⟩; replace h0 := h0.symm; subst h0) | (go_at_call 65; refine (CB.out _).mono ?_; rintro e w1 ⟨rfl, h0⟩; replace h0 := h0.symm; subst h0))
    refine tok_new rfl rfl fun g => ?_
    rw [HE.out]
    exact ⟨rfl, g⟩

set_option maxRecDepth 100000 in
set_option maxHeartbeats 4000000 in
theorem blanks_any (s : ByteArray) (hs : s.size ≤ 1073741824) (w : World) : Calls Tryz.prog 56 #[.string s] w fun e w' => Gives (.got 0 [] [] (runP lblankB s.data.toList)) e ∧ Below w.heap.size w w' := by
  have CR := hide (fun W => run_any s 1 (by decide) (by omega) W)
  rw [isK_blank] at CR
  generalize runP lblankB s.data.toList = n at *
  go_enter Tryz.func56, Tryz.ntmps56
  go_wp2_with (go_at_call 85; refine (CR.out _).mono ?_; rintro e w1 ⟨rfl, h0⟩; replace h0 := h0.symm; subst h0)
  refine tok_new rfl rfl fun g => ?_
  exact ⟨rfl, g⟩

set_option maxRecDepth 100000 in
set_option maxHeartbeats 4000000 in
theorem single_any (s : ByteArray) (h1 : 1 ≤ s.size) (hs : s.size ≤ 1073741824) (w : World) : Calls Tryz.prog 61 #[.string s] w fun e w' => Gives (cutR 1 s.data.toList 1) e ∧ Below w.heap.size w w' := by
  have CC := hide (fun W => cut_any s 1 1 (by decide) h1 hs W)
  go_enter Tryz.func61, Tryz.ntmps61
  go_wp2_with (go_at_call 88; refine (CC.out _).mono ?_; rintro e w1 ⟨rfl, g1⟩; obtain ⟨⟨c0, c1, c2, c3, c4⟩, ⟨f0, f1, f2, f3, f4⟩, b1, b2⟩ := cell5 g1; clear g1; unfold tokV)
  refine tok_end rfl (some5 ⟨c0, c1, c2, c3, c4⟩) ⟨f0, f1, f2, f3, f4⟩ rfl b1 fun g => ?_
  exact ⟨rfl, g⟩

set_option maxRecDepth 100000 in
set_option maxHeartbeats 4000000 in
theorem points_any (s : ByteArray) (hs : s.size ≤ 1073741824) (w : World) : Calls Tryz.prog 62 #[.string s] w fun e w' => Gives (poiR s.data.toList) e ∧ Below w.heap.size w w' := by
  have CB := hide (fun W => Tryz.strings_HasPrefix s ⟨#[46, 46, 46]⟩ W)
  have e0 : Lib.hasPrefix s.data.toList (ByteArray.mk #[46, 46, 46]).data.toList = ([46, 46, 46] : List UInt8).isPrefixOf s.data.toList := rfl
  simp only [e0] at CB
  cases hb : ([46, 46, 46] : List UInt8).isPrefixOf s.data.toList
  · have HE : Hid (poiR s.data.toList = .bad 40) := by show _ = _; unfold poiR; rw [hb]; rfl
    rw [hb] at CB
    rw [HE.out]
    clear e0 HE
    go_enter Tryz.func62, Tryz.ntmps62
    go_wp2_with (go_at_call 92; refine (CB.out _).mono ?_; rintro e w1 ⟨rfl, h0⟩; replace h0 := h0.symm; subst h0)
    refine tok_new rfl rfl fun g => ?_
    exact ⟨rfl, g⟩
  · have HE : Hid (poiR s.data.toList = cutR 1 s.data.toList 3) := by show _ = _; unfold poiR; rw [hb]; rfl
    have h3 : 3 ≤ s.size := by
      have := (List.isPrefixOf_iff_prefix.1 hb).length_le
      rw [size_list] at this
      simpa using this
    have CC := hide (fun W => cut_any s 1 3 (by decide) h3 hs W)
    rw [hb] at CB
    rw [HE.out]
    clear e0 HE
    go_enter Tryz.func62, Tryz.ntmps62
    go_wp2_with (first | (go_at_call 92; refine (CB.out _).mono ?_; rintro e w1 ⟨rfl, h0⟩; replace h0 := h0.symm; subst h0) | (go_at_call 88; refine (CC.out _).mono ?_; rintro e w1 ⟨rfl, g1⟩; obtain ⟨⟨c0, c1, c2, c3, c4⟩, ⟨f0, f1, f2, f3, f4⟩, b1, b2⟩ := cell5 g1; clear g1; unfold tokV))
    refine tok_end rfl (some5 ⟨c0, c1, c2, c3, c4⟩) ⟨f0, f1, f2, f3, f4⟩ rfl b1 fun g => ?_
    exact ⟨rfl, g⟩

set_option maxRecDepth 100000 in
set_option maxHeartbeats 4000000 in
theorem variable_any (s : ByteArray) (hs : s.size ≤ 1073741824) (w : World) : Calls Tryz.prog 63 #[.string s] w fun e w' => Gives (cutR 3 s.data.toList (runP wordB s.data.toList)) e ∧ Below w.heap.size w w' := by
  have CR := hide (fun W => run_any s 16 (by decide) (by omega) W)
  rw [isK_word] at CR
  have hle := runP_le wordB s.data.toList
  rw [size_list] at hle
  generalize runP wordB s.data.toList = n at *
  have CC := hide (fun W => cut_any s 3 n (by decide) hle hs W)
  go_enter Tryz.func63, Tryz.ntmps63
  go_wp2_with (first | (go_at_call 85; refine (CR.out _).mono ?_; rintro e w1 ⟨rfl, h0⟩; replace h0 := h0.symm; subst h0) | (go_at_call 88; refine (CC.out _).mono ?_; rintro e w1 ⟨rfl, g1⟩; obtain ⟨⟨c0, c1, c2, c3, c4⟩, ⟨f0, f1, f2, f3, f4⟩, b1, b2⟩ := cell5 g1; clear g1; unfold tokV))
  refine tok_end rfl (some5 ⟨c0, c1, c2, c3, c4⟩) ⟨f0, f1, f2, f3, f4⟩ rfl b1 fun g => ?_
  exact ⟨rfl, g⟩
end Go.Proofs.YtbcmpacmoofdkaaGreatDoor
/- The program's scanner: comments. -/
namespace Go.Proofs.YtbcmpacmoofdkaaGreatDoor
open Go.ChangeShapes Go.WideShapes Go.ChangeAt Go.RowKit

theorem dstr_yes {t : ByteArray} {l : List UInt8} (h : t = ⟨l.toArray⟩) : (t.toList == l) = true := by
  rw [h, ByteArray.toList_eq]; simp
theorem dstr_no {t : ByteArray} {l : List UInt8} (h : ¬ t = ⟨l.toArray⟩) : (t.toList == l) = false := by
  rw [ByteArray.toList_eq, beq_eq_false_iff_ne]
  intro e
  apply h
  apply ByteArray.ext
  apply Array.ext'
  rw [e]
theorem dtwo_at (s : ByteArray) (i : Nat) (h : i + 1 < s.size) : s.extract i (i + 2) = ⟨#[s[i]'(by omega), s[i + 1]'h]⟩ := by
  apply ByteArray.ext
  apply Array.ext'
  have : (s.extract i (i + 2)).data.toList = (s.data.toList.drop i).take 2 := by simp [ByteArray.data_extract]
  rw [this, drop_at s i (by omega), drop_at s (i + 1) h]
  rfl
theorem two_eq {a b x y : UInt8} : (⟨#[a, b]⟩ : ByteArray) = ⟨#[x, y]⟩ ↔ a.toNat = x.toNat ∧ b.toNat = y.toNat := by
  constructor
  · intro e
    have e1 := congrArg (·.data.toList) e
    simp at e1
    rw [e1.1, e1.2]
    exact ⟨rfl, rfl⟩
  · rintro ⟨e1, e2⟩
    rw [UInt8.toNat_inj.1 e1, UInt8.toNat_inj.1 e2]
theorem comG_short (f i : Nat) (o : Int) (l : List UInt8) (h : l.length ≤ 1) : comG f i o l = 0 := by
  match f, l, h with
  | 0, _, _ => unfold comG; rfl
  | _ + 1, [], _ => rfl
  | _ + 1, [_], _ => rfl
  | _ + 1, _ :: _ :: _, h => simp at h

/-- A comment's rest, from a place on. -/
def ComAt (T : Nat) (s : ByteArray) (i : Nat) (o : Int) : Prop := ∃ f, (s.data.toList.drop i).length ≤ f ∧ T = comG f i o (s.data.toList.drop i)
theorem ComAt.step {T : Nat} {s : ByteArray} {i : Nat} {o : Int} (h : ComAt T s i o) (h1 : i + 1 < s.size) {t : ByteArray} (ht : s.extract i (i + 2) = t) :
    (t = ⟨#[40, 42]⟩ → if o + 1 = 0 then T = i + 2 else ComAt T s (i + 2) (o + 1)) ∧ (¬ t = ⟨#[40, 42]⟩ → t = ⟨#[42, 41]⟩ → if o - 1 = 0 then T = i + 2 else ComAt T s (i + 2) (o - 1))
    ∧ (¬ t = ⟨#[40, 42]⟩ → ¬ t = ⟨#[42, 41]⟩ → ComAt T s (i + 1) o) := by
  obtain ⟨f, hf, hT⟩ := h
  have d1 := drop_at s i (by omega)
  have d2 := drop_at s (i + 1) h1
  rw [d1, d2] at hf hT
  obtain ⟨f, rfl⟩ : ∃ g, f = g + 1 := ⟨f - 1, by simp at hf; omega⟩
  simp only [List.length_cons] at hf
  unfold comG at hT
  rw [dtwo_at s i h1] at ht
  have q1 : t = ⟨#[40, 42]⟩ ↔ ((s[i]'(by omega)).toNat = 40 ∧ (s[i + 1]'h1).toNat = 42) := by rw [← ht]; exact two_eq
  have q2 : t = ⟨#[42, 41]⟩ ↔ ((s[i]'(by omega)).toNat = 42 ∧ (s[i + 1]'h1).toNat = 41) := by rw [← ht]; exact two_eq
  refine ⟨fun x => ?_, fun x y => ?_, fun x y => ?_⟩
  · rw [if_pos (q1.1 x)] at hT
    split
    · rename_i z; rw [if_pos z] at hT; exact hT
    · rename_i z; rw [if_neg z] at hT; exact ⟨f, by show (s.data.toList.drop (i + 1 + 1)).length ≤ f; omega, hT⟩
  · rw [if_neg (fun c => x (q1.2 c)), if_pos (q2.1 y)] at hT
    split
    · rename_i z; rw [if_pos z] at hT; exact hT
    · rename_i z; rw [if_neg z] at hT; exact ⟨f, by show (s.data.toList.drop (i + 1 + 1)).length ≤ f; omega, hT⟩
  · rw [if_neg (fun c => x (q1.2 c)), if_neg (fun c => y (q2.2 c))] at hT
    exact ⟨f, by rw [d2, List.length_cons]; omega, by rw [d2]; exact hT⟩

set_option maxRecDepth 100000 in
set_option maxHeartbeats 4000000 in
theorem dcomment_any (s : ByteArray) (hs : s.size ≤ 1073741824) (w : World) : Calls Tryz.prog 93 #[.string s] w fun e w' => e = .returned (.int .i64 (comL s.data.toList : Nat)) ∧ w' = w := by
  obtain ⟨T, HT⟩ : ∃ T, Hid (comL s.data.toList = T) := ⟨_, rfl⟩
  rw [HT.out]
  have HS : Hid (ComAt T s 0 0) := ⟨s.data.toList.length, by simp, HT.out.symm⟩
  clear HT
  go_enter Tryz.func93, Tryz.ntmps93
  go_wp2
  go_loop [3, 4] (fun vd vi => ∃ (i : Nat) (d : Int), vi = .int .i64 (i : Int) ∧ vd = .int .i64 d ∧ i ≤ s.size ∧ -(i : Int) ≤ d ∧ d ≤ (i : Int) ∧ Hid (ComAt T s i d)) (fun _ vi => s.size - (intOf vi).toNat)
  case atStart => exact ⟨0, 0, rfl, rfl, Nat.zero_le _, by omega, by omega, HS⟩
  case round =>
    obtain ⟨i, d, rfl, rfl, hi, hd1, hd2, HI⟩ := hrel
    clear HS
    by_cases h1 : i + 1 < s.size
    · have h1i : (i : Int) + 1 < (s.size : Int) := by omega
      obtain ⟨t, ht⟩ : ∃ t, s.extract i (i + 2) = t := ⟨_, rfl⟩
      have ST := hide (HI.out.step h1 ht)
      obtain ⟨j, hj⟩ : ∃ j, i + 2 = j := ⟨_, rfl⟩
      have hji : (i : Int) + 2 = (j : Int) := by omega
      have hjs : j ≤ s.size := by omega
      have hij : i ≤ j := by omega
      rw [hj] at ht ST
      have hj1 : (i : Int) + 1 + 1 = (j : Int) := by omega
      clear HI
      by_cases q1 : t = ⟨#[40, 42]⟩
      · have g1 := dstr_yes (l := [40, 42]) q1
        by_cases hz : d + 1 = 0
        · have HE : Hid (T = j) := by have := ST.out.1 q1; rw [if_pos hz] at this; exact this
          have g3 : (d + 1 == 0) = true := by simp; exact hz
          clear ST hz q1 hj
          go_wp2
          go_ret
          exact ⟨by rw [HE.out]; rfl, rfl⟩
        · have HE : Hid (ComAt T s j (d + 1)) := by have := ST.out.1 q1; rw [if_neg hz] at this; exact this
          have g3 : (d + 1 == 0) = false := by simp; exact hz
          clear ST hz q1
          go_wp2
          go_round
          case rel => exact ⟨j, d + 1, rfl, rfl, hjs, by omega, by omega, HE⟩
          case measure => simp [intOf]; omega
      · by_cases q2 : t = ⟨#[42, 41]⟩
        · have g1 := dstr_no (l := [40, 42]) q1
          have g2 := dstr_yes (l := [42, 41]) q2
          by_cases hz : d - 1 = 0
          · have HE : Hid (T = j) := by have := ST.out.2.1 q1 q2; rw [if_pos hz] at this; exact this
            have g3 : (d - 1 == 0) = true := by simp; exact hz
            clear ST hz q1 q2 hj
            go_wp2
            go_ret
            exact ⟨by rw [HE.out]; rfl, rfl⟩
          · have HE : Hid (ComAt T s j (d - 1)) := by have := ST.out.2.1 q1 q2; rw [if_neg hz] at this; exact this
            have g3 : (d - 1 == 0) = false := by simp; exact hz
            clear ST hz q1 q2
            go_wp2
            go_round
            case rel => exact ⟨j, d - 1, rfl, rfl, hjs, by omega, by omega, HE⟩
            case measure => simp [intOf]; omega
        · have HE : Hid (ComAt T s (i + 1) d) := ST.out.2.2 q1 q2
          have g1 := dstr_no (l := [40, 42]) q1
          have g2 := dstr_no (l := [42, 41]) q2
          clear ST q1 q2
          go_wp2
          go_round
          case rel => exact ⟨i + 1, d, by go_num, rfl, by omega, by omega, by omega, HE⟩
          case measure => simp [intOf]; omega
    · have HE : Hid (T = 0) := by
        obtain ⟨f, hf, hT⟩ := HI.out
        rw [comG_short f i d _ (by rw [List.length_drop, size_list]; omega)] at hT
        exact hT
      have h1i : ¬ ((i : Int) + 1 < (s.size : Int)) := by omega
      clear HI
      go_wp2
      go_ret
      exact ⟨by rw [HE.out]; rfl, rfl⟩

set_option maxRecDepth 100000 in
set_option maxHeartbeats 4000000 in
theorem parenthesis_any (s : ByteArray) (h1 : 1 ≤ s.size) (hs : s.size ≤ 1073741824) (w : World) : Calls Tryz.prog 60 #[.string s] w fun e w' => Gives (parR s.data.toList) e ∧ Below w.heap.size w w' := by
  have CB := hide (fun W => Tryz.strings_HasPrefix s ⟨#[40, 42]⟩ W)
  have e0 : Lib.hasPrefix s.data.toList (ByteArray.mk #[40, 42]).data.toList = ([40, 42] : List UInt8).isPrefixOf s.data.toList := rfl
  simp only [e0] at CB
  have CC := hide (fun W => dcomment_any s hs W)
  have CS := hide (fun W => single_any s h1 hs W)
  have HN : Hid (parR s.data.toList = if ([40, 42] : List UInt8).isPrefixOf s.data.toList then (if comL s.data.toList = 0 then .bad 41 else .got 0 [] [] (comL s.data.toList)) else cutR 1 s.data.toList 1) := rfl
  obtain ⟨R, HR⟩ : ∃ R, Hid (parR s.data.toList = R) := ⟨_, rfl⟩
  rw [HR.out] at HN ⊢
  clear HR e0
  generalize comL s.data.toList = n at *
  cases hb : ([40, 42] : List UInt8).isPrefixOf s.data.toList
  · rw [hb] at CB
    have HE : Hid (R = cutR 1 s.data.toList 1) := by show _ = _; rw [HN.out, hb]; rfl
    clear HN CC
    go_enter Tryz.func60, Tryz.ntmps60
    go_wp2_with (first | (go_at_call 92; refine (CB.out _).mono ?_; rintro e w1 ⟨rfl, h0⟩; replace h0 := h0.symm; subst h0) | (go_at_call 61; refine (CS.out _).mono ?_; rintro e w1 ⟨hg, g1⟩; (have hg2 : e = _ := hg); subst hg2; clear hg; obtain ⟨⟨c0, c1, c2, c3, c4⟩, ⟨f0, f1, f2, f3, f4⟩, b1, b2⟩ := cell5 g1; clear g1; unfold tokV))
    refine tok_end rfl (some5 ⟨c0, c1, c2, c3, c4⟩) ⟨f0, f1, f2, f3, f4⟩ rfl b1 fun g => ?_
    rw [HE.out]
    exact ⟨rfl, g⟩
  · rw [hb] at CB
    by_cases hz : n = 0
    · have HE : Hid (R = .bad 41) := by show _ = _; rw [HN.out, hb, if_pos rfl, if_pos hz]
      subst hz
      clear HN CS
      go_enter Tryz.func60, Tryz.ntmps60
      go_wp2_with (first | (go_at_call 92; refine (CB.out _).mono ?_; rintro e w1 ⟨rfl, h0⟩; replace h0 := h0.symm; subst h0) | (go_at_call 93; refine (CC.out _).mono ?_; rintro e w1 ⟨rfl, h0⟩; replace h0 := h0.symm; subst h0))
      refine tok_new rfl rfl fun g => ?_
      rw [HE.out]
      exact ⟨rfl, g⟩
    · have HE : Hid (R = .got 0 [] [] n) := by show _ = _; rw [HN.out, hb, if_pos rfl, if_neg hz]
      have g0 : ((n : Int) == 0) = false := by simp; omega
      clear HN CS hz
      go_enter Tryz.func60, Tryz.ntmps60
      go_wp2_with (first | (go_at_call 92; refine (CB.out _).mono ?_; rintro e w1 ⟨rfl, h0⟩; replace h0 := h0.symm; subst h0) | (go_at_call 93; refine (CC.out _).mono ?_; rintro e w1 ⟨rfl, h0⟩; replace h0 := h0.symm; subst h0))
      refine tok_new rfl rfl fun g => ?_
      rw [HE.out]
      exact ⟨rfl, g⟩
end Go.Proofs.YtbcmpacmoofdkaaGreatDoor
