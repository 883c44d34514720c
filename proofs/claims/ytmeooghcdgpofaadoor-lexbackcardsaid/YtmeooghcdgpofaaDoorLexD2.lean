/- The program's scanner: names, numbers. -/
import Derived.Test.YtmeooghcdgpofaaDoorProg
import Derived.Test.YtmeooghcdgpofaaDoorLexD1
import Derived.Test.YtmeooghcdgpofaaDoorShelf
import Derived.WalkKit
import Derived.ProofKit
import Derived.OpenShut
import Derived.Below
import Derived.WalkLawsBesides
import Derived.OwnWalk
import Derived.BigQuiet
import Derived.Lib.IndexBytes
namespace Go.Proofs.YtmeooghcdgpofaaDoor
open Go.ChangeShapes Go.WideShapes Go.ChangeAt Go.RowKit

set_option maxRecDepth 100000 in
theorem name_any (s : ByteArray) (hs : s.size ≤ 281474976710656) (w : World) : Calls Tryd.prog 39 #[.string s] w fun e w' => e = .returned (.int .i64 (nameN s.data.toList : Nat)) ∧ w' = w := by
  have CB := hide (fun W => begins_any s 2 (by decide) W)
  have C1 := hide (fun W => run_any s 16 (by decide) hs W)
  have C2 := hide (fun W => run_any s 32 (by decide) hs W)
  rw [isK_letter] at CB
  rw [isK_word] at C1
  rw [isK_sign] at C2
  have HN : Hid (nameN s.data.toList = if begP letterB s.data.toList then runP wordB s.data.toList else runP signB s.data.toList) := rfl
  rw [HN.out]
  clear HN
  cases hb : begP letterB s.data.toList
  · rw [hb] at CB
    go_enter Tryd.func39, Tryd.ntmps39
    go_wp2_with (first | (go_at_call 32; refine (CB.out _).mono ?_; rintro e w1 ⟨rfl, rfl⟩) | (go_at_call 38; refine (C2.out _).mono ?_; rintro e w1 ⟨rfl, rfl⟩))
    go_ret
    exact ⟨rfl, rfl⟩
  · rw [hb] at CB
    go_enter Tryd.func39, Tryd.ntmps39
    go_wp2_with (first | (go_at_call 32; refine (CB.out _).mono ?_; rintro e w1 ⟨rfl, rfl⟩) | (go_at_call 38; refine (C1.out _).mono ?_; rintro e w1 ⟨rfl, rfl⟩))
    go_ret
    exact ⟨rfl, rfl⟩

set_option maxRecDepth 100000 in
theorem tilde_any (s : ByteArray) (w : World) : Calls Tryd.prog 54 #[.string s] w fun e w' => e = .returned (.int .i64 (tildeN s.data.toList : Nat)) ∧ w' = w := by
  have CB := hide (fun W => Tryd.strings_HasPrefix s ⟨#[126]⟩ W)
  have HN : Hid (tildeN s.data.toList = if ([126] : List UInt8).isPrefixOf s.data.toList then 1 else 0) := rfl
  have e0 : Lib.hasPrefix s.data.toList (ByteArray.mk #[126]).data.toList = ([126] : List UInt8).isPrefixOf s.data.toList := rfl
  rw [HN.out]
  simp only [e0] at CB
  clear HN e0
  cases hb : ([126] : List UInt8).isPrefixOf s.data.toList
  · rw [hb] at CB
    go_enter Tryd.func54, Tryd.ntmps54
    go_wp2_with (go_at_call 45; refine (CB.out _).mono ?_; rintro e w1 ⟨rfl, rfl⟩)
    go_ret
    exact ⟨rfl, rfl⟩
  · rw [hb] at CB
    go_enter Tryd.func54, Tryd.ntmps54
    go_wp2_with (go_at_call 45; refine (CB.out _).mono ?_; rintro e w1 ⟨rfl, rfl⟩)
    go_ret
    exact ⟨rfl, rfl⟩

theorem trim_list {l p : List UInt8} (h : p.isPrefixOf l = true) : Lib.trimPrefix l p = l.drop p.length := by
  unfold Lib.trimPrefix Lib.hasPrefix
  rw [if_pos h]

set_option maxRecDepth 100000 in
set_option maxHeartbeats 4000000 in
theorem prefixed_any (s p : ByteArray) (k : Nat) (hk : k ≤ 65535) (hs : s.size ≤ 281474976710656) (hp : p.size ≤ 100) (w : World) : Calls Tryd.prog 55 #[.string s, .string p, .int .u16 (k : Int)] w fun e w' => e = .returned (.int .i64 (preN p.data.toList (isK k) s.data.toList : Nat)) ∧ w' = w := by
  have CP := hide (fun W => Tryd.strings_CutPrefix s p W)
  have e0 : Lib.hasPrefix s.data.toList p.data.toList = p.data.toList.isPrefixOf s.data.toList := rfl
  simp only [e0] at CP
  have HN : Hid (preN p.data.toList (isK k) s.data.toList = if p.data.toList.isPrefixOf s.data.toList && begP (isK k) (s.data.toList.drop p.data.toList.length) then p.data.toList.length + runP (isK k) (s.data.toList.drop p.data.toList.length) else 0) := rfl
  obtain ⟨T, HT⟩ : ∃ T, Hid (preN p.data.toList (isK k) s.data.toList = T) := ⟨_, rfl⟩
  rw [HT.out] at HN ⊢
  cases hb : p.data.toList.isPrefixOf s.data.toList
  · have h0 : T = 0 := by rw [HN.out, hb]; rfl
    subst h0
    rw [hb] at CP
    clear HN HT
    generalize ByteArray.mk (Lib.trimPrefix s.data.toList p.data.toList).toArray = t at CP
    go_enter Tryd.func55, Tryd.ntmps55
    go_wp2_with (go_at_call 60; refine (CP.out _).mono ?_; rintro e w1 ⟨rfl, rfl⟩)
    go_ret
    exact ⟨rfl, rfl⟩
  · obtain ⟨t, ht⟩ : ∃ t, ByteArray.mk (Lib.trimPrefix s.data.toList p.data.toList).toArray = t := ⟨_, rfl⟩
    have htl : t.data.toList = s.data.toList.drop p.data.toList.length := by rw [← ht, trim_list hb]
    have hts : t.size ≤ 281474976710656 := by
      have := congrArg List.length htl
      rw [size_list, List.length_drop, size_list] at this
      omega
    rw [hb, ht] at CP
    have CB := hide (fun W => begins_any t k hk W)
    have CR := hide (fun W => run_any t k hk hts W)
    have HN2 : Hid (T = if begP (isK k) t.data.toList then p.size + runP (isK k) t.data.toList else 0) := by
      show _ = _; rw [HN.out, hb, htl, size_list]; rfl
    have hrl : runP (isK k) t.data.toList ≤ t.size := by have := runP_le (isK k) t.data.toList; rwa [size_list] at this
    clear HN HT ht htl
    obtain ⟨R, hR⟩ : ∃ R, runP (isK k) t.data.toList = R := ⟨_, rfl⟩
    rw [hR] at CR HN2 hrl
    clear hR
    cases hb2 : begP (isK k) t.data.toList
    · have h0 : T = 0 := by rw [HN2.out, hb2]; rfl
      subst h0
      rw [hb2] at CB
      clear HN2
      go_enter Tryd.func55, Tryd.ntmps55
      go_wp2_with (first | (go_at_call 60; refine (CP.out _).mono ?_; rintro e w1 ⟨rfl, rfl⟩) | (go_at_call 32; refine (CB.out _).mono ?_; rintro e w1 ⟨rfl, rfl⟩))
      go_ret
      exact ⟨rfl, rfl⟩
    · have h0 : T = p.size + R := by rw [HN2.out, hb2]; rfl
      rw [hb2] at CB
      clear HN2
      go_enter Tryd.func55, Tryd.ntmps55
      go_wp2_with (first | (go_at_call 60; refine (CP.out _).mono ?_; rintro e w1 ⟨rfl, rfl⟩) | (go_at_call 32; refine (CB.out _).mono ?_; rintro e w1 ⟨rfl, rfl⟩) | (go_at_call 38; refine (CR.out _).mono ?_; rintro e w1 ⟨rfl, rfl⟩))
      go_ret
      exact ⟨ret_int (by omega), rfl⟩
theorem prefixed_lit (s p : ByteArray) (l : List UInt8) (hl : p.data.toList = l) (P : UInt8 → Bool) (k : Nat) (hP : isK k = P) (hk : k ≤ 65535) (hs : s.size ≤ 281474976710656) (hp : p.size ≤ 100) (w : World) : Calls Tryd.prog 55 #[.string s, .string p, .int .u16 (k : Int)] w fun e w' => e = .returned (.int .i64 (preN l P s.data.toList : Nat)) ∧ w' = w := by
  subst hl hP
  exact prefixed_any s p k hk hs hp w

def altN (a b c d k : Nat) : Nat :=
  if k = 0 then (if 0 < a then a else if 0 < b then b else if 0 < c then c else if 0 < d then d else 0)
  else if k = 1 then (if 0 < b then b else if 0 < c then c else if 0 < d then d else 0)
  else if k = 2 then (if 0 < c then c else if 0 < d then d else 0) else if k = 3 then (if 0 < d then d else 0) else 0
set_option maxRecDepth 100000 in
set_option maxHeartbeats 4000000 in
theorem exponent_any (s : ByteArray) (hs : s.size ≤ 281474976710656) (w : World) : Calls Tryd.prog 56 #[.string s] w fun e w' => e = .returned (.int .i64 (expN s.data.toList : Nat)) ∧ w' = w := by
  have C1 := hide (fun W => prefixed_lit s ⟨#[69]⟩ [69] rfl digitB 4 isK_digit (by decide) hs (by decide) W)
  have C2 := hide (fun W => prefixed_lit s ⟨#[101]⟩ [101] rfl digitB 4 isK_digit (by decide) hs (by decide) W)
  have C3 := hide (fun W => prefixed_lit s ⟨#[69, 126]⟩ [69, 126] rfl digitB 4 isK_digit (by decide) hs (by decide) W)
  have C4 := hide (fun W => prefixed_lit s ⟨#[101, 126]⟩ [101, 126] rfl digitB 4 isK_digit (by decide) hs (by decide) W)
  have HN : Hid (expN s.data.toList = if 0 < preN [69] digitB s.data.toList then preN [69] digitB s.data.toList else if 0 < preN [101] digitB s.data.toList then preN [101] digitB s.data.toList
    else if 0 < preN [69, 126] digitB s.data.toList then preN [69, 126] digitB s.data.toList else preN [101, 126] digitB s.data.toList) := rfl
  obtain ⟨T, HT⟩ : ∃ T, Hid (expN s.data.toList = T) := ⟨_, rfl⟩
  rw [HT.out] at HN ⊢
  clear HT
  generalize preN [69] digitB s.data.toList = a at *
  generalize preN [101] digitB s.data.toList = b at *
  generalize preN [69, 126] digitB s.data.toList = c at *
  generalize preN [101, 126] digitB s.data.toList = d at *
  have i0 : ∀ w, (Instr.index 89 (.agg #[.string ⟨#[69]⟩, .string ⟨#[101]⟩, .string ⟨#[69, 126]⟩, .string ⟨#[101, 126]⟩]) (.int .i64 0)).run Tryd.prog w = .ok (.string ⟨#[69]⟩) w := fun _ => by kernel_rfl
  have i1 : ∀ w, (Instr.index 89 (.agg #[.string ⟨#[69]⟩, .string ⟨#[101]⟩, .string ⟨#[69, 126]⟩, .string ⟨#[101, 126]⟩]) (.int .i64 1)).run Tryd.prog w = .ok (.string ⟨#[101]⟩) w := fun _ => by kernel_rfl
  have i2 : ∀ w, (Instr.index 89 (.agg #[.string ⟨#[69]⟩, .string ⟨#[101]⟩, .string ⟨#[69, 126]⟩, .string ⟨#[101, 126]⟩]) (.int .i64 2)).run Tryd.prog w = .ok (.string ⟨#[69, 126]⟩) w := fun _ => by kernel_rfl
  have i3 : ∀ w, (Instr.index 89 (.agg #[.string ⟨#[69]⟩, .string ⟨#[101]⟩, .string ⟨#[69, 126]⟩, .string ⟨#[101, 126]⟩]) (.int .i64 3)).run Tryd.prog w = .ok (.string ⟨#[101, 126]⟩) w := fun _ => by kernel_rfl
  go_enter Tryd.func56, Tryd.ntmps56
  go_wp2
  have HN2 : Hid (T = altN a b c d 0) := by
    show _ = _
    rw [HN.out]
    unfold altN
    simp only [if_true]
    repeat' split
    all_goals omega
  clear HN
  go_loop [7] (fun vi => ∃ k : Nat, vi = .int .i64 (k : Int) ∧ k ≤ 4 ∧ Hid (T = altN a b c d k)) (fun vi => 5 - (intOf vi).toNat)
  case atStart => exact ⟨0, rfl, by decide, HN2⟩
  case round =>
    obtain ⟨k, rfl, hk, HI⟩ := hrel
    clear HN2
    have cs : k = 0 ∨ k = 1 ∨ k = 2 ∨ k = 3 ∨ k = 4 := by omega
    rcases cs with rfl | rfl | rfl | rfl | rfl
    case inr.inr.inr.inr =>
      have h0 : T = 0 := HI.out
      subst h0
      go_wp2
      go_ret
      exact ⟨rfl, rfl⟩
    case inl =>
      by_cases hx : 0 < a
      · have h0 : T = a := by rw [HI.out]; unfold altN; simp [hx]
        subst h0
        clear HI
        go_wp2_with (go_at_call 55; refine (C1.out _).mono ?_; rintro e w1 ⟨rfl, h0⟩; replace h0 := h0.symm; subst h0)
        go_ret
        exact ⟨rfl, rfl⟩
      · have h0 : Hid (T = altN a b c d 1) := by show _ = _; rw [HI.out]; unfold altN; simp [hx]
        obtain rfl : a = 0 := by omega
        clear HI
        go_wp2_with (go_at_call 55; refine (C1.out _).mono ?_; rintro e w1 ⟨rfl, h0⟩; replace h0 := h0.symm; subst h0)
        go_round
        case rel => exact ⟨1, rfl, by decide, h0⟩
        case measure => simp [intOf]
    case inr.inl =>
      by_cases hx : 0 < b
      · have h0 : T = b := by rw [HI.out]; unfold altN; simp [hx]
        subst h0
        clear HI
        go_wp2_with (go_at_call 55; refine (C2.out _).mono ?_; rintro e w1 ⟨rfl, h0⟩; replace h0 := h0.symm; subst h0)
        go_ret
        exact ⟨rfl, rfl⟩
      · have h0 : Hid (T = altN a b c d 2) := by show _ = _; rw [HI.out]; unfold altN; simp [hx]
        obtain rfl : b = 0 := by omega
        clear HI
        go_wp2_with (go_at_call 55; refine (C2.out _).mono ?_; rintro e w1 ⟨rfl, h0⟩; replace h0 := h0.symm; subst h0)
        go_round
        case rel => exact ⟨2, rfl, by decide, h0⟩
        case measure => simp [intOf]
    case inr.inr.inl =>
      by_cases hx : 0 < c
      · have h0 : T = c := by rw [HI.out]; unfold altN; simp [hx]
        subst h0
        clear HI
        go_wp2_with (go_at_call 55; refine (C3.out _).mono ?_; rintro e w1 ⟨rfl, h0⟩; replace h0 := h0.symm; subst h0)
        go_ret
        exact ⟨rfl, rfl⟩
      · have h0 : Hid (T = altN a b c d 3) := by show _ = _; rw [HI.out]; unfold altN; simp [hx]
        obtain rfl : c = 0 := by omega
        clear HI
        go_wp2_with (go_at_call 55; refine (C3.out _).mono ?_; rintro e w1 ⟨rfl, h0⟩; replace h0 := h0.symm; subst h0)
        go_round
        case rel => exact ⟨3, rfl, by decide, h0⟩
        case measure => simp [intOf]
    case inr.inr.inr.inl =>
      by_cases hx : 0 < d
      · have h0 : T = d := by rw [HI.out]; unfold altN; simp [hx]
        subst h0
        clear HI
        go_wp2_with (go_at_call 55; refine (C4.out _).mono ?_; rintro e w1 ⟨rfl, h0⟩; replace h0 := h0.symm; subst h0)
        go_ret
        exact ⟨rfl, rfl⟩
      · have h0 : Hid (T = altN a b c d 4) := by show _ = _; rw [HI.out]; unfold altN; simp [hx]
        obtain rfl : d = 0 := by omega
        clear HI
        go_wp2_with (go_at_call 55; refine (C4.out _).mono ?_; rintro e w1 ⟨rfl, h0⟩; replace h0 := h0.symm; subst h0)
        go_round
        case rel => exact ⟨4, rfl, by decide, h0⟩
        case measure => simp [intOf]
end Go.Proofs.YtmeooghcdgpofaaDoor
