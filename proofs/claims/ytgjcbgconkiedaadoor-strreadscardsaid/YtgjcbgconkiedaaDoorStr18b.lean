/- The document's own reader of an escape, by the first byte. -/
import Derived.Test.YtgjcbgconkiedaaDoorProg
import Derived.Test.YtgjcbgconkiedaaDoorStr13
import Derived.Test.YtgjcbgconkiedaaDoorStr18
import Derived.WalkKit
import Derived.ProofKit
import Derived.OpenShut
import Derived.Below
import Derived.WalkLawsBesides
import Derived.OwnWalk
import Derived.Lib.IndexBytes
namespace Go.Proofs.YtgjcbgconkiedaaDoor
open Go.ChangeShapes Go.WideShapes Go.ChangeAt Go.RowKit
set_option linter.unusedVariables false

set_option maxRecDepth 100000 in
set_option maxHeartbeats 8000000 in
theorem resc_low (s : ByteArray) (p n : Nat) (w : World) (x : Int) (k : Nat) (hx : escP (s.data.toList.drop p) = (x, k)) (hs : s.size ≤ 281474976710656) (hp : p < s.size) (hn : (s[p]'hp).toNat = n) (h1 : n < 48) (h2 : n ≠ 34) : Calls Tryd.prog 34 #[.string s, .int .i64 (p : Int)] w fun e w' => e = .returned (.tuple #[.int .i64 x, .int .i64 (k : Int)]) ∧ w' = w := by
  have hd := drop_at s p hp
  have hn2 : n < 256 := by rw [← hn]; exact (s[p]'hp).toNat_lt
  rw [hd, escP_rest _ _ n hn (by omega) (by omega) (by omega), ← hd] at hx
  obtain ⟨rfl, hk⟩ := Prod.mk.inj hx
  have HG := hide hk
  obtain ⟨T, HT⟩ : ∃ T, Hid (blanksN s p = T) := ⟨_, rfl⟩
  have g34 : ((n : Int) == 34) = false := by simp; omega
  have g92 : ((n : Int) == 92) = false := by simp; omega
  have g94 : ((n : Int) == 94) = false := by simp; omega
  have g117 : ((n : Int) == 117) = false := by simp; omega
  have g48 : ¬ (48 ≤ n) := by omega
  clear hx hd hk
  have z0 : ((ByteArray.mk #[97, 98, 116, 110, 118, 102, 114])[0]'(by decide)).toNat = 97 := rfl
  have f97 : ((97 : Int) == (n : Int)) = false := by simp; omega
  have z1 : ((ByteArray.mk #[97, 98, 116, 110, 118, 102, 114])[1]'(by decide)).toNat = 98 := rfl
  have f98 : ((98 : Int) == (n : Int)) = false := by simp; omega
  have z2 : ((ByteArray.mk #[97, 98, 116, 110, 118, 102, 114])[2]'(by decide)).toNat = 116 := rfl
  have f116 : ((116 : Int) == (n : Int)) = false := by simp; omega
  have z3 : ((ByteArray.mk #[97, 98, 116, 110, 118, 102, 114])[3]'(by decide)).toNat = 110 := rfl
  have f110 : ((110 : Int) == (n : Int)) = false := by simp; omega
  have z4 : ((ByteArray.mk #[97, 98, 116, 110, 118, 102, 114])[4]'(by decide)).toNat = 118 := rfl
  have f118 : ((118 : Int) == (n : Int)) = false := by simp; omega
  have z5 : ((ByteArray.mk #[97, 98, 116, 110, 118, 102, 114])[5]'(by decide)).toNat = 102 := rfl
  have f102 : ((102 : Int) == (n : Int)) = false := by simp; omega
  have z6 : ((ByteArray.mk #[97, 98, 116, 110, 118, 102, 114])[6]'(by decide)).toNat = 114 := rfl
  have f114 : ((114 : Int) == (n : Int)) = false := by simp; omega
  go_enter Tryd.func34, Tryd.ntmps34
  go_wp2
  go_loop [7] (fun vi => ∃ j : Nat, vi = .int .i64 (j : Int) ∧ j ≤ 7) (fun vi => 7 - (intOf vi).toNat)
  case atStart => exact ⟨0, rfl, Nat.zero_le _⟩
  case round =>
    obtain ⟨j, rfl, hj⟩ := hrel
    have cs : j = 0 ∨ j = 1 ∨ j = 2 ∨ j = 3 ∨ j = 4 ∨ j = 5 ∨ j = 6 ∨ j = 7 := by omega
    clear hj
    rcases cs with rfl | rfl | rfl | rfl | rfl | rfl | rfl | rfl
    · go_wp2
      go_round
      case rel => exact ⟨1, rfl, by omega⟩
      case measure => simp [intOf]
    · go_wp2
      go_round
      case rel => exact ⟨2, rfl, by omega⟩
      case measure => simp [intOf]
    · go_wp2
      go_round
      case rel => exact ⟨3, rfl, by omega⟩
      case measure => simp [intOf]
    · go_wp2
      go_round
      case rel => exact ⟨4, rfl, by omega⟩
      case measure => simp [intOf]
    · go_wp2
      go_round
      case rel => exact ⟨5, rfl, by omega⟩
      case measure => simp [intOf]
    · go_wp2
      go_round
      case rel => exact ⟨6, rfl, by omega⟩
      case measure => simp [intOf]
    · go_wp2
      go_round
      case rel => exact ⟨7, rfl, by omega⟩
      case measure => simp [intOf]
    · go_wp2
      go_loop [8] (fun vi => ∃ m q : Nat, vi = .int .i64 (m : Int) ∧ (p : Int) + (m : Int) = (q : Int) ∧ q ≤ s.size ∧ Hid (p + m = q ∧ T = m + blanksN s q)) (fun vi => s.size - (intOf vi).toNat)
      case atStart => exact ⟨0, p, rfl, by simp, Nat.le_of_lt hp, rfl, by rw [Nat.zero_add]; exact HT.out.symm⟩
      case round =>
        obtain ⟨m, q, rfl, hq, hqs, HI⟩ := hrel
        by_cases h1 : q < s.size
        · have CB := hide (fun W => blank_any (s[q]'h1) W)
          have hbl := blanks_at s q h1
          by_cases hb : blankB (s[q]'h1) = true
          · rw [if_pos hb] at hbl
            rw [hb] at CB
            have HI2 : Hid (p + (m + 1) = q + 1 ∧ T = (m + 1) + blanksN s (q + 1)) := ⟨by have := HI.out.1; omega, by have := HI.out.2; omega⟩
            have hms : m ≤ s.size := by have := HI.out.1; omega
            have hmq : m ≤ q := by have := HI.out.1; omega
            clear hbl hb HI
            go_wp2_with (go_at_call 41; refine (CB.out _).mono ?_; rintro e w0 ⟨rfl, h0⟩; replace h0 := h0.symm; subst h0)
            go_round
            case rel => exact ⟨m + 1, q + 1, by go_num, by go_num, by omega, HI2⟩
            case measure => simp [intOf]; omega
          · rw [if_neg hb] at hbl
            have hb' : blankB (s[q]'h1) = false := by simpa using hb
            rw [hb'] at CB
            have hTm : T = m := by have := HI.out.2; omega
            have hpq : p + m = q := HI.out.1
            subst hTm
            clear hbl hb hb' HI
            by_cases hm0 : T = 0
            · have HE : Hid (k = 0) := by show _ = _; rw [← HG.out]; exact gap_no s p T HT.out (.inl hm0)
              subst hm0
              obtain rfl : p = q := by omega
              rw [hn] at CB
              clear hq hpq
              go_wp2_with (go_at_call 41; refine (CB.out _).mono ?_; rintro e w0 ⟨rfl, h0⟩; replace h0 := h0.symm; subst h0)
              go_ret2
              exact ⟨by rw [HE.out]; rfl, rfl⟩
            · have hmpos : 0 < T := by omega
              by_cases h92 : (s[q]'h1).toNat = 92
              · have HE : Hid (k = T + 1) := by
                  show _ = _
                  rw [← HG.out]
                  exact gap_of s p T HT.out hm0 (by omega) (by rw [show (s[p + T]'(by omega)) = s[q]'h1 by congr 1]; exact h92)
                have hTs : T ≤ s.size := by omega
                rw [h92] at CB
                clear hpq hm0
                go_wp2_with (go_at_call 41; refine (CB.out _).mono ?_; rintro e w0 ⟨rfl, h0⟩; replace h0 := h0.symm; subst h0)
                go_ret2
                exact ⟨ret_two rfl (by rw [HE.out]; omega), rfl⟩
              · have HE : Hid (k = 0) := by
                  show _ = _
                  rw [← HG.out]
                  exact gap_no s p T HT.out (.inr (.inr ⟨by omega, by rw [show (s[p + T]'(by omega)) = s[q]'h1 by congr 1]; exact h92⟩))
                have g92 : (((s[q]'h1).toNat : Int) == 92) = false := by simp; omega
                clear hpq hm0
                go_wp2_with (go_at_call 41; refine (CB.out _).mono ?_; rintro e w0 ⟨rfl, h0⟩; replace h0 := h0.symm; subst h0)
                go_ret2
                exact ⟨by rw [HE.out]; rfl, rfl⟩
        · have hTm : T = m := by have := HI.out.2; rw [blanks_end s q h1] at this; omega
          have hpq : p + m = q := HI.out.1
          subst hTm
          have HE : Hid (k = 0) := by show _ = _; rw [← HG.out]; exact gap_no s p T HT.out (.inr (.inl (by omega)))
          have hTs : T ≤ s.size := by omega
          have hmpos : 0 < T := by omega
          clear hpq HI
          go_wp2
          go_ret2
          exact ⟨by rw [HE.out]; rfl, rfl⟩

set_option maxRecDepth 100000 in
set_option maxHeartbeats 8000000 in
theorem resc_high (s : ByteArray) (p n : Nat) (w : World) (x : Int) (k : Nat) (hx : escP (s.data.toList.drop p) = (x, k)) (hs : s.size ≤ 281474976710656) (hp : p < s.size) (hn : (s[p]'hp).toNat = n) (h1 : 57 < n) (h2 : n ≠ 92 ∧ n ≠ 94 ∧ n ≠ 117) (h3 : n ≠ 97 ∧ n ≠ 98 ∧ n ≠ 116 ∧ n ≠ 110 ∧ n ≠ 118 ∧ n ≠ 102 ∧ n ≠ 114) : Calls Tryd.prog 34 #[.string s, .int .i64 (p : Int)] w fun e w' => e = .returned (.tuple #[.int .i64 x, .int .i64 (k : Int)]) ∧ w' = w := by
  have hd := drop_at s p hp
  have hn2 : n < 256 := by rw [← hn]; exact (s[p]'hp).toNat_lt
  rw [hd, escP_rest _ _ n hn (by omega) (by omega) (by omega), ← hd] at hx
  obtain ⟨rfl, hk⟩ := Prod.mk.inj hx
  have HG := hide hk
  obtain ⟨T, HT⟩ : ∃ T, Hid (blanksN s p = T) := ⟨_, rfl⟩
  have g34 : ((n : Int) == 34) = false := by simp; omega
  have g92 : ((n : Int) == 92) = false := by simp; omega
  have g94 : ((n : Int) == 94) = false := by simp; omega
  have g117 : ((n : Int) == 117) = false := by simp; omega
  have g57 : ¬ (n ≤ 57) := by omega
  clear hx hd hk
  have z0 : ((ByteArray.mk #[97, 98, 116, 110, 118, 102, 114])[0]'(by decide)).toNat = 97 := rfl
  have f97 : ((97 : Int) == (n : Int)) = false := by simp; omega
  have z1 : ((ByteArray.mk #[97, 98, 116, 110, 118, 102, 114])[1]'(by decide)).toNat = 98 := rfl
  have f98 : ((98 : Int) == (n : Int)) = false := by simp; omega
  have z2 : ((ByteArray.mk #[97, 98, 116, 110, 118, 102, 114])[2]'(by decide)).toNat = 116 := rfl
  have f116 : ((116 : Int) == (n : Int)) = false := by simp; omega
  have z3 : ((ByteArray.mk #[97, 98, 116, 110, 118, 102, 114])[3]'(by decide)).toNat = 110 := rfl
  have f110 : ((110 : Int) == (n : Int)) = false := by simp; omega
  have z4 : ((ByteArray.mk #[97, 98, 116, 110, 118, 102, 114])[4]'(by decide)).toNat = 118 := rfl
  have f118 : ((118 : Int) == (n : Int)) = false := by simp; omega
  have z5 : ((ByteArray.mk #[97, 98, 116, 110, 118, 102, 114])[5]'(by decide)).toNat = 102 := rfl
  have f102 : ((102 : Int) == (n : Int)) = false := by simp; omega
  have z6 : ((ByteArray.mk #[97, 98, 116, 110, 118, 102, 114])[6]'(by decide)).toNat = 114 := rfl
  have f114 : ((114 : Int) == (n : Int)) = false := by simp; omega
  go_enter Tryd.func34, Tryd.ntmps34
  go_wp2
  go_loop [7] (fun vi => ∃ j : Nat, vi = .int .i64 (j : Int) ∧ j ≤ 7) (fun vi => 7 - (intOf vi).toNat)
  case atStart => exact ⟨0, rfl, Nat.zero_le _⟩
  case round =>
    obtain ⟨j, rfl, hj⟩ := hrel
    have cs : j = 0 ∨ j = 1 ∨ j = 2 ∨ j = 3 ∨ j = 4 ∨ j = 5 ∨ j = 6 ∨ j = 7 := by omega
    clear hj
    rcases cs with rfl | rfl | rfl | rfl | rfl | rfl | rfl | rfl
    · go_wp2
      go_round
      case rel => exact ⟨1, rfl, by omega⟩
      case measure => simp [intOf]
    · go_wp2
      go_round
      case rel => exact ⟨2, rfl, by omega⟩
      case measure => simp [intOf]
    · go_wp2
      go_round
      case rel => exact ⟨3, rfl, by omega⟩
      case measure => simp [intOf]
    · go_wp2
      go_round
      case rel => exact ⟨4, rfl, by omega⟩
      case measure => simp [intOf]
    · go_wp2
      go_round
      case rel => exact ⟨5, rfl, by omega⟩
      case measure => simp [intOf]
    · go_wp2
      go_round
      case rel => exact ⟨6, rfl, by omega⟩
      case measure => simp [intOf]
    · go_wp2
      go_round
      case rel => exact ⟨7, rfl, by omega⟩
      case measure => simp [intOf]
    · go_wp2
      go_loop [8] (fun vi => ∃ m q : Nat, vi = .int .i64 (m : Int) ∧ (p : Int) + (m : Int) = (q : Int) ∧ q ≤ s.size ∧ Hid (p + m = q ∧ T = m + blanksN s q)) (fun vi => s.size - (intOf vi).toNat)
      case atStart => exact ⟨0, p, rfl, by simp, Nat.le_of_lt hp, rfl, by rw [Nat.zero_add]; exact HT.out.symm⟩
      case round =>
        obtain ⟨m, q, rfl, hq, hqs, HI⟩ := hrel
        by_cases h1 : q < s.size
        · have CB := hide (fun W => blank_any (s[q]'h1) W)
          have hbl := blanks_at s q h1
          by_cases hb : blankB (s[q]'h1) = true
          · rw [if_pos hb] at hbl
            rw [hb] at CB
            have HI2 : Hid (p + (m + 1) = q + 1 ∧ T = (m + 1) + blanksN s (q + 1)) := ⟨by have := HI.out.1; omega, by have := HI.out.2; omega⟩
            have hms : m ≤ s.size := by have := HI.out.1; omega
            have hmq : m ≤ q := by have := HI.out.1; omega
            clear hbl hb HI
            go_wp2_with (go_at_call 41; refine (CB.out _).mono ?_; rintro e w0 ⟨rfl, h0⟩; replace h0 := h0.symm; subst h0)
            go_round
            case rel => exact ⟨m + 1, q + 1, by go_num, by go_num, by omega, HI2⟩
            case measure => simp [intOf]; omega
          · rw [if_neg hb] at hbl
            have hb' : blankB (s[q]'h1) = false := by simpa using hb
            rw [hb'] at CB
            have hTm : T = m := by have := HI.out.2; omega
            have hpq : p + m = q := HI.out.1
            subst hTm
            clear hbl hb hb' HI
            by_cases hm0 : T = 0
            · have HE : Hid (k = 0) := by show _ = _; rw [← HG.out]; exact gap_no s p T HT.out (.inl hm0)
              subst hm0
              obtain rfl : p = q := by omega
              rw [hn] at CB
              clear hq hpq
              go_wp2_with (go_at_call 41; refine (CB.out _).mono ?_; rintro e w0 ⟨rfl, h0⟩; replace h0 := h0.symm; subst h0)
              go_ret2
              exact ⟨by rw [HE.out]; rfl, rfl⟩
            · have hmpos : 0 < T := by omega
              by_cases h92 : (s[q]'h1).toNat = 92
              · have HE : Hid (k = T + 1) := by
                  show _ = _
                  rw [← HG.out]
                  exact gap_of s p T HT.out hm0 (by omega) (by rw [show (s[p + T]'(by omega)) = s[q]'h1 by congr 1]; exact h92)
                have hTs : T ≤ s.size := by omega
                rw [h92] at CB
                clear hpq hm0
                go_wp2_with (go_at_call 41; refine (CB.out _).mono ?_; rintro e w0 ⟨rfl, h0⟩; replace h0 := h0.symm; subst h0)
                go_ret2
                exact ⟨ret_two rfl (by rw [HE.out]; omega), rfl⟩
              · have HE : Hid (k = 0) := by
                  show _ = _
                  rw [← HG.out]
                  exact gap_no s p T HT.out (.inr (.inr ⟨by omega, by rw [show (s[p + T]'(by omega)) = s[q]'h1 by congr 1]; exact h92⟩))
                have g92 : (((s[q]'h1).toNat : Int) == 92) = false := by simp; omega
                clear hpq hm0
                go_wp2_with (go_at_call 41; refine (CB.out _).mono ?_; rintro e w0 ⟨rfl, h0⟩; replace h0 := h0.symm; subst h0)
                go_ret2
                exact ⟨by rw [HE.out]; rfl, rfl⟩
        · have hTm : T = m := by have := HI.out.2; rw [blanks_end s q h1] at this; omega
          have hpq : p + m = q := HI.out.1
          subst hTm
          have HE : Hid (k = 0) := by show _ = _; rw [← HG.out]; exact gap_no s p T HT.out (.inr (.inl (by omega)))
          have hTs : T ≤ s.size := by omega
          have hmpos : 0 < T := by omega
          clear hpq HI
          go_wp2
          go_ret2
          exact ⟨by rw [HE.out]; rfl, rfl⟩
end Go.Proofs.YtgjcbgconkiedaaDoor
