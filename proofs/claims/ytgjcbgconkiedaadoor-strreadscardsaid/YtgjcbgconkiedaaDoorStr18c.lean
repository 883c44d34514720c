/- The document's own reader of an escape, by the first byte. -/
import Derived.Test.YtgjcbgconkiedaaDoorProg
import Derived.Test.YtgjcbgconkiedaaDoorStr13
import Derived.Test.YtgjcbgconkiedaaDoorStr18
import Derived.WalkKit
import Derived.ProofKit
import Derived.OpenShut
import Derived.Below
import Derived.WalkLawsBesides
import Derived.OwnWalk
import Derived.Lib.IndexBytes
namespace Go.Proofs.YtgjcbgconkiedaaDoor
open Go.ChangeShapes Go.WideShapes Go.ChangeAt Go.RowKit
set_option linter.unusedVariables false

set_option maxRecDepth 100000 in
set_option maxHeartbeats 8000000 in
theorem resc_c0 (s : ByteArray) (p n : Nat) (w : World) (x : Int) (k : Nat) (hx : escP (s.data.toList.drop p) = (x, k)) (hs : s.size ≤ 281474976710656) (hp : p < s.size) (hn : (s[p]'hp).toNat = n) (hq : n = 94) (h1 : ¬ p + 1 < s.size) : Calls Tryd.prog 34 #[.string s, .int .i64 (p : Int)] w fun e w' => e = .returned (.tuple #[.int .i64 x, .int .i64 (k : Int)]) ∧ w' = w := by
  have hd := drop_at s p hp
  have hn2 : n < 256 := by rw [← hn]; exact (s[p]'hp).toNat_lt
  have hgp : gapN (s.data.toList.drop p) = 0 := by rw [hd]; exact gap_nonblank _ _ (nonblank_of _ n hn (by omega))
  have hx2 := escP_ctl s[p] (s.data.toList.drop (p + 1)) (by rw [hn, hq])
  rw [hd, hx2] at hx
  subst hq
  rw [drop_end s (p + 1) h1] at hx
  obtain ⟨rfl, hk⟩ := Prod.mk.inj (show ((-1 : Int), 0) = (x, k) from hx)
  have HG := hide (hgp.trans hk)
  clear hk
  obtain ⟨T, HT⟩ : ∃ T, Hid (blanksN s p = T) := ⟨_, rfl⟩
  have h1i : ¬ ((p : Int) + 1 < (s.size : Int)) := by omega
  clear hx hx2 hd hgp h1
  go_enter Tryd.func34, Tryd.ntmps34
  go_wp2
  go_loop [7] (fun vi => ∃ j : Nat, vi = .int .i64 (j : Int) ∧ j ≤ 7) (fun vi => 7 - (intOf vi).toNat)
  case atStart => exact ⟨0, rfl, Nat.zero_le _⟩
  case round =>
    obtain ⟨j, rfl, hj⟩ := hrel
    have cs : j = 0 ∨ j = 1 ∨ j = 2 ∨ j = 3 ∨ j = 4 ∨ j = 5 ∨ j = 6 ∨ j = 7 := by omega
    clear hj
    rcases cs with rfl | rfl | rfl | rfl | rfl | rfl | rfl | rfl
    · go_wp2
      go_round
      case rel => exact ⟨1, rfl, by omega⟩
      case measure => simp [intOf]
    · go_wp2
      go_round
      case rel => exact ⟨2, rfl, by omega⟩
      case measure => simp [intOf]
    · go_wp2
      go_round
      case rel => exact ⟨3, rfl, by omega⟩
      case measure => simp [intOf]
    · go_wp2
      go_round
      case rel => exact ⟨4, rfl, by omega⟩
      case measure => simp [intOf]
    · go_wp2
      go_round
      case rel => exact ⟨5, rfl, by omega⟩
      case measure => simp [intOf]
    · go_wp2
      go_round
      case rel => exact ⟨6, rfl, by omega⟩
      case measure => simp [intOf]
    · go_wp2
      go_round
      case rel => exact ⟨7, rfl, by omega⟩
      case measure => simp [intOf]
    · go_wp2
      go_loop [8] (fun vi => ∃ m q : Nat, vi = .int .i64 (m : Int) ∧ (p : Int) + (m : Int) = (q : Int) ∧ q ≤ s.size ∧ Hid (p + m = q ∧ T = m + blanksN s q)) (fun vi => s.size - (intOf vi).toNat)
      case atStart => exact ⟨0, p, rfl, by simp, Nat.le_of_lt hp, rfl, by rw [Nat.zero_add]; exact HT.out.symm⟩
      case round =>
        obtain ⟨m, q, rfl, hq, hqs, HI⟩ := hrel
        by_cases h1 : q < s.size
        · have CB := hide (fun W => blank_any (s[q]'h1) W)
          have hbl := blanks_at s q h1
          by_cases hb : blankB (s[q]'h1) = true
          · rw [if_pos hb] at hbl
            rw [hb] at CB
            have HI2 : Hid (p + (m + 1) = q + 1 ∧ T = (m + 1) + blanksN s (q + 1)) := ⟨by have := HI.out.1; omega, by have := HI.out.2; omega⟩
            have hms : m ≤ s.size := by have := HI.out.1; omega
            have hmq : m ≤ q := by have := HI.out.1; omega
            clear hbl hb HI
            go_wp2_with (go_at_call 41; refine (CB.out _).mono ?_; rintro e w0 ⟨rfl, h0⟩; replace h0 := h0.symm; subst h0)
            go_round
            case rel => exact ⟨m + 1, q + 1, by go_num, by go_num, by omega, HI2⟩
            case measure => simp [intOf]; omega
          · rw [if_neg hb] at hbl
            have hb' : blankB (s[q]'h1) = false := by simpa using hb
            rw [hb'] at CB
            have hTm : T = m := by have := HI.out.2; omega
            have hpq : p + m = q := HI.out.1
            subst hTm
            clear hbl hb hb' HI
            by_cases hm0 : T = 0
            · have HE : Hid (k = 0) := by show _ = _; rw [← HG.out]; exact gap_no s p T HT.out (.inl hm0)
              subst hm0
              obtain rfl : p = q := by omega
              rw [hn] at CB
              clear hq hpq
              go_wp2_with (go_at_call 41; refine (CB.out _).mono ?_; rintro e w0 ⟨rfl, h0⟩; replace h0 := h0.symm; subst h0)
              go_ret2
              exact ⟨by rw [HE.out]; rfl, rfl⟩
            · have hmpos : 0 < T := by omega
              by_cases h92 : (s[q]'h1).toNat = 92
              · have HE : Hid (k = T + 1) := by
                  show _ = _
                  rw [← HG.out]
                  exact gap_of s p T HT.out hm0 (by omega) (by rw [show (s[p + T]'(by omega)) = s[q]'h1 by congr 1]; exact h92)
                have hTs : T ≤ s.size := by omega
                rw [h92] at CB
                clear hpq hm0
                go_wp2_with (go_at_call 41; refine (CB.out _).mono ?_; rintro e w0 ⟨rfl, h0⟩; replace h0 := h0.symm; subst h0)
                go_ret2
                exact ⟨ret_two rfl (by rw [HE.out]; omega), rfl⟩
              · have HE : Hid (k = 0) := by
                  show _ = _
                  rw [← HG.out]
                  exact gap_no s p T HT.out (.inr (.inr ⟨by omega, by rw [show (s[p + T]'(by omega)) = s[q]'h1 by congr 1]; exact h92⟩))
                have g92 : (((s[q]'h1).toNat : Int) == 92) = false := by simp; omega
                clear hpq hm0
                go_wp2_with (go_at_call 41; refine (CB.out _).mono ?_; rintro e w0 ⟨rfl, h0⟩; replace h0 := h0.symm; subst h0)
                go_ret2
                exact ⟨by rw [HE.out]; rfl, rfl⟩
        · have hTm : T = m := by have := HI.out.2; rw [blanks_end s q h1] at this; omega
          have hpq : p + m = q := HI.out.1
          subst hTm
          have HE : Hid (k = 0) := by show _ = _; rw [← HG.out]; exact gap_no s p T HT.out (.inr (.inl (by omega)))
          have hTs : T ≤ s.size := by omega
          have hmpos : 0 < T := by omega
          clear hpq HI
          go_wp2
          go_ret2
          exact ⟨by rw [HE.out]; rfl, rfl⟩

set_option maxRecDepth 100000 in
set_option maxHeartbeats 8000000 in
theorem resc_c1 (s : ByteArray) (p n : Nat) (w : World) (x : Int) (k : Nat) (hx : escP (s.data.toList.drop p) = (x, k)) (hs : s.size ≤ 281474976710656) (hp : p < s.size) (hn : (s[p]'hp).toNat = n) (hq : n = 94) (h1 : p + 1 < s.size) (h2 : (s[p + 1]'h1).toNat < 64) : Calls Tryd.prog 34 #[.string s, .int .i64 (p : Int)] w fun e w' => e = .returned (.tuple #[.int .i64 x, .int .i64 (k : Int)]) ∧ w' = w := by
  have hd := drop_at s p hp
  have hn2 : n < 256 := by rw [← hn]; exact (s[p]'hp).toNat_lt
  have hgp : gapN (s.data.toList.drop p) = 0 := by rw [hd]; exact gap_nonblank _ _ (nonblank_of _ n hn (by omega))
  have hx2 := escP_ctl s[p] (s.data.toList.drop (p + 1)) (by rw [hn, hq])
  rw [hd, hx2] at hx
  subst hq
  rw [drop_at s (p + 1) h1] at hx
  obtain ⟨d, hdd⟩ : ∃ d, (s[p + 1]'h1).toNat = d := ⟨_, rfl⟩
  have hd2 : d < 256 := by rw [← hdd]; exact (s[p + 1]'h1).toNat_lt
  simp only [ctlP] at hx
  rw [hdd] at hx h2
  obtain ⟨p1, hp1⟩ : ∃ p1, p + 1 = p1 := ⟨_, rfl⟩
  have hp1i : (p : Int) + 1 = (p1 : Int) := by omega
  have hp1s : p1 < s.size := by omega
  have hdd1 : (s[p1]'hp1s).toNat = d := by rw [← hdd]; congr 2; exact hp1.symm
  rw [if_neg (by omega)] at hx
  obtain ⟨rfl, hk⟩ := Prod.mk.inj hx
  have HG := hide (hgp.trans hk)
  clear hk
  obtain ⟨T, HT⟩ : ∃ T, Hid (blanksN s p = T) := ⟨_, rfl⟩
  clear hx hx2 hd hgp hdd hp1 h1
  go_enter Tryd.func34, Tryd.ntmps34
  go_wp2
  go_loop [7] (fun vi => ∃ j : Nat, vi = .int .i64 (j : Int) ∧ j ≤ 7) (fun vi => 7 - (intOf vi).toNat)
  case atStart => exact ⟨0, rfl, Nat.zero_le _⟩
  case round =>
    obtain ⟨j, rfl, hj⟩ := hrel
    have cs : j = 0 ∨ j = 1 ∨ j = 2 ∨ j = 3 ∨ j = 4 ∨ j = 5 ∨ j = 6 ∨ j = 7 := by omega
    clear hj
    rcases cs with rfl | rfl | rfl | rfl | rfl | rfl | rfl | rfl
    · go_wp2
      go_round
      case rel => exact ⟨1, rfl, by omega⟩
      case measure => simp [intOf]
    · go_wp2
      go_round
      case rel => exact ⟨2, rfl, by omega⟩
      case measure => simp [intOf]
    · go_wp2
      go_round
      case rel => exact ⟨3, rfl, by omega⟩
      case measure => simp [intOf]
    · go_wp2
      go_round
      case rel => exact ⟨4, rfl, by omega⟩
      case measure => simp [intOf]
    · go_wp2
      go_round
      case rel => exact ⟨5, rfl, by omega⟩
      case measure => simp [intOf]
    · go_wp2
      go_round
      case rel => exact ⟨6, rfl, by omega⟩
      case measure => simp [intOf]
    · go_wp2
      go_round
      case rel => exact ⟨7, rfl, by omega⟩
      case measure => simp [intOf]
    · go_wp2
      go_loop [8] (fun vi => ∃ m q : Nat, vi = .int .i64 (m : Int) ∧ (p : Int) + (m : Int) = (q : Int) ∧ q ≤ s.size ∧ Hid (p + m = q ∧ T = m + blanksN s q)) (fun vi => s.size - (intOf vi).toNat)
      case atStart => exact ⟨0, p, rfl, by simp, Nat.le_of_lt hp, rfl, by rw [Nat.zero_add]; exact HT.out.symm⟩
      case round =>
        obtain ⟨m, q, rfl, hq, hqs, HI⟩ := hrel
        by_cases h1 : q < s.size
        · have CB := hide (fun W => blank_any (s[q]'h1) W)
          have hbl := blanks_at s q h1
          by_cases hb : blankB (s[q]'h1) = true
          · rw [if_pos hb] at hbl
            rw [hb] at CB
            have HI2 : Hid (p + (m + 1) = q + 1 ∧ T = (m + 1) + blanksN s (q + 1)) := ⟨by have := HI.out.1; omega, by have := HI.out.2; omega⟩
            have hms : m ≤ s.size := by have := HI.out.1; omega
            have hmq : m ≤ q := by have := HI.out.1; omega
            clear hbl hb HI
            go_wp2_with (go_at_call 41; refine (CB.out _).mono ?_; rintro e w0 ⟨rfl, h0⟩; replace h0 := h0.symm; subst h0)
            go_round
            case rel => exact ⟨m + 1, q + 1, by go_num, by go_num, by omega, HI2⟩
            case measure => simp [intOf]; omega
          · rw [if_neg hb] at hbl
            have hb' : blankB (s[q]'h1) = false := by simpa using hb
            rw [hb'] at CB
            have hTm : T = m := by have := HI.out.2; omega
            have hpq : p + m = q := HI.out.1
            subst hTm
            clear hbl hb hb' HI
            by_cases hm0 : T = 0
            · have HE : Hid (k = 0) := by show _ = _; rw [← HG.out]; exact gap_no s p T HT.out (.inl hm0)
              subst hm0
              obtain rfl : p = q := by omega
              rw [hn] at CB
              clear hq hpq
              go_wp2_with (go_at_call 41; refine (CB.out _).mono ?_; rintro e w0 ⟨rfl, h0⟩; replace h0 := h0.symm; subst h0)
              go_ret2
              exact ⟨by rw [HE.out]; rfl, rfl⟩
            · have hmpos : 0 < T := by omega
              by_cases h92 : (s[q]'h1).toNat = 92
              · have HE : Hid (k = T + 1) := by
                  show _ = _
                  rw [← HG.out]
                  exact gap_of s p T HT.out hm0 (by omega) (by rw [show (s[p + T]'(by omega)) = s[q]'h1 by congr 1]; exact h92)
                have hTs : T ≤ s.size := by omega
                rw [h92] at CB
                clear hpq hm0
                go_wp2_with (go_at_call 41; refine (CB.out _).mono ?_; rintro e w0 ⟨rfl, h0⟩; replace h0 := h0.symm; subst h0)
                go_ret2
                exact ⟨ret_two rfl (by rw [HE.out]; omega), rfl⟩
              · have HE : Hid (k = 0) := by
                  show _ = _
                  rw [← HG.out]
                  exact gap_no s p T HT.out (.inr (.inr ⟨by omega, by rw [show (s[p + T]'(by omega)) = s[q]'h1 by congr 1]; exact h92⟩))
                have g92 : (((s[q]'h1).toNat : Int) == 92) = false := by simp; omega
                clear hpq hm0
                go_wp2_with (go_at_call 41; refine (CB.out _).mono ?_; rintro e w0 ⟨rfl, h0⟩; replace h0 := h0.symm; subst h0)
                go_ret2
                exact ⟨by rw [HE.out]; rfl, rfl⟩
        · have hTm : T = m := by have := HI.out.2; rw [blanks_end s q h1] at this; omega
          have hpq : p + m = q := HI.out.1
          subst hTm
          have HE : Hid (k = 0) := by show _ = _; rw [← HG.out]; exact gap_no s p T HT.out (.inr (.inl (by omega)))
          have hTs : T ≤ s.size := by omega
          have hmpos : 0 < T := by omega
          clear hpq HI
          go_wp2
          go_ret2
          exact ⟨by rw [HE.out]; rfl, rfl⟩

set_option maxRecDepth 100000 in
set_option maxHeartbeats 8000000 in
theorem resc_c2 (s : ByteArray) (p n : Nat) (w : World) (x : Int) (k : Nat) (hx : escP (s.data.toList.drop p) = (x, k)) (hs : s.size ≤ 281474976710656) (hp : p < s.size) (hn : (s[p]'hp).toNat = n) (hq : n = 94) (h1 : p + 1 < s.size) (h2 : 95 < (s[p + 1]'h1).toNat) : Calls Tryd.prog 34 #[.string s, .int .i64 (p : Int)] w fun e w' => e = .returned (.tuple #[.int .i64 x, .int .i64 (k : Int)]) ∧ w' = w := by
  have hd := drop_at s p hp
  have hn2 : n < 256 := by rw [← hn]; exact (s[p]'hp).toNat_lt
  have hgp : gapN (s.data.toList.drop p) = 0 := by rw [hd]; exact gap_nonblank _ _ (nonblank_of _ n hn (by omega))
  have hx2 := escP_ctl s[p] (s.data.toList.drop (p + 1)) (by rw [hn, hq])
  rw [hd, hx2] at hx
  subst hq
  rw [drop_at s (p + 1) h1] at hx
  obtain ⟨d, hdd⟩ : ∃ d, (s[p + 1]'h1).toNat = d := ⟨_, rfl⟩
  have hd2 : d < 256 := by rw [← hdd]; exact (s[p + 1]'h1).toNat_lt
  simp only [ctlP] at hx
  rw [hdd] at hx h2
  obtain ⟨p1, hp1⟩ : ∃ p1, p + 1 = p1 := ⟨_, rfl⟩
  have hp1i : (p : Int) + 1 = (p1 : Int) := by omega
  have hp1s : p1 < s.size := by omega
  have hdd1 : (s[p1]'hp1s).toNat = d := by rw [← hdd]; congr 2; exact hp1.symm
  rw [if_neg (by omega)] at hx
  obtain ⟨rfl, hk⟩ := Prod.mk.inj hx
  have HG := hide (hgp.trans hk)
  clear hk
  obtain ⟨T, HT⟩ : ∃ T, Hid (blanksN s p = T) := ⟨_, rfl⟩
  clear hx hx2 hd hgp hdd hp1 h1
  go_enter Tryd.func34, Tryd.ntmps34
  go_wp2
  go_loop [7] (fun vi => ∃ j : Nat, vi = .int .i64 (j : Int) ∧ j ≤ 7) (fun vi => 7 - (intOf vi).toNat)
  case atStart => exact ⟨0, rfl, Nat.zero_le _⟩
  case round =>
    obtain ⟨j, rfl, hj⟩ := hrel
    have cs : j = 0 ∨ j = 1 ∨ j = 2 ∨ j = 3 ∨ j = 4 ∨ j = 5 ∨ j = 6 ∨ j = 7 := by omega
    clear hj
    rcases cs with rfl | rfl | rfl | rfl | rfl | rfl | rfl | rfl
    · go_wp2
      go_round
      case rel => exact ⟨1, rfl, by omega⟩
      case measure => simp [intOf]
    · go_wp2
      go_round
      case rel => exact ⟨2, rfl, by omega⟩
      case measure => simp [intOf]
    · go_wp2
      go_round
      case rel => exact ⟨3, rfl, by omega⟩
      case measure => simp [intOf]
    · go_wp2
      go_round
      case rel => exact ⟨4, rfl, by omega⟩
      case measure => simp [intOf]
    · go_wp2
      go_round
      case rel => exact ⟨5, rfl, by omega⟩
      case measure => simp [intOf]
    · go_wp2
      go_round
      case rel => exact ⟨6, rfl, by omega⟩
      case measure => simp [intOf]
    · go_wp2
      go_round
      case rel => exact ⟨7, rfl, by omega⟩
      case measure => simp [intOf]
    · go_wp2
      go_loop [8] (fun vi => ∃ m q : Nat, vi = .int .i64 (m : Int) ∧ (p : Int) + (m : Int) = (q : Int) ∧ q ≤ s.size ∧ Hid (p + m = q ∧ T = m + blanksN s q)) (fun vi => s.size - (intOf vi).toNat)
      case atStart => exact ⟨0, p, rfl, by simp, Nat.le_of_lt hp, rfl, by rw [Nat.zero_add]; exact HT.out.symm⟩
      case round =>
        obtain ⟨m, q, rfl, hq, hqs, HI⟩ := hrel
        by_cases h1 : q < s.size
        · have CB := hide (fun W => blank_any (s[q]'h1) W)
          have hbl := blanks_at s q h1
          by_cases hb : blankB (s[q]'h1) = true
          · rw [if_pos hb] at hbl
            rw [hb] at CB
            have HI2 : Hid (p + (m + 1) = q + 1 ∧ T = (m + 1) + blanksN s (q + 1)) := ⟨by have := HI.out.1; omega, by have := HI.out.2; omega⟩
            have hms : m ≤ s.size := by have := HI.out.1; omega
            have hmq : m ≤ q := by have := HI.out.1; omega
            clear hbl hb HI
            go_wp2_with (go_at_call 41; refine (CB.out _).mono ?_; rintro e w0 ⟨rfl, h0⟩; replace h0 := h0.symm; subst h0)
            go_round
            case rel => exact ⟨m + 1, q + 1, by go_num, by go_num, by omega, HI2⟩
            case measure => simp [intOf]; omega
          · rw [if_neg hb] at hbl
            have hb' : blankB (s[q]'h1) = false := by simpa using hb
            rw [hb'] at CB
            have hTm : T = m := by have := HI.out.2; omega
            have hpq : p + m = q := HI.out.1
            subst hTm
            clear hbl hb hb' HI
            by_cases hm0 : T = 0
            · have HE : Hid (k = 0) := by show _ = _; rw [← HG.out]; exact gap_no s p T HT.out (.inl hm0)
              subst hm0
              obtain rfl : p = q := by omega
              rw [hn] at CB
              clear hq hpq
              go_wp2_with (go_at_call 41; refine (CB.out _).mono ?_; rintro e w0 ⟨rfl, h0⟩; replace h0 := h0.symm; subst h0)
              go_ret2
              exact ⟨by rw [HE.out]; rfl, rfl⟩
            · have hmpos : 0 < T := by omega
              by_cases h92 : (s[q]'h1).toNat = 92
              · have HE : Hid (k = T + 1) := by
                  show _ = _
                  rw [← HG.out]
                  exact gap_of s p T HT.out hm0 (by omega) (by rw [show (s[p + T]'(by omega)) = s[q]'h1 by congr 1]; exact h92)
                have hTs : T ≤ s.size := by omega
                rw [h92] at CB
                clear hpq hm0
                go_wp2_with (go_at_call 41; refine (CB.out _).mono ?_; rintro e w0 ⟨rfl, h0⟩; replace h0 := h0.symm; subst h0)
                go_ret2
                exact ⟨ret_two rfl (by rw [HE.out]; omega), rfl⟩
              · have HE : Hid (k = 0) := by
                  show _ = _
                  rw [← HG.out]
                  exact gap_no s p T HT.out (.inr (.inr ⟨by omega, by rw [show (s[p + T]'(by omega)) = s[q]'h1 by congr 1]; exact h92⟩))
                have g92 : (((s[q]'h1).toNat : Int) == 92) = false := by simp; omega
                clear hpq hm0
                go_wp2_with (go_at_call 41; refine (CB.out _).mono ?_; rintro e w0 ⟨rfl, h0⟩; replace h0 := h0.symm; subst h0)
                go_ret2
                exact ⟨by rw [HE.out]; rfl, rfl⟩
        · have hTm : T = m := by have := HI.out.2; rw [blanks_end s q h1] at this; omega
          have hpq : p + m = q := HI.out.1
          subst hTm
          have HE : Hid (k = 0) := by show _ = _; rw [← HG.out]; exact gap_no s p T HT.out (.inr (.inl (by omega)))
          have hTs : T ≤ s.size := by omega
          have hmpos : 0 < T := by omega
          clear hpq HI
          go_wp2
          go_ret2
          exact ⟨by rw [HE.out]; rfl, rfl⟩

set_option maxRecDepth 100000 in
set_option maxHeartbeats 8000000 in
theorem resc_c3 (s : ByteArray) (p n : Nat) (w : World) (x : Int) (k : Nat) (hx : escP (s.data.toList.drop p) = (x, k)) (hs : s.size ≤ 281474976710656) (hp : p < s.size) (hn : (s[p]'hp).toNat = n) (hq : n = 94) (h1 : p + 1 < s.size) (h2 : 64 ≤ (s[p + 1]'h1).toNat ∧ (s[p + 1]'h1).toNat ≤ 95) : Calls Tryd.prog 34 #[.string s, .int .i64 (p : Int)] w fun e w' => e = .returned (.tuple #[.int .i64 x, .int .i64 (k : Int)]) ∧ w' = w := by
  have hd := drop_at s p hp
  have hn2 : n < 256 := by rw [← hn]; exact (s[p]'hp).toNat_lt
  have hgp : gapN (s.data.toList.drop p) = 0 := by rw [hd]; exact gap_nonblank _ _ (nonblank_of _ n hn (by omega))
  have hx2 := escP_ctl s[p] (s.data.toList.drop (p + 1)) (by rw [hn, hq])
  rw [hd, hx2] at hx
  subst hq
  rw [drop_at s (p + 1) h1] at hx
  obtain ⟨d, hdd⟩ : ∃ d, (s[p + 1]'h1).toNat = d := ⟨_, rfl⟩
  have hd2 : d < 256 := by rw [← hdd]; exact (s[p + 1]'h1).toNat_lt
  simp only [ctlP] at hx
  rw [hdd] at hx h2
  obtain ⟨p1, hp1⟩ : ∃ p1, p + 1 = p1 := ⟨_, rfl⟩
  have hp1i : (p : Int) + 1 = (p1 : Int) := by omega
  have hp1s : p1 < s.size := by omega
  have hdd1 : (s[p1]'hp1s).toNat = d := by rw [← hdd]; congr 2; exact hp1.symm
  rw [if_pos h2] at hx
  obtain ⟨rfl, rfl⟩ := Prod.mk.inj hx
  clear hx hx2 hd hgp hdd hp1
  go_enter Tryd.func34, Tryd.ntmps34
  go_wp2
  go_loop [7] (fun vi => ∃ j : Nat, vi = .int .i64 (j : Int) ∧ j ≤ 7) (fun vi => 7 - (intOf vi).toNat)
  case atStart => exact ⟨0, rfl, Nat.zero_le _⟩
  case round =>
    obtain ⟨j, rfl, hj⟩ := hrel
    have cs : j = 0 ∨ j = 1 ∨ j = 2 ∨ j = 3 ∨ j = 4 ∨ j = 5 ∨ j = 6 ∨ j = 7 := by omega
    clear hj
    rcases cs with rfl | rfl | rfl | rfl | rfl | rfl | rfl | rfl
    · go_wp2
      go_round
      case rel => exact ⟨1, rfl, by omega⟩
      case measure => simp [intOf]
    · go_wp2
      go_round
      case rel => exact ⟨2, rfl, by omega⟩
      case measure => simp [intOf]
    · go_wp2
      go_round
      case rel => exact ⟨3, rfl, by omega⟩
      case measure => simp [intOf]
    · go_wp2
      go_round
      case rel => exact ⟨4, rfl, by omega⟩
      case measure => simp [intOf]
    · go_wp2
      go_round
      case rel => exact ⟨5, rfl, by omega⟩
      case measure => simp [intOf]
    · go_wp2
      go_round
      case rel => exact ⟨6, rfl, by omega⟩
      case measure => simp [intOf]
    · go_wp2
      go_round
      case rel => exact ⟨7, rfl, by omega⟩
      case measure => simp [intOf]
    · go_wp2
      go_ret2
      exact ⟨rfl, rfl⟩
end Go.Proofs.YtgjcbgconkiedaaDoor
