/- What package str's reader of an escape answers, for every text. -/
import Derived.Test.YtmeooghcdgpofaaDoorProg
import Derived.Test.YtmeooghcdgpofaaDoorShelf
import Derived.Test.YtmeooghcdgpofaaDoorLexS12
import Derived.WalkKit
import Derived.ProofKit
import Derived.OpenShut
import Derived.Below
import Derived.WalkLawsBesides
import Derived.OwnWalk
import Derived.Lib.IndexBytes
namespace Go.Proofs.YtmeooghcdgpofaaDoor
open Go.ChangeShapes Go.WideShapes Go.ChangeAt Go.RowKit

theorem escP_ctl (c : UInt8) (r : List UInt8) (h : c.toNat = 94) : escP (c :: r) = ctlP r := by
  unfold escP
  simp only [h]
  simp
  cases r <;> rfl
theorem escP_u (c : UInt8) (r : List UInt8) (h : c.toNat = 117) : escP (c :: r) = if numP r 4 16 < 0 then (-1, 0) else (numP r 4 16, 5) := by
  unfold escP
  simp [h]
theorem escP_dig (c : UInt8) (r : List UInt8) (h : 48 ≤ c.toNat ∧ c.toNat ≤ 57) : escP (c :: r) = if numP (c :: r) 3 10 < 0 then (-1, 0) else (numP (c :: r) 3 10, 3) := by
  simp only [escP]
  rw [if_neg (show ¬ c.toNat = 97 by omega), if_neg (show ¬ c.toNat = 98 by omega), if_neg (show ¬ c.toNat = 116 by omega), if_neg (show ¬ c.toNat = 110 by omega), if_neg (show ¬ c.toNat = 118 by omega), if_neg (show ¬ c.toNat = 102 by omega), if_neg (show ¬ c.toNat = 114 by omega), if_neg (show ¬ (c.toNat = 34 ∨ c.toNat = 92) by omega), if_neg (show ¬ c.toNat = 94 by omega), if_neg (show ¬ c.toNat = 117 by omega), if_pos h]
theorem escP_blank (c : UInt8) (r : List UInt8) (h : blankB c = true) : escP (c :: r) = (-1, gapN (c :: r)) := by
  have hn : c.toNat = 9 ∨ c.toNat = 10 ∨ c.toNat = 12 ∨ c.toNat = 13 ∨ c.toNat = 32 := by
    unfold blankB at h
    simp at h
    omega
  simp only [escP]
  rw [if_neg (show ¬ c.toNat = 97 by omega), if_neg (show ¬ c.toNat = 98 by omega), if_neg (show ¬ c.toNat = 116 by omega), if_neg (show ¬ c.toNat = 110 by omega), if_neg (show ¬ c.toNat = 118 by omega), if_neg (show ¬ c.toNat = 102 by omega), if_neg (show ¬ c.toNat = 114 by omega), if_neg (show ¬ (c.toNat = 34 ∨ c.toNat = 92) by omega), if_neg (show ¬ c.toNat = 94 by omega), if_neg (show ¬ c.toNat = 117 by omega), if_neg (show ¬ (48 ≤ c.toNat ∧ c.toNat ≤ 57) by omega), if_pos h]
theorem escP_other (c : UInt8) (r : List UInt8) (n : Nat) (hn : c.toNat = n) (h1 : n ≠ 97 ∧ n ≠ 98 ∧ n ≠ 116 ∧ n ≠ 110 ∧ n ≠ 118 ∧ n ≠ 102 ∧ n ≠ 114) (h2 : n ≠ 34 ∧ n ≠ 92 ∧ n ≠ 94 ∧ n ≠ 117) (h3 : ¬ (48 ≤ n ∧ n ≤ 57)) (h4 : n ≠ 9 ∧ n ≠ 10 ∧ n ≠ 12 ∧ n ≠ 13 ∧ n ≠ 32) : escP (c :: r) = (-1, 0) := by
  have hb : blankB c = false := by
    unfold blankB
    simp
    omega
  simp only [escP]
  rw [if_neg (show ¬ c.toNat = 97 by omega), if_neg (show ¬ c.toNat = 98 by omega), if_neg (show ¬ c.toNat = 116 by omega), if_neg (show ¬ c.toNat = 110 by omega), if_neg (show ¬ c.toNat = 118 by omega), if_neg (show ¬ c.toNat = 102 by omega), if_neg (show ¬ c.toNat = 114 by omega), if_neg (show ¬ (c.toNat = 34 ∨ c.toNat = 92) by omega), if_neg (show ¬ c.toNat = 94 by omega), if_neg (show ¬ c.toNat = 117 by omega), if_neg (show ¬ (48 ≤ c.toNat ∧ c.toNat ≤ 57) by omega), if_neg (by rw [hb]; decide)]
theorem escP_quote (c : UInt8) (r : List UInt8) (h : c.toNat = 34 ∨ c.toNat = 92) : escP (c :: r) = ((c.toNat : Int), 1) := by
  simp only [escP]
  rw [if_neg (show ¬ c.toNat = 97 by omega), if_neg (show ¬ c.toNat = 98 by omega), if_neg (show ¬ c.toNat = 116 by omega), if_neg (show ¬ c.toNat = 110 by omega), if_neg (show ¬ c.toNat = 118 by omega), if_neg (show ¬ c.toNat = 102 by omega), if_neg (show ¬ c.toNat = 114 by omega), if_pos h]
theorem blank_first (c : UInt8) (r : List UInt8) (h : blankB c = true) : ((c :: r).takeWhile blankB).length ≠ 0 := by
  rw [List.takeWhile_cons, h]; simp

set_option maxRecDepth 100000 in
set_option maxHeartbeats 4000000 in
theorem escape_one (s : ByteArray) (w : World) (R : Rdy w) (x : Int) (k : Nat) (hx : escP s.data.toList = (x, k)) (hs : s.size ≤ maxLen) (hb : s.size ≤ 1073741824) : Calls Tryd.prog 61 #[.string s] w fun e w' => e = .returned (.tuple #[.int .i64 x, .int .i64 (k : Int)]) ∧ Below w.heap.size w w' := by
  have HS := hide hs
  unfold maxLen at hs
  have HB9 := hide hb
  clear hb
  by_cases h0 : 0 < s.size
  · have hemp : s.toList.isEmpty = false := by
      rw [← decide_eq_emptyBytes]
      exact decide_eq_false (fun h => by rw [h] at h0; exact absurd h0 (by decide))
    have hd : s.data.toList = s[0] :: s.data.toList.drop 1 := by have := drop_at s 0 h0; simpa using this
    rw [hd] at hx
    obtain ⟨n, hn⟩ : ∃ n, (s[0]'h0).toNat = n := ⟨_, rfl⟩
    have hn2 : n < 256 := by rw [← hn]; exact (s[0]'h0).toNat_lt
    have cs : n = 97 ∨ n = 98 ∨ n = 116 ∨ n = 110 ∨ n = 118 ∨ n = 102 ∨ n = 114 ∨ n = 34 ∨ n = 92 ∨ n = 94 ∨ n = 117 ∨ n = 9 ∨ n = 10 ∨ n = 12 ∨ n = 13 ∨ n = 32 ∨ (48 ≤ n ∧ n ≤ 57) ∨ ((n ≠ 97 ∧ n ≠ 98 ∧ n ≠ 116 ∧ n ≠ 110 ∧ n ≠ 118 ∧ n ≠ 102 ∧ n ≠ 114) ∧ (n ≠ 34 ∧ n ≠ 92 ∧ n ≠ 94 ∧ n ≠ 117) ∧ ¬ (48 ≤ n ∧ n ≤ 57) ∧ (n ≠ 9 ∧ n ≠ 10 ∧ n ≠ 12 ∧ n ≠ 13 ∧ n ≠ 32)) := by
      by_cases a1 : n = 97 ∨ n = 98 ∨ n = 116 ∨ n = 110 ∨ n = 118 ∨ n = 102 ∨ n = 114
      · omega
      · by_cases a2 : n = 34 ∨ n = 92 ∨ n = 94 ∨ n = 117
        · omega
        · by_cases a3 : 48 ≤ n ∧ n ≤ 57
          · simp [a3]
          · by_cases a4 : n = 9 ∨ n = 10 ∨ n = 12 ∨ n = 13 ∨ n = 32
            · omega
            · simp only [not_or] at a1 a2 a4
              simp [a1, a2, a3, a4]
    rcases cs with rfl | rfl | rfl | rfl | rfl | rfl | rfl | rfl | rfl | rfl | rfl | rfl | rfl | rfl | rfl | rfl | hdig | ⟨o1, o2, o3, o4⟩
    · have hx2 : escP (s[0] :: s.data.toList.drop 1) = (7, 1) := by unfold escP; simp [hn]
      rw [hx2] at hx
      obtain ⟨rfl, rfl⟩ := Prod.mk.inj hx
      have HX : Hid (Lib.indexByte (ByteArray.mk #[97, 98, 116, 110, 118, 102, 114]).data.toList ((97 : Int).toNat.toUInt8) = 0) := by show _ = _; decide +kernel
      clear hx hx2 hd
      go_enter Tryd.func61, Tryd.ntmps61
      go_wp2_with (go_at_call 67; refine (Tryd.strings_IndexByte _ _ _).mono ?_; rintro e w1 ⟨rfl, hw⟩; replace hw := hw.symm; subst hw; first | rw [HX.out] | skip)
      go_ret2
      exact ⟨rfl, Below.refl _ _⟩
    · have hx2 : escP (s[0] :: s.data.toList.drop 1) = (8, 1) := by unfold escP; simp [hn]
      rw [hx2] at hx
      obtain ⟨rfl, rfl⟩ := Prod.mk.inj hx
      have HX : Hid (Lib.indexByte (ByteArray.mk #[97, 98, 116, 110, 118, 102, 114]).data.toList ((98 : Int).toNat.toUInt8) = 1) := by show _ = _; decide +kernel
      clear hx hx2 hd
      go_enter Tryd.func61, Tryd.ntmps61
      go_wp2_with (go_at_call 67; refine (Tryd.strings_IndexByte _ _ _).mono ?_; rintro e w1 ⟨rfl, hw⟩; replace hw := hw.symm; subst hw; first | rw [HX.out] | skip)
      go_ret2
      exact ⟨rfl, Below.refl _ _⟩
    · have hx2 : escP (s[0] :: s.data.toList.drop 1) = (9, 1) := by unfold escP; simp [hn]
      rw [hx2] at hx
      obtain ⟨rfl, rfl⟩ := Prod.mk.inj hx
      have HX : Hid (Lib.indexByte (ByteArray.mk #[97, 98, 116, 110, 118, 102, 114]).data.toList ((116 : Int).toNat.toUInt8) = 2) := by show _ = _; decide +kernel
      clear hx hx2 hd
      go_enter Tryd.func61, Tryd.ntmps61
      go_wp2_with (go_at_call 67; refine (Tryd.strings_IndexByte _ _ _).mono ?_; rintro e w1 ⟨rfl, hw⟩; replace hw := hw.symm; subst hw; first | rw [HX.out] | skip)
      go_ret2
      exact ⟨rfl, Below.refl _ _⟩
    · have hx2 : escP (s[0] :: s.data.toList.drop 1) = (10, 1) := by unfold escP; simp [hn]
      rw [hx2] at hx
      obtain ⟨rfl, rfl⟩ := Prod.mk.inj hx
      have HX : Hid (Lib.indexByte (ByteArray.mk #[97, 98, 116, 110, 118, 102, 114]).data.toList ((110 : Int).toNat.toUInt8) = 3) := by show _ = _; decide +kernel
      clear hx hx2 hd
      go_enter Tryd.func61, Tryd.ntmps61
      go_wp2_with (go_at_call 67; refine (Tryd.strings_IndexByte _ _ _).mono ?_; rintro e w1 ⟨rfl, hw⟩; replace hw := hw.symm; subst hw; first | rw [HX.out] | skip)
      go_ret2
      exact ⟨rfl, Below.refl _ _⟩
    · have hx2 : escP (s[0] :: s.data.toList.drop 1) = (11, 1) := by unfold escP; simp [hn]
      rw [hx2] at hx
      obtain ⟨rfl, rfl⟩ := Prod.mk.inj hx
      have HX : Hid (Lib.indexByte (ByteArray.mk #[97, 98, 116, 110, 118, 102, 114]).data.toList ((118 : Int).toNat.toUInt8) = 4) := by show _ = _; decide +kernel
      clear hx hx2 hd
      go_enter Tryd.func61, Tryd.ntmps61
      go_wp2_with (go_at_call 67; refine (Tryd.strings_IndexByte _ _ _).mono ?_; rintro e w1 ⟨rfl, hw⟩; replace hw := hw.symm; subst hw; first | rw [HX.out] | skip)
      go_ret2
      exact ⟨rfl, Below.refl _ _⟩
    · have hx2 : escP (s[0] :: s.data.toList.drop 1) = (12, 1) := by unfold escP; simp [hn]
      rw [hx2] at hx
      obtain ⟨rfl, rfl⟩ := Prod.mk.inj hx
      have HX : Hid (Lib.indexByte (ByteArray.mk #[97, 98, 116, 110, 118, 102, 114]).data.toList ((102 : Int).toNat.toUInt8) = 5) := by show _ = _; decide +kernel
      clear hx hx2 hd
      go_enter Tryd.func61, Tryd.ntmps61
      go_wp2_with (go_at_call 67; refine (Tryd.strings_IndexByte _ _ _).mono ?_; rintro e w1 ⟨rfl, hw⟩; replace hw := hw.symm; subst hw; first | rw [HX.out] | skip)
      go_ret2
      exact ⟨rfl, Below.refl _ _⟩
    · have hx2 : escP (s[0] :: s.data.toList.drop 1) = (13, 1) := by unfold escP; simp [hn]
      rw [hx2] at hx
      obtain ⟨rfl, rfl⟩ := Prod.mk.inj hx
      have HX : Hid (Lib.indexByte (ByteArray.mk #[97, 98, 116, 110, 118, 102, 114]).data.toList ((114 : Int).toNat.toUInt8) = 6) := by show _ = _; decide +kernel
      clear hx hx2 hd
      go_enter Tryd.func61, Tryd.ntmps61
      go_wp2_with (go_at_call 67; refine (Tryd.strings_IndexByte _ _ _).mono ?_; rintro e w1 ⟨rfl, hw⟩; replace hw := hw.symm; subst hw; first | rw [HX.out] | skip)
      go_ret2
      exact ⟨rfl, Below.refl _ _⟩
    · rw [escP_quote _ _ (by omega), hn] at hx
      obtain ⟨rfl, rfl⟩ := Prod.mk.inj hx
      clear hx hd
      go_enter Tryd.func61, Tryd.ntmps61
      go_wp2
      go_ret2
      exact ⟨rfl, Below.refl _ _⟩
    · rw [escP_quote _ _ (by omega), hn] at hx
      obtain ⟨rfl, rfl⟩ := Prod.mk.inj hx
      clear hx hd
      go_enter Tryd.func61, Tryd.ntmps61
      go_wp2
      go_ret2
      exact ⟨rfl, Below.refl _ _⟩
    · rw [escP_ctl _ _ hn] at hx
      have C := hide (fun W => controlled_any s W x k hx HS.out h0)
      clear hx hd
      go_enter Tryd.func61, Tryd.ntmps61
      go_wp2_with (go_at_call 68; refine (C.out _).mono ?_; rintro e w1 ⟨rfl, hw⟩; replace hw := hw.symm; subst hw)
      go_ret2
      exact ⟨rfl, Below.refl _ _⟩
    · rw [escP_u _ _ hn] at hx
      obtain ⟨X, hX⟩ : ∃ X, numP (s.data.toList.drop 1) 4 16 = X := ⟨_, rfl⟩
      rw [hX] at hx
      have C := hide (fun (W : World) (RR : Rdy W) => num4_any s W RR X hX HS.out h0)
      clear hd hX
      by_cases hneg : X < 0
      · rw [if_pos hneg] at hx
        obtain ⟨rfl, rfl⟩ := Prod.mk.inj hx
        rw [if_pos hneg] at C
        clear hx hneg
        go_enter Tryd.func61, Tryd.ntmps61
        go_wp2_with (go_at_call 70; refine (C.out _ R).mono ?_; rintro e w1 ⟨rfl, b1⟩)
        go_ret2
        exact ⟨rfl, b1⟩
      · rw [if_neg hneg] at hx
        obtain ⟨rfl, rfl⟩ := Prod.mk.inj hx
        rw [if_neg hneg] at C
        clear hx hneg
        go_enter Tryd.func61, Tryd.ntmps61
        go_wp2_with (go_at_call 70; refine (C.out _ R).mono ?_; rintro e w1 ⟨rfl, b1⟩)
        go_ret2
        exact ⟨rfl, b1⟩
    · have hbl : blankB s[0] = true := by unfold blankB; rw [hn]; rfl
      rw [escP_blank _ _ hbl] at hx
      obtain ⟨rfl, hk⟩ := Prod.mk.inj hx
      have C := hide (fun W => gap_any s W k (by rw [hd]; exact hk) HB9.out (by rw [hd]; exact blank_first _ _ hbl))
      clear hx hd hbl hk
      go_enter Tryd.func61, Tryd.ntmps61
      go_wp2_with (go_at_call 69; refine (C.out _).mono ?_; rintro e w1 ⟨rfl, b1⟩)
      go_ret2
      exact ⟨rfl, b1⟩
    · have hbl : blankB s[0] = true := by unfold blankB; rw [hn]; rfl
      rw [escP_blank _ _ hbl] at hx
      obtain ⟨rfl, hk⟩ := Prod.mk.inj hx
      have C := hide (fun W => gap_any s W k (by rw [hd]; exact hk) HB9.out (by rw [hd]; exact blank_first _ _ hbl))
      clear hx hd hbl hk
      go_enter Tryd.func61, Tryd.ntmps61
      go_wp2_with (go_at_call 69; refine (C.out _).mono ?_; rintro e w1 ⟨rfl, b1⟩)
      go_ret2
      exact ⟨rfl, b1⟩
    · have hbl : blankB s[0] = true := by unfold blankB; rw [hn]; rfl
      rw [escP_blank _ _ hbl] at hx
      obtain ⟨rfl, hk⟩ := Prod.mk.inj hx
      have C := hide (fun W => gap_any s W k (by rw [hd]; exact hk) HB9.out (by rw [hd]; exact blank_first _ _ hbl))
      clear hx hd hbl hk
      go_enter Tryd.func61, Tryd.ntmps61
      go_wp2_with (go_at_call 69; refine (C.out _).mono ?_; rintro e w1 ⟨rfl, b1⟩)
      go_ret2
      exact ⟨rfl, b1⟩
    · have hbl : blankB s[0] = true := by unfold blankB; rw [hn]; rfl
      rw [escP_blank _ _ hbl] at hx
      obtain ⟨rfl, hk⟩ := Prod.mk.inj hx
      have C := hide (fun W => gap_any s W k (by rw [hd]; exact hk) HB9.out (by rw [hd]; exact blank_first _ _ hbl))
      clear hx hd hbl hk
      go_enter Tryd.func61, Tryd.ntmps61
      go_wp2_with (go_at_call 69; refine (C.out _).mono ?_; rintro e w1 ⟨rfl, b1⟩)
      go_ret2
      exact ⟨rfl, b1⟩
    · have hbl : blankB s[0] = true := by unfold blankB; rw [hn]; rfl
      rw [escP_blank _ _ hbl] at hx
      obtain ⟨rfl, hk⟩ := Prod.mk.inj hx
      have C := hide (fun W => gap_any s W k (by rw [hd]; exact hk) HB9.out (by rw [hd]; exact blank_first _ _ hbl))
      clear hx hd hbl hk
      go_enter Tryd.func61, Tryd.ntmps61
      go_wp2_with (go_at_call 69; refine (C.out _).mono ?_; rintro e w1 ⟨rfl, b1⟩)
      go_ret2
      exact ⟨rfl, b1⟩
    · have dd : n = 48 ∨ n = 49 ∨ n = 50 ∨ n = 51 ∨ n = 52 ∨ n = 53 ∨ n = 54 ∨ n = 55 ∨ n = 56 ∨ n = 57 := by omega
      rcases dd with rfl | rfl | rfl | rfl | rfl | rfl | rfl | rfl | rfl | rfl
      all_goals
        rw [escP_dig _ _ (by omega)] at hx
        obtain ⟨X, hX⟩ : ∃ X, numP (s[0] :: s.data.toList.drop 1) 3 10 = X := ⟨_, rfl⟩
        rw [hX] at hx
        have C := hide (fun (W : World) (RR : Rdy W) => num3_any s W RR X (show numP (s.data.toList.drop 0) 3 10 = X by rw [← hX, ← hd]; rfl) HS.out h0)
        clear hd hX
        by_cases hneg : X < 0
        · rw [if_pos hneg] at hx
          obtain ⟨rfl, rfl⟩ := Prod.mk.inj hx
          rw [if_pos hneg] at C
          clear hx hneg
          go_enter Tryd.func61, Tryd.ntmps61
          go_wp2_with (go_at_call 70; refine (C.out _ R).mono ?_; rintro e w1 ⟨rfl, b1⟩)
          go_ret2
          exact ⟨rfl, b1⟩
        · rw [if_neg hneg] at hx
          obtain ⟨rfl, rfl⟩ := Prod.mk.inj hx
          rw [if_neg hneg] at C
          clear hx hneg
          go_enter Tryd.func61, Tryd.ntmps61
          go_wp2_with (go_at_call 70; refine (C.out _ R).mono ?_; rintro e w1 ⟨rfl, b1⟩)
          go_ret2
          exact ⟨rfl, b1⟩
    · rw [escP_other _ _ n hn o1 o2 o3 o4] at hx
      obtain ⟨rfl, rfl⟩ := Prod.mk.inj hx
      have g97 : ((n : Int) == 97) = false := by simp; omega
      have g98 : ((n : Int) == 98) = false := by simp; omega
      have g116 : ((n : Int) == 116) = false := by simp; omega
      have g110 : ((n : Int) == 110) = false := by simp; omega
      have g118 : ((n : Int) == 118) = false := by simp; omega
      have g102 : ((n : Int) == 102) = false := by simp; omega
      have g114 : ((n : Int) == 114) = false := by simp; omega
      have g34 : ((n : Int) == 34) = false := by simp; omega
      have g92 : ((n : Int) == 92) = false := by simp; omega
      have g94 : ((n : Int) == 94) = false := by simp; omega
      have g117 : ((n : Int) == 117) = false := by simp; omega
      have g9 : ((n : Int) == 9) = false := by simp; omega
      have g10 : ((n : Int) == 10) = false := by simp; omega
      have g12 : ((n : Int) == 12) = false := by simp; omega
      have g13 : ((n : Int) == 13) = false := by simp; omega
      have g32 : ((n : Int) == 32) = false := by simp; omega
      have g48 : ((n : Int) == 48) = false := by simp; omega
      have g49 : ((n : Int) == 49) = false := by simp; omega
      have g50 : ((n : Int) == 50) = false := by simp; omega
      have g51 : ((n : Int) == 51) = false := by simp; omega
      have g52 : ((n : Int) == 52) = false := by simp; omega
      have g53 : ((n : Int) == 53) = false := by simp; omega
      have g54 : ((n : Int) == 54) = false := by simp; omega
      have g55 : ((n : Int) == 55) = false := by simp; omega
      have g56 : ((n : Int) == 56) = false := by simp; omega
      have g57 : ((n : Int) == 57) = false := by simp; omega
      clear hx hd o1 o2 o3 o4
      go_enter Tryd.func61, Tryd.ntmps61
      go_wp2
      go_ret2
      exact ⟨rfl, Below.refl _ _⟩
  · have hd : s.data.toList = [] := by have := drop_end s 0 h0; simpa using this
    rw [hd] at hx
    obtain ⟨rfl, rfl⟩ := Prod.mk.inj (show ((-1 : Int), 0) = (x, k) from hx)
    have hemp : s.toList.isEmpty = true := by
      have : s.size = 0 := by omega
      have e2 : s.toList = [] := by rw [← hd]; exact Lib.toList_data s
      rw [e2]; rfl
    clear hx hd
    go_enter Tryd.func61, Tryd.ntmps61
    go_wp2
    go_ret2
    exact ⟨rfl, Below.refl _ _⟩
end Go.Proofs.YtmeooghcdgpofaaDoor
