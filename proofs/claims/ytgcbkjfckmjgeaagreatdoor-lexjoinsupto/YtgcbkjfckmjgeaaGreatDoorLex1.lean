/- The document's own kinds of bytes. -/
import Derived.Test.YtgcbkjfckmjgeaaGreatDoorProg
import Derived.Test.YtgcbkjfckmjgeaaGreatDoorStrM
import Derived.WalkKit
import Derived.ProofKit
import Derived.OpenShut
import Derived.Below
import Derived.WalkLawsBesides
import Derived.OwnWalk
import Derived.BigQuiet
import Derived.Lib.IndexBytes
namespace Go.Proofs.YtgcbkjfckmjgeaaGreatDoor
open Go.ChangeShapes Go.WideShapes Go.ChangeAt Go.RowKit

theorem hide {p : Prop} (h : p) : Hid p := h
theorem ret_bool {a b : Bool} (h : a = b) : Ending.returned (.bool a) = .returned (.bool b) := by rw [h]
theorem ret_int {k : IntKind} {a b : Int} (h : a = b) : Ending.returned (.int k a) = .returned (.int k b) := by rw [h]
theorem below_drew (B : Nat) (w : World) (n : Nat) : Below B w (w.drewN n) := ⟨rfl, rfl, rfl, Nat.le_refl _, fun _ _ => rfl⟩

theorem rdigit_any (c : UInt8) (w : World) : Calls Tryz.prog 45 #[.int .u8 (c.toNat : Int)] w fun e w' => e = .returned (.bool (digitB c)) ∧ w' = w := by
  obtain ⟨b, HB⟩ : ∃ b, Hid (digitB c = b) := ⟨_, rfl⟩
  obtain ⟨n, hn⟩ : ∃ n, c.toNat = n := ⟨_, rfl⟩
  have HP : Hid (b = (decide (48 ≤ n) && decide (n ≤ 57))) := by show _ = _; rw [← HB.out, ← hn]; rfl
  have hc : n < 256 := by rw [← hn]; exact c.toNat_lt
  rw [HB.out, hn]
  clear hn HB
  have cs : n < 48 ∨ 57 < n ∨ (48 ≤ n ∧ n ≤ 57) := by omega
  rcases cs with h | h | h
  all_goals
    have HH := hide h
    go_enter Tryz.func45, Tryz.ntmps45
    go_wp2
    go_ret
    refine ⟨ret_bool ?_, rfl⟩
    rw [HP.out]
    have hh := HH.out
    first | (symm; simp; omega) | (symm; simp; done) | (rw [Bool.eq_iff_iff]; simp; omega) | (rw [Bool.eq_iff_iff]; simp; done)

theorem rletter_any (c : UInt8) (w : World) : Calls Tryz.prog 49 #[.int .u8 (c.toNat : Int)] w fun e w' => e = .returned (.bool (letterB c)) ∧ w' = w := by
  obtain ⟨b, HB⟩ : ∃ b, Hid (letterB c = b) := ⟨_, rfl⟩
  obtain ⟨n, hn⟩ : ∃ n, c.toNat = n := ⟨_, rfl⟩
  have HP : Hid (b = ((decide (97 ≤ n) && decide (n ≤ 122)) || (decide (65 ≤ n) && decide (n ≤ 90)))) := by show _ = _; rw [← HB.out, ← hn]; rfl
  have hc : n < 256 := by rw [← hn]; exact c.toNat_lt
  rw [HB.out, hn]
  clear hn HB
  have cs : n < 65 ∨ (65 ≤ n ∧ n ≤ 90) ∨ (90 < n ∧ n < 97) ∨ (97 ≤ n ∧ n ≤ 122) ∨ 122 < n := by omega
  rcases cs with h | h | h | h | h
  all_goals
    have HH := hide h
    go_enter Tryz.func49, Tryz.ntmps49
    go_wp2
    go_ret
    refine ⟨ret_bool ?_, rfl⟩
    rw [HP.out]
    have hh := HH.out
    first | (symm; simp; omega) | (symm; simp; done) | (rw [Bool.eq_iff_iff]; simp; omega) | (rw [Bool.eq_iff_iff]; simp; done)

theorem rblank_any (c : UInt8) (w : World) : Calls Tryz.prog 19 #[.int .u8 (c.toNat : Int)] w fun e w' => e = .returned (.bool (lblankB c)) ∧ w' = w := by
  obtain ⟨b, HB⟩ : ∃ b, Hid (lblankB c = b) := ⟨_, rfl⟩
  obtain ⟨n, hn⟩ : ∃ n, c.toNat = n := ⟨_, rfl⟩
  have HP : Hid (b = (decide (n = 9) || decide (n = 10) || decide (n = 12) || decide (n = 13) || decide (n = 32))) := by show _ = _; rw [← HB.out, ← hn]; rfl
  have hc : n < 256 := by rw [← hn]; exact c.toNat_lt
  rw [HB.out, hn]
  clear hn HB
  have cs : n = 9 ∨ n = 10 ∨ n = 12 ∨ n = 13 ∨ n = 32 ∨ (n ≠ 9 ∧ n ≠ 10 ∧ n ≠ 12 ∧ n ≠ 13 ∧ n ≠ 32) := by omega
  rcases cs with rfl | rfl | rfl | rfl | rfl | ⟨h1, h2, h3, h4, h5⟩
  case inr.inr.inr.inr.inr =>
    have HF : Hid (b = false) := by show _ = _; rw [HP.out]; simp [h1, h2, h3, h4, h5]
    have g1 : ((n : Int) == 9) = false := by simp; omega
    have g2 : ((n : Int) == 10) = false := by simp; omega
    have g3 : ((n : Int) == 12) = false := by simp; omega
    have g4 : ((n : Int) == 13) = false := by simp; omega
    have g5 : ((n : Int) == 32) = false := by simp; omega
    go_enter Tryz.func19, Tryz.ntmps19
    go_wp2
    go_ret
    exact ⟨ret_bool HF.out.symm, rfl⟩
  all_goals
    go_enter Tryz.func19, Tryz.ntmps19
    go_wp2
    go_ret
    exact ⟨ret_bool (by rw [HP.out]; rfl), rfl⟩

set_option maxRecDepth 100000 in
theorem rin_any (c : UInt8) (s : ByteArray) (hs : s.size ≤ 1000) (w : World) : Calls Tryz.prog 48 #[.int .u8 (c.toNat : Int), .string s] w fun e w' => e = .returned (.bool (s.data.toList.contains c)) ∧ w' = w := by
  obtain ⟨b, HB⟩ : ∃ b, Hid (s.data.toList.contains c = b) := ⟨_, rfl⟩
  rw [HB.out]
  go_enter Tryz.func48, Tryz.ntmps48
  go_wp2
  go_loop [5] (fun vi => ∃ k : Nat, vi = .int .i64 (k : Int) ∧ k ≤ s.size ∧ Hid (b = (s.data.toList.drop k).contains c)) (fun vi => s.size - (intOf vi).toNat)
  case atStart => exact ⟨0, rfl, Nat.zero_le _, HB.out.symm⟩
  case round =>
    obtain ⟨k, rfl, hk, HI⟩ := hrel
    by_cases h1 : k < s.size
    · have hI := HI.out
      rw [drop_at s k h1, List.contains_cons] at hI
      obtain ⟨m, hm⟩ : ∃ m, (s[k]'h1).toNat = m := ⟨_, rfl⟩
      by_cases he : s[k]'h1 = c
      · have HT : Hid (b = true) := by show _ = _; rw [hI, he]; simp
        have hmc : m = c.toNat := by rw [← hm, he]
        clear hI HI he
        subst hmc
        go_wp2
        go_ret
        exact ⟨ret_bool HT.out.symm, rfl⟩
      · have HT : Hid (b = (s.data.toList.drop (k + 1)).contains c) := by
          show _ = _
          rw [hI]
          have : (c == s[k]'h1) = false := by simp; exact fun e => he e.symm
          rw [this, Bool.false_or]
        have hmc : ¬ m = c.toNat := by rw [← hm]; exact fun e => he (UInt8.toNat_inj.1 e)
        have g : ((m : Int) == (c.toNat : Int)) = false := by simp; omega
        clear hI HI he
        go_wp2
        go_round
        case rel => exact ⟨k + 1, by go_num, by omega, HT⟩
        case measure => simp [intOf]; omega
    · have HT : Hid (b = false) := by show _ = _; rw [HI.out, drop_end s k h1]; rfl
      go_wp2
      go_ret
      exact ⟨ret_bool HT.out.symm, rfl⟩

theorem rsign_any (c : UInt8) (w : World) : Calls Tryz.prog 50 #[.int .u8 (c.toNat : Int)] w fun e w' => e = .returned (.bool (signB c)) ∧ w' = w := by
  have C := hide (fun W => rin_any c ⟨#[33, 37, 38, 36, 35, 43, 45, 47, 58, 60, 61, 62, 63, 64, 92, 126, 96, 94, 124, 42]⟩ (by decide) W)
  obtain ⟨b, HB⟩ : ∃ b, Hid (signB c = b) := ⟨_, rfl⟩
  rw [HB.out]
  have e : (ByteArray.mk #[33, 37, 38, 36, 35, 43, 45, 47, 58, 60, 61, 62, 63, 64, 92, 126, 96, 94, 124, 42]).data.toList.contains c = b := by rw [← HB.out]; rfl
  simp only [e] at C
  clear e
  go_enter Tryz.func50, Tryz.ntmps50
  go_wp2_with (go_at_call 48; refine (C.out _).mono ?_; rintro e w1 ⟨rfl, rfl⟩)
  go_ret
  exact ⟨rfl, rfl⟩

theorem rword_any (c : UInt8) (w : World) : Calls Tryz.prog 71 #[.int .u8 (c.toNat : Int)] w fun e w' => e = .returned (.bool (wordB c)) ∧ w' = w := by
  have C1 := hide (fun W => rletter_any c W)
  have C2 := hide (fun W => rdigit_any c W)
  obtain ⟨b, HB⟩ : ∃ b, Hid (wordB c = b) := ⟨_, rfl⟩
  obtain ⟨n, hn⟩ : ∃ n, c.toNat = n := ⟨_, rfl⟩
  have HP : Hid (b = (letterB c || digitB c || decide (n = 95) || decide (n = 39))) := by show _ = _; rw [← HB.out, ← hn]; rfl
  rw [HB.out, hn]
  rw [hn] at C1 C2
  clear hn HB
  generalize letterB c = l at C1 HP
  generalize digitB c = d at C2 HP
  cases l <;> cases d
  case false.false =>
    by_cases h1 : n = 95
    · subst h1
      go_enter Tryz.func71, Tryz.ntmps71
      go_wp2_with (first | (go_at_call 49; refine (C1.out _).mono ?_; rintro e w1 ⟨rfl, rfl⟩) | (go_at_call 45; refine (C2.out _).mono ?_; rintro e w1 ⟨rfl, rfl⟩))
      go_ret
      exact ⟨ret_bool (by rw [HP.out]; rfl), rfl⟩
    · by_cases h2 : n = 39
      · subst h2
        go_enter Tryz.func71, Tryz.ntmps71
        go_wp2_with (first | (go_at_call 49; refine (C1.out _).mono ?_; rintro e w1 ⟨rfl, rfl⟩) | (go_at_call 45; refine (C2.out _).mono ?_; rintro e w1 ⟨rfl, rfl⟩))
        go_ret
        exact ⟨ret_bool (by rw [HP.out]; rfl), rfl⟩
      · have g1 : ((n : Int) == 95) = false := by simp; omega
        have g2 : ((n : Int) == 39) = false := by simp; omega
        have HF : Hid (b = false) := by show _ = _; rw [HP.out]; simp [h1, h2]
        clear HP h1 h2
        go_enter Tryz.func71, Tryz.ntmps71
        go_wp2_with (first | (go_at_call 49; refine (C1.out _).mono ?_; rintro e w1 ⟨rfl, rfl⟩) | (go_at_call 45; refine (C2.out _).mono ?_; rintro e w1 ⟨rfl, rfl⟩))
        go_ret
        exact ⟨ret_bool HF.out.symm, rfl⟩
  all_goals
    go_enter Tryz.func71, Tryz.ntmps71
    go_wp2_with (first | (go_at_call 49; refine (C1.out _).mono ?_; rintro e w1 ⟨rfl, rfl⟩) | (go_at_call 45; refine (C2.out _).mono ?_; rintro e w1 ⟨rfl, rfl⟩))
    go_ret
    exact ⟨ret_bool (by rw [HP.out]; simp), rfl⟩

theorem rhex_any (c : UInt8) (w : World) : Calls Tryz.prog 72 #[.int .u8 (c.toNat : Int)] w fun e w' => e = .returned (.bool (hexB c)) ∧ w' = w := by
  have C2 := hide (fun W => rdigit_any c W)
  obtain ⟨b, HB⟩ : ∃ b, Hid (hexB c = b) := ⟨_, rfl⟩
  obtain ⟨n, hn⟩ : ∃ n, c.toNat = n := ⟨_, rfl⟩
  have HP : Hid (b = (digitB c || (decide (97 ≤ n) && decide (n ≤ 102)) || (decide (65 ≤ n) && decide (n ≤ 70)))) := by show _ = _; rw [← HB.out, ← hn]; rfl
  have hc : n < 256 := by rw [← hn]; exact c.toNat_lt
  rw [HB.out, hn]
  rw [hn] at C2
  clear hn HB
  generalize digitB c = d at C2 HP
  have cs : n < 65 ∨ (65 ≤ n ∧ n ≤ 70) ∨ (70 < n ∧ n < 97) ∨ (97 ≤ n ∧ n ≤ 102) ∨ 102 < n := by omega
  cases d
  all_goals
    rcases cs with h | h | h | h | h
    all_goals
      have HH := hide h
      go_enter Tryz.func72, Tryz.ntmps72
      go_wp2_with (go_at_call 45; refine (C2.out _).mono ?_; rintro e w1 ⟨rfl, rfl⟩)
      go_ret
      refine ⟨ret_bool ?_, rfl⟩
      rw [HP.out]
      have hh := HH.out
      first | (symm; simp; omega) | (symm; simp; done) | (rw [Bool.eq_iff_iff]; simp; omega) | (rw [Bool.eq_iff_iff]; simp; done)
end Go.Proofs.YtgcbkjfckmjgeaaGreatDoor
