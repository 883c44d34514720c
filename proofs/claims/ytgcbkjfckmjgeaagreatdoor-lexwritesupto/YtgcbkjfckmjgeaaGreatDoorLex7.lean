/- The document's reserved words and signs. -/
import Derived.Test.YtgcbkjfckmjgeaaGreatDoorProg
import Derived.Test.YtgcbkjfckmjgeaaGreatDoorLexB
import Derived.WalkKit
import Derived.ProofKit
import Derived.OpenShut
import Derived.Below
import Derived.WalkLawsBesides
import Derived.OwnWalk
import Derived.BigQuiet
import Derived.Test.YtgcbkjfckmjgeaaGreatDoorStrM
import Derived.Test.YtgcbkjfckmjgeaaGreatDoorLex1
import Derived.Lib.IndexBytes
namespace Go.Proofs.YtgcbkjfckmjgeaaGreatDoor
open Go.ChangeShapes Go.WideShapes Go.ChangeAt Go.RowKit

set_option maxRecDepth 100000 in
set_option maxHeartbeats 4000000 in
theorem words_any (w : World) : Calls Tryz.prog 28 #[] w fun e w' => e = .returned (.slice (some ⟨w.heap.size, 0, none⟩) 58 58) ∧ w' = w.alloc (.cells (wordsS.map Value.string).toArray 9) := by
  go_enter Tryz.func28, Tryz.ntmps28
  go_wp2
  go_ret
  exact ⟨rfl, rfl⟩

theorem words_cell (w w' : World) (b : Below (w.heap.size + 1) (w.alloc (.cells (wordsS.map Value.string).toArray 9)) w') (k : Nat) (hk : k < 58) : w'.cell? ⟨w.heap.size, k, none⟩ = some (.string (wordsS[k]'hk)) := by
  rw [b.cell (p := ⟨w.heap.size, k, none⟩) (Nat.lt_succ_self _)]
  have h : (w.alloc (.cells (wordsS.map Value.string).toArray 9)).heap[w.heap.size]? = some (.cells (wordsS.map Value.string).toArray 9 (0, 0)) := by
    show (w.heap.push _)[w.heap.size]? = _
    simp
  unfold World.cell?
  rw [h]
  simp [wordsS_len, hk]
  rfl
theorem words_at (s : ByteArray) (k : Nat) (hk : k < 58) : (wordsL.drop k).contains s.data.toList = ((wordsS[k]'hk).toList == s.toList || (wordsL.drop (k + 1)).contains s.data.toList) := by
  rw [List.drop_eq_getElem_cons (show k < wordsL.length from hk), List.contains_cons]
  congr 1
  have e : (wordsS[k]'hk).toList = wordsL[k]'hk := by
    rw [ByteArray.toList_eq]
    simp [wordsS]
    rfl
  rw [e, ByteArray.toList_eq s]
  exact BEq.comm

set_option maxRecDepth 100000 in
set_option maxHeartbeats 4000000 in
theorem reserved_any (s : ByteArray) (w : World) : Calls Tryz.prog 13 #[.string s] w fun e w' => e = .returned (.bool (resB s)) ∧ Below w.heap.size w w' := by
  obtain ⟨b, HB⟩ : ∃ b, Hid (resB s = b) := ⟨_, rfl⟩
  rw [HB.out]
  have CW := hide (words_any w)
  generalize hC : Obj.cells (wordsS.map Value.string).toArray 9 = C at CW
  have HC := hide hC
  clear hC
  go_enter Tryz.func13, Tryz.ntmps13
  go_wp2_with (go_at_call 28; refine (CW.out).mono ?_; rintro e w1 ⟨rfl, rfl⟩)
  go_loop [4] (fun vi => ∃ k : Nat, vi = .int .i64 (k : Int) ∧ k ≤ 58 ∧ Hid (b = (wordsL.drop k).contains s.data.toList)) (fun vi => 58 - (intOf vi).toNat)
  case atStart => exact ⟨0, rfl, Nat.zero_le _, HB.out.symm⟩
  case round =>
    obtain ⟨k, rfl, hk, HI⟩ := hrel
    by_cases h1 : k < 58
    · have hcell := words_cell w _ (Below.refl _ _) k h1
      rw [HC.out] at hcell
      have hI := HI.out
      rw [words_at s k h1] at hI
      obtain ⟨z, hz⟩ : ∃ z, wordsS[k]'h1 = z := ⟨_, rfl⟩
      rw [hz] at hcell hI
      clear hz
      by_cases he : (z.toList == s.toList) = true
      · have HT : Hid (b = true) := by show _ = _; rw [hI, he]; rfl
        clear hI HI
        go_wp2
        go_ret
        exact ⟨ret_bool HT.out.symm, (Below.refl _ _).alloc (Nat.le_refl _) _⟩
      · have he' : (z.toList == s.toList) = false := by simpa using he
        have HT : Hid (b = (wordsL.drop (k + 1)).contains s.data.toList) := by show _ = _; rw [hI, he']; rfl
        clear hI HI he
        go_wp2
        go_round
        case rel => exact ⟨k + 1, by go_num, by omega, HT⟩
        case measure => simp [intOf]; omega
    · have HT : Hid (b = false) := by
        show _ = _
        rw [HI.out, List.drop_eq_nil_of_le (by rw [wordsL_len]; omega)]; rfl
      obtain rfl : k = 58 := by omega
      go_wp2
      go_ret
      exact ⟨ret_bool HT.out.symm, (Below.refl _ _).alloc (Nat.le_refl _) _⟩
end Go.Proofs.YtgcbkjfckmjgeaaGreatDoor
/- The document's own scanner: the number of some digits. -/
namespace Go.Proofs.YtgcbkjfckmjgeaaGreatDoor
open Go.ChangeShapes Go.WideShapes Go.ChangeAt Go.RowKit

theorem fold_at {b acc v : Nat} {t : ByteArray} {k : Nat} (h : k < t.size) (hf : foldN b acc (t.data.toList.drop k) = some v) : worthN (t[k]'h) < b ∧ foldN b (acc * b + worthN (t[k]'h)) (t.data.toList.drop (k + 1)) = some v := by
  rw [drop_at t k h, foldN] at hf
  by_cases c : worthN (t[k]'h) < b
  · rw [if_pos c] at hf; exact ⟨c, hf⟩
  · rw [if_neg c] at hf; cases hf
/-- What a digit is worth, by its kind. -/
theorem worth_kinds (c : UInt8) (n d : Nat) (hn : c.toNat = n) (hd : worthN c = d) (h : d < 16) : (digitB c = true ∧ 48 ≤ n ∧ n ≤ 57 ∧ d = n - 48) ∨ (digitB c = false ∧ 97 ≤ n ∧ n ≤ 102 ∧ d = n - 97 + 10) ∨ (digitB c = false ∧ 65 ≤ n ∧ n ≤ 70 ∧ d = n - 65 + 10) := by
  unfold worthN at hd
  unfold digitB
  rw [hn] at hd ⊢
  by_cases x1 : 48 ≤ n ∧ n ≤ 57
  · rw [if_pos x1] at hd
    exact .inl ⟨by simp; exact x1, x1.1, x1.2, hd.symm⟩
  · rw [if_neg x1] at hd
    by_cases x2 : 97 ≤ n ∧ n ≤ 102
    · rw [if_pos x2] at hd
      exact .inr (.inl ⟨by simp; omega, x2.1, x2.2, hd.symm⟩)
    · rw [if_neg x2] at hd
      by_cases x3 : 65 ≤ n ∧ n ≤ 70
      · rw [if_pos x3] at hd
        exact .inr (.inr ⟨by simp; omega, x3.1, x3.2, hd.symm⟩)
      · rw [if_neg x3] at hd
        omega
theorem dig_bd {v b d k : Nat} (hb : b ≤ 16) (hd : d < b) (hv : v < 16 ^ k) : v * b + d < 16 ^ (k + 1) := by
  have h1 : v * b ≤ v * 16 := Nat.mul_le_mul_left v hb
  have h2 : 16 ^ (k + 1) = 16 ^ k * 16 := Nat.pow_succ _ _
  have h3 : (v + 1) * 16 ≤ 16 ^ k * 16 := Nat.mul_le_mul_right 16 hv
  omega
theorem dig_small {v k : Nat} (hk : k ≤ 4) (hv : v < 16 ^ k) : v ≤ 65535 := by
  have : 16 ^ k ≤ 16 ^ 4 := Nat.pow_le_pow_right (by decide) hk
  omega

set_option maxRecDepth 100000 in
set_option maxHeartbeats 4000000 in
theorem digits_any (t : ByteArray) (b v : Nat) (w : World) (hb : 2 ≤ b ∧ b ≤ 16) (ht : t.size ≤ 4) (hv : foldN b 0 t.data.toList = some v) :
    Calls Tryz.prog 89 #[.string t, .int .i64 (b : Int)] w fun e w' => e = .returned (.int .i64 (v : Int)) ∧ w' = w := by
  have HV := hide hv
  clear hv
  go_enter Tryz.func89, Tryz.ntmps89
  go_wp2
  go_loop [5, 6] (fun vn vi => ∃ k acc : Nat, vi = .int .i64 (k : Int) ∧ vn = .int .i64 (acc : Int) ∧ k ≤ t.size ∧ acc ≤ 65535 ∧ Hid (acc < 16 ^ k ∧ foldN b acc (t.data.toList.drop k) = some v)) (fun _ vi => t.size - (intOf vi).toNat)
  case atStart => exact ⟨0, 0, rfl, rfl, Nat.zero_le _, Nat.zero_le _, by decide, HV.out⟩
  case round =>
    obtain ⟨k, acc, rfl, rfl, hk, hacc, HI⟩ := hrel
    by_cases h1 : k < t.size
    · have hf := fold_at h1 HI.out.2
      obtain ⟨c, hc⟩ : ∃ c, t[k]'h1 = c := ⟨_, rfl⟩
      rw [hc] at hf
      obtain ⟨d, hd⟩ : ∃ d, worthN c = d := ⟨_, rfl⟩
      rw [hd] at hf
      obtain ⟨n, hn⟩ : ∃ n, c.toNat = n := ⟨_, rfl⟩
      have hcn : (t[k]'h1).toNat = n := by rw [hc, hn]
      have hn2 : n < 256 := by rw [← hn]; exact c.toNat_lt
      have hkinds := worth_kinds c n d hn hd (by omega)
      have CD := hide (fun W => rdigit_any c W)
      rw [hn] at CD
      have hmul : acc * b ≤ 65535 * 16 := Nat.mul_le_mul hacc hb.2
      have HE : Hid (acc * b + d < 16 ^ (k + 1) ∧ foldN b (acc * b + d) (t.data.toList.drop (k + 1)) = some v) := ⟨dig_bd hb.2 hf.1 HI.out.1, hf.2⟩
      have HS : Hid (acc * b + d ≤ 65535) := dig_small (by omega) HE.out.1
      have hmi : (acc : Int) * (b : Int) = ((acc * b : Nat) : Int) := by simp
      have hdb : d < b := hf.1
      obtain ⟨q, hq⟩ : ∃ q, acc * b = q := ⟨_, rfl⟩
      rw [hq] at hmi hmul HE HS
      clear hq HI hf hc hd hn
      rcases hkinds with ⟨e, h2, h3, rfl⟩ | ⟨e, h2, h3, rfl⟩ | ⟨e, h2, h3, rfl⟩
      all_goals
        rw [e] at CD
        clear e
        go_wp2_with (go_at_call 45; refine (CD.out _).mono ?_; rintro e w0 ⟨rfl, h0⟩; replace h0 := h0.symm; subst h0)
        go_round
        case rel => exact ⟨k + 1, _, by go_num, (by congr 1; omega), by omega, HS.out, HE⟩
        case measure => simp [intOf]; omega
    · have hk2 : k = t.size := by omega
      have HF := HI.out.2
      rw [drop_end t k h1] at HF
      obtain rfl : acc = v := by simpa [foldN] using HF
      clear HI HF
      go_wp2
      go_ret
      exact ⟨rfl, rfl⟩
end Go.Proofs.YtgcbkjfckmjgeaaGreatDoor
