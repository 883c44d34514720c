/- The document's own reader of escapes: the number of some digits. -/
import Derived.Test.YtgjcbgconkiedaaDoorProg
import Derived.Test.YtgjcbgconkiedaaDoorStr1
import Derived.Test.YtgjcbgconkiedaaDoorStr3
import Derived.WalkKit
import Derived.ProofKit
import Derived.OpenShut
import Derived.Below
import Derived.WalkLawsBesides
import Derived.OwnWalk
import Derived.Lib.IndexBytes
namespace Go.Proofs.YtgjcbgconkiedaaDoor
open Go.ChangeShapes Go.WideShapes Go.ChangeAt Go.RowKit

theorem foldN_at (b v : Nat) (s : ByteArray) (at' n k : Nat) (hk : k < n) (h : at' + k < s.size) : foldN b v (((s.data.toList.drop at').take n).drop k) = if worthN (s[at' + k]'h) < b then foldN b (v * b + worthN (s[at' + k]'h)) (((s.data.toList.drop at').take n).drop (k + 1)) else none := by
  have hl : k < ((s.data.toList.drop at').take n).length := by
    rw [List.length_take, List.length_drop, ← Lib.size_eq]; omega
  have e : ((s.data.toList.drop at').take n).drop k = s[at' + k] :: ((s.data.toList.drop at').take n).drop (k + 1) := by
    rw [List.drop_eq_getElem_cons hl]
    congr 1
    simp
    rfl
  rw [e, foldN]
theorem foldN_at' (b v : Nat) (s : ByteArray) (p n k j : Nat) (hj : p + k = j) (hk : k < n) (h : j < s.size) : foldN b v (((s.data.toList.drop p).take n).drop k) = if worthN (s[j]'h) < b then foldN b (v * b + worthN (s[j]'h)) (((s.data.toList.drop p).take n).drop (k + 1)) else none := by
  subst hj
  exact foldN_at b v s p n k hk h
theorem foldN_end (b v : Nat) (l : List UInt8) (n : Nat) : foldN b v ((l.take n).drop n) = some v := by
  rw [List.drop_eq_nil_of_le (List.length_take_le _ _)]; rfl
theorem worthN_le (c : UInt8) : worthN c ≤ 99 := by
  have hc := c.toNat_lt
  unfold worthN
  repeat' split
  all_goals omega

theorem step_bd {v b d k : Nat} (hb : b ≤ 16) (hd : d < b) (hv : v < 16 ^ k) : v * b + d < 16 ^ (k + 1) := by
  have h1 : v * b ≤ v * 16 := Nat.mul_le_mul_left v hb
  have h2 : 16 ^ (k + 1) = 16 ^ k * 16 := Nat.pow_succ _ _
  have h3 : (v + 1) * 16 ≤ 16 ^ k * 16 := Nat.mul_le_mul_right 16 hv
  omega
theorem small_bd {v k : Nat} (hk : k ≤ 4) (hv : v < 16 ^ k) : v ≤ 65535 := by
  have : 16 ^ k ≤ 16 ^ 4 := Nat.pow_le_pow_right (by decide) hk
  omega

set_option maxRecDepth 100000 in
set_option maxHeartbeats 2000000 in
theorem number_any (s : ByteArray) (p n b : Nat) (w : World) (x : Int) (hx : numP (s.data.toList.drop p) n b = x) (hs : s.size ≤ 281474976710656) (hp : p ≤ s.size) (hn : n ≤ 4) (hb : 2 ≤ b ∧ b ≤ 16) :
    Calls Tryd.prog 40 #[.string s, .int .i64 (p : Int), .int .i64 (n : Int), .int .i64 (b : Int)] w fun e w' => e = .returned (.int .i64 x) ∧ w' = w := by
  obtain ⟨f, hf⟩ : ∃ f, p + n = f := ⟨_, rfl⟩
  have hfi : (p : Int) + (n : Int) = (f : Int) := by omega
  have hfb : f ≤ 300000000000000 := by omega
  unfold numP at hx
  rw [List.length_drop, ← Lib.size_eq] at hx
  by_cases h1 : s.size < f
  · rw [if_pos (by omega)] at hx
    subst hx
    clear hf hn hb
    go_enter Tryd.func40, Tryd.ntmps40
    go_wp2
    go_ret
    exact ⟨rfl, rfl⟩
  · rw [if_neg (by omega)] at hx
    obtain ⟨F, HF⟩ : ∃ F, Hid (foldN b 0 ((s.data.toList.drop p).take n) = F) := ⟨_, rfl⟩
    rw [HF.out] at hx
    have HX := hide hx
    have HP := hide hf
    have HN := hide hn
    clear hx hf hn
    go_enter Tryd.func40, Tryd.ntmps40
    go_wp2
    go_loop [9, 10] (fun vv vi => ∃ k v j : Nat, vi = .int .i64 (j : Int) ∧ vv = .int .i64 (v : Int) ∧ j ≤ f ∧ v ≤ 65535 ∧ Hid (p + k = j ∧ k ≤ n ∧ v < 16 ^ k ∧ F = foldN b v (((s.data.toList.drop p).take n).drop k))) (fun _ vi => f - (intOf vi).toNat)
    case atStart => exact ⟨0, 0, p, rfl, rfl, by have := HP.out; omega, Nat.zero_le _, rfl, Nat.zero_le _, by decide, HF.out.symm⟩
    case round =>
      obtain ⟨k, v, j, rfl, rfl, hjf, hv2, HI⟩ := hrel
      by_cases hlt : j < f
      · have hjs : j < s.size := by omega
        have HI2 := hide (HI.out.2.2.2.trans (foldN_at' b v s p n k j HI.out.1 (by have := HI.out.1; have := HP.out; omega) hjs))
        obtain ⟨c, hc⟩ : ∃ c, s[j]'hjs = c := ⟨_, rfl⟩
        have hcn : (s[j]'hjs).toNat = c.toNat := by rw [hc]
        rw [hc] at HI2
        have CW := hide (fun W => worth_any c W)
        have hw99 := worthN_le c
        clear hc
        obtain ⟨d, hd⟩ : ∃ d, worthN c = d := ⟨_, rfl⟩
        rw [hd] at HI2 hw99
        have hwi : worthI c = if d = 99 then -1 else (d : Int) := by unfold worthI; rw [hd]
        rw [hwi] at CW
        obtain ⟨m, hm⟩ : ∃ m, c.toNat = m := ⟨_, rfl⟩
        have hm2 : m < 256 := by rw [← hm]; exact c.toNat_lt
        rw [hm] at hcn CW
        clear hd hwi hm
        by_cases hdb : d < b
        · have hd99 : ¬ d = 99 := by omega
          rw [if_neg hd99] at CW
          have hmul : v * b ≤ 65535 * 16 := Nat.mul_le_mul hv2 hb.2
          have HE : Hid (p + (k + 1) = j + 1 ∧ k + 1 ≤ n ∧ v * b + d < 16 ^ (k + 1) ∧ F = foldN b (v * b + d) (((s.data.toList.drop p).take n).drop (k + 1))) := by
            refine ⟨by have := HI.out.1; omega, by have := HI.out.1; have := HP.out; omega, step_bd hb.2 hdb HI.out.2.2.1, ?_⟩
            rw [HI2.out, if_pos hdb]
          have HS : Hid (v * b + d ≤ 65535) := small_bd (by have := HE.out.2.1; have := HN.out; omega) HE.out.2.2.1
          have hmi : (v : Int) * (b : Int) = ((v * b : Nat) : Int) := by simp
          obtain ⟨q, hq⟩ : ∃ q, v * b = q := ⟨_, rfl⟩
          rw [hq] at hmi hmul HE HS
          clear hq HI2 HI hd99
          go_wp2_with (go_at_call 48; refine (CW.out _).mono ?_; rintro e w0 ⟨rfl, h0⟩; replace h0 := h0.symm; subst h0)
          go_round
          case rel => exact ⟨k + 1, q + d, j + 1, by go_num, by go_num, by omega, HS.out, HE⟩
          case measure => simp [intOf]; omega
        · have HE : Hid (x = -1) := by show _ = _; rw [← HX.out, HI2.out, if_neg hdb]
          have hbi : (b : Int) ≤ (d : Int) := by omega
          by_cases hd99 : d = 99
          · rw [if_pos hd99] at CW
            clear HI2 HI hd99 hdb hbi
            go_wp2_with (go_at_call 48; refine (CW.out _).mono ?_; rintro e w0 ⟨rfl, h0⟩; replace h0 := h0.symm; subst h0)
            go_ret
            exact ⟨ret_int HE.out.symm, rfl⟩
          · rw [if_neg hd99] at CW
            clear HI2 HI hd99
            go_wp2_with (go_at_call 48; refine (CW.out _).mono ?_; rintro e w0 ⟨rfl, h0⟩; replace h0 := h0.symm; subst h0)
            go_ret
            exact ⟨ret_int HE.out.symm, rfl⟩
      · have hkn : k = n := by have := HI.out.1; have := HP.out; omega
        have HF2 : Hid (F = some v) := by show _ = _; rw [HI.out.2.2.2, hkn, foldN_end]
        have HX2 := HX.out
        rw [HF2.out] at HX2
        simp only at HX2
        clear HI hkn
        by_cases h255 : 255 < v
        · rw [if_pos h255] at HX2
          have HE := hide HX2
          clear HX2
          go_wp2
          go_ret
          exact ⟨ret_int HE.out, rfl⟩
        · rw [if_neg h255] at HX2
          have HE := hide HX2
          clear HX2
          go_wp2
          go_ret
          exact ⟨ret_int HE.out, rfl⟩
end Go.Proofs.YtgjcbgconkiedaaDoor
