/- What package fix's reader of digits answers, for every text. -/
import Derived.Test.YtjlogbpnehbbbabDoorProg
import Derived.Test.YtjlogbpnehbbbabDoorBase
import Derived.Test.YtjlogbpnehbbbabDoorRight
import Derived.WalkKit
import Derived.ProofKit
import Derived.OpenShut
import Derived.Below
namespace Go.Proofs.YtjlogbpnehbbbabDoor
open Go.ChangeShapes Go.WideShapes Go.ChangeAt Go.RowKit

/-- What a character says as a digit; 16 if it is none. -/
def digI (c : Int) : Int := if 48 ≤ c ∧ c ≤ 57 then c - 48 else if 97 ≤ c ∧ c ≤ 102 then c - 97 + 10 else if 65 ≤ c ∧ c ≤ 70 then c - 65 + 10 else 16
theorem digI_bd (c : Int) : 0 ≤ digI c ∧ digI c ≤ 16 := by unfold digI; split <;> (try split) <;> (try split) <;> omega
theorem digI_high {c : Int} (h : 128 ≤ c) : digI c = 16 := by unfold digI; split <;> (try split) <;> (try split) <;> omega

theorem digit_any (c : Int) (w : World) (hc : 0 ≤ c ∧ c ≤ 2147483647) : Calls Tryd.prog 22 #[.int .i32 c] w fun e w' => e = .returned (.int .u64 (digI c)) ∧ w' = w := by
  have H : Hid (digI c = if 48 ≤ c ∧ c ≤ 57 then c - 48 else if 97 ≤ c ∧ c ≤ 102 then c - 97 + 10 else if 65 ≤ c ∧ c ≤ 70 then c - 65 + 10 else 16) := rfl
  have cs : (48 ≤ c ∧ c ≤ 57) ∨ (97 ≤ c ∧ c ≤ 102) ∨ (65 ≤ c ∧ c ≤ 70) ∨ c < 48 ∨ (57 < c ∧ c < 65) ∨ (70 < c ∧ c < 97) ∨ 102 < c := by omega
  rcases cs with h | h | h | h | h | h | h
  all_goals
    have HH := hide h
    go_enter Tryd.func22, Tryd.ntmps22
    go_wp2
    go_ret
    have hh := HH.out
    refine ⟨ret_int ?_, rfl⟩
    rw [H.out]
    split <;> (try split) <;> (try split) <;> omega

/-- One digit more, held at 2^62 + 1. -/
def stepI (base n d : Int) : Int := if (4611686018427387904 - d) / base < n then 4611686018427387905 else n * base + d
/-- The digits with which a text begins: what they say, and how many they are. -/
def leadGo (base n : Int) (i : Nat) : List UInt8 → Int × Nat
  | [] => (n, i)
  | c :: r => if base ≤ digI c.toNat then (n, i) else leadGo base (stepI base n (digI c.toNat)) (i + 1) r
theorem leadGo_at (base n : Int) (s : ByteArray) (k : Nat) (h : k < s.size) :
    leadGo base n k (s.data.toList.drop k) = if base ≤ digI (s[k].toNat : Int) then (n, k) else leadGo base (stepI base n (digI (s[k].toNat : Int))) (k + 1) (s.data.toList.drop (k + 1)) := by
  have e : s.data.toList.drop k = s[k] :: s.data.toList.drop (k + 1) := by
    rw [List.drop_eq_getElem_cons (by simpa using h)]; rfl
  rw [e, leadGo]
theorem leadGo_end (base n : Int) (s : ByteArray) (k : Nat) (h : ¬ k < s.size) : leadGo base n k (s.data.toList.drop k) = (n, k) := by
  have e : s.data.toList.drop k = [] := List.drop_of_length_le (by simp; omega)
  rw [e, leadGo]
theorem stepI_bd {base n d : Int} (hb : 2 ≤ base ∧ base ≤ 16) (hn : 0 ≤ n ∧ n ≤ 4611686018427387905) (hd : 0 ≤ d ∧ d ≤ 16) : 0 ≤ stepI base n d ∧ stepI base n d ≤ 4611686018427387905 := by
  unfold stepI
  split
  · omega
  · rename_i h
    have h1 := (Int.le_ediv_iff_mul_le (show 0 < base by omega)).mp (show n ≤ (4611686018427387904 - d) / base by omega)
    have h2 := Int.mul_nonneg hn.1 (show 0 ≤ base by omega)
    omega

set_option maxHeartbeats 1000000 in
theorem leading_any (s : ByteArray) (base : Int) (w : World) (hb : 2 ≤ base ∧ base ≤ 16) :
    Calls Tryd.prog 13 #[.string s, .int .u64 base] w fun e w' => e = .returned (.tuple #[.int .u64 (leadGo base 0 0 s.data.toList).1, .int .i64 (leadGo base 0 0 s.data.toList).2]) ∧ ∃ p, w' = w.iter s p := by
  obtain ⟨R, HR⟩ : ∃ R, Hid (leadGo base 0 0 s.data.toList = R) := ⟨_, rfl⟩
  rw [HR.out]
  go_enter Tryd.func13, Tryd.ntmps13
  go_wp2
  go_loopw [6] (fun a wr => ∃ (pos : Nat) (n : Int), pos ≤ s.size ∧ wr = w.iter s pos ∧ a = .int .u64 n ∧ (0 ≤ n ∧ n ≤ 4611686018427387905) ∧ leadGo base n pos (s.data.toList.drop pos) = R) (fun _ wr => s.size - wr.iterPos w.heap.size)
  case atStart => exact ⟨0, 0, Nat.zero_le _, rfl, rfl, by omega, by simpa using HR.out⟩
  case round =>
    obtain ⟨pos, n, hp, rfl, rfl, hn, hg⟩ := hrel
    have HG := hide hg
    clear hg
    have HE := hide (World.iterPos_iter w s pos)
    by_cases hlt : pos < s.size
    · have HA := hide (leadGo_at base n s pos hlt)
      by_cases ha : (s[pos]'hlt).toNat < 128
      · have hnx := fun ty => run_next_ascii (P := Tryd.prog) w s pos ty hlt ha
        obtain ⟨c, hc, hcb⟩ : ∃ c : Int, Hid (((s[pos]'hlt).toNat : Int) = c) ∧ (0 ≤ c ∧ c < 128) := ⟨_, rfl, by omega⟩
        rw [hc.out] at hnx
        have HA2 := HA.out
        rw [hc.out] at HA2
        have HA3 := hide HA2
        clear HA2 HA ha
        obtain ⟨d, hd, hdb⟩ : ∃ d, digI c = d ∧ (0 ≤ d ∧ d ≤ 16) := ⟨_, rfl, digI_bd c⟩
        have HD := hide hd
        by_cases hge : base ≤ d
        · have HGE := hide hge
          go_wp2_with (go_at_call 22; refine (digit_any _ _ (by omega)).mono ?_; rintro e w' ⟨rfl, rfl⟩)
          go_ret2
          have e1 := HG.out
          rw [HA3.out, HD.out, if_pos HGE.out] at e1
          exact ⟨ret_two (by rw [← e1]) (by rw [← e1]), _, rfl⟩
        · have HGE := hide hge
          have hdv := Int.ediv_nonneg (show 0 ≤ 4611686018427387904 - d by omega) (show 0 ≤ base by omega)
          have hdv2 := Int.ediv_le_self base (show 0 ≤ 4611686018427387904 - d by omega)
          have HSB := hide (stepI_bd hb hn hdb)
          by_cases hst : (4611686018427387904 - d) / base < n
          · have HS : Hid (stepI base n d = 4611686018427387905) := if_pos hst
            go_wp2_with (go_at_call 22; refine (digit_any _ _ (by omega)).mono ?_; rintro e w' ⟨rfl, rfl⟩)
            go_roundw
            case rel =>
              have e1 := HG.out
              rw [HA3.out, HD.out, if_neg (by have := HGE.out; omega), HS.out] at e1
              exact ⟨pos + 1, _, by omega, rfl, rfl, by omega, e1⟩
            case measure => simp; omega
          · have HS : Hid (stepI base n d = n * base + d) := if_neg hst
            have hm := Int.mul_nonneg hn.1 (show 0 ≤ base by omega)
            have hm2 := HSB.out
            rw [HS.out] at hm2
            go_wp2_with (go_at_call 22; refine (digit_any _ _ (by omega)).mono ?_; rintro e w' ⟨rfl, rfl⟩)
            go_roundw
            case rel =>
              have e1 := HG.out
              rw [HA3.out, HD.out, if_neg (by have := HGE.out; omega), HS.out] at e1
              exact ⟨pos + 1, _, by omega, rfl, rfl, by omega, e1⟩
            case measure => simp; omega
      · have hnx := fun ty => run_next_any (P := Tryd.prog) w s pos ty hlt
        obtain ⟨c, hc, hcb⟩ : ∃ c : Int, Hid (((Utf8.decode s pos).1 : Int) = c) ∧ (128 ≤ c ∧ c ≤ 2147483647) := ⟨_, rfl, by have := (decode_high s pos hlt (by omega)).1; omega, by have := decode_le s pos; omega⟩
        rw [hc.out] at hnx
        have hd := digI_high hcb.1
        have HD : Hid (base ≤ digI ((s[pos]'hlt).toNat : Int)) := by
          have := @digI_high ((s[pos]'hlt).toNat : Int) (by omega)
          show base ≤ digI ((s[pos]'hlt).toNat : Int)
          omega
        clear ha
        go_wp2_with (go_at_call 22; refine (digit_any _ _ (by omega)).mono ?_; rintro e w' ⟨rfl, rfl⟩)
        go_ret2
        have e1 := HG.out
        rw [HA.out, if_pos HD.out] at e1
        exact ⟨ret_two (by rw [← e1]) (by rw [← e1]), _, rfl⟩
    · have hnx := fun ty => run_next_end (P := Tryd.prog) w s pos ty hlt
      have HEnd := hide (leadGo_end base n s pos hlt)
      have hpp : pos = s.size := by omega
      clear HE
      subst hpp
      go_wp2
      go_ret2
      have e1 := HG.out
      rw [HEnd.out] at e1
      exact ⟨ret_two (by rw [← e1]) (by rw [← e1]), _, rfl⟩
end Go.Proofs.YtjlogbpnehbbbabDoor
