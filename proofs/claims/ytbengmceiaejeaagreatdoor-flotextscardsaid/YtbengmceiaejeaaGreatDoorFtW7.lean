/- How many digits a number has, and its digits in a row of bytes, without the noughts behind them. -/
import Derived.Test.YtbengmceiaejeaaGreatDoorFtW6
import Derived.Test.YtbengmceiaejeaaGreatDoorFtS
namespace Go.Proofs.YtbengmceiaejeaaGreatDoor
open Go.ChangeShapes Go.WideShapes Go.ChangeAt Go.RowKit

theorem b2i_any (b : Bool) (w : World) : Calls Tryz.prog 161 #[.bool b] w fun e w' => e = .returned (.int .i64 ((b.toNat : Nat) : Int)) ∧ w' = w := by
  cases b
  · go_enter Tryz.func161, Tryz.ntmps161
    go_wp2
    go_ret
    exact ⟨rfl, rfl⟩
  · go_enter Tryz.func161, Tryz.ntmps161
    go_wp2
    go_ret
    exact ⟨rfl, rfl⟩

theorem l10_nat (b : Nat) : l10 (b : Int) = ((Lib.l10 b : Nat) : Int) := by
  unfold l10 Lib.l10
  omega

theorem nd_any (d : Nat) (h1 : 1 ≤ d) (h2 : d < 18446744073709551616) (w : World) (R : RdyT w) : Calls Tryz.prog 122 #[.int .u64 (d : Int)] w fun e w' => e = .returned (.int .i64 ((Lib.nDigits d : Nat) : Int)) ∧ w' = w := by
  obtain ⟨hn, hq⟩ := Lib.numDigits_eq d h1 h2
  have L64 := fun w => Tryz.bits_Len64 (d : Int) w (by omega) (by omega)
  rw [show ((d : Int)).toNat = d by omega] at L64
  have hb : Lib.bitLen d ≤ 64 := Lib.bitLen_le d 64 (Nat.le_refl _) h2
  have LG := fun w => l10_any ((Lib.bitLen d : Nat) : Int) (by omega) w
  rw [l10_nat] at LG
  have T := R.tens (Lib.l10 (Lib.bitLen d)) (by omega)
  obtain ⟨b, eb⟩ : ∃ b, Lib.bitLen d = b := ⟨_, rfl⟩
  rw [eb] at L64 LG T hn hq
  obtain ⟨q, eq⟩ : ∃ q, Lib.l10 b = q := ⟨_, rfl⟩
  rw [eq] at LG T hn hq
  obtain ⟨t, et⟩ : ∃ t, 10 ^ q = t := ⟨_, rfl⟩
  rw [et] at T hn
  obtain ⟨N, eN⟩ : ∃ N, Lib.nDigits d = N := ⟨_, rfl⟩
  rw [eN] at hn ⊢
  by_cases ht : t ≤ d
  · rw [if_pos ht] at hn
    have hI : decide ((t : Int) ≤ (d : Int)) = true := decide_eq_true (by omega)
    have hN : decide (t ≤ d) = true := decide_eq_true ht
    have hR : (q : Int) + 1 = (N : Int) := by omega
    clear hn eb eq et eN ht R
    go_enter Tryz.func122, Tryz.ntmps122
    go_wp2_with (first
      | (go_at_call 119; refine (L64 _).mono ?_; rintro e w' ⟨rfl, rfl⟩)
      | (go_at_call 123; refine (LG _).mono ?_; rintro e w' ⟨rfl, rfl⟩)
      | (go_at_call 161; refine (b2i_any _ _).mono ?_; rintro e w' ⟨rfl, rfl⟩))
    go_ret
    exact ⟨rfl, rfl⟩
  · rw [if_neg ht] at hn
    have hI : decide ((t : Int) ≤ (d : Int)) = false := decide_eq_false (by omega)
    have hN : decide (t ≤ d) = false := decide_eq_false ht
    have hR : q = N := by omega
    subst hR
    clear hn eb eq et eN ht R
    go_enter Tryz.func122, Tryz.ntmps122
    go_wp2_with (first
      | (go_at_call 119; refine (L64 _).mono ?_; rintro e w' ⟨rfl, rfl⟩)
      | (go_at_call 123; refine (LG _).mono ?_; rintro e w' ⟨rfl, rfl⟩)
      | (go_at_call 161; refine (b2i_any _ _).mono ?_; rintro e w' ⟨rfl, rfl⟩))
    go_ret
    exact ⟨rfl, rfl⟩

/-- A digit, as a byte. -/
def dgN (d j : Nat) : Nat := 48 + d / 10 ^ j % 10

theorem dg_nat (d j : Nat) : (Lib.dg d j).toNat = dgN d j := by
  unfold Lib.dg dgN
  rw [UInt8.toNat_ofNat']
  have : d / 10 ^ j % 10 < 10 := Nat.mod_lt _ (by decide)
  omega

/-- Cells hold the digits. -/
def DigsN (w : World) (B d n : Nat) : Prop := ∀ j, j < n → w.cell? ⟨B, j, none⟩ = some (.int .u8 ((dgN d (n - 1 - j) : Nat) : Int))

theorem fmt10_any (B d n : Nat) (w : World) (hd : d < 10 ^ n) (hd2 : d < 18446744073709551616) (hn : n ≤ 32) (H : Sort.Holds (fun (b : UInt8) => Value.int .u8 (b.toNat : Int)) w B 0 (Array.replicate n 0)) :
    Calls Tryz.prog 131 #[.slice (some ⟨B, 0, none⟩) n 32, .int .u64 (d : Int)] w fun e w' => e = .returned (.tuple #[]) ∧ Below B w w' ∧ DigsN w' B d n := by
  have h := Tryz.internal_strconv_formatBase10 B 0 32 d (Array.replicate n 0) _ H (by rw [Array.size_replicate]; exact hd) hd2 (by rw [Array.size_replicate]; omega)
  rw [Array.size_replicate] at h
  refine h.mono ?_
  rintro e w' ⟨rfl, k, v', dk, rfl, hF⟩
  refine ⟨rfl, ?_, ?_⟩
  · refine ⟨rfl, rfl, rfl, ?_, fun k hk => ?_⟩
    · exact Nat.le_of_eq (Sort.size_putRow _ _ _ _ _).symm
    · show (Sort.putRow _ _ _ _ _).heap[k]? = _
      simp only [Sort.putRow, Sort.mapBlock, Array.getElem?_modify]
      rw [if_neg (by omega)]
  · intro j hj
    have hs := hF.size
    have hc := Sort.cell?_putRow (fun (b : UInt8) => Value.int .u8 (b.toNat : Int)) _ B 0 _ dk H (by rw [hs, Array.size_replicate]) j (by omega)
    rw [Nat.zero_add] at hc
    rw [World.cell?_drewN, hc, hF.done j (by omega) hj, dg_nat]

set_option maxHeartbeats 2000000 in
theorem setD_any (B d n i : Nat) (p : Int) (w : World) (hd : d < 10 ^ n) (hd2 : d < 18446744073709551616) (hn : n ≤ 20) (hi : i < n) (hz : ∀ t, t < i → d / 10 ^ t % 10 = 0) (hnz : d / 10 ^ i % 10 ≠ 0) (hp : -1000 ≤ p ∧ p ≤ 1000) (H : Sort.Holds (fun (b : UInt8) => Value.int .u8 (b.toNat : Int)) w B 0 (Array.replicate n 0)) :
    Calls Tryz.prog 121 #[.slice (some ⟨B, 0, none⟩) 32 32, .int .u64 (d : Int), .int .i64 p, .int .i64 (n : Int)] w fun e w' => e = .returned (.tuple #[.int .i64 ((n : Int) + p), .int .i64 ((n - i : Nat) : Int)]) ∧ Below B w w' ∧ DigsN w' B d n := by
  have FM := fmt10_any B d n w hd hd2 (by omega) H
  clear H hd
  go_enter Tryz.func121, Tryz.ntmps121
  go_wp2_with (go_at_call 131; refine FM.mono ?_; rintro e w1 ⟨rfl, b1, d1⟩)
  have HB := hide b1
  have HD := hide d1
  have HZ := hide hz
  have HNZ := hide hnz
  clear b1 d1 hz hnz FM
  go_loop [3] (fun v => ∃ t : Nat, t ≤ i ∧ v = .int .i64 ((n - t : Nat) : Int)) (fun v => (intOf v).toNat)
  case atStart => exact ⟨0, by omega, by go_num⟩
  case round =>
    obtain ⟨t, ht, rfl⟩ := hrel
    obtain ⟨c, ec⟩ : ∃ c, n - t = c + 1 := ⟨n - t - 1, by omega⟩
    rw [ec]
    have hc := HD.out c (by omega)
    have hci : n - 1 - c = t := by omega
    rw [hci] at hc
    have hix : ((c + 1 : Nat) : Int) - 1 = (c : Int) := by omega
    have hpos : decide ((0 : Int) < ((c + 1 : Nat) : Int)) = true := decide_eq_true (by omega)
    have hc32 : c < 32 := by omega
    by_cases hti : t = i
    · subst hti
      have hne : ((dgN d t : Nat) : Int) ≠ 48 := by
        have := HNZ.out
        unfold dgN
        omega
      have hneB : (((dgN d t : Nat) : Int) == 48) = false := by simpa using hne
      obtain ⟨x, ex⟩ : ∃ x : Nat, dgN d t = x := ⟨_, rfl⟩
      rw [ex] at hc hneB
      clear hne ex hci
      obtain ⟨C, eC⟩ : ∃ C, c + 1 = C := ⟨_, rfl⟩
      rw [eC] at hix hpos ec ⊢
      go_wp2
      go_ret2
      exact ⟨rfl, HB.out, HD.out⟩
    · have heq : dgN d t = 48 := by
        have := HZ.out t (by omega)
        unfold dgN
        omega
      rw [heq] at hc
      obtain ⟨C, eC⟩ : ∃ C, c + 1 = C := ⟨_, rfl⟩
      rw [eC] at hix hpos ⊢
      clear heq hci
      go_wp2
      refine ⟨⟨t + 1, by omega, ?_⟩, ?_⟩
      · rw [show n - (t + 1) = c by omega]
      · show ((c : Int)).toNat < ((C : Int)).toNat
        omega
end Go.Proofs.YtbengmceiaejeaaGreatDoor
