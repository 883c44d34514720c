/- Amounts: value, lenB, small. -/
import Derived.Test.YtiglacchpmooeaaGreatDoorBig5
namespace Go.Proofs.YtiglacchpmooeaaGreatDoor
open Go.ChangeShapes Go.WideShapes Go.ChangeAt Go.RowKit

theorem or_digit (A d : Nat) (hA : A < 281474976710656) (hd : d < 65536) : bits .or .u64 ((A : Int) * 65536) (d : Int) = ((d + 65536 * A : Nat) : Int) := by
  have h := u64_or (A * 65536) d (by omega) (by omega)
  rw [show ((A * 65536 : Nat) : Int) = (A : Int) * 65536 by simp] at h
  rw [h]
  have h1 : 2 ^ 16 * A + d = 2 ^ 16 * A ||| d := Nat.two_pow_add_eq_or_of_lt hd A
  congr 1
  rw [show A * 65536 = 2 ^ 16 * A by omega, ← h1]
  omega

theorem drop_le (ds : List Nat) (k : Nat) : valD (ds.drop k) ≤ valD ds := by
  have h := valD_append (ds.take k) (ds.drop k)
  rw [List.take_append_drop] at h
  have h1 : 1 * valD (ds.drop k) ≤ 65536 ^ (ds.take k).length * valD (ds.drop k) := Nat.mul_le_mul_right _ (Nat.pow_pos (by decide))
  omega

set_option maxHeartbeats 4000000 in
theorem value_any (a : Value) (m : Nat) (w : World) (ha : IsAmt w a m) (hm : m < 18446744073709551616) : Calls Tryz.prog 49 #[a] w fun e w' => e = .returned (.int .u64 (m : Int)) ∧ w' = w := by
  obtain ⟨xs, ra, da, na, hv⟩ := ha
  have hlen : xs.length ≤ 4 := by
    rcases Nat.lt_or_ge 4 xs.length with h | h
    · obtain ⟨k, hk⟩ : ∃ k, xs.length = k + 1 := ⟨xs.length - 1, by omega⟩
      have h2 := norm_low na hk
      have h3 : 65536 ^ 4 ≤ 65536 ^ k := Nat.pow_le_pow_right (by decide) (by omega)
      have h4 : (65536 : Nat) ^ 4 = 18446744073709551616 := by decide
      omega
    · exact h
  have RA := hide ra
  obtain ⟨ao, cap, rfl⟩ := ra.form
  have HVV := hide hv
  clear na ra hv
  obtain ⟨L, eL⟩ : ∃ L, xs.length = L := ⟨_, rfl⟩
  have HL := hide eL
  rw [eL] at RA hlen ⊢
  clear eL
  go_enter Tryz.func49, Tryz.ntmps49
  go_wp2
  go_loop [3, 4] (fun x ix => ∃ k : Nat, k ≤ L ∧ ix = .int .i64 ((k : Int) - 1) ∧ x = .int .u64 ((valD (xs.drop k) : Nat) : Int)) (fun _ ix => (intOf ix + 1).toNat)
  case atStart => exact ⟨L, Nat.le_refl _, by go_num, by rw [List.drop_of_length_le (by have := HL.out; omega)]; rfl⟩
  case round =>
    obtain ⟨k, hk, rfl, rfl⟩ := hrel
    cases k with
    | zero =>
      rw [List.drop_zero, HVV.out]
      go_wp2
      go_ret
      exact ⟨rfl, rfl⟩
    | succ k =>
      obtain ⟨b, off, hbs, rfl, hcell⟩ := RA.out.at HL.out (by omega)
      have hc := hcell k (by have := HL.out; omega)
      have hx := da.getD k
      have hdr := valD_drop xs k (by have := HL.out; omega)
      have hle := drop_le xs k
      rw [HVV.out] at hle
      obtain ⟨x, ex⟩ : ∃ x, xs.getD k 0 = x := ⟨_, rfl⟩
      rw [ex] at hc hx hdr
      have hix : ((k + 1 : Nat) : Int) - 1 = (k : Int) := by omega
      have hkL : k < L := by omega
      obtain ⟨A, eA⟩ : ∃ A, valD (xs.drop (k + 1)) = A := ⟨_, rfl⟩
      rw [eA] at hdr ⊢
      have hA : A < 281474976710656 := by omega
      have ho := or_digit A x hA hx
      have HDR := hide hdr
      clear hcell ex eA hdr hle
      go_wp2
      go_round
      case rel => exact ⟨k, by omega, by go_num, by rw [HDR.out]; simp⟩
      case measure => simp [intOf]

/-- How many binary digits. -/
def blen (m : Nat) : Nat := if m = 0 then 0 else m.log2 + 1

theorem blen_half {t : Nat} (h : 0 < t) : blen t = blen (t / 2) + 1 := by
  unfold blen
  rw [if_neg (by omega)]
  rw [Nat.log2_def]
  by_cases h2 : 2 ≤ t
  · rw [if_pos h2, if_neg (by omega)]
  · rw [if_neg h2, if_pos (by omega)]

theorem blen_top {low t k : Nat} (hl : low < 65536 ^ k) (ht : 0 < t) : blen (low + 65536 ^ k * t) = 16 * k + blen t := by
  have e : (65536 : Nat) ^ k = 2 ^ (16 * k) := by rw [show (65536 : Nat) = 2 ^ 16 by decide, ← Nat.pow_mul]
  rw [e] at hl ⊢
  have p := Nat.two_pow_pos (16 * k)
  obtain ⟨P, eP⟩ : ∃ P, 2 ^ (16 * k) = P := ⟨_, rfl⟩
  have h0 : t ≠ 0 := by omega
  have lo := (Nat.log2_eq_iff h0).1 rfl
  unfold blen
  have hne : low + 2 ^ (16 * k) * t ≠ 0 := by
    rw [eP] at p ⊢
    have := Nat.mul_pos p ht
    omega
  rw [if_neg hne, if_neg h0]
  have : (low + 2 ^ (16 * k) * t).log2 = 16 * k + t.log2 := by
    refine (Nat.log2_eq_iff hne).2 ⟨?_, ?_⟩
    · rw [Nat.pow_add]
      have := Nat.mul_le_mul_left (2 ^ (16 * k)) lo.1
      omega
    · rw [Nat.add_assoc, Nat.pow_add]
      have := Nat.mul_le_mul_left (2 ^ (16 * k)) (show t + 1 ≤ 2 ^ (t.log2 + 1) by omega)
      rw [Nat.mul_add, Nat.mul_one] at this
      omega
  omega

set_option maxHeartbeats 4000000 in
theorem lenB_any (a : Value) (m : Nat) (w : World) (ha : IsAmt w a m) (hm : m < BIG) : Calls Tryz.prog 47 #[a] w fun e w' => e = .returned (.int .i64 ((blen m : Nat) : Int)) ∧ w' = w := by
  obtain ⟨xs, ra, da, na, hv⟩ := ha
  have hlen := len_big na (by rw [hv]; exact hm)
  clear hm
  obtain ⟨ao, cap, rfl⟩ := ra.form
  cases hx : xs.length with
  | zero =>
    have : xs = [] := List.eq_nil_of_length_eq_zero hx
    subst this
    have hm0 : m = 0 := by rw [← hv]; rfl
    subst hm0
    clear ra hv
    go_enter Tryz.func47, Tryz.ntmps47
    go_wp2
    go_ret
    exact ⟨rfl, rfl⟩
  | succ l =>
    rw [hx] at ra
    obtain ⟨b, off, hbs, rfl, hcell⟩ := ra.at hx (by omega)
    have hc := hcell l (by omega)
    have ht := na l hx
    have hd := da.getD l
    have hs := valD_take_snoc xs l (by omega)
    rw [List.take_of_length_le (by omega), hv] at hs
    have hlow := valD_lt (da.take l)
    rw [List.length_take, Nat.min_eq_left (by omega)] at hlow
    obtain ⟨t, et⟩ : ∃ t, xs.getD l 0 = t := ⟨_, rfl⟩
    rw [et] at hc ht hd hs
    have HB : Hid (blen m = 16 * l + blen t) := hide (by rw [hs]; exact blen_top hlow (by omega))
    obtain ⟨M, eM⟩ : ∃ M, l + 1 = M := ⟨_, rfl⟩
    rw [eM]
    have hM0 : ((M : Int) == 0) = false := by simp; omega
    have hM1 : (M : Int) - 1 = (l : Int) := by omega
    have hM2 : l < M := by omega
    have hl4 : l ≤ 4000 := by omega
    clear ra da na hv hx hcell ht et eM hs hlow hlen
    go_enter Tryz.func47, Tryz.ntmps47
    go_wp2
    go_loop [3, 4] (fun n v => ∃ (s c : Nat), v = .int .u16 (s : Int) ∧ n = .int .i64 ((16 * l + c : Nat) : Int) ∧ s < 65536 ∧ c ≤ 100 ∧ blen s + c = blen t) (fun _ v => (intOf v).toNat)
    case atStart => exact ⟨t, 0, rfl, by go_num, hd, by omega, by omega⟩
    case round =>
      obtain ⟨s, c, rfl, rfl, hs, hc100, hbl⟩ := hrel
      have HBL := hide hbl
      clear hbl
      by_cases h0 : s = 0
      · subst h0
        go_wp2
        go_ret
        refine ⟨ret_int ?_, rfl⟩
        have h1 := HBL.out
        have h2 : blen 0 = 0 := rfl
        rw [HB.out]
        omega
      · have h1 := blen_half (t := s) (by omega)
        have hb16 : blen s + c = blen t := HBL.out
        have hbt : blen t ≤ 16 := by
          unfold blen
          by_cases ht0 : t = 0
          · rw [if_pos ht0]; omega
          · rw [if_neg ht0]
            have := (Nat.log2_lt ht0).2 (show t < 2 ^ 16 by omega)
            omega
        have HH := hide h1
        have hcc : c ≤ 16 := by omega
        clear h1 hb16 hbt
        go_wp2
        go_round
        case rel => exact ⟨s / 2, c + 1, by go_num, by go_num, by omega, by omega, by have := HH.out; have := HBL.out; omega⟩
        case measure => simp [intOf]; omega

theorem small_digits (x : Nat) (hx : x < 18446744073709551616) : valD [x % 65536, x / 65536 % 65536, x / 4294967296 % 65536, x / 281474976710656 % 65536] = x := by
  simp only [valD]
  omega

theorem small_any (x : Nat) (hx : x < 18446744073709551616) (w : World) : Calls Tryz.prog 52 #[.int .u64 (x : Int)] w fun e w' => ∃ v, e = .returned v ∧ IsAmt w' v x ∧ Below w.heap.size w w' ∧ (∀ g, v.ownBlock = some g → w.heap.size ≤ g) := by
  have w0 : IntKind.u16.wrap (x : Int) = ((x % 65536 : Nat) : Int) := by rw [IntKind.wrap_u16]; omega
  have w1 : IntKind.u16.wrap ((x : Int) / 65536) = ((x / 65536 % 65536 : Nat) : Int) := by rw [IntKind.wrap_u16]; omega
  have w2 : IntKind.u16.wrap ((x : Int) / 4294967296) = ((x / 4294967296 % 65536 : Nat) : Int) := by rw [IntKind.wrap_u16]; omega
  have w3 : IntKind.u16.wrap ((x : Int) / 281474976710656) = ((x / 281474976710656 % 65536 : Nat) : Int) := by rw [IntKind.wrap_u16]; omega
  have HS := hide (small_digits x hx)
  have h0 : x % 65536 < 65536 := by omega
  have h1 : x / 65536 % 65536 < 65536 := by omega
  have h2 : x / 4294967296 % 65536 < 65536 := by omega
  have h3 : x / 281474976710656 % 65536 < 65536 := by omega
  obtain ⟨d0, e0⟩ : ∃ d, x % 65536 = d := ⟨_, rfl⟩
  obtain ⟨d1, e1⟩ : ∃ d, x / 65536 % 65536 = d := ⟨_, rfl⟩
  obtain ⟨d2, e2⟩ : ∃ d, x / 4294967296 % 65536 = d := ⟨_, rfl⟩
  obtain ⟨d3, e3⟩ : ∃ d, x / 281474976710656 % 65536 = d := ⟨_, rfl⟩
  rw [e0] at w0 h0 HS
  rw [e1] at w1 h1 HS
  rw [e2] at w2 h2 HS
  rw [e3] at w3 h3 HS
  clear e0 e1 e2 e3
  have RW : Row (w.alloc (.cells #[.int .u16 (d0 : Int), .int .u16 (d1 : Int), .int .u16 (d2 : Int), .int .u16 (d3 : Int)] 54)) (.slice (some ⟨w.heap.size, 0, none⟩) 4 4) [d0, d1, d2, d3] := by
    refine Or.inr ⟨w.heap.size, 0, 4, rfl, by simp, Nat.le_refl _, by decide, fun j hj => ?_⟩
    have : j = 0 ∨ j = 1 ∨ j = 2 ∨ j = 3 := by simp at hj; omega
    rcases this with rfl | rfl | rfl | rfl <;> simp
  have TR := trim_any _ [d0, d1, d2, d3] _ RW (by intro d hd; simp at hd; rcases hd with rfl | rfl | rfl | rfl <;> assumption)
  have HR := hide RW
  clear RW
  go_enter Tryz.func52, Tryz.ntmps52
  go_wp2_with (go_at_call 60; refine TR.mono ?_; rintro e w' ⟨v4, rfl, h4, f4, rfl⟩)
  go_ret
  refine ⟨_, rfl, ?_, (Below.refl _ _).alloc (Nat.le_refl _) _, fun g hg => by have h7 : some w.heap.size = some g := f4 g hg; have := Option.some.inj h7; omega⟩
  rw [HS.out] at h4
  exact h4
end Go.Proofs.YtiglacchpmooeaaGreatDoor
