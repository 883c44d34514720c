/- The reference's whole: the whole number below, and how the rest stands to the half. -/
import Derived.Test.YtiglacchpmooeaaGreatDoorOf
import Derived.Test.YtiglacchpmooeaaGreatDoorNear
namespace Go.Proofs.YtiglacchpmooeaaGreatDoor
open Go.ChangeShapes Go.WideShapes Go.ChangeAt Go.RowKit
open Ieee

theorem amt_len {w : World} {ao : Option Addr} {l c n : Nat} (h : IsAmt w (.slice ao l c) n) : l = 0 ↔ n = 0 := by
  obtain ⟨ds, rr, rd, rn, rv⟩ := h
  have e := row_len rr
  rw [← e]
  rcases Nat.eq_zero_or_pos ds.length with h | h
  · rw [List.eq_nil_of_length_eq_zero h] at rv
    simp [valD] at rv
    exact ⟨fun _ => rv.symm, fun _ => h⟩
  · obtain ⟨k, hk⟩ : ∃ k, ds.length = k + 1 := ⟨ds.length - 1, by omega⟩
    have := norm_low rn hk
    have h2 : 0 < 65536 ^ k := Nat.pow_pos (by decide)
    constructor <;> intro _ <;> omega

/-- How the rest stands to the half: -1 for no rest, 0 below it, 1 at it, 2 above it. -/
def hlf (p g : Nat) : Int := if p = 0 then -1 else cmpN (p * 2 ^ 1) g + 1

theorem blen_lt (m : Nat) : m < 2 ^ blen m := by
  unfold blen
  by_cases h : m = 0
  · simp [h]
  · rw [if_neg h]; exact log2_hi h
theorem blen_ge {m : Nat} (h : 0 < m) : 2 ^ (blen m - 1) ≤ m := by
  unfold blen
  rw [if_neg (by omega)]
  exact log2_lo (by omega)

theorem two_63 : (2 : Nat) ^ 63 = 9223372036854775808 := by decide
theorem EE_63 : 2 ^ (63 + E0) = 9223372036854775808 * EE := (EE_more (b := 63) rfl).trans (congrArg (· * EE) two_63)

/-- Great ones. -/
theorem wh_over {m k : Nat} (h : 0 < m) (hg : 63 + E0 < blen m + k) : 9223372036854775808 ≤ m * 2 ^ k / EE := by
  have h1 := Nat.mul_le_mul_right (2 ^ k) (blen_ge h)
  rw [← Nat.pow_add] at h1
  have h2 : 2 ^ (63 + E0) ≤ m * 2 ^ k := Nat.le_trans (Nat.pow_le_pow_right (by decide) (by omega)) h1
  rw [EE_63] at h2
  exact (Nat.le_div_iff_mul_le EE_pos).2 h2
theorem wh_under {m k : Nat} (hg : blen m + k ≤ 63 + E0) : m * 2 ^ k / EE < 9223372036854775808 := by
  have h1 := mul_pow_lt (k := k) (blen_lt m)
  have h2 : m * 2 ^ k < 2 ^ (63 + E0) := Nat.lt_of_lt_of_le h1 (Nat.pow_le_pow_right (by decide) (by omega))
  rw [EE_63] at h2
  exact (Nat.div_lt_iff_lt_mul EE_pos).2 h2
theorem wh_up {m k s : Nat} (h : k = s + E0) : m * 2 ^ k / EE = m * 2 ^ s ∧ m * 2 ^ k % EE = 0 := by
  rw [EE_more h, ← Nat.mul_assoc]
  exact ⟨Nat.mul_div_cancel _ EE_pos, Nat.mul_mod_left _ _⟩
theorem cmpN_mul {a b c : Nat} (hc : 0 < c) : cmpN (a * c) (b * c) = cmpN a b := by
  unfold cmpN
  have h1 : a * c < b * c ↔ a < b := Nat.mul_lt_mul_right hc
  have h2 : a * c = b * c ↔ a = b := ⟨fun h => Nat.eq_of_mul_eq_mul_right hc h, fun h => by rw [h]⟩
  simp only [h1, h2]
theorem wh_down {m k d : Nat} (h : d + k = E0) : m * 2 ^ k / EE = m / 2 ^ d ∧ hlf (m * 2 ^ k % EE) EE = hlf (m % 2 ^ d) (2 ^ d) := by
  have p : 0 < 2 ^ k := Nat.two_pow_pos k
  rw [EE_eq h]
  refine ⟨Nat.mul_div_mul_right _ _ p, ?_⟩
  rw [Nat.mul_mod_mul_right]
  unfold hlf
  by_cases h0 : m % 2 ^ d = 0
  · rw [h0]; simp
  · rw [if_neg h0, if_neg (Nat.mul_ne_zero h0 (by omega)), show m % 2 ^ d * 2 ^ k * 2 ^ 1 = m % 2 ^ d * 2 ^ 1 * 2 ^ k by rw [Nat.mul_assoc, Nat.mul_assoc, Nat.mul_comm (2 ^ k)], cmpN_mul p]

theorem whole_over (b : Bool) (v : Value) (m k : Nat) (w : World) (ha : IsAmt w v m) (hm : m < 9007199254740992) (hk : k ≤ 2045) (hg : 63 + E0 < blen m + k) :
    Calls Tryz.prog 42 #[.agg #[.bool b, v, .int .i64 ((k : Nat) - 1074 : Int)]] w fun e w' => e = .returned (.tuple #[.int .u64 0, .int .i64 0, .bool false]) ∧ Below w.heap.size w w' := by
  obtain ⟨ao, l, c, rfl⟩ := amt_form ha
  have hb : blen m ≤ 53 := by
    unfold blen
    split
    · omega
    · have := (Nat.log2_lt (by assumption)).2 (show m < 2 ^ 53 by omega)
      omega
  rw [E0_eq] at hg
  have B1 : Kept m := ⟨big_of (show m < 2 ^ 53 by omega) (by omega)⟩
  have LB := fun wt (hb : Below w.heap.size w wt) => lenB_any _ m wt (ha.below hb) B1.out
  obtain ⟨T, eT⟩ : ∃ T, blen m = T := ⟨_, rfl⟩
  rw [eT] at LB hb hg
  have hw : IntKind.i64.wrap ((T : Int) + ((k : Int) - 1074)) = (T : Int) + ((k : Int) - 1074) := by rw [IntKind.wrap_i64]; omega
  have hd : decide (63 < (T : Int) + ((k : Int) - 1074)) = true := decide_eq_true (by omega)
  clear ha B1 eT
  go_enter Tryz.func42, Tryz.ntmps42
  go_wp2
  go_region_with (go_at_call 47; refine (LB _ ((Below.refl _ _).alloc (Nat.le_refl _) _).drew).mono ?_; rintro e w' ⟨rfl, rfl⟩)
  all_goals
    go_wp2
    go_ret3
    exact ⟨rfl, ((Below.refl _ _).alloc (Nat.le_refl _) _).drew⟩

theorem undrew {B : Nat} {w w1 : World} (h : Below B w.drew w1) : Below B w w1 := ⟨h.os, h.tape, h.output, h.size, h.block⟩

theorem lenB_kept (a : Value) (m : Nat) (w : World) (ha : IsAmt w a m) (hm : m < BIG) : Calls Tryz.prog 47 #[a] w fun e w' => e = .returned (.int .i64 ((blen m : Nat) : Int)) ∧ Below w.heap.size w w' :=
  (lenB_any a m w ha hm).mono fun _ _ ⟨h1, h2⟩ => ⟨h1, by rw [h2]; exact Below.refl _ _⟩

theorem blen_53 {m : Nat} (hm : m < 9007199254740992) : blen m ≤ 53 := by
  unfold blen
  split
  · omega
  · have := (Nat.log2_lt (by assumption)).2 (show m < 2 ^ 53 by omega)
    omega

theorem whole_up (b : Bool) (v : Value) (m s : Nat) (w : World) (ha : IsAmt w v m) (hm : m < 9007199254740992) (hg : blen m + s ≤ 63) (hs : s ≤ 63) :
    Calls Tryz.prog 42 #[.agg #[.bool b, v, .int .i64 (s : Int)]] w fun e w' => e = .returned (.tuple #[.int .u64 ((m * 2 ^ s : Nat) : Int), .int .i64 (-1), .bool true]) ∧ Below w.heap.size w w' := by
  obtain ⟨ao, l, c, rfl⟩ := amt_form ha
  have hb := blen_53 hm
  have hlt : m * 2 ^ s < 18446744073709551616 := by
    have h1 := mul_pow_lt (k := s) (blen_lt m)
    exact Nat.lt_of_lt_of_le h1 (Nat.le_trans (Nat.pow_le_pow_right (by decide) hg) (by decide))
  have hm2 : m < 2 ^ 53 := by omega
  have B1 : Kept m := ⟨big_of hm2 (by omega)⟩
  have B2 : Kept (m * 65536) := ⟨big_of (mul_pow_lt (k := 16) hm2) (by omega)⟩
  have LB := fun wt (hb : Below w.heap.size w wt) => lenB_kept _ m wt (ha.below hb) B1.out
  have SH := fun wt (hb : Below w.heap.size w wt) => shl_any _ m s wt (ha.below hb) B1.out B2.out (by omega)
  have VA := fun v wt (hv : IsAmt wt v (m * 2 ^ s)) => value_any v (m * 2 ^ s) wt hv hlt
  obtain ⟨K, eK⟩ : ∃ K, m * 2 ^ s = K := ⟨_, rfl⟩
  rw [eK] at SH VA hlt ⊢
  obtain ⟨T, eT⟩ : ∃ T, blen m = T := ⟨_, rfl⟩
  rw [eT] at LB hb hg
  have hw : IntKind.i64.wrap ((T : Int) + (s : Int)) = (T : Int) + (s : Int) := by rw [IntKind.wrap_i64]; omega
  have hd : decide (63 < (T : Int) + (s : Int)) = false := decide_eq_false (by omega)
  have hd2 : ((63 : Int) < (T : Int) + (s : Int)) = False := eq_false (by omega)
  clear ha B1 B2 eT eK hm2
  go_enter Tryz.func42, Tryz.ntmps42
  go_wp2
  go_region_with (go_at_call 47; refine (LB _ ((Below.refl _ _).alloc (Nat.le_refl _) _).drew).mono ?_; rintro e w1 ⟨rfl, b1⟩; obtain ⟨q0, q1, q2, _, _, _, BW, z1⟩ := cell_kept (undrew b1); clear b1)
  all_goals
    go_wp2_with (first
      | (go_at_call 36; refine (SH _ BW).mono ?_; rintro e w2 ⟨v2, rfl, h2, b2⟩)
      | (go_at_call 49; refine (VA _ _ h2).mono ?_; rintro e w' ⟨rfl, rfl⟩))
    go_ret3
    exact ⟨rfl, BW.trans (b2.mono (Nat.le_of_lt z1))⟩
end Go.Proofs.YtiglacchpmooeaaGreatDoor
