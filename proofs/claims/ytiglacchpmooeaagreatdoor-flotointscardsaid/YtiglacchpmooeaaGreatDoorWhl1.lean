/- The reference's whole, below one. -/
import Derived.Test.YtiglacchpmooeaaGreatDoorWhl
namespace Go.Proofs.YtiglacchpmooeaaGreatDoor
open Go.ChangeShapes Go.WideShapes Go.ChangeAt Go.RowKit
open Ieee

set_option maxHeartbeats 8000000 in
theorem whole_down1 (b : Bool) (v : Value) (m d : Nat) (w : World) (ha : IsAmt w v m) (hm : m < 9007199254740992) (hd0 : 1 ≤ d) (hd1 : d ≤ 1074) (hr : ¬ m % 2 ^ d = 0) :
    Calls Tryz.prog 42 #[.agg #[.bool b, v, .int .i64 (-(d : Int))]] w fun e w' => e = .returned (.tuple #[.int .u64 ((m / 2 ^ d : Nat) : Int), .int .i64 (hlf (m % 2 ^ d) (2 ^ d)), .bool true]) ∧ Below w.heap.size w w' := by
  obtain ⟨ao, l, c, rfl⟩ := amt_form ha
  have hb := blen_53 hm
  have hm2 : m < 2 ^ 53 := by omega
  have hU : 2 ^ d < 2 ^ (d + 1) := Nat.pow_lt_pow_right (by decide) (by omega)
  have B1 : Kept m := ⟨big_of hm2 (by omega)⟩
  have B5 : Kept (2 ^ d) := ⟨big_of hU (by omega)⟩
  have B6 : Kept (1 * 65536) := ⟨big_of (a := 17) (by decide) (by omega)⟩
  have B7 : Kept 1 := ⟨big_of (a := 1) (by decide) (by omega)⟩
  have B8 : Kept (2 ^ d * 65536) := ⟨big_of (mul_pow_lt (k := 16) hU) (by omega)⟩
  have U0 : 0 < 2 ^ d := Nat.two_pow_pos d
  have LB := fun wt (hb : Below w.heap.size w wt) => lenB_kept _ m wt (ha.below hb) B1.out
  have SH1 := fun v wt (hv : IsAmt wt v 1) => shl_any v 1 d wt hv B7.out B6.out (by omega)
  rw [Nat.one_mul] at SH1
  obtain ⟨U, eU⟩ : ∃ U, 2 ^ d = U := ⟨_, rfl⟩
  rw [eU] at B5 B8 U0 SH1 hr ⊢
  have hmod : m % U < U := Nat.mod_lt _ U0
  have hdiv : m / U ≤ m := Nat.div_le_self _ _
  have B9 : Kept (m % U) := ⟨Nat.lt_trans hmod B5.out⟩
  have B10 : Kept (m % U * 65536) := ⟨Nat.lt_of_le_of_lt (Nat.mul_le_mul_right _ (Nat.le_of_lt hmod)) B8.out⟩
  have HA := hide ha
  have DV := fun u wt (hv : IsAmt wt _ m) (hu : IsAmt wt u U) => divD_any (.slice ao l c) u m U wt hv hu B1.out B5.out U0
  have VA := fun v wt (hv : IsAmt wt v (m / U)) => value_any v (m / U) wt hv (by omega)
  have SR := fun v wt (hv : IsAmt wt v (m % U)) => shl_any v (m % U) 1 wt hv B9.out B10.out (by omega)
  have CM := fun v u wt (hv : IsAmt wt v (m % U * 2 ^ 1)) (hu : IsAmt wt u U) => cmpD_any v u (m % U * 2 ^ 1) U wt hv hu
  have hN : hlf (m % U) U = if m % U = 0 then -1 else cmpN (m % U * 2 ^ 1) U + 1 := rfl
  have hcm : cmpN (m % U * 2 ^ 1) U = -1 ∨ cmpN (m % U * 2 ^ 1) U = 0 ∨ cmpN (m % U * 2 ^ 1) U = 1 := by unfold cmpN; split; · simp
                                                                                                         split <;> simp
  obtain ⟨T, eT⟩ : ∃ T, blen m = T := ⟨_, rfl⟩
  rw [eT] at LB hb
  obtain ⟨C, eC⟩ : ∃ C, cmpN (m % U * 2 ^ 1) U = C := ⟨_, rfl⟩
  rw [eC] at CM hN hcm
  obtain ⟨N, eN⟩ : ∃ N, m / U = N := ⟨_, rfl⟩
  rw [eN] at VA DV hdiv ⊢
  have hN53 : N < 9007199254740992 := by omega
  have hw : IntKind.i64.wrap ((T : Int) + -(d : Int)) = (T : Int) + -(d : Int) := by rw [IntKind.wrap_i64]; omega
  have hd : decide (63 < (T : Int) + -(d : Int)) = false := decide_eq_false (by omega)
  have hd2 : ((63 : Int) < (T : Int) + -(d : Int)) = False := eq_false (by omega)
  have hw2 : IntKind.i64.wrap (d : Int) = (d : Int) := by rw [IntKind.wrap_i64]; omega
  have hp : decide (0 ≤ -(d : Int)) = false := decide_eq_false (by omega)
  have hp2 : ((0 : Int) ≤ -(d : Int)) = False := eq_false (by omega)
  have hwC : IntKind.i64.wrap (C + 1) = C + 1 := by rw [IntKind.wrap_i64]; omega
  rw [if_neg hr] at hN
  rw [hN]
  obtain ⟨R, eR⟩ : ∃ R, m % U = R := ⟨_, rfl⟩
  rw [eR] at DV SR CM hr
  clear ha B1 B5 B6 B7 B8 B9 B10 eT eU eC eN hm2 hU hmod U0 hN eR
  go_enter Tryz.func42, Tryz.ntmps42
  go_wp2
  go_region_with (go_at_call 47; refine (LB _ ((Below.refl _ _).alloc (Nat.le_refl _) _).drew).mono ?_; rintro e w1 ⟨rfl, b1⟩; obtain ⟨q0, q1, q2, _, _, _, BW, z1⟩ := cell_kept (undrew b1)
                  have SHU := SH1 _ _ (amt_one w1 54)
                  have bu := (Below.refl w1.heap.size w1).alloc (Nat.le_refl _) (.cells #[.int .u16 1] 54)
                  have h1u := (HA.out.below BW).below bu
                  clear b1)
  all_goals
    go_wp2_with (first
      | (go_at_call 36; refine SHU.mono ?_; rintro e w2 ⟨vu, rfl, hu, b2⟩
         have bA := bu.trans (b2.mono bu.size)
         have h2 := h1u.below b2
         have y0 := (bA.cell (p := ⟨w.heap.size, 0, none⟩) (by omega)).trans q0
         have y1 := (bA.cell (p := ⟨w.heap.size, 1, none⟩) (by omega)).trans q1
         have y2 := (bA.cell (p := ⟨w.heap.size, 2, none⟩) (by omega)).trans q2
         have B2 := BW.trans (bA.mono (Nat.le_of_lt z1))
         have z2 := Nat.lt_of_lt_of_le z1 bA.size
         clear SHU bu b2 bA)
      | (go_at_call 35; refine (DV _ _ h2 hu).mono ?_; rintro e w3 ⟨vn, vr, rfl, hn3, hr3, b3⟩
         obtain ⟨ao3, l3, c3, rfl⟩ := amt_form hr3
         have hl3 : ((l3 : Int) == 0) = false := by have := (not_congr (amt_len hr3)).2 hr; simp; omega
         have hu3 := hu.below b3
         have B3 := B2.trans (b3.mono (Nat.le_of_lt z2))
         have z3 := Nat.lt_of_lt_of_le z2 b3.size)
        | (go_at_call 49; refine (VA _ _ hn3).mono ?_; rintro e w' ⟨rfl, rfl⟩)
        | (go_at_call 36; refine (SR _ _ hr3).mono ?_; rintro e w4 ⟨v5, rfl, h5, b4⟩
           have hu4 := hu3.below b4
           have B4 := B3.trans (b4.mono (Nat.le_of_lt z3))
           have z4 := Nat.lt_of_lt_of_le z3 b4.size)
        | (go_at_call 50; refine (CM _ _ _ h5 hu4).mono ?_; rintro e w5 ⟨rfl, b5⟩
           have B5 := B4.trans (b5.mono (Nat.le_of_lt z4))))
    go_ret3
    exact ⟨rfl, B5⟩
end Go.Proofs.YtiglacchpmooeaaGreatDoor
