/- The walk of the law FloInts: it answers true for every int64. -/
import Derived.Test.YtegnhinognpgcabGreatDoorNear4
import Derived.Test.YtegnhinognpgcabGreatDoorNear5
import Derived.Test.YtegnhinognpgcabGreatDoorAw4
namespace Go.Proofs.YtegnhinognpgcabGreatDoor.floInts
open Go.ChangeShapes Go.WideShapes Go.ChangeAt Go.RowKit
open Ieee

theorem int_any (n : Int) (w : World) : Calls Tryz.prog 10 #[.int .i64 n] w fun e w' => e = .returned (.float .f64 (wordD (decide (n < 0)) (nearR n.natAbs 0))) ∧ w' = w := by
  have hw : Hid (floatOfInt .f64 n = wordD (decide (n < 0)) (nearR n.natAbs 0)) := write_number (decide (n < 0)) n.natAbs 0
  have cv := fun (w : World) => run_convert_int_float (P := Tryz.prog) w 2 23 .i64 .f64 n (by rw [Tryz.underlying2]; rfl) Tryz.underlying23
  go_enter Tryz.func10, Tryz.ntmps10
  go_wp2
  go_ret
  exact ⟨ret_float hw.out, rfl⟩

theorem nearest_zero (b : Bool) (v : Value) (P : Int) (w : World) (ha : IsAmt w v 0) :
    Calls Tryz.prog 26 #[.agg #[.bool b, v, .int .i64 P], .bool false] w fun e w' => e = .returned (.int .u64 ((wordD b (nearR 0 P) : Nat) : Int)) ∧ Below w.heap.size w w' := by
  obtain ⟨ds, rr, rd, rn, rv⟩ := ha
  have hnil : ds.length = 0 := by
    rcases Nat.eq_zero_or_pos ds.length with h | h
    · exact h
    · obtain ⟨k, hk⟩ : ∃ k, ds.length = k + 1 := ⟨ds.length - 1, by omega⟩
      have := norm_low rn hk
      have h2 : 0 < 65536 ^ k := Nat.pow_pos (by decide)
      omega
  obtain ⟨ao, c, rfl⟩ := rr.form
  rw [hnil, nearR_zero]
  have S := signed_any b 0 (by decide)
  obtain ⟨W, eW⟩ : ∃ W, wordD b 0 = W := ⟨_, rfl⟩
  rw [eW] at S ⊢
  clear rr rd rn rv hnil eW
  go_enter Tryz.func26, Tryz.ntmps26
  go_wp2_with (go_at_call 44; refine (S _).mono ?_; rintro e w' ⟨rfl, rfl⟩)
  go_ret
  exact ⟨rfl, (Below.refl _ _).alloc (Nat.le_refl _) _⟩

theorem nearest_any (b : Bool) (v : Value) (M : Nat) (P : Int) (w : World) (ha : IsAmt w v M) (hl : M.log2 ≤ 5000) (hP : -6000 ≤ P ∧ P ≤ 6000) :
    Calls Tryz.prog 26 #[.agg #[.bool b, v, .int .i64 P], .bool false] w fun e w' => e = .returned (.int .u64 ((wordD b (nearR M P) : Nat) : Int)) ∧ Below w.heap.size w w' := by
  rcases Nat.eq_zero_or_pos M with rfl | h
  · exact nearest_zero b v P w ha
  · by_cases hw : lastP M P ≤ P - 2
    · exact nearest_up b v M P w ha h hl hP hw
    · exact nearest_down b v M P w ha h hl hP (by omega)

theorem amt_form {w : World} {v : Value} {n : Nat} (h : IsAmt w v n) : ∃ ao l c, v = .slice ao l c := by
  obtain ⟨ds, rr, _⟩ := h
  obtain ⟨ao, c, e⟩ := rr.form
  exact ⟨ao, _, c, e⟩

theorem rInt_any (n : Int) (hn : -9223372036854775808 ≤ n ∧ n ≤ 9223372036854775807) (w : World) : Calls Tryz.prog 11 #[.int .i64 n] w fun e w' => e = .returned (.int .u64 ((wordD (decide (n < 0)) (nearR n.natAbs 0) : Nat) : Int)) ∧ Below w.heap.size w w' := by
  have hl : n.natAbs.log2 ≤ 5000 := by
    by_cases h0 : n.natAbs = 0
    · rw [h0]; decide
    · have := (Nat.log2_lt h0).2 (show n.natAbs < 2 ^ 64 by omega)
      omega
  obtain ⟨x, ex⟩ : ∃ x, n.natAbs = x := ⟨_, rfl⟩
  have hx : x < 18446744073709551616 := by omega
  have SM := small_any x hx
  have NN := fun v wt (hv : IsAmt wt v x) => nearest_any (decide (n < 0)) v x 0 wt hv (by rw [← ex]; exact hl) ⟨by omega, by omega⟩
  rw [ex]
  obtain ⟨W, eW⟩ : ∃ W, wordD (decide (n < 0)) (nearR x 0) = W := ⟨_, rfl⟩
  rw [eW] at NN ⊢
  clear hl eW
  by_cases h0 : n < 0
  · have wr : IntKind.u64.wrap n = n + 18446744073709551616 := by rw [IntKind.wrap_u64]; omega
    have wr2 : IntKind.u64.wrap (-(n + 18446744073709551616)) = (x : Int) := by rw [IntKind.wrap_u64]; omega
    rw [decide_eq_true h0] at NN
    have hd : decide (n < 0) = true := decide_eq_true h0
    go_enter Tryz.func11, Tryz.ntmps11
    go_wp2_with (first
      | (go_at_call 27; refine (SM _).mono ?_; rintro e w1 ⟨v, rfl, h1, b1⟩; obtain ⟨ao, l1, c1, rfl⟩ := amt_form h1)
      | (go_at_call 26; refine (NN _ _ h1).mono ?_; rintro e w2 ⟨rfl, b2⟩))
    go_ret
    exact ⟨rfl, b1.trans (b2.mono b1.size)⟩
  · have wr : IntKind.u64.wrap n = (x : Int) := by rw [IntKind.wrap_u64]; omega
    rw [decide_eq_false h0] at NN
    have hd : decide (n < 0) = false := decide_eq_false h0
    go_enter Tryz.func11, Tryz.ntmps11
    go_wp2_with (first
      | (go_at_call 27; refine (SM _).mono ?_; rintro e w1 ⟨v, rfl, h1, b1⟩; obtain ⟨ao, l1, c1, rfl⟩ := amt_form h1)
      | (go_at_call 26; refine (NN _ _ h1).mono ?_; rintro e w2 ⟨rfl, b2⟩))
    go_ret
    exact ⟨rfl, b1.trans (b2.mono b1.size)⟩

theorem walk (n : Int) (hn : (Lit.int .i64 n).wf = true) (w : World) (R : Rdy w) :
    Calls Tryz.prog 3 #[.int .i64 n] w fun e w' => e = .returned (.bool true) ∧ Below w.heap.size w w' := by
  have hb : -9223372036854775808 ≤ n ∧ n ≤ 9223372036854775807 := by
    simp [Lit.wf, IntKind.min, IntKind.max, IntKind.signed, IntKind.bits] at hn
    omega
  have I := int_any n
  have J := rInt_any n hb
  have hl := wordD_lt (neg := decide (n < 0)) (nearR_le n.natAbs 0)
  obtain ⟨W, eW⟩ : ∃ W, wordD (decide (n < 0)) (nearR n.natAbs 0) = W := ⟨_, rfl⟩
  rw [eW] at I J hl
  clear eW hb hn
  go_enter Tryz.func3, Tryz.ntmps3
  go_wp2_with (first
    | (go_at_call 10; refine (I _).mono ?_; rintro e w' ⟨rfl, rfl⟩)
    | (go_at_call 11; refine (J _).mono ?_; rintro e w1 ⟨rfl, b1⟩)
    | (go_at_call 9; refine (is_any _ _ hl _).mono ?_; rintro e w' ⟨rfl, rfl⟩)
    | (go_at_call 12; refine (awake_any _ (R.below b1)).mono ?_; rintro e w2 ⟨rfl, b2⟩))
  go_ret
  exact ⟨rfl, b1.trans (b2.mono b1.size)⟩
end Go.Proofs.YtegnhinognpgcabGreatDoor.floInts
