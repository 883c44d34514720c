/- The document's side: the nearest real of a decimal. -/
import Derived.Test.YtbengmceiaejeaaGreatDoorFtR1
import Derived.Test.YtbengmceiaejeaaGreatDoorNear6
import Derived.Test.YtbengmceiaejeaaGreatDoorOf
namespace Go.Proofs.YtbengmceiaejeaaGreatDoor
open Go.ChangeShapes Go.WideShapes Go.ChangeAt Go.RowKit

theorem amt_len0 {w : World} {ao : Option Addr} {l c n : Nat} (h : IsAmt w (.slice ao l c) n) : l = 0 ↔ n = 0 := by
  obtain ⟨ds, rr, rd, rn, rv⟩ := h
  have e := row_len rr
  rw [← e]
  rcases Nat.eq_zero_or_pos ds.length with h | h
  · rw [List.eq_nil_of_length_eq_zero h] at rv
    simp [valD] at rv
    exact ⟨fun _ => rv.symm, fun _ => h⟩
  · obtain ⟨k, hk⟩ : ∃ k, ds.length = k + 1 := ⟨ds.length - 1, by omega⟩
    have := norm_low rn hk
    have h2 : 0 < 65536 ^ k := Nat.pow_pos (by decide)
    constructor <;> intro _ <;> omega

theorem log_lt {x a : Nat} (h : x < 2 ^ a) : x.log2 ≤ a := by
  rcases Nat.eq_zero_or_pos x with rfl | hx
  · show 0 ≤ a; omega
  · exact Nat.le_of_lt ((Nat.log2_lt (by omega)).2 h)

theorem word_pos (r : Nat) : wordD false r = r := by unfold wordD; rw [if_neg (by decide)]

/-- Zero or more. -/
theorem decimal_up (v : Value) (c s : Nat) (w : World) (hv : IsAmt w v c) (hc : c < 2 ^ 100) (hs : s ≤ 400) :
    Calls Tryz.prog 50 #[v, .int .i64 (s : Int)] w fun e w' => e = .returned (.int .u64 ((nearR (c * 10 ^ s) 0 : Nat) : Int)) ∧ Below w.heap.size w w' := by
  have h10 := ten_two s
  have hcs : c * 10 ^ s < 2 ^ (100 + (4 * s + 1)) := by rw [Nat.pow_add]; exact Nat.mul_lt_mul'' hc h10
  have TE := fun w => ten_any s (by omega) w
  have hb1 := ten_big (show s ≤ 1200 by omega)
  have hb2 : c < BIG := big_of hc (by omega)
  have MU : ∀ t w1, IsAmt w1 v c → IsAmt w1 t (10 ^ s) → Calls Tryz.prog 75 #[v, t] w1 fun e w' => ∃ v, e = .returned v ∧ IsAmt w' v (c * 10 ^ s) ∧ (∀ g, v.ownBlock = some g → w1.heap.size ≤ g) ∧ Below w1.heap.size w1 w' := fun t w1 h1 h2 => mulD_any v t c (10 ^ s) w1 h1 h2 hb2 hb1
  have NE : ∀ t w1, IsAmt w1 t (c * 10 ^ s) → Calls Tryz.prog 77 #[.agg #[.bool false, t, .int .i64 0], .bool false] w1 fun e w' => e = .returned (.int .u64 ((nearR (c * 10 ^ s) 0 : Nat) : Int)) ∧ Below w1.heap.size w1 w' :=
    fun t w1 h => by
      have N := nearest_any false t (c * 10 ^ s) 0 w1 h (Nat.le_trans (log_lt hcs) (by omega)) (by omega)
      rw [word_pos] at N
      exact N
  obtain ⟨M, eM⟩ : ∃ M, c * 10 ^ s = M := ⟨_, rfl⟩
  rw [eM] at MU NE ⊢
  obtain ⟨T, eT⟩ : ∃ M, 10 ^ s = M := ⟨_, rfl⟩
  rw [eT] at TE MU
  obtain ⟨N, eN⟩ : ∃ N, nearR M 0 = N := ⟨_, rfl⟩
  rw [eN] at NE ⊢
  obtain ⟨va, vl, vc, rfl⟩ := amt_form hv
  have HV := hide hv
  clear hb1 hb2 hcs h10 eM eT eN hc hv
  go_enter Tryz.func50, Tryz.ntmps50
  go_wp2_with (first
    | (go_at_call 76; refine (TE _).mono ?_; rintro e w1 ⟨t, rfl, ht, b1⟩)
    | (go_at_call 75; refine (MU _ _ (HV.out.below b1) ht).mono ?_; rintro e w2 ⟨t2, rfl, ht2, f2, b2⟩; have b12 : Below w.heap.size w w2 := b1.trans (b2.mono b1.size); obtain ⟨ao, l1, c1, rfl⟩ := amt_form ht2; have NE2 := NE _ _ ht2)
    | (go_at_call 77; refine NE2.mono ?_; rintro e w3 ⟨rfl, b3⟩))
  go_ret
  exact ⟨rfl, b12.trans (b3.mono b12.size)⟩

theorem lt_blen (m : Nat) : m < 2 ^ blen m := by
  unfold blen
  split
  · subst_vars; decide
  · rename_i h
    exact (Nat.log2_lt h).1 (by omega)

theorem blen_le {m a : Nat} (h : m < 2 ^ a) : blen m ≤ a := by
  unfold blen
  split
  · omega
  · rename_i h0
    have := (Nat.log2_lt h0).2 h
    omega

/-- What a decimal below 1 is rounded to. -/
def downR (c t k : Nat) : Nat := if c * 2 ^ k % t = 0 then nearR (c * 2 ^ k / t) (-(k : Int)) else nearR (c * 2 ^ k / t * 2 ^ 2 + 1) (-(k : Int) - 2)

theorem decimal_down (v : Value) (c p : Nat) (w : World) (hv : IsAmt w v c) (hc : c < 2 ^ 100) (hp : 1 ≤ p) (hs : p ≤ 400) :
    Calls Tryz.prog 50 #[v, .int .i64 (-(p : Int))] w fun e w' => e = .returned (.int .u64 ((downR c (10 ^ p) (blen (10 ^ p) + 128) : Nat) : Int)) ∧ Below w.heap.size w w' := by
  have h10 := ten_two p
  have hpos : 0 < 10 ^ p := Nat.pow_pos (by omega)
  have hbl : blen (10 ^ p) ≤ 4 * p + 1 := blen_le h10
  have hbl2 : 10 ^ p < 2 ^ blen (10 ^ p) := lt_blen _
  have hb1 := ten_big (show p ≤ 1200 by omega)
  have hb2 : c < BIG := big_of hc (by omega)
  have hb3 : c * 65536 < BIG := big_of (a := 100 + 16) (mul_pow_lt (k := 16) hc) (by omega)
  have TE := fun w => ten_any p (by omega) w
  have LB : ∀ t w1, IsAmt w1 t (10 ^ p) → Calls Tryz.prog 72 #[t] w1 fun e w' => e = .returned (.int .i64 ((blen (10 ^ p) : Nat) : Int)) ∧ w' = w1 := fun t w1 h => lenB_any t _ w1 h hb1
  obtain ⟨B, eB⟩ : ∃ B, blen (10 ^ p) = B := ⟨_, rfl⟩
  rw [eB] at LB hbl hbl2 ⊢
  obtain ⟨k, ek⟩ : ∃ k, B + 128 = k := ⟨_, rfl⟩
  rw [ek]
  have ekI : (B : Int) + 128 = (k : Int) := by omega
  have hck : c * 2 ^ k < 2 ^ (100 + k) := mul_pow_lt hc
  have hb4 : c * 2 ^ k < BIG := big_of hck (by omega)
  have SH : ∀ w1, IsAmt w1 v c → Calls Tryz.prog 74 #[v, .int .i64 (k : Int)] w1 fun e w' => ∃ v, e = .returned v ∧ IsAmt w' v (c * 2 ^ k) ∧ Below w1.heap.size w1 w' := fun w1 h => shl_any v c k w1 h hb2 hb3 (by omega)
  have DV : ∀ a t w1, IsAmt w1 a (c * 2 ^ k) → IsAmt w1 t (10 ^ p) → Calls Tryz.prog 52 #[a, t] w1 fun e w' => ∃ v r, e = .returned (.tuple #[v, r]) ∧ IsAmt w' v (c * 2 ^ k / 10 ^ p) ∧ IsAmt w' r (c * 2 ^ k % 10 ^ p) ∧ Below w1.heap.size w1 w' := fun a t w1 h1 h2 => divD_any a t _ _ w1 h1 h2 hb4 hb1 hpos
  have hq : c * 2 ^ k / 10 ^ p < 2 ^ (100 + k) := Nat.lt_of_le_of_lt (Nat.div_le_self _ _) hck
  have hqb : c * 2 ^ k % 10 ^ p ≠ 0 → 60 ≤ (c * 2 ^ k / 10 ^ p).log2 := by
    intro hr
    have hc0 : 0 < c := by
      rcases Nat.eq_zero_or_pos c with h | h
      · rw [h, Nat.zero_mul, Nat.zero_mod] at hr
        exact absurd rfl hr
      · exact h
    have h1 : 2 ^ 60 ≤ c * 2 ^ k / 10 ^ p := by
      rw [Nat.le_div_iff_mul_le hpos]
      have e1 : 2 ^ 60 * 2 ^ B ≤ 2 ^ k := by rw [← Nat.pow_add]; exact Nat.pow_le_pow_right (by omega) (by omega)
      have e2 : 2 ^ 60 * 10 ^ p ≤ 2 ^ 60 * 2 ^ B := Nat.mul_le_mul_left _ (Nat.le_of_lt hbl2)
      have e3 : 2 ^ k ≤ c * 2 ^ k := Nat.le_mul_of_pos_left _ hc0
      exact Nat.le_trans e2 (Nat.le_trans e1 e3)
    exact (Nat.le_log2 (by omega)).2 h1
  have NE : ∀ t w1 (mb : Bool), IsAmt w1 t (c * 2 ^ k / 10 ^ p) → mb = decide (c * 2 ^ k % 10 ^ p ≠ 0) → Calls Tryz.prog 77 #[.agg #[.bool false, t, .int .i64 (-(k : Int))], .bool mb] w1 fun e w' => e = .returned (.int .u64 ((downR c (10 ^ p) k : Nat) : Int)) ∧ Below w1.heap.size w1 w' := by
    intro t w1 mb h hmb
    unfold downR
    by_cases hr : c * 2 ^ k % 10 ^ p = 0
    · rw [if_pos hr]
      rw [decide_eq_false (fun h => h hr)] at hmb
      subst hmb
      have N := nearest_any false t _ (-(k : Int)) w1 h (Nat.le_trans (log_lt hq) (by omega)) (by omega)
      rw [word_pos] at N
      exact N
    · rw [if_neg hr]
      rw [decide_eq_true hr] at hmb
      subst hmb
      have N := nearest_more false t _ (-(k : Int)) w1 h (hqb hr) (Nat.le_trans (log_lt hq) (by omega)) (by omega)
      rw [word_pos] at N
      exact N
  obtain ⟨N, eN⟩ : ∃ N, downR c (10 ^ p) k = N := ⟨_, rfl⟩
  rw [eN] at NE ⊢
  obtain ⟨M, eM⟩ : ∃ M, c * 2 ^ k = M := ⟨_, rfl⟩
  rw [eM] at SH DV NE
  obtain ⟨T, eT⟩ : ∃ M, 10 ^ p = M := ⟨_, rfl⟩
  rw [eT] at TE LB DV NE
  obtain ⟨X, eX⟩ : ∃ X, M / T = X := ⟨_, rfl⟩
  obtain ⟨Y, eY⟩ : ∃ X, M % T = X := ⟨_, rfl⟩
  rw [eX, eY] at DV NE
  obtain ⟨va, vl, vc, rfl⟩ := amt_form hv
  have HV := hide hv
  have hk : k ≤ 2000 := by omega
  clear hb1 hb2 hb3 hb4 hck hq hqb h10 hpos hbl hbl2 eB ek eM eT eN eX eY hc hv
  go_enter Tryz.func50, Tryz.ntmps50
  go_wp2_with (first
    | (go_at_call 76; refine (TE _).mono ?_; rintro e w1 ⟨t, rfl, ht, b1⟩)
    | (go_at_call 72; refine (LB _ _ ht).mono ?_; rintro e w2 ⟨rfl, hw⟩; replace hw := hw.symm; subst hw)
    | (go_at_call 74; refine (SH _ (HV.out.below b1)).mono ?_; rintro e w2 ⟨t2, rfl, ht2, b2⟩; have b12 : Below w.heap.size w w2 := b1.trans (b2.mono b1.size); have DV1 := DV _ _ _ ht2 (ht.below b2))
    | (go_at_call 52; refine DV1.mono ?_; rintro e w3 ⟨vq, vr, rfl, hq, hr, b3⟩
       have b13 : Below w.heap.size w w3 := b12.trans (b3.mono b12.size)
       obtain ⟨aq, lq, cq, rfl⟩ := amt_form hq
       obtain ⟨ar, lr, cr, rfl⟩ := amt_form hr
       have hlr := amt_len0 hr
       obtain ⟨mb, emb⟩ : ∃ mb, decide (Y ≠ 0) = mb := ⟨_, rfl⟩
       have hm1 : decide ((0 : Int) < (lr : Int)) = mb := by rw [← emb]; exact decide_eq_decide.2 (by omega)
       have hm2 : decide (0 < lr) = mb := by rw [← emb]; exact decide_eq_decide.2 (by omega)
       have NR3 := NE _ _ mb hq emb.symm; clear NE hlr emb)
    | (go_at_call 77; refine NR3.mono ?_; rintro e w4 ⟨rfl, b4⟩))
  go_ret
  exact ⟨rfl, b13.trans (b4.mono b13.size)⟩
end Go.Proofs.YtbengmceiaejeaaGreatDoor
