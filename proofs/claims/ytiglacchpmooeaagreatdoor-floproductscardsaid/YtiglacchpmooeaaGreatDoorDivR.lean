/- The reference's Div. -/
import Derived.Test.YtiglacchpmooeaaGreatDoorProdM
import Derived.Test.YtiglacchpmooeaaGreatDoorAddR
import Derived.Test.YtiglacchpmooeaaGreatDoorBigP
import Derived.Test.YtiglacchpmooeaaGreatDoorMulR
import Derived.Test.YtiglacchpmooeaaGreatDoorNear7
namespace Go.Proofs.YtiglacchpmooeaaGreatDoor
open Go.ChangeShapes Go.WideShapes Go.ChangeAt Go.RowKit
open Ieee

theorem amt_len' {w : World} {ao : Option Addr} {l c n : Nat} (h : IsAmt w (.slice ao l c) n) : l = 0 ↔ n = 0 := by
  obtain ⟨ds, rr, rd, rn, rv⟩ := h
  have e := row_len rr
  rw [← e]
  rcases Nat.eq_zero_or_pos ds.length with h | h
  · rw [List.eq_nil_of_length_eq_zero h] at rv
    simp [valD] at rv
    exact ⟨fun _ => rv.symm, fun _ => h⟩
  · obtain ⟨k, hk⟩ : ∃ k, ds.length = k + 1 := ⟨ds.length - 1, by omega⟩
    have := norm_low rn hk
    have h2 : 0 < 65536 ^ k := Nat.pow_pos (by decide)
    constructor <;> intro _ <;> omega

theorem div_zero_num {u v : Nat} (hv : rung v < 9218868437227405312) (zv : rung v ≠ 0) (zu : rung u = 0) : double.div u v = some (wordD (sgnB u ^^ sgnB v) 0) := by
  obtain ⟨m, k, e1, a1, _⟩ := read_fin (u := u) (by omega)
  obtain ⟨n, l, e2, a2, _⟩ := read_fin hv
  unfold Format.div
  rw [e1, e2, (zero_num a1).2 zu]
  simp only [Datum.quotient]
  rw [if_neg (fun h => zv ((zero_num a2).1 h))]
  simp only [Option.map_some, write_number, Nat.zero_shiftLeft, Nat.zero_div, Nat.zero_mod, Nat.mul_zero, Nat.zero_add]
  rw [show ((0 : Nat) != 0).toNat = 0 from rfl, nearR_zero]

/-- The quotient and its rest, rounded. -/
theorem quotient_rounded {u v m1 k1 m2 k2 : Nat} (hu : rung u < 9218868437227405312) (hv : rung v < 9218868437227405312) (zu : rung u ≠ 0) (zv : rung v ≠ 0) (e1 : m1 * 2 ^ k1 = amt (rung u)) (e2 : m2 * 2 ^ k2 = amt (rung v)) (l1 : m1 < 9007199254740992) (l2 : m2 < 9007199254740992) (h1 : k1 ≤ 2045) (h2 : k2 ≤ 2045) (g1 : k1 = 0 ∨ 4503599627370496 ≤ m1) (g2 : k2 = 0 ∨ 4503599627370496 ≤ m2)
    (x : Value) (wt : World) (mb : Bool) (hx : IsAmt wt x (m1 * 2 ^ 128 / m2)) (hmb : mb = decide (m1 * 2 ^ 128 % m2 ≠ 0)) :
    Calls Tryz.prog 28 #[.agg #[.bool (sgnB u ^^ sgnB v), x, .int .i64 ((k1 : Int) - 1074 - ((k2 : Int) - 1074) - 128)], .bool mb] wt fun e w' => ∃ r, e = .returned (.int .u64 ((r : Nat) : Int)) ∧ r < 18446744073709551616 ∧ canon r = cRes (double.div u v) ∧ Below wt.heap.size wt w' := by
  have hw := quotient_word hu hv zu zv e1 e2 l1 l2 g1 g2
  have z1 : m1 ≠ 0 := fun h => zu ((zero_num e1).1 h)
  have z2 : m2 ≠ 0 := fun h => zv ((zero_num e2).1 h)
  have q1 : m1 * 2 ^ 128 < 2 ^ (53 + 128) := mul_pow_lt (show m1 < 2 ^ 53 by omega)
  have q2 : m1 * 2 ^ 128 / m2 < 2 ^ (53 + 128) := Nat.lt_of_le_of_lt (Nat.div_le_self _ _) q1
  have q3 := log_small q2 (by omega)
  by_cases hR : m1 * 2 ^ 128 % m2 = 0
  · rw [decide_eq_false (fun h => h hR)] at hmb
    subst hmb
    rw [if_pos hR] at hw
    refine (nearest_any _ x _ _ wt hx q3 ⟨by omega, by omega⟩).mono ?_
    rintro e w' ⟨rfl, b⟩
    refine ⟨_, rfl, wordD_lt (nearR_le _ _), ?_, b⟩
    rw [hw]
    rfl
  · rw [decide_eq_true hR] at hmb
    subst hmb
    rw [if_neg hR] at hw
    have q4 : 2 ^ 60 ≤ m1 * 2 ^ 128 / m2 := by
      rw [Nat.le_div_iff_mul_le (by omega)]
      have h3 : 2 ^ 60 * m2 ≤ 2 ^ 60 * 2 ^ 53 := Nat.mul_le_mul_left _ (by omega)
      have h4 : 1 * 2 ^ 128 ≤ m1 * 2 ^ 128 := Nat.mul_le_mul_right _ (by omega)
      exact Nat.le_trans h3 (Nat.le_trans (by decide) h4)
    have q5 : m1 * 2 ^ 128 / m2 ≠ 0 := Nat.ne_of_gt (Nat.lt_of_lt_of_le (Nat.two_pow_pos 60) q4)
    refine (nearest_more _ x _ _ wt hx ((Nat.le_log2 q5).2 q4) q3 ⟨by omega, by omega⟩).mono ?_
    rintro e w' ⟨rfl, b⟩
    refine ⟨_, rfl, wordD_lt (nearR_le _ _), ?_, b⟩
    rw [hw]
    rfl

set_option maxHeartbeats 8000000 in
theorem rDiv_fin (u v : Nat) (hu : u < 18446744073709551616) (hv : v < 18446744073709551616) (fu : rung u < 9218868437227405312) (fv : rung v < 9218868437227405312) (zu' : rung u ≠ 0) (zv' : rung v ≠ 0) (w : World) :
    Calls Tryz.prog 16 #[.int .u64 (u : Int), .int .u64 (v : Int)] w fun e w' => ∃ r, e = .returned (.int .u64 ((r : Nat) : Int)) ∧ r < 18446744073709551616 ∧ canon r = cRes (double.div u v) ∧ Below w.heap.size w w' := by
  have hX := u64_xor u v hu hv
  have hXa := u64_and_sign (u ^^^ v) (xor_lt u v hu hv)
  rw [sgn_xor] at hXa
  obtain ⟨X, eX⟩ : ∃ X, u ^^^ v = X := ⟨_, rfl⟩
  rw [eX] at hX hXa
  have nu : nanB u = false := by unfold nanB; simp; omega
  have nv : nanB v = false := by unfold nanB; simp; omega
  have iu : infB u = false := by unfold infB; simp; omega
  have iv : infB v = false := by unfold infB; simp; omega
  have zu : zeroB u = false := by unfold zeroB; simp; omega
  have zv : zeroB v = false := by unfold zeroB; simp; omega
  have O1 := of_read u hu fu
  have O2 := of_read v hv fv
  have NR := hide (fun (m1 k1 m2 k2 : Nat) e1 e2 l1 l2 h1 h2 g1 g2 x wt mb hx hmb => quotient_rounded (m1 := m1) (k1 := k1) (m2 := m2) (k2 := k2) fu fv zu' zv' e1 e2 l1 l2 h1 h2 g1 g2 x wt mb hx hmb)
  have M0 : Hid (∀ m k : Nat, m * 2 ^ k = amt (rung v) → 0 < m) := hide fun m k h => Nat.pos_of_ne_zero fun h0 => zv' ((zero_num h).1 h0)
  have BK : Hid (∀ m : Nat, m < 9007199254740992 → m < BIG ∧ m * 65536 < BIG ∧ m * 2 ^ 128 < BIG) := hide fun m h => ⟨big_of (show m < 2 ^ 53 by omega) (by omega), big_of (mul_pow_lt (k := 16) (show m < 2 ^ 53 by omega)) (by omega), big_of (mul_pow_lt (k := 128) (show m < 2 ^ 53 by omega)) (by omega)⟩
  obtain ⟨K, eK⟩ : ∃ K, cRes (double.div u v) = K := ⟨_, rfl⟩
  obtain ⟨A1, eA1⟩ : ∃ A, amt (rung u) = A := ⟨_, rfl⟩
  obtain ⟨A2, eA2⟩ : ∃ A, amt (rung v) = A := ⟨_, rfl⟩
  obtain ⟨s, es⟩ : ∃ s, (sgnB u ^^ sgnB v) = s := ⟨_, rfl⟩
  rw [eK, eA1, eA2, es] at NR
  rw [eA2] at M0
  rw [eA1] at O1
  rw [eA2] at O2
  rw [es] at hXa
  rw [eK]
  obtain ⟨s1, es1⟩ : ∃ s, sgnB u = s := ⟨_, rfl⟩
  obtain ⟨s2, es2⟩ : ∃ s, sgnB v = s := ⟨_, rfl⟩
  rw [es1] at O1
  rw [es2] at O2
  clear fu fv zu' zv' eK eA1 eA2 es es1 es2 eX
  cases s
  all_goals
    first | (rw [if_pos rfl] at hXa) | (rw [if_neg (by simp)] at hXa)
    go_enter Tryz.func16, Tryz.ntmps16
    go_wp2_with (first
      | (go_at_call 25; refine (rIsNaN_any _ (by first | exact hu | exact hv) _).mono ?_; rintro e w' ⟨rfl, rfl⟩)
      | (go_at_call 26; refine (rIsInf_any _ (by first | exact hu | exact hv) _).mono ?_; rintro e w' ⟨rfl, rfl⟩)
      | (go_at_call 27; refine (rIsZero_any _ (by first | exact hu | exact hv) _).mono ?_; rintro e w' ⟨rfl, rfl⟩)
      | (go_at_call 30; refine (O1 _).mono ?_; rintro e w1 ⟨ao1, l1, c1, m1, k1, rfl, h1, e1, lm1, lk1, g1, b1⟩; clear O1)
      | (go_at_call 30; refine (O2 _).mono ?_; rintro e w2 ⟨ao2, l2, c2, m2, k2, rfl, h2, e2, lm2, lk2, g2, b2⟩; clear O2
         have SH := fun wt (hb : Below w2.heap.size w2 wt) => shl_any _ m1 128 wt ((h1.below b2).below hb) (BK.out m1 lm1).1 (BK.out m1 lm1).2.1 (by omega)
         have DV := fun x wt (hb : Below w2.heap.size w2 wt) (hx : IsAmt wt x (m1 * 2 ^ 128)) => divD_any x _ (m1 * 2 ^ 128) m2 wt hx (h2.below hb) (BK.out m1 lm1).2.2 (BK.out m2 lm2).1 (M0.out m2 k2 e2)
         have NR2 := NR.out m1 k1 m2 k2 e1 e2 lm1 lm2 lk1 lk2 g1 g2; have B2 := b1.trans (b2.mono b1.size); clear e1 e2 h1 h2 b1 b2 NR BK g1 g2 M0
         obtain ⟨p1, ep1⟩ : ∃ p : Int, (k1 : Int) - 1074 = p := ⟨_, rfl⟩
         obtain ⟨p2, ep2⟩ : ∃ p : Int, (k2 : Int) - 1074 = p := ⟨_, rfl⟩
         have hp : IntKind.i64.wrap (p1 - p2) = p1 - p2 := by rw [IntKind.wrap_i64]; omega
         have hp' : IntKind.i64.wrap (p1 - p2 - 128) = p1 - p2 - 128 := by rw [IntKind.wrap_i64]; omega
         obtain ⟨AA, eAA⟩ : ∃ s, m1 * 2 ^ 128 = s := ⟨_, rfl⟩
         rw [eAA] at SH DV NR2
         obtain ⟨QQ, eQQ⟩ : ∃ s, AA / m2 = s := ⟨_, rfl⟩
         obtain ⟨RR, eRR⟩ : ∃ s, AA % m2 = s := ⟨_, rfl⟩
         rw [eQQ, eRR] at DV NR2
         rw [ep1, ep2] at NR2
         rw [ep1, ep2]
         clear eAA eQQ eRR ep1 ep2 lm1 lm2 lk1 lk2))
    have W2 : Hid (Below (w2.heap.size + 1 + 1) ((w2.alloc (.cells #[.bool s1, .slice ao1 l1 c1, .int .i64 p1] 41)).alloc (.cells #[.bool s2, .slice ao2 l2 c2, .int .i64 p2] 41)) ((w2.alloc (.cells #[.bool s1, .slice ao1 l1 c1, .int .i64 p1] 41)).alloc (.cells #[.bool s2, .slice ao2 l2 c2, .int .i64 p2] 41))) := hide (Below.refl _ _)
    obtain ⟨x0, x1, x2, y0, y1, y2, bb, zz⟩ := two_kept W2.out
    go_region_held3 (fun w' => w'.cell? ⟨w2.heap.size, 1, none⟩ = some (.slice ao1 l1 c1) ∧ w'.cell? ⟨w2.heap.size + 1, 1, none⟩ = some (.slice ao2 l2 c2)) (go_keep) (first
      | (go_at_call 36; refine (SH _ bb.drew).mono ?_; rintro e w3 ⟨v3, rfl, h3, b3⟩; clear SH
         have b3' := W2.out.trans ((undrew' b3).mono (by simp))
         obtain ⟨x0, x1, x2, y0, y1, y2, bb, zz⟩ := two_kept b3'
         have DV1 := DV _ _ bb h3
         clear b3 DV)
      | (go_at_call 35; refine DV1.mono ?_; rintro e w4 ⟨vq, vr, rfl, hq, hr, b4⟩; clear DV1
         have b4' := b3'.trans (b4.mono zz)
         obtain ⟨x0, x1, x2, y0, y1, y2, bb, zz⟩ := two_kept b4'
         obtain ⟨aq, lq, cq, rfl⟩ := amt_form hq
         obtain ⟨ar, lr, cr, rfl⟩ := amt_form hr
         have hlr := amt_len' hr
         obtain ⟨mb, emb⟩ : ∃ mb, decide (RR ≠ 0) = mb := ⟨_, rfl⟩
         have hm1 : decide ((0 : Int) < (lr : Int)) = mb := by rw [← emb]; exact decide_eq_decide.2 (by omega)
         have hm2 : decide (0 < lr) = mb := by rw [← emb]; exact decide_eq_decide.2 (by omega)
         have NR3 := NR2 _ _ mb hq emb.symm; clear NR2 hlr emb))
    go_wp2_with (go_at_call 28; refine NR3.mono ?_; rintro e w5 ⟨r, rfl, lr, cr, b5⟩)
    go_ret
    exact ⟨r, rfl, lr, cr, B2.trans ((bb.trans (b5.mono (by omega))).mono B2.size)⟩

/-- All that is answered without reckoning. -/
theorem rDiv_odd (u v : Nat) (hu : u < 18446744073709551616) (hv : v < 18446744073709551616) (ho : ¬ (rung u < 9218868437227405312 ∧ rung v < 9218868437227405312) ∨ rung u = 0 ∨ rung v = 0) (w : World) :
    Calls Tryz.prog 16 #[.int .u64 (u : Int), .int .u64 (v : Int)] w fun e w' => ∃ r, e = .returned (.int .u64 ((r : Nat) : Int)) ∧ r < 18446744073709551616 ∧ canon r = cRes (double.div u v) ∧ Below w.heap.size w w' := by
  have hX := u64_xor u v hu hv
  have hXa := u64_and_sign (u ^^^ v) (xor_lt u v hu hv)
  rw [sgn_xor] at hXa
  obtain ⟨X, eX⟩ : ∃ X, u ^^^ v = X := ⟨_, rfl⟩
  rw [eX] at hX hXa
  clear eX
  have SG0 := signed_any (sgnB u ^^ sgnB v) 9218868437227405312 (by decide)
  have SZ0 := signed_any (sgnB u ^^ sgnB v) 0 (by decide)
  cases nu : nanB u
  case true =>
    have hc : Hid (canon 9221120237041090560 = cRes (double.div u v)) := hide (by rw [div_nan_l nu]; rfl)
    cases hs : (sgnB u ^^ sgnB v)
    all_goals
      rw [hs] at hXa
      first | (rw [if_pos rfl] at hXa) | (rw [if_neg (by simp)] at hXa)
      clear ho SG0 SZ0
      have SG := hide hs
      go_enter Tryz.func16, Tryz.ntmps16
      go_wp2_with (first
      | (go_at_call 25; refine (rIsNaN_any _ (by first | exact hu | exact hv) _).mono ?_; rintro e w' ⟨rfl, rfl⟩)
      | (go_at_call 26; refine (rIsInf_any _ (by first | exact hu | exact hv) _).mono ?_; rintro e w' ⟨rfl, rfl⟩)
      | (go_at_call 27; refine (rIsZero_any _ (by first | exact hu | exact hv) _).mono ?_; rintro e w' ⟨rfl, rfl⟩)
      | (go_at_call 33; refine (SG _).mono ?_; rintro e w' ⟨rfl, rfl⟩))
      go_ret
      exact ⟨9221120237041090560, rfl, by decide, hc.out, Below.refl _ _⟩
  cases nv : nanB v
  case true =>
    have hc : Hid (canon 9221120237041090560 = cRes (double.div u v)) := hide (by rw [div_nan_r nv]; rfl)
    cases hs : (sgnB u ^^ sgnB v)
    all_goals
      rw [hs] at hXa
      first | (rw [if_pos rfl] at hXa) | (rw [if_neg (by simp)] at hXa)
      clear ho SG0 SZ0
      have SG := hide hs
      go_enter Tryz.func16, Tryz.ntmps16
      go_wp2_with (first
      | (go_at_call 25; refine (rIsNaN_any _ (by first | exact hu | exact hv) _).mono ?_; rintro e w' ⟨rfl, rfl⟩)
      | (go_at_call 26; refine (rIsInf_any _ (by first | exact hu | exact hv) _).mono ?_; rintro e w' ⟨rfl, rfl⟩)
      | (go_at_call 27; refine (rIsZero_any _ (by first | exact hu | exact hv) _).mono ?_; rintro e w' ⟨rfl, rfl⟩)
      | (go_at_call 33; refine (SG _).mono ?_; rintro e w' ⟨rfl, rfl⟩))
      go_ret
      exact ⟨9221120237041090560, rfl, by decide, hc.out, Below.refl _ _⟩
  have ru := nanB_not nu
  have rv := nanB_not nv
  cases iu : infB u
  · have fu : rung u < 9218868437227405312 := by unfold infB at iu; simp at iu; omega
    cases iv : infB v
    · have fv : rung v < 9218868437227405312 := by unfold infB at iv; simp at iv; omega
      cases zv : zeroB v
      · have zv' : rung v ≠ 0 := by unfold zeroB at zv; simpa using zv
        have zu' : rung u = 0 := by omega
        have zu : zeroB u = true := by unfold zeroB; simp; omega
        have hc : Hid (canon (wordD (sgnB u ^^ sgnB v) 0) = cRes (double.div u v)) := hide (by rw [div_zero_num fv zv' zu']; rfl)
        have hl : Hid (wordD (sgnB u ^^ sgnB v) 0 < 18446744073709551616) := hide (wordD_lt (by omega))
        have SG := SZ0
        obtain ⟨W, eW⟩ : ∃ W, wordD (sgnB u ^^ sgnB v) 0 = W := ⟨_, rfl⟩
        rw [eW] at SG hc hl
        clear ho SG0 SZ0 ru rv fu fv zu' zv' eW
        cases hs : (sgnB u ^^ sgnB v)
        all_goals
          rw [hs] at hXa SG
          first | (rw [if_pos rfl] at hXa) | (rw [if_neg (by simp)] at hXa)
          clear hs
          go_enter Tryz.func16, Tryz.ntmps16
          go_wp2_with (first
      | (go_at_call 25; refine (rIsNaN_any _ (by first | exact hu | exact hv) _).mono ?_; rintro e w' ⟨rfl, rfl⟩)
      | (go_at_call 26; refine (rIsInf_any _ (by first | exact hu | exact hv) _).mono ?_; rintro e w' ⟨rfl, rfl⟩)
      | (go_at_call 27; refine (rIsZero_any _ (by first | exact hu | exact hv) _).mono ?_; rintro e w' ⟨rfl, rfl⟩)
      | (go_at_call 33; refine (SG _).mono ?_; rintro e w' ⟨rfl, rfl⟩))
          go_ret
          exact ⟨W, rfl, hl.out, hc.out, Below.refl _ _⟩
      · have zv' : rung v = 0 := by unfold zeroB at zv; simpa using zv
        cases zu : zeroB u
        · have zu' : rung u ≠ 0 := by unfold zeroB at zu; simpa using zu
          have hc : Hid (canon (wordD (sgnB u ^^ sgnB v) 9218868437227405312) = cRes (double.div u v)) := hide (by rw [div_num_zero fu zu' zv']; rfl)
          have hl : Hid (wordD (sgnB u ^^ sgnB v) 9218868437227405312 < 18446744073709551616) := hide (wordD_lt (by omega))
          have SG := SG0
          obtain ⟨W, eW⟩ : ∃ W, wordD (sgnB u ^^ sgnB v) 9218868437227405312 = W := ⟨_, rfl⟩
          rw [eW] at SG hc hl
          clear ho SG0 SZ0 ru rv fu fv zu' zv' eW
          cases hs : (sgnB u ^^ sgnB v)
          all_goals
            rw [hs] at hXa SG
            first | (rw [if_pos rfl] at hXa) | (rw [if_neg (by simp)] at hXa)
            clear hs
            go_enter Tryz.func16, Tryz.ntmps16
            go_wp2_with (first
      | (go_at_call 25; refine (rIsNaN_any _ (by first | exact hu | exact hv) _).mono ?_; rintro e w' ⟨rfl, rfl⟩)
      | (go_at_call 26; refine (rIsInf_any _ (by first | exact hu | exact hv) _).mono ?_; rintro e w' ⟨rfl, rfl⟩)
      | (go_at_call 27; refine (rIsZero_any _ (by first | exact hu | exact hv) _).mono ?_; rintro e w' ⟨rfl, rfl⟩)
      | (go_at_call 33; refine (SG _).mono ?_; rintro e w' ⟨rfl, rfl⟩))
            go_ret
            exact ⟨W, rfl, hl.out, hc.out, Below.refl _ _⟩
        · have zu' : rung u = 0 := by unfold zeroB at zu; simpa using zu
          have hc : Hid (canon 9221120237041090560 = cRes (double.div u v)) := hide (by rw [div_zeros zu' zv']; rfl)
          cases hs : (sgnB u ^^ sgnB v)
          all_goals
            rw [hs] at hXa
            first | (rw [if_pos rfl] at hXa) | (rw [if_neg (by simp)] at hXa)
            clear ho SG0 SZ0 ru rv fu fv zu' zv'
            have SG := hide hs
            go_enter Tryz.func16, Tryz.ntmps16
            go_wp2_with (first
      | (go_at_call 25; refine (rIsNaN_any _ (by first | exact hu | exact hv) _).mono ?_; rintro e w' ⟨rfl, rfl⟩)
      | (go_at_call 26; refine (rIsInf_any _ (by first | exact hu | exact hv) _).mono ?_; rintro e w' ⟨rfl, rfl⟩)
      | (go_at_call 27; refine (rIsZero_any _ (by first | exact hu | exact hv) _).mono ?_; rintro e w' ⟨rfl, rfl⟩)
      | (go_at_call 33; refine (SG _).mono ?_; rintro e w' ⟨rfl, rfl⟩))
            go_ret
            exact ⟨9221120237041090560, rfl, by decide, hc.out, Below.refl _ _⟩
    · have fv : rung v = 9218868437227405312 := by unfold infB at iv; simpa using iv
      have zv : zeroB v = false := by unfold zeroB; simp; omega
      cases zu : zeroB u
      · have hc : Hid (canon (wordD (sgnB u ^^ sgnB v) 0) = cRes (double.div u v)) := hide (by rw [div_num_inf fu fv]; rfl)
        have hl : Hid (wordD (sgnB u ^^ sgnB v) 0 < 18446744073709551616) := hide (wordD_lt (by omega))
        have SG := SZ0
        obtain ⟨W, eW⟩ : ∃ W, wordD (sgnB u ^^ sgnB v) 0 = W := ⟨_, rfl⟩
        rw [eW] at SG hc hl
        clear ho SG0 SZ0 ru rv fu fv eW
        cases hs : (sgnB u ^^ sgnB v)
        all_goals
          rw [hs] at hXa SG
          first | (rw [if_pos rfl] at hXa) | (rw [if_neg (by simp)] at hXa)
          clear hs
          go_enter Tryz.func16, Tryz.ntmps16
          go_wp2_with (first
      | (go_at_call 25; refine (rIsNaN_any _ (by first | exact hu | exact hv) _).mono ?_; rintro e w' ⟨rfl, rfl⟩)
      | (go_at_call 26; refine (rIsInf_any _ (by first | exact hu | exact hv) _).mono ?_; rintro e w' ⟨rfl, rfl⟩)
      | (go_at_call 27; refine (rIsZero_any _ (by first | exact hu | exact hv) _).mono ?_; rintro e w' ⟨rfl, rfl⟩)
      | (go_at_call 33; refine (SG _).mono ?_; rintro e w' ⟨rfl, rfl⟩))
          go_ret
          exact ⟨W, rfl, hl.out, hc.out, Below.refl _ _⟩
      · have hc : Hid (canon (wordD (sgnB u ^^ sgnB v) 0) = cRes (double.div u v)) := hide (by rw [div_num_inf fu fv]; rfl)
        have hl : Hid (wordD (sgnB u ^^ sgnB v) 0 < 18446744073709551616) := hide (wordD_lt (by omega))
        have SG := SZ0
        obtain ⟨W, eW⟩ : ∃ W, wordD (sgnB u ^^ sgnB v) 0 = W := ⟨_, rfl⟩
        rw [eW] at SG hc hl
        clear ho SG0 SZ0 ru rv fu fv eW
        cases hs : (sgnB u ^^ sgnB v)
        all_goals
          rw [hs] at hXa SG
          first | (rw [if_pos rfl] at hXa) | (rw [if_neg (by simp)] at hXa)
          clear hs
          go_enter Tryz.func16, Tryz.ntmps16
          go_wp2_with (first
      | (go_at_call 25; refine (rIsNaN_any _ (by first | exact hu | exact hv) _).mono ?_; rintro e w' ⟨rfl, rfl⟩)
      | (go_at_call 26; refine (rIsInf_any _ (by first | exact hu | exact hv) _).mono ?_; rintro e w' ⟨rfl, rfl⟩)
      | (go_at_call 27; refine (rIsZero_any _ (by first | exact hu | exact hv) _).mono ?_; rintro e w' ⟨rfl, rfl⟩)
      | (go_at_call 33; refine (SG _).mono ?_; rintro e w' ⟨rfl, rfl⟩))
          go_ret
          exact ⟨W, rfl, hl.out, hc.out, Below.refl _ _⟩
  · have fu : rung u = 9218868437227405312 := by unfold infB at iu; simpa using iu
    have zu : zeroB u = false := by unfold zeroB; simp; omega
    cases iv : infB v
    · have fv : rung v < 9218868437227405312 := by unfold infB at iv; simp at iv; omega
      have hc : Hid (canon (wordD (sgnB u ^^ sgnB v) 9218868437227405312) = cRes (double.div u v)) := hide (by rw [div_inf_num fu fv]; rfl)
      have hl : Hid (wordD (sgnB u ^^ sgnB v) 9218868437227405312 < 18446744073709551616) := hide (wordD_lt (by omega))
      have SG := SG0
      obtain ⟨W, eW⟩ : ∃ W, wordD (sgnB u ^^ sgnB v) 9218868437227405312 = W := ⟨_, rfl⟩
      rw [eW] at SG hc hl
      clear ho SG0 SZ0 ru rv fu fv eW
      cases hs : (sgnB u ^^ sgnB v)
      all_goals
        rw [hs] at hXa SG
        first | (rw [if_pos rfl] at hXa) | (rw [if_neg (by simp)] at hXa)
        clear hs
        go_enter Tryz.func16, Tryz.ntmps16
        go_wp2_with (first
      | (go_at_call 25; refine (rIsNaN_any _ (by first | exact hu | exact hv) _).mono ?_; rintro e w' ⟨rfl, rfl⟩)
      | (go_at_call 26; refine (rIsInf_any _ (by first | exact hu | exact hv) _).mono ?_; rintro e w' ⟨rfl, rfl⟩)
      | (go_at_call 27; refine (rIsZero_any _ (by first | exact hu | exact hv) _).mono ?_; rintro e w' ⟨rfl, rfl⟩)
      | (go_at_call 33; refine (SG _).mono ?_; rintro e w' ⟨rfl, rfl⟩))
        go_ret
        exact ⟨W, rfl, hl.out, hc.out, Below.refl _ _⟩
    · have fv : rung v = 9218868437227405312 := by unfold infB at iv; simpa using iv
      have hc : Hid (canon 9221120237041090560 = cRes (double.div u v)) := hide (by rw [div_infs fu fv]; rfl)
      cases hs : (sgnB u ^^ sgnB v)
      all_goals
        rw [hs] at hXa
        first | (rw [if_pos rfl] at hXa) | (rw [if_neg (by simp)] at hXa)
        clear ho SG0 SZ0 ru rv fu fv
        have SG := hide hs
        go_enter Tryz.func16, Tryz.ntmps16
        go_wp2_with (first
      | (go_at_call 25; refine (rIsNaN_any _ (by first | exact hu | exact hv) _).mono ?_; rintro e w' ⟨rfl, rfl⟩)
      | (go_at_call 26; refine (rIsInf_any _ (by first | exact hu | exact hv) _).mono ?_; rintro e w' ⟨rfl, rfl⟩)
      | (go_at_call 27; refine (rIsZero_any _ (by first | exact hu | exact hv) _).mono ?_; rintro e w' ⟨rfl, rfl⟩)
      | (go_at_call 33; refine (SG _).mono ?_; rintro e w' ⟨rfl, rfl⟩))
        go_ret
        exact ⟨9221120237041090560, rfl, by decide, hc.out, Below.refl _ _⟩

theorem rDiv_any (u v : Nat) (hu : u < 18446744073709551616) (hv : v < 18446744073709551616) (w : World) :
    Calls Tryz.prog 16 #[.int .u64 (u : Int), .int .u64 (v : Int)] w fun e w' => ∃ r, e = .returned (.int .u64 ((r : Nat) : Int)) ∧ r < 18446744073709551616 ∧ canon r = cRes (double.div u v) ∧ Below w.heap.size w w' := by
  by_cases h : (rung u < 9218868437227405312 ∧ rung v < 9218868437227405312) ∧ rung u ≠ 0 ∧ rung v ≠ 0
  · exact rDiv_fin u v hu hv h.1.1 h.1.2 h.2.1 h.2.2 w
  · exact rDiv_odd u v hu hv (by omega) w
end Go.Proofs.YtiglacchpmooeaaGreatDoor
