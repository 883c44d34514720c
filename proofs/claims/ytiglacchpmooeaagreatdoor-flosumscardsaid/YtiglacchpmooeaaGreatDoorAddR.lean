/- The reference's Add and Sub. -/
import Derived.Test.YtiglacchpmooeaaGreatDoorSumM
import Derived.Test.YtiglacchpmooeaaGreatDoorNear6
namespace Go.Proofs.YtiglacchpmooeaaGreatDoor
open Go.ChangeShapes Go.WideShapes Go.ChangeAt Go.RowKit
open Ieee

theorem add_any' (sx sy : Bool) (vx vy : Value) (m1 k1 m2 k2 : Nat) (w : World) (hx : IsAmt w vx m1) (hy : IsAmt w vy m2) (l1 : m1 < 9007199254740992) (l2 : m2 < 9007199254740992) (h1 : k1 ≤ 2045) (h2 : k2 ≤ 2045) :
    Calls Tryz.prog 29 #[.agg #[.bool sx, vx, .int .i64 ((k1 : Nat) - 1074 : Int)], .agg #[.bool sy, vy, .int .i64 ((k2 : Nat) - 1074 : Int)]] w fun e w' => ∃ ao l c, e = .returned (.agg #[.bool (sumS sx sy (m1 * 2 ^ (k1 - min k1 k2)) (m2 * 2 ^ (k2 - min k1 k2))), .slice ao l c, .int .i64 ((min k1 k2 : Nat) - 1074 : Int)]) ∧ IsAmt w' (.slice ao l c) (sumM sx sy (m1 * 2 ^ (k1 - min k1 k2)) (m2 * 2 ^ (k2 - min k1 k2))) ∧ Below w.heap.size w w' := by
  have q1 : m1 < 2 ^ 53 := by omega
  have q2 : m2 < 2 ^ 53 := by omega
  have B1 : Kept m1 := ⟨big_of q1 (by omega)⟩
  have B2 : Kept (m1 * 65536) := ⟨big_of (mul_pow_lt (k := 16) q1) (by omega)⟩
  have B3 : Kept m2 := ⟨big_of q2 (by omega)⟩
  have B4 : Kept (m2 * 65536) := ⟨big_of (mul_pow_lt (k := 16) q2) (by omega)⟩
  have B5 : Kept (m1 * 2 ^ (k1 - min k1 k2)) := ⟨big_of (mul_pow_lt q1) (by omega)⟩
  have B6 : Kept (m2 * 2 ^ (k2 - min k1 k2)) := ⟨big_of (mul_pow_lt q2) (by omega)⟩
  refine add_low sx sy vx vy _ _ ((k1 - min k1 k2 : Nat) : Int) ((k2 - min k1 k2 : Nat) : Int) _ _ _ w (fun wt hb => shl_any vx m1 _ wt (hx.below hb) B1.out B2.out (by omega)) (fun wt hb => shl_any vy m2 _ wt (hy.below hb) B3.out B4.out (by omega)) B5 B6 (by omega) ?_ ?_
  · rw [IntKind.wrap_i64]; omega
  · rw [IntKind.wrap_i64]; omega

theorem sumM_le (sx sy : Bool) (A B : Nat) : sumM sx sy A B ≤ A + B := by 
  unfold sumM
  split
  · omega
  · split <;> omega

theorem pow_next (n : Nat) : 2 ^ (n + 1) = 2 * 2 ^ n := by rw [Nat.pow_succ, Nat.mul_comm]

theorem log_small {M a : Nat} (h : M < 2 ^ a) (ha : a ≤ 5000) : M.log2 ≤ 5000 := by
  by_cases h0 : M = 0
  · rw [h0]; decide
  · have := (Nat.log2_lt h0).2 h
    omega

theorem log_sum {A B M a b n : Nat} (h1 : A < 2 ^ a) (h2 : B < 2 ^ b) (ha : a ≤ n) (hb : b ≤ n) (hn : n < 5000) (hM : M ≤ A + B) : M.log2 ≤ 5000 := by
  refine log_small (a := n + 1) ?_ (by omega)
  have h3 : (2 : Nat) ^ a ≤ 2 ^ n := Nat.pow_le_pow_right (by decide) ha
  have h4 : (2 : Nat) ^ b ≤ 2 ^ n := Nat.pow_le_pow_right (by decide) hb
  rw [pow_next]
  omega

/-- Of, Of, add and Nearest, one behind the other. -/
theorem sum_rounded (u v m1 k1 m2 k2 : Nat) (hu : rung u < 9218868437227405312) (hv : rung v < 9218868437227405312) (e1 : m1 * 2 ^ k1 = amt (rung u)) (e2 : m2 * 2 ^ k2 = amt (rung v)) (l1 : m1 < 9007199254740992) (l2 : m2 < 9007199254740992) (h1 : k1 ≤ 2045) (h2 : k2 ≤ 2045) (hz : m1 ≠ 0 ∨ m2 ≠ 0) (x : Value) (wt : World) (hx : IsAmt wt x (sumM (sgnB u) (sgnB v) (m1 * 2 ^ (k1 - min k1 k2)) (m2 * 2 ^ (k2 - min k1 k2)))) :
    Calls Tryz.prog 28 #[.agg #[.bool (sumS (sgnB u) (sgnB v) (m1 * 2 ^ (k1 - min k1 k2)) (m2 * 2 ^ (k2 - min k1 k2))), x, .int .i64 ((min k1 k2 : Nat) - 1074 : Int)], .bool false] wt fun e w' => ∃ r, e = .returned (.int .u64 ((r : Nat) : Int)) ∧ r < 18446744073709551616 ∧ canon r = cRes (double.add u v) ∧ Below wt.heap.size wt w' := by
  have q1 : m1 < 2 ^ 53 := by omega
  have q2 : m2 < 2 ^ 53 := by omega
  have ha : m1 * 2 ^ (k1 - min k1 k2) * 2 ^ min k1 k2 = amt (rung u) := by rw [Nat.mul_assoc, ← Nat.pow_add, Nat.sub_add_cancel (Nat.min_le_left _ _), e1]
  have hb : m2 * 2 ^ (k2 - min k1 k2) * 2 ^ min k1 k2 = amt (rung v) := by rw [Nat.mul_assoc, ← Nat.pow_add, Nat.sub_add_cancel (Nat.min_le_right _ _), e2]
  have hn : m1 * 2 ^ (k1 - min k1 k2) ≠ 0 ∨ m2 * 2 ^ (k2 - min k1 k2) ≠ 0 := by
    rcases hz with h | h
    · exact Or.inl (Nat.mul_ne_zero h (Nat.ne_of_gt (Nat.two_pow_pos _)))
    · exact Or.inr (Nat.mul_ne_zero h (Nat.ne_of_gt (Nat.two_pow_pos _)))
  have hw := sum_word hu hv ha hb hn
  have t1 := mul_pow_lt (k := k1 - min k1 k2) q1
  have t2 := mul_pow_lt (k := k2 - min k1 k2) q2
  have hl := log_sum t1 t2 (n := 2098) (by omega) (by omega) (by omega) (sumM_le (sgnB u) (sgnB v) (m1 * 2 ^ (k1 - min k1 k2)) (m2 * 2 ^ (k2 - min k1 k2)))
  refine (nearest_any _ x _ _ wt hx hl ⟨by omega, by omega⟩).mono ?_
  rintro e w' ⟨rfl, b⟩
  refine ⟨_, rfl, wordD_lt (nearR_le _ _), ?_, b⟩
  rw [hw]
  rfl

theorem rAdd_fin (u v : Nat) (hu : u < 18446744073709551616) (hv : v < 18446744073709551616) (fu : rung u < 9218868437227405312) (fv : rung v < 9218868437227405312) (hz : ¬ (rung u = 0 ∧ rung v = 0)) (w : World) :
    Calls Tryz.prog 9 #[.int .u64 (u : Int), .int .u64 (v : Int)] w fun e w' => ∃ r, e = .returned (.int .u64 ((r : Nat) : Int)) ∧ r < 18446744073709551616 ∧ canon r = cRes (double.add u v) ∧ Below w.heap.size w w' := by
  have nu : nanB u = false := by unfold nanB; simp; omega
  have nv : nanB v = false := by unfold nanB; simp; omega
  have iu : infB u = false := by unfold infB; simp; omega
  have iv : infB v = false := by unfold infB; simp; omega
  have O1 := of_read u hu fu
  have O2 := of_read v hv fv
  have NR := hide (fun m1 k1 m2 k2 e1 e2 l1 l2 h1 h2 hz x wt hx => sum_rounded u v m1 k1 m2 k2 fu fv e1 e2 l1 l2 h1 h2 hz x wt hx)
  have HZ : Hid (∀ m1 k1 m2 k2 : Nat, m1 * 2 ^ k1 = amt (rung u) → m2 * 2 ^ k2 = amt (rung v) → m1 ≠ 0 ∨ m2 ≠ 0) := by
    refine hide (fun m1 k1 m2 k2 e1 e2 => ?_)
    by_cases h1 : m1 = 0
    · right
      intro h2
      rw [h1, Nat.zero_mul] at e1
      rw [h2, Nat.zero_mul] at e2
      exact hz ⟨amt_inj (by rw [← e1, amt_zero]), amt_inj (by rw [← e2, amt_zero])⟩
    · exact Or.inl h1
  have z2 : zeroB u = true → zeroB v = false := by
    intro h
    unfold zeroB at h ⊢
    simp at h ⊢
    omega
  obtain ⟨K, eK⟩ : ∃ K, cRes (double.add u v) = K := ⟨_, rfl⟩
  obtain ⟨A1, eA1⟩ : ∃ A, amt (rung u) = A := ⟨_, rfl⟩
  obtain ⟨A2, eA2⟩ : ∃ A, amt (rung v) = A := ⟨_, rfl⟩
  obtain ⟨s1, es1⟩ : ∃ s, sgnB u = s := ⟨_, rfl⟩
  obtain ⟨s2, es2⟩ : ∃ s, sgnB v = s := ⟨_, rfl⟩
  rw [eK, eA1, eA2, es1, es2] at NR
  rw [eA1, eA2] at HZ
  rw [eA1, es1] at O1
  rw [eA2, es2] at O2
  rw [eK]
  clear fu fv hz eK eA1 eA2 es1 es2
  cases z1 : zeroB u
  · clear z2
    go_enter Tryz.func9, Tryz.ntmps9
    go_wp2_with (first
      | (go_at_call 25; refine (rIsNaN_any _ (by first | exact hu | exact hv) _).mono ?_; rintro e w' ⟨rfl, rfl⟩)
      | (go_at_call 26; refine (rIsInf_any _ (by first | exact hu | exact hv) _).mono ?_; rintro e w' ⟨rfl, rfl⟩)
      | (go_at_call 27; refine (rIsZero_any _ (by first | exact hu | exact hv) _).mono ?_; rintro e w' ⟨rfl, rfl⟩)
      | (go_at_call 30; refine (O1 _).mono ?_; rintro e w1 ⟨ao1, l1, c1, m1, k1, rfl, h1, e1, lm1, lk1, _, b1⟩; clear O1)
      | (go_at_call 30; refine (O2 _).mono ?_; rintro e w2 ⟨ao2, l2, c2, m2, k2, rfl, h2, e2, lm2, lk2, _, b2⟩; clear O2; have AD := add_any' s1 s2 _ _ m1 k1 m2 k2 w2 (h1.below b2) h2 lm1 lm2 lk1 lk2; have NR2 := NR.out m1 k1 m2 k2 e1 e2 lm1 lm2 lk1 lk2 (HZ.out m1 k1 m2 k2 e1 e2); have B2 := b1.trans (b2.mono b1.size); clear e1 e2 h1 h2 b1 b2 NR HZ
         obtain ⟨SS, eSS⟩ : ∃ s, sumS s1 s2 (m1 * 2 ^ (k1 - min k1 k2)) (m2 * 2 ^ (k2 - min k1 k2)) = s := ⟨_, rfl⟩
         obtain ⟨SM, eSM⟩ : ∃ s, sumM s1 s2 (m1 * 2 ^ (k1 - min k1 k2)) (m2 * 2 ^ (k2 - min k1 k2)) = s := ⟨_, rfl⟩
         obtain ⟨PP, ePP⟩ : ∃ p : Int, (((min k1 k2 : Nat) : Int) - 1074) = p := ⟨_, rfl⟩
         rw [eSS, eSM, ePP] at AD NR2
         clear eSS eSM ePP)
      | (go_at_call 29; refine AD.mono ?_; rintro e w3 ⟨ao3, l3, c3, rfl, h3, b3⟩; have NR3 := NR2 _ _ h3; clear AD NR2)
      | (go_at_call 28; refine NR3.mono ?_; rintro e w4 ⟨r, rfl, lr, cr, b4⟩))
    go_ret
    exact ⟨r, rfl, lr, cr, B2.trans ((b3.trans (b4.mono b3.size)).mono B2.size)⟩
  · have z2 := z2 z1
    go_enter Tryz.func9, Tryz.ntmps9
    go_wp2_with (first
      | (go_at_call 25; refine (rIsNaN_any _ (by first | exact hu | exact hv) _).mono ?_; rintro e w' ⟨rfl, rfl⟩)
      | (go_at_call 26; refine (rIsInf_any _ (by first | exact hu | exact hv) _).mono ?_; rintro e w' ⟨rfl, rfl⟩)
      | (go_at_call 27; refine (rIsZero_any _ (by first | exact hu | exact hv) _).mono ?_; rintro e w' ⟨rfl, rfl⟩)
      | (go_at_call 30; refine (O1 _).mono ?_; rintro e w1 ⟨ao1, l1, c1, m1, k1, rfl, h1, e1, lm1, lk1, _, b1⟩; clear O1)
      | (go_at_call 30; refine (O2 _).mono ?_; rintro e w2 ⟨ao2, l2, c2, m2, k2, rfl, h2, e2, lm2, lk2, _, b2⟩; clear O2; have AD := add_any' s1 s2 _ _ m1 k1 m2 k2 w2 (h1.below b2) h2 lm1 lm2 lk1 lk2; have NR2 := NR.out m1 k1 m2 k2 e1 e2 lm1 lm2 lk1 lk2 (HZ.out m1 k1 m2 k2 e1 e2); have B2 := b1.trans (b2.mono b1.size); clear e1 e2 h1 h2 b1 b2 NR HZ
         obtain ⟨SS, eSS⟩ : ∃ s, sumS s1 s2 (m1 * 2 ^ (k1 - min k1 k2)) (m2 * 2 ^ (k2 - min k1 k2)) = s := ⟨_, rfl⟩
         obtain ⟨SM, eSM⟩ : ∃ s, sumM s1 s2 (m1 * 2 ^ (k1 - min k1 k2)) (m2 * 2 ^ (k2 - min k1 k2)) = s := ⟨_, rfl⟩
         obtain ⟨PP, ePP⟩ : ∃ p : Int, (((min k1 k2 : Nat) : Int) - 1074) = p := ⟨_, rfl⟩
         rw [eSS, eSM, ePP] at AD NR2
         clear eSS eSM ePP)
      | (go_at_call 29; refine AD.mono ?_; rintro e w3 ⟨ao3, l3, c3, rfl, h3, b3⟩; have NR3 := NR2 _ _ h3; clear AD NR2)
      | (go_at_call 28; refine NR3.mono ?_; rintro e w4 ⟨r, rfl, lr, cr, b4⟩))
    go_ret
    exact ⟨r, rfl, lr, cr, B2.trans ((b3.trans (b4.mono b3.size)).mono B2.size)⟩

theorem nan_told : canon 9221120237041090560 = cRes none := rfl

/-- All that is answered without reckoning. -/
theorem rAdd_odd (u v : Nat) (hu : u < 18446744073709551616) (hv : v < 18446744073709551616) (ho : ¬ (rung u < 9218868437227405312 ∧ rung v < 9218868437227405312) ∨ (rung u = 0 ∧ rung v = 0)) (w : World) :
    Calls Tryz.prog 9 #[.int .u64 (u : Int), .int .u64 (v : Int)] w fun e w' => ∃ r, e = .returned (.int .u64 ((r : Nat) : Int)) ∧ r < 18446744073709551616 ∧ canon r = cRes (double.add u v) ∧ Below w.heap.size w w' := by
  cases nu : nanB u
  case true =>
    have hc : Hid (canon 9221120237041090560 = cRes (double.add u v)) := hide (by rw [add_nan_l nu]; rfl)
    clear ho
    go_enter Tryz.func9, Tryz.ntmps9
    go_wp2_with (first
      | (go_at_call 25; refine (rIsNaN_any _ (by first | exact hu | exact hv) _).mono ?_; rintro e w' ⟨rfl, rfl⟩)
      | (go_at_call 26; refine (rIsInf_any _ (by first | exact hu | exact hv) _).mono ?_; rintro e w' ⟨rfl, rfl⟩)
      | (go_at_call 27; refine (rIsZero_any _ (by first | exact hu | exact hv) _).mono ?_; rintro e w' ⟨rfl, rfl⟩))
    go_ret
    exact ⟨9221120237041090560, rfl, by decide, hc.out, Below.refl _ _⟩
  cases nv : nanB v
  case true =>
    have hc : Hid (canon 9221120237041090560 = cRes (double.add u v)) := hide (by rw [add_nan_r nv]; rfl)
    clear ho
    go_enter Tryz.func9, Tryz.ntmps9
    go_wp2_with (first
      | (go_at_call 25; refine (rIsNaN_any _ (by first | exact hu | exact hv) _).mono ?_; rintro e w' ⟨rfl, rfl⟩)
      | (go_at_call 26; refine (rIsInf_any _ (by first | exact hu | exact hv) _).mono ?_; rintro e w' ⟨rfl, rfl⟩)
      | (go_at_call 27; refine (rIsZero_any _ (by first | exact hu | exact hv) _).mono ?_; rintro e w' ⟨rfl, rfl⟩))
    go_ret
    exact ⟨9221120237041090560, rfl, by decide, hc.out, Below.refl _ _⟩
  have ru := nanB_not nu
  have rv := nanB_not nv
  cases iu : infB u
  · have fu : rung u < 9218868437227405312 := by unfold infB at iu; simp at iu; omega
    cases iv : infB v
    · have fv : rung v < 9218868437227405312 := by unfold infB at iv; simp at iv; omega
      have hz : rung u = 0 ∧ rung v = 0 := by omega
      have z1 : zeroB u = true := by unfold zeroB; simp; omega
      have z2 : zeroB v = true := by unfold zeroB; simp; omega
      have ha := u64_and u v hu hv
      rw [and_zeros hu hv hz.1 hz.2] at ha
      have hc : Hid (canon (wordD (sgnB u && sgnB v) 0) = cRes (double.add u v)) := hide (by rw [sum_zeros hz.1 hz.2]; rfl)
      have hl : Hid (wordD (sgnB u && sgnB v) 0 < 18446744073709551616) := hide (wordD_lt (by omega))
      obtain ⟨W, eW⟩ : ∃ W, wordD (sgnB u && sgnB v) 0 = W := ⟨_, rfl⟩
      rw [eW] at ha hc hl
      clear ho ru rv fu fv hz eW
      go_enter Tryz.func9, Tryz.ntmps9
      go_wp2_with (first
      | (go_at_call 25; refine (rIsNaN_any _ (by first | exact hu | exact hv) _).mono ?_; rintro e w' ⟨rfl, rfl⟩)
      | (go_at_call 26; refine (rIsInf_any _ (by first | exact hu | exact hv) _).mono ?_; rintro e w' ⟨rfl, rfl⟩)
      | (go_at_call 27; refine (rIsZero_any _ (by first | exact hu | exact hv) _).mono ?_; rintro e w' ⟨rfl, rfl⟩))
      go_ret
      exact ⟨W, rfl, hl.out, hc.out, Below.refl _ _⟩
    · have fv : rung v = 9218868437227405312 := by unfold infB at iv; simpa using iv
      have hc : Hid (canon v = cRes (double.add u v)) := hide (by rw [add_comm', add_inf_l fv fu, word_is hv fv]; rfl)
      clear ho ru rv fu fv
      go_enter Tryz.func9, Tryz.ntmps9
      go_wp2_with (first
      | (go_at_call 25; refine (rIsNaN_any _ (by first | exact hu | exact hv) _).mono ?_; rintro e w' ⟨rfl, rfl⟩)
      | (go_at_call 26; refine (rIsInf_any _ (by first | exact hu | exact hv) _).mono ?_; rintro e w' ⟨rfl, rfl⟩)
      | (go_at_call 27; refine (rIsZero_any _ (by first | exact hu | exact hv) _).mono ?_; rintro e w' ⟨rfl, rfl⟩))
      go_ret
      exact ⟨v, rfl, hv, hc.out, Below.refl _ _⟩
  · have fu : rung u = 9218868437227405312 := by unfold infB at iu; simpa using iu
    cases iv : infB v
    · have fv : rung v < 9218868437227405312 := by unfold infB at iv; simp at iv; omega
      have hc : Hid (canon u = cRes (double.add u v)) := hide (by rw [add_inf_l fu fv, word_is hu fu]; rfl)
      clear ho ru rv fu fv
      go_enter Tryz.func9, Tryz.ntmps9
      go_wp2_with (first
      | (go_at_call 25; refine (rIsNaN_any _ (by first | exact hu | exact hv) _).mono ?_; rintro e w' ⟨rfl, rfl⟩)
      | (go_at_call 26; refine (rIsInf_any _ (by first | exact hu | exact hv) _).mono ?_; rintro e w' ⟨rfl, rfl⟩)
      | (go_at_call 27; refine (rIsZero_any _ (by first | exact hu | exact hv) _).mono ?_; rintro e w' ⟨rfl, rfl⟩))
      go_ret
      exact ⟨u, rfl, hu, hc.out, Below.refl _ _⟩
    · have fv : rung v = 9218868437227405312 := by unfold infB at iv; simpa using iv
      have hc : Hid (if u = v then canon u = cRes (double.add u v) else canon 9221120237041090560 = cRes (double.add u v)) := by
        refine hide ?_
        rw [add_infs fu fv]
        by_cases h : u = v
        · rw [if_pos h, if_pos (by rw [h]), word_is hu fu]; rfl
        · rw [if_neg h, if_neg]
          · rfl
          · intro h2
            apply h
            rw [← word_is hu fu, ← word_is hv fv, h2]
      clear ho ru rv fu fv
      by_cases he : u = v
      · have hd : ((u : Int) != (v : Int)) = false := by rw [he]; simp
        have hc2 := hide ((if_pos he).mp hc.out)
        clear he hc
        go_enter Tryz.func9, Tryz.ntmps9
        go_wp2_with (first
      | (go_at_call 25; refine (rIsNaN_any _ (by first | exact hu | exact hv) _).mono ?_; rintro e w' ⟨rfl, rfl⟩)
      | (go_at_call 26; refine (rIsInf_any _ (by first | exact hu | exact hv) _).mono ?_; rintro e w' ⟨rfl, rfl⟩)
      | (go_at_call 27; refine (rIsZero_any _ (by first | exact hu | exact hv) _).mono ?_; rintro e w' ⟨rfl, rfl⟩))
        go_ret
        exact ⟨u, rfl, hu, hc2.out, Below.refl _ _⟩
      · have hd : ((u : Int) != (v : Int)) = true := by simp; omega
        have hc2 := hide ((if_neg he).mp hc.out)
        clear he hc
        go_enter Tryz.func9, Tryz.ntmps9
        go_wp2_with (first
      | (go_at_call 25; refine (rIsNaN_any _ (by first | exact hu | exact hv) _).mono ?_; rintro e w' ⟨rfl, rfl⟩)
      | (go_at_call 26; refine (rIsInf_any _ (by first | exact hu | exact hv) _).mono ?_; rintro e w' ⟨rfl, rfl⟩)
      | (go_at_call 27; refine (rIsZero_any _ (by first | exact hu | exact hv) _).mono ?_; rintro e w' ⟨rfl, rfl⟩))
        go_ret
        exact ⟨9221120237041090560, rfl, by decide, hc2.out, Below.refl _ _⟩

theorem rAdd_any (u v : Nat) (hu : u < 18446744073709551616) (hv : v < 18446744073709551616) (w : World) :
    Calls Tryz.prog 9 #[.int .u64 (u : Int), .int .u64 (v : Int)] w fun e w' => ∃ r, e = .returned (.int .u64 ((r : Nat) : Int)) ∧ r < 18446744073709551616 ∧ canon r = cRes (double.add u v) ∧ Below w.heap.size w w' := by
  by_cases h : (rung u < 9218868437227405312 ∧ rung v < 9218868437227405312) ∧ ¬ (rung u = 0 ∧ rung v = 0)
  · exact rAdd_fin u v hu hv h.1.1 h.1.2 h.2 w
  · exact rAdd_odd u v hu hv (by omega) w

theorem rSub_any (u v : Nat) (hu : u < 18446744073709551616) (hv : v < 18446744073709551616) (w : World) :
    Calls Tryz.prog 11 #[.int .u64 (u : Int), .int .u64 (v : Int)] w fun e w' => ∃ r, e = .returned (.int .u64 ((r : Nat) : Int)) ∧ r < 18446744073709551616 ∧ canon r = cRes (double.sub u v) ∧ Below w.heap.size w w' := by
  have NG := rNeg_any v hv
  have hx : (if nanB v then 9221120237041090560 else flip v) < 18446744073709551616 := by
    split
    · decide
    · exact flip_lt v hv
  have AD := rAdd_any u (if nanB v then 9221120237041090560 else flip v) hu hx
  have he : double.add u (if nanB v then 9221120237041090560 else flip v) = double.sub u v := by
    cases h : nanB v
    · rw [if_neg (by simp), sub_flip u v hv h]
    · rw [if_pos rfl, sub_nan_r h, add_nan_r (by decide)]
  rw [he] at AD
  obtain ⟨x, ex⟩ : ∃ x, (if nanB v then 9221120237041090560 else flip v) = x := ⟨_, rfl⟩
  rw [ex] at NG AD
  clear he hx ex
  go_enter Tryz.func11, Tryz.ntmps11
  go_wp2_with (first
    | (go_at_call 31; refine (NG _).mono ?_; rintro e w' ⟨rfl, rfl⟩)
    | (go_at_call 9; refine (AD _).mono ?_; rintro e w1 ⟨r, rfl, lr, cr, b1⟩))
  go_ret
  exact ⟨r, rfl, lr, cr, b1⟩
end Go.Proofs.YtiglacchpmooeaaGreatDoor
