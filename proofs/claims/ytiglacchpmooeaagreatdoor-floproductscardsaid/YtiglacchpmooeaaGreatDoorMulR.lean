/- The reference's Mul. -/
import Derived.Test.YtiglacchpmooeaaGreatDoorProdM
import Derived.Test.YtiglacchpmooeaaGreatDoorAddR
import Derived.Test.YtiglacchpmooeaaGreatDoorBigP
namespace Go.Proofs.YtiglacchpmooeaaGreatDoor
open Go.ChangeShapes Go.WideShapes Go.ChangeAt Go.RowKit
open Ieee

theorem two_kept {w w1 : World} {x0 x1 x2 y0 y1 y2 : Value} {t : TypeId} (h : Below (w.heap.size + 1 + 1) ((w.alloc (.cells #[x0, x1, x2] t)).alloc (.cells #[y0, y1, y2] t)) w1) :
    w1.cell? ⟨w.heap.size, 0, none⟩ = some x0 ∧ w1.cell? ⟨w.heap.size, 1, none⟩ = some x1 ∧ w1.cell? ⟨w.heap.size, 2, none⟩ = some x2 ∧
    w1.cell? ⟨w.heap.size + 1, 0, none⟩ = some y0 ∧ w1.cell? ⟨w.heap.size + 1, 1, none⟩ = some y1 ∧ w1.cell? ⟨w.heap.size + 1, 2, none⟩ = some y2 ∧
    Below w.heap.size w w1 ∧ w.heap.size + 1 < w1.heap.size := by
  have hs : ((w.alloc (.cells #[x0, x1, x2] t)).alloc (.cells #[y0, y1, y2] t)).heap.size = w.heap.size + 1 + 1 := by simp
  have hb : Below w.heap.size w ((w.alloc (.cells #[x0, x1, x2] t)).alloc (.cells #[y0, y1, y2] t)) := ((Below.refl _ _).alloc (Nat.le_refl _) _).alloc (by simp) _
  refine ⟨?_, ?_, ?_, ?_, ?_, ?_, hb.trans (h.mono (by omega)), by have := h.size; rw [hs] at this; omega⟩
  · rw [h.cell (p := ⟨w.heap.size, 0, none⟩) (by simp; omega), World.cell?_alloc_past _ _ _ (by simp), World.cell?_alloc_at _ _ _ _ rfl]; rfl
  · rw [h.cell (p := ⟨w.heap.size, 1, none⟩) (by simp; omega), World.cell?_alloc_past _ _ _ (by simp), World.cell?_alloc_at _ _ _ _ rfl]; rfl
  · rw [h.cell (p := ⟨w.heap.size, 2, none⟩) (by simp; omega), World.cell?_alloc_past _ _ _ (by simp), World.cell?_alloc_at _ _ _ _ rfl]; rfl
  · rw [h.cell (p := ⟨w.heap.size + 1, 0, none⟩) (by simp), World.cell?_alloc_at _ _ _ _ (by simp)]; rfl
  · rw [h.cell (p := ⟨w.heap.size + 1, 1, none⟩) (by simp), World.cell?_alloc_at _ _ _ _ (by simp)]; rfl
  · rw [h.cell (p := ⟨w.heap.size + 1, 2, none⟩) (by simp), World.cell?_alloc_at _ _ _ _ (by simp)]; rfl

set_option maxHeartbeats 8000000 in
theorem rMul_fin (u v : Nat) (hu : u < 18446744073709551616) (hv : v < 18446744073709551616) (fu : rung u < 9218868437227405312) (fv : rung v < 9218868437227405312) (w : World) :
    Calls Tryz.prog 14 #[.int .u64 (u : Int), .int .u64 (v : Int)] w fun e w' => ∃ r, e = .returned (.int .u64 ((r : Nat) : Int)) ∧ r < 18446744073709551616 ∧ canon r = cRes (double.mul u v) ∧ Below w.heap.size w w' := by
  have hX := u64_xor u v hu hv
  have hXa := u64_and_sign (u ^^^ v) (xor_lt u v hu hv)
  rw [sgn_xor] at hXa
  obtain ⟨X, eX⟩ : ∃ X, u ^^^ v = X := ⟨_, rfl⟩
  rw [eX] at hX hXa
  have nu : nanB u = false := by unfold nanB; simp; omega
  have nv : nanB v = false := by unfold nanB; simp; omega
  have iu : infB u = false := by unfold infB; simp; omega
  have iv : infB v = false := by unfold infB; simp; omega
  have O1 := of_read u hu fu
  have O2 := of_read v hv fv
  have NR : Hid (∀ m1 k1 m2 k2 : Nat, m1 * 2 ^ k1 = amt (rung u) → m2 * 2 ^ k2 = amt (rung v) → m1 < 9007199254740992 → m2 < 9007199254740992 → k1 ≤ 2045 → k2 ≤ 2045 → ∀ x wt, IsAmt wt x (m1 * m2) →
      Calls Tryz.prog 28 #[.agg #[.bool (sgnB u ^^ sgnB v), x, .int .i64 ((k1 : Int) - 1074 + ((k2 : Int) - 1074))], .bool false] wt fun e w' => ∃ r, e = .returned (.int .u64 ((r : Nat) : Int)) ∧ r < 18446744073709551616 ∧ canon r = cRes (double.mul u v) ∧ Below wt.heap.size wt w') := by
    refine hide fun m1 k1 m2 k2 e1 e2 l1 l2 h1 h2 x wt hx => ?_
    have q1 : m1 < 2 ^ 53 := by omega
    have q2 : m2 < 2 ^ 53 := by omega
    have q3 : m1 * m2 < 2 ^ 106 := by
      have h3 : m1 * m2 ≤ 9007199254740991 * 9007199254740991 := Nat.mul_le_mul (by omega) (by omega)
      exact Nat.lt_of_le_of_lt h3 (by decide)
    refine (nearest_any _ x _ _ wt hx (log_small q3 (by omega)) ⟨by omega, by omega⟩).mono ?_
    rintro e w' ⟨rfl, b⟩
    refine ⟨_, rfl, wordD_lt (nearR_le _ _), ?_, b⟩
    rw [product_word fu fv e1 e2]
    rfl
  have BK : Hid (∀ m : Nat, m < 9007199254740992 → m < BIG) := hide fun m h => big_of (show m < 2 ^ 53 by omega) (by omega)
  obtain ⟨K, eK⟩ : ∃ K, cRes (double.mul u v) = K := ⟨_, rfl⟩
  obtain ⟨A1, eA1⟩ : ∃ A, amt (rung u) = A := ⟨_, rfl⟩
  obtain ⟨A2, eA2⟩ : ∃ A, amt (rung v) = A := ⟨_, rfl⟩
  obtain ⟨s, es⟩ : ∃ s, (sgnB u ^^ sgnB v) = s := ⟨_, rfl⟩
  rw [eK, eA1, eA2, es] at NR
  rw [eA1] at O1
  rw [eA2] at O2
  rw [es] at hXa
  rw [eK]
  obtain ⟨s1, es1⟩ : ∃ s, sgnB u = s := ⟨_, rfl⟩
  obtain ⟨s2, es2⟩ : ∃ s, sgnB v = s := ⟨_, rfl⟩
  rw [es1] at O1
  rw [es2] at O2
  clear fu fv eK eA1 eA2 es es1 es2 eX
  cases s <;> cases zu : zeroB u
  all_goals
    first | (rw [if_pos rfl] at hXa) | (rw [if_neg (by simp)] at hXa)
    go_enter Tryz.func14, Tryz.ntmps14
    go_wp2_with (first
      | (go_at_call 25; refine (rIsNaN_any _ (by first | exact hu | exact hv) _).mono ?_; rintro e w' ⟨rfl, rfl⟩)
      | (go_at_call 26; refine (rIsInf_any _ (by first | exact hu | exact hv) _).mono ?_; rintro e w' ⟨rfl, rfl⟩)
      | (go_at_call 27; refine (rIsZero_any _ (by first | exact hu | exact hv) _).mono ?_; rintro e w' ⟨rfl, rfl⟩)
      | (go_at_call 30; refine (O1 _).mono ?_; rintro e w1 ⟨ao1, l1, c1, m1, k1, rfl, h1, e1, lm1, lk1, _, b1⟩; clear O1)
      | (go_at_call 30; refine (O2 _).mono ?_; rintro e w2 ⟨ao2, l2, c2, m2, k2, rfl, h2, e2, lm2, lk2, _, b2⟩; clear O2; have MU := fun wt (hb : Below w2.heap.size w2 wt) => mulD_any _ _ m1 m2 wt ((h1.below b2).below hb) (h2.below hb) (BK.out m1 lm1) (BK.out m2 lm2); have NR2 := NR.out m1 k1 m2 k2 e1 e2 lm1 lm2 lk1 lk2; have B2 := b1.trans (b2.mono b1.size); clear e1 e2 h1 h2 b1 b2 NR BK
         obtain ⟨p1, ep1⟩ : ∃ p : Int, (k1 : Int) - 1074 = p := ⟨_, rfl⟩
         obtain ⟨p2, ep2⟩ : ∃ p : Int, (k2 : Int) - 1074 = p := ⟨_, rfl⟩
         have hp : IntKind.i64.wrap (p1 + p2) = p1 + p2 := by rw [IntKind.wrap_i64]; omega
         obtain ⟨SM, eSM⟩ : ∃ s, m1 * m2 = s := ⟨_, rfl⟩
         rw [eSM] at MU NR2
         rw [ep1, ep2] at NR2
         rw [ep1, ep2]
         clear eSM ep1 ep2 lm1 lm2 lk1 lk2))
    have W2 : Hid (Below (w2.heap.size + 1 + 1) ((w2.alloc (.cells #[.bool s1, .slice ao1 l1 c1, .int .i64 p1] 41)).alloc (.cells #[.bool s2, .slice ao2 l2 c2, .int .i64 p2] 41)) ((w2.alloc (.cells #[.bool s1, .slice ao1 l1 c1, .int .i64 p1] 41)).alloc (.cells #[.bool s2, .slice ao2 l2 c2, .int .i64 p2] 41))) := hide (Below.refl _ _)
    obtain ⟨x0, x1, x2, y0, y1, y2, bb, zz⟩ := two_kept W2.out

    go_region_held3 (fun w' => w'.cell? ⟨w2.heap.size, 1, none⟩ = some (.slice ao1 l1 c1) ∧ w'.cell? ⟨w2.heap.size, 2, none⟩ = some (.int .i64 p1) ∧ w'.cell? ⟨w2.heap.size + 1, 1, none⟩ = some (.slice ao2 l2 c2) ∧ w'.cell? ⟨w2.heap.size + 1, 2, none⟩ = some (.int .i64 p2)) (go_keep) (first
      | (go_at_call 34; refine (MU _ bb.drew).mono ?_; rintro e w3 ⟨v3, rfl, h3, f3, b3⟩; clear MU
         have b3' := W2.out.trans ((undrew' b3).mono (by simp))
         obtain ⟨x0, x1, x2, y0, y1, y2, bb, zz⟩ := two_kept b3'
         obtain ⟨a3, l3, c3, rfl⟩ := amt_form h3
         have NR3 := NR2 _ _ h3; clear b3 NR2)
      | (go_at_call 28; refine NR3.mono ?_; rintro e w4 ⟨r, rfl, lr, cr, b4⟩
         have b4' := b3'.trans (b4.mono zz)
         obtain ⟨x0, x1, x2, y0, y1, y2, bb, zz⟩ := two_kept b4'))
    go_wp2
    go_ret
    exact ⟨r, rfl, lr, cr, B2.trans (bb.mono B2.size)⟩

/-- All that is answered without reckoning. -/
theorem rMul_odd (u v : Nat) (hu : u < 18446744073709551616) (hv : v < 18446744073709551616) (ho : ¬ (rung u < 9218868437227405312 ∧ rung v < 9218868437227405312)) (w : World) :
    Calls Tryz.prog 14 #[.int .u64 (u : Int), .int .u64 (v : Int)] w fun e w' => ∃ r, e = .returned (.int .u64 ((r : Nat) : Int)) ∧ r < 18446744073709551616 ∧ canon r = cRes (double.mul u v) ∧ Below w.heap.size w w' := by
  have hX := u64_xor u v hu hv
  have hXa := u64_and_sign (u ^^^ v) (xor_lt u v hu hv)
  rw [sgn_xor] at hXa
  obtain ⟨X, eX⟩ : ∃ X, u ^^^ v = X := ⟨_, rfl⟩
  rw [eX] at hX hXa
  clear eX
  have SG0 := signed_any (sgnB u ^^ sgnB v) 9218868437227405312 (by decide)
  cases nu : nanB u
  case true =>
    have hc : Hid (canon 9221120237041090560 = cRes (double.mul u v)) := hide (by rw [mul_nan_l nu]; rfl)
    cases hs : (sgnB u ^^ sgnB v)
    all_goals
      rw [hs] at hXa
      first | (rw [if_pos rfl] at hXa) | (rw [if_neg (by simp)] at hXa)
      clear ho SG0
      have SG := hide hs
      go_enter Tryz.func14, Tryz.ntmps14
      go_wp2_with (first
      | (go_at_call 25; refine (rIsNaN_any _ (by first | exact hu | exact hv) _).mono ?_; rintro e w' ⟨rfl, rfl⟩)
      | (go_at_call 26; refine (rIsInf_any _ (by first | exact hu | exact hv) _).mono ?_; rintro e w' ⟨rfl, rfl⟩)
      | (go_at_call 27; refine (rIsZero_any _ (by first | exact hu | exact hv) _).mono ?_; rintro e w' ⟨rfl, rfl⟩)
      | (go_at_call 33; refine (SG _).mono ?_; rintro e w' ⟨rfl, rfl⟩))
      go_ret
      exact ⟨9221120237041090560, rfl, by decide, hc.out, Below.refl _ _⟩
  cases nv : nanB v
  case true =>
    have hc : Hid (canon 9221120237041090560 = cRes (double.mul u v)) := hide (by rw [mul_nan_r nv]; rfl)
    cases hs : (sgnB u ^^ sgnB v)
    all_goals
      rw [hs] at hXa
      first | (rw [if_pos rfl] at hXa) | (rw [if_neg (by simp)] at hXa)
      clear ho SG0
      have SG := hide hs
      go_enter Tryz.func14, Tryz.ntmps14
      go_wp2_with (first
      | (go_at_call 25; refine (rIsNaN_any _ (by first | exact hu | exact hv) _).mono ?_; rintro e w' ⟨rfl, rfl⟩)
      | (go_at_call 26; refine (rIsInf_any _ (by first | exact hu | exact hv) _).mono ?_; rintro e w' ⟨rfl, rfl⟩)
      | (go_at_call 27; refine (rIsZero_any _ (by first | exact hu | exact hv) _).mono ?_; rintro e w' ⟨rfl, rfl⟩)
      | (go_at_call 33; refine (SG _).mono ?_; rintro e w' ⟨rfl, rfl⟩))
      go_ret
      exact ⟨9221120237041090560, rfl, by decide, hc.out, Below.refl _ _⟩
  have ru := nanB_not nu
  have rv := nanB_not nv
  cases iu : infB u
  · have fu : rung u < 9218868437227405312 := by unfold infB at iu; simp at iu; omega
    have fv : rung v = 9218868437227405312 := by omega
    have iv : infB v = true := by unfold infB; simp; omega
    cases zu : zeroB u
    · have zu' : rung u ≠ 0 := by unfold zeroB at zu; simpa using zu
      have hc : Hid (canon (wordD (sgnB u ^^ sgnB v) 9218868437227405312) = cRes (double.mul u v)) := hide (by rw [mul_comm', mul_inf_num fv nu zu', Bool.xor_comm]; rfl)
      have hl : Hid (wordD (sgnB u ^^ sgnB v) 9218868437227405312 < 18446744073709551616) := hide (wordD_lt (by omega))
      have SG := SG0
      obtain ⟨W, eW⟩ : ∃ W, wordD (sgnB u ^^ sgnB v) 9218868437227405312 = W := ⟨_, rfl⟩
      rw [eW] at SG hc hl
      clear ho SG0 ru rv fu fv zu' eW
      cases hs : (sgnB u ^^ sgnB v)
      all_goals
        rw [hs] at hXa SG
        first | (rw [if_pos rfl] at hXa) | (rw [if_neg (by simp)] at hXa)
        clear hs
        go_enter Tryz.func14, Tryz.ntmps14
        go_wp2_with (first
      | (go_at_call 25; refine (rIsNaN_any _ (by first | exact hu | exact hv) _).mono ?_; rintro e w' ⟨rfl, rfl⟩)
      | (go_at_call 26; refine (rIsInf_any _ (by first | exact hu | exact hv) _).mono ?_; rintro e w' ⟨rfl, rfl⟩)
      | (go_at_call 27; refine (rIsZero_any _ (by first | exact hu | exact hv) _).mono ?_; rintro e w' ⟨rfl, rfl⟩)
      | (go_at_call 33; refine (SG _).mono ?_; rintro e w' ⟨rfl, rfl⟩))
        go_ret
        exact ⟨W, rfl, hl.out, hc.out, Below.refl _ _⟩
    · have zu' : rung u = 0 := by unfold zeroB at zu; simpa using zu
      have hc : Hid (canon 9221120237041090560 = cRes (double.mul u v)) := hide (by rw [mul_comm', mul_inf_zero fv zu']; rfl)
      cases hs : (sgnB u ^^ sgnB v)
      all_goals
        rw [hs] at hXa
        first | (rw [if_pos rfl] at hXa) | (rw [if_neg (by simp)] at hXa)
        clear ho SG0 ru rv fu fv zu'
        have SG := hide hs
        go_enter Tryz.func14, Tryz.ntmps14
        go_wp2_with (first
      | (go_at_call 25; refine (rIsNaN_any _ (by first | exact hu | exact hv) _).mono ?_; rintro e w' ⟨rfl, rfl⟩)
      | (go_at_call 26; refine (rIsInf_any _ (by first | exact hu | exact hv) _).mono ?_; rintro e w' ⟨rfl, rfl⟩)
      | (go_at_call 27; refine (rIsZero_any _ (by first | exact hu | exact hv) _).mono ?_; rintro e w' ⟨rfl, rfl⟩)
      | (go_at_call 33; refine (SG _).mono ?_; rintro e w' ⟨rfl, rfl⟩))
        go_ret
        exact ⟨9221120237041090560, rfl, by decide, hc.out, Below.refl _ _⟩
  · have fu : rung u = 9218868437227405312 := by unfold infB at iu; simpa using iu
    cases zv : zeroB v
    · have zv' : rung v ≠ 0 := by unfold zeroB at zv; simpa using zv
      have zu : zeroB u = false := by unfold zeroB; simp; omega
      have hc : Hid (canon (wordD (sgnB u ^^ sgnB v) 9218868437227405312) = cRes (double.mul u v)) := hide (by rw [mul_inf_num fu nv zv']; rfl)
      have hl : Hid (wordD (sgnB u ^^ sgnB v) 9218868437227405312 < 18446744073709551616) := hide (wordD_lt (by omega))
      have SG := SG0
      obtain ⟨W, eW⟩ : ∃ W, wordD (sgnB u ^^ sgnB v) 9218868437227405312 = W := ⟨_, rfl⟩
      rw [eW] at SG hc hl
      clear ho SG0 ru rv fu zv' eW
      cases hs : (sgnB u ^^ sgnB v)
      all_goals
        rw [hs] at hXa SG
        first | (rw [if_pos rfl] at hXa) | (rw [if_neg (by simp)] at hXa)
        clear hs
        go_enter Tryz.func14, Tryz.ntmps14
        go_wp2_with (first
      | (go_at_call 25; refine (rIsNaN_any _ (by first | exact hu | exact hv) _).mono ?_; rintro e w' ⟨rfl, rfl⟩)
      | (go_at_call 26; refine (rIsInf_any _ (by first | exact hu | exact hv) _).mono ?_; rintro e w' ⟨rfl, rfl⟩)
      | (go_at_call 27; refine (rIsZero_any _ (by first | exact hu | exact hv) _).mono ?_; rintro e w' ⟨rfl, rfl⟩)
      | (go_at_call 33; refine (SG _).mono ?_; rintro e w' ⟨rfl, rfl⟩))
        go_ret
        exact ⟨W, rfl, hl.out, hc.out, Below.refl _ _⟩
    · have zv' : rung v = 0 := by unfold zeroB at zv; simpa using zv
      have hc : Hid (canon 9221120237041090560 = cRes (double.mul u v)) := hide (by rw [mul_inf_zero fu zv']; rfl)
      cases hs : (sgnB u ^^ sgnB v)
      all_goals
        rw [hs] at hXa
        first | (rw [if_pos rfl] at hXa) | (rw [if_neg (by simp)] at hXa)
        clear ho SG0 ru rv fu zv'
        have SG := hide hs
        go_enter Tryz.func14, Tryz.ntmps14
        go_wp2_with (first
      | (go_at_call 25; refine (rIsNaN_any _ (by first | exact hu | exact hv) _).mono ?_; rintro e w' ⟨rfl, rfl⟩)
      | (go_at_call 26; refine (rIsInf_any _ (by first | exact hu | exact hv) _).mono ?_; rintro e w' ⟨rfl, rfl⟩)
      | (go_at_call 27; refine (rIsZero_any _ (by first | exact hu | exact hv) _).mono ?_; rintro e w' ⟨rfl, rfl⟩)
      | (go_at_call 33; refine (SG _).mono ?_; rintro e w' ⟨rfl, rfl⟩))
        go_ret
        exact ⟨9221120237041090560, rfl, by decide, hc.out, Below.refl _ _⟩

theorem rMul_any (u v : Nat) (hu : u < 18446744073709551616) (hv : v < 18446744073709551616) (w : World) :
    Calls Tryz.prog 14 #[.int .u64 (u : Int), .int .u64 (v : Int)] w fun e w' => ∃ r, e = .returned (.int .u64 ((r : Nat) : Int)) ∧ r < 18446744073709551616 ∧ canon r = cRes (double.mul u v) ∧ Below w.heap.size w w' := by
  by_cases h : rung u < 9218868437227405312 ∧ rung v < 9218868437227405312
  · exact rMul_fin u v hu hv h.1 h.2 w
  · exact rMul_odd u v hu hv h w
end Go.Proofs.YtiglacchpmooeaaGreatDoor
