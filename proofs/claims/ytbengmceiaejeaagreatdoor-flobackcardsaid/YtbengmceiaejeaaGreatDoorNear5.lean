/- The walk of the reference's Nearest, where digits are dropped. -/
import Derived.Test.YtbengmceiaejeaaGreatDoorNear3
namespace Go.Proofs.YtbengmceiaejeaaGreatDoor
open Go.ChangeShapes Go.WideShapes Go.ChangeAt Go.RowKit
open Ieee

/-- How the last digit is settled. -/
theorem rndE_cases (A U : Nat) : (cmpN (A % U * 2 ^ 1) U = 1 ∧ rndE A U = A / U + 1) ∨ (cmpN (A % U * 2 ^ 1) U = 0 ∧ (A / U) % 2 = 1 ∧ rndE A U = A / U + 1) ∨ (cmpN (A % U * 2 ^ 1) U = 0 ∧ (A / U) % 2 = 0 ∧ rndE A U = A / U) ∨ (cmpN (A % U * 2 ^ 1) U = -1 ∧ rndE A U = A / U) := by
  obtain ⟨r, er⟩ : ∃ r, A % U = r := ⟨_, rfl⟩
  obtain ⟨k, ek⟩ : ∃ k, A / U = k := ⟨_, rfl⟩
  unfold rndE
  rw [er, ek]
  rcases Nat.lt_trichotomy (r * 2 ^ 1) U with h | h | h
  · right; right; right
    refine ⟨cmpN_lt h, ?_⟩
    have h1 : ¬ U < 2 * r := by omega
    have h2 : (U == 2 * r) = false := by simp; omega
    simp only [moreW, decide_eq_false h1, h2, Bool.false_or, Bool.false_and, Bool.toNat_false, Nat.add_zero]
  · have h1 : ¬ U < 2 * r := by omega
    have h2 : (U == 2 * r) = true := by simp; omega
    have hk : k % 2 = 1 ∨ k % 2 = 0 := by omega
    rcases hk with hk | hk
    · right; left
      refine ⟨cmpN_eq h, hk, ?_⟩
      simp only [moreW, decide_eq_false h1, h2, hk, Bool.false_or, Bool.true_and, beq_self_eq_true, Bool.toNat_true]
    · right; right; left
      refine ⟨cmpN_eq h, hk, ?_⟩
      have h3 : (k % 2 == 1) = false := by rw [hk]; rfl
      simp only [moreW, decide_eq_false h1, h2, h3, Bool.false_or, Bool.and_false, Bool.toNat_false, Nat.add_zero]
  · left
    refine ⟨cmpN_gt h, ?_⟩
    have h1 : U < 2 * r := by omega
    simp only [moreW, decide_eq_true h1, Bool.true_or, Bool.toNat_true]

set_option maxHeartbeats 16000000 in
theorem nearest_down (b : Bool) (v : Value) (M : Nat) (P : Int) (w : World) (ha : IsAmt w v M) (hM : 0 < M) (hl : M.log2 ≤ 5000) (hP : -6000 ≤ P ∧ P ≤ 6000) (hw : P - 2 < lastP M P) :
    Calls Tryz.prog 77 #[.agg #[.bool b, v, .int .i64 P], .bool false] w fun e w' => e = .returned (.int .u64 ((wordD b (nearR M P) : Nat) : Int)) ∧ Below w.heap.size w w' := by
  have hM0 : M ≠ 0 := by omega
  have hlt := log2_hi hM0
  have hbl := blen_four hM0
  have hnp := near_pack hM0 P
  have hk1 := kept_le hM0 P
  have hk2 := kept_ge hM0 P
  have hku := kept_down hw
  have hlast : -1074 ≤ lastP M P ∧ lastP M P ≤ 11000 := by unfold lastP; omega
  have hlastE : lastP M P = max (((M.log2 + 3 : Nat) : Int) + (P - 2) - 53) (-1074) := by unfold lastP; omega
  obtain ⟨l, el⟩ : ∃ l, M.log2 = l := ⟨_, rfl⟩
  rw [el] at hlt hbl hl hlastE
  obtain ⟨q, eq⟩ : ∃ q, lastP M P = q := ⟨_, rfl⟩
  rw [eq] at hnp hk2 hku hlast hlastE hw
  obtain ⟨K, eK⟩ : ∃ K, keptN M P = K := ⟨_, rfl⟩
  rw [eK] at hnp hk1 hk2 hku
  obtain ⟨Q, eQ⟩ : ∃ Q, (q + 1074).toNat = Q := ⟨_, rfl⟩
  rw [eQ] at hnp hk2
  obtain ⟨s, es⟩ : ∃ s, (q - (P - 2)).toNat = s := ⟨_, rfl⟩
  rw [es] at hku
  have hsI : q - (P - 2) = (s : Int) := by omega
  have hqI : q = (Q : Int) - 1074 := by omega
  have hs : s ≤ 20000 := by omega
  have hsQ : (Q : Int) - 1074 - (P - 2) = (s : Int) := by omega
  have hU : 2 ^ s < 2 ^ (s + 1) := Nat.pow_lt_pow_right (by decide) (by omega)
  have B1 : Kept M := ⟨big_of hlt (by omega)⟩
  have B2 : Kept (M * 65536) := ⟨big_of (mul_pow_lt (k := 16) hlt) (by omega)⟩
  have B3 : Kept (M * 2 ^ 2) := ⟨big_of (mul_pow_lt (k := 2) hlt) (by omega)⟩
  have B5 : Kept (2 ^ s) := ⟨big_of hU (by omega)⟩
  have B6 : Kept (1 * 65536) := ⟨big_of (a := 17) (by decide) (by omega)⟩
  have B7 : Kept 1 := ⟨big_of (a := 1) (by decide) (by omega)⟩
  have B8 : Kept (2 ^ s * 65536) := ⟨big_of (mul_pow_lt (k := 16) hU) (by omega)⟩
  have U0 : 0 < 2 ^ s := Nat.two_pow_pos s
  obtain ⟨A, eA⟩ : ∃ A, M * 2 ^ 2 = A := ⟨_, rfl⟩
  have hrc := rndE_cases A (2 ^ s)
  obtain ⟨U, eU⟩ : ∃ U, 2 ^ s = U := ⟨_, rfl⟩
  rw [eU] at B5 B8 U0 hrc
  rw [eA, eU] at hku
  rw [eA] at B3
  rw [← hku] at hrc
  have hmod : A % U < U := Nat.mod_lt _ U0
  have B9 : Kept (A % U) := ⟨Nat.lt_trans hmod B5.out⟩
  have B10 : Kept (A % U * 65536) := ⟨Nat.lt_of_le_of_lt (Nat.mul_le_mul_right _ (Nat.le_of_lt hmod)) B8.out⟩
  have hK0 : A / U ≤ K := by rcases hrc with h | h | h | h <;> omega
  obtain ⟨rb, ro, rc, rs, rfl, rr, rd, rn, rv⟩ := amt_pos ha hM
  have hlen := len_big rn (by rw [rv]; exact B1.out)
  have hrs : 0 < rs.length := by
    rcases Nat.eq_zero_or_pos rs.length with h | h
    · rw [List.eq_nil_of_length_eq_zero h] at rv; simp [valD] at rv; omega
    · exact h
  obtain ⟨L, eL⟩ : ∃ L, rs.length = L := ⟨_, rfl⟩
  rw [eL] at ha hlen hrs ⊢
  have hL0 : ((L : Int) == 0) = false := by simp; omega
  have SH := fun wt (hb : Below w.heap.size w wt) => shl_any _ M 2 wt (ha.below hb) B1.out B2.out (by omega)
  rw [eA] at SH hbl
  have LB := fun v wt (hv : IsAmt wt v A) => lenB_any v A wt hv B3.out
  rw [hbl] at LB
  have SH1 := fun v wt (hv : IsAmt wt v 1) => shl_any v 1 s wt hv B7.out B6.out (by omega)
  rw [Nat.one_mul, eU] at SH1
  have DV := fun v u wt (hv : IsAmt wt v A) (hu : IsAmt wt u U) => divD_any v u A U wt hv hu B3.out B5.out U0
  have VA := fun v wt (hv : IsAmt wt v (A / U)) => value_any v (A / U) wt hv (by omega)
  have SR := fun v wt (hv : IsAmt wt v (A % U)) => shl_any v (A % U) 1 wt hv B9.out B10.out (by omega)
  have CM := fun v u wt (hv : IsAmt wt v (A % U * 2 ^ 1)) (hu : IsAmt wt u U) => cmpD_any v u (A % U * 2 ^ 1) U wt hv hu
  have PK := fun wt => pack_any b K Q wt hk1 (by omega) hk2
  rw [← hnp] at PK
  obtain ⟨W, eW⟩ : ∃ W, wordD b (nearR M P) = W := ⟨_, rfl⟩
  rw [eW] at PK ⊢
  obtain ⟨T, eT⟩ : ∃ T, l + 3 = T := ⟨_, rfl⟩
  have two : ((T : Int) + (P - 2) - 53 = q ∧ -1074 ≤ q) ∨ ((T : Int) + (P - 2) - 53 < -1074 ∧ q = -1074) := by omega
  rw [eT] at LB
  obtain ⟨k0, ek0⟩ : ∃ k, A / U = k := ⟨_, rfl⟩
  obtain ⟨c, ec⟩ : ∃ c, cmpN (A % U * 2 ^ 1) U = c := ⟨_, rfl⟩
  rw [ek0] at hrc VA DV hK0
  rw [ec] at hrc CM
  clear ha rr rd rn rv hlt hbl hnp hk2 hku hlastE el eq eK eQ es B1 B2 B3 B5 B6 B7 B8 B9 B10 eL eW hM0 eA eU U0 hmod hU eT ek0 ec
  have hmid : (K = k0 + 1 ∧ c = 1) ∨ (K = k0 + 1 ∧ c = 0 ∧ k0 % 2 = 1) ∨ (K = k0 ∧ c = 0 ∧ k0 % 2 = 0) ∨ (K = k0 ∧ c = -1) := by
    rcases hrc with h | h | h | h
    · exact Or.inl ⟨h.2, h.1⟩
    · exact Or.inr (Or.inl ⟨h.2.2, h.1, h.2.1⟩)
    · exact Or.inr (Or.inr (Or.inl ⟨h.2.2, h.1, h.2.1⟩))
    · exact Or.inr (Or.inr (Or.inr ⟨h.2, h.1⟩))
  have hk53 : k0 ≤ 9007199254740992 := by omega
  have tm : (k0 : Int).tmod 2 = ((k0 % 2 : Nat) : Int) := by rw [Int.tmod_eq_emod_of_nonneg (by omega)]; omega
  have te : (k0 : Int) % 2 = ((k0 % 2 : Nat) : Int) := by omega
  clear hrc hlast hk1 hK0
  rcases two with ⟨hT, hT2⟩ | ⟨hT, hT2⟩
  · have hd : decide (q ≤ P - 2) = false := decide_eq_false (by omega)
    have hqP : decide ((Q : Int) - 1074 ≤ P - 2) = false := decide_eq_false (by omega)
    rcases hmid with ⟨rfl, rfl⟩ | ⟨rfl, rfl, hpar⟩ | ⟨rfl, rfl, hpar⟩ | ⟨rfl, rfl⟩
    all_goals
      try rw [hpar] at tm te
      go_enter Tryz.func77, Tryz.ntmps77
      go_wp2_with (first
        | (go_at_call 74; refine (SH _ ((Below.refl _ _).alloc (Nat.le_refl _) _)).mono ?_; rintro e w1 ⟨v1, rfl, h1, b1⟩
           obtain ⟨x0, x2, B1, z1⟩ := box_kept b1
           have SHU := SH1 _ _ (amt_one w1 77)
           have bu := (Below.refl w1.heap.size w1).alloc (Nat.le_refl _) (.cells #[.int .u16 1] 77)
           have h1u := h1.below bu
           clear b1 SH)
        | (go_at_call 72; refine (LB _ _ h1).mono ?_; rintro e w' ⟨rfl, rfl⟩)
        | (go_at_call 74; refine SHU.mono ?_; rintro e w2 ⟨vu, rfl, hu, b2⟩
           have bA := bu.trans (b2.mono bu.size)
           have h2 := h1u.below b2
           have y0 := (bA.cell (p := ⟨w.heap.size, 0, none⟩) (by omega)).trans x0
           have B2 := B1.trans (bA.mono (Nat.le_of_lt z1))
           have z2 := Nat.lt_of_lt_of_le z1 bA.size
           clear SHU bu b2 bA)
        | (go_at_call 52; refine (DV _ _ _ h2 hu).mono ?_; rintro e w3 ⟨vn, vr, rfl, hn3, hr3, b3⟩
           have hu3 := hu.below b3
           have y3 := (b3.cell (p := ⟨w.heap.size, 0, none⟩) (by omega)).trans y0
           have B3 := B2.trans (b3.mono (Nat.le_of_lt z2))
           have z3 := Nat.lt_of_lt_of_le z2 b3.size)
        | (go_at_call 53; refine (VA _ _ hn3).mono ?_; rintro e w' ⟨rfl, rfl⟩)
        | (go_at_call 74; refine (SR _ _ hr3).mono ?_; rintro e w4 ⟨v5, rfl, h5, b4⟩
           have hu4 := hu3.below b4
           have y4 := (b4.cell (p := ⟨w.heap.size, 0, none⟩) (by omega)).trans y3
           have B4 := B3.trans (b4.mono (Nat.le_of_lt z3))
           have z4 := Nat.lt_of_lt_of_le z3 b4.size)
        | (go_at_call 97; refine (CM _ _ _ h5 hu4).mono ?_; rintro e w5 ⟨rfl, b5⟩
           have y5 := (b5.cell (p := ⟨w.heap.size, 0, none⟩) (by omega)).trans y4
           have B5 := B4.trans (b5.mono (Nat.le_of_lt z4)))
        | (go_at_call 100; refine (PK _).mono ?_; rintro e w' ⟨rfl, rfl⟩))
      go_ret
      exact ⟨rfl, B5⟩
  · subst hT2
    have hd : decide ((-1074 : Int) ≤ P - 2) = false := decide_eq_false (by omega)
    have hqP : decide ((Q : Int) - 1074 ≤ P - 2) = false := decide_eq_false (by omega)
    rcases hmid with ⟨rfl, rfl⟩ | ⟨rfl, rfl, hpar⟩ | ⟨rfl, rfl, hpar⟩ | ⟨rfl, rfl⟩
    all_goals
      try rw [hpar] at tm te
      go_enter Tryz.func77, Tryz.ntmps77
      go_wp2_with (first
        | (go_at_call 74; refine (SH _ ((Below.refl _ _).alloc (Nat.le_refl _) _)).mono ?_; rintro e w1 ⟨v1, rfl, h1, b1⟩
           obtain ⟨x0, x2, B1, z1⟩ := box_kept b1
           have SHU := SH1 _ _ (amt_one w1 77)
           have bu := (Below.refl w1.heap.size w1).alloc (Nat.le_refl _) (.cells #[.int .u16 1] 77)
           have h1u := h1.below bu
           clear b1 SH)
        | (go_at_call 72; refine (LB _ _ h1).mono ?_; rintro e w' ⟨rfl, rfl⟩)
        | (go_at_call 74; refine SHU.mono ?_; rintro e w2 ⟨vu, rfl, hu, b2⟩
           have bA := bu.trans (b2.mono bu.size)
           have h2 := h1u.below b2
           have y0 := (bA.cell (p := ⟨w.heap.size, 0, none⟩) (by omega)).trans x0
           have B2 := B1.trans (bA.mono (Nat.le_of_lt z1))
           have z2 := Nat.lt_of_lt_of_le z1 bA.size
           clear SHU bu b2 bA)
        | (go_at_call 52; refine (DV _ _ _ h2 hu).mono ?_; rintro e w3 ⟨vn, vr, rfl, hn3, hr3, b3⟩
           have hu3 := hu.below b3
           have y3 := (b3.cell (p := ⟨w.heap.size, 0, none⟩) (by omega)).trans y0
           have B3 := B2.trans (b3.mono (Nat.le_of_lt z2))
           have z3 := Nat.lt_of_lt_of_le z2 b3.size)
        | (go_at_call 53; refine (VA _ _ hn3).mono ?_; rintro e w' ⟨rfl, rfl⟩)
        | (go_at_call 74; refine (SR _ _ hr3).mono ?_; rintro e w4 ⟨v5, rfl, h5, b4⟩
           have hu4 := hu3.below b4
           have y4 := (b4.cell (p := ⟨w.heap.size, 0, none⟩) (by omega)).trans y3
           have B4 := B3.trans (b4.mono (Nat.le_of_lt z3))
           have z4 := Nat.lt_of_lt_of_le z3 b4.size)
        | (go_at_call 97; refine (CM _ _ _ h5 hu4).mono ?_; rintro e w5 ⟨rfl, b5⟩
           have y5 := (b5.cell (p := ⟨w.heap.size, 0, none⟩) (by omega)).trans y4
           have B5 := B4.trans (b5.mono (Nat.le_of_lt z4)))
        | (go_at_call 100; refine (PK _).mono ?_; rintro e w' ⟨rfl, rfl⟩))
      go_ret
      exact ⟨rfl, B5⟩
end Go.Proofs.YtbengmceiaejeaaGreatDoor
