/- The walk of the reference's Nearest, where there is a little more than the number says. -/
import Derived.Test.YtbengmceiaejeaaGreatDoorNear5
import Derived.Test.YtbengmceiaejeaaGreatDoorBigA
namespace Go.Proofs.YtbengmceiaejeaaGreatDoor
open Go.ChangeShapes Go.WideShapes Go.ChangeAt Go.RowKit
open Ieee

set_option maxHeartbeats 16000000 in
theorem nearest_more (b : Bool) (v : Value) (M : Nat) (P : Int) (w : World) (ha : IsAmt w v M) (hM60 : 60 ≤ M.log2) (hl : M.log2 ≤ 5000) (hP : -6000 ≤ P ∧ P ≤ 6000) :
    Calls Tryz.prog 77 #[.agg #[.bool b, v, .int .i64 P], .bool true] w fun e w' => e = .returned (.int .u64 ((wordD b (nearR (M * 2 ^ 2 + 1) (P - 2)) : Nat) : Int)) ∧ Below w.heap.size w w' := by
  have hM0 : M ≠ 0 := by rintro rfl; exact absurd hM60 (by decide)
  have hM : 0 < M := by omega
  have hlt := log2_hi hM0
  have hA0 : M * 2 ^ 2 + 1 ≠ 0 := by omega
  have hlog := log2_unit (N := M) (e := 2) (x := 1) hM0 (by decide)
  have hbl : blen (M * 2 ^ 2 + 1) = M.log2 + 3 := by unfold blen; rw [if_neg hA0, hlog]
  have hnp := near_pack hA0 (P - 2)
  have hk1 := kept_le hA0 (P - 2)
  have hk2 := kept_ge hA0 (P - 2)
  have hlast : -1074 ≤ lastP (M * 2 ^ 2 + 1) (P - 2) ∧ lastP (M * 2 ^ 2 + 1) (P - 2) ≤ 11000 := by unfold lastP; rw [hlog]; omega
  have hlastE : lastP (M * 2 ^ 2 + 1) (P - 2) = max (((M.log2 + 3 : Nat) : Int) + (P - 2) - 53) (-1074) := by unfold lastP; rw [hlog]; omega
  have hw : P - 2 < lastP (M * 2 ^ 2 + 1) (P - 2) := by rw [hlastE]; omega
  have hku : keptN (M * 2 ^ 2 + 1) (P - 2) = rndE (M * 2 ^ 2 + 1) (2 ^ (lastP (M * 2 ^ 2 + 1) (P - 2) - (P - 2)).toNat) := by
    unfold keptN
    rw [show (P - 2 - lastP (M * 2 ^ 2 + 1) (P - 2)).toNat = 0 by omega, Nat.pow_zero, Nat.mul_one]
  clear hlog
  obtain ⟨l, el⟩ : ∃ l, M.log2 = l := ⟨_, rfl⟩
  rw [el] at hlt hbl hl hlastE
  obtain ⟨q, eq⟩ : ∃ q, lastP (M * 2 ^ 2 + 1) (P - 2) = q := ⟨_, rfl⟩
  rw [eq] at hnp hk2 hku hlast hlastE hw
  obtain ⟨K, eK⟩ : ∃ K, keptN (M * 2 ^ 2 + 1) (P - 2) = K := ⟨_, rfl⟩
  rw [eK] at hnp hk1 hk2 hku
  obtain ⟨Q, eQ⟩ : ∃ Q, (q + 1074).toNat = Q := ⟨_, rfl⟩
  rw [eQ] at hnp hk2
  obtain ⟨s, es⟩ : ∃ s, (q - (P - 2)).toNat = s := ⟨_, rfl⟩
  rw [es] at hku
  have hsI : q - (P - 2) = (s : Int) := by omega
  have hqI : q = (Q : Int) - 1074 := by omega
  have hs : s ≤ 20000 := by omega
  have hsQ : (Q : Int) - 1074 - (P - 2) = (s : Int) := by omega
  have hU : 2 ^ s < 2 ^ (s + 1) := Nat.pow_lt_pow_right (by decide) (by omega)
  have B1 : Kept M := ⟨big_of hlt (by omega)⟩
  have B2 : Kept (M * 65536) := ⟨big_of (mul_pow_lt (k := 16) hlt) (by omega)⟩
  have B3 : Kept (M * 2 ^ 2) := ⟨big_of (mul_pow_lt (k := 2) hlt) (by omega)⟩
  have B5 : Kept (2 ^ s) := ⟨big_of hU (by omega)⟩
  have B6 : Kept (1 * 65536) := ⟨big_of (a := 17) (by decide) (by omega)⟩
  have B7 : Kept 1 := ⟨big_of (a := 1) (by decide) (by omega)⟩
  have B8 : Kept (2 ^ s * 65536) := ⟨big_of (mul_pow_lt (k := 16) hU) (by omega)⟩
  have U0 : 0 < 2 ^ s := Nat.two_pow_pos s
  have B11 : Kept (M * 2 ^ 2 + 1) := ⟨big_of (a := l + 1 + 2 + 1) (Nat.lt_of_le_of_lt (mul_pow_lt (k := 2) hlt) (Nat.pow_lt_pow_right (by decide) (by omega))) (by omega)⟩
  have AD := fun v u wt (hv : IsAmt wt v (M * 2 ^ 2)) (hu : IsAmt wt u 1) => addD_any v u (M * 2 ^ 2) 1 wt hv hu B3.out B7.out
  obtain ⟨A, eA⟩ : ∃ A, M * 2 ^ 2 + 1 = A := ⟨_, rfl⟩
  have hrc := rndE_cases A (2 ^ s)
  obtain ⟨U, eU⟩ : ∃ U, 2 ^ s = U := ⟨_, rfl⟩
  rw [eU] at B5 B8 U0 hrc
  rw [eA, eU] at hku
  rw [eA] at B11 AD
  rw [← hku] at hrc
  have hmod : A % U < U := Nat.mod_lt _ U0
  have B9 : Kept (A % U) := ⟨Nat.lt_trans hmod B5.out⟩
  have B10 : Kept (A % U * 65536) := ⟨Nat.lt_of_le_of_lt (Nat.mul_le_mul_right _ (Nat.le_of_lt hmod)) B8.out⟩
  have hK0 : A / U ≤ K := by rcases hrc with h | h | h | h <;> omega
  obtain ⟨rb, ro, rc, rs, rfl, rr, rd, rn, rv⟩ := amt_pos ha hM
  have hlen := len_big rn (by rw [rv]; exact B1.out)
  have hrs : 0 < rs.length := by
    rcases Nat.eq_zero_or_pos rs.length with h | h
    · rw [List.eq_nil_of_length_eq_zero h] at rv; simp [valD] at rv; omega
    · exact h
  obtain ⟨L, eL⟩ : ∃ L, rs.length = L := ⟨_, rfl⟩
  rw [eL] at ha hlen hrs ⊢
  have hL0 : ((L : Int) == 0) = false := by simp; omega
  have SH := fun wt (hb : Below w.heap.size w wt) => shl_any _ M 2 wt (ha.below hb) B1.out B2.out (by omega)
  rw [eA] at hbl
  have LB := fun v wt (hv : IsAmt wt v A) => lenB_any v A wt hv B11.out
  rw [hbl] at LB
  have SH1 := fun v wt (hv : IsAmt wt v 1) => shl_any v 1 s wt hv B7.out B6.out (by omega)
  rw [Nat.one_mul, eU] at SH1
  have DV := fun v u wt (hv : IsAmt wt v A) (hu : IsAmt wt u U) => divD_any v u A U wt hv hu B11.out B5.out U0
  have VA := fun v wt (hv : IsAmt wt v (A / U)) => value_any v (A / U) wt hv (by omega)
  have SR := fun v wt (hv : IsAmt wt v (A % U)) => shl_any v (A % U) 1 wt hv B9.out B10.out (by omega)
  have CM := fun v u wt (hv : IsAmt wt v (A % U * 2 ^ 1)) (hu : IsAmt wt u U) => cmpD_any v u (A % U * 2 ^ 1) U wt hv hu
  have PK := fun wt => pack_any b K Q wt hk1 (by omega) hk2
  rw [← hnp] at PK
  obtain ⟨W, eW⟩ : ∃ W, wordD b (nearR (M * 2 ^ 2 + 1) (P - 2)) = W := ⟨_, rfl⟩
  rw [eW] at PK ⊢
  obtain ⟨T, eT⟩ : ∃ T, l + 3 = T := ⟨_, rfl⟩
  have two : ((T : Int) + (P - 2) - 53 = q ∧ -1074 ≤ q) ∨ ((T : Int) + (P - 2) - 53 < -1074 ∧ q = -1074) := by omega
  rw [eT] at LB
  obtain ⟨k0, ek0⟩ : ∃ k, A / U = k := ⟨_, rfl⟩
  obtain ⟨c, ec⟩ : ∃ c, cmpN (A % U * 2 ^ 1) U = c := ⟨_, rfl⟩
  rw [ek0] at hrc VA DV hK0
  rw [ec] at hrc CM
  clear ha rr rd rn rv hlt hbl hnp hk2 hku hlastE el eq eK eQ es B1 B2 B3 B5 B6 B7 B8 B9 B10 B11 eL eW hM0 hA0 eA eU U0 hmod hU eT ek0 ec
  have hmid : (K = k0 + 1 ∧ c = 1) ∨ (K = k0 + 1 ∧ c = 0 ∧ k0 % 2 = 1) ∨ (K = k0 ∧ c = 0 ∧ k0 % 2 = 0) ∨ (K = k0 ∧ c = -1) := by
    rcases hrc with h | h | h | h
    · exact Or.inl ⟨h.2, h.1⟩
    · exact Or.inr (Or.inl ⟨h.2.2, h.1, h.2.1⟩)
    · exact Or.inr (Or.inr (Or.inl ⟨h.2.2, h.1, h.2.1⟩))
    · exact Or.inr (Or.inr (Or.inr ⟨h.2, h.1⟩))
  have hk53 : k0 ≤ 9007199254740992 := by omega
  have tm : (k0 : Int).tmod 2 = ((k0 % 2 : Nat) : Int) := by rw [Int.tmod_eq_emod_of_nonneg (by omega)]; omega
  have te : (k0 : Int) % 2 = ((k0 % 2 : Nat) : Int) := by omega
  clear hrc hlast hk1 hK0
  rcases two with ⟨hT, hT2⟩ | ⟨hT, hT2⟩
  · have hd : decide (q ≤ P - 2) = false := decide_eq_false (by omega)
    have hqP : decide ((Q : Int) - 1074 ≤ P - 2) = false := decide_eq_false (by omega)
    rcases hmid with ⟨rfl, rfl⟩ | ⟨rfl, rfl, hpar⟩ | ⟨rfl, rfl, hpar⟩ | ⟨rfl, rfl⟩
    all_goals
      try rw [hpar] at tm te
      go_enter Tryz.func77, Tryz.ntmps77
      go_wp2_with (first
        | (go_at_call 74; refine (SH _ ((Below.refl _ _).alloc (Nat.le_refl _) _)).mono ?_; rintro e w1 ⟨v1, rfl, h1, b1⟩
           obtain ⟨x0, x2, B1, z1⟩ := box_kept b1
           have bv := (Below.refl w1.heap.size w1).alloc (Nat.le_refl _) (.cells #[.int .u16 1] 77)
           have AD1 := AD _ _ _ (h1.below bv) (amt_one w1 77)
           clear b1 SH AD)
        | (go_at_call 49; refine AD1.mono ?_; rintro e w6 ⟨v6, rfl, h6, f6, b6⟩
           have bE := bv.trans (b6.mono bv.size)
           have x0 := (bE.cell (p := ⟨w.heap.size, 0, none⟩) (by omega)).trans x0
           have x2 := (bE.cell (p := ⟨w.heap.size, 2, none⟩) (by omega)).trans x2
           have B1 := B1.trans (bE.mono (Nat.le_of_lt z1))
           have z1 := Nat.lt_of_lt_of_le z1 bE.size
           have SHU := SH1 _ _ (amt_one w6 77)
           have bu := (Below.refl w6.heap.size w6).alloc (Nat.le_refl _) (.cells #[.int .u16 1] 77)
           have h1u := h6.below bu
           clear AD1 b6 bE bv h1 f6)
        | (go_at_call 72; refine (LB _ _ h6).mono ?_; rintro e w' ⟨rfl, rfl⟩)
        | (go_at_call 74; refine SHU.mono ?_; rintro e w2 ⟨vu, rfl, hu, b2⟩
           have bA := bu.trans (b2.mono bu.size)
           have h2 := h1u.below b2
           have y0 := (bA.cell (p := ⟨w.heap.size, 0, none⟩) (by omega)).trans x0
           have B2 := B1.trans (bA.mono (Nat.le_of_lt z1))
           have z2 := Nat.lt_of_lt_of_le z1 bA.size
           clear SHU bu b2 bA)
        | (go_at_call 52; refine (DV _ _ _ h2 hu).mono ?_; rintro e w3 ⟨vn, vr, rfl, hn3, hr3, b3⟩
           have hu3 := hu.below b3
           have y3 := (b3.cell (p := ⟨w.heap.size, 0, none⟩) (by omega)).trans y0
           have B3 := B2.trans (b3.mono (Nat.le_of_lt z2))
           have z3 := Nat.lt_of_lt_of_le z2 b3.size)
        | (go_at_call 53; refine (VA _ _ hn3).mono ?_; rintro e w' ⟨rfl, rfl⟩)
        | (go_at_call 74; refine (SR _ _ hr3).mono ?_; rintro e w4 ⟨v5, rfl, h5, b4⟩
           have hu4 := hu3.below b4
           have y4 := (b4.cell (p := ⟨w.heap.size, 0, none⟩) (by omega)).trans y3
           have B4 := B3.trans (b4.mono (Nat.le_of_lt z3))
           have z4 := Nat.lt_of_lt_of_le z3 b4.size)
        | (go_at_call 97; refine (CM _ _ _ h5 hu4).mono ?_; rintro e w5 ⟨rfl, b5⟩
           have y5 := (b5.cell (p := ⟨w.heap.size, 0, none⟩) (by omega)).trans y4
           have B5 := B4.trans (b5.mono (Nat.le_of_lt z4)))
        | (go_at_call 100; refine (PK _).mono ?_; rintro e w' ⟨rfl, rfl⟩))
      go_ret
      exact ⟨rfl, B5⟩
  · subst hT2
    have hd : decide ((-1074 : Int) ≤ P - 2) = false := decide_eq_false (by omega)
    have hqP : decide ((Q : Int) - 1074 ≤ P - 2) = false := decide_eq_false (by omega)
    rcases hmid with ⟨rfl, rfl⟩ | ⟨rfl, rfl, hpar⟩ | ⟨rfl, rfl, hpar⟩ | ⟨rfl, rfl⟩
    all_goals
      try rw [hpar] at tm te
      go_enter Tryz.func77, Tryz.ntmps77
      go_wp2_with (first
        | (go_at_call 74; refine (SH _ ((Below.refl _ _).alloc (Nat.le_refl _) _)).mono ?_; rintro e w1 ⟨v1, rfl, h1, b1⟩
           obtain ⟨x0, x2, B1, z1⟩ := box_kept b1
           have bv := (Below.refl w1.heap.size w1).alloc (Nat.le_refl _) (.cells #[.int .u16 1] 77)
           have AD1 := AD _ _ _ (h1.below bv) (amt_one w1 77)
           clear b1 SH AD)
        | (go_at_call 49; refine AD1.mono ?_; rintro e w6 ⟨v6, rfl, h6, f6, b6⟩
           have bE := bv.trans (b6.mono bv.size)
           have x0 := (bE.cell (p := ⟨w.heap.size, 0, none⟩) (by omega)).trans x0
           have x2 := (bE.cell (p := ⟨w.heap.size, 2, none⟩) (by omega)).trans x2
           have B1 := B1.trans (bE.mono (Nat.le_of_lt z1))
           have z1 := Nat.lt_of_lt_of_le z1 bE.size
           have SHU := SH1 _ _ (amt_one w6 77)
           have bu := (Below.refl w6.heap.size w6).alloc (Nat.le_refl _) (.cells #[.int .u16 1] 77)
           have h1u := h6.below bu
           clear AD1 b6 bE bv h1 f6)
        | (go_at_call 72; refine (LB _ _ h6).mono ?_; rintro e w' ⟨rfl, rfl⟩)
        | (go_at_call 74; refine SHU.mono ?_; rintro e w2 ⟨vu, rfl, hu, b2⟩
           have bA := bu.trans (b2.mono bu.size)
           have h2 := h1u.below b2
           have y0 := (bA.cell (p := ⟨w.heap.size, 0, none⟩) (by omega)).trans x0
           have B2 := B1.trans (bA.mono (Nat.le_of_lt z1))
           have z2 := Nat.lt_of_lt_of_le z1 bA.size
           clear SHU bu b2 bA)
        | (go_at_call 52; refine (DV _ _ _ h2 hu).mono ?_; rintro e w3 ⟨vn, vr, rfl, hn3, hr3, b3⟩
           have hu3 := hu.below b3
           have y3 := (b3.cell (p := ⟨w.heap.size, 0, none⟩) (by omega)).trans y0
           have B3 := B2.trans (b3.mono (Nat.le_of_lt z2))
           have z3 := Nat.lt_of_lt_of_le z2 b3.size)
        | (go_at_call 53; refine (VA _ _ hn3).mono ?_; rintro e w' ⟨rfl, rfl⟩)
        | (go_at_call 74; refine (SR _ _ hr3).mono ?_; rintro e w4 ⟨v5, rfl, h5, b4⟩
           have hu4 := hu3.below b4
           have y4 := (b4.cell (p := ⟨w.heap.size, 0, none⟩) (by omega)).trans y3
           have B4 := B3.trans (b4.mono (Nat.le_of_lt z3))
           have z4 := Nat.lt_of_lt_of_le z3 b4.size)
        | (go_at_call 97; refine (CM _ _ _ h5 hu4).mono ?_; rintro e w5 ⟨rfl, b5⟩
           have y5 := (b5.cell (p := ⟨w.heap.size, 0, none⟩) (by omega)).trans y4
           have B5 := B4.trans (b5.mono (Nat.le_of_lt z4)))
        | (go_at_call 100; refine (PK _).mono ?_; rintro e w' ⟨rfl, rfl⟩))
      go_ret
      exact ⟨rfl, B5⟩
end Go.Proofs.YtbengmceiaejeaaGreatDoor
