/- The walk of the reference's Nearest, where there is a little more than the number says. -/
import Derived.Test.YtbengmceiaejeaaGreatDoorNear5
import Derived.Test.YtbengmceiaejeaaGreatDoorStickyM
import Derived.Test.YtbengmceiaejeaaGreatDoorBigA
import Derived.Test.YtbengmceiaejeaaGreatDoorBigK
namespace Go.Proofs.YtbengmceiaejeaaGreatDoor
open Go.ChangeShapes Go.WideShapes Go.ChangeAt Go.RowKit
open Ieee

set_option maxHeartbeats 16000000 in
theorem nearest_more (b : Bool) (v : Value) (M : Nat) (P : Int) (w : World) (ha : IsAmt w v M) (hM60 : 60 ≤ M.log2) (hl : M.log2 ≤ 5000) (hP : -6000 ≤ P ∧ P ≤ 6000) :
    Calls Tryz.prog 77 #[.agg #[.bool b, v, .int .i64 P], .bool true] w fun e w' => e = .returned (.int .u64 ((wordD b (nearR (M * 2 ^ 2 + 1) (P - 2)) : Nat) : Int)) ∧ Below w.heap.size w w' := by
  have hM0 : M ≠ 0 := by rintro rfl; exact absurd hM60 (by decide)
  have hM : 0 < M := by omega
  have hlt := log2_hi hM0
  have hA0 : M * 2 ^ 2 + 1 ≠ 0 := by omega
  have hlog := log2_unit (N := M) (e := 2) (x := 1) hM0 (by decide)
  have hbl : blen (M * 2 ^ 2 + 1) = M.log2 + 3 := by unfold blen; rw [if_neg hA0, hlog]
  have hnp := near_pack hA0 (P - 2)
  have hk1 := kept_le hA0 (P - 2)
  have hk2 := kept_ge hA0 (P - 2)
  have hlast : -1074 ≤ lastP (M * 2 ^ 2 + 1) (P - 2) ∧ lastP (M * 2 ^ 2 + 1) (P - 2) ≤ 11000 := by unfold lastP; rw [hlog]; omega
  have hlastE : lastP (M * 2 ^ 2 + 1) (P - 2) = max (((M.log2 + 3 : Nat) : Int) + (P - 2) - 53) (-1074) := by unfold lastP; rw [hlog]; omega
  have hw : P - 2 < lastP (M * 2 ^ 2 + 1) (P - 2) := by rw [hlastE]; omega
  have hku : keptN (M * 2 ^ 2 + 1) (P - 2) = rndE (M * 2 ^ 2 + 1) (2 ^ (lastP (M * 2 ^ 2 + 1) (P - 2) - (P - 2)).toNat) := by
    unfold keptN
    rw [show (P - 2 - lastP (M * 2 ^ 2 + 1) (P - 2)).toNat = 0 by omega, Nat.pow_zero, Nat.mul_one]
  clear hlog
  obtain ⟨l, el⟩ : ∃ l, M.log2 = l := ⟨_, rfl⟩
  rw [el] at hlt hbl hl hlastE
  obtain ⟨q, eq⟩ : ∃ q, lastP (M * 2 ^ 2 + 1) (P - 2) = q := ⟨_, rfl⟩
  rw [eq] at hnp hk2 hku hlast hlastE hw
  obtain ⟨K, eK⟩ : ∃ K, keptN (M * 2 ^ 2 + 1) (P - 2) = K := ⟨_, rfl⟩
  rw [eK] at hnp hk1 hk2 hku
  obtain ⟨Q, eQ⟩ : ∃ Q, (q + 1074).toNat = Q := ⟨_, rfl⟩
  rw [eQ] at hnp hk2
  obtain ⟨s, es⟩ : ∃ s, (q - (P - 2)).toNat = s := ⟨_, rfl⟩
  rw [es] at hku
  have hsI : q - (P - 2) = (s : Int) := by omega
  have hqI : q = (Q : Int) - 1074 := by omega
  have hs : s ≤ 20000 := by omega
  have hsQ : (Q : Int) - 1074 - (P - 2) = (s : Int) := by omega
  have hU : 2 ^ s < 2 ^ (s + 1) := Nat.pow_lt_pow_right (by decide) (by omega)
  have B1 : Kept M := ⟨big_of hlt (by omega)⟩
  have B2 : Kept (M * 65536) := ⟨big_of (mul_pow_lt (k := 16) hlt) (by omega)⟩
  have B3 : Kept (M * 2 ^ 2) := ⟨big_of (mul_pow_lt (k := 2) hlt) (by omega)⟩
  have B5 : Kept (2 ^ s) := ⟨big_of hU (by omega)⟩
  have B6 : Kept (1 * 65536) := ⟨big_of (a := 17) (by decide) (by omega)⟩
  have B7 : Kept 1 := ⟨big_of (a := 1) (by decide) (by omega)⟩
  have B8 : Kept (2 ^ s * 65536) := ⟨big_of (mul_pow_lt (k := 16) hU) (by omega)⟩
  have U0 : 0 < 2 ^ s := Nat.two_pow_pos s
  have B11 : Kept (M * 2 ^ 2 + 1) := ⟨big_of (a := l + 1 + 2 + 1) (Nat.lt_of_le_of_lt (mul_pow_lt (k := 2) hlt) (Nat.pow_lt_pow_right (by decide) (by omega))) (by omega)⟩
  have AD := fun v u wt (hv : IsAmt wt v (M * 2 ^ 2)) (hu : IsAmt wt u 1) => addD_any v u (M * 2 ^ 2) 1 wt hv hu B3.out B7.out
  obtain ⟨A, eA⟩ : ∃ A, M * 2 ^ 2 + 1 = A := ⟨_, rfl⟩
  have hrc := rndE_cases A (2 ^ s)
  obtain ⟨U, eU⟩ : ∃ U, 2 ^ s = U := ⟨_, rfl⟩
  rw [eU] at B5 B8 U0 hrc
  rw [eA, eU] at hku
  rw [eA] at B11 AD
  rw [← hku] at hrc
  have hmod : A % U < U := Nat.mod_lt _ U0
  have B9 : Kept (A % U) := ⟨Nat.lt_trans hmod B5.out⟩
  have B10 : Kept (A % U * 65536) := ⟨Nat.lt_of_le_of_lt (Nat.mul_le_mul_right _ (Nat.le_of_lt hmod)) B8.out⟩
  have hK0 : A / U ≤ K := by rcases hrc with h | h | h | h <;> omega
  obtain ⟨rb, ro, rc, rs, rfl, rr, rd, rn, rv⟩ := amt_pos ha hM
  have hlen := len_big rn (by rw [rv]; exact B1.out)
  have hrs : 0 < rs.length := by
    rcases Nat.eq_zero_or_pos rs.length with h | h
    · rw [List.eq_nil_of_length_eq_zero h] at rv; simp [valD] at rv; omega
    · exact h
  obtain ⟨L, eL⟩ : ∃ L, rs.length = L := ⟨_, rfl⟩
  rw [eL] at ha hlen hrs ⊢
  have hL0 : ((L : Int) == 0) = false := by simp; omega
  have SH := fun wt (hb : Below w.heap.size w wt) => shl_any _ M 2 wt (ha.below hb) B1.out B2.out (by omega)
  rw [eA] at hbl
  have LB := fun v wt (hv : IsAmt wt v A) => lenB_any v A wt hv B11.out
  rw [hbl] at LB
  have SH1 := fun v wt (hv : IsAmt wt v 1) => shl_any v 1 s wt hv B7.out B6.out (by omega)
  rw [Nat.one_mul, eU] at SH1
  have DV := fun v u wt (hv : IsAmt wt v A) (hu : IsAmt wt u U) => divD_any v u A U wt hv hu B11.out B5.out U0
  have VA := fun v wt (hv : IsAmt wt v (A / U)) => value_any v (A / U) wt hv (by omega)
  have SR := fun v wt (hv : IsAmt wt v (A % U)) => shl_any v (A % U) 1 wt hv B9.out B10.out (by omega)
  have CM := fun v u wt (hv : IsAmt wt v (A % U * 2 ^ 1)) (hu : IsAmt wt u U) => cmpD_any v u (A % U * 2 ^ 1) U wt hv hu
  have PK := fun wt => pack_any b K Q wt hk1 (by omega) hk2
  rw [← hnp] at PK
  obtain ⟨W, eW⟩ : ∃ W, wordD b (nearR (M * 2 ^ 2 + 1) (P - 2)) = W := ⟨_, rfl⟩
  rw [eW] at PK ⊢
  obtain ⟨T, eT⟩ : ∃ T, l + 3 = T := ⟨_, rfl⟩
  have two : ((T : Int) + (P - 2) - 53 = q ∧ -1074 ≤ q) ∨ ((T : Int) + (P - 2) - 53 < -1074 ∧ q = -1074) := by omega
  rw [eT] at LB
  obtain ⟨k0, ek0⟩ : ∃ k, A / U = k := ⟨_, rfl⟩
  obtain ⟨c, ec⟩ : ∃ c, cmpN (A % U * 2 ^ 1) U = c := ⟨_, rfl⟩
  rw [ek0] at hrc VA DV hK0
  rw [ec] at hrc CM
  clear ha rr rd rn rv hlt hbl hnp hk2 hku hlastE el eq eK eQ es B1 B2 B3 B5 B6 B7 B8 B9 B10 B11 eL eW hM0 hA0 eA eU U0 hmod hU eT ek0 ec
  have hmid : (K = k0 + 1 ∧ c = 1) ∨ (K = k0 + 1 ∧ c = 0 ∧ k0 % 2 = 1) ∨ (K = k0 ∧ c = 0 ∧ k0 % 2 = 0) ∨ (K = k0 ∧ c = -1) := by
    rcases hrc with h | h | h | h
    · exact Or.inl ⟨h.2, h.1⟩
    · exact Or.inr (Or.inl ⟨h.2.2, h.1, h.2.1⟩)
    · exact Or.inr (Or.inr (Or.inl ⟨h.2.2, h.1, h.2.1⟩))
    · exact Or.inr (Or.inr (Or.inr ⟨h.2, h.1⟩))
  have hk53 : k0 ≤ 9007199254740992 := by omega
  have tm : (k0 : Int).tmod 2 = ((k0 % 2 : Nat) : Int) := by rw [Int.tmod_eq_emod_of_nonneg (by omega)]; omega
  have te : (k0 : Int) % 2 = ((k0 % 2 : Nat) : Int) := by omega
  clear hrc hlast hk1 hK0
  rcases two with ⟨hT, hT2⟩ | ⟨hT, hT2⟩
  · have hd : decide (q ≤ P - 2) = false := decide_eq_false (by omega)
    have hqP : decide ((Q : Int) - 1074 ≤ P - 2) = false := decide_eq_false (by omega)
    rcases hmid with ⟨rfl, rfl⟩ | ⟨rfl, rfl, hpar⟩ | ⟨rfl, rfl, hpar⟩ | ⟨rfl, rfl⟩
    all_goals
      try rw [hpar] at tm te
      go_enter Tryz.func77, Tryz.ntmps77
      go_wp2_with (first
        | (go_at_call 74; refine (SH _ ((Below.refl _ _).alloc (Nat.le_refl _) _)).mono ?_; rintro e w1 ⟨v1, rfl, h1, b1⟩
           obtain ⟨x0, x2, B1, z1⟩ := box_kept b1
           have bv := (Below.refl w1.heap.size w1).alloc (Nat.le_refl _) (.cells #[.int .u16 1] 77)
           have AD1 := AD _ _ _ (h1.below bv) (amt_one w1 77)
           clear b1 SH AD)
        | (go_at_call 49; refine AD1.mono ?_; rintro e w6 ⟨v6, rfl, h6, f6, b6⟩
           have bE := bv.trans (b6.mono bv.size)
           have x0 := (bE.cell (p := ⟨w.heap.size, 0, none⟩) (by omega)).trans x0
           have x2 := (bE.cell (p := ⟨w.heap.size, 2, none⟩) (by omega)).trans x2
           have B1 := B1.trans (bE.mono (Nat.le_of_lt z1))
           have z1 := Nat.lt_of_lt_of_le z1 bE.size
           have SHU := SH1 _ _ (amt_one w6 77)
           have bu := (Below.refl w6.heap.size w6).alloc (Nat.le_refl _) (.cells #[.int .u16 1] 77)
           have h1u := h6.below bu
           clear AD1 b6 bE bv h1 f6)
        | (go_at_call 72; refine (LB _ _ h6).mono ?_; rintro e w' ⟨rfl, rfl⟩)
        | (go_at_call 74; refine SHU.mono ?_; rintro e w2 ⟨vu, rfl, hu, b2⟩
           have bA := bu.trans (b2.mono bu.size)
           have h2 := h1u.below b2
           have y0 := (bA.cell (p := ⟨w.heap.size, 0, none⟩) (by omega)).trans x0
           have B2 := B1.trans (bA.mono (Nat.le_of_lt z1))
           have z2 := Nat.lt_of_lt_of_le z1 bA.size
           clear SHU bu b2 bA)
        | (go_at_call 52; refine (DV _ _ _ h2 hu).mono ?_; rintro e w3 ⟨vn, vr, rfl, hn3, hr3, b3⟩
           have hu3 := hu.below b3
           have y3 := (b3.cell (p := ⟨w.heap.size, 0, none⟩) (by omega)).trans y0
           have B3 := B2.trans (b3.mono (Nat.le_of_lt z2))
           have z3 := Nat.lt_of_lt_of_le z2 b3.size)
        | (go_at_call 53; refine (VA _ _ hn3).mono ?_; rintro e w' ⟨rfl, rfl⟩)
        | (go_at_call 74; refine (SR _ _ hr3).mono ?_; rintro e w4 ⟨v5, rfl, h5, b4⟩
           have hu4 := hu3.below b4
           have y4 := (b4.cell (p := ⟨w.heap.size, 0, none⟩) (by omega)).trans y3
           have B4 := B3.trans (b4.mono (Nat.le_of_lt z3))
           have z4 := Nat.lt_of_lt_of_le z3 b4.size)
        | (go_at_call 97; refine (CM _ _ _ h5 hu4).mono ?_; rintro e w5 ⟨rfl, b5⟩
           have y5 := (b5.cell (p := ⟨w.heap.size, 0, none⟩) (by omega)).trans y4
           have B5 := B4.trans (b5.mono (Nat.le_of_lt z4)))
        | (go_at_call 100; refine (PK _).mono ?_; rintro e w' ⟨rfl, rfl⟩))
      go_ret
      exact ⟨rfl, B5⟩
  · subst hT2
    have hd : decide ((-1074 : Int) ≤ P - 2) = false := decide_eq_false (by omega)
    have hqP : decide ((Q : Int) - 1074 ≤ P - 2) = false := decide_eq_false (by omega)
    rcases hmid with ⟨rfl, rfl⟩ | ⟨rfl, rfl, hpar⟩ | ⟨rfl, rfl, hpar⟩ | ⟨rfl, rfl⟩
    all_goals
      try rw [hpar] at tm te
      go_enter Tryz.func77, Tryz.ntmps77
      go_wp2_with (first
        | (go_at_call 74; refine (SH _ ((Below.refl _ _).alloc (Nat.le_refl _) _)).mono ?_; rintro e w1 ⟨v1, rfl, h1, b1⟩
           obtain ⟨x0, x2, B1, z1⟩ := box_kept b1
           have bv := (Below.refl w1.heap.size w1).alloc (Nat.le_refl _) (.cells #[.int .u16 1] 77)
           have AD1 := AD _ _ _ (h1.below bv) (amt_one w1 77)
           clear b1 SH AD)
        | (go_at_call 49; refine AD1.mono ?_; rintro e w6 ⟨v6, rfl, h6, f6, b6⟩
           have bE := bv.trans (b6.mono bv.size)
           have x0 := (bE.cell (p := ⟨w.heap.size, 0, none⟩) (by omega)).trans x0
           have x2 := (bE.cell (p := ⟨w.heap.size, 2, none⟩) (by omega)).trans x2
           have B1 := B1.trans (bE.mono (Nat.le_of_lt z1))
           have z1 := Nat.lt_of_lt_of_le z1 bE.size
           have SHU := SH1 _ _ (amt_one w6 77)
           have bu := (Below.refl w6.heap.size w6).alloc (Nat.le_refl _) (.cells #[.int .u16 1] 77)
           have h1u := h6.below bu
           clear AD1 b6 bE bv h1 f6)
        | (go_at_call 72; refine (LB _ _ h6).mono ?_; rintro e w' ⟨rfl, rfl⟩)
        | (go_at_call 74; refine SHU.mono ?_; rintro e w2 ⟨vu, rfl, hu, b2⟩
           have bA := bu.trans (b2.mono bu.size)
           have h2 := h1u.below b2
           have y0 := (bA.cell (p := ⟨w.heap.size, 0, none⟩) (by omega)).trans x0
           have B2 := B1.trans (bA.mono (Nat.le_of_lt z1))
           have z2 := Nat.lt_of_lt_of_le z1 bA.size
           clear SHU bu b2 bA)
        | (go_at_call 52; refine (DV _ _ _ h2 hu).mono ?_; rintro e w3 ⟨vn, vr, rfl, hn3, hr3, b3⟩
           have hu3 := hu.below b3
           have y3 := (b3.cell (p := ⟨w.heap.size, 0, none⟩) (by omega)).trans y0
           have B3 := B2.trans (b3.mono (Nat.le_of_lt z2))
           have z3 := Nat.lt_of_lt_of_le z2 b3.size)
        | (go_at_call 53; refine (VA _ _ hn3).mono ?_; rintro e w' ⟨rfl, rfl⟩)
        | (go_at_call 74; refine (SR _ _ hr3).mono ?_; rintro e w4 ⟨v5, rfl, h5, b4⟩
           have hu4 := hu3.below b4
           have y4 := (b4.cell (p := ⟨w.heap.size, 0, none⟩) (by omega)).trans y3
           have B4 := B3.trans (b4.mono (Nat.le_of_lt z3))
           have z4 := Nat.lt_of_lt_of_le z3 b4.size)
        | (go_at_call 97; refine (CM _ _ _ h5 hu4).mono ?_; rintro e w5 ⟨rfl, b5⟩
           have y5 := (b5.cell (p := ⟨w.heap.size, 0, none⟩) (by omega)).trans y4
           have B5 := B4.trans (b5.mono (Nat.le_of_lt z4)))
        | (go_at_call 100; refine (PK _).mono ?_; rintro e w' ⟨rfl, rfl⟩))
      go_ret
      exact ⟨rfl, B5⟩
end Go.Proofs.YtbengmceiaejeaaGreatDoor
/- Amounts: mulD. -/
namespace Go.Proofs.YtbengmceiaejeaaGreatDoor
open Go.ChangeShapes Go.WideShapes Go.ChangeAt Go.RowKit

theorem valD_set (qs : List Nat) (j d : Nat) (h : j < qs.length) : valD (qs.set j d) + 65536 ^ j * qs.getD j 0 = valD qs + 65536 ^ j * d := by
  induction qs generalizing j with
  | nil => simp at h
  | cons x qs ih =>
    cases j with
    | zero => simp [valD, List.getD]; omega
    | succ j =>
      have := ih j (by simpa using h)
      simp only [List.set_cons_succ, valD, List.getD_cons_succ, Nat.pow_succ]
      rw [Nat.mul_comm (65536 ^ j) 65536, Nat.mul_assoc, Nat.mul_assoc]
      omega

theorem digs_set {qs : List Nat} (h : DigsOk qs) (j d : Nat) (hd : d < 65536) : DigsOk (qs.set j d) := by
  intro x hx
  rcases List.mem_or_eq_of_mem_set hx with h1 | h1
  · exact h x h1
  · omega

theorem getD_set_ne (qs : List Nat) (j k d : Nat) (h : j ≠ k) : (qs.set j d).getD k 0 = qs.getD k 0 := by
  rw [List.getD_eq_getElem?_getD, List.getElem?_set_ne h, ← List.getD_eq_getElem?_getD]

/-- One digit of a product, in the books: p = 65536^i, q = 65536^k, T = 65536^(i + k). -/
theorem mul_step {V V' P p q T x Y y o c c' d : Nat} (hT : T = p * q) (h : V + T * c = P + p * x * Y) (hs : V' + T * o = V + T * d) (hd : d + 65536 * c' = c + o + x * y) : V' + T * 65536 * c' = P + p * x * (Y + q * y) := by
  have h1 : T * (d + 65536 * c') = T * (c + o + x * y) := by rw [hd]
  rw [Nat.mul_add, Nat.mul_add, Nat.mul_add, ← Nat.mul_assoc T 65536] at h1
  have h2 : p * x * (Y + q * y) = p * x * Y + T * (x * y) := by
    rw [Nat.mul_add, hT]
    congr 1
    rw [Nat.mul_assoc, Nat.mul_assoc, Nat.mul_left_comm x q y]
  omega

theorem digit_bound {c o x y : Nat} (hc : c ≤ 65535) (ho : o < 65536) (hx : x < 65536) (hy : y < 65536) : c + o + x * y ≤ 4294967295 := by
  have : x * y ≤ 65535 * 65535 := Nat.mul_le_mul (by omega) (by omega)
  omega

set_option maxHeartbeats 8000000 in
theorem mulD_any (a b : Value) (m n : Nat) (w : World) (ha : IsAmt w a m) (hb : IsAmt w b n) (hm : m < BIG) (hn : n < BIG) : Calls Tryz.prog 75 #[a, b] w fun e w' => ∃ v, e = .returned v ∧ IsAmt w' v (m * n) ∧ (∀ g, v.ownBlock = some g → w.heap.size ≤ g) ∧ Below w.heap.size w w' := by
  obtain ⟨xs, ra, da, na, rfl⟩ := ha
  obtain ⟨ys, rb, db, nb, rfl⟩ := hb
  have hl1 := len_big na hm
  have hl2 := len_big nb hn
  obtain ⟨i, hi, hz0, hz1, hz2⟩ := info_parts info16
  have RA := hide ra
  have RB := hide rb
  obtain ⟨ao, cap, rfl⟩ := ra.form
  obtain ⟨bo, cap2, rfl⟩ := rb.form
  clear hm hn na ra rb nb
  obtain ⟨L, eL⟩ : ∃ L, xs.length = L := ⟨_, rfl⟩
  obtain ⟨M, eM⟩ : ∃ M, ys.length = M := ⟨_, rfl⟩
  have HL := hide eL
  have HM := hide eM
  rw [eL] at RA hl1
  rw [eM] at RB hl2
  rw [eL, eM]
  clear eL eM
  obtain ⟨N, eN⟩ : ∃ N, L + M = N := ⟨_, rfl⟩
  have hN : (L : Int) + (M : Int) = (N : Int) := by omega
  have hN2 : N ≤ 8000 := by omega
  go_enter Tryz.func75, Tryz.ntmps75
  go_wp2_with (at_make; refine wpList_make_full _ rfl _ _ 42 rfl w.heap.size 77 i _ 1 Tryz.underlying42 hi hz0 hz1 _ _ _ _ N rfl rfl (by first | rfl | omega) (by first | rfl | omega) (by rw [hz2]; omega) (by unfold maxLen; omega) (Nat.le_refl _) ?_; intro w1 o1 g1)
  have HO1 := hide (made_zero o1)
  have b1 : Below w.heap.size w w1 := (Below.refl _ _).grown g1 (Nat.le_refl _) (fun k e => by cases e)
  clear o1 g1
  go_loopw [6] (fun ix wr => ∃ (j : Nat) (qs : List Nat), j ≤ L ∧ ix = .int .i64 (j : Int) ∧ wr.ownsRow w.heap.size 77 1 (.slice (some ⟨w.heap.size, 0, none⟩) N N) N (dv qs) ∧ qs.length = N ∧ DigsOk qs ∧ valD qs = valD (xs.take j) * valD ys ∧ (∀ t, j + M ≤ t → qs.getD t 0 = 0) ∧ Below w.heap.size w wr) (fun ix _ => L - (intOf ix).toNat)
  case atStart =>
    refine ⟨0, List.replicate N 0, Nat.zero_le _, rfl, HO1.out, by simp, ?_, ?_, ?_, b1⟩
    · intro d hd
      rw [List.mem_replicate] at hd
      omega
    · have := valD_zeros N []
      rw [List.append_nil] at this
      rw [this]
      simp [valD]
    · intro t _
      by_cases ht : t < N
      · simp [List.getD, ht]
      · rw [List.getD_eq_getElem?_getD, List.getElem?_eq_none (by simp; omega)]
        rfl
  case round =>
    obtain ⟨j, qs, hj, rfl, hown, hql, hqd, hqv, hqz, bw⟩ := hrel
    have HW := hide hown
    have HQL := hide hql
    have HQD := hide hqd
    have HQV := hide hqv
    have HQZ := hide hqz
    clear hown hql hqd hqv hqz
    by_cases hlt : j < L
    · obtain ⟨b1', off1, hbs1, rfl, hcell1⟩ := RA.out.at HL.out (by omega)
      have hc1 := hcell1 j (by have := HL.out; omega)
      have hx := da.getD j
      have tx := valD_take_snoc xs j (by have := HL.out; omega)
      obtain ⟨x, ex⟩ : ∃ x, xs.getD j 0 = x := ⟨_, rfl⟩
      rw [ex] at hc1 hx tx
      have HX := hide tx
      have CA : Hid (∀ wr, Below w.heap.size w wr → wr.cell? ⟨b1', off1 + j, none⟩ = some (.int .u16 (x : Int))) := hide fun wr hb => (hb.cell (p := ⟨b1', off1 + j, none⟩) hbs1).trans hc1
      clear tx ex hcell1 hc1
      go_wp2
      go_loopw [7, 8] (fun c kx wr2 => ∃ (k cy : Nat) (rs : List Nat), k ≤ M ∧ kx = .int .i64 (k : Int) ∧ c = .int .u32 (cy : Int) ∧ cy ≤ 65535 ∧ wr2.ownsRow w.heap.size 77 1 (.slice (some ⟨w.heap.size, 0, none⟩) N N) N (dv rs) ∧ rs.length = N ∧ DigsOk rs ∧ valD rs + 65536 ^ (j + k) * cy = valD qs + 65536 ^ j * x * valD (ys.take k) ∧ (∀ t, j + M ≤ t → rs.getD t 0 = 0) ∧ Below w.heap.size w wr2) (fun _ kx _ => M - (intOf kx).toNat)
      case atStart => exact ⟨0, 0, qs, Nat.zero_le _, rfl, rfl, by omega, HW.out, HQL.out, HQD.out, by simp [valD], HQZ.out, bw⟩
      case round =>
        obtain ⟨k, cy, rs, hk, rfl, rfl, hcy, hown, hrl, hrd, hrv, hrz, bw2⟩ := hrel
        have HW2 := hide hown
        have HRL := hide hrl
        have HRD := hide hrd
        have HRV := hide hrv
        have HRZ := hide hrz
        clear hown hrl hrd hrv hrz
        by_cases hkM : k < M
        · obtain ⟨b2', off2, hbs2, rfl, hcell2⟩ := RB.out.at HM.out (by omega)
          have hc2 := hcell2 k (by have := HM.out; omega)
          rw [← bw2.cell (p := ⟨b2', off2 + k, none⟩) hbs2] at hc2
          have hc1 := CA.out _ bw2
          have hy := db.getD k
          have ty := valD_take_snoc ys k (by have := HM.out; omega)
          obtain ⟨y, ey⟩ : ∃ y, ys.getD k 0 = y := ⟨_, rfl⟩
          rw [ey] at hc2 hy ty
          obtain ⟨t, et⟩ : ∃ t, j + k = t := ⟨_, rfl⟩
          have hik : (j : Int) + (k : Int) = (t : Int) := by omega
          have htN : t < N := by omega
          have htN2 : (t : Int) < (N : Int) := by omega
          have hc3 := (HW2.out.cellAt t (by omega)).trans (dv_at rs t (by have := HRL.out; omega))
          have ho := HRD.out.getD t
          have HS := hide (fun d => valD_set rs t d (by have := HRL.out; omega))
          have hbd := digit_bound hcy ho hx hy
          obtain ⟨o, eo⟩ : ∃ o, rs.getD t 0 = o := ⟨_, rfl⟩
          rw [eo] at hc3 ho HS hbd
          obtain ⟨P, eP⟩ : ∃ P, x * y = P := ⟨_, rfl⟩
          have hmul : (x : Int) * (y : Int) = (P : Int) := by rw [← eP]; simp
          have HP := hide eP
          rw [eP] at hbd
          have hw32 : IntKind.u32.wrap ((cy : Int) + (o : Int) + (P : Int)) = (cy : Int) + (o : Int) + (P : Int) := by rw [IntKind.wrap_u32]; omega
          have HY := hide ty
          have SF := HW2.out.frozenAt t
          have HRV2 := HRV.out
          rw [et] at HRV2
          have HRV3 := hide HRV2
          have ET := hide et
          clear ey eo eP ty hcell2 et HRV HRV2
          obtain ⟨D, eD⟩ : ∃ D, (cy + o + P) % 65536 = D := ⟨_, rfl⟩
          obtain ⟨C, eC⟩ : ∃ C, (cy + o + P) / 65536 = C := ⟨_, rfl⟩
          have hw16 : IntKind.u16.wrap ((cy : Int) + (o : Int) + (P : Int)) = (D : Int) := by rw [IntKind.wrap_u16]; omega
          have hsh : ((cy : Int) + (o : Int) + (P : Int)) / 65536 = (C : Int) := by omega
          have hD : D < 65536 := by omega
          have hC : C ≤ 65535 := by omega
          have hDC : Hid (D + 65536 * C = cy + o + P) := hide (by omega)
          have ST := hide (fun nq => own_kept2 HW2.out (below_drew wr.heap.size wr nq))
          clear eD eC
          go_wp2
          go_quiet (fail)
          go_wp2
          go_roundw
          case rel =>
            refine ⟨k + 1, C, rs.set t D, by omega, by go_num, rfl, hC, (by rw [← dv_set]; exact ((ST.out _).stored t (.int .u16 (D : Int))).1), by simp [HRL.out], digs_set HRD.out t D hD, ?_, ?_, (bw2.trans (below_drew _ _ _)).setCell (Nat.le_refl _) _⟩
            · rw [HY.out, show j + (k + 1) = t + 1 by have := ET.out; omega, Nat.pow_succ]
              exact mul_step (by rw [← ET.out, Nat.pow_add]) HRV3.out (HS.out D) (by rw [HP.out]; exact hDC.out)
            · intro t' ht'
              rw [getD_set_ne _ _ _ _ (by have := ET.out; omega)]
              exact HRZ.out t' ht'
          case measure => simp [intOf]; omega
        · have hkM' : k = M := by omega
          subst hkM'
          obtain ⟨t, et⟩ : ∃ t, j + k = t := ⟨_, rfl⟩
          have hik : (j : Int) + (k : Int) = (t : Int) := by omega
          have htN : t < N := by omega
          have htN2 : (t : Int) < (N : Int) := by omega
          have hc3 := (HW2.out.cellAt t (by omega)).trans (dv_at rs t (by have := HRL.out; omega))
          have SF := HW2.out.frozenAt t
          have hw16 : IntKind.u16.wrap (cy : Int) = (cy : Int) := by rw [IntKind.wrap_u16]; omega
          have HS := hide (valD_set rs t cy (by have := HRL.out; omega))
          have ET := hide et
          clear et
          go_wp2
          go_roundw
          case rel =>
            refine ⟨j + 1, rs.set t cy, by omega, by go_num, (by rw [← dv_set]; exact (HW2.out.stored t (.int .u16 (cy : Int))).1), by simp [HRL.out], digs_set HRD.out t cy (by omega), ?_, ?_, bw2.setCell (Nat.le_refl _) _⟩
            · have h1 := HS.out
              have h2 := HRV.out
              have h3 := HQV.out
              have h4 := HRZ.out t (by have := ET.out; omega)
              rw [h4, Nat.mul_zero, Nat.add_zero] at h1
              rw [ET.out, List.take_of_length_le (by have := HM.out; omega), h3] at h2
              rw [h1, h2, HX.out, Nat.add_mul]
            · intro t' ht'
              rw [getD_set_ne _ _ _ _ (by have := ET.out; omega)]
              exact HRZ.out t' (by omega)
          case measure => simp [intOf]; omega
    · have hjL : j = L := by omega
      subst hjL
      have TR := trim_any _ qs wr (row_of_owns (ds := qs) (by rw [HQL.out]; exact HW.out)) HQD.out
      have hown := hide (fun g hg => (HW.out.lt g hg).1)
      go_wp2_with (go_at_call 54; refine TR.mono ?_; rintro e w' ⟨v3, rfl, h3, f3, rfl⟩)
      go_ret
      have hv := HQV.out
      rw [List.take_of_length_le (by have := HL.out; omega)] at hv
      rw [hv] at h3
      exact ⟨_, rfl, h3, fun g hg => hown.out g (f3 g hg), bw⟩
end Go.Proofs.YtbengmceiaejeaaGreatDoor
