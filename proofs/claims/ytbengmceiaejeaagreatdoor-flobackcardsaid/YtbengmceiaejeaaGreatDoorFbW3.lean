/- Bits of a word that is packed; pack64 walked. -/
import Derived.Test.YtbengmceiaejeaaGreatDoorFtX3
import Derived.Test.YtbengmceiaejeaaGreatDoorFbC
import Derived.Test.YtbengmceiaejeaaGreatDoorFbT1
import Derived.Test.YtbengmceiaejeaaGreatDoorFtW6
namespace Go.Proofs.YtbengmceiaejeaaGreatDoor
open Go.ChangeShapes Go.WideShapes Go.ChangeAt Go.RowKit

theorem or_shift (a b k : Nat) (h : b < 2 ^ k) : a * 2 ^ k ||| b = a * 2 ^ k + b := by
  rw [← Nat.shiftLeft_eq]
  exact (Nat.shiftLeft_add_eq_or_of_lt h a).symm

theorem or_sg (sg m : Nat) (hs : sg = 0 ∨ sg = 9223372036854775808) (hm : m < 9223372036854775808) : sg ||| m = sg + m := by
  rcases hs with rfl | rfl
  · rw [Nat.zero_or, Nat.zero_add]
  · exact or_shift 1 m 63 hm

theorem and_52 (u : Nat) : u &&& 4503599627370496 = if u / 4503599627370496 % 2 = 1 then 4503599627370496 else 0 := by
  have e : (4503599627370496 : Nat) = 2 ^ 52 := rfl
  have h : u &&& 2 ^ 52 = if u.testBit 52 then 2 ^ 52 else 0 := by
    refine Nat.eq_of_testBit_eq fun i => ?_
    rw [Nat.testBit_and, Nat.testBit_two_pow]
    by_cases hi : i = 52
    · subst hi
      cases u.testBit 52
      · simp
      · rw [if_pos rfl, Nat.testBit_two_pow_self]; rfl
    · have : decide (52 = i) = false := by simp; omega
      rw [this, Bool.and_false]
      cases u.testBit 52
      · simp
      · rw [if_pos rfl, Nat.testBit_two_pow, this]
  have h2 : u.testBit 52 = decide (u / 2 ^ 52 % 2 = 1) := Nat.testBit_eq_decide_div_mod_eq
  rw [e, h, h2]
  by_cases hc : u / 2 ^ 52 % 2 = 1
  · rw [if_pos (decide_eq_true hc), if_pos hc]
  · rw [if_neg (by simpa using hc), if_neg hc]

theorem u64_or_sg (sg m : Nat) (hs : sg = 0 ∨ sg = 9223372036854775808) (hm : m < 9223372036854775808) : bits .or .u64 (sg : Int) (m : Int) = ((sg + m : Nat) : Int) := by
  rw [u64_or sg m (by omega) (by omega), or_sg sg m hs hm]

theorem u64_and_52 (u : Nat) (hu : u < 18446744073709551616) : bits .and .u64 (u : Int) 4503599627370496 = if u / 4503599627370496 % 2 = 1 then 4503599627370496 else 0 := by
  have := u64_and u 4503599627370496 hu (by decide)
  rw [show ((4503599627370496 : Nat) : Int) = 4503599627370496 from rfl] at this
  rw [this, and_52]
  split <;> rfl

theorem u64_andNot_52 (sg m : Nat) (hs : sg = 0 ∨ sg = 9223372036854775808) (h1 : 4503599627370496 ≤ m) (h2 : m < 9007199254740992) : bits .andNot .u64 ((sg + m : Nat) : Int) 4503599627370496 = ((sg + (m - 4503599627370496) : Nat) : Int) := by
  have e1 : (BitVec.ofInt 64 ((sg + m : Nat) : Int)).toNat = sg + m := by rw [BitVec.toNat_ofInt]; omega
  have e2 : (~~~ BitVec.ofInt 64 4503599627370496).toNat = 18446744073709551615 - 4503599627370496 := by decide
  have k1 : ∀ r y x : Nat, r < 4503599627370496 → sg + r = x → x + 4503599627370496 = y → y = x ||| 4503599627370496 := by
    intro r y x hr hx hy
    have a2 := or_shift 1 r 52 hr
    rw [show 1 * 2 ^ 52 = 4503599627370496 from rfl] at a2
    rw [← hx, ← or_sg sg r hs (by omega), Nat.or_assoc, Nat.or_comm r, a2, or_sg sg _ hs (by omega)]
    omega
  have e3 : ∀ y x : Nat, x + 4503599627370496 = y → x / 4503599627370496 % 2 = 0 → x < 2 ^ 64 → y = x ||| 4503599627370496 → y &&& (18446744073709551615 - 4503599627370496) = x := by
    intro y x _ hx52 hx64 hy
    rw [hy]
    refine Nat.eq_of_testBit_eq fun i => ?_
    rw [Nat.testBit_and, Nat.testBit_or, show (4503599627370496 : Nat) = 2 ^ 52 from rfl, Nat.testBit_two_pow]
    have e4 : (18446744073709551615 - 2 ^ 52 : Nat) = 2 ^ 64 - (2 ^ 52 + 1) := rfl
    rw [e4, Nat.testBit_two_pow_sub_succ (by decide), Nat.testBit_two_pow]
    by_cases hi : i = 52
    · subst hi
      have : x.testBit 52 = false := by
        rw [Nat.testBit_eq_decide_div_mod_eq]
        exact decide_eq_false (by rw [show (2 : Nat) ^ 52 = 4503599627370496 from rfl]; omega)
      rw [this]; rfl
    · have hd : decide (52 = i) = false := decide_eq_false (by omega)
      rw [hd, Bool.or_false, Bool.not_false, Bool.and_true]
      by_cases h64 : i < 64
      · rw [decide_eq_true h64, Bool.and_true]
      · have : x.testBit i = false := Nat.testBit_lt_two_pow (Nat.lt_of_lt_of_le hx64 (Nat.pow_le_pow_right (by decide) (by omega)))
        rw [this]; rfl
  have e5 := e3 (sg + m) (sg + (m - 4503599627370496)) (by omega) (by omega) (by omega) (k1 (m - 4503599627370496) (sg + m) (sg + (m - 4503599627370496)) (by omega) rfl (by omega))
  show IntKind.u64.wrap ((BitVec.ofInt 64 ((sg + m : Nat) : Int) &&& ~~~ BitVec.ofInt 64 4503599627370496).toNat : Int) = _
  rw [BitVec.toNat_and, e1, e2, e5, wraps64 _ (by omega) (by omega)]

theorem u64_or_exp (sg r x : Nat) (hs : sg = 0 ∨ sg = 9223372036854775808) (hr : r < 4503599627370496) (hx : x < 2048) : bits .or .u64 ((sg + r : Nat) : Int) ((x * 4503599627370496 : Nat) : Int) = ((sg + (x * 4503599627370496 + r) : Nat) : Int) := by
  rw [u64_or _ _ (by omega) (by omega)]
  have a2 := or_shift x r 52 (by omega)
  rw [show (2 : Nat) ^ 52 = 4503599627370496 from rfl] at a2
  rw [← or_sg sg r hs (by omega), ← or_sg sg _ hs (by omega), ← a2, Nat.or_assoc, Nat.or_comm r]

theorem unmin_any (w : World) : Calls Tryz.prog 162 #[.int .u64 9007199254740992] w fun e w' => e = .returned (.int .u64 36028797018963966) ∧ w' = w := by
  go_enter Tryz.func162, Tryz.ntmps162
  go_wp2
  go_ret
  exact ⟨rfl, rfl⟩

theorem x_ffb (u : Int) (w : World) : (callFunc 145 #[.int .u64 u]).run Tryz.prog w = .ok (.value (.float .f64 u.toNat)) w := by
  rw [run_callFunc_extern (e := Extern.MathFloatBits.float64frombits) Tryz.func145 (by kernel_rfl) (by kernel_rfl) (by kernel_rfl) (by kernel_rfl)]
  rfl
end Go.Proofs.YtbengmceiaejeaaGreatDoor
/- pack64 and parseFloat64 walked. -/

namespace Go.Proofs.YtbengmceiaejeaaGreatDoor
open Go.ChangeShapes Go.WideShapes Go.ChangeAt Go.RowKit

theorem pk_any (sg m Q : Nat) (hs : sg = 0 ∨ sg = 9223372036854775808) (hm : m < 9007199254740992) (hsub : Q = 0 ∨ 4503599627370496 ≤ m) (hQ : Q ≤ 2045) (w : World) :
    Calls Tryz.prog 179 #[.int .u64 ((sg + m : Nat) : Int), .int .i64 ((Q : Int) - 1074)] w fun e w' => e = .returned (.tuple #[.float .f64 (sg + (Q * 4503599627370496 + m)), .nilIface]) ∧ w' = w := by
  have hA := u64_and_52 (sg + m) (by omega)
  by_cases h : m < 4503599627370496
  · have hq : Q = 0 := by omega
    subst hq
    rw [if_neg (by omega)] at hA
    rw [Nat.zero_mul, Nat.zero_add]
    obtain ⟨v, ev⟩ : ∃ v, sg + m = v := ⟨_, rfl⟩
    rw [ev] at hA ⊢
    have F := x_ffb (v : Int)
    rw [Int.toNat_natCast] at F
    clear ev h hsub hQ
    go_enter Tryz.func179, Tryz.ntmps179
    go_wp2
    go_ret2
    exact ⟨rfl, rfl⟩
  · have h1 : 4503599627370496 ≤ m := by omega
    rw [if_pos (by omega)] at hA
    have hN := u64_andNot_52 sg m hs h1 hm
    have hO := u64_or_exp sg (m - 4503599627370496) (Q + 1) hs (by omega) (by omega)
    have eW : sg + ((Q + 1) * 4503599627370496 + (m - 4503599627370496)) = sg + (Q * 4503599627370496 + m) := by omega
    rw [eW] at hO
    obtain ⟨W, eW2⟩ : ∃ W, sg + (Q * 4503599627370496 + m) = W := ⟨_, rfl⟩
    rw [eW2] at hO ⊢
    have F := x_ffb (W : Int)
    rw [Int.toNat_natCast] at F
    obtain ⟨v, ev⟩ : ∃ v, sg + m = v := ⟨_, rfl⟩
    obtain ⟨r, er⟩ : ∃ r, sg + (m - 4503599627370496) = r := ⟨_, rfl⟩
    rw [ev] at hA hN ⊢
    rw [er] at hN hO
    obtain ⟨x, ex⟩ : ∃ x, Q + 1 = x := ⟨_, rfl⟩
    obtain ⟨e, ee⟩ : ∃ e : Int, (Q : Int) - 1074 = e := ⟨_, rfl⟩
    have he : 1075 + e = (x : Int) := by omega
    have hx : x < 2047 := by omega
    have he2 : -1074 ≤ e ∧ e < 972 := by omega
    rw [ex] at hO
    rw [ee]
    obtain ⟨y, ey⟩ : ∃ y, x * 4503599627370496 = y := ⟨_, rfl⟩
    have hy : (x : Int) * 4503599627370496 = (y : Int) := by omega
    have hy2 : y < 18446744073709551616 := by omega
    rw [ey] at hO
    clear eW eW2 ev er ex ee ey h hsub hQ hs hm h1
    go_enter Tryz.func179, Tryz.ntmps179
    go_wp2
    go_ret2
    exact ⟨rfl, rfl⟩
end Go.Proofs.YtbengmceiaejeaaGreatDoor
/- parseFloat64 walked: it answers the document's word. -/
namespace Go.Proofs.YtbengmceiaejeaaGreatDoor
open Go.ChangeShapes Go.WideShapes Go.ChangeAt Go.RowKit

theorem len_facts {d : Nat} (h0 : 0 < d) (h : d < 100000000000000000) : 1 ≤ Lib.bitLen d ∧ Lib.bitLen d ≤ 57 ∧ 2 ^ (Lib.bitLen d - 1) ≤ d ∧ d < 2 ^ Lib.bitLen d := by
  obtain ⟨a, b, c⟩ := Lib.bitLenAux_bounds 64 d (by omega) (by omega)
  exact ⟨a, Lib.bitLen_le d 57 (by decide) (by omega), b, c⟩

theorem sh_row (p : Int) (h1 : -345 ≤ p) (h2 : p ≤ 310) : (rowP p).1 < 18446744073709551616 ∧ (rowP p).2 < 18446744073709551616 ∧ (rowP p).2 < (rowP p).1 * 18446744073709551616 := by
  have hg := good_p p h1 h2
  unfold goodP at hg
  simp only [Bool.and_eq_true, decide_eq_true_eq] at hg
  exact ⟨hg.1.1.1.1.1.1.1, hg.1.1.1.1.1.1.2, hg.1.1.1.1.1.2⟩

set_option maxRecDepth 100000 in
set_option maxHeartbeats 8000000 in
/-- By what it calls. -/
theorem p64_by (w : World) (sg d b m Q x H L s0 u s v : Nat) (p e lp E : Int) (hs : sg = 0 ∨ sg = 9223372036854775808) (hb : 1 ≤ b ∧ b ≤ 57) (hlp : -1147 ≤ lp ∧ lp ≤ 1030) (he : min 1074 (53 - (b : Int) - lp) = e) (he2 : -1100 ≤ e ∧ e ≤ 1074) (hE : e - (64 - (b : Int)) = E) (hx : d * 2 ^ (64 - b) = x) (hx2 : x < 18446744073709551616) (hs0 : s0 < 64) (hu : u < 144115188075855872) (hs1 : s ≤ 1) (g : Bool) (hge : decide ((36028797018963966 : Int) ≤ (u : Int)) = g) (hgs : ((g.toNat : Nat) : Int) = (s : Int)) (hm : rnd4 v = m) (hv : v = u / 2 ^ s ||| u % 2) (hm2 : m < 9007199254740992) (hQ : e - (s : Int) = 1074 - (Q : Int)) (hQ2 : Q ≤ 2045)
    (LN : ∀ w, Calls Tryz.prog 119 #[.int .u64 (d : Int)] w fun e w' => e = .returned (.int .i64 (b : Int)) ∧ w' = w)
    (LP : ∀ w, Calls Tryz.prog 155 #[.int .i64 p] w fun e w' => e = .returned (.int .i64 lp) ∧ w' = w)
    (PR : ∀ t, Calls Tryz.prog 154 #[.pointer (some ⟨w.heap.size, 0, none⟩), .int .i64 E, .int .i64 p, .int .i64 lp] (w.alloc (.cells #[.int .u64 0, .int .u64 0, .int .i64 0] t)) fun e w' => e = .returned (.tuple #[]) ∧ w' = w.alloc (.cells #[.int .u64 (H : Int), .int .u64 (L : Int), .int .i64 (s0 : Int)] t))
    (US : Scaled x H L s0 u)
    (PK : ∀ w, Calls Tryz.prog 179 #[.int .u64 ((sg + m : Nat) : Int), .int .i64 ((Q : Int) - 1074)] w fun e w' => e = .returned (.tuple #[.float .f64 (sg + (Q * 4503599627370496 + m)), .nilIface]) ∧ w' = w) :
    Calls Tryz.prog 147 #[.int .u64 (d : Int), .int .i64 p, .int .u64 (sg : Int)] w fun e w' => e = .returned (.tuple #[.float .f64 (sg + (Q * 4503599627370496 + m)), .nilIface]) ∧ Below w.heap.size w w' := by
  have hA := and_one u (by omega)
  have hv2 : v < 4611686018427387904 := by
    have h1 : u / 2 ^ s < 2 ^ 57 := Nat.lt_of_le_of_lt (Nat.div_le_self _ _) hu
    have h2 : u % 2 < 2 ^ 57 := by omega
    have := Nat.or_lt_two_pow h1 h2
    rw [hv]
    omega
  have hO := u64_or (u / 2 ^ s) (u % 2) (by have := Nat.div_le_self u (2 ^ s); omega) (by omega)
  rw [← hv] at hO
  have SR : (u : Int) / 2 ^ s = ((u / 2 ^ s : Nat) : Int) := by simp
  have RN := fun w => round_any v w hv2
  rw [hm] at RN
  have hOm := u64_or_sg sg m hs (by omega)
  obtain ⟨sm, esm⟩ : ∃ k, sg + m = k := ⟨_, rfl⟩
  rw [esm] at hOm PK
  obtain ⟨W, eW⟩ : ∃ k, sg + (Q * 4503599627370496 + m) = k := ⟨_, rfl⟩
  rw [eW] at PK ⊢
  obtain ⟨us, eus⟩ : ∃ k, u / 2 ^ s = k := ⟨_, rfl⟩
  rw [eus] at hO SR
  obtain ⟨u2, eu2⟩ : ∃ k, u % 2 = k := ⟨_, rfl⟩
  rw [eu2] at hO hA
  obtain ⟨z, ez⟩ : ∃ z : Nat, 64 - (b : Int) = (z : Int) := ⟨64 - b, by omega⟩
  have hz : 7 ≤ z ∧ z < 64 := by omega
  have hzb : 64 - b = z := by omega
  have hX : IntKind.u64.wrap ((d : Int) * 2 ^ z) = (x : Int) := by
    rw [show (d : Int) * 2 ^ z = (x : Int) by rw [← hx, hzb]; simp]
    exact wraps64 _ (by omega) (by omega)
  rw [ez] at hE
  obtain ⟨qe, eqe⟩ : ∃ k : Int, (Q : Int) - 1074 = k := ⟨_, rfl⟩
  rw [eqe] at PK
  have hneg : -(e - (s : Int)) = qe := by omega
  have bA : Below w.heap.size w w := Below.refl _ _
  have hqb : -1074 ≤ qe ∧ qe ≤ 971 := by omega
  clear hm hv hx esm eW eus eu2 hQ eqe hs hu hzb hQ2 hm2
  go_enter Tryz.func147, Tryz.ntmps147
  go_wp2_with (first
    | (go_at_call 119; refine (LN _).mono ?_; rintro e w' ⟨rfl, rfl⟩; clear LN)
    | (go_at_call 155; refine (LP _).mono ?_; rintro e w' ⟨rfl, rfl⟩; clear LP)
    | (go_at_call 154; refine (PR _).mono ?_; rintro e w' ⟨rfl, rfl⟩; clear PR)
    | (go_at_call 156; refine (US.run _ _ 0).mono ?_; rintro e w' ⟨rfl, n0, rfl⟩; clear US)
    | (go_at_call 162; refine (unmin_any _).mono ?_; rintro e w' ⟨rfl, rfl⟩)
    | (go_at_call 161; refine (b2i_any _ _).mono ?_; rintro e w' ⟨rfl, rfl⟩)
    | (go_at_call 160; refine (RN _).mono ?_; rintro e w' ⟨rfl, rfl⟩)
    | (go_at_call 179; refine (PK _).mono ?_; rintro e w' ⟨rfl, rfl⟩))
  go_ret2
  exact ⟨rfl, (bA.alloc (Nat.le_refl _) _).trans (below_drewN _ _ _)⟩

theorem p64_any (w : World) (R : RdyT w) (sg d m Q : Nat) (p : Int) (hs : sg = 0 ∨ sg = 9223372036854775808) (h0 : 0 < d) (hd : d < 100000000000000000) (h1 : -345 ≤ p) (h2 : p ≤ 310) (hm0 : 0 < m) (hm : m < 9007199254740992) (hQ : Q ≤ 2045) (hsub : Q = 0 ∨ 4503599627370496 ≤ m) (hf : Q * 4503599627370496 + m < 9218868437227405312) (hw : decR d p = Q * 4503599627370496 + m) :
    Calls Tryz.prog 147 #[.int .u64 (d : Int), .int .i64 p, .int .u64 (sg : Int)] w fun e w' => e = .returned (.tuple #[.float .f64 (sg + (Q * 4503599627370496 + m)), .nilIface]) ∧ Below w.heap.size w w' := by
  obtain ⟨b1, b2, b3, b4⟩ := len_facts h0 hd
  have LN : ∀ w, Calls Tryz.prog 119 #[.int .u64 (d : Int)] w fun e w' => e = .returned (.int .i64 ((Lib.bitLen d : Nat) : Int)) ∧ w' = w := by
    intro w
    have := Tryz.bits_Len64 (d : Int) w (by omega) (by omega)
    rw [show ((d : Int)).toNat = d by omega] at this
    exact this
  obtain ⟨b, eb⟩ : ∃ b, Lib.bitLen d = b := ⟨_, rfl⟩
  rw [eb] at b1 b2 b3 b4 LN
  obtain ⟨s0, u, s, e1, e2, e3, e4, e5, e6, e7⟩ := parse_word h1 h2 b1 b2 b3 b4 hm0 hm hQ hsub hf hw
  have hlp := good_l2 p h1 h2
  obtain ⟨r1, r2, r3⟩ := sh_row p h1 h2
  have hx : d * 2 ^ (64 - b) < 18446744073709551616 := by
    have : 2 ^ b * 2 ^ (64 - b) = 2 ^ 64 := by rw [← Nat.pow_add]; congr 1; omega
    have h := Nat.mul_lt_mul_of_pos_right b4 (Nat.two_pow_pos (64 - b))
    rw [this] at h
    exact h
  have US : Scaled (d * 2 ^ (64 - b)) (rowP p).1 (rowP p).2 s0 u := fun B w c0 c1 c2 => by
    rw [e3]
    exact us_any B _ _ _ _ w hx r1 r2 r3 e2 c0 c1 c2
  have hEb : -1100 ≤ rdE b p ∧ rdE b p ≤ 1074 := by unfold rdE; omega
  have PR := fun t => pre_any t w R (rdE b p - (64 - (b : Int))) p (l2 p) (p + 348).toNat (s0 : Int) (by omega) (by omega) (by omega) (by omega) (by rw [e1]; rfl)
  have hg : ∃ g : Bool, decide ((36028797018963966 : Int) ≤ (u : Int)) = g ∧ ((g.toNat : Nat) : Int) = (s : Int) := by
    by_cases h : 36028797018963966 ≤ u
    · rw [if_pos h] at e5
      exact ⟨true, decide_eq_true (by omega), by rw [e5]; rfl⟩
    · rw [if_neg h] at e5
      exact ⟨false, decide_eq_false (by omega), by rw [e5]; rfl⟩
  obtain ⟨g, g1, g2⟩ := hg
  have hs1 : s ≤ 1 := by rw [e5]; split <;> omega
  exact p64_by w sg d b m Q _ _ _ s0 u s _ p (rdE b p) (l2 p) _ hs ⟨b1, b2⟩ hlp rfl hEb rfl rfl hx e2 e4 hs1 g g1 g2 e6 rfl hm e7 hQ LN (fun w => l2_any p (by omega) w) PR US (fun w => pk_any sg m Q hs hm hsub hQ w)
end Go.Proofs.YtbengmceiaejeaaGreatDoor
