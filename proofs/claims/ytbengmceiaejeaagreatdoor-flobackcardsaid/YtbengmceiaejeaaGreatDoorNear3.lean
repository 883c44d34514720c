/- The reference's rounding, pack and Nearest, is the nearest word. -/
import Derived.Test.YtbengmceiaejeaaGreatDoorBigK
import Derived.Test.YtbengmceiaejeaaGreatDoorMono
import Derived.Test.YtbengmceiaejeaaGreatDoorWhole
import Derived.Deep.RegionWith
namespace Go.Proofs.YtbengmceiaejeaaGreatDoor
open Go.ChangeShapes Go.WideShapes Go.ChangeAt Go.RowKit
open Ieee

theorem or_sign (u : Nat) (hu : u < 9223372036854775808) : bits .or .u64 (u : Int) 9223372036854775808 = ((9223372036854775808 + u : Nat) : Int) := by
  have h := u64_or u 9223372036854775808 (by omega) (by decide)
  rw [show ((9223372036854775808 : Nat) : Int) = 9223372036854775808 from rfl] at h
  rw [h]
  have h1 : 2 ^ 63 * 1 + u = 2 ^ 63 * 1 ||| u := Nat.two_pow_add_eq_or_of_lt hu 1
  rw [Nat.mul_one] at h1
  rw [show (9223372036854775808 : Nat) = 2 ^ 63 by decide, Nat.or_comm, ← h1]

theorem signed_any (b : Bool) (u : Nat) (hu : u < 9223372036854775808) (w : World) : Calls Tryz.prog 99 #[.bool b, .int .u64 (u : Int)] w fun e w' => e = .returned (.int .u64 ((wordD b u : Nat) : Int)) ∧ w' = w := by
  have h := or_sign u hu
  cases b
  · have e : Hid (wordD false u = u) := hide rfl
    go_enter Tryz.func99, Tryz.ntmps99
    go_wp2
    go_ret
    exact ⟨ret_int (by rw [e.out]), rfl⟩
  · have e : Hid (wordD true u = 9223372036854775808 + u) := hide rfl
    obtain ⟨X, eX⟩ : ∃ X, 9223372036854775808 + u = X := ⟨_, rfl⟩
    rw [eX] at h e
    clear eX
    go_enter Tryz.func99, Tryz.ntmps99
    go_wp2
    go_ret
    exact ⟨ret_int (by rw [e.out]), rfl⟩

/-- The word of a rounded number: m times 2^(q - 1074). -/
def packR (m q : Nat) : Nat := min (q * 4503599627370496 + m) 9218868437227405312

theorem or_fields (e m : Nat) (he : e < 2047) (hm : m < 4503599627370496) : bits .or .u64 ((e : Int) * 4503599627370496) (m : Int) = ((e * 4503599627370496 + m : Nat) : Int) := by
  have h := u64_or (e * 4503599627370496) m (by omega) (by omega)
  rw [show ((e * 4503599627370496 : Nat) : Int) = (e : Int) * 4503599627370496 by simp] at h
  rw [h]
  have h1 : 2 ^ 52 * e + m = 2 ^ 52 * e ||| m := Nat.two_pow_add_eq_or_of_lt hm e
  congr 1
  rw [show e * 4503599627370496 = 2 ^ 52 * e by omega, ← h1]

theorem mask52 (a : Nat) (ha : a < 18446744073709551616) : bits .and .u64 (a : Int) 4503599627370495 = ((a % 4503599627370496 : Nat) : Int) := by
  have h := u64_and a 4503599627370495 ha (by decide)
  rw [show ((4503599627370495 : Nat) : Int) = 4503599627370495 from rfl] at h
  rw [h, show (4503599627370495 : Nat) = 2 ^ 52 - 1 by decide, Nat.and_two_pow_sub_one_eq_mod]

theorem or_fields0 (e : Nat) (he : e < 2047) : bits .or .u64 ((e : Int) * 4503599627370496) 0 = ((e * 4503599627370496 : Nat) : Int) := by
  have h := or_fields e 0 he (by omega)
  simpa using h

set_option maxHeartbeats 4000000 in
set_option maxRecDepth 100000 in
theorem pack_any (b : Bool) (m q : Nat) (w : World) (hm : m ≤ 9007199254740992) (hq : q ≤ 60000) (h0 : m < 4503599627370496 → q = 0) : Calls Tryz.prog 100 #[.bool b, .int .u64 (m : Int), .int .i64 ((q : Int) - 1074)] w fun e w' => e = .returned (.int .u64 ((wordD b (packR m q) : Nat) : Int)) ∧ w' = w := by
  rcases Nat.lt_or_ge m 4503599627370496 with hs | hb
  · have hq0 := h0 hs
    subst hq0
    have e : Hid (packR m 0 = m) := hide (by unfold packR; omega)
    have hne : ((m : Int) == 9007199254740992) = false := beq_eq_false_iff_ne.2 (by omega)
    have hne2 : (m == 9007199254740992) = false := beq_eq_false_iff_ne.2 (by omega)
    have hlt : decide ((m : Int) < 4503599627370496) = true := decide_eq_true (by omega)
    have hlt2 : decide (m < 4503599627370496) = true := decide_eq_true hs
    have S := signed_any b m (by omega)
    have ew : Hid (wordD b (packR m 0) = wordD b m) := hide (by rw [e.out])
    obtain ⟨W, eW⟩ : ∃ W, wordD b m = W := ⟨_, rfl⟩
    rw [eW] at S ew
    clear eW
    go_enter Tryz.func100, Tryz.ntmps100
    go_wp2_with (go_at_call 99; refine (S _).mono ?_; rintro e w' ⟨rfl, rfl⟩)
    go_ret
    exact ⟨ret_int (by rw [ew.out]), rfl⟩
  · clear h0
    by_cases h53 : m = 9007199254740992
    · subst h53
      by_cases hi : q + 2 < 2047
      · have e : packR 9007199254740992 q = (q + 2) * 4503599627370496 := by unfold packR; omega
        have S := signed_any b ((q + 2) * 4503599627370496) (by omega)
        have ho := or_fields0 (q + 2) hi
        have mk : bits .and .u64 4503599627370496 4503599627370495 = 0 := by decide
        have ew : Hid (wordD b (packR 9007199254740992 q) = wordD b ((q + 2) * 4503599627370496)) := hide (by rw [e])
        obtain ⟨E, eE⟩ : ∃ E, q + 2 = E := ⟨_, rfl⟩
        have hE : (q : Int) - 1074 + 1 + 1075 = (E : Int) := by omega
        rw [eE] at S ho ew hi
        obtain ⟨W, eW⟩ : ∃ W, wordD b (E * 4503599627370496) = W := ⟨_, rfl⟩
        rw [eW] at S ew
        obtain ⟨Y, eY⟩ : ∃ Y, E * 4503599627370496 = Y := ⟨_, rfl⟩
        rw [eY] at S ho
        have hw : IntKind.u64.wrap ((E : Int) * 4503599627370496) = (E : Int) * 4503599627370496 := wraps64 _ (by omega) (by omega)
        clear eE eW e eY
        go_enter Tryz.func100, Tryz.ntmps100
        go_wp2_with (go_at_call 99; refine (S _).mono ?_; rintro e w' ⟨rfl, rfl⟩)
        go_ret
        exact ⟨ret_int (by rw [ew.out]), rfl⟩
      · have e : packR 9007199254740992 q = 9218868437227405312 := by unfold packR; omega
        have S := signed_any b 9218868437227405312 (by decide)
        have ew : Hid (wordD b (packR 9007199254740992 q) = wordD b 9218868437227405312) := hide (by rw [e])
        obtain ⟨W, eW⟩ : ∃ W, wordD b 9218868437227405312 = W := ⟨_, rfl⟩
        rw [eW] at S ew
        have hE : decide ((2047 : Int) ≤ (q : Int) - 1074 + 1 + 1075) = true := decide_eq_true (by omega)
        clear eW e
        go_enter Tryz.func100, Tryz.ntmps100
        go_wp2_with (go_at_call 99; refine (S _).mono ?_; rintro e w' ⟨rfl, rfl⟩)
        go_ret
        exact ⟨ret_int (by rw [ew.out]), rfl⟩
    · have hne : ((m : Int) == 9007199254740992) = false := beq_eq_false_iff_ne.2 (by omega)
      have hne2 : (m == 9007199254740992) = false := beq_eq_false_iff_ne.2 (by omega)
      have hlt : decide ((m : Int) < 4503599627370496) = false := decide_eq_false (by omega)
      have hlt2 : decide (m < 4503599627370496) = false := decide_eq_false (by omega)
      have hm53 : m < 9007199254740992 := by omega
      clear h53 hm
      by_cases hi : q + 1 < 2047
      · have e : packR m q = (q + 1) * 4503599627370496 + (m - 4503599627370496) := by unfold packR; omega
        have S := signed_any b ((q + 1) * 4503599627370496 + (m - 4503599627370496)) (by omega)
        have ho := or_fields (q + 1) (m - 4503599627370496) hi (by omega)
        have mk := mask52 m (by omega)
        rw [show m % 4503599627370496 = m - 4503599627370496 by omega] at mk
        have ew : Hid (wordD b (packR m q) = wordD b ((q + 1) * 4503599627370496 + (m - 4503599627370496))) := hide (by rw [e])
        obtain ⟨E, eE⟩ : ∃ E, q + 1 = E := ⟨_, rfl⟩
        have hE : (q : Int) - 1074 + 1075 = (E : Int) := by omega
        obtain ⟨f, ef⟩ : ∃ f, m - 4503599627370496 = f := ⟨_, rfl⟩
        rw [ef] at S ho ew mk
        rw [eE] at S ho ew hi
        obtain ⟨W, eW⟩ : ∃ W, wordD b (E * 4503599627370496 + f) = W := ⟨_, rfl⟩
        rw [eW] at S ew
        obtain ⟨Y, eY⟩ : ∃ Y, E * 4503599627370496 + f = Y := ⟨_, rfl⟩
        rw [eY] at S ho
        have hE2 : decide ((2047 : Int) ≤ (E : Int)) = false := decide_eq_false (by omega)
        have hE3 : decide (2047 ≤ E) = false := decide_eq_false (by omega)
        have hw : IntKind.u64.wrap ((E : Int) * 4503599627370496) = (E : Int) * 4503599627370496 := wraps64 _ (by omega) (by omega)
        obtain ⟨Z, eZ⟩ : ∃ Z : Int, (E : Int) * 4503599627370496 = Z := ⟨_, rfl⟩
        rw [eZ] at ho hw
        clear eE eW e eY ef hq hm53 hb
        go_enter Tryz.func100, Tryz.ntmps100
        go_wp2_with (go_at_call 99; refine (S _).mono ?_; rintro e w' ⟨rfl, rfl⟩)
        go_ret
        exact ⟨ret_int (by rw [ew.out]), rfl⟩
      · have e : packR m q = 9218868437227405312 := by unfold packR; omega
        have S := signed_any b 9218868437227405312 (by decide)
        have ew : Hid (wordD b (packR m q) = wordD b 9218868437227405312) := hide (by rw [e])
        obtain ⟨W, eW⟩ : ∃ W, wordD b 9218868437227405312 = W := ⟨_, rfl⟩
        rw [eW] at S ew
        obtain ⟨E, eE⟩ : ∃ E, q + 1 = E := ⟨_, rfl⟩
        have hE : (q : Int) - 1074 + 1075 = (E : Int) := by omega
        have hE2 : decide ((2047 : Int) ≤ (E : Int)) = true := decide_eq_true (by omega)
        have hE3 : decide (2047 ≤ E) = true := decide_eq_true (by omega)
        clear eW e eE hi
        go_enter Tryz.func100, Tryz.ntmps100
        go_wp2_with (go_at_call 99; refine (S _).mono ?_; rintro e w' ⟨rfl, rfl⟩)
        go_ret
        exact ⟨ret_int (by rw [ew.out]), rfl⟩
end Go.Proofs.YtbengmceiaejeaaGreatDoor
/- The reference's Nearest is the nearest word. -/
namespace Go.Proofs.YtbengmceiaejeaaGreatDoor
open Go.ChangeShapes Go.WideShapes Go.ChangeAt Go.RowKit
open Ieee

/-- The place of the last digit that is kept; the digits that are. -/
def lastP (M : Nat) (P : Int) : Int := max (P + M.log2 - 52) (-1074)
def keptN (M : Nat) (P : Int) : Nat := rndE (M * 2 ^ (P - lastP M P).toNat) (2 ^ (lastP M P - P).toNat)

theorem near_pack {M : Nat} (h : M ≠ 0) (P : Int) : nearR M P = packR (keptN M P) (lastP M P + 1074).toNat := by
  rw [near_form M h, shl_cut]
  rfl

theorem kept_le {M : Nat} (h : M ≠ 0) (P : Int) : keptN M P ≤ 9007199254740992 := by
  unfold keptN
  refine (rndE_between (lo := 0) (Nat.two_pow_pos _) (by omega) ?_).2
  have h1 := log2_hi h
  obtain ⟨l, el⟩ : ∃ l, M.log2 = l := ⟨_, rfl⟩
  have hL : P + (l : Int) - 52 ≤ lastP M P := by unfold lastP; rw [el]; omega
  rw [el] at h1
  obtain ⟨a, ea⟩ : ∃ a, (P - lastP M P).toNat = a := ⟨_, rfl⟩
  obtain ⟨b, eb⟩ : ∃ b, (lastP M P - P).toNat = b := ⟨_, rfl⟩
  rw [ea, eb]
  have hab : l + 1 + a ≤ 53 + b := by omega
  have h2 : (9007199254740992 : Nat) = 2 ^ 53 := by decide
  rw [h2, ← Nat.pow_add]
  have h3 : M * 2 ^ a ≤ 2 ^ (l + 1) * 2 ^ a := Nat.mul_le_mul_right _ (by omega)
  rw [← Nat.pow_add] at h3
  exact Nat.le_trans h3 (Nat.pow_le_pow_right (by decide) hab)

theorem kept_ge {M : Nat} (h : M ≠ 0) (P : Int) (hk : keptN M P < 4503599627370496) : (lastP M P + 1074).toNat = 0 := by
  by_cases hl : lastP M P = -1074
  · rw [hl]; rfl
  · exfalso
    have h1 := log2_lo h
    obtain ⟨l, el⟩ : ∃ l, M.log2 = l := ⟨_, rfl⟩
    have hL : lastP M P = P + (l : Int) - 52 := by unfold lastP at hl ⊢; rw [el] at hl ⊢; omega
    rw [el] at h1
    have : 4503599627370496 ≤ keptN M P := by
      unfold keptN
      refine (rndE_between (hi := M * 2 ^ (P - lastP M P).toNat) (Nat.two_pow_pos _) ?_ (Nat.le_mul_of_pos_right _ (Nat.two_pow_pos _))).1
      obtain ⟨a, ea⟩ : ∃ a, (P - lastP M P).toNat = a := ⟨_, rfl⟩
      obtain ⟨b, eb⟩ : ∃ b, (lastP M P - P).toNat = b := ⟨_, rfl⟩
      rw [ea, eb]
      have h2 : (4503599627370496 : Nat) = 2 ^ 52 := by decide
      rw [h2, ← Nat.pow_add, show 52 + b = l + a by omega, Nat.pow_add]
      exact Nat.mul_le_mul_right _ h1
    omega

/-- The first way: nothing is dropped. -/
theorem kept_up {M : Nat} {P : Int} (h : lastP M P ≤ P - 2) : keptN M P = M * 2 ^ 2 * 2 ^ (P - 2 - lastP M P).toNat := by
  unfold keptN
  have e1 : (lastP M P - P).toNat = 0 := by omega
  have e2 : (P - lastP M P).toNat = 2 + (P - 2 - lastP M P).toNat := by omega
  rw [e1, e2, Nat.pow_zero, Nat.pow_add, ← Nat.mul_assoc]
  unfold rndE
  rw [Nat.div_one, Nat.mod_one]
  simp [moreW]

/-- The second way: four times the number over four times the gap. -/
theorem kept_down {M : Nat} {P : Int} (h : P - 2 < lastP M P) : keptN M P = rndE (M * 2 ^ 2) (2 ^ (lastP M P - (P - 2)).toNat) := by
  unfold keptN
  obtain ⟨a, ea⟩ : ∃ a, (P - lastP M P).toNat = a := ⟨_, rfl⟩
  obtain ⟨b, eb⟩ : ∃ b, (lastP M P - P).toNat = b := ⟨_, rfl⟩
  rw [ea, eb]
  have ha : a ≤ 1 := by omega
  have hc : (lastP M P - (P - 2)).toNat = b + (2 - a) := by omega
  rw [hc, Nat.pow_add, ← rndE_mul (M * 2 ^ a) (2 ^ b) (2 ^ (2 - a)) (Nat.two_pow_pos _), Nat.mul_assoc M, ← Nat.pow_add, show a + (2 - a) = 2 by omega]

theorem blen_four {M : Nat} (h : M ≠ 0) : blen (M * 2 ^ 2) = M.log2 + 3 := by
  unfold blen
  rw [if_neg (Nat.mul_ne_zero h (by decide)), log2_mul_pow h]

theorem box_kept {w w1 : World} {c0 c1 c2 : Value} {t : TypeId} (h : Below (w.alloc (.cells #[c0, c1, c2] t)).heap.size (w.alloc (.cells #[c0, c1, c2] t)) w1) : w1.cell? ⟨w.heap.size, 0, none⟩ = some c0 ∧ w1.cell? ⟨w.heap.size, 2, none⟩ = some c2 ∧ Below w.heap.size w w1 ∧ w.heap.size < w1.heap.size := by
  have hs : w.heap.size < (w.alloc (.cells #[c0, c1, c2] t)).heap.size := by simp
  refine ⟨?_, ?_, ((Below.refl _ _).alloc (Nat.le_refl _) _).trans (h.mono (by omega)), Nat.lt_of_lt_of_le hs h.size⟩
  · rw [h.cell (p := ⟨w.heap.size, 0, none⟩) hs]; simp
  · rw [h.cell (p := ⟨w.heap.size, 2, none⟩) hs]; simp
end Go.Proofs.YtbengmceiaejeaaGreatDoor
