/- The reference's rounding, pack and Nearest, is the nearest word. -/
import Derived.Test.YtiglacchpmooeaaGreatDoorBigK
import Derived.Test.YtiglacchpmooeaaGreatDoorMono
import Derived.Test.YtiglacchpmooeaaGreatDoorArith
import Derived.Deep.RegionWith
namespace Go.Proofs.YtiglacchpmooeaaGreatDoor
open Go.ChangeShapes Go.WideShapes Go.ChangeAt Go.RowKit
open Ieee

theorem or_sign (u : Nat) (hu : u < 9223372036854775808) : bits .or .u64 (u : Int) 9223372036854775808 = ((9223372036854775808 + u : Nat) : Int) := by
  have h := u64_or u 9223372036854775808 (by omega) (by decide)
  rw [show ((9223372036854775808 : Nat) : Int) = 9223372036854775808 from rfl] at h
  rw [h]
  have h1 : 2 ^ 63 * 1 + u = 2 ^ 63 * 1 ||| u := Nat.two_pow_add_eq_or_of_lt hu 1
  rw [Nat.mul_one] at h1
  rw [show (9223372036854775808 : Nat) = 2 ^ 63 by decide, Nat.or_comm, ← h1]

theorem signed_any (b : Bool) (u : Nat) (hu : u < 9223372036854775808) (w : World) : Calls Tryz.prog 33 #[.bool b, .int .u64 (u : Int)] w fun e w' => e = .returned (.int .u64 ((wordD b u : Nat) : Int)) ∧ w' = w := by
  have h := or_sign u hu
  cases b
  · have e : Hid (wordD false u = u) := hide rfl
    go_enter Tryz.func33, Tryz.ntmps33
    go_wp2
    go_ret
    exact ⟨ret_int (by rw [e.out]), rfl⟩
  · have e : Hid (wordD true u = 9223372036854775808 + u) := hide rfl
    obtain ⟨X, eX⟩ : ∃ X, 9223372036854775808 + u = X := ⟨_, rfl⟩
    rw [eX] at h e
    clear eX
    go_enter Tryz.func33, Tryz.ntmps33
    go_wp2
    go_ret
    exact ⟨ret_int (by rw [e.out]), rfl⟩

/-- The word of a rounded number: m times 2^(q - 1074). -/
def packR (m q : Nat) : Nat := min (q * 4503599627370496 + m) 9218868437227405312

theorem or_fields (e m : Nat) (he : e < 2047) (hm : m < 4503599627370496) : bits .or .u64 ((e : Int) * 4503599627370496) (m : Int) = ((e * 4503599627370496 + m : Nat) : Int) := by
  have h := u64_or (e * 4503599627370496) m (by omega) (by omega)
  rw [show ((e * 4503599627370496 : Nat) : Int) = (e : Int) * 4503599627370496 by simp] at h
  rw [h]
  have h1 : 2 ^ 52 * e + m = 2 ^ 52 * e ||| m := Nat.two_pow_add_eq_or_of_lt hm e
  congr 1
  rw [show e * 4503599627370496 = 2 ^ 52 * e by omega, ← h1]

theorem mask52 (a : Nat) (ha : a < 18446744073709551616) : bits .and .u64 (a : Int) 4503599627370495 = ((a % 4503599627370496 : Nat) : Int) := by
  have h := u64_and a 4503599627370495 ha (by decide)
  rw [show ((4503599627370495 : Nat) : Int) = 4503599627370495 from rfl] at h
  rw [h, show (4503599627370495 : Nat) = 2 ^ 52 - 1 by decide, Nat.and_two_pow_sub_one_eq_mod]

theorem or_fields0 (e : Nat) (he : e < 2047) : bits .or .u64 ((e : Int) * 4503599627370496) 0 = ((e * 4503599627370496 : Nat) : Int) := by
  have h := or_fields e 0 he (by omega)
  simpa using h

set_option maxHeartbeats 4000000 in
set_option maxRecDepth 100000 in
theorem pack_any (b : Bool) (m q : Nat) (w : World) (hm : m ≤ 9007199254740992) (hq : q ≤ 60000) (h0 : m < 4503599627370496 → q = 0) : Calls Tryz.prog 48 #[.bool b, .int .u64 (m : Int), .int .i64 ((q : Int) - 1074)] w fun e w' => e = .returned (.int .u64 ((wordD b (packR m q) : Nat) : Int)) ∧ w' = w := by
  rcases Nat.lt_or_ge m 4503599627370496 with hs | hb
  · have hq0 := h0 hs
    subst hq0
    have e : Hid (packR m 0 = m) := hide (by unfold packR; omega)
    have hne : ((m : Int) == 9007199254740992) = false := beq_eq_false_iff_ne.2 (by omega)
    have hne2 : (m == 9007199254740992) = false := beq_eq_false_iff_ne.2 (by omega)
    have hlt : decide ((m : Int) < 4503599627370496) = true := decide_eq_true (by omega)
    have hlt2 : decide (m < 4503599627370496) = true := decide_eq_true hs
    have S := signed_any b m (by omega)
    have ew : Hid (wordD b (packR m 0) = wordD b m) := hide (by rw [e.out])
    obtain ⟨W, eW⟩ : ∃ W, wordD b m = W := ⟨_, rfl⟩
    rw [eW] at S ew
    clear eW
    go_enter Tryz.func48, Tryz.ntmps48
    go_wp2_with (go_at_call 33; refine (S _).mono ?_; rintro e w' ⟨rfl, rfl⟩)
    go_ret
    exact ⟨ret_int (by rw [ew.out]), rfl⟩
  · clear h0
    by_cases h53 : m = 9007199254740992
    · subst h53
      by_cases hi : q + 2 < 2047
      · have e : packR 9007199254740992 q = (q + 2) * 4503599627370496 := by unfold packR; omega
        have S := signed_any b ((q + 2) * 4503599627370496) (by omega)
        have ho := or_fields0 (q + 2) hi
        have mk : bits .and .u64 4503599627370496 4503599627370495 = 0 := by decide
        have ew : Hid (wordD b (packR 9007199254740992 q) = wordD b ((q + 2) * 4503599627370496)) := hide (by rw [e])
        obtain ⟨E, eE⟩ : ∃ E, q + 2 = E := ⟨_, rfl⟩
        have hE : (q : Int) - 1074 + 1 + 1075 = (E : Int) := by omega
        rw [eE] at S ho ew hi
        obtain ⟨W, eW⟩ : ∃ W, wordD b (E * 4503599627370496) = W := ⟨_, rfl⟩
        rw [eW] at S ew
        obtain ⟨Y, eY⟩ : ∃ Y, E * 4503599627370496 = Y := ⟨_, rfl⟩
        rw [eY] at S ho
        have hw : IntKind.u64.wrap ((E : Int) * 4503599627370496) = (E : Int) * 4503599627370496 := wraps64 _ (by omega) (by omega)
        clear eE eW e eY
        go_enter Tryz.func48, Tryz.ntmps48
        go_wp2_with (go_at_call 33; refine (S _).mono ?_; rintro e w' ⟨rfl, rfl⟩)
        go_ret
        exact ⟨ret_int (by rw [ew.out]), rfl⟩
      · have e : packR 9007199254740992 q = 9218868437227405312 := by unfold packR; omega
        have S := signed_any b 9218868437227405312 (by decide)
        have ew : Hid (wordD b (packR 9007199254740992 q) = wordD b 9218868437227405312) := hide (by rw [e])
        obtain ⟨W, eW⟩ : ∃ W, wordD b 9218868437227405312 = W := ⟨_, rfl⟩
        rw [eW] at S ew
        have hE : decide ((2047 : Int) ≤ (q : Int) - 1074 + 1 + 1075) = true := decide_eq_true (by omega)
        clear eW e
        go_enter Tryz.func48, Tryz.ntmps48
        go_wp2_with (go_at_call 33; refine (S _).mono ?_; rintro e w' ⟨rfl, rfl⟩)
        go_ret
        exact ⟨ret_int (by rw [ew.out]), rfl⟩
    · have hne : ((m : Int) == 9007199254740992) = false := beq_eq_false_iff_ne.2 (by omega)
      have hne2 : (m == 9007199254740992) = false := beq_eq_false_iff_ne.2 (by omega)
      have hlt : decide ((m : Int) < 4503599627370496) = false := decide_eq_false (by omega)
      have hlt2 : decide (m < 4503599627370496) = false := decide_eq_false (by omega)
      have hm53 : m < 9007199254740992 := by omega
      clear h53 hm
      by_cases hi : q + 1 < 2047
      · have e : packR m q = (q + 1) * 4503599627370496 + (m - 4503599627370496) := by unfold packR; omega
        have S := signed_any b ((q + 1) * 4503599627370496 + (m - 4503599627370496)) (by omega)
        have ho := or_fields (q + 1) (m - 4503599627370496) hi (by omega)
        have mk := mask52 m (by omega)
        rw [show m % 4503599627370496 = m - 4503599627370496 by omega] at mk
        have ew : Hid (wordD b (packR m q) = wordD b ((q + 1) * 4503599627370496 + (m - 4503599627370496))) := hide (by rw [e])
        obtain ⟨E, eE⟩ : ∃ E, q + 1 = E := ⟨_, rfl⟩
        have hE : (q : Int) - 1074 + 1075 = (E : Int) := by omega
        obtain ⟨f, ef⟩ : ∃ f, m - 4503599627370496 = f := ⟨_, rfl⟩
        rw [ef] at S ho ew mk
        rw [eE] at S ho ew hi
        obtain ⟨W, eW⟩ : ∃ W, wordD b (E * 4503599627370496 + f) = W := ⟨_, rfl⟩
        rw [eW] at S ew
        obtain ⟨Y, eY⟩ : ∃ Y, E * 4503599627370496 + f = Y := ⟨_, rfl⟩
        rw [eY] at S ho
        have hE2 : decide ((2047 : Int) ≤ (E : Int)) = false := decide_eq_false (by omega)
        have hE3 : decide (2047 ≤ E) = false := decide_eq_false (by omega)
        have hw : IntKind.u64.wrap ((E : Int) * 4503599627370496) = (E : Int) * 4503599627370496 := wraps64 _ (by omega) (by omega)
        obtain ⟨Z, eZ⟩ : ∃ Z : Int, (E : Int) * 4503599627370496 = Z := ⟨_, rfl⟩
        rw [eZ] at ho hw
        clear eE eW e eY ef hq hm53 hb
        go_enter Tryz.func48, Tryz.ntmps48
        go_wp2_with (go_at_call 33; refine (S _).mono ?_; rintro e w' ⟨rfl, rfl⟩)
        go_ret
        exact ⟨ret_int (by rw [ew.out]), rfl⟩
      · have e : packR m q = 9218868437227405312 := by unfold packR; omega
        have S := signed_any b 9218868437227405312 (by decide)
        have ew : Hid (wordD b (packR m q) = wordD b 9218868437227405312) := hide (by rw [e])
        obtain ⟨W, eW⟩ : ∃ W, wordD b 9218868437227405312 = W := ⟨_, rfl⟩
        rw [eW] at S ew
        obtain ⟨E, eE⟩ : ∃ E, q + 1 = E := ⟨_, rfl⟩
        have hE : (q : Int) - 1074 + 1075 = (E : Int) := by omega
        have hE2 : decide ((2047 : Int) ≤ (E : Int)) = true := decide_eq_true (by omega)
        have hE3 : decide (2047 ≤ E) = true := decide_eq_true (by omega)
        clear eW e eE hi
        go_enter Tryz.func48, Tryz.ntmps48
        go_wp2_with (go_at_call 33; refine (S _).mono ?_; rintro e w' ⟨rfl, rfl⟩)
        go_ret
        exact ⟨ret_int (by rw [ew.out]), rfl⟩
end Go.Proofs.YtiglacchpmooeaaGreatDoor
