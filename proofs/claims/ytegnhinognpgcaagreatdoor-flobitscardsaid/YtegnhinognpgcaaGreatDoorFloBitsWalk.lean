/- The walk of the law FloBits: it answers true for every word. -/
import Derived.Test.YtegnhinognpgcaaGreatDoorReal
namespace Go.Proofs.YtegnhinognpgcaaGreatDoor.floBits
open Go.ChangeShapes Go.WideShapes Go.ChangeAt Go.RowKit
open Ieee

theorem rClass_any (u : Nat) (hu : u < 18446744073709551616) (w : World) : Calls Tryz.prog 17 #[.int .u64 (u : Int)] w fun e w' => e = .returned (.int .i64 (classV u)) ∧ w' = w := by
  have a := u64_andNot_sign u hu
  have d : decide ((rung u : Int) < 4503599627370496) = decide (rung u < 4503599627370496) := decide_eq_decide.2 (by omega)
  cases n : nanB u
  · cases i : infB u
    · cases z : zeroB u
      · by_cases l : rung u < 4503599627370496
        · have hc : Hid (classV u = 3) := by refine hide ?_; unfold classV; rw [n, i, z, if_neg (by simp), if_neg (by simp), if_neg (by simp), if_pos l]
          go_enter Tryz.func17, Tryz.ntmps17
          go_wp2_with (first
            | (go_at_call 10; refine (rIsNaN_any _ hu _).mono ?_; rintro e w' ⟨rfl, rfl⟩)
            | (go_at_call 15; refine (rIsInf_any _ hu _).mono ?_; rintro e w' ⟨rfl, rfl⟩)
            | (go_at_call 45; refine (rIsZero_any _ hu _).mono ?_; rintro e w' ⟨rfl, rfl⟩))
          go_ret
          exact ⟨ret_int hc.out.symm, rfl⟩
        · have hc : Hid (classV u = 4) := by refine hide ?_; unfold classV; rw [n, i, z, if_neg (by simp), if_neg (by simp), if_neg (by simp), if_neg l]
          go_enter Tryz.func17, Tryz.ntmps17
          go_wp2_with (first
            | (go_at_call 10; refine (rIsNaN_any _ hu _).mono ?_; rintro e w' ⟨rfl, rfl⟩)
            | (go_at_call 15; refine (rIsInf_any _ hu _).mono ?_; rintro e w' ⟨rfl, rfl⟩)
            | (go_at_call 45; refine (rIsZero_any _ hu _).mono ?_; rintro e w' ⟨rfl, rfl⟩))
          go_ret
          exact ⟨ret_int hc.out.symm, rfl⟩
      · have hc : Hid (classV u = 2) := by refine hide ?_; unfold classV; rw [n, i, z, if_neg (by simp), if_neg (by simp), if_pos rfl]
        go_enter Tryz.func17, Tryz.ntmps17
        go_wp2_with (first
          | (go_at_call 10; refine (rIsNaN_any _ hu _).mono ?_; rintro e w' ⟨rfl, rfl⟩)
          | (go_at_call 15; refine (rIsInf_any _ hu _).mono ?_; rintro e w' ⟨rfl, rfl⟩)
          | (go_at_call 45; refine (rIsZero_any _ hu _).mono ?_; rintro e w' ⟨rfl, rfl⟩))
        go_ret
        exact ⟨ret_int hc.out.symm, rfl⟩
    · have hc : Hid (classV u = 1) := by refine hide ?_; unfold classV; rw [n, i, if_neg (by simp), if_pos rfl]
      go_enter Tryz.func17, Tryz.ntmps17
      go_wp2_with (first
        | (go_at_call 10; refine (rIsNaN_any _ hu _).mono ?_; rintro e w' ⟨rfl, rfl⟩)
        | (go_at_call 15; refine (rIsInf_any _ hu _).mono ?_; rintro e w' ⟨rfl, rfl⟩))
      go_ret
      exact ⟨ret_int hc.out.symm, rfl⟩
  · have hc : Hid (classV u = 0) := by refine hide ?_; unfold classV; rw [n, if_pos rfl]
    go_enter Tryz.func17, Tryz.ntmps17
    go_wp2_with (go_at_call 10; refine (rIsNaN_any _ hu _).mono ?_; rintro e w' ⟨rfl, rfl⟩)
    go_ret
    exact ⟨ret_int hc.out.symm, rfl⟩

theorem sh63 (u : Nat) (hu : u < 18446744073709551616) : ((u : Int) / 9223372036854775808 = if sgnB u then 1 else 0) := by
  rcases sgn_cases u hu with ⟨s, e, r⟩ | ⟨s, e, r⟩ <;> rw [s] <;> simp <;> omega

theorem eq_self {u : Nat} (n : nanB u = false) : (FloatKind.f64.format.order u u == some Ordering.eq) = true := by
  refine (order_eqB u u).trans ?_
  rw [n]; simp

set_option maxHeartbeats 4000000 in
theorem walk (u : Nat) (hu : u < 18446744073709551616) (w : World) (R : Rdy w) :
    Calls Tryz.prog 3 #[.int .u64 (u : Int)] w fun e w' => e = .returned (.bool true) ∧ Below w.heap.size w w' := by
  have q := sh63 u hu
  rcases Nat.lt_trichotomy (rung u) 9218868437227405312 with hf | hi | hn
  · have n : nanB u = false := decide_eq_false (by omega)
    have i : infB u = false := decide_eq_false (by omega)
    have c : canon u = u := by unfold canon; rw [n]; rfl
    have e1 := eq_self n
    cases z : zeroB u
    · have e2 : (FloatKind.f64.format.order u 0 != some Ordering.eq) = true := by
        have h := order_eqB u 0
        have k : skey 0 = 0 := by decide
        have z' := zero_not z
        have ku : skey u ≠ 0 := by unfold skey; split <;> omega
        rw [k] at h
        show (!(FloatKind.f64.format.order u 0 == some Ordering.eq)) = true
        rw [show (FloatKind.f64.format.order u 0 == some Ordering.eq) = decide (nanB u = false ∧ nanB 0 = false ∧ skey u = 0) from h]
        simp [ku]
      have HF := hide hf
      clear z i q
      have i : infB u = false := decide_eq_false (by have := HF.out; omega)
      have hf := HF
      go_enter Tryz.func3, Tryz.ntmps3
      go_wp2_with (first
      | (go_at_call 9; refine (from_any _ _).mono ?_; rintro e w' ⟨rfl, rfl⟩)
      | (go_at_call 10; refine (rIsNaN_any _ hu _).mono ?_; rintro e w' ⟨rfl, rfl⟩)
      | (go_at_call 15; refine (rIsInf_any _ hu _).mono ?_; rintro e w' ⟨rfl, rfl⟩)
      | (go_at_call 11; refine (bits_any _ _).mono ?_; rintro e w' ⟨rfl, rfl⟩)
      | (go_at_call 12; refine (canon_any _ hu _).mono ?_; rintro e w' ⟨rfl, rfl⟩)
      | (go_at_call 13; refine (class_any _ hu _).mono ?_; rintro e w' ⟨rfl, rfl⟩)
      | (go_at_call 17; refine (rClass_any _ hu _).mono ?_; rintro e w' ⟨rfl, rfl⟩)
      | (go_at_call 16; refine (real_any _ hu HF.out _).mono ?_; rintro e w' ⟨rfl, rfl⟩)
      | (go_at_call 14; refine (awake_any _ R).mono ?_; rintro e w1 ⟨rfl, b1⟩))
      go_ret
      exact ⟨rfl, b1⟩
    · have zr : rung u = 0 := of_decide_eq_true z
      have HF := hide hf
      have e2 : (FloatKind.f64.format.order u 0 != some Ordering.eq) = false := by
        have h := order_eqB u 0
        have k : skey 0 = 0 := by decide
        have ku : skey u = 0 := by unfold skey; rw [zr]; split <;> rfl
        have n0 : nanB 0 = false := by decide
        rw [k, ku, n, n0] at h
        show (!(FloatKind.f64.format.order u 0 == some Ordering.eq)) = false
        rw [show (FloatKind.f64.format.order u 0 == some Ordering.eq) = _ from h]
        simp
      rcases sgn_cases u hu with ⟨s, e, _⟩ | ⟨s, e, _⟩
      · have eu : u = 9223372036854775808 := by omega
        have hd : ∀ (t : TypeId) (w : World), (binOp .quo t (.float .f64 4607182418800017408) (.float .f64 u)).run Tryz.prog w = .ok (.float .f64 18442240474082181120) w := fun t w => run_float_arith w .quo t .f64 _ _ _ (by rw [eu]; decide +kernel)
        have hl : (FloatKind.f64.format.order 18442240474082181120 0 == some Ordering.lt) = true := by decide +kernel
        rw [s, if_pos rfl] at q
        clear z zr e eu
        go_enter Tryz.func3, Tryz.ntmps3
        go_wp2_with (first
      | (go_at_call 9; refine (from_any _ _).mono ?_; rintro e w' ⟨rfl, rfl⟩)
      | (go_at_call 10; refine (rIsNaN_any _ hu _).mono ?_; rintro e w' ⟨rfl, rfl⟩)
      | (go_at_call 15; refine (rIsInf_any _ hu _).mono ?_; rintro e w' ⟨rfl, rfl⟩)
      | (go_at_call 11; refine (bits_any _ _).mono ?_; rintro e w' ⟨rfl, rfl⟩)
      | (go_at_call 12; refine (canon_any _ hu _).mono ?_; rintro e w' ⟨rfl, rfl⟩)
      | (go_at_call 13; refine (class_any _ hu _).mono ?_; rintro e w' ⟨rfl, rfl⟩)
      | (go_at_call 17; refine (rClass_any _ hu _).mono ?_; rintro e w' ⟨rfl, rfl⟩)
      | (go_at_call 16; refine (real_any _ hu HF.out _).mono ?_; rintro e w' ⟨rfl, rfl⟩)
      | (go_at_call 14; refine (awake_any _ R).mono ?_; rintro e w1 ⟨rfl, b1⟩))
        go_ret
        exact ⟨rfl, b1⟩
      · have eu : u = 0 := by omega
        have hd : ∀ (t : TypeId) (w : World), (binOp .quo t (.float .f64 4607182418800017408) (.float .f64 u)).run Tryz.prog w = .ok (.float .f64 9218868437227405312) w := fun t w => run_float_arith w .quo t .f64 _ _ _ (by rw [eu]; decide +kernel)
        have hl : (FloatKind.f64.format.order 9218868437227405312 0 == some Ordering.lt) = false := by decide +kernel
        rw [s, if_neg (by simp)] at q
        clear z zr e eu
        go_enter Tryz.func3, Tryz.ntmps3
        go_wp2_with (first
      | (go_at_call 9; refine (from_any _ _).mono ?_; rintro e w' ⟨rfl, rfl⟩)
      | (go_at_call 10; refine (rIsNaN_any _ hu _).mono ?_; rintro e w' ⟨rfl, rfl⟩)
      | (go_at_call 15; refine (rIsInf_any _ hu _).mono ?_; rintro e w' ⟨rfl, rfl⟩)
      | (go_at_call 11; refine (bits_any _ _).mono ?_; rintro e w' ⟨rfl, rfl⟩)
      | (go_at_call 12; refine (canon_any _ hu _).mono ?_; rintro e w' ⟨rfl, rfl⟩)
      | (go_at_call 13; refine (class_any _ hu _).mono ?_; rintro e w' ⟨rfl, rfl⟩)
      | (go_at_call 17; refine (rClass_any _ hu _).mono ?_; rintro e w' ⟨rfl, rfl⟩)
      | (go_at_call 16; refine (real_any _ hu HF.out _).mono ?_; rintro e w' ⟨rfl, rfl⟩)
      | (go_at_call 14; refine (awake_any _ R).mono ?_; rintro e w1 ⟨rfl, b1⟩))
        go_ret
        exact ⟨rfl, b1⟩
  · have n : nanB u = false := decide_eq_false (by omega)
    have i : infB u = true := decide_eq_true hi
    have c : canon u = u := by unfold canon; rw [n]; rfl
    have e1 := eq_self n
    have cl : classV u = 1 := by unfold classV; rw [n, i]; rfl
    rcases sgn_cases u hu with ⟨s, e, _⟩ | ⟨s, e, _⟩
    · have eu : u = 18442240474082181120 := by omega
      have hd : ∀ (t : TypeId) (w : World), (binOp .mul t (.float .f64 u) (.float .f64 4611686018427387904)).run Tryz.prog w = .ok (.float .f64 u) w := fun t w => run_float_arith w .mul t .f64 _ _ _ (by rw [eu]; decide +kernel)
      have hl : (FloatKind.f64.format.order u 9214871658872686752 == some Ordering.gt) = false := by rw [eu]; decide +kernel
      rw [s, if_pos rfl] at q
      clear e eu hi
      go_enter Tryz.func3, Tryz.ntmps3
      go_wp2_with (first
      | (go_at_call 9; refine (from_any _ _).mono ?_; rintro e w' ⟨rfl, rfl⟩)
      | (go_at_call 10; refine (rIsNaN_any _ hu _).mono ?_; rintro e w' ⟨rfl, rfl⟩)
      | (go_at_call 15; refine (rIsInf_any _ hu _).mono ?_; rintro e w' ⟨rfl, rfl⟩)
      | (go_at_call 11; refine (bits_any _ _).mono ?_; rintro e w' ⟨rfl, rfl⟩)
      | (go_at_call 12; refine (canon_any _ hu _).mono ?_; rintro e w' ⟨rfl, rfl⟩)
      | (go_at_call 13; refine (class_any _ hu _).mono ?_; rintro e w' ⟨rfl, rfl⟩)
      | (go_at_call 17; refine (rClass_any _ hu _).mono ?_; rintro e w' ⟨rfl, rfl⟩)
      | (go_at_call 14; refine (awake_any _ R).mono ?_; rintro e w1 ⟨rfl, b1⟩))
      go_ret
      exact ⟨rfl, b1⟩
    · have eu : u = 9218868437227405312 := by omega
      have hd : ∀ (t : TypeId) (w : World), (binOp .mul t (.float .f64 u) (.float .f64 4611686018427387904)).run Tryz.prog w = .ok (.float .f64 u) w := fun t w => run_float_arith w .mul t .f64 _ _ _ (by rw [eu]; decide +kernel)
      have hl : (FloatKind.f64.format.order u 9214871658872686752 == some Ordering.gt) = true := by rw [eu]; decide +kernel
      rw [s, if_neg (by simp)] at q
      clear e eu hi
      go_enter Tryz.func3, Tryz.ntmps3
      go_wp2_with (first
      | (go_at_call 9; refine (from_any _ _).mono ?_; rintro e w' ⟨rfl, rfl⟩)
      | (go_at_call 10; refine (rIsNaN_any _ hu _).mono ?_; rintro e w' ⟨rfl, rfl⟩)
      | (go_at_call 15; refine (rIsInf_any _ hu _).mono ?_; rintro e w' ⟨rfl, rfl⟩)
      | (go_at_call 11; refine (bits_any _ _).mono ?_; rintro e w' ⟨rfl, rfl⟩)
      | (go_at_call 12; refine (canon_any _ hu _).mono ?_; rintro e w' ⟨rfl, rfl⟩)
      | (go_at_call 13; refine (class_any _ hu _).mono ?_; rintro e w' ⟨rfl, rfl⟩)
      | (go_at_call 17; refine (rClass_any _ hu _).mono ?_; rintro e w' ⟨rfl, rfl⟩)
      | (go_at_call 14; refine (awake_any _ R).mono ?_; rintro e w1 ⟨rfl, b1⟩))
      go_ret
      exact ⟨rfl, b1⟩
  · have n : nanB u = true := decide_eq_true hn
    have cl : classV u = 0 := by unfold classV; rw [n]; rfl
    have e1 : (FloatKind.f64.format.order u u != some Ordering.eq) = true := (order_self u).trans n
    clear hn q
    go_enter Tryz.func3, Tryz.ntmps3
    go_wp2_with (first
      | (go_at_call 9; refine (from_any _ _).mono ?_; rintro e w' ⟨rfl, rfl⟩)
      | (go_at_call 10; refine (rIsNaN_any _ hu _).mono ?_; rintro e w' ⟨rfl, rfl⟩)
      | (go_at_call 15; refine (rIsInf_any _ hu _).mono ?_; rintro e w' ⟨rfl, rfl⟩)
      | (go_at_call 11; refine (bits_any _ _).mono ?_; rintro e w' ⟨rfl, rfl⟩)
      | (go_at_call 12; refine (canon_any _ hu _).mono ?_; rintro e w' ⟨rfl, rfl⟩)
      | (go_at_call 13; refine (class_any _ hu _).mono ?_; rintro e w' ⟨rfl, rfl⟩)
      | (go_at_call 17; refine (rClass_any _ hu _).mono ?_; rintro e w' ⟨rfl, rfl⟩)
      | (go_at_call 14; refine (awake_any _ R).mono ?_; rintro e w1 ⟨rfl, b1⟩))
    go_ret
    exact ⟨rfl, b1⟩
end Go.Proofs.YtegnhinognpgcaaGreatDoor.floBits
