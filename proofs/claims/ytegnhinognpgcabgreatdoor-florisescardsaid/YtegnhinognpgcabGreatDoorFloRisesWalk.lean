/- The walk of the law FloRises: it answers true for every three words. -/
import Derived.Test.YtegnhinognpgcabGreatDoorAw4
import Derived.Test.YtegnhinognpgcabGreatDoorRise
namespace Go.Proofs.YtegnhinognpgcabGreatDoor.floRises
open Go.ChangeShapes Go.WideShapes Go.ChangeAt Go.RowKit
open Ieee

theorem compare_ne (a b : Nat) (h : cmpV a b ≠ 1) (w : World) : Calls Tryz.prog 20 #[.float .f64 a, .float .f64 b] w fun e w' => ∃ s, e = .returned (.int .i64 s) ∧ (s != 1) = true ∧ w' = w :=
  (compare_any a b w).mono fun _ _ ⟨e1, e2⟩ => ⟨_, e1, bne_iff_ne.2 h, e2⟩

theorem res_some {o : Option Nat} {r : Nat} (h : IsRes o r) (n : nanB r = false) : o = some r := by
  rcases h with ⟨e, _⟩ | ⟨_, n', _⟩
  · exact e
  · rw [n] at n'; cases n'

theorem ne_one {o p : Option Nat} {a b : Nat} (ha : IsRes o a) (hb : IsRes p b) (h : ∀ a b, o = some a → p = some b → skey a ≤ skey b) : cmpV a b ≠ 1 := by
  cases na : nanB a
  · cases nb : nanB b
    · have := h a b (res_some ha na) (res_some hb nb)
      unfold cmpV
      rw [na, nb, if_neg (by simp)]
      split
      · omega
      · split <;> omega
    · rw [cmp_nan (Or.inr nb)]; omega
  · rw [cmp_nan (Or.inl na)]; omega

theorem three {u v : Nat} (nu : nanB u = false) (nv : nanB v = false) : (cmpV u v = -1 ∧ skey u ≤ skey v) ∨ (cmpV u v = 0 ∧ skey u ≤ skey v) ∨ (cmpV u v = 1 ∧ skey v ≤ skey u) := by
  unfold cmpV
  rw [nu, nv]
  simp only [Bool.or_false, Bool.false_eq_true, if_false]
  repeat' split
  all_goals omega

theorem self_two {z : Nat} : (nanB z = true ∧ cmpV z z = 2) ∨ (nanB z = false ∧ cmpV z z = 0) := by
  cases n : nanB z
  · right
    refine ⟨rfl, ?_⟩
    unfold cmpV
    rw [n, if_neg (by simp), if_neg (by omega), if_pos rfl]
  · left; exact ⟨rfl, cmp_nan (Or.inl n)⟩

theorem below_zero {z : Nat} (n : nanB z = false) : (cmpV z 0 = -1 ∧ skey z < 0) ∨ ((cmpV z 0 = 0 ∨ cmpV z 0 = 1) ∧ 0 ≤ skey z) := by
  have k : skey 0 = 0 := by decide
  have n0 : nanB 0 = false := by decide
  unfold cmpV
  rw [n, n0, k]
  simp only [Bool.or_false, Bool.false_eq_true, if_false]
  repeat' split
  all_goals omega

set_option maxHeartbeats 4000000 in
theorem walk_nan (x y z : Nat) (w : World) (R : Rdy w) (h : cmpV x y = 2 ∨ cmpV z z = 2) :
    Calls Tryz.prog 7 #[.int .u64 (x : Int), .int .u64 (y : Int), .int .u64 (z : Int)] w fun e w' => e = .returned (.bool true) ∧ Below w.heap.size w w' := by
  obtain ⟨c, ec⟩ : ∃ c, cmpV x y = c := ⟨_, rfl⟩
  obtain ⟨d, ed⟩ : ∃ d, cmpV z z = d := ⟨_, rfl⟩
  rw [ec, ed] at h
  have h' : (c == 2) = true ∨ ((c == 2) = false ∧ (d == 2) = true) := by
    by_cases h1 : c = 2
    · left; simp [h1]
    · right; exact ⟨by simp [h1], by simp; omega⟩
  clear h
  rcases h' with t | ⟨t, t'⟩
  all_goals
    go_enter Tryz.func7, Tryz.ntmps7
    go_wp2_with (first
      | (go_at_call 14; refine (of_any _ _).mono ?_; rintro e w' ⟨rfl, rfl⟩)
      | (go_at_call 12; refine (awake_any _ R).mono ?_; rintro e w' ⟨rfl, b⟩; have acc := b)
      | (go_at_call 20; refine (compare_any _ _ _).mono ?_; rintro e w' ⟨rfl, rfl⟩))
    go_ret
    exact ⟨rfl, acc⟩

set_option maxHeartbeats 8000000 in
theorem walk_real (x y z : Nat) (w : World) (R : Rdy w) (x' y' : Nat) (hc : (cmpV x y = -1 ∧ x' = x ∧ y' = y) ∨ (cmpV x y = 0 ∧ x' = x ∧ y' = y) ∨ (cmpV x y = 1 ∧ x' = y ∧ y' = x)) (hz : cmpV z z = 0)
    (HA : ∀ a b, IsRes (double.add x' z) a → IsRes (double.add y' z) b → cmpV a b ≠ 1)
    (hs : (cmpV z 0 = -1 ∧ ∀ a b, IsRes (double.mul y' z) a → IsRes (double.mul x' z) b → cmpV a b ≠ 1) ∨ ((cmpV z 0 = 0 ∨ cmpV z 0 = 1) ∧ ∀ a b, IsRes (double.mul x' z) a → IsRes (double.mul y' z) b → cmpV a b ≠ 1)) :
    Calls Tryz.prog 7 #[.int .u64 (x : Int), .int .u64 (y : Int), .int .u64 (z : Int)] w fun e w' => e = .returned (.bool true) ∧ Below w.heap.size w w' := by
  rcases hc with ⟨c1, rfl, rfl⟩ | ⟨c1, rfl, rfl⟩ | ⟨c1, rfl, rfl⟩ <;> rcases hs with ⟨c2, HM⟩ | ⟨c2 | c2, HM⟩
  all_goals
    go_enter Tryz.func7, Tryz.ntmps7
    go_wp2_with (first
      | (go_at_call 14; refine (of_any _ _).mono ?_; rintro e w' ⟨rfl, rfl⟩)
      | (go_at_call 23; refine (from_any _ _).mono ?_; rintro e w' ⟨rfl, rfl⟩)
      | (go_at_call 12; refine (awake_any _ R).mono ?_; rintro e w' ⟨rfl, b⟩; have acc := b)
      | (go_at_call 21; refine (add_any _ _ _).mono ?_; rintro e w' ⟨r, rfl, hr, b⟩; replace acc := acc.trans (b.mono acc.size))
      | (go_at_call 22; refine (mul_any _ _ _).mono ?_; rintro e w' ⟨r, rfl, hr, b⟩; replace acc := acc.trans (b.mono acc.size))
      | (go_at_call 20; refine (compare_ne _ _ (HA _ _ (by assumption) (by assumption)) _).mono ?_; rintro e w' ⟨s, rfl, hs, rfl⟩)
      | (go_at_call 20; refine (compare_ne _ _ (HM _ _ (by assumption) (by assumption)) _).mono ?_; rintro e w' ⟨s, rfl, hs, rfl⟩)
      | (go_at_call 20; refine (compare_any _ _ _).mono ?_; rintro e w' ⟨rfl, rfl⟩))
    go_ret
    exact ⟨rfl, acc⟩

theorem walk (x y z : Nat) (_hx : x < 18446744073709551616) (_hy : y < 18446744073709551616) (_hz : z < 18446744073709551616) (w : World) (R : Rdy w) :
    Calls Tryz.prog 7 #[.int .u64 (x : Int), .int .u64 (y : Int), .int .u64 (z : Int)] w fun e w' => e = .returned (.bool true) ∧ Below w.heap.size w w' := by
  cases nx : nanB x
  case true => exact walk_nan x y z w R (Or.inl (cmp_nan (Or.inl nx)))
  cases ny : nanB y
  case true => exact walk_nan x y z w R (Or.inl (cmp_nan (Or.inr ny)))
  rcases @self_two z with ⟨_, h⟩ | ⟨nz, hz⟩
  · exact walk_nan x y z w R (Or.inr h)
  · have zs := below_zero nz
    rcases three nx ny with ⟨h, k⟩ | ⟨h, k⟩ | ⟨h, k⟩
    · refine walk_real x y z w R x y (Or.inl ⟨h, rfl, rfl⟩) hz (fun a b ha hb => ne_one ha hb fun a b => add_mono nx ny nz k) ?_
      rcases zs with ⟨p, q⟩ | ⟨p, q⟩
      · exact Or.inl ⟨p, fun a b ha hb => ne_one ha hb fun a b e1 e2 => mul_anti nx ny nz k q e2 e1⟩
      · exact Or.inr ⟨p, fun a b ha hb => ne_one ha hb fun a b e1 e2 => mul_mono nx ny nz k q e1 e2⟩
    · refine walk_real x y z w R x y (Or.inr (Or.inl ⟨h, rfl, rfl⟩)) hz (fun a b ha hb => ne_one ha hb fun a b => add_mono nx ny nz k) ?_
      rcases zs with ⟨p, q⟩ | ⟨p, q⟩
      · exact Or.inl ⟨p, fun a b ha hb => ne_one ha hb fun a b e1 e2 => mul_anti nx ny nz k q e2 e1⟩
      · exact Or.inr ⟨p, fun a b ha hb => ne_one ha hb fun a b e1 e2 => mul_mono nx ny nz k q e1 e2⟩
    · refine walk_real x y z w R y x (Or.inr (Or.inr ⟨h, rfl, rfl⟩)) hz (fun a b ha hb => ne_one ha hb fun a b => add_mono ny nx nz k) ?_
      rcases zs with ⟨p, q⟩ | ⟨p, q⟩
      · exact Or.inl ⟨p, fun a b ha hb => ne_one ha hb fun a b e1 e2 => mul_anti ny nx nz k q e2 e1⟩
      · exact Or.inr ⟨p, fun a b ha hb => ne_one ha hb fun a b e1 e2 => mul_mono ny nx nz k q e1 e2⟩
end Go.Proofs.YtegnhinognpgcabGreatDoor.floRises
