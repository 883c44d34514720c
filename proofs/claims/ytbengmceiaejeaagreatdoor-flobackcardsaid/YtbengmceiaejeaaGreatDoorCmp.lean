/- How two reals compare: flo.Compare and the reference's, for every two words. -/
import Derived.Test.YtbengmceiaejeaaGreatDoorBits
namespace Go.Proofs.YtbengmceiaejeaaGreatDoor
open Go.ChangeShapes Go.WideShapes Go.ChangeAt Go.RowKit

def zeroB (u : Nat) : Bool := decide (rung u = 0)

theorem rIsInf_any (u : Nat) (hu : u < 18446744073709551616) (w : World) : Calls Tryz.prog 11 #[.int .u64 (u : Int)] w fun e w' => e = .returned (.bool (infB u)) ∧ w' = w := by
  have h := u64_andNot_sign u hu
  have h2 : Hid (decide ((rung u : Int) = 9218868437227405312) = infB u) := by
    refine hide ?_
    unfold infB
    exact decide_eq_decide.2 (by omega)
  go_enter Tryz.func11, Tryz.ntmps11
  go_wp2
  go_ret
  exact ⟨ret_bool h2.out, rfl⟩

theorem cmp_nan {u v : Nat} (h : nanB u = true ∨ nanB v = true) : cmpV u v = 2 := by
  unfold cmpV
  rcases h with h | h <;> simp [h]

theorem cmp_zero {u v : Nat} (nu : nanB u = false) (nv : nanB v = false) (zu : zeroB u = true) (zv : zeroB v = true) : cmpV u v = 0 := by
  have r1 : rung u = 0 := of_decide_eq_true zu
  have r2 : rung v = 0 := of_decide_eq_true zv
  have k1 : skey u = 0 := by unfold skey; rw [r1]; cases sgnB u <;> rfl
  have k2 : skey v = 0 := by unfold skey; rw [r2]; cases sgnB v <;> rfl
  unfold cmpV
  rw [nu, nv, k1, k2]
  rfl

theorem cmp_same {u v : Nat} (nu : nanB u = false) (h : (u : Int) = v) : cmpV u v = 0 := by
  have e : u = v := by omega
  subst e
  unfold cmpV
  rw [nu, if_neg (by simp), if_neg (by omega), if_pos rfl]

theorem cmp_lt {u v : Nat} (nu : nanB u = false) (nv : nanB v = false) (h : skey u < skey v) : cmpV u v = -1 := by
  unfold cmpV
  rw [nu, nv, if_neg (by simp), if_pos h]
theorem cmp_gt {u v : Nat} (nu : nanB u = false) (nv : nanB v = false) (h : skey v < skey u) : cmpV u v = 1 := by
  unfold cmpV
  rw [nu, nv, if_neg (by simp), if_neg (by omega), if_neg (by omega)]

theorem skey_neg {u : Nat} (s : sgnB u = true) : skey u = -(rung u : Int) := by unfold skey; rw [s]; rfl
theorem skey_pos {u : Nat} (s : sgnB u = false) : skey u = (rung u : Int) := by unfold skey; rw [s]; rfl
theorem zero_not {u : Nat} (h : zeroB u = false) : 0 < rung u := by
  have := of_decide_eq_false h
  omega
theorem neg_is {u : Nat} (hu : u < 18446744073709551616) (s : sgnB u = true) : u = 9223372036854775808 + rung u := by
  rcases sgn_cases u hu with ⟨s1, e1, _⟩ | ⟨s1, e1, _⟩
  · exact e1
  · rw [s] at s1; cases s1
theorem pos_is {u : Nat} (hu : u < 18446744073709551616) (s : sgnB u = false) : u = rung u := by
  rcases sgn_cases u hu with ⟨s1, e1, _⟩ | ⟨s1, e1, _⟩
  · rw [s] at s1; cases s1
  · exact e1

theorem nan_rung (u : Nat) : nanB (rung u) = nanB u := by unfold nanB; rw [rung_rung]

theorem gt_max (u : Nat) : (FloatKind.f64.format.order (rung u) 9218868437227405311 == some Ordering.gt) = infB u := by
  have h := order_gt (rung u) 9218868437227405311
  have k1 : skey (rung u) = (rung u : Int) := by rw [skey_pos (sgn_rung u), rung_rung]
  have k2 : skey 9218868437227405311 = 9218868437227405311 := by decide
  have n2 : nanB 9218868437227405311 = false := by decide
  rw [k1, k2, n2, nan_rung] at h
  refine h.trans ?_
  unfold infB nanB
  refine decide_eq_decide.2 ?_
  constructor
  · rintro ⟨h1, _, h3⟩
    have := of_decide_eq_false h1
    omega
  · intro h1
    exact ⟨decide_eq_false (by omega), rfl, by omega⟩

theorem mIsInf_any (u : Nat) (hu : u < 18446744073709551616) (w : World) : Calls Tryz.prog 32 #[.float .f64 u, .int .i64 0] w fun e w' => e = .returned (.bool (infB u)) ∧ w' = w := by
  have h := gt_max u
  go_enter Tryz.func32, Tryz.ntmps32
  go_wp2_with (go_at_call 16; refine (mAbs_any _ hu _).mono ?_; rintro e w' ⟨rfl, rfl⟩)
  go_ret
  exact ⟨rfl, rfl⟩

theorem sign64 (u : Nat) (hu : u < 18446744073709551616) : decide (wrap64 (u : Int) < 0) = sgnB u := by
  rcases sgn_cases u hu with ⟨s, e, r⟩ | ⟨s, e, r⟩
  · rw [s, decide_eq_true_eq]; unfold wrap64; omega
  · rw [s, decide_eq_false_iff_not]; unfold wrap64; omega

theorem mSignbit_any (u : Nat) (hu : u < 18446744073709551616) (w : World) : Calls Tryz.prog 14 #[.float .f64 u] w fun e w' => e = .returned (.bool (sgnB u)) ∧ w' = w := by
  have h1 := x_bits u
  have h2 := hide (sign64 u hu)
  go_enter Tryz.func14, Tryz.ntmps14
  go_wp2
  go_ret
  exact ⟨ret_bool h2.out, rfl⟩
end Go.Proofs.YtbengmceiaejeaaGreatDoor
