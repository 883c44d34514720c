/- What the small functions on bits answer, for every argument. -/
import Derived.Test.YtbengmceiaejeaaGreatDoorProg
import Derived.Test.YtbengmceiaejeaaGreatDoorNum
import Derived.WalkKit
import Derived.ProofKit
import Derived.OpenShut
import Derived.WalkLawsBesides
import Derived.Below
import Derived.Laws.Externs
import Derived.KernelRfl
namespace Go.Proofs.YtbengmceiaejeaaGreatDoor
open Go.ChangeShapes Go.WideShapes Go.ChangeAt Go.RowKit

theorem hide {p : Prop} (h : p) : Hid p := h
theorem ret_bool {a b : Bool} (h : a = b) : Ending.returned (.bool a) = .returned (.bool b) := by rw [h]
theorem ret_int {k : IntKind} {a b : Int} (h : a = b) : Ending.returned (.int k a) = .returned (.int k b) := by rw [h]
theorem ret_float {a b : Nat} (h : a = b) : Ending.returned (.float .f64 a) = .returned (.float .f64 b) := by rw [h]
theorem ret_two {k j : IntKind} {a b c d : Int} (h : a = b) (g : c = d) : Ending.returned (.tuple #[.int k a, .int j c]) = .returned (.tuple #[.int k b, .int j d]) := by rw [h, g]

theorem x_frombits (u : Int) (w : World) : (callFunc 38 #[.int .u64 u]).run Tryz.prog w = .ok (.value (.float .f64 u.toNat)) w := by
  rw [run_callFunc_extern (e := Extern.MathFloatBits.float64frombits) Tryz.func38 (by kernel_rfl) (by kernel_rfl) (by kernel_rfl) (by kernel_rfl)]
  rfl

theorem x_bits (u : Nat) (w : World) : (callFunc 33 #[.float .f64 u]).run Tryz.prog w = .ok (.value (.int .u64 u)) w := by
  rw [run_callFunc_extern (e := Extern.MathFloatBits.float64bits) Tryz.func33 (by kernel_rfl) (by kernel_rfl) (by kernel_rfl) (by kernel_rfl)]
  rfl

theorem mIsNaN_any (u : Nat) (w : World) : Calls Tryz.prog 31 #[.float .f64 u] w fun e w' => e = .returned (.bool (nanB u)) ∧ w' = w := by
  have h : Hid ((FloatKind.f64.format.order u u != some Ordering.eq) = nanB u) := order_self u
  go_enter Tryz.func31, Tryz.ntmps31
  go_wp2
  go_ret
  exact ⟨ret_bool h.out, rfl⟩

theorem rIsNaN_any (u : Nat) (hu : u < 18446744073709551616) (w : World) : Calls Tryz.prog 10 #[.int .u64 (u : Int)] w fun e w' => e = .returned (.bool (nanB u)) ∧ w' = w := by
  have h := u64_andNot_sign u hu
  have h2 : Hid (decide ((9218868437227405312 : Int) < (rung u : Int)) = nanB u) := by
    refine hide ?_
    unfold nanB
    exact decide_eq_decide.2 (by omega)
  go_enter Tryz.func10, Tryz.ntmps10
  go_wp2
  go_ret
  exact ⟨ret_bool h2.out, rfl⟩

theorem from_any (u : Nat) (w : World) : Calls Tryz.prog 20 #[.int .u64 (u : Int)] w fun e w' => e = .returned (.float .f64 u) ∧ w' = w := by
  have h := x_frombits (u : Int)
  go_enter Tryz.func20, Tryz.ntmps20
  go_wp2
  go_ret
  exact ⟨rfl, rfl⟩

theorem bits_any (u : Nat) (w : World) : Calls Tryz.prog 25 #[.float .f64 u] w fun e w' => e = .returned (.int .u64 (canon u : Int)) ∧ w' = w := by
  have h := x_bits u
  cases hn : nanB u
  · have hc : Hid (canon u = u) := by refine hide ?_; simp [canon, hn]
    go_enter Tryz.func25, Tryz.ntmps25
    go_wp2_with (go_at_call 31; refine (mIsNaN_any _ _).mono ?_; rintro e w' ⟨rfl, rfl⟩)
    go_ret
    exact ⟨by rw [hc.out]; rfl, rfl⟩
  · have hc : Hid (canon u = 9221120237041090560) := by refine hide ?_; simp [canon, hn]
    go_enter Tryz.func25, Tryz.ntmps25
    go_wp2_with (go_at_call 31; refine (mIsNaN_any _ _).mono ?_; rintro e w' ⟨rfl, rfl⟩)
    go_ret
    exact ⟨by rw [hc.out]; rfl, rfl⟩

theorem canon_any (u : Nat) (hu : u < 18446744073709551616) (w : World) : Calls Tryz.prog 30 #[.int .u64 (u : Int)] w fun e w' => e = .returned (.int .u64 (canon u : Int)) ∧ w' = w := by
  cases hn : nanB u
  · have hc : Hid (canon u = u) := by refine hide ?_; simp [canon, hn]
    go_enter Tryz.func30, Tryz.ntmps30
    go_wp2_with (go_at_call 10; refine (rIsNaN_any _ hu _).mono ?_; rintro e w' ⟨rfl, rfl⟩)
    go_ret
    exact ⟨by rw [hc.out]; rfl, rfl⟩
  · have hc : Hid (canon u = 9221120237041090560) := by refine hide ?_; simp [canon, hn]
    go_enter Tryz.func30, Tryz.ntmps30
    go_wp2_with (go_at_call 10; refine (rIsNaN_any _ hu _).mono ?_; rintro e w' ⟨rfl, rfl⟩)
    go_ret
    exact ⟨by rw [hc.out]; rfl, rfl⟩

theorem of_any (u : Nat) (w : World) : Calls Tryz.prog 6 #[.int .u64 (u : Int)] w fun e w' => e = .returned (.float .f64 u) ∧ w' = w := by
  go_enter Tryz.func6, Tryz.ntmps6
  go_wp2_with (go_at_call 20; refine (from_any _ _).mono ?_; rintro e w' ⟨rfl, rfl⟩)
  go_ret
  exact ⟨rfl, rfl⟩

theorem is_any (x u : Nat) (hu : u < 18446744073709551616) (w : World) : Calls Tryz.prog 12 #[.float .f64 x, .int .u64 (u : Int)] w fun e w' => e = .returned (.bool (decide (canon x = canon u))) ∧ w' = w := by
  have h : Hid (decide ((canon x : Int) = (canon u : Int)) = decide (canon x = canon u)) := by
    refine hide (decide_eq_decide.2 (by omega))
  go_enter Tryz.func12, Tryz.ntmps12
  go_wp2_with (first | (go_at_call 25; refine (bits_any _ _).mono ?_; rintro e w' ⟨rfl, rfl⟩) | (go_at_call 30; refine (canon_any _ hu _).mono ?_; rintro e w' ⟨rfl, rfl⟩))
  go_ret
  exact ⟨ret_bool h.out, rfl⟩

theorem mAbs_any (u : Nat) (hu : u < 18446744073709551616) (w : World) : Calls Tryz.prog 16 #[.float .f64 u] w fun e w' => e = .returned (.float .f64 (rung u)) ∧ w' = w := by
  have h := x_bits u
  have h2 := u64_andNot_sign u hu
  have h3 := x_frombits (rung u : Int)
  go_enter Tryz.func16, Tryz.ntmps16
  go_wp2
  go_ret
  exact ⟨rfl, rfl⟩

theorem unOp_negf (u : Nat) (hu : u < 18446744073709551616) : Op.unary .neg (.float .f64 u) = pure (.float .f64 (flip u)) := by
  have h : Op.negFloat .f64 u = flip u := xor_sign u hu
  rw [← h]
  rfl
end Go.Proofs.YtbengmceiaejeaaGreatDoor
