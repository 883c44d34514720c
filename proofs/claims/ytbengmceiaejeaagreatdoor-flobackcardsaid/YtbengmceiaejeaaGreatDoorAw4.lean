/- The closed call, last part: 'awake' answers true in every world whose tables are the library's, and writes nothing that was there. -/
import Derived.Test.YtbengmceiaejeaaGreatDoorAw3
import Derived.Test.YtbengmceiaejeaaGreatDoorCmp
namespace Go.Proofs.YtbengmceiaejeaaGreatDoor
open Go.ChangeShapes Go.WideShapes Go.ChangeAt Go.RowKit

theorem c_class (w : World) : Calls Tryz.prog 13 #[.float .f64 4599075939470750516] w fun e w' => e = .returned (.int .i64 4) ∧ w' = w := by
  have h1 : (FloatKind.f64.format.order 4599075939470750516 0 == some Ordering.eq) = false := by decide +kernel
  have h2 : (FloatKind.f64.format.order 4599075939470750516 4503599627370496 == some Ordering.lt) = false := by decide +kernel
  have h3 : nanB 4599075939470750516 = false := by decide
  have h5 : infB 4599075939470750516 = false := by decide
  have h4 : rung 4599075939470750516 = 4599075939470750516 := by decide
  go_enter Tryz.func13, Tryz.ntmps13
  go_wp2_with (first
    | (go_at_call 16; refine (mAbs_any _ (by decide) _).mono ?_; rintro e w' ⟨rfl, rfl⟩)
    | (go_at_call 31; refine (mIsNaN_any _ _).mono ?_; rintro e w' ⟨rfl, rfl⟩)
    | (go_at_call 32; refine (mIsInf_any _ (by decide) _).mono ?_; rintro e w' ⟨rfl, rfl⟩))
  go_ret
  exact ⟨rfl, rfl⟩

theorem c_text (w : World) (R : Rdy w) :
    Calls Tryz.prog 5 #[.float .f64 4599075939470750516] w fun e w' => e = .returned (.string ⟨#[48, 46, 51, 48, 48, 48, 48, 48, 48, 48, 48, 48, 48, 48, 48, 48, 48, 48, 52]⟩) ∧ Below w.heap.size w w' := by
  have h4 : rung 4599075939470750516 = 4599075939470750516 := by decide
  have h5 : sgnB 4599075939470750516 = false := by decide
  go_enter Tryz.func5, Tryz.ntmps5
  go_wp2_with (first
    | (go_at_call 13; refine (c_class _).mono ?_; rintro e w' ⟨rfl, rfl⟩)
    | (go_at_call 14; refine (mSignbit_any _ (by decide) _).mono ?_; rintro e w' ⟨rfl, rfl⟩)
    | (go_at_call 16; refine (mAbs_any _ (by decide) _).mono ?_; rintro e w' ⟨rfl, rfl⟩)
    | (go_at_call 15; refine (c_shortest _ R).mono ?_; rintro e w1 ⟨rfl, b1⟩)
    | (go_at_call 19; refine (Tryz.strings_Repeat_zero _ _).mono ?_; rintro e w' ⟨rfl, rfl⟩))
  go_ret
  exact ⟨by kernel_rfl, b1⟩

theorem c_add (w : World) : Calls Tryz.prog 26 #[.float .f64 4591870180066957722, .float .f64 4596373779694328218] w fun e w' => e = .returned (.float .f64 4599075939470750516) ∧ w' = w := by
  have h : ∀ (t : TypeId) (w : World), (binOp .add t (.float .f64 4591870180066957722) (.float .f64 4596373779694328218)).run Tryz.prog w = .ok (.float .f64 4599075939470750516) w := fun t w => run_float_arith w .add t .f64 _ _ _ (by decide +kernel)
  go_enter Tryz.func26, Tryz.ntmps26
  go_wp2
  go_ret
  exact ⟨rfl, rfl⟩

theorem awake_any (w : World) (R : Rdy w) : Calls Tryz.prog 8 #[] w fun e w' => e = .returned (.bool true) ∧ Below w.heap.size w w' := by
  have h1 : canon 4609434218613702656 = 4609434218613702656 := by decide
  go_enter Tryz.func8, Tryz.ntmps8
  go_wp2_with (first
    | (go_at_call 25; refine (bits_any _ _).mono ?_; rintro e w' ⟨rfl, rfl⟩)
    | (go_at_call 6; refine (of_any _ _).mono ?_; rintro e w' ⟨rfl, rfl⟩)
    | (go_at_call 26; refine (c_add _).mono ?_; rintro e w' ⟨rfl, rfl⟩)
    | (go_at_call 5; refine (c_text _ R).mono ?_; rintro e w1 ⟨rfl, b1⟩))
  go_ret
  exact ⟨rfl, b1⟩
end Go.Proofs.YtbengmceiaejeaaGreatDoor
