/- The walk of the law FloProducts: it answers true for every two words. -/
import Derived.Test.YtiglacchpmooeaaGreatDoorDivR
import Derived.Test.YtiglacchpmooeaaGreatDoorAw4
namespace Go.Proofs.YtiglacchpmooeaaGreatDoor.floProducts
open Go.ChangeShapes Go.WideShapes Go.ChangeAt Go.RowKit
open Ieee

theorem walk (u v : Nat) (hu : u < 18446744073709551616) (hv : v < 18446744073709551616) (w : World) (R : Rdy w) :
    Calls Tryz.prog 4 #[.int .u64 (u : Int), .int .u64 (v : Int)] w fun e w' => e = .returned (.bool true) ∧ Below w.heap.size w w' := by
  obtain ⟨K1, e1⟩ : ∃ K, cRes (double.mul u v) = K := ⟨_, rfl⟩
  obtain ⟨K2, e2⟩ : ∃ K, cRes (double.div u v) = K := ⟨_, rfl⟩
  have A := mul_can u v K1 e1
  have B := div_can u v K2 e2
  have C := rMul_any u v hu hv
  have D := rDiv_any u v hu hv
  rw [e1] at C
  rw [e2] at D
  clear e1 e2
  go_enter Tryz.func4, Tryz.ntmps4
  go_wp2_with (first
    | (go_at_call 6; refine (of_any _ _).mono ?_; rintro e w' ⟨rfl, rfl⟩)
    | (go_at_call 13; refine (A _).mono ?_; rintro e w1 ⟨r1, rfl, c1, _, b1⟩; clear A)
    | (go_at_call 14; refine (C _).mono ?_; rintro e w2 ⟨r2, rfl, l2, c2, b2⟩; clear C; have B2 := b1.trans (b2.mono b1.size); have D1 : decide (canon r1 = canon r2) = true := decide_eq_true (c1.trans c2.symm); have I := is_any r1 r2 l2; rw [D1] at I; clear b2 b1 D1)
    | (go_at_call 7; refine (I _).mono ?_; rintro e w' ⟨rfl, rfl⟩; clear I)
    | (go_at_call 15; refine (B _).mono ?_; rintro e w3 ⟨r3, rfl, c3, _, b3⟩; clear B; have B3 := B2.trans (b3.mono B2.size); clear b3)
    | (go_at_call 16; refine (D _).mono ?_; rintro e w4 ⟨r4, rfl, l4, c4, b4⟩; clear D; have B4 := B3.trans (b4.mono B3.size); have D1 : decide (canon r3 = canon r4) = true := decide_eq_true (c3.trans c4.symm); have J := is_any r3 r4 l4; rw [D1] at J; clear b4 D1)
    | (go_at_call 7; refine (J _).mono ?_; rintro e w' ⟨rfl, rfl⟩; clear J)
    | (go_at_call 12; refine (awake_any _ (R.below B4)).mono ?_; rintro e w5 ⟨rfl, b5⟩))
  go_ret
  exact ⟨rfl, B4.trans (b5.mono B4.size)⟩
end Go.Proofs.YtiglacchpmooeaaGreatDoor.floProducts
