/- The walk of the law FloToInts: it answers true for every word. -/
import Derived.Test.YtiglacchpmooeaaGreatDoorToIntD
import Derived.Test.YtiglacchpmooeaaGreatDoorToIntU
import Derived.Test.YtiglacchpmooeaaGreatDoorToIntZ
import Derived.Test.YtiglacchpmooeaaGreatDoorToIntE
import Derived.Test.YtiglacchpmooeaaGreatDoorAw4
namespace Go.Proofs.YtiglacchpmooeaaGreatDoor.floToInts
open Go.ChangeShapes Go.WideShapes Go.ChangeAt Go.RowKit
open Ieee

theorem ansX_small (way : Toward) (u : Nat) : 0 ≤ ansX way u ∧ ansX way u ≤ 20 := by
  unfold ansX
  split
  · omega
  · split
    · omega
    · split <;> omega

theorem walk (u : Nat) (hu : u < 18446744073709551616) (w : World) (R : Rdy w) :
    Calls Tryz.prog 5 #[.int .u64 (u : Int)] w fun e w' => e = .returned (.bool true) ∧ Below w.heap.size w w' := by
  have F := floor_any u
  have C := ceil_any u
  have T := trunc_any u
  have D := round_any u
  have F2 := toInt_down u hu
  have C2 := toInt_up u hu
  have T2 := toInt_zero u hu
  have D2 := toInt_even u hu
  obtain ⟨a, ea⟩ : ∃ a, ansN .down u = a := ⟨_, rfl⟩
  obtain ⟨b, eb⟩ : ∃ a, ansN .up u = a := ⟨_, rfl⟩
  obtain ⟨c, ec⟩ : ∃ a, ansN .zero u = a := ⟨_, rfl⟩
  obtain ⟨d, ed⟩ : ∃ a, ansN .even u = a := ⟨_, rfl⟩
  obtain ⟨a', ea'⟩ : ∃ a, ansX .down u = a := ⟨_, rfl⟩
  obtain ⟨b', eb'⟩ : ∃ a, ansX .up u = a := ⟨_, rfl⟩
  obtain ⟨c', ec'⟩ : ∃ a, ansX .zero u = a := ⟨_, rfl⟩
  obtain ⟨d', ed'⟩ : ∃ a, ansX .even u = a := ⟨_, rfl⟩
  have za := ansX_small .down u
  rw [ea'] at za
  have ya : IntKind.i64.wrap a' = a' := by rw [IntKind.wrap_i64]; omega
  have zb := ansX_small .up u
  rw [eb'] at zb
  have yb : IntKind.i64.wrap b' = b' := by rw [IntKind.wrap_i64]; omega
  have zc := ansX_small .zero u
  rw [ec'] at zc
  have yc : IntKind.i64.wrap c' = c' := by rw [IntKind.wrap_i64]; omega
  have zd := ansX_small .even u
  rw [ed'] at zd
  have yd : IntKind.i64.wrap d' = d' := by rw [IntKind.wrap_i64]; omega
  rw [ea, ea'] at F F2
  rw [eb, eb'] at C C2
  rw [ec, ec'] at T T2
  rw [ed, ed'] at D D2
  clear ea eb ec ed ea' eb' ec' ed'
  go_enter Tryz.func5, Tryz.ntmps5
  go_wp2_with (first
    | (go_at_call 6; refine (of_any _ _).mono ?_; rintro e w' ⟨rfl, rfl⟩)
    | (go_at_call 17; refine (F _).mono ?_; rintro e w1 ⟨rfl, b1⟩; clear F)
    | (go_at_call 18; refine (C _).mono ?_; rintro e w2 ⟨rfl, b2⟩; clear C; have B2 := b1.trans (b2.mono b1.size); clear b2)
    | (go_at_call 19; refine (T _).mono ?_; rintro e w3 ⟨rfl, b3⟩; clear T; have B3 := B2.trans (b3.mono B2.size); clear b3)
    | (go_at_call 20; refine (D _).mono ?_; rintro e w4 ⟨rfl, b4⟩; clear D; have B4 := B3.trans (b4.mono B3.size); clear b4)
    | (go_at_call 21; refine (F2 _).mono ?_; rintro e w5 ⟨rfl, b5⟩; clear F2; have B5 := B4.trans (b5.mono B4.size); clear b5)
    | (go_at_call 21; refine (C2 _).mono ?_; rintro e w6 ⟨rfl, b6⟩; clear C2; have B6 := B5.trans (b6.mono B5.size); clear b6)
    | (go_at_call 21; refine (T2 _).mono ?_; rintro e w7 ⟨rfl, b7⟩; clear T2; have B7 := B6.trans (b7.mono B6.size); clear b7)
    | (go_at_call 21; refine (D2 _).mono ?_; rintro e w8 ⟨rfl, b8⟩; clear D2; have B8 := B7.trans (b8.mono B7.size); clear b8)
    | (go_at_call 12; refine (awake_any _ (R.below B8)).mono ?_; rintro e w9 ⟨rfl, b9⟩))
  go_ret
  exact ⟨rfl, B8.trans (b9.mono B8.size)⟩
end Go.Proofs.YtiglacchpmooeaaGreatDoor.floToInts
