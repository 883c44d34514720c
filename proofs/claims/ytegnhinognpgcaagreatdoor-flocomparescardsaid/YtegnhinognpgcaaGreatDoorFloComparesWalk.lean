/- The walk of the law FloCompares: it answers true for every two words. -/
import Derived.Test.YtegnhinognpgcaaGreatDoorAw4
namespace Go.Proofs.YtegnhinognpgcaaGreatDoor.floCompares
open Go.ChangeShapes Go.WideShapes Go.ChangeAt Go.RowKit

theorem walk (u v : Nat) (hu : u < 18446744073709551616) (hv : v < 18446744073709551616) (w : World) (R : Rdy w) :
    Calls Tryz.prog 7 #[.int .u64 (u : Int), .int .u64 (v : Int)] w fun e w' => e = .returned (.bool true) ∧ Below w.heap.size w w' := by
  have C1 := compare_any u v
  have C2 := rCompare_any u v hu hv
  obtain ⟨c, ec⟩ : ∃ x, cmpV u v = x := ⟨_, rfl⟩
  rw [ec] at C1 C2
  clear ec
  go_enter Tryz.func7, Tryz.ntmps7
  go_wp2_with (first
    | (go_at_call 18; refine (of_any _ _).mono ?_; rintro e w' ⟨rfl, rfl⟩)
    | (go_at_call 32; refine (C1 _).mono ?_; rintro e w' ⟨rfl, rfl⟩)
    | (go_at_call 33; refine (C2 _).mono ?_; rintro e w' ⟨rfl, rfl⟩)
    | (go_at_call 14; refine (awake_any _ R).mono ?_; rintro e w1 ⟨rfl, b1⟩))
  go_ret
  exact ⟨rfl, b1⟩
end Go.Proofs.YtegnhinognpgcaaGreatDoor.floCompares
