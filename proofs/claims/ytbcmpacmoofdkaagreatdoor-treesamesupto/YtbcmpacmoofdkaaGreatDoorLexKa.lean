/- The kinds of single bytes, as the program tells them. -/
import Derived.Test.YtbcmpacmoofdkaaGreatDoorProg
import Derived.WalkKit
import Derived.ProofKit
import Derived.OpenShut
import Derived.Below
import Derived.WalkLawsBesides
namespace Go.Proofs.YtbcmpacmoofdkaaGreatDoor
open Go.ChangeShapes Go.WideShapes Go.ChangeAt Go.RowKit

set_option maxRecDepth 100000 in
set_option maxHeartbeats 4000000 in
theorem kindsOf_34 (w : World) : Calls Tryz.prog 95 #[.int .u8 34] w fun e w' => e = .returned (.int .u16 1024) ∧ w' = w := by
  go_enter Tryz.func95, Tryz.ntmps95
  go_wp2
  go_ret
  exact ⟨rfl, rfl⟩

set_option maxRecDepth 100000 in
set_option maxHeartbeats 4000000 in
theorem kindsOf_40 (w : World) : Calls Tryz.prog 95 #[.int .u8 40] w fun e w' => e = .returned (.int .u16 64) ∧ w' = w := by
  go_enter Tryz.func95, Tryz.ntmps95
  go_wp2
  go_ret
  exact ⟨rfl, rfl⟩

set_option maxRecDepth 100000 in
set_option maxHeartbeats 4000000 in
theorem kindsOf_42 (w : World) : Calls Tryz.prog 95 #[.int .u8 42] w fun e w' => e = .returned (.int .u16 32) ∧ w' = w := by
  go_enter Tryz.func95, Tryz.ntmps95
  go_wp2
  go_ret
  exact ⟨rfl, rfl⟩

set_option maxRecDepth 100000 in
set_option maxHeartbeats 4000000 in
theorem kindsOf_58 (w : World) : Calls Tryz.prog 95 #[.int .u8 58] w fun e w' => e = .returned (.int .u16 32) ∧ w' = w := by
  go_enter Tryz.func95, Tryz.ntmps95
  go_wp2
  go_ret
  exact ⟨rfl, rfl⟩

set_option maxRecDepth 100000 in
set_option maxHeartbeats 4000000 in
theorem kindsOf_47 (w : World) : Calls Tryz.prog 95 #[.int .u8 47] w fun e w' => e = .returned (.int .u16 32) ∧ w' = w := by
  go_enter Tryz.func95, Tryz.ntmps95
  go_wp2
  go_ret
  exact ⟨rfl, rfl⟩

set_option maxRecDepth 100000 in
set_option maxHeartbeats 4000000 in
theorem kindsOf_119 (w : World) : Calls Tryz.prog 95 #[.int .u8 119] w fun e w' => e = .returned (.int .u16 18) ∧ w' = w := by
  go_enter Tryz.func95, Tryz.ntmps95
  go_wp2
  go_ret
  exact ⟨rfl, rfl⟩

set_option maxRecDepth 100000 in
set_option maxHeartbeats 4000000 in
theorem kindsOf_118 (w : World) : Calls Tryz.prog 95 #[.int .u8 118] w fun e w' => e = .returned (.int .u16 18) ∧ w' = w := by
  go_enter Tryz.func95, Tryz.ntmps95
  go_wp2
  go_ret
  exact ⟨rfl, rfl⟩

set_option maxRecDepth 100000 in
set_option maxHeartbeats 4000000 in
theorem kindsOf_107 (w : World) : Calls Tryz.prog 95 #[.int .u8 107] w fun e w' => e = .returned (.int .u16 18) ∧ w' = w := by
  go_enter Tryz.func95, Tryz.ntmps95
  go_wp2
  go_ret
  exact ⟨rfl, rfl⟩

set_option maxRecDepth 100000 in
set_option maxHeartbeats 4000000 in
theorem kindsOf_106 (w : World) : Calls Tryz.prog 95 #[.int .u8 106] w fun e w' => e = .returned (.int .u16 18) ∧ w' = w := by
  go_enter Tryz.func95, Tryz.ntmps95
  go_wp2
  go_ret
  exact ⟨rfl, rfl⟩

set_option maxRecDepth 100000 in
set_option maxHeartbeats 4000000 in
theorem kindsOf_83 (w : World) : Calls Tryz.prog 95 #[.int .u8 83] w fun e w' => e = .returned (.int .u16 18) ∧ w' = w := by
  go_enter Tryz.func95, Tryz.ntmps95
  go_wp2
  go_ret
  exact ⟨rfl, rfl⟩

set_option maxRecDepth 100000 in
set_option maxHeartbeats 4000000 in
theorem kindsOf_82 (w : World) : Calls Tryz.prog 95 #[.int .u8 82] w fun e w' => e = .returned (.int .u16 18) ∧ w' = w := by
  go_enter Tryz.func95, Tryz.ntmps95
  go_wp2
  go_ret
  exact ⟨rfl, rfl⟩

set_option maxRecDepth 100000 in
set_option maxHeartbeats 4000000 in
theorem kindsOf_71 (w : World) : Calls Tryz.prog 95 #[.int .u8 71] w fun e w' => e = .returned (.int .u16 18) ∧ w' = w := by
  go_enter Tryz.func95, Tryz.ntmps95
  go_wp2
  go_ret
  exact ⟨rfl, rfl⟩

set_option maxRecDepth 100000 in
set_option maxHeartbeats 4000000 in
theorem kindsOf_102 (w : World) : Calls Tryz.prog 95 #[.int .u8 102] w fun e w' => e = .returned (.int .u16 26) ∧ w' = w := by
  go_enter Tryz.func95, Tryz.ntmps95
  go_wp2
  go_ret
  exact ⟨rfl, rfl⟩

set_option maxRecDepth 100000 in
set_option maxHeartbeats 4000000 in
theorem kindsOf_65 (w : World) : Calls Tryz.prog 95 #[.int .u8 65] w fun e w' => e = .returned (.int .u16 26) ∧ w' = w := by
  go_enter Tryz.func95, Tryz.ntmps95
  go_wp2
  go_ret
  exact ⟨rfl, rfl⟩

set_option maxRecDepth 100000 in
set_option maxHeartbeats 4000000 in
theorem kindsOf_57 (w : World) : Calls Tryz.prog 95 #[.int .u8 57] w fun e w' => e = .returned (.int .u16 28) ∧ w' = w := by
  go_enter Tryz.func95, Tryz.ntmps95
  go_wp2
  go_ret
  exact ⟨rfl, rfl⟩

set_option maxRecDepth 100000 in
set_option maxHeartbeats 4000000 in
theorem kindsOf_13 (w : World) : Calls Tryz.prog 95 #[.int .u8 13] w fun e w' => e = .returned (.int .u16 1) ∧ w' = w := by
  go_enter Tryz.func95, Tryz.ntmps95
  go_wp2
  go_ret
  exact ⟨rfl, rfl⟩

set_option maxRecDepth 100000 in
set_option maxHeartbeats 4000000 in
theorem kindsOf_12 (w : World) : Calls Tryz.prog 95 #[.int .u8 12] w fun e w' => e = .returned (.int .u16 1) ∧ w' = w := by
  go_enter Tryz.func95, Tryz.ntmps95
  go_wp2
  go_ret
  exact ⟨rfl, rfl⟩
end Go.Proofs.YtbcmpacmoofdkaaGreatDoor
