/- The kinds of single bytes, as the program tells them. -/
import Derived.Test.YtbcmpacmoofdkaaGreatDoorProg
import Derived.WalkKit
import Derived.ProofKit
import Derived.OpenShut
import Derived.Below
import Derived.WalkLawsBesides
namespace Go.Proofs.YtbcmpacmoofdkaaGreatDoor
open Go.ChangeShapes Go.WideShapes Go.ChangeAt Go.RowKit

set_option maxRecDepth 100000 in
set_option maxHeartbeats 4000000 in
theorem kindsOf_39 (w : World) : Calls Tryz.prog 95 #[.int .u8 39] w fun e w' => e = .returned (.int .u16 528) ∧ w' = w := by
  go_enter Tryz.func95, Tryz.ntmps95
  go_wp2
  go_ret
  exact ⟨rfl, rfl⟩

set_option maxRecDepth 100000 in
set_option maxHeartbeats 4000000 in
theorem kindsOf_95 (w : World) : Calls Tryz.prog 95 #[.int .u8 95] w fun e w' => e = .returned (.int .u16 144) ∧ w' = w := by
  go_enter Tryz.func95, Tryz.ntmps95
  go_wp2
  go_ret
  exact ⟨rfl, rfl⟩

set_option maxRecDepth 100000 in
set_option maxHeartbeats 4000000 in
theorem kindsOf_124 (w : World) : Calls Tryz.prog 95 #[.int .u8 124] w fun e w' => e = .returned (.int .u16 32) ∧ w' = w := by
  go_enter Tryz.func95, Tryz.ntmps95
  go_wp2
  go_ret
  exact ⟨rfl, rfl⟩

set_option maxRecDepth 100000 in
set_option maxHeartbeats 4000000 in
theorem kindsOf_60 (w : World) : Calls Tryz.prog 95 #[.int .u8 60] w fun e w' => e = .returned (.int .u16 32) ∧ w' = w := by
  go_enter Tryz.func95, Tryz.ntmps95
  go_wp2
  go_ret
  exact ⟨rfl, rfl⟩

set_option maxRecDepth 100000 in
set_option maxHeartbeats 4000000 in
theorem kindsOf_45 (w : World) : Calls Tryz.prog 95 #[.int .u8 45] w fun e w' => e = .returned (.int .u16 32) ∧ w' = w := by
  go_enter Tryz.func95, Tryz.ntmps95
  go_wp2
  go_ret
  exact ⟨rfl, rfl⟩

set_option maxRecDepth 100000 in
set_option maxHeartbeats 4000000 in
theorem kindsOf_120 (w : World) : Calls Tryz.prog 95 #[.int .u8 120] w fun e w' => e = .returned (.int .u16 18) ∧ w' = w := by
  go_enter Tryz.func95, Tryz.ntmps95
  go_wp2
  go_ret
  exact ⟨rfl, rfl⟩

set_option maxRecDepth 100000 in
set_option maxHeartbeats 4000000 in
theorem kindsOf_117 (w : World) : Calls Tryz.prog 95 #[.int .u8 117] w fun e w' => e = .returned (.int .u16 18) ∧ w' = w := by
  go_enter Tryz.func95, Tryz.ntmps95
  go_wp2
  go_ret
  exact ⟨rfl, rfl⟩

set_option maxRecDepth 100000 in
set_option maxHeartbeats 4000000 in
theorem kindsOf_108 (w : World) : Calls Tryz.prog 95 #[.int .u8 108] w fun e w' => e = .returned (.int .u16 18) ∧ w' = w := by
  go_enter Tryz.func95, Tryz.ntmps95
  go_wp2
  go_ret
  exact ⟨rfl, rfl⟩

set_option maxRecDepth 100000 in
set_option maxHeartbeats 4000000 in
theorem kindsOf_105 (w : World) : Calls Tryz.prog 95 #[.int .u8 105] w fun e w' => e = .returned (.int .u16 18) ∧ w' = w := by
  go_enter Tryz.func95, Tryz.ntmps95
  go_wp2
  go_ret
  exact ⟨rfl, rfl⟩

set_option maxRecDepth 100000 in
set_option maxHeartbeats 4000000 in
theorem kindsOf_84 (w : World) : Calls Tryz.prog 95 #[.int .u8 84] w fun e w' => e = .returned (.int .u16 18) ∧ w' = w := by
  go_enter Tryz.func95, Tryz.ntmps95
  go_wp2
  go_ret
  exact ⟨rfl, rfl⟩

set_option maxRecDepth 100000 in
set_option maxHeartbeats 4000000 in
theorem kindsOf_81 (w : World) : Calls Tryz.prog 95 #[.int .u8 81] w fun e w' => e = .returned (.int .u16 18) ∧ w' = w := by
  go_enter Tryz.func95, Tryz.ntmps95
  go_wp2
  go_ret
  exact ⟨rfl, rfl⟩

set_option maxRecDepth 100000 in
set_option maxHeartbeats 4000000 in
theorem kindsOf_72 (w : World) : Calls Tryz.prog 95 #[.int .u8 72] w fun e w' => e = .returned (.int .u16 18) ∧ w' = w := by
  go_enter Tryz.func95, Tryz.ntmps95
  go_wp2
  go_ret
  exact ⟨rfl, rfl⟩

set_option maxRecDepth 100000 in
set_option maxHeartbeats 4000000 in
theorem kindsOf_101 (w : World) : Calls Tryz.prog 95 #[.int .u8 101] w fun e w' => e = .returned (.int .u16 26) ∧ w' = w := by
  go_enter Tryz.func95, Tryz.ntmps95
  go_wp2
  go_ret
  exact ⟨rfl, rfl⟩

set_option maxRecDepth 100000 in
set_option maxHeartbeats 4000000 in
theorem kindsOf_66 (w : World) : Calls Tryz.prog 95 #[.int .u8 66] w fun e w' => e = .returned (.int .u16 26) ∧ w' = w := by
  go_enter Tryz.func95, Tryz.ntmps95
  go_wp2
  go_ret
  exact ⟨rfl, rfl⟩

set_option maxRecDepth 100000 in
set_option maxHeartbeats 4000000 in
theorem kindsOf_56 (w : World) : Calls Tryz.prog 95 #[.int .u8 56] w fun e w' => e = .returned (.int .u16 28) ∧ w' = w := by
  go_enter Tryz.func95, Tryz.ntmps95
  go_wp2
  go_ret
  exact ⟨rfl, rfl⟩

set_option maxRecDepth 100000 in
set_option maxHeartbeats 4000000 in
theorem kindsOf_32 (w : World) : Calls Tryz.prog 95 #[.int .u8 32] w fun e w' => e = .returned (.int .u16 1) ∧ w' = w := by
  go_enter Tryz.func95, Tryz.ntmps95
  go_wp2
  go_ret
  exact ⟨rfl, rfl⟩

set_option maxRecDepth 100000 in
set_option maxHeartbeats 4000000 in
theorem kindsOf_10 (w : World) : Calls Tryz.prog 95 #[.int .u8 10] w fun e w' => e = .returned (.int .u16 1) ∧ w' = w := by
  go_enter Tryz.func95, Tryz.ntmps95
  go_wp2
  go_ret
  exact ⟨rfl, rfl⟩
end Go.Proofs.YtbcmpacmoofdkaaGreatDoor
