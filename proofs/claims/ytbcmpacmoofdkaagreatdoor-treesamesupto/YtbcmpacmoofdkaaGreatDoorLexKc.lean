/- The kinds of single bytes, as the program tells them. -/
import Derived.Test.YtbcmpacmoofdkaaGreatDoorProg
import Derived.WalkKit
import Derived.ProofKit
import Derived.OpenShut
import Derived.Below
import Derived.WalkLawsBesides
namespace Go.Proofs.YtbcmpacmoofdkaaGreatDoor
open Go.ChangeShapes Go.WideShapes Go.ChangeAt Go.RowKit

set_option maxRecDepth 100000 in
set_option maxHeartbeats 4000000 in
theorem kindsOf_46 (w : World) : Calls Tryz.prog 95 #[.int .u8 46] w fun e w' => e = .returned (.int .u16 256) ∧ w' = w := by
  go_enter Tryz.func95, Tryz.ntmps95
  go_wp2
  go_ret
  exact ⟨rfl, rfl⟩

set_option maxRecDepth 100000 in
set_option maxHeartbeats 4000000 in
theorem kindsOf_41 (w : World) : Calls Tryz.prog 95 #[.int .u8 41] w fun e w' => e = .returned (.int .u16 128) ∧ w' = w := by
  go_enter Tryz.func95, Tryz.ntmps95
  go_wp2
  go_ret
  exact ⟨rfl, rfl⟩

set_option maxRecDepth 100000 in
set_option maxHeartbeats 4000000 in
theorem kindsOf_94 (w : World) : Calls Tryz.prog 95 #[.int .u8 94] w fun e w' => e = .returned (.int .u16 32) ∧ w' = w := by
  go_enter Tryz.func95, Tryz.ntmps95
  go_wp2
  go_ret
  exact ⟨rfl, rfl⟩

set_option maxRecDepth 100000 in
set_option maxHeartbeats 4000000 in
theorem kindsOf_61 (w : World) : Calls Tryz.prog 95 #[.int .u8 61] w fun e w' => e = .returned (.int .u16 32) ∧ w' = w := by
  go_enter Tryz.func95, Tryz.ntmps95
  go_wp2
  go_ret
  exact ⟨rfl, rfl⟩

set_option maxRecDepth 100000 in
set_option maxHeartbeats 4000000 in
theorem kindsOf_43 (w : World) : Calls Tryz.prog 95 #[.int .u8 43] w fun e w' => e = .returned (.int .u16 32) ∧ w' = w := by
  go_enter Tryz.func95, Tryz.ntmps95
  go_wp2
  go_ret
  exact ⟨rfl, rfl⟩

set_option maxRecDepth 100000 in
set_option maxHeartbeats 4000000 in
theorem kindsOf_121 (w : World) : Calls Tryz.prog 95 #[.int .u8 121] w fun e w' => e = .returned (.int .u16 18) ∧ w' = w := by
  go_enter Tryz.func95, Tryz.ntmps95
  go_wp2
  go_ret
  exact ⟨rfl, rfl⟩

set_option maxRecDepth 100000 in
set_option maxHeartbeats 4000000 in
theorem kindsOf_116 (w : World) : Calls Tryz.prog 95 #[.int .u8 116] w fun e w' => e = .returned (.int .u16 18) ∧ w' = w := by
  go_enter Tryz.func95, Tryz.ntmps95
  go_wp2
  go_ret
  exact ⟨rfl, rfl⟩

set_option maxRecDepth 100000 in
set_option maxHeartbeats 4000000 in
theorem kindsOf_109 (w : World) : Calls Tryz.prog 95 #[.int .u8 109] w fun e w' => e = .returned (.int .u16 18) ∧ w' = w := by
  go_enter Tryz.func95, Tryz.ntmps95
  go_wp2
  go_ret
  exact ⟨rfl, rfl⟩

set_option maxRecDepth 100000 in
set_option maxHeartbeats 4000000 in
theorem kindsOf_104 (w : World) : Calls Tryz.prog 95 #[.int .u8 104] w fun e w' => e = .returned (.int .u16 18) ∧ w' = w := by
  go_enter Tryz.func95, Tryz.ntmps95
  go_wp2
  go_ret
  exact ⟨rfl, rfl⟩

set_option maxRecDepth 100000 in
set_option maxHeartbeats 4000000 in
theorem kindsOf_85 (w : World) : Calls Tryz.prog 95 #[.int .u8 85] w fun e w' => e = .returned (.int .u16 18) ∧ w' = w := by
  go_enter Tryz.func95, Tryz.ntmps95
  go_wp2
  go_ret
  exact ⟨rfl, rfl⟩

set_option maxRecDepth 100000 in
set_option maxHeartbeats 4000000 in
theorem kindsOf_80 (w : World) : Calls Tryz.prog 95 #[.int .u8 80] w fun e w' => e = .returned (.int .u16 18) ∧ w' = w := by
  go_enter Tryz.func95, Tryz.ntmps95
  go_wp2
  go_ret
  exact ⟨rfl, rfl⟩

set_option maxRecDepth 100000 in
set_option maxHeartbeats 4000000 in
theorem kindsOf_73 (w : World) : Calls Tryz.prog 95 #[.int .u8 73] w fun e w' => e = .returned (.int .u16 18) ∧ w' = w := by
  go_enter Tryz.func95, Tryz.ntmps95
  go_wp2
  go_ret
  exact ⟨rfl, rfl⟩

set_option maxRecDepth 100000 in
set_option maxHeartbeats 4000000 in
theorem kindsOf_100 (w : World) : Calls Tryz.prog 95 #[.int .u8 100] w fun e w' => e = .returned (.int .u16 26) ∧ w' = w := by
  go_enter Tryz.func95, Tryz.ntmps95
  go_wp2
  go_ret
  exact ⟨rfl, rfl⟩

set_option maxRecDepth 100000 in
set_option maxHeartbeats 4000000 in
theorem kindsOf_67 (w : World) : Calls Tryz.prog 95 #[.int .u8 67] w fun e w' => e = .returned (.int .u16 26) ∧ w' = w := by
  go_enter Tryz.func95, Tryz.ntmps95
  go_wp2
  go_ret
  exact ⟨rfl, rfl⟩

set_option maxRecDepth 100000 in
set_option maxHeartbeats 4000000 in
theorem kindsOf_55 (w : World) : Calls Tryz.prog 95 #[.int .u8 55] w fun e w' => e = .returned (.int .u16 28) ∧ w' = w := by
  go_enter Tryz.func95, Tryz.ntmps95
  go_wp2
  go_ret
  exact ⟨rfl, rfl⟩

set_option maxRecDepth 100000 in
set_option maxHeartbeats 4000000 in
theorem kindsOf_48 (w : World) : Calls Tryz.prog 95 #[.int .u8 48] w fun e w' => e = .returned (.int .u16 28) ∧ w' = w := by
  go_enter Tryz.func95, Tryz.ntmps95
  go_wp2
  go_ret
  exact ⟨rfl, rfl⟩

set_option maxRecDepth 100000 in
set_option maxHeartbeats 4000000 in
theorem kindsOf_9 (w : World) : Calls Tryz.prog 95 #[.int .u8 9] w fun e w' => e = .returned (.int .u16 1) ∧ w' = w := by
  go_enter Tryz.func95, Tryz.ntmps95
  go_wp2
  go_ret
  exact ⟨rfl, rfl⟩
end Go.Proofs.YtbcmpacmoofdkaaGreatDoor
