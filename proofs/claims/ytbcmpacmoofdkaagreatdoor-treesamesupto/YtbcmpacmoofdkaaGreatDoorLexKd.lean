/- The kinds of single bytes, as the program tells them. -/
import Derived.Test.YtbcmpacmoofdkaaGreatDoorProg
import Derived.WalkKit
import Derived.ProofKit
import Derived.OpenShut
import Derived.Below
import Derived.WalkLawsBesides
namespace Go.Proofs.YtbcmpacmoofdkaaGreatDoor
open Go.ChangeShapes Go.WideShapes Go.ChangeAt Go.RowKit

set_option maxRecDepth 100000 in
set_option maxHeartbeats 4000000 in
theorem kindsOf_59 (w : World) : Calls Tryz.prog 95 #[.int .u8 59] w fun e w' => e = .returned (.int .u16 128) ∧ w' = w := by
  go_enter Tryz.func95, Tryz.ntmps95
  go_wp2
  go_ret
  exact ⟨rfl, rfl⟩

set_option maxRecDepth 100000 in
set_option maxHeartbeats 4000000 in
theorem kindsOf_91 (w : World) : Calls Tryz.prog 95 #[.int .u8 91] w fun e w' => e = .returned (.int .u16 128) ∧ w' = w := by
  go_enter Tryz.func95, Tryz.ntmps95
  go_wp2
  go_ret
  exact ⟨rfl, rfl⟩

set_option maxRecDepth 100000 in
set_option maxHeartbeats 4000000 in
theorem kindsOf_96 (w : World) : Calls Tryz.prog 95 #[.int .u8 96] w fun e w' => e = .returned (.int .u16 32) ∧ w' = w := by
  go_enter Tryz.func95, Tryz.ntmps95
  go_wp2
  go_ret
  exact ⟨rfl, rfl⟩

set_option maxRecDepth 100000 in
set_option maxHeartbeats 4000000 in
theorem kindsOf_62 (w : World) : Calls Tryz.prog 95 #[.int .u8 62] w fun e w' => e = .returned (.int .u16 32) ∧ w' = w := by
  go_enter Tryz.func95, Tryz.ntmps95
  go_wp2
  go_ret
  exact ⟨rfl, rfl⟩

set_option maxRecDepth 100000 in
set_option maxHeartbeats 4000000 in
theorem kindsOf_35 (w : World) : Calls Tryz.prog 95 #[.int .u8 35] w fun e w' => e = .returned (.int .u16 32) ∧ w' = w := by
  go_enter Tryz.func95, Tryz.ntmps95
  go_wp2
  go_ret
  exact ⟨rfl, rfl⟩

set_option maxRecDepth 100000 in
set_option maxHeartbeats 4000000 in
theorem kindsOf_122 (w : World) : Calls Tryz.prog 95 #[.int .u8 122] w fun e w' => e = .returned (.int .u16 18) ∧ w' = w := by
  go_enter Tryz.func95, Tryz.ntmps95
  go_wp2
  go_ret
  exact ⟨rfl, rfl⟩

set_option maxRecDepth 100000 in
set_option maxHeartbeats 4000000 in
theorem kindsOf_115 (w : World) : Calls Tryz.prog 95 #[.int .u8 115] w fun e w' => e = .returned (.int .u16 18) ∧ w' = w := by
  go_enter Tryz.func95, Tryz.ntmps95
  go_wp2
  go_ret
  exact ⟨rfl, rfl⟩

set_option maxRecDepth 100000 in
set_option maxHeartbeats 4000000 in
theorem kindsOf_110 (w : World) : Calls Tryz.prog 95 #[.int .u8 110] w fun e w' => e = .returned (.int .u16 18) ∧ w' = w := by
  go_enter Tryz.func95, Tryz.ntmps95
  go_wp2
  go_ret
  exact ⟨rfl, rfl⟩

set_option maxRecDepth 100000 in
set_option maxHeartbeats 4000000 in
theorem kindsOf_103 (w : World) : Calls Tryz.prog 95 #[.int .u8 103] w fun e w' => e = .returned (.int .u16 18) ∧ w' = w := by
  go_enter Tryz.func95, Tryz.ntmps95
  go_wp2
  go_ret
  exact ⟨rfl, rfl⟩

set_option maxRecDepth 100000 in
set_option maxHeartbeats 4000000 in
theorem kindsOf_86 (w : World) : Calls Tryz.prog 95 #[.int .u8 86] w fun e w' => e = .returned (.int .u16 18) ∧ w' = w := by
  go_enter Tryz.func95, Tryz.ntmps95
  go_wp2
  go_ret
  exact ⟨rfl, rfl⟩

set_option maxRecDepth 100000 in
set_option maxHeartbeats 4000000 in
theorem kindsOf_79 (w : World) : Calls Tryz.prog 95 #[.int .u8 79] w fun e w' => e = .returned (.int .u16 18) ∧ w' = w := by
  go_enter Tryz.func95, Tryz.ntmps95
  go_wp2
  go_ret
  exact ⟨rfl, rfl⟩

set_option maxRecDepth 100000 in
set_option maxHeartbeats 4000000 in
theorem kindsOf_74 (w : World) : Calls Tryz.prog 95 #[.int .u8 74] w fun e w' => e = .returned (.int .u16 18) ∧ w' = w := by
  go_enter Tryz.func95, Tryz.ntmps95
  go_wp2
  go_ret
  exact ⟨rfl, rfl⟩

set_option maxRecDepth 100000 in
set_option maxHeartbeats 4000000 in
theorem kindsOf_99 (w : World) : Calls Tryz.prog 95 #[.int .u8 99] w fun e w' => e = .returned (.int .u16 26) ∧ w' = w := by
  go_enter Tryz.func95, Tryz.ntmps95
  go_wp2
  go_ret
  exact ⟨rfl, rfl⟩

set_option maxRecDepth 100000 in
set_option maxHeartbeats 4000000 in
theorem kindsOf_68 (w : World) : Calls Tryz.prog 95 #[.int .u8 68] w fun e w' => e = .returned (.int .u16 26) ∧ w' = w := by
  go_enter Tryz.func95, Tryz.ntmps95
  go_wp2
  go_ret
  exact ⟨rfl, rfl⟩

set_option maxRecDepth 100000 in
set_option maxHeartbeats 4000000 in
theorem kindsOf_54 (w : World) : Calls Tryz.prog 95 #[.int .u8 54] w fun e w' => e = .returned (.int .u16 28) ∧ w' = w := by
  go_enter Tryz.func95, Tryz.ntmps95
  go_wp2
  go_ret
  exact ⟨rfl, rfl⟩

set_option maxRecDepth 100000 in
set_option maxHeartbeats 4000000 in
theorem kindsOf_49 (w : World) : Calls Tryz.prog 95 #[.int .u8 49] w fun e w' => e = .returned (.int .u16 28) ∧ w' = w := by
  go_enter Tryz.func95, Tryz.ntmps95
  go_wp2
  go_ret
  exact ⟨rfl, rfl⟩
end Go.Proofs.YtbcmpacmoofdkaaGreatDoor
