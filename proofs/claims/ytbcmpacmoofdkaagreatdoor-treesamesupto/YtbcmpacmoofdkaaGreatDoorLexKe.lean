/- The kinds of single bytes, as the program tells them. -/
import Derived.Test.YtbcmpacmoofdkaaGreatDoorProg
import Derived.WalkKit
import Derived.ProofKit
import Derived.OpenShut
import Derived.Below
import Derived.WalkLawsBesides
namespace Go.Proofs.YtbcmpacmoofdkaaGreatDoor
open Go.ChangeShapes Go.WideShapes Go.ChangeAt Go.RowKit

set_option maxRecDepth 100000 in
set_option maxHeartbeats 4000000 in
theorem kindsOf_44 (w : World) : Calls Tryz.prog 95 #[.int .u8 44] w fun e w' => e = .returned (.int .u16 128) ∧ w' = w := by
  go_enter Tryz.func95, Tryz.ntmps95
  go_wp2
  go_ret
  exact ⟨rfl, rfl⟩

set_option maxRecDepth 100000 in
set_option maxHeartbeats 4000000 in
theorem kindsOf_93 (w : World) : Calls Tryz.prog 95 #[.int .u8 93] w fun e w' => e = .returned (.int .u16 128) ∧ w' = w := by
  go_enter Tryz.func95, Tryz.ntmps95
  go_wp2
  go_ret
  exact ⟨rfl, rfl⟩

set_option maxRecDepth 100000 in
set_option maxHeartbeats 4000000 in
theorem kindsOf_126 (w : World) : Calls Tryz.prog 95 #[.int .u8 126] w fun e w' => e = .returned (.int .u16 32) ∧ w' = w := by
  go_enter Tryz.func95, Tryz.ntmps95
  go_wp2
  go_ret
  exact ⟨rfl, rfl⟩

set_option maxRecDepth 100000 in
set_option maxHeartbeats 4000000 in
theorem kindsOf_63 (w : World) : Calls Tryz.prog 95 #[.int .u8 63] w fun e w' => e = .returned (.int .u16 32) ∧ w' = w := by
  go_enter Tryz.func95, Tryz.ntmps95
  go_wp2
  go_ret
  exact ⟨rfl, rfl⟩

set_option maxRecDepth 100000 in
set_option maxHeartbeats 4000000 in
theorem kindsOf_36 (w : World) : Calls Tryz.prog 95 #[.int .u8 36] w fun e w' => e = .returned (.int .u16 32) ∧ w' = w := by
  go_enter Tryz.func95, Tryz.ntmps95
  go_wp2
  go_ret
  exact ⟨rfl, rfl⟩

set_option maxRecDepth 100000 in
set_option maxHeartbeats 4000000 in
theorem kindsOf_33 (w : World) : Calls Tryz.prog 95 #[.int .u8 33] w fun e w' => e = .returned (.int .u16 32) ∧ w' = w := by
  go_enter Tryz.func95, Tryz.ntmps95
  go_wp2
  go_ret
  exact ⟨rfl, rfl⟩

set_option maxRecDepth 100000 in
set_option maxHeartbeats 4000000 in
theorem kindsOf_114 (w : World) : Calls Tryz.prog 95 #[.int .u8 114] w fun e w' => e = .returned (.int .u16 18) ∧ w' = w := by
  go_enter Tryz.func95, Tryz.ntmps95
  go_wp2
  go_ret
  exact ⟨rfl, rfl⟩

set_option maxRecDepth 100000 in
set_option maxHeartbeats 4000000 in
theorem kindsOf_111 (w : World) : Calls Tryz.prog 95 #[.int .u8 111] w fun e w' => e = .returned (.int .u16 18) ∧ w' = w := by
  go_enter Tryz.func95, Tryz.ntmps95
  go_wp2
  go_ret
  exact ⟨rfl, rfl⟩

set_option maxRecDepth 100000 in
set_option maxHeartbeats 4000000 in
theorem kindsOf_90 (w : World) : Calls Tryz.prog 95 #[.int .u8 90] w fun e w' => e = .returned (.int .u16 18) ∧ w' = w := by
  go_enter Tryz.func95, Tryz.ntmps95
  go_wp2
  go_ret
  exact ⟨rfl, rfl⟩

set_option maxRecDepth 100000 in
set_option maxHeartbeats 4000000 in
theorem kindsOf_87 (w : World) : Calls Tryz.prog 95 #[.int .u8 87] w fun e w' => e = .returned (.int .u16 18) ∧ w' = w := by
  go_enter Tryz.func95, Tryz.ntmps95
  go_wp2
  go_ret
  exact ⟨rfl, rfl⟩

set_option maxRecDepth 100000 in
set_option maxHeartbeats 4000000 in
theorem kindsOf_78 (w : World) : Calls Tryz.prog 95 #[.int .u8 78] w fun e w' => e = .returned (.int .u16 18) ∧ w' = w := by
  go_enter Tryz.func95, Tryz.ntmps95
  go_wp2
  go_ret
  exact ⟨rfl, rfl⟩

set_option maxRecDepth 100000 in
set_option maxHeartbeats 4000000 in
theorem kindsOf_75 (w : World) : Calls Tryz.prog 95 #[.int .u8 75] w fun e w' => e = .returned (.int .u16 18) ∧ w' = w := by
  go_enter Tryz.func95, Tryz.ntmps95
  go_wp2
  go_ret
  exact ⟨rfl, rfl⟩

set_option maxRecDepth 100000 in
set_option maxHeartbeats 4000000 in
theorem kindsOf_98 (w : World) : Calls Tryz.prog 95 #[.int .u8 98] w fun e w' => e = .returned (.int .u16 26) ∧ w' = w := by
  go_enter Tryz.func95, Tryz.ntmps95
  go_wp2
  go_ret
  exact ⟨rfl, rfl⟩

set_option maxRecDepth 100000 in
set_option maxHeartbeats 4000000 in
theorem kindsOf_69 (w : World) : Calls Tryz.prog 95 #[.int .u8 69] w fun e w' => e = .returned (.int .u16 26) ∧ w' = w := by
  go_enter Tryz.func95, Tryz.ntmps95
  go_wp2
  go_ret
  exact ⟨rfl, rfl⟩

set_option maxRecDepth 100000 in
set_option maxHeartbeats 4000000 in
theorem kindsOf_53 (w : World) : Calls Tryz.prog 95 #[.int .u8 53] w fun e w' => e = .returned (.int .u16 28) ∧ w' = w := by
  go_enter Tryz.func95, Tryz.ntmps95
  go_wp2
  go_ret
  exact ⟨rfl, rfl⟩

set_option maxRecDepth 100000 in
set_option maxHeartbeats 4000000 in
theorem kindsOf_50 (w : World) : Calls Tryz.prog 95 #[.int .u8 50] w fun e w' => e = .returned (.int .u16 28) ∧ w' = w := by
  go_enter Tryz.func95, Tryz.ntmps95
  go_wp2
  go_ret
  exact ⟨rfl, rfl⟩
end Go.Proofs.YtbcmpacmoofdkaaGreatDoor
