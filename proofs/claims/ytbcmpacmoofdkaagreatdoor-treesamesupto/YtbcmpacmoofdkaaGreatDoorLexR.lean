/- Single reserved words, as the program tells them. -/
import Derived.Test.YtbcmpacmoofdkaaGreatDoorProg
import Derived.WalkKit
import Derived.ProofKit
import Derived.OpenShut
import Derived.Below
import Derived.WalkLawsBesides
import Derived.Test.YtbcmpacmoofdkaaGreatDoorStrM
namespace Go.Proofs.YtbcmpacmoofdkaaGreatDoor
open Go.ChangeShapes Go.WideShapes Go.ChangeAt Go.RowKit

set_option maxRecDepth 100000 in
set_option maxHeartbeats 4000000 in
theorem res_57 (w : World) : Calls Tryz.prog 109 #[.string ⟨#[35]⟩] w fun e w' => e = .returned (.bool true) ∧ w' = w := by
  go_enter Tryz.func109, Tryz.ntmps109
  go_wp2
  go_ret
  exact ⟨rfl, rfl⟩

set_option maxRecDepth 100000 in
set_option maxHeartbeats 4000000 in
theorem res_52 (w : World) : Calls Tryz.prog 109 #[.string ⟨#[58, 62]⟩] w fun e w' => e = .returned (.bool true) ∧ w' = w := by
  go_enter Tryz.func109, Tryz.ntmps109
  go_wp2
  go_ret
  exact ⟨rfl, rfl⟩

set_option maxRecDepth 100000 in
set_option maxHeartbeats 4000000 in
theorem res_51 (w : World) : Calls Tryz.prog 109 #[.string ⟨#[58]⟩] w fun e w' => e = .returned (.bool true) ∧ w' = w := by
  go_enter Tryz.func109, Tryz.ntmps109
  go_wp2
  go_ret
  exact ⟨rfl, rfl⟩

set_option maxRecDepth 100000 in
set_option maxHeartbeats 4000000 in
theorem res_46 (w : World) : Calls Tryz.prog 109 #[.string ⟨#[125]⟩] w fun e w' => e = .returned (.bool true) ∧ w' = w := by
  go_enter Tryz.func109, Tryz.ntmps109
  go_wp2
  go_ret
  exact ⟨rfl, rfl⟩

set_option maxRecDepth 100000 in
set_option maxHeartbeats 4000000 in
theorem res_45 (w : World) : Calls Tryz.prog 109 #[.string ⟨#[123]⟩] w fun e w' => e = .returned (.bool true) ∧ w' = w := by
  go_enter Tryz.func109, Tryz.ntmps109
  go_wp2
  go_ret
  exact ⟨rfl, rfl⟩

set_option maxRecDepth 100000 in
set_option maxHeartbeats 4000000 in
theorem res_40 (w : World) : Calls Tryz.prog 109 #[.string ⟨#[119, 105, 116, 104, 116, 121, 112, 101]⟩] w fun e w' => e = .returned (.bool true) ∧ w' = w := by
  go_enter Tryz.func109, Tryz.ntmps109
  go_wp2
  go_ret
  exact ⟨rfl, rfl⟩

set_option maxRecDepth 100000 in
set_option maxHeartbeats 4000000 in
theorem res_39 (w : World) : Calls Tryz.prog 109 #[.string ⟨#[119, 105, 116, 104]⟩] w fun e w' => e = .returned (.bool true) ∧ w' = w := by
  go_enter Tryz.func109, Tryz.ntmps109
  go_wp2
  go_ret
  exact ⟨rfl, rfl⟩

set_option maxRecDepth 100000 in
set_option maxHeartbeats 4000000 in
theorem res_34 (w : World) : Calls Tryz.prog 109 #[.string ⟨#[116, 104, 101, 110]⟩] w fun e w' => e = .returned (.bool true) ∧ w' = w := by
  go_enter Tryz.func109, Tryz.ntmps109
  go_wp2
  go_ret
  exact ⟨rfl, rfl⟩

set_option maxRecDepth 100000 in
set_option maxHeartbeats 4000000 in
theorem res_33 (w : World) : Calls Tryz.prog 109 #[.string ⟨#[115, 116, 114, 117, 99, 116, 117, 114, 101]⟩] w fun e w' => e = .returned (.bool true) ∧ w' = w := by
  go_enter Tryz.func109, Tryz.ntmps109
  go_wp2
  go_ret
  exact ⟨rfl, rfl⟩

set_option maxRecDepth 100000 in
set_option maxHeartbeats 4000000 in
theorem res_28 (w : World) : Calls Tryz.prog 109 #[.string ⟨#[114, 101, 99]⟩] w fun e w' => e = .returned (.bool true) ∧ w' = w := by
  go_enter Tryz.func109, Tryz.ntmps109
  go_wp2
  go_ret
  exact ⟨rfl, rfl⟩

set_option maxRecDepth 100000 in
set_option maxHeartbeats 4000000 in
theorem res_27 (w : World) : Calls Tryz.prog 109 #[.string ⟨#[114, 97, 105, 115, 101]⟩] w fun e w' => e = .returned (.bool true) ∧ w' = w := by
  go_enter Tryz.func109, Tryz.ntmps109
  go_wp2
  go_ret
  exact ⟨rfl, rfl⟩

set_option maxRecDepth 100000 in
set_option maxHeartbeats 4000000 in
theorem res_22 (w : World) : Calls Tryz.prog 109 #[.string ⟨#[110, 111, 110, 102, 105, 120]⟩] w fun e w' => e = .returned (.bool true) ∧ w' = w := by
  go_enter Tryz.func109, Tryz.ntmps109
  go_wp2
  go_ret
  exact ⟨rfl, rfl⟩

set_option maxRecDepth 100000 in
set_option maxHeartbeats 4000000 in
theorem res_21 (w : World) : Calls Tryz.prog 109 #[.string ⟨#[108, 111, 99, 97, 108]⟩] w fun e w' => e = .returned (.bool true) ∧ w' = w := by
  go_enter Tryz.func109, Tryz.ntmps109
  go_wp2
  go_ret
  exact ⟨rfl, rfl⟩

set_option maxRecDepth 100000 in
set_option maxHeartbeats 4000000 in
theorem res_16 (w : World) : Calls Tryz.prog 109 #[.string ⟨#[105, 110]⟩] w fun e w' => e = .returned (.bool true) ∧ w' = w := by
  go_enter Tryz.func109, Tryz.ntmps109
  go_wp2
  go_ret
  exact ⟨rfl, rfl⟩

set_option maxRecDepth 100000 in
set_option maxHeartbeats 4000000 in
theorem res_15 (w : World) : Calls Tryz.prog 109 #[.string ⟨#[105, 102]⟩] w fun e w' => e = .returned (.bool true) ∧ w' = w := by
  go_enter Tryz.func109, Tryz.ntmps109
  go_wp2
  go_ret
  exact ⟨rfl, rfl⟩

set_option maxRecDepth 100000 in
set_option maxHeartbeats 4000000 in
theorem res_10 (w : World) : Calls Tryz.prog 109 #[.string ⟨#[101, 120, 99, 101, 112, 116, 105, 111, 110]⟩] w fun e w' => e = .returned (.bool true) ∧ w' = w := by
  go_enter Tryz.func109, Tryz.ntmps109
  go_wp2
  go_ret
  exact ⟨rfl, rfl⟩

set_option maxRecDepth 100000 in
set_option maxHeartbeats 4000000 in
theorem res_9 (w : World) : Calls Tryz.prog 109 #[.string ⟨#[101, 113, 116, 121, 112, 101]⟩] w fun e w' => e = .returned (.bool true) ∧ w' = w := by
  go_enter Tryz.func109, Tryz.ntmps109
  go_wp2
  go_ret
  exact ⟨rfl, rfl⟩

set_option maxRecDepth 100000 in
set_option maxHeartbeats 4000000 in
theorem res_4 (w : World) : Calls Tryz.prog 109 #[.string ⟨#[99, 97, 115, 101]⟩] w fun e w' => e = .returned (.bool true) ∧ w' = w := by
  go_enter Tryz.func109, Tryz.ntmps109
  go_wp2
  go_ret
  exact ⟨rfl, rfl⟩

set_option maxRecDepth 100000 in
set_option maxHeartbeats 4000000 in
theorem res_3 (w : World) : Calls Tryz.prog 109 #[.string ⟨#[97, 115]⟩] w fun e w' => e = .returned (.bool true) ∧ w' = w := by
  go_enter Tryz.func109, Tryz.ntmps109
  go_wp2
  go_ret
  exact ⟨rfl, rfl⟩
end Go.Proofs.YtbcmpacmoofdkaaGreatDoor
/- Single reserved words, as the program tells them. -/
namespace Go.Proofs.YtbcmpacmoofdkaaGreatDoor
open Go.ChangeShapes Go.WideShapes Go.ChangeAt Go.RowKit

set_option maxRecDepth 100000 in
set_option maxHeartbeats 4000000 in
theorem res_56 (w : World) : Calls Tryz.prog 109 #[.string ⟨#[45, 62]⟩] w fun e w' => e = .returned (.bool true) ∧ w' = w := by
  go_enter Tryz.func109, Tryz.ntmps109
  go_wp2
  go_ret
  exact ⟨rfl, rfl⟩

set_option maxRecDepth 100000 in
set_option maxHeartbeats 4000000 in
theorem res_53 (w : World) : Calls Tryz.prog 109 #[.string ⟨#[124]⟩] w fun e w' => e = .returned (.bool true) ∧ w' = w := by
  go_enter Tryz.func109, Tryz.ntmps109
  go_wp2
  go_ret
  exact ⟨rfl, rfl⟩

set_option maxRecDepth 100000 in
set_option maxHeartbeats 4000000 in
theorem res_50 (w : World) : Calls Tryz.prog 109 #[.string ⟨#[46, 46, 46]⟩] w fun e w' => e = .returned (.bool true) ∧ w' = w := by
  go_enter Tryz.func109, Tryz.ntmps109
  go_wp2
  go_ret
  exact ⟨rfl, rfl⟩

set_option maxRecDepth 100000 in
set_option maxHeartbeats 4000000 in
theorem res_47 (w : World) : Calls Tryz.prog 109 #[.string ⟨#[44]⟩] w fun e w' => e = .returned (.bool true) ∧ w' = w := by
  go_enter Tryz.func109, Tryz.ntmps109
  go_wp2
  go_ret
  exact ⟨rfl, rfl⟩

set_option maxRecDepth 100000 in
set_option maxHeartbeats 4000000 in
theorem res_44 (w : World) : Calls Tryz.prog 109 #[.string ⟨#[93]⟩] w fun e w' => e = .returned (.bool true) ∧ w' = w := by
  go_enter Tryz.func109, Tryz.ntmps109
  go_wp2
  go_ret
  exact ⟨rfl, rfl⟩

set_option maxRecDepth 100000 in
set_option maxHeartbeats 4000000 in
theorem res_41 (w : World) : Calls Tryz.prog 109 #[.string ⟨#[40]⟩] w fun e w' => e = .returned (.bool true) ∧ w' = w := by
  go_enter Tryz.func109, Tryz.ntmps109
  go_wp2
  go_ret
  exact ⟨rfl, rfl⟩

set_option maxRecDepth 100000 in
set_option maxHeartbeats 4000000 in
theorem res_38 (w : World) : Calls Tryz.prog 109 #[.string ⟨#[119, 104, 105, 108, 101]⟩] w fun e w' => e = .returned (.bool true) ∧ w' = w := by
  go_enter Tryz.func109, Tryz.ntmps109
  go_wp2
  go_ret
  exact ⟨rfl, rfl⟩

set_option maxRecDepth 100000 in
set_option maxHeartbeats 4000000 in
theorem res_35 (w : World) : Calls Tryz.prog 109 #[.string ⟨#[116, 121, 112, 101]⟩] w fun e w' => e = .returned (.bool true) ∧ w' = w := by
  go_enter Tryz.func109, Tryz.ntmps109
  go_wp2
  go_ret
  exact ⟨rfl, rfl⟩

set_option maxRecDepth 100000 in
set_option maxHeartbeats 4000000 in
theorem res_32 (w : World) : Calls Tryz.prog 109 #[.string ⟨#[115, 116, 114, 117, 99, 116]⟩] w fun e w' => e = .returned (.bool true) ∧ w' = w := by
  go_enter Tryz.func109, Tryz.ntmps109
  go_wp2
  go_ret
  exact ⟨rfl, rfl⟩

set_option maxRecDepth 100000 in
set_option maxHeartbeats 4000000 in
theorem res_29 (w : World) : Calls Tryz.prog 109 #[.string ⟨#[115, 104, 97, 114, 105, 110, 103]⟩] w fun e w' => e = .returned (.bool true) ∧ w' = w := by
  go_enter Tryz.func109, Tryz.ntmps109
  go_wp2
  go_ret
  exact ⟨rfl, rfl⟩

set_option maxRecDepth 100000 in
set_option maxHeartbeats 4000000 in
theorem res_26 (w : World) : Calls Tryz.prog 109 #[.string ⟨#[111, 114, 101, 108, 115, 101]⟩] w fun e w' => e = .returned (.bool true) ∧ w' = w := by
  go_enter Tryz.func109, Tryz.ntmps109
  go_wp2
  go_ret
  exact ⟨rfl, rfl⟩

set_option maxRecDepth 100000 in
set_option maxHeartbeats 4000000 in
theorem res_23 (w : World) : Calls Tryz.prog 109 #[.string ⟨#[111, 102]⟩] w fun e w' => e = .returned (.bool true) ∧ w' = w := by
  go_enter Tryz.func109, Tryz.ntmps109
  go_wp2
  go_ret
  exact ⟨rfl, rfl⟩

set_option maxRecDepth 100000 in
set_option maxHeartbeats 4000000 in
theorem res_20 (w : World) : Calls Tryz.prog 109 #[.string ⟨#[108, 101, 116]⟩] w fun e w' => e = .returned (.bool true) ∧ w' = w := by
  go_enter Tryz.func109, Tryz.ntmps109
  go_wp2
  go_ret
  exact ⟨rfl, rfl⟩

set_option maxRecDepth 100000 in
set_option maxHeartbeats 4000000 in
theorem res_17 (w : World) : Calls Tryz.prog 109 #[.string ⟨#[105, 110, 99, 108, 117, 100, 101]⟩] w fun e w' => e = .returned (.bool true) ∧ w' = w := by
  go_enter Tryz.func109, Tryz.ntmps109
  go_wp2
  go_ret
  exact ⟨rfl, rfl⟩

set_option maxRecDepth 100000 in
set_option maxHeartbeats 4000000 in
theorem res_14 (w : World) : Calls Tryz.prog 109 #[.string ⟨#[104, 97, 110, 100, 108, 101]⟩] w fun e w' => e = .returned (.bool true) ∧ w' = w := by
  go_enter Tryz.func109, Tryz.ntmps109
  go_wp2
  go_ret
  exact ⟨rfl, rfl⟩

set_option maxRecDepth 100000 in
set_option maxHeartbeats 4000000 in
theorem res_11 (w : World) : Calls Tryz.prog 109 #[.string ⟨#[102, 110]⟩] w fun e w' => e = .returned (.bool true) ∧ w' = w := by
  go_enter Tryz.func109, Tryz.ntmps109
  go_wp2
  go_ret
  exact ⟨rfl, rfl⟩

set_option maxRecDepth 100000 in
set_option maxHeartbeats 4000000 in
theorem res_8 (w : World) : Calls Tryz.prog 109 #[.string ⟨#[101, 110, 100]⟩] w fun e w' => e = .returned (.bool true) ∧ w' = w := by
  go_enter Tryz.func109, Tryz.ntmps109
  go_wp2
  go_ret
  exact ⟨rfl, rfl⟩

set_option maxRecDepth 100000 in
set_option maxHeartbeats 4000000 in
theorem res_5 (w : World) : Calls Tryz.prog 109 #[.string ⟨#[100, 97, 116, 97, 116, 121, 112, 101]⟩] w fun e w' => e = .returned (.bool true) ∧ w' = w := by
  go_enter Tryz.func109, Tryz.ntmps109
  go_wp2
  go_ret
  exact ⟨rfl, rfl⟩

set_option maxRecDepth 100000 in
set_option maxHeartbeats 4000000 in
theorem res_2 (w : World) : Calls Tryz.prog 109 #[.string ⟨#[97, 110, 100, 97, 108, 115, 111]⟩] w fun e w' => e = .returned (.bool true) ∧ w' = w := by
  go_enter Tryz.func109, Tryz.ntmps109
  go_wp2
  go_ret
  exact ⟨rfl, rfl⟩
end Go.Proofs.YtbcmpacmoofdkaaGreatDoor
/- Single reserved words, as the program tells them. -/
namespace Go.Proofs.YtbcmpacmoofdkaaGreatDoor
open Go.ChangeShapes Go.WideShapes Go.ChangeAt Go.RowKit

set_option maxRecDepth 100000 in
set_option maxHeartbeats 4000000 in
theorem res_55 (w : World) : Calls Tryz.prog 109 #[.string ⟨#[61, 62]⟩] w fun e w' => e = .returned (.bool true) ∧ w' = w := by
  go_enter Tryz.func109, Tryz.ntmps109
  go_wp2
  go_ret
  exact ⟨rfl, rfl⟩

set_option maxRecDepth 100000 in
set_option maxHeartbeats 4000000 in
theorem res_54 (w : World) : Calls Tryz.prog 109 #[.string ⟨#[61]⟩] w fun e w' => e = .returned (.bool true) ∧ w' = w := by
  go_enter Tryz.func109, Tryz.ntmps109
  go_wp2
  go_ret
  exact ⟨rfl, rfl⟩

set_option maxRecDepth 100000 in
set_option maxHeartbeats 4000000 in
theorem res_49 (w : World) : Calls Tryz.prog 109 #[.string ⟨#[95]⟩] w fun e w' => e = .returned (.bool true) ∧ w' = w := by
  go_enter Tryz.func109, Tryz.ntmps109
  go_wp2
  go_ret
  exact ⟨rfl, rfl⟩

set_option maxRecDepth 100000 in
set_option maxHeartbeats 4000000 in
theorem res_48 (w : World) : Calls Tryz.prog 109 #[.string ⟨#[59]⟩] w fun e w' => e = .returned (.bool true) ∧ w' = w := by
  go_enter Tryz.func109, Tryz.ntmps109
  go_wp2
  go_ret
  exact ⟨rfl, rfl⟩

set_option maxRecDepth 100000 in
set_option maxHeartbeats 4000000 in
theorem res_43 (w : World) : Calls Tryz.prog 109 #[.string ⟨#[91]⟩] w fun e w' => e = .returned (.bool true) ∧ w' = w := by
  go_enter Tryz.func109, Tryz.ntmps109
  go_wp2
  go_ret
  exact ⟨rfl, rfl⟩

set_option maxRecDepth 100000 in
set_option maxHeartbeats 4000000 in
theorem res_42 (w : World) : Calls Tryz.prog 109 #[.string ⟨#[41]⟩] w fun e w' => e = .returned (.bool true) ∧ w' = w := by
  go_enter Tryz.func109, Tryz.ntmps109
  go_wp2
  go_ret
  exact ⟨rfl, rfl⟩

set_option maxRecDepth 100000 in
set_option maxHeartbeats 4000000 in
theorem res_37 (w : World) : Calls Tryz.prog 109 #[.string ⟨#[119, 104, 101, 114, 101]⟩] w fun e w' => e = .returned (.bool true) ∧ w' = w := by
  go_enter Tryz.func109, Tryz.ntmps109
  go_wp2
  go_ret
  exact ⟨rfl, rfl⟩

set_option maxRecDepth 100000 in
set_option maxHeartbeats 4000000 in
theorem res_36 (w : World) : Calls Tryz.prog 109 #[.string ⟨#[118, 97, 108]⟩] w fun e w' => e = .returned (.bool true) ∧ w' = w := by
  go_enter Tryz.func109, Tryz.ntmps109
  go_wp2
  go_ret
  exact ⟨rfl, rfl⟩

set_option maxRecDepth 100000 in
set_option maxHeartbeats 4000000 in
theorem res_31 (w : World) : Calls Tryz.prog 109 #[.string ⟨#[115, 105, 103, 110, 97, 116, 117, 114, 101]⟩] w fun e w' => e = .returned (.bool true) ∧ w' = w := by
  go_enter Tryz.func109, Tryz.ntmps109
  go_wp2
  go_ret
  exact ⟨rfl, rfl⟩

set_option maxRecDepth 100000 in
set_option maxHeartbeats 4000000 in
theorem res_30 (w : World) : Calls Tryz.prog 109 #[.string ⟨#[115, 105, 103]⟩] w fun e w' => e = .returned (.bool true) ∧ w' = w := by
  go_enter Tryz.func109, Tryz.ntmps109
  go_wp2
  go_ret
  exact ⟨rfl, rfl⟩

set_option maxRecDepth 100000 in
set_option maxHeartbeats 4000000 in
theorem res_25 (w : World) : Calls Tryz.prog 109 #[.string ⟨#[111, 112, 101, 110]⟩] w fun e w' => e = .returned (.bool true) ∧ w' = w := by
  go_enter Tryz.func109, Tryz.ntmps109
  go_wp2
  go_ret
  exact ⟨rfl, rfl⟩

set_option maxRecDepth 100000 in
set_option maxHeartbeats 4000000 in
theorem res_24 (w : World) : Calls Tryz.prog 109 #[.string ⟨#[111, 112]⟩] w fun e w' => e = .returned (.bool true) ∧ w' = w := by
  go_enter Tryz.func109, Tryz.ntmps109
  go_wp2
  go_ret
  exact ⟨rfl, rfl⟩

set_option maxRecDepth 100000 in
set_option maxHeartbeats 4000000 in
theorem res_19 (w : World) : Calls Tryz.prog 109 #[.string ⟨#[105, 110, 102, 105, 120, 114]⟩] w fun e w' => e = .returned (.bool true) ∧ w' = w := by
  go_enter Tryz.func109, Tryz.ntmps109
  go_wp2
  go_ret
  exact ⟨rfl, rfl⟩

set_option maxRecDepth 100000 in
set_option maxHeartbeats 4000000 in
theorem res_18 (w : World) : Calls Tryz.prog 109 #[.string ⟨#[105, 110, 102, 105, 120]⟩] w fun e w' => e = .returned (.bool true) ∧ w' = w := by
  go_enter Tryz.func109, Tryz.ntmps109
  go_wp2
  go_ret
  exact ⟨rfl, rfl⟩

set_option maxRecDepth 100000 in
set_option maxHeartbeats 4000000 in
theorem res_13 (w : World) : Calls Tryz.prog 109 #[.string ⟨#[102, 117, 110, 99, 116, 111, 114]⟩] w fun e w' => e = .returned (.bool true) ∧ w' = w := by
  go_enter Tryz.func109, Tryz.ntmps109
  go_wp2
  go_ret
  exact ⟨rfl, rfl⟩

set_option maxRecDepth 100000 in
set_option maxHeartbeats 4000000 in
theorem res_12 (w : World) : Calls Tryz.prog 109 #[.string ⟨#[102, 117, 110]⟩] w fun e w' => e = .returned (.bool true) ∧ w' = w := by
  go_enter Tryz.func109, Tryz.ntmps109
  go_wp2
  go_ret
  exact ⟨rfl, rfl⟩

set_option maxRecDepth 100000 in
set_option maxHeartbeats 4000000 in
theorem res_7 (w : World) : Calls Tryz.prog 109 #[.string ⟨#[101, 108, 115, 101]⟩] w fun e w' => e = .returned (.bool true) ∧ w' = w := by
  go_enter Tryz.func109, Tryz.ntmps109
  go_wp2
  go_ret
  exact ⟨rfl, rfl⟩

set_option maxRecDepth 100000 in
set_option maxHeartbeats 4000000 in
theorem res_6 (w : World) : Calls Tryz.prog 109 #[.string ⟨#[100, 111]⟩] w fun e w' => e = .returned (.bool true) ∧ w' = w := by
  go_enter Tryz.func109, Tryz.ntmps109
  go_wp2
  go_ret
  exact ⟨rfl, rfl⟩

set_option maxRecDepth 100000 in
set_option maxHeartbeats 4000000 in
theorem res_1 (w : World) : Calls Tryz.prog 109 #[.string ⟨#[97, 110, 100]⟩] w fun e w' => e = .returned (.bool true) ∧ w' = w := by
  go_enter Tryz.func109, Tryz.ntmps109
  go_wp2
  go_ret
  exact ⟨rfl, rfl⟩

set_option maxRecDepth 100000 in
set_option maxHeartbeats 4000000 in
theorem res_0 (w : World) : Calls Tryz.prog 109 #[.string ⟨#[97, 98, 115, 116, 121, 112, 101]⟩] w fun e w' => e = .returned (.bool true) ∧ w' = w := by
  go_enter Tryz.func109, Tryz.ntmps109
  go_wp2
  go_ret
  exact ⟨rfl, rfl⟩
end Go.Proofs.YtbcmpacmoofdkaaGreatDoor
/- Which texts the program calls reserved. -/
namespace Go.Proofs.YtbcmpacmoofdkaaGreatDoor
open Go.ChangeShapes Go.WideShapes Go.ChangeAt Go.RowKit

theorem bytes_of {s : ByteArray} {l : List UInt8} (h : s.data.toList = l) : s = ⟨l.toArray⟩ := by
  apply ByteArray.ext; rw [← h]
theorem list_ne {s : ByteArray} {l : List UInt8} (h : ¬ s.data.toList = l) : (s.toList == l) = false := by rw [ByteArray.toList_eq]; simpa using h

set_option maxRecDepth 100000 in
set_option maxHeartbeats 8000000 in
theorem res_none (s : ByteArray) (h : ∀ l ∈ wordsL, (s.toList == l) = false) (w : World) : Calls Tryz.prog 109 #[.string s] w fun e w' => e = .returned (.bool false) ∧ w' = w := by
  have g0 : (s.toList == [97, 98, 115, 116, 121, 112, 101]) = false := h _ (by decide)
  have g1 : (s.toList == [97, 110, 100]) = false := h _ (by decide)
  have g2 : (s.toList == [97, 110, 100, 97, 108, 115, 111]) = false := h _ (by decide)
  have g3 : (s.toList == [97, 115]) = false := h _ (by decide)
  have g4 : (s.toList == [99, 97, 115, 101]) = false := h _ (by decide)
  have g5 : (s.toList == [100, 97, 116, 97, 116, 121, 112, 101]) = false := h _ (by decide)
  have g6 : (s.toList == [100, 111]) = false := h _ (by decide)
  have g7 : (s.toList == [101, 108, 115, 101]) = false := h _ (by decide)
  have g8 : (s.toList == [101, 110, 100]) = false := h _ (by decide)
  have g9 : (s.toList == [101, 113, 116, 121, 112, 101]) = false := h _ (by decide)
  have g10 : (s.toList == [101, 120, 99, 101, 112, 116, 105, 111, 110]) = false := h _ (by decide)
  have g11 : (s.toList == [102, 110]) = false := h _ (by decide)
  have g12 : (s.toList == [102, 117, 110]) = false := h _ (by decide)
  have g13 : (s.toList == [102, 117, 110, 99, 116, 111, 114]) = false := h _ (by decide)
  have g14 : (s.toList == [104, 97, 110, 100, 108, 101]) = false := h _ (by decide)
  have g15 : (s.toList == [105, 102]) = false := h _ (by decide)
  have g16 : (s.toList == [105, 110]) = false := h _ (by decide)
  have g17 : (s.toList == [105, 110, 99, 108, 117, 100, 101]) = false := h _ (by decide)
  have g18 : (s.toList == [105, 110, 102, 105, 120]) = false := h _ (by decide)
  have g19 : (s.toList == [105, 110, 102, 105, 120, 114]) = false := h _ (by decide)
  have g20 : (s.toList == [108, 101, 116]) = false := h _ (by decide)
  have g21 : (s.toList == [108, 111, 99, 97, 108]) = false := h _ (by decide)
  have g22 : (s.toList == [110, 111, 110, 102, 105, 120]) = false := h _ (by decide)
  have g23 : (s.toList == [111, 102]) = false := h _ (by decide)
  have g24 : (s.toList == [111, 112]) = false := h _ (by decide)
  have g25 : (s.toList == [111, 112, 101, 110]) = false := h _ (by decide)
  have g26 : (s.toList == [111, 114, 101, 108, 115, 101]) = false := h _ (by decide)
  have g27 : (s.toList == [114, 97, 105, 115, 101]) = false := h _ (by decide)
  have g28 : (s.toList == [114, 101, 99]) = false := h _ (by decide)
  have g29 : (s.toList == [115, 104, 97, 114, 105, 110, 103]) = false := h _ (by decide)
  have g30 : (s.toList == [115, 105, 103]) = false := h _ (by decide)
  have g31 : (s.toList == [115, 105, 103, 110, 97, 116, 117, 114, 101]) = false := h _ (by decide)
  have g32 : (s.toList == [115, 116, 114, 117, 99, 116]) = false := h _ (by decide)
  have g33 : (s.toList == [115, 116, 114, 117, 99, 116, 117, 114, 101]) = false := h _ (by decide)
  have g34 : (s.toList == [116, 104, 101, 110]) = false := h _ (by decide)
  have g35 : (s.toList == [116, 121, 112, 101]) = false := h _ (by decide)
  have g36 : (s.toList == [118, 97, 108]) = false := h _ (by decide)
  have g37 : (s.toList == [119, 104, 101, 114, 101]) = false := h _ (by decide)
  have g38 : (s.toList == [119, 104, 105, 108, 101]) = false := h _ (by decide)
  have g39 : (s.toList == [119, 105, 116, 104]) = false := h _ (by decide)
  have g40 : (s.toList == [119, 105, 116, 104, 116, 121, 112, 101]) = false := h _ (by decide)
  have g41 : (s.toList == [40]) = false := h _ (by decide)
  have g42 : (s.toList == [41]) = false := h _ (by decide)
  have g43 : (s.toList == [91]) = false := h _ (by decide)
  have g44 : (s.toList == [93]) = false := h _ (by decide)
  have g45 : (s.toList == [123]) = false := h _ (by decide)
  have g46 : (s.toList == [125]) = false := h _ (by decide)
  have g47 : (s.toList == [44]) = false := h _ (by decide)
  have g48 : (s.toList == [59]) = false := h _ (by decide)
  have g49 : (s.toList == [95]) = false := h _ (by decide)
  have g50 : (s.toList == [46, 46, 46]) = false := h _ (by decide)
  have g51 : (s.toList == [58]) = false := h _ (by decide)
  have g52 : (s.toList == [58, 62]) = false := h _ (by decide)
  have g53 : (s.toList == [124]) = false := h _ (by decide)
  have g54 : (s.toList == [61]) = false := h _ (by decide)
  have g55 : (s.toList == [61, 62]) = false := h _ (by decide)
  have g56 : (s.toList == [45, 62]) = false := h _ (by decide)
  have g57 : (s.toList == [35]) = false := h _ (by decide)
  clear h
  go_enter Tryz.func109, Tryz.ntmps109
  go_wp2
  go_ret
  exact ⟨rfl, rfl⟩

theorem dreserved_any (s : ByteArray) (w : World) : Calls Tryz.prog 109 #[.string s] w fun e w' => e = .returned (.bool (resL s.data.toList)) ∧ w' = w := by
  by_cases hm : s.data.toList ∈ wordsL
  · have e : resL s.data.toList = true := List.contains_iff_mem.2 hm
    rw [e]
    simp only [wordsL, List.mem_cons, List.not_mem_nil, or_false] at hm
    rcases hm with h | h | h | h | h | h | h | h | h | h | h | h | h | h | h | h | h | h | h | h | h | h | h | h | h | h | h | h | h | h | h | h | h | h | h | h | h | h | h | h | h | h | h | h | h | h | h | h | h | h | h | h | h | h | h | h | h | h
    · rw [bytes_of h]; exact res_0 w
    · rw [bytes_of h]; exact res_1 w
    · rw [bytes_of h]; exact res_2 w
    · rw [bytes_of h]; exact res_3 w
    · rw [bytes_of h]; exact res_4 w
    · rw [bytes_of h]; exact res_5 w
    · rw [bytes_of h]; exact res_6 w
    · rw [bytes_of h]; exact res_7 w
    · rw [bytes_of h]; exact res_8 w
    · rw [bytes_of h]; exact res_9 w
    · rw [bytes_of h]; exact res_10 w
    · rw [bytes_of h]; exact res_11 w
    · rw [bytes_of h]; exact res_12 w
    · rw [bytes_of h]; exact res_13 w
    · rw [bytes_of h]; exact res_14 w
    · rw [bytes_of h]; exact res_15 w
    · rw [bytes_of h]; exact res_16 w
    · rw [bytes_of h]; exact res_17 w
    · rw [bytes_of h]; exact res_18 w
    · rw [bytes_of h]; exact res_19 w
    · rw [bytes_of h]; exact res_20 w
    · rw [bytes_of h]; exact res_21 w
    · rw [bytes_of h]; exact res_22 w
    · rw [bytes_of h]; exact res_23 w
    · rw [bytes_of h]; exact res_24 w
    · rw [bytes_of h]; exact res_25 w
    · rw [bytes_of h]; exact res_26 w
    · rw [bytes_of h]; exact res_27 w
    · rw [bytes_of h]; exact res_28 w
    · rw [bytes_of h]; exact res_29 w
    · rw [bytes_of h]; exact res_30 w
    · rw [bytes_of h]; exact res_31 w
    · rw [bytes_of h]; exact res_32 w
    · rw [bytes_of h]; exact res_33 w
    · rw [bytes_of h]; exact res_34 w
    · rw [bytes_of h]; exact res_35 w
    · rw [bytes_of h]; exact res_36 w
    · rw [bytes_of h]; exact res_37 w
    · rw [bytes_of h]; exact res_38 w
    · rw [bytes_of h]; exact res_39 w
    · rw [bytes_of h]; exact res_40 w
    · rw [bytes_of h]; exact res_41 w
    · rw [bytes_of h]; exact res_42 w
    · rw [bytes_of h]; exact res_43 w
    · rw [bytes_of h]; exact res_44 w
    · rw [bytes_of h]; exact res_45 w
    · rw [bytes_of h]; exact res_46 w
    · rw [bytes_of h]; exact res_47 w
    · rw [bytes_of h]; exact res_48 w
    · rw [bytes_of h]; exact res_49 w
    · rw [bytes_of h]; exact res_50 w
    · rw [bytes_of h]; exact res_51 w
    · rw [bytes_of h]; exact res_52 w
    · rw [bytes_of h]; exact res_53 w
    · rw [bytes_of h]; exact res_54 w
    · rw [bytes_of h]; exact res_55 w
    · rw [bytes_of h]; exact res_56 w
    · rw [bytes_of h]; exact res_57 w
  · have e : resL s.data.toList = false := Bool.eq_false_iff.2 fun h => hm (List.contains_iff_mem.1 h)
    rw [e]
    exact res_none s (fun l hl => list_ne fun x => hm (x ▸ hl)) w
end Go.Proofs.YtbcmpacmoofdkaaGreatDoor
