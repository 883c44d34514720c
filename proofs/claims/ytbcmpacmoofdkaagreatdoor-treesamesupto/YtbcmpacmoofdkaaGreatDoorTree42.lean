/- parts, fits, suits at some kinds. -/
import Derived.Test.YtbcmpacmoofdkaaGreatDoorProg
import Derived.Test.YtbcmpacmoofdkaaGreatDoorTree41
import Derived.Test.YtbcmpacmoofdkaaGreatDoorTree17
import Derived.WalkKit
import Derived.ProofKit
import Derived.OpenShut
import Derived.Below
import Derived.WalkLawsBesides
import Derived.OwnWalk
import Derived.BigQuiet
import Derived.Deep.MidRow
import Derived.Deep.RegionHeld
import Derived.Deep.RegionHeld3
import Derived.WalkSmall
import Derived.Deep.DeepCutAuto
namespace Go.Proofs.YtbcmpacmoofdkaaGreatDoor
open Go.ChangeShapes Go.WideShapes Go.ChangeAt Go.RowKit

theorem infoPartS : (Tryz.prog.info? 94).map (·.size) = some 3 := by kernel_rfl
theorem part_end {w1 : World} {fn : Func} {p : Tmp} {g : Nat} (h : fn.results = #[.cell p 94]) {tmps : Array Value} {R : Ending → World → Prop} {u0 u1 u2 v0 v1 v2 : Value}
    (c : Three w1 g u0 u1 u2) (hp : tmps.getD p undef = .pointer (some ⟨g, 0, none⟩))
    (r : R (.returned (.agg #[v0, v1, v2])) (((w1.setCell ⟨g, 0, none⟩ v0).setCell ⟨g, 1, none⟩ v1).setCell ⟨g, 2, none⟩ v2)) :
    bodyPost Tryz.prog fn R Exit.ret { tmps := tmps, defers := [] } (((w1.setCell ⟨g, 0, none⟩ v0).setCell ⟨g, 1, none⟩ v1).setCell ⟨g, 2, none⟩ v2) := by
  have ht : w1.there g 0 [v0, v1, v2].length := by
    intro j hj
    simp only [List.length_cons, List.length_nil] at hj
    match j, hj with
    | 0, _ => exact ⟨by rw [c.c0]; rfl, c.f0⟩
    | 1, _ => exact ⟨by rw [c.c1]; rfl, c.f1⟩
    | 2, _ => exact ⟨by rw [c.c2]; rfl, c.f2⟩
  have hr := World.rangeAt_setCells_same w1 g 0 [v0, v1, v2] ht
  exact bodyPost_ret (results_one h _ _ g [v0, v1, v2] _ hp hr Tryz.underlying94 rfl infoPartS) rfl r

set_option maxRecDepth 100000 in
set_option maxHeartbeats 8000000 in
theorem part_one_any (k : Int) (w : World) : Calls Tryz.prog 81 #[.int .i64 k] w fun e w' => e = .returned (.agg #[.int .i64 k, .int .i64 1, .int .i64 1]) ∧ Below w.heap.size w w' := by
  obtain ⟨W0, hW0⟩ : ∃ W0, w.alloc (.cells #[.int .i64 0, .int .i64 0, .int .i64 0] 94) = W0 := ⟨_, rfl⟩
  have T0 : Three W0 w.heap.size (.int .i64 0) (.int .i64 0) (.int .i64 0) := by rw [← hW0]; exact three_new _ _ _ _ _
  have B0 : Below w.heap.size w W0 := by rw [← hW0]; exact (Below.refl _ _).alloc (Nat.le_refl _) _
  have HT0 := hide' T0
  have HB0 := hide' B0
  obtain ⟨c0, c1, c2, f0, f1, f2⟩ := T0
  clear B0
  go_enter Tryz.func81, Tryz.ntmps81
  go_upto_region 1 with fail
  try rw [hW0]
  clear hW0
  go_wp2_with fail
  refine part_end (w1 := W0) rfl HT0.out rfl ?_
  exact ⟨rfl, ((HB0.out.setCell (p := ⟨w.heap.size, 0, none⟩) (Nat.le_refl _) _).setCell (p := ⟨w.heap.size, 1, none⟩) (Nat.le_refl _) _).setCell (p := ⟨w.heap.size, 2, none⟩) (Nat.le_refl _) _⟩

set_option maxRecDepth 100000 in
set_option maxHeartbeats 8000000 in
theorem part_many_any (k : Int) (w : World) : Calls Tryz.prog 79 #[.int .i64 k] w fun e w' => e = .returned (.agg #[.int .i64 k, .int .i64 0, .int .i64 9223372036854775807]) ∧ Below w.heap.size w w' := by
  obtain ⟨W0, hW0⟩ : ∃ W0, w.alloc (.cells #[.int .i64 0, .int .i64 0, .int .i64 0] 94) = W0 := ⟨_, rfl⟩
  have T0 : Three W0 w.heap.size (.int .i64 0) (.int .i64 0) (.int .i64 0) := by rw [← hW0]; exact three_new _ _ _ _ _
  have B0 : Below w.heap.size w W0 := by rw [← hW0]; exact (Below.refl _ _).alloc (Nat.le_refl _) _
  have HT0 := hide' T0
  have HB0 := hide' B0
  obtain ⟨c0, c1, c2, f0, f1, f2⟩ := T0
  clear B0
  go_enter Tryz.func79, Tryz.ntmps79
  go_upto_region 1 with fail
  try rw [hW0]
  clear hW0
  go_wp2_with fail
  refine part_end (w1 := W0) rfl HT0.out rfl ?_
  exact ⟨rfl, ((HB0.out.setCell (p := ⟨w.heap.size, 0, none⟩) (Nat.le_refl _) _).setCell (p := ⟨w.heap.size, 1, none⟩) (Nat.le_refl _) _).setCell (p := ⟨w.heap.size, 2, none⟩) (Nat.le_refl _) _⟩

set_option maxRecDepth 100000 in
set_option maxHeartbeats 8000000 in
theorem part_some_any (k : Int) (w : World) : Calls Tryz.prog 82 #[.int .i64 k] w fun e w' => e = .returned (.agg #[.int .i64 k, .int .i64 1, .int .i64 9223372036854775807]) ∧ Below w.heap.size w w' := by
  obtain ⟨W0, hW0⟩ : ∃ W0, w.alloc (.cells #[.int .i64 0, .int .i64 0, .int .i64 0] 94) = W0 := ⟨_, rfl⟩
  have T0 : Three W0 w.heap.size (.int .i64 0) (.int .i64 0) (.int .i64 0) := by rw [← hW0]; exact three_new _ _ _ _ _
  have B0 : Below w.heap.size w W0 := by rw [← hW0]; exact (Below.refl _ _).alloc (Nat.le_refl _) _
  have HT0 := hide' T0
  have HB0 := hide' B0
  obtain ⟨c0, c1, c2, f0, f1, f2⟩ := T0
  clear B0
  go_enter Tryz.func82, Tryz.ntmps82
  go_upto_region 1 with fail
  try rw [hW0]
  clear hW0
  go_wp2_with fail
  refine part_end (w1 := W0) rfl HT0.out rfl ?_
  exact ⟨rfl, ((HB0.out.setCell (p := ⟨w.heap.size, 0, none⟩) (Nat.le_refl _) _).setCell (p := ⟨w.heap.size, 1, none⟩) (Nat.le_refl _) _).setCell (p := ⟨w.heap.size, 2, none⟩) (Nat.le_refl _) _⟩

theorem rdPt_new (w : World) (cs : List Value) (ps : List (Int × Int × Int)) (n : Nat) (hn : ps.length = n) (hl : n ≤ 1000) (hc : ∀ j, j < n → cs[j * 3]? = some (.int .i64 (ps.getD j (0, 0, 0)).1) ∧ cs[j * 3 + 1]? = some (.int .i64 (ps.getD j (0, 0, 0)).2.1) ∧ cs[j * 3 + 2]? = some (.int .i64 (ps.getD j (0, 0, 0)).2.2)) : RdPt (w.alloc (.cells cs.toArray 94)).heap.size (w.alloc (.cells cs.toArray 94)) (.slice (some ⟨w.heap.size, 0, none⟩) n n) ps := by
  subst hn
  refine ⟨_, _, rfl, hl, fun j hj => ⟨w.heap.size, 0, rfl, by simp, ?_⟩⟩
  obtain ⟨h0, h1, h2⟩ := hc j hj
  simp only [Nat.zero_add]
  exact ⟨by rw [World.cell?_alloc_mark]; simpa using h0, by rw [World.cell?_alloc_mark]; simpa using h1, by rw [World.cell?_alloc_mark]; simpa using h2⟩

set_option maxRecDepth 100000 in
set_option maxHeartbeats 8000000 in
theorem p0_1 (w : World) : Calls Tryz.prog 44 #[.int .i64 1] w fun e w' => e = .returned (.tuple #[.slice none 0 0, .bool true]) ∧ w' = w := by
  go_enter Tryz.func44, Tryz.ntmps44
  go_wp2
  go_ret2
  exact ⟨rfl, rfl⟩

set_option maxRecDepth 100000 in
set_option maxHeartbeats 8000000 in
theorem p0_10 (w : World) : Calls Tryz.prog 44 #[.int .i64 10] w fun e w' => e = .returned (.tuple #[.slice none 0 0, .bool true]) ∧ w' = w := by
  go_enter Tryz.func44, Tryz.ntmps44
  go_wp2
  go_ret2
  exact ⟨rfl, rfl⟩

set_option maxRecDepth 100000 in
set_option maxHeartbeats 8000000 in
theorem p0_13 (w : World) : Calls Tryz.prog 44 #[.int .i64 13] w fun e w' => ∃ g : Nat, e = .returned (.tuple #[.slice (some ⟨g, 0, none⟩) 1 1, .bool true]) ∧ RdPt w'.heap.size w' (.slice (some ⟨g, 0, none⟩) 1 1) [(-1, 0, 9223372036854775807)] ∧ Below w.heap.size w w' := by
  have C0 := hide' (fun W => part_many_any (-1) W)
  go_enter Tryz.func44, Tryz.ntmps44
  go_wp2_with (go_at_call 79; refine (C0.out _).mono ?_; clear C0; rintro e w1 ⟨rfl, b1⟩)
  go_ret2
  refine ⟨_, rfl, rdPt_new w1 [.int .i64 (-1), .int .i64 0, .int .i64 9223372036854775807] [(-1, 0, 9223372036854775807)] 1 rfl (by decide) (fun j hj => ?_), b1.alloc b1.size _⟩
  match j, hj with
    | 0, _ => exact ⟨rfl, rfl, rfl⟩

set_option maxRecDepth 100000 in
set_option maxHeartbeats 8000000 in
theorem p0_17 (w : World) : Calls Tryz.prog 44 #[.int .i64 17] w fun e w' => ∃ g : Nat, e = .returned (.tuple #[.slice (some ⟨g, 0, none⟩) 2 2, .bool true]) ∧ RdPt w'.heap.size w' (.slice (some ⟨g, 0, none⟩) 2 2) [(-1, 1, 1), (-1, 1, 1)] ∧ Below w.heap.size w w' := by
  have C0 := hide' (fun W => part_one_any (-1) W)
  have C1 := hide' (fun W => part_one_any (-1) W)
  go_enter Tryz.func44, Tryz.ntmps44
  go_wp2_with (first | (go_at_call 81; refine (C0.out _).mono ?_; clear C0; rintro e w1 ⟨rfl, b1⟩) | (go_at_call 81; refine (C1.out _).mono ?_; clear C1; rintro e w2 ⟨rfl, b2⟩; (have B2 := b1.trans (b2.mono b1.size))))
  go_ret2
  refine ⟨_, rfl, rdPt_new w2 [.int .i64 (-1), .int .i64 1, .int .i64 1, .int .i64 (-1), .int .i64 1, .int .i64 1] [(-1, 1, 1), (-1, 1, 1)] 2 rfl (by decide) (fun j hj => ?_), B2.alloc B2.size _⟩
  match j, hj with
    | 0, _ => exact ⟨rfl, rfl, rfl⟩
    | 1, _ => exact ⟨rfl, rfl, rfl⟩

set_option maxRecDepth 100000 in
set_option maxHeartbeats 8000000 in
theorem p0_31 (w : World) : Calls Tryz.prog 44 #[.int .i64 31] w fun e w' => e = .returned (.tuple #[.slice none 0 0, .bool false]) ∧ w' = w := by
  go_enter Tryz.func44, Tryz.ntmps44
  go_wp2
  go_ret2
  exact ⟨rfl, rfl⟩

set_option maxRecDepth 100000 in
set_option maxHeartbeats 8000000 in
theorem p1_31 (w : World) : Calls Tryz.prog 45 #[.int .i64 31] w fun e w' => e = .returned (.tuple #[.slice none 0 0, .bool true]) ∧ w' = w := by
  go_enter Tryz.func45, Tryz.ntmps45
  go_wp2
  go_ret2
  exact ⟨rfl, rfl⟩

set_option maxRecDepth 100000 in
set_option maxHeartbeats 8000000 in
theorem p0_50 (w : World) : Calls Tryz.prog 44 #[.int .i64 50] w fun e w' => e = .returned (.tuple #[.slice none 0 0, .bool false]) ∧ w' = w := by
  go_enter Tryz.func44, Tryz.ntmps44
  go_wp2
  go_ret2
  exact ⟨rfl, rfl⟩

set_option maxRecDepth 100000 in
set_option maxHeartbeats 8000000 in
theorem p1_50 (w : World) : Calls Tryz.prog 45 #[.int .i64 50] w fun e w' => e = .returned (.tuple #[.slice none 0 0, .bool false]) ∧ w' = w := by
  go_enter Tryz.func45, Tryz.ntmps45
  go_wp2
  go_ret2
  exact ⟨rfl, rfl⟩

set_option maxRecDepth 100000 in
set_option maxHeartbeats 8000000 in
theorem p2_50 (w : World) : Calls Tryz.prog 46 #[.int .i64 50] w fun e w' => ∃ g : Nat, e = .returned (.tuple #[.slice (some ⟨g, 0, none⟩) 1 1, .bool true]) ∧ RdPt w'.heap.size w' (.slice (some ⟨g, 0, none⟩) 1 1) [(-4, 0, 9223372036854775807)] ∧ Below w.heap.size w w' := by
  have C0 := hide' (fun W => part_many_any (-4) W)
  go_enter Tryz.func46, Tryz.ntmps46
  go_wp2_with (go_at_call 79; refine (C0.out _).mono ?_; clear C0; rintro e w1 ⟨rfl, b1⟩)
  go_ret2
  refine ⟨_, rfl, rdPt_new w1 [.int .i64 (-4), .int .i64 0, .int .i64 9223372036854775807] [(-4, 0, 9223372036854775807)] 1 rfl (by decide) (fun j hj => ?_), b1.alloc b1.size _⟩
  match j, hj with
    | 0, _ => exact ⟨rfl, rfl, rfl⟩

set_option maxRecDepth 100000 in
set_option maxHeartbeats 8000000 in
theorem p0_51 (w : World) : Calls Tryz.prog 44 #[.int .i64 51] w fun e w' => e = .returned (.tuple #[.slice none 0 0, .bool false]) ∧ w' = w := by
  go_enter Tryz.func44, Tryz.ntmps44
  go_wp2
  go_ret2
  exact ⟨rfl, rfl⟩

set_option maxRecDepth 100000 in
set_option maxHeartbeats 8000000 in
theorem p1_51 (w : World) : Calls Tryz.prog 45 #[.int .i64 51] w fun e w' => e = .returned (.tuple #[.slice none 0 0, .bool false]) ∧ w' = w := by
  go_enter Tryz.func45, Tryz.ntmps45
  go_wp2
  go_ret2
  exact ⟨rfl, rfl⟩

set_option maxRecDepth 100000 in
set_option maxHeartbeats 8000000 in
theorem p2_51 (w : World) : Calls Tryz.prog 46 #[.int .i64 51] w fun e w' => ∃ g : Nat, e = .returned (.tuple #[.slice (some ⟨g, 0, none⟩) 1 1, .bool true]) ∧ RdPt w'.heap.size w' (.slice (some ⟨g, 0, none⟩) 1 1) [(53, 1, 9223372036854775807)] ∧ Below w.heap.size w w' := by
  have C0 := hide' (fun W => part_some_any 53 W)
  go_enter Tryz.func46, Tryz.ntmps46
  go_wp2_with (go_at_call 82; refine (C0.out _).mono ?_; clear C0; rintro e w1 ⟨rfl, b1⟩)
  go_ret2
  refine ⟨_, rfl, rdPt_new w1 [.int .i64 53, .int .i64 1, .int .i64 9223372036854775807] [(53, 1, 9223372036854775807)] 1 rfl (by decide) (fun j hj => ?_), b1.alloc b1.size _⟩
  match j, hj with
    | 0, _ => exact ⟨rfl, rfl, rfl⟩

set_option maxRecDepth 100000 in
set_option maxHeartbeats 8000000 in
theorem p0_53 (w : World) : Calls Tryz.prog 44 #[.int .i64 53] w fun e w' => e = .returned (.tuple #[.slice none 0 0, .bool false]) ∧ w' = w := by
  go_enter Tryz.func44, Tryz.ntmps44
  go_wp2
  go_ret2
  exact ⟨rfl, rfl⟩

set_option maxRecDepth 100000 in
set_option maxHeartbeats 8000000 in
theorem p1_53 (w : World) : Calls Tryz.prog 45 #[.int .i64 53] w fun e w' => e = .returned (.tuple #[.slice none 0 0, .bool false]) ∧ w' = w := by
  go_enter Tryz.func45, Tryz.ntmps45
  go_wp2
  go_ret2
  exact ⟨rfl, rfl⟩

set_option maxRecDepth 100000 in
set_option maxHeartbeats 8000000 in
theorem p2_53 (w : World) : Calls Tryz.prog 46 #[.int .i64 53] w fun e w' => ∃ g : Nat, e = .returned (.tuple #[.slice (some ⟨g, 0, none⟩) 2 2, .bool true]) ∧ RdPt w'.heap.size w' (.slice (some ⟨g, 0, none⟩) 2 2) [(-2, 1, 1), (-1, 1, 1)] ∧ Below w.heap.size w w' := by
  have C0 := hide' (fun W => part_one_any (-2) W)
  have C1 := hide' (fun W => part_one_any (-1) W)
  go_enter Tryz.func46, Tryz.ntmps46
  go_wp2_with (first | (go_at_call 81; refine (C0.out _).mono ?_; clear C0; rintro e w1 ⟨rfl, b1⟩) | (go_at_call 81; refine (C1.out _).mono ?_; clear C1; rintro e w2 ⟨rfl, b2⟩; (have B2 := b1.trans (b2.mono b1.size))))
  go_ret2
  refine ⟨_, rfl, rdPt_new w2 [.int .i64 (-2), .int .i64 1, .int .i64 1, .int .i64 (-1), .int .i64 1, .int .i64 1] [(-2, 1, 1), (-1, 1, 1)] 2 rfl (by decide) (fun j hj => ?_), B2.alloc B2.size _⟩
  match j, hj with
    | 0, _ => exact ⟨rfl, rfl, rfl⟩
    | 1, _ => exact ⟨rfl, rfl, rfl⟩

def areaV : Value := .agg #[.func (.func 44) #[] #[], .func (.func 45) #[] #[], .func (.func 46) #[] #[], .func (.func 47) #[] #[]]
theorem area_0 (W : World) : (Instr.index 92 areaV (.int .i64 0)).run Tryz.prog W = .ok (.func (.func 44) #[] #[]) W := by kernel_rfl
theorem area_1 (W : World) : (Instr.index 92 areaV (.int .i64 1)).run Tryz.prog W = .ok (.func (.func 45) #[] #[]) W := by kernel_rfl
theorem area_2 (W : World) : (Instr.index 92 areaV (.int .i64 2)).run Tryz.prog W = .ok (.func (.func 46) #[] #[]) W := by kernel_rfl

set_option maxRecDepth 100000 in
set_option maxHeartbeats 8000000 in
theorem partsOf_1 (w : World) : Calls Tryz.prog 24 #[.int .i64 1] w fun e w' => e = .returned (.tuple #[.slice none 0 0, .bool true]) ∧ Below w.heap.size w w' := by
  have i0 := area_0
  have i1 := area_1
  have i2 := area_2
  unfold areaV at i0 i1 i2
  go_enter Tryz.func24, Tryz.ntmps24
  go_wp2_with fail
  go_loopw [9] (fun v wr => (v = .int .i64 0) ∧ wr = w) (fun v _ => 4 - (intOf v).toNat)
  case atStart => exact ⟨rfl, rfl⟩
  case round =>
    obtain ⟨hv, hw⟩ := hrel
    subst hw
    rcases hv with rfl
    · go_wp2_with (go_at_call 44; refine (p0_1 _).mono ?_; rintro e w' ⟨rfl, rfl⟩)
      go_ret2
      exact ⟨rfl, Below.refl _ _⟩

set_option maxRecDepth 100000 in
set_option maxHeartbeats 8000000 in
theorem partsOf_10 (w : World) : Calls Tryz.prog 24 #[.int .i64 10] w fun e w' => e = .returned (.tuple #[.slice none 0 0, .bool true]) ∧ Below w.heap.size w w' := by
  have i0 := area_0
  have i1 := area_1
  have i2 := area_2
  unfold areaV at i0 i1 i2
  go_enter Tryz.func24, Tryz.ntmps24
  go_wp2_with fail
  go_loopw [9] (fun v wr => (v = .int .i64 0) ∧ wr = w) (fun v _ => 4 - (intOf v).toNat)
  case atStart => exact ⟨rfl, rfl⟩
  case round =>
    obtain ⟨hv, hw⟩ := hrel
    subst hw
    rcases hv with rfl
    · go_wp2_with (go_at_call 44; refine (p0_10 _).mono ?_; rintro e w' ⟨rfl, rfl⟩)
      go_ret2
      exact ⟨rfl, Below.refl _ _⟩

set_option maxRecDepth 100000 in
set_option maxHeartbeats 8000000 in
theorem partsOf_13 (w : World) : Calls Tryz.prog 24 #[.int .i64 13] w fun e w' => ∃ g : Nat, e = .returned (.tuple #[.slice (some ⟨g, 0, none⟩) 1 1, .bool true]) ∧ RdPt w'.heap.size w' (.slice (some ⟨g, 0, none⟩) 1 1) [(-1, 0, 9223372036854775807)] ∧ Below w.heap.size w w' := by
  have i0 := area_0
  have i1 := area_1
  have i2 := area_2
  unfold areaV at i0 i1 i2
  go_enter Tryz.func24, Tryz.ntmps24
  go_wp2_with fail
  go_loopw [9] (fun v wr => (v = .int .i64 0) ∧ wr = w) (fun v _ => 4 - (intOf v).toNat)
  case atStart => exact ⟨rfl, rfl⟩
  case round =>
    obtain ⟨hv, hw⟩ := hrel
    subst hw
    rcases hv with rfl
    · go_wp2_with (go_at_call 44; refine (p0_13 _).mono ?_; rintro e w' ⟨g, rfl, hr, hb⟩)
      go_ret2
      exact ⟨g, rfl, hr, hb⟩

set_option maxRecDepth 100000 in
set_option maxHeartbeats 8000000 in
theorem partsOf_17 (w : World) : Calls Tryz.prog 24 #[.int .i64 17] w fun e w' => ∃ g : Nat, e = .returned (.tuple #[.slice (some ⟨g, 0, none⟩) 2 2, .bool true]) ∧ RdPt w'.heap.size w' (.slice (some ⟨g, 0, none⟩) 2 2) [(-1, 1, 1), (-1, 1, 1)] ∧ Below w.heap.size w w' := by
  have i0 := area_0
  have i1 := area_1
  have i2 := area_2
  unfold areaV at i0 i1 i2
  go_enter Tryz.func24, Tryz.ntmps24
  go_wp2_with fail
  go_loopw [9] (fun v wr => (v = .int .i64 0) ∧ wr = w) (fun v _ => 4 - (intOf v).toNat)
  case atStart => exact ⟨rfl, rfl⟩
  case round =>
    obtain ⟨hv, hw⟩ := hrel
    subst hw
    rcases hv with rfl
    · go_wp2_with (go_at_call 44; refine (p0_17 _).mono ?_; rintro e w' ⟨g, rfl, hr, hb⟩)
      go_ret2
      exact ⟨g, rfl, hr, hb⟩

set_option maxRecDepth 100000 in
set_option maxHeartbeats 8000000 in
theorem partsOf_31 (w : World) : Calls Tryz.prog 24 #[.int .i64 31] w fun e w' => e = .returned (.tuple #[.slice none 0 0, .bool true]) ∧ Below w.heap.size w w' := by
  have i0 := area_0
  have i1 := area_1
  have i2 := area_2
  unfold areaV at i0 i1 i2
  go_enter Tryz.func24, Tryz.ntmps24
  go_wp2_with fail
  go_loopw [9] (fun v wr => (v = .int .i64 0 ∨ v = .int .i64 1) ∧ wr = w) (fun v _ => 4 - (intOf v).toNat)
  case atStart => exact ⟨.inl rfl, rfl⟩
  case round =>
    obtain ⟨hv, hw⟩ := hrel
    subst hw
    rcases hv with rfl | rfl
    · go_wp2_with (go_at_call 44; refine (p0_31 _).mono ?_; rintro e w' ⟨rfl, rfl⟩)
      go_roundw
      case rel => first | (refine ⟨?_, rfl⟩; simp; done) | simp
      case measure => simp [intOf]
    · go_wp2_with (go_at_call 45; refine (p1_31 _).mono ?_; rintro e w' ⟨rfl, rfl⟩)
      go_ret2
      exact ⟨rfl, Below.refl _ _⟩

set_option maxRecDepth 100000 in
set_option maxHeartbeats 8000000 in
theorem partsOf_50 (w : World) : Calls Tryz.prog 24 #[.int .i64 50] w fun e w' => ∃ g : Nat, e = .returned (.tuple #[.slice (some ⟨g, 0, none⟩) 1 1, .bool true]) ∧ RdPt w'.heap.size w' (.slice (some ⟨g, 0, none⟩) 1 1) [(-4, 0, 9223372036854775807)] ∧ Below w.heap.size w w' := by
  have i0 := area_0
  have i1 := area_1
  have i2 := area_2
  unfold areaV at i0 i1 i2
  go_enter Tryz.func24, Tryz.ntmps24
  go_wp2_with fail
  go_loopw [9] (fun v wr => (v = .int .i64 0 ∨ v = .int .i64 1 ∨ v = .int .i64 2) ∧ wr = w) (fun v _ => 4 - (intOf v).toNat)
  case atStart => exact ⟨.inl rfl, rfl⟩
  case round =>
    obtain ⟨hv, hw⟩ := hrel
    subst hw
    rcases hv with rfl | rfl | rfl
    · go_wp2_with (go_at_call 44; refine (p0_50 _).mono ?_; rintro e w' ⟨rfl, rfl⟩)
      go_roundw
      case rel => first | (refine ⟨?_, rfl⟩; simp; done) | simp
      case measure => simp [intOf]
    · go_wp2_with (go_at_call 45; refine (p1_50 _).mono ?_; rintro e w' ⟨rfl, rfl⟩)
      go_roundw
      case rel => first | (refine ⟨?_, rfl⟩; simp; done) | simp
      case measure => simp [intOf]
    · go_wp2_with (go_at_call 46; refine (p2_50 _).mono ?_; rintro e w' ⟨g, rfl, hr, hb⟩)
      go_ret2
      exact ⟨g, rfl, hr, hb⟩

set_option maxRecDepth 100000 in
set_option maxHeartbeats 8000000 in
theorem partsOf_51 (w : World) : Calls Tryz.prog 24 #[.int .i64 51] w fun e w' => ∃ g : Nat, e = .returned (.tuple #[.slice (some ⟨g, 0, none⟩) 1 1, .bool true]) ∧ RdPt w'.heap.size w' (.slice (some ⟨g, 0, none⟩) 1 1) [(53, 1, 9223372036854775807)] ∧ Below w.heap.size w w' := by
  have i0 := area_0
  have i1 := area_1
  have i2 := area_2
  unfold areaV at i0 i1 i2
  go_enter Tryz.func24, Tryz.ntmps24
  go_wp2_with fail
  go_loopw [9] (fun v wr => (v = .int .i64 0 ∨ v = .int .i64 1 ∨ v = .int .i64 2) ∧ wr = w) (fun v _ => 4 - (intOf v).toNat)
  case atStart => exact ⟨.inl rfl, rfl⟩
  case round =>
    obtain ⟨hv, hw⟩ := hrel
    subst hw
    rcases hv with rfl | rfl | rfl
    · go_wp2_with (go_at_call 44; refine (p0_51 _).mono ?_; rintro e w' ⟨rfl, rfl⟩)
      go_roundw
      case rel => first | (refine ⟨?_, rfl⟩; simp; done) | simp
      case measure => simp [intOf]
    · go_wp2_with (go_at_call 45; refine (p1_51 _).mono ?_; rintro e w' ⟨rfl, rfl⟩)
      go_roundw
      case rel => first | (refine ⟨?_, rfl⟩; simp; done) | simp
      case measure => simp [intOf]
    · go_wp2_with (go_at_call 46; refine (p2_51 _).mono ?_; rintro e w' ⟨g, rfl, hr, hb⟩)
      go_ret2
      exact ⟨g, rfl, hr, hb⟩

set_option maxRecDepth 100000 in
set_option maxHeartbeats 8000000 in
theorem partsOf_53 (w : World) : Calls Tryz.prog 24 #[.int .i64 53] w fun e w' => ∃ g : Nat, e = .returned (.tuple #[.slice (some ⟨g, 0, none⟩) 2 2, .bool true]) ∧ RdPt w'.heap.size w' (.slice (some ⟨g, 0, none⟩) 2 2) [(-2, 1, 1), (-1, 1, 1)] ∧ Below w.heap.size w w' := by
  have i0 := area_0
  have i1 := area_1
  have i2 := area_2
  unfold areaV at i0 i1 i2
  go_enter Tryz.func24, Tryz.ntmps24
  go_wp2_with fail
  go_loopw [9] (fun v wr => (v = .int .i64 0 ∨ v = .int .i64 1 ∨ v = .int .i64 2) ∧ wr = w) (fun v _ => 4 - (intOf v).toNat)
  case atStart => exact ⟨.inl rfl, rfl⟩
  case round =>
    obtain ⟨hv, hw⟩ := hrel
    subst hw
    rcases hv with rfl | rfl | rfl
    · go_wp2_with (go_at_call 44; refine (p0_53 _).mono ?_; rintro e w' ⟨rfl, rfl⟩)
      go_roundw
      case rel => first | (refine ⟨?_, rfl⟩; simp; done) | simp
      case measure => simp [intOf]
    · go_wp2_with (go_at_call 45; refine (p1_53 _).mono ?_; rintro e w' ⟨rfl, rfl⟩)
      go_roundw
      case rel => first | (refine ⟨?_, rfl⟩; simp; done) | simp
      case measure => simp [intOf]
    · go_wp2_with (go_at_call 46; refine (p2_53 _).mono ?_; rintro e w' ⟨g, rfl, hr, hb⟩)
      go_ret2
      exact ⟨g, rfl, hr, hb⟩

set_option maxRecDepth 100000 in
set_option maxHeartbeats 8000000 in
theorem fits_m1_1 (w : World) : Calls Tryz.prog 48 #[.int .i64 (-1), .int .i64 1] w fun e w' => e = .returned (.bool true) ∧ w' = w := by
  go_enter Tryz.func48, Tryz.ntmps48
  go_wp2
  go_ret
  exact ⟨rfl, rfl⟩

set_option maxRecDepth 100000 in
set_option maxHeartbeats 8000000 in
theorem fits_m1_10 (w : World) : Calls Tryz.prog 48 #[.int .i64 (-1), .int .i64 10] w fun e w' => e = .returned (.bool true) ∧ w' = w := by
  go_enter Tryz.func48, Tryz.ntmps48
  go_wp2
  go_ret
  exact ⟨rfl, rfl⟩

set_option maxRecDepth 100000 in
set_option maxHeartbeats 8000000 in
theorem fits_m1_13 (w : World) : Calls Tryz.prog 48 #[.int .i64 (-1), .int .i64 13] w fun e w' => e = .returned (.bool true) ∧ w' = w := by
  go_enter Tryz.func48, Tryz.ntmps48
  go_wp2
  go_ret
  exact ⟨rfl, rfl⟩

set_option maxRecDepth 100000 in
set_option maxHeartbeats 8000000 in
theorem fits_m1_17 (w : World) : Calls Tryz.prog 48 #[.int .i64 (-1), .int .i64 17] w fun e w' => e = .returned (.bool true) ∧ w' = w := by
  go_enter Tryz.func48, Tryz.ntmps48
  go_wp2
  go_ret
  exact ⟨rfl, rfl⟩

set_option maxRecDepth 100000 in
set_option maxHeartbeats 8000000 in
theorem fits_m2_31 (w : World) : Calls Tryz.prog 48 #[.int .i64 (-2), .int .i64 31] w fun e w' => e = .returned (.bool true) ∧ w' = w := by
  go_enter Tryz.func48, Tryz.ntmps48
  go_wp2
  go_ret
  exact ⟨rfl, rfl⟩

set_option maxRecDepth 100000 in
set_option maxHeartbeats 8000000 in
theorem fits_53_53 (w : World) : Calls Tryz.prog 48 #[.int .i64 53, .int .i64 53] w fun e w' => e = .returned (.bool true) ∧ w' = w := by
  go_enter Tryz.func48, Tryz.ntmps48
  go_wp2
  go_ret
  exact ⟨rfl, rfl⟩

set_option maxRecDepth 100000 in
set_option maxHeartbeats 8000000 in
theorem isDec_51 (w : World) : Calls Tryz.prog 84 #[.int .i64 51] w fun e w' => e = .returned (.bool true) ∧ w' = w := by
  go_enter Tryz.func84, Tryz.ntmps84
  go_wp2
  go_ret
  exact ⟨rfl, rfl⟩

set_option maxRecDepth 100000 in
set_option maxHeartbeats 8000000 in
theorem fits_m4_51 (w : World) : Calls Tryz.prog 48 #[.int .i64 (-4), .int .i64 51] w fun e w' => e = .returned (.bool true) ∧ w' = w := by
  go_enter Tryz.func48, Tryz.ntmps48
  go_wp2_with (go_at_call 84; refine (isDec_51 _).mono ?_; rintro e w' ⟨rfl, rfl⟩)
  go_ret
  exact ⟨rfl, rfl⟩

set_option maxRecDepth 100000 in
set_option maxHeartbeats 8000000 in
theorem suits_1 (v t1 pv : Value) (ko : Option Addr) (n kc : Nat) (x y : Int) (w : World) : Calls Tryz.prog 26 #[v, .agg #[.int .i64 1, t1, pv, .slice ko n kc, .int .i64 x, .int .i64 y]] w fun e w' => e = .returned (.bool true) ∧ Below w.heap.size w w' := by
  go_enter Tryz.func26, Tryz.ntmps26
  go_wp2
  go_ret
  exact ⟨rfl, (Below.refl _ _).alloc (Nat.le_refl _) _⟩

set_option maxRecDepth 100000 in
set_option maxHeartbeats 8000000 in
theorem suits_10 (v t1 pv : Value) (ko : Option Addr) (n kc : Nat) (x y : Int) (w : World) : Calls Tryz.prog 26 #[v, .agg #[.int .i64 10, t1, pv, .slice ko n kc, .int .i64 x, .int .i64 y]] w fun e w' => e = .returned (.bool true) ∧ Below w.heap.size w w' := by
  go_enter Tryz.func26, Tryz.ntmps26
  go_wp2
  go_ret
  exact ⟨rfl, (Below.refl _ _).alloc (Nat.le_refl _) _⟩

set_option maxRecDepth 100000 in
set_option maxHeartbeats 8000000 in
theorem suits_13 (v t1 pv : Value) (ko : Option Addr) (n kc : Nat) (x y : Int) (w : World) (hn : ((n : Int) != 1) = true) : Calls Tryz.prog 26 #[v, .agg #[.int .i64 13, t1, pv, .slice ko n kc, .int .i64 x, .int .i64 y]] w fun e w' => e = .returned (.bool true) ∧ Below w.heap.size w w' := by
  go_enter Tryz.func26, Tryz.ntmps26
  go_wp2
  go_ret
  exact ⟨rfl, (Below.refl _ _).alloc (Nat.le_refl _) _⟩

set_option maxRecDepth 100000 in
set_option maxHeartbeats 8000000 in
theorem suits_17 (v t1 pv : Value) (ko : Option Addr) (n kc : Nat) (x y : Int) (w : World) : Calls Tryz.prog 26 #[v, .agg #[.int .i64 17, t1, pv, .slice ko n kc, .int .i64 x, .int .i64 y]] w fun e w' => e = .returned (.bool true) ∧ Below w.heap.size w w' := by
  go_enter Tryz.func26, Tryz.ntmps26
  go_wp2
  go_ret
  exact ⟨rfl, (Below.refl _ _).alloc (Nat.le_refl _) _⟩

set_option maxRecDepth 100000 in
set_option maxHeartbeats 8000000 in
theorem suits_31 (v t1 pv : Value) (ko : Option Addr) (n kc : Nat) (x y : Int) (w : World) : Calls Tryz.prog 26 #[v, .agg #[.int .i64 31, t1, pv, .slice ko n kc, .int .i64 x, .int .i64 y]] w fun e w' => e = .returned (.bool true) ∧ Below w.heap.size w w' := by
  go_enter Tryz.func26, Tryz.ntmps26
  go_wp2
  go_ret
  exact ⟨rfl, (Below.refl _ _).alloc (Nat.le_refl _) _⟩

set_option maxRecDepth 100000 in
set_option maxHeartbeats 8000000 in
theorem suits_50 (v t1 pv : Value) (ko : Option Addr) (n kc : Nat) (x y : Int) (w : World) : Calls Tryz.prog 26 #[v, .agg #[.int .i64 50, t1, pv, .slice ko n kc, .int .i64 x, .int .i64 y]] w fun e w' => e = .returned (.bool true) ∧ Below w.heap.size w w' := by
  go_enter Tryz.func26, Tryz.ntmps26
  go_wp2
  go_ret
  exact ⟨rfl, (Below.refl _ _).alloc (Nat.le_refl _) _⟩

set_option maxRecDepth 100000 in
set_option maxHeartbeats 8000000 in
theorem suits_51 (v t1 pv : Value) (ko : Option Addr) (n kc : Nat) (x y : Int) (w : World) : Calls Tryz.prog 26 #[v, .agg #[.int .i64 51, t1, pv, .slice ko n kc, .int .i64 x, .int .i64 y]] w fun e w' => e = .returned (.bool true) ∧ Below w.heap.size w w' := by
  go_enter Tryz.func26, Tryz.ntmps26
  go_wp2
  go_ret
  exact ⟨rfl, (Below.refl _ _).alloc (Nat.le_refl _) _⟩

set_option maxRecDepth 100000 in
set_option maxHeartbeats 8000000 in
theorem suits_53 (v t1 pv : Value) (ko : Option Addr) (n kc : Nat) (x y : Int) (w : World) : Calls Tryz.prog 26 #[v, .agg #[.int .i64 53, t1, pv, .slice ko n kc, .int .i64 x, .int .i64 y]] w fun e w' => e = .returned (.bool true) ∧ Below w.heap.size w w' := by
  go_enter Tryz.func26, Tryz.ntmps26
  go_wp2
  go_ret
  exact ⟨rfl, (Below.refl _ _).alloc (Nat.le_refl _) _⟩
end Go.Proofs.YtbcmpacmoofdkaaGreatDoor
