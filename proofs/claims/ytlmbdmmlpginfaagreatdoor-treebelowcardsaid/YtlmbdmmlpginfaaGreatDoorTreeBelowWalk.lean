/- The law TreeBelow, walked: whatever nodes and roots, both tell the same nodes. -/
import Derived.Test.YtlmbdmmlpginfaaGreatDoorProg
import Derived.Test.YtlmbdmmlpginfaaGreatDoorTree47
import Derived.Test.YtlmbdmmlpginfaaGreatDoorTree4
import Derived.WalkKit
import Derived.ProofKit
import Derived.OpenShut
import Derived.Below
import Derived.WalkLawsBesides
import Derived.OwnWalk
import Derived.BigQuiet
import Derived.Deep.MidRow
import Derived.Deep.RegionHeld
import Derived.WalkSmall
import Derived.Deep.DeepCutAuto
namespace Go.Proofs.YtlmbdmmlpginfaaGreatDoor.treeBelow
open Go.ChangeShapes Go.WideShapes Go.ChangeAt Go.RowKit

theorem cells {B : Nat} {v : Value} {l : List Nat} {w : World} (h : OwnI B v l w) : ∃ ao cap, v = .slice ao l.length cap ∧ ∀ j, j < l.length → ∃ g, ao = some ⟨g, 0, none⟩ ∧ g < w.heap.size ∧ w.cell? ⟨g, j, none⟩ = some (.int .i64 ((l.getD j 0 : Nat) : Int)) := by
  obtain ⟨ao, cap, hva⟩ := ownI_slice h
  subst hva
  refine ⟨ao, cap, rfl, fun j hj => ?_⟩
  unfold OwnI at h
  obtain ⟨g, c, hvv, hg, hlt⟩ := h.form (by omega)
  injection hvv with e1 e2 e3
  refine ⟨g, e1, hlt, ?_⟩
  subst e1 e3
  rw [h.cellAt j (by omega)]
  simp [intCells, hj]

set_option maxRecDepth 100000 in
set_option maxHeartbeats 16000000 in
theorem walk (v rv : Value) (l : List Nod) (rs : List Int) (w : World) (RD : Rdy w) (htab : Lib.TabIs Tryz.prog w "strings.asciiSpace" .u8 Lib.asciiSpaceTab) (hv : RdN w.heap.size w v l) (hr : RdI w.heap.size w rv rs) :
    Calls Tryz.prog 4 #[v, rv] w fun e w' => e = .returned (.bool true) ∧ Below w.heap.size w w' := by
  have CA := hide' (below_any v l rv rs w hv hr)
  have CB := hide' (fun W (b : Below w.heap.size w W) => rbelow_any v l rv rs W (rdN_mono (rdN_below hv b) b.size) (rdI_mono (rdI_below hr b) b.size))
  have hsame := below_same (kidsOf l) (reach_le l.length rs) (reach_hit l.length rs)
  rw [hsame] at CB
  have CL := hide' (fun W (b : Below w.heap.size w W) => alive_any W (RD.below b) (tab_keep spaceG htab b))
  obtain ⟨L, hL⟩ : ∃ L, belowN (kidsOf l) (reachI l.length rs) rs = L := ⟨_, rfl⟩
  have hLl : L.length ≤ 8796093022208 := by
    rw [← hL]
    obtain ⟨_, _, _, hm, _⟩ := hv
    unfold belowN
    have h1 := List.length_filter_le (markF (kidsOf l) (reachI l.length rs) (rootsM (reachI l.length rs) rs)) (List.range (reachI l.length rs))
    rw [List.length_range] at h1
    have h2 := reach_le l.length rs
    omega
  rw [hL] at CA CB
  clear hsame hL hv hr RD htab
  obtain ⟨N, hN⟩ : ∃ N, L.length = N := ⟨_, rfl⟩
  have HN := hide' hN
  rw [hN] at hLl
  clear hN
  go_enter Tryz.func4, Tryz.ntmps4
  go_upto_region 2 with (first
    | (go_at_call 9; refine CA.out.mono ?_; clear CA; rintro e w1 ⟨va, rfl, oa, b1⟩; (have HB1 := hide' b1); (have HOA := hide' oa); clear oa b1)
    | (go_at_call 10; refine (CB.out _ HB1.out).mono ?_; clear CB; rintro e w2 ⟨vb, rfl, ob, b2⟩; (have HB2 := hide' b2); (have HOB := hide' ob); clear ob b2))
  obtain ⟨ao, ac, hva, ha⟩ := cells HOA.out
  obtain ⟨bo, bc, hvb, hb⟩ := cells HOB.out
  subst hva hvb
  have HA := hide' ha
  have HBB := hide' hb
  rw [HN.out] at HA HBB ⊢
  clear ha hb HOA HOB
  have HW : Hid' (Below w.heap.size w w2) := ⟨HB1.out.trans (HB2.out.mono HB1.out.size)⟩
  go_upto_region 5 with fail
  go_loopw [7] (fun v wr => ∃ k : Nat, k ≤ N ∧ v = .int .i64 (k : Int) ∧ Below w2.heap.size w2 wr) (fun v _ => N - (intOf v).toNat)
  case atStart => exact ⟨0, Nat.zero_le _, rfl, Below.refl _ _⟩
  case round =>
    obtain ⟨k, hk, rfl, bw⟩ := hrel
    by_cases hlt : k < N
    · obtain ⟨g, ea, hg, hcell⟩ := HA.out k hlt
      obtain ⟨g2, eb, hg2, hcell2⟩ := HBB.out k hlt
      subst ea eb
      have d := (bw.cell (p := ⟨g, k, none⟩) (Nat.lt_of_lt_of_le hg HB2.out.size)).trans ((HB2.out.cell (p := ⟨g, k, none⟩) hg).trans hcell)
      have d2 := (bw.cell (p := ⟨g2, k, none⟩) hg2).trans hcell2
      generalize L.getD k 0 = x at *
      clear hcell hcell2
      go_upto_region 7 with fail
      go_quiet (fail)
      go_wp2_with fail
      go_roundw
      case rel => exact ⟨k + 1, by omega, by go_num, bw.trans (below_drewN _ _ _)⟩
      case measure => first | (simp [intOf]; done) | (simp [intOf]; omega)
    · have bz : Below w.heap.size w wr := HW.out.trans (bw.mono HW.out.size)
      have HBZ := hide' bz
      clear bz
      go_wp2_with (go_at_call 8; refine (CL.out _ HBZ.out).mono ?_; clear CL; rintro e w3 ⟨rfl, b3⟩)
      go_ret
      exact ⟨rfl, HBZ.out.trans (b3.mono HBZ.out.size)⟩
end Go.Proofs.YtlmbdmmlpginfaaGreatDoor.treeBelow
