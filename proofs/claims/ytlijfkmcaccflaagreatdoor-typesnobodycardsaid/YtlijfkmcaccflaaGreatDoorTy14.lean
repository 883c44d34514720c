/- Unifiers: back where there is nothing to go back. -/
import Derived.RangeFuncNested
import Derived.RangeFuncBound
import Derived.RangeFuncCalls
import Derived.RangeFuncLeaves
import Derived.RangeFuncFrom
import Derived.Shelf.Abstract
import Derived.Shelf.RegionOpen
import Derived.WalkKit
import Derived.OwnWalkIn
import Derived.TacticsInMore
import Derived.LoopNIn
import Derived.LoopIn
import Derived.Test.YtlijfkmcaccflaaGreatDoorProg
import Derived.Test.YtlijfkmcaccflaaGreatDoorTy13
namespace Go.Proofs.YtlijfkmcaccflaaGreatDoor
open Go.RowKit Go.Shelf
attribute [local go_sem] Oper.semAt_some

set_option maxRecDepth 100000 in
set_option maxHeartbeats 4000000 in
theorem backward1_stops (F : Fence) (n : Nat) (h1 : F.fn 94) (hro : F.round = none) (Bn : Nat) (w : World) (hB : Bn < w.heap.size) (hc : w.cell? ⟨Bn, 0, none⟩ = some (.slice none 0 0)) :
    SeqStopsK F n Tryz.prog 94 #[.pointer (some ⟨Bn, 0, none⟩)] (fun x : Empty => x.elim) (Below w.heap.size) (fun _ => True) (fun _ => False) 0 w := by
  intro l J Jx W hW _ _ _ h0
  have hc' := (hW.cell (p := ⟨Bn, 0, none⟩) hB).trans hc
  show CallsIn F n Tryz.prog 94 #[.func (.yield l) #[] #[], .pointer (some ⟨Bn, 0, none⟩)] W _
  refine callsIn_of_wp Tryz.func94 rfl h1 ?_ hro
  simp only [Tryz.ntmps94, List.size_toArray, List.length_cons, List.length_nil, Nat.reduceAdd, Nat.reduceSub, Array.replicate_succ, Array.replicate_zero, List.push_toArray, List.append_toArray, List.nil_append, List.cons_append]
  gi_wp2
  gi_loopw [3] (fun p wr => p = .int .i64 (-1) ∧ wr = W) (fun _ _ => 0)
  case atStart => exact ⟨rfl, rfl⟩
  case round =>
    obtain ⟨rfl, hw⟩ := hrel
    obtain rfl : W = _ := hw.symm
    gi_wp2
    go_end0
    first | exact ⟨⟨_, rfl⟩, .inl ⟨[], trivial, h0⟩⟩ | exact ⟨⟨_, rfl⟩, [], h0⟩

set_option maxRecDepth 100000 in
set_option maxHeartbeats 4000000 in
theorem backward_nil (F : Fence) (n : Nat) (h1 : F.fn 76) (hro : F.round = none) (w : World) :
    CallsIn F n Tryz.prog 76 #[.slice none 0 0] w fun e w' => e = .returned (.func (.func 94) #[] #[.pointer (some ⟨w.heap.size, 0, none⟩)]) ∧ w' = w.alloc (.cells #[.slice none 0 0] 101) := by
  have hmf : ∀ (fn : Fn) (first cap : Array Value) (w : World), (Instr.makeFunc fn first cap).run Tryz.prog w = .ok (.func fn first cap) w := fun _ _ _ _ => rfl
  refine callsIn_of_wp Tryz.func76 rfl h1 ?_ hro
  simp only [Tryz.ntmps76, List.size_toArray, List.length_cons, List.length_nil, Nat.reduceAdd, Nat.reduceSub, Array.replicate_succ, Array.replicate_zero, List.push_toArray, List.append_toArray, List.nil_append, List.cons_append]
  gi_wp2
  go_ret
  simp

set_option maxRecDepth 100000 in
set_option maxHeartbeats 8000000 in
theorem back_in (t : Nat) (w : World) (hu1 : w.cell? ⟨t, 1, none⟩ = some (.slice none 0 0)) (hf : w.frozen? ⟨t, 1, none⟩ = false) (ht : t < w.heap.size) :
    CallsIn Fence.wide 5 Tryz.prog 51 #[.pointer (some ⟨t, 0, none⟩)] w fun e w' => e = .returned (.tuple #[]) ∧ Below t w w' ∧ ∀ k, k < w.heap.size → k ≠ t → w'.heap[k]? = w.heap[k]? := by
  refine callsIn_of_wp_marks Tryz.func51 rfl trivial ?_ rfl
  simp only [Tryz.ntmps51, List.size_toArray, List.length_cons, List.length_nil, Nat.reduceAdd, Nat.reduceSub, Array.replicate_succ, Array.replicate_zero, List.push_toArray, List.append_toArray, List.nil_append, List.cons_append]
  obtain ⟨w1, hw1⟩ : ∃ w1, w.alloc (.cells #[.pointer (some ⟨t, 0, none⟩)] 127) = w1 := ⟨_, rfl⟩
  have B1 : Below w.heap.size w w1 := by rw [← hw1]; exact (Below.refl _ _).alloc (Nat.le_refl _) _
  have S1 : w1.heap.size = w.heap.size + 1 := by rw [← hw1]; simp
  have k1 : w1.cell? ⟨w.heap.size, 0, none⟩ = some (.pointer (some ⟨t, 0, none⟩)) := by rw [← hw1]; simp
  have e1 := (B1.cell (p := ⟨t, 1, none⟩) ht).trans hu1
  have f1 := (B1.frozen (p := ⟨t, 1, none⟩) ht).trans hf
  have HS1 := hide' S1
  clear S1
  gi_wp2_with (refine ⟨trivial, ?_⟩; gi_at_call 76; refine (backward_nil Fence.wide _ trivial rfl _).mono ?_; rintro e w' ⟨rfl, rfl⟩)
  obtain ⟨w2, hw2⟩ : ∃ w2, w1.alloc (.cells #[.slice none 0 0] 101) = w2 := ⟨_, rfl⟩
  have B2 : Below w1.heap.size w1 w2 := by rw [← hw2]; exact (Below.refl _ _).alloc (Nat.le_refl _) _
  have S2 : w2.heap.size = w1.heap.size + 1 := by rw [← hw2]; simp
  have k2 : w2.cell? ⟨w1.heap.size, 0, none⟩ = some (.slice none 0 0) := by rw [← hw2]; simp
  try rw [hw2]
  clear hw1 hw2
  refine wpIn_rangeFunc_ownH rfl (by omega) (gf := 94) (lb := #[.pointer (some ⟨w1.heap.size, 0, none⟩)]) rfl trivial (enters_of Tryz.func94 (by kernel_rfl) rfl) (backward1_stops Fence.wide _ trivial rfl w1.heap.size w2 (by omega) k2) belowK_t (belowK_b (Nat.le_refl _)) (Below.refl _ _) (fun x => x.elim) (fun _ W => Below w2.heap.size w2 W) (fun _ _ _ => False) (ownFrom_below (Nat.le_refl _) (Nat.le_refl _)) (fun _ _ _ _ _ hs _ _ => hs) (Below.refl _ _) (fun x _ _ => x.elim) (fun x => x.elim) (fun _ _ x => x.elim) (fun _ _ x => x.elim) ?done ?stop
  case done =>
    rintro D xs W hD _ hI hK
    have S1 := HS1.out
    have B3 := B1.trans ((B2.mono B1.size).trans (hI.mono (by omega)))
    have q1 := (hI.cell (p := ⟨w.heap.size, 0, none⟩) (show w.heap.size < _ by omega)).trans ((B2.cell (p := ⟨w.heap.size, 0, none⟩) (show w.heap.size < _ by omega)).trans k1)
    have q2 := (B3.cell (p := ⟨t, 1, none⟩) ht).trans hu1
    have q3 := (B3.frozen (p := ⟨t, 1, none⟩) ht).trans hf
    clear S1 S2
    gi_wp2
    refine ⟨by simp, .inl ⟨_, _, rfl, run_takeDeferred ((KeepsOthers.setCell _ _ _).same D _ hK rfl), ?_⟩⟩
    refine ⟨_, results_none rfl _ _ _, rfl, ?_⟩
    refine ⟨((B3.mono (Nat.le_of_lt ht)).setCell (p := ⟨t, 1, none⟩) (Nat.le_refl _) _).trans (belowK_b (w := w2) (n₀ := t) (by have := B3.size; have := B1.size; have := B2.size; omega) _ D _ _ hD ((KeepsOthers.setCell _ _ _).same D _ hK rfl) rfl rfl), fun k hk hkt => ?_⟩
    have hp := belowK_b (w := w2) (n₀ := w2.heap.size) (Nat.le_refl _) (W.setCell ⟨t, 1, none⟩ (.slice none 0 0)) D _ (.deferred none) hD ((KeepsOthers.setCell _ _ _).same D _ hK rfl) rfl rfl
    exact (hp.block k (by have := B1.size; have := B2.size; omega)).trans ((Below.heap_setCell _ _ _ _ (by show k ≠ t; exact hkt)).trans (B3.block k hk))
  case stop =>
    rintro D c pre W _ h _ _
    exact h.elim
theorem back_nil (t : Nat) (w : World) (hu1 : w.cell? ⟨t, 1, none⟩ = some (.slice none 0 0)) (hf : w.frozen? ⟨t, 1, none⟩ = false) (ht : t < w.heap.size) :
    Calls Tryz.prog 51 #[.pointer (some ⟨t, 0, none⟩)] w fun e w' => e = .returned (.tuple #[]) ∧ Below t w w' ∧ ∀ k, k < w.heap.size → k ≠ t → w'.heap[k]? = w.heap[k]? := callsIn_wide.1 (back_in t w hu1 hf ht)
end Go.Proofs.YtlijfkmcaccflaaGreatDoor
