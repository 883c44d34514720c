/- Books of types: free, at a type without variables; names of none. -/
import Derived.Test.YtlijfkmcaccflaaGreatDoorProg
import Derived.Test.YtlijfkmcaccflaaGreatDoorTyM
import Derived.WalkKit
import Derived.ProofKit
import Derived.OpenShut
import Derived.Below
import Derived.WalkLawsBesides
import Derived.OwnWalk
import Derived.BigQuiet
import Derived.Deep.QuietTactic
import Derived.WalkSmall
import Derived.Deep.DeepCutAuto
import Derived.Laws.EntriesVeiled
namespace Go.Proofs.YtlijfkmcaccflaaGreatDoor
open Go.ChangeShapes Go.WideShapes Go.ChangeAt Go.RowKit

set_option maxRecDepth 100000 in
set_option maxHeartbeats 8000000 in
theorem free1_no (b hi : Nat) (cv : Value) (cs : List Tc) (p Mb Bb m : Nat) (q3 : Value) (w : World) (hb : Bk b hi w cv cs) (hM : w.cell? ⟨Mb, 0, none⟩ = some (.map (some m))) (hm : w.heap[m]? = some (.map #[] 0)) (hB : w.cell? ⟨Bb, 0, none⟩ = some (.pointer (some ⟨b, 0, none⟩))) (hBl : Bb < w.heap.size) (hp : p < cs.length) (hk : kindA cs p ≠ 1) :
    Calls Tryz.prog 59 #[.int .i64 (p : Int), .pointer (some ⟨Mb, 0, none⟩), .pointer (some ⟨Bb, 0, none⟩), q3] w fun e w' => e = .returned (.tuple #[]) ∧ Below w.heap.size w w' := by
  have hl := lookup_empty m (p : Int) w hm
  obtain ⟨g2, cap2, hcv, _, hg2, hat⟩ := hb.at hp
  have c2 := hb.c2
  have hsm := hb.sm
  have hbl : b < w.heap.size := Nat.lt_of_lt_of_le hb.old hb.hil
  have hgl : g2 < w.heap.size := Nat.lt_of_lt_of_le hg2 hb.hil
  rw [hcv] at c2
  have t0 := hat.c0
  have hk2 : ((cs.getD p Tc.zero).kind == 1) = false := by simpa [kindA] using hk
  generalize (cs.getD p Tc.zero).kind = ck at *
  generalize cs.length = N at *
  have n1 : ¬ b = w.heap.size := by omega
  have n2 : ¬ g2 = w.heap.size := by omega
  have n3 : ¬ Bb = w.heap.size := by omega
  clear hb hcv hk hat hm
  go_enter Tryz.func59, Tryz.ntmps59
  go_wp2
  go_end0
  exact ⟨rfl, by first | exact (Below.refl _ _).alloc (Nat.le_refl _) _ | exact Below.refl _ _⟩

set_option maxRecDepth 100000 in
set_option maxHeartbeats 8000000 in
theorem free_none (b hi : Nat) (cv : Value) (cs : List Tc) (d : Nat) (t : Int) (w : World) (hb : Bk b hi w cv cs) (hok : OkV cs (fun p => kindA cs p ≠ 1) d t) :
    Calls Tryz.prog 34 #[.pointer (some ⟨b, 0, none⟩), .int .i64 t] w fun e w' => e = .returned (.slice none 0 0) ∧ Below w.heap.size w w' := by
  have hmm := @run_makeMap Tryz.prog
  have hmf : ∀ (fn : Fn) (first cap : Array Value) (w : World), (Instr.makeFunc fn first cap).run Tryz.prog w = .ok (.func fn first cap) w := fun _ _ _ _ => rfl
  have hil := hb.hil
  obtain ⟨w1, hw1⟩ : ∃ w1, (w.alloc (.cells #[.pointer (some ⟨b, 0, none⟩)] 26)).alloc (.cells #[.slice none 0 0] 23) = w1 := ⟨_, rfl⟩
  obtain ⟨w2, hw2⟩ : ∃ w2, (w1.alloc (.map #[] 0)).alloc (.cells #[.map (some w1.heap.size)] 104) = w2 := ⟨_, rfl⟩
  have S1 : w1.heap.size = w.heap.size + 2 := by rw [← hw1]; simp
  have B1 : Below w.heap.size w w1 := by rw [← hw1]; exact ((Below.refl _ _).alloc (Nat.le_refl _) _).alloc (by simp) _
  have B2 : Below w1.heap.size w1 w2 := by rw [← hw2]; exact ((Below.refl _ _).alloc (Nat.le_refl _) _).alloc (by simp) _
  have S2 : w2.heap.size = w.heap.size + 4 := by rw [← hw2]; simp [S1]
  have a1 : w1.cell? ⟨w.heap.size, 0, none⟩ = some (.pointer (some ⟨b, 0, none⟩)) := by rw [← hw1]; simp
  have a2 : w1.cell? ⟨w.heap.size + 1, 0, none⟩ = some (.slice none 0 0) := by rw [← hw1]; simp
  have a3 : w2.cell? ⟨w1.heap.size + 1, 0, none⟩ = some (.map (some w1.heap.size)) := by rw [← hw2]; simp
  have a4 : w2.heap[w1.heap.size]? = some (.map #[] 0) := by
    rw [← hw2, Below.heap_alloc _ _ _ (by simp)]
    exact (MapKept.heap_alloc w1 _).1
  have e1 := (B2.cell (p := ⟨w.heap.size, 0, none⟩) (show w.heap.size < _ by omega)).trans a1
  have e2 := (B2.cell (p := ⟨w.heap.size + 1, 0, none⟩) (show w.heap.size + 1 < _ by omega)).trans a2
  obtain ⟨w3, hw3⟩ : ∃ w3, w2.alloc (.cells #[.int .i64 t] 3) = w3 := ⟨_, rfl⟩
  have B3 : Below w2.heap.size w2 w3 := by rw [← hw3]; exact (Below.refl _ _).alloc (Nat.le_refl _) _
  have S3 : w2.heap.size < w3.heap.size := by rw [← hw3]; simp
  have R3 := rd_new1 w2 t 3
  rw [hw3] at R3
  have B13 : Below w.heap.size w w3 := (B1.trans (B2.mono B1.size)).trans (B3.mono (Nat.le_trans B1.size B2.size))
  have CW := hide' (walk_free b hi cv cs (.pointer (some ⟨w1.heap.size + 1, 0, none⟩)) (.pointer (some ⟨w.heap.size, 0, none⟩)) (.pointer (some ⟨w.heap.size + 1, 0, none⟩)) (fun W => Below w3.heap.size w3 W) (fun p => kindA cs p ≠ 1) (fun W hW => (hb.below (B13.mono hil)).below (hW.mono (Nat.le_trans hil B13.size))) (fun p W hp hpl hW => (free1_no b hi cv cs p (w1.heap.size + 1) w.heap.size w1.heap.size _ W ((hb.below (B13.mono hil)).below (hW.mono (Nat.le_trans hil B13.size))) ((hW.cell (p := ⟨w1.heap.size + 1, 0, none⟩) (show w1.heap.size + 1 < _ by omega)).trans ((B3.cell (p := ⟨w1.heap.size + 1, 0, none⟩) (show w1.heap.size + 1 < _ by omega)).trans a3)) ((hW.block _ (by omega)).trans ((B3.block _ (by omega)).trans a4)) ((hW.cell (p := ⟨w.heap.size, 0, none⟩) (show w.heap.size < _ by omega)).trans ((B3.cell (p := ⟨w.heap.size, 0, none⟩) (show w.heap.size < _ by omega)).trans e1)) (by have := hW.size; omega) hpl hp).mono fun e w' ⟨h1, h2⟩ => ⟨h1, hW.trans (h2.mono hW.size)⟩) d _ [t] w3 (Below.refl _ _) (fun W hW => R3.below hW fun g hg => own1_lt S3 hg) (fun a ha => by rw [List.mem_singleton.1 ha]; exact hok))
  have HS1 := hide' S1
  have HS2 := hide' S2
  have HB13 := hide' B13
  have e3 := (B3.cell (p := ⟨w.heap.size + 1, 0, none⟩) (show w.heap.size + 1 < _ by omega)).trans e2
  have hl3 : w.heap.size + 1 < w3.heap.size := by omega
  have HW1 := hide' hw1
  have HW2 := hide' hw2
  clear S1 S2 B13 B1 B2 B3 R3 S3 a1 a2 a3 a4 hok hb hw1 hw2
  go_enter Tryz.func34, Tryz.ntmps34
  go_upto_region 2 with fail
  try rw [HW1.out]
  go_upto_region 3 with fail
  try rw [HW2.out]
  go_wp2_with (go_at_call 58; refine CW.out.mono ?_; clear CW; rintro e w9 ⟨rfl, hw9⟩; (have e4 := (hw9.cell (p := ⟨w.heap.size + 1, 0, none⟩) hl3).trans e3))
  go_ret
  exact ⟨rfl, HB13.out.trans (hw9.mono HB13.out.size)⟩

set_option maxRecDepth 100000 in
set_option maxHeartbeats 8000000 in
theorem names_none (b : Nat) (w : World) :
    Calls Tryz.prog 43 #[.pointer (some ⟨b, 0, none⟩), .slice none 0 0] w fun e w' => (∃ g, e = .returned (.slice (some ⟨g, 0, none⟩) 0 0)) ∧ Below w.heap.size w w' := by
  have hmm := @run_makeMap Tryz.prog
  have hms : ∀ w : World, (Instr.makeSlice 22 (.int .i64 0) (.int .i64 0)).run Tryz.prog w = .ok (.slice (some ⟨w.heap.size, 0, none⟩) 0 0) (w.alloc (.cells #[] 9)) := fun _ => by kernel_rfl
  go_enter Tryz.func43, Tryz.ntmps43
  go_wp2
  go_loop [18] (fun vi => vi = .int .i64 0) (fun _ => 0)
  case atStart => rfl
  case round =>
    subst hrel
    go_wp2
    go_loop [42] (fun vi => vi = .int .i64 0) (fun _ => 0)
    case atStart => rfl
    case round =>
      subst hrel
      go_wp2
      go_ret
      exact ⟨⟨_, rfl⟩, ((Below.refl _ _).alloc (Nat.le_refl _) _).alloc (by simp) _⟩
end Go.Proofs.YtlijfkmcaccflaaGreatDoor
