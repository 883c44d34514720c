/- Unifiers: apart, lower, bound. -/
import Derived.Test.YtlijfkmcaccflaaGreatDoorProg
import Derived.Test.YtlijfkmcaccflaaGreatDoorTy6
import Derived.WalkKit
import Derived.ProofKit
import Derived.OpenShut
import Derived.Below
import Derived.WalkLawsBesides
import Derived.OwnWalk
import Derived.BigQuiet
import Derived.Deep.MidRow
import Derived.Deep.RegionHeld
import Derived.Deep.RegionHeld3
import Derived.Deep.DeepCutAuto
import Derived.WalkSmall
import Derived.Laws.EntriesVeiled
namespace Go.Proofs.YtlijfkmcaccflaaGreatDoor
open Go.ChangeShapes Go.WideShapes Go.ChangeAt Go.RowKit

/-- A unifier: its block t, its trail of n changes. -/
structure Un (t b : Nat) (w : World) (tv : Value) (n : Nat) : Prop where
  c0 : w.cell? ⟨t, 0, none⟩ = some (.pointer (some ⟨b, 0, none⟩))
  c1 : w.cell? ⟨t, 1, none⟩ = some tv
  f1 : w.frozen? ⟨t, 1, none⟩ = false
  row : ∃ xs, w.ownsRow (t + 1) 137 13 tv n xs
  old : t < w.heap.size
  sm : n ≤ 10
theorem Un.below {t b : Nat} {w w' : World} {tv : Value} {n : Nat} (h : Un t b w tv n) (g : Below w.heap.size w w') : Un t b w' tv n := by
  obtain ⟨xs, hr⟩ := h.row
  exact ⟨(g.cell (p := ⟨t, 0, none⟩) h.old).trans h.c0, (g.cell (p := ⟨t, 1, none⟩) h.old).trans h.c1, (g.frozen (p := ⟨t, 1, none⟩) h.old).trans h.f1, ⟨xs, row_keep hr fun k hk => g.block k (hr.lt k hk).2⟩, Nat.lt_of_lt_of_le h.old g.size, h.sm⟩

set_option maxRecDepth 100000 in
set_option maxHeartbeats 4000000 in
theorem apart1_no (p v c : Nat) (w : World) (hc : w.cell? ⟨c, 0, none⟩ = some (.int .i64 (v : Int))) (hne : p ≠ v) : Calls Tryz.prog 113 #[.int .i64 (p : Int), .pointer (some ⟨c, 0, none⟩)] w fun e w' => e = .returned (.tuple #[]) ∧ w' = w := by
  have h1 : ((p : Int) == (v : Int)) = false := by simp; omega
  go_enter Tryz.func113, Tryz.ntmps113
  go_wp2
  go_end0
  simp

set_option maxRecDepth 100000 in
set_option maxHeartbeats 4000000 in
theorem apart1_yes (v c : Nat) (w : World) (hc : w.cell? ⟨c, 0, none⟩ = some (.int .i64 (v : Int))) : Calls Tryz.prog 113 #[.int .i64 (v : Int), .pointer (some ⟨c, 0, none⟩)] w fun e w' => e = .panicked [{ v := .iface 129 (.agg #[.int .i64 71]), recovered := false }] ∧ w' = w := by
  have CF := hide' (fail_any 71 w)
  go_enter Tryz.func113, Tryz.ntmps113
  go_wp2_with (go_at_call 92; refine CF.out.mono ?_; clear CF; rintro e w1 ⟨rfl, h9⟩; replace h9 := h9.symm; subst h9)
  exact ⟨rfl, rfl, rfl⟩

set_option maxRecDepth 100000 in
set_option maxHeartbeats 8000000 in
theorem apart_ok (t b hi : Nat) (cv : Value) (cs : List Tc) (tv : Value) (n v d : Nat) (sv : Value) (l : List Int) (w : World) (hb : Bk b hi w cv cs) (hu : Un t b w tv n) (hr : Rd w sv l) (hs : ∀ g, sv.ownBlock = some g → g < w.heap.size) (hok : ∀ a ∈ l, OkV cs (fun p => p ≠ v) d a) :
    Calls Tryz.prog 103 #[.pointer (some ⟨t, 0, none⟩), .int .i64 (v : Int), sv] w fun e w' => e = .returned (.tuple #[]) ∧ Below w.heap.size w w' := by
  obtain ⟨wm, hwm⟩ : ∃ wm, w.alloc (.cells #[.int .i64 (v : Int)] 3) = wm := ⟨_, rfl⟩
  have B1 : Below w.heap.size w wm := by rw [← hwm]; exact (Below.refl _ _).alloc (Nat.le_refl _) _
  have S1 : w.heap.size < wm.heap.size := by rw [← hwm]; simp
  have k1 : wm.cell? ⟨w.heap.size, 0, none⟩ = some (.int .i64 (v : Int)) := by rw [← hwm]; simp
  have CW := hide' (walk_apart b hi cv cs (.pointer (some ⟨w.heap.size, 0, none⟩)) (fun W => Below wm.heap.size wm W) (fun p => p ≠ v) (fun W hW => (hb.below (B1.mono hb.hil)).below (hW.mono (Nat.le_trans hb.hil B1.size))) (fun p W hp _ hW => (apart1_no p v w.heap.size W ((hW.cell (p := ⟨w.heap.size, 0, none⟩) S1).trans k1) hp).mono fun e w' ⟨h1, h2⟩ => ⟨h1, by rw [h2]; exact hW⟩) d sv l wm (Below.refl _ _) (fun W hW => (hr.below B1 hs).below hW fun g hg => Nat.lt_of_lt_of_le (hs g hg) B1.size) hok)
  have c0 := (hu.below B1).c0
  have HB1 := hide' B1
  obtain ⟨so, sc, hsv⟩ : ∃ so sc, sv = .slice so l.length sc := by obtain ⟨ao, cap, h1, _⟩ := hr; exact ⟨ao, cap, h1⟩
  subst hsv
  generalize l.length = L at *
  have hmf : ∀ (fn : Fn) (first cap : Array Value) (w : World), (Instr.makeFunc fn first cap).run Tryz.prog w = .ok (.func fn first cap) w := fun _ _ _ _ => rfl
  clear hb hu hr hs hok B1 k1
  go_enter Tryz.func103, Tryz.ntmps103
  go_wp2_with (go_at_call 58; refine CW.out.mono ?_; clear CW; rintro e w1 ⟨rfl, hw1⟩)
  go_end0
  exact ⟨rfl, HB1.out.trans (hw1.mono HB1.out.size)⟩

set_option maxRecDepth 100000 in
set_option maxHeartbeats 8000000 in
theorem walk_fail1 (b hi : Nat) (cv : Value) (cs : List Tc) (c v x : Nat) (ao : Option Addr) (L cap : Nat) (w : World) (hb : Bk b hi w cv cs) (hc : w.cell? ⟨c, 0, none⟩ = some (.int .i64 (v : Int))) (g : Nat) (hao : ao = some ⟨g, 0, none⟩) (hx : w.cell? ⟨g, 0, none⟩ = some (.int .i64 (x : Int))) (hL : 0 < L) (_hL2 : L ≤ 100) (hg : Good cs x) (hv : nw cs x = v) :
    Calls Tryz.prog 58 #[.pointer (some ⟨b, 0, none⟩), .func (.func 113) #[] #[.pointer (some ⟨c, 0, none⟩)], .slice ao L cap] w fun e w' => e = .panicked [{ v := .iface 129 (.agg #[.int .i64 71]), recovered := false }] ∧ w' = w := by
  have CN := hide' (now_of b hi cv cs x w hb hg)
  rw [hv] at CN
  have CV := hide' (apart1_yes v c w hc)
  subst hao
  clear hb hg hv hc
  go_enter Tryz.func58, Tryz.ntmps58
  go_wp2
  go_loop [10] (fun vi => vi = .int .i64 0) (fun _ => 0)
  case atStart => rfl
  case round =>
    subst hrel
    go_wp2_with (first | (go_at_call 48; refine CN.out.mono ?_; clear CN; rintro e w1 ⟨rfl, h9⟩; replace h9 := h9.symm; subst h9) | (go_at_call 113; refine CV.out.mono ?_; clear CV; rintro e w1 ⟨rfl, h9⟩; replace h9 := h9.symm; subst h9))
    exact ⟨rfl, rfl, rfl⟩

set_option maxRecDepth 100000 in
set_option maxHeartbeats 8000000 in
theorem walk_fail2 (b hi : Nat) (cv : Value) (cs : List Tc) (c v x y : Nat) (r : List Int) (ao : Option Addr) (L cap : Nat) (w : World) (hb : Bk b hi w cv cs) (hc : w.cell? ⟨c, 0, none⟩ = some (.int .i64 (v : Int))) (g : Nat) (hao : ao = some ⟨g, 0, none⟩) (hx : w.cell? ⟨g, 0, none⟩ = some (.int .i64 (x : Int))) (hL : 0 < L) (_hL2 : L ≤ 100) (hg : Good cs x) (hne : nw cs x ≠ v) (hargs : argsA cs (nw cs x) = (y : Int) :: r) (hgy : Good cs y) (hv : nw cs y = v) :
    Calls Tryz.prog 58 #[.pointer (some ⟨b, 0, none⟩), .func (.func 113) #[] #[.pointer (some ⟨c, 0, none⟩)], .slice ao L cap] w fun e w' => e = .panicked [{ v := .iface 129 (.agg #[.int .i64 71]), recovered := false }] ∧ w' = w := by
  have CN := hide' (now_of b hi cv cs x w hb hg)
  have CV := hide' (apart1_no (nw cs x) v c w hc hne)
  obtain ⟨g2, cap2, hcv, _, _, hat⟩ := hb.at hg.2.1
  have c2 := hb.c2
  have hsm := hb.sm
  have d3 := hat.c3
  obtain ⟨ao3, cap3, hv3, hl3, hc3⟩ := (hb.args _ hg.2.1).rd
  have hl0 : 0 < (cs.getD (nw cs x) Tc.zero).args.length := by rw [show (cs.getD (nw cs x) Tc.zero).args = _ from hargs]; simp
  obtain ⟨g3, eg3, hc4⟩ := hc3 0 hl0
  rw [show (cs.getD (nw cs x) Tc.zero).args = _ from hargs] at hc4
  have CR := hide' (walk_fail1 b hi cv cs c v y ao3 (cs.getD (nw cs x) Tc.zero).args.length cap3 w hb hc g3 eg3 hc4 hl0 hl3 hgy hv)
  rw [hv3] at d3
  rw [hcv] at c2
  have hnl := hg.2.1
  obtain ⟨q, hq⟩ : ∃ q, nw cs x = q := ⟨_, rfl⟩
  rw [hq] at CN CV d3 CR hnl
  generalize cs.length = CL at *
  generalize (cs.getD q Tc.zero).args.length = A at *
  subst hao
  clear hb hg hv hc hne hargs hgy hat hv3 hc3 hc4 hcv hq eg3 hl3 hl0
  go_enter Tryz.func58, Tryz.ntmps58
  go_wp2
  go_loop [10] (fun vi => vi = .int .i64 0) (fun _ => 0)
  case atStart => rfl
  case round =>
    subst hrel
    go_wp2_with (first | (go_at_call 48; refine CN.out.mono ?_; clear CN; rintro e w1 ⟨rfl, h9⟩; replace h9 := h9.symm; subst h9) | (go_at_call 113; refine CV.out.mono ?_; clear CV; rintro e w1 ⟨rfl, h9⟩; replace h9 := h9.symm; subst h9) | (go_at_call 58; refine CR.out.mono ?_; clear CR; rintro e w1 ⟨rfl, h9⟩; replace h9 := h9.symm; subst h9))
    exact ⟨rfl, rfl, rfl⟩
end Go.Proofs.YtlijfkmcaccflaaGreatDoor
