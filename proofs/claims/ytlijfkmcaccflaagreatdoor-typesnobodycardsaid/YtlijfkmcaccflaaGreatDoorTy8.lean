/- Unifiers: apart that fails, lower, bound, isFlexible, slices.Equal at nothing. -/
import Derived.Test.YtlijfkmcaccflaaGreatDoorProg
import Derived.Test.YtlijfkmcaccflaaGreatDoorTy7
import Derived.WalkKit
import Derived.ProofKit
import Derived.OpenShut
import Derived.Below
import Derived.WalkLawsBesides
import Derived.OwnWalk
import Derived.BigQuiet
import Derived.Deep.MidRow
import Derived.Deep.RegionHeld
import Derived.Deep.RegionHeld3
import Derived.Deep.DeepCutAuto
import Derived.WalkSmall
import Derived.Laws.EntriesVeiled
namespace Go.Proofs.YtlijfkmcaccflaaGreatDoor
open Go.ChangeShapes Go.WideShapes Go.ChangeAt Go.RowKit

set_option maxRecDepth 100000 in
set_option maxHeartbeats 8000000 in
theorem apart_fail (t b hi : Nat) (cv : Value) (cs : List Tc) (tv : Value) (n v x y : Nat) (r : List Int) (ao : Option Addr) (L cap : Nat) (w : World) (hb : Bk b hi w cv cs) (hu : Un t b w tv n) (g : Nat) (hao : ao = some ⟨g, 0, none⟩) (hgl : g < w.heap.size) (hx : w.cell? ⟨g, 0, none⟩ = some (.int .i64 (x : Int))) (hL : 0 < L) (hL2 : L ≤ 100) (hg : Good cs x) (hne : nw cs x ≠ v) (hargs : argsA cs (nw cs x) = (y : Int) :: r) (hgy : Good cs y) (hv : nw cs y = v) :
    Calls Tryz.prog 103 #[.pointer (some ⟨t, 0, none⟩), .int .i64 (v : Int), .slice ao L cap] w fun e w' => e = .panicked [{ v := .iface 129 (.agg #[.int .i64 71]), recovered := false }] ∧ Below w.heap.size w w' := by
  obtain ⟨wm, hwm⟩ : ∃ wm, w.alloc (.cells #[.int .i64 (v : Int)] 3) = wm := ⟨_, rfl⟩
  have B1 : Below w.heap.size w wm := by rw [← hwm]; exact (Below.refl _ _).alloc (Nat.le_refl _) _
  have k1 : wm.cell? ⟨w.heap.size, 0, none⟩ = some (.int .i64 (v : Int)) := by rw [← hwm]; simp
  have CW := hide' (walk_fail2 b hi cv cs w.heap.size v x y r ao L cap wm (hb.below (B1.mono hb.hil)) k1 g hao ((B1.cell (p := ⟨g, 0, none⟩) hgl).trans hx) hL hL2 hg hne hargs hgy hv)
  have c0 := (hu.below B1).c0
  have HB1 := hide' B1
  have hmf : ∀ (fn : Fn) (first cap : Array Value) (w : World), (Instr.makeFunc fn first cap).run Tryz.prog w = .ok (.func fn first cap) w := fun _ _ _ _ => rfl
  clear hb hu hx hg hne hargs hgy hv hao hgl k1 B1
  go_enter Tryz.func103, Tryz.ntmps103
  go_wp2_with (go_at_call 58; refine CW.out.mono ?_; clear CW; rintro e w1 ⟨rfl, h9⟩; replace h9 := h9.symm; subst h9)
  exact ⟨rfl, rfl, HB1.out⟩

set_option maxRecDepth 100000 in
set_option maxHeartbeats 8000000 in
theorem lower1_no (t b hi : Nat) (cv : Value) (cs : List Tc) (tv : Value) (n p q1 : Nat) (q2 : Value) (w : World) (hb : Bk b hi w cv cs) (hu : Un t b w tv n) (hq : w.cell? ⟨q1, 0, none⟩ = some (.pointer (some ⟨t, 0, none⟩))) (hp : p < cs.length) (hk : kindA cs p ≠ 1) :
    Calls Tryz.prog 116 #[.int .i64 (p : Int), .pointer (some ⟨q1, 0, none⟩), q2] w fun e w' => e = .returned (.tuple #[]) ∧ Below w.heap.size w w' := by
  obtain ⟨g2, cap2, hcv, _, _, hat⟩ := hb.at hp
  have c2 := hb.c2
  have hsm := hb.sm
  rw [hcv] at c2
  obtain ⟨t0, t1, t2, t3, t4, t5, t6, t7, t8, t9, t10, t11⟩ := hat
  have c0 := hu.c0
  have hk2 : ((cs.getD p Tc.zero).kind != 1) = true := by simpa [kindA] using hk
  obtain ⟨ao3, cap3, hv3, _, _⟩ := (hb.args _ hp).rd
  rw [hv3] at t3
  generalize (cs.getD p Tc.zero).args.length = A at *
  generalize (cs.getD p Tc.zero).kind = ck at *
  generalize (cs.getD p Tc.zero).con = cn at *
  generalize (cs.getD p Tc.zero).level = cl at *
  generalize (cs.getD p Tc.zero).to = ct at *
  generalize cs.length = N at *
  clear hb hu hcv hk hv3
  go_enter Tryz.func116, Tryz.ntmps116
  go_wp2
  refine bodyPost_ret (results_none rfl _ _ _) rfl ?_
  exact ⟨rfl, (Below.refl _ _).alloc (Nat.le_refl _) _⟩

set_option maxRecDepth 100000 in
set_option maxHeartbeats 8000000 in
theorem lower_ok (t b hi : Nat) (cv : Value) (cs : List Tc) (tv : Value) (n d : Nat) (lev : Int) (sv : Value) (l : List Int) (w : World) (hb : Bk b hi w cv cs) (hu : Un t b w tv n) (hr : Rd w sv l) (hs : ∀ g, sv.ownBlock = some g → g < w.heap.size) (hok : ∀ a ∈ l, OkV cs (fun p => kindA cs p ≠ 1) d a) :
    Calls Tryz.prog 106 #[.pointer (some ⟨t, 0, none⟩), .int .i64 lev, sv] w fun e w' => e = .returned (.tuple #[]) ∧ Below w.heap.size w w' := by
  obtain ⟨wm, hwm⟩ : ∃ wm, (w.alloc (.cells #[.pointer (some ⟨t, 0, none⟩)] 127)).alloc (.cells #[.int .i64 lev] 3) = wm := ⟨_, rfl⟩
  have B1 : Below w.heap.size w wm := by rw [← hwm]; exact ((Below.refl _ _).alloc (Nat.le_refl _) _).alloc (by simp) _
  have S1 : w.heap.size < wm.heap.size := by rw [← hwm]; simp; omega
  have k1 : wm.cell? ⟨w.heap.size, 0, none⟩ = some (.pointer (some ⟨t, 0, none⟩)) := by rw [← hwm]; simp
  have CW := hide' (walk_lower b hi cv cs (.pointer (some ⟨w.heap.size, 0, none⟩)) (.pointer (some ⟨w.heap.size + 1, 0, none⟩)) (fun W => Below wm.heap.size wm W) (fun p => kindA cs p ≠ 1) (fun W hW => (hb.below (B1.mono hb.hil)).below (hW.mono (Nat.le_trans hb.hil B1.size))) (fun p W hp hpl hW => (lower1_no t b hi cv cs tv n p w.heap.size _ W ((hb.below (B1.mono hb.hil)).below (hW.mono (Nat.le_trans hb.hil B1.size))) ((hu.below B1).below hW) ((hW.cell (p := ⟨w.heap.size, 0, none⟩) S1).trans k1) hpl hp).mono fun e w' ⟨h1, h2⟩ => ⟨h1, hW.trans (h2.mono hW.size)⟩) d sv l wm (Below.refl _ _) (fun W hW => (hr.below B1 hs).below hW fun g hg => Nat.lt_of_lt_of_le (hs g hg) B1.size) hok)
  have c0 := (hu.below B1).c0
  have HB1 := hide' B1
  obtain ⟨so, sc, hsv⟩ : ∃ so sc, sv = .slice so l.length sc := by obtain ⟨ao, cap, h1, _⟩ := hr; exact ⟨ao, cap, h1⟩
  subst hsv
  generalize l.length = L at *
  have hmf : ∀ (fn : Fn) (first cap : Array Value) (w : World), (Instr.makeFunc fn first cap).run Tryz.prog w = .ok (.func fn first cap) w := fun _ _ _ _ => rfl
  clear hb hu hr hs hok B1
  go_enter Tryz.func106, Tryz.ntmps106
  go_wp2_with (go_at_call 58; refine CW.out.mono ?_; clear CW; rintro e w1 ⟨rfl, hw1⟩)
  go_end0
  exact ⟨rfl, HB1.out.trans (hw1.mono HB1.out.size)⟩

set_option maxRecDepth 100000 in
set_option maxHeartbeats 8000000 in
theorem bound_ok (t b hi : Nat) (cv : Value) (cs : List Tc) (tv : Value) (n d : Nat) (sv : Value) (l : List Int) (w : World) (hb : Bk b hi w cv cs) (hu : Un t b w tv n) (hr : Rd w sv l) (hs : ∀ g, sv.ownBlock = some g → g < w.heap.size) (hok : ∀ a ∈ l, Ok cs d a) (hsz : ∀ a ∈ l, siz cs d a ≤ 2048) :
    Calls Tryz.prog 88 #[.pointer (some ⟨t, 0, none⟩), sv] w fun e w' => e = .returned (.tuple #[]) ∧ Below w.heap.size w w' := by
  have CL := hide' (large_no b hi cv cs d sv l w hb hr hs hok hsz)
  have c0 := hu.c0
  obtain ⟨so, sc, hsv⟩ : ∃ so sc, sv = .slice so l.length sc := by obtain ⟨ao, cap, h1, _⟩ := hr; exact ⟨ao, cap, h1⟩
  subst hsv
  generalize l.length = L at *
  clear hb hu hr hs hok hsz
  go_enter Tryz.func88, Tryz.ntmps88
  go_wp2_with (go_at_call 33; refine CL.out.mono ?_; clear CL; rintro e w1 ⟨rfl, hw1⟩)
  go_end0
  exact ⟨rfl, hw1⟩

set_option maxRecDepth 100000 in
set_option maxHeartbeats 8000000 in
theorem isFlexible_any (c : Tc) (w : World) (ao : Option Addr) (A cap : Nat) (hv : c.av = .slice ao A cap) :
    Calls Tryz.prog 89 #[c.val] w fun e w' => e = .returned (.bool (c.kind == 1)) ∧ Below w.heap.size w w' := by
  unfold Tc.val
  rw [hv]
  generalize c.kind = ck at *
  generalize c.con = cn at *
  generalize c.level = cl at *
  generalize c.to = ct at *
  by_cases h : ck = 1
  · subst h
    go_enter Tryz.func89, Tryz.ntmps89
    go_wp2
    go_ret
    exact ⟨rfl, (Below.refl _ _).alloc (Nat.le_refl _) _⟩
  · have hk : (ck == 1) = false := by simpa using h
    have HK := hide' h
    clear h
    go_enter Tryz.func89, Tryz.ntmps89
    go_wp2
    go_ret
    exact ⟨by first | rfl | simp [HK.out], (Below.refl _ _).alloc (Nat.le_refl _) _⟩

set_option maxRecDepth 100000 in
set_option maxHeartbeats 8000000 in
theorem equalS_nil (w : World) : Calls Tryz.prog 93 #[.slice none 0 0, .slice none 0 0] w fun e w' => e = .returned (.bool true) ∧ w' = w := by
  go_enter Tryz.func93, Tryz.ntmps93
  go_wp2
  go_loop [13] (fun vi => vi = .int .i64 0) (fun _ => 0)
  case atStart => rfl
  case round =>
    subst hrel
    go_wp2
    go_ret
    simp
end Go.Proofs.YtlijfkmcaccflaaGreatDoor
