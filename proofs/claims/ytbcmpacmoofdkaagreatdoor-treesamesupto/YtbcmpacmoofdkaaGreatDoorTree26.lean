/- The parser: phrase. -/
import Derived.Test.YtbcmpacmoofdkaaGreatDoorProg
import Derived.Test.YtbcmpacmoofdkaaGreatDoorTree22
import Derived.WalkKit
import Derived.ProofKit
import Derived.OpenShut
import Derived.Below
import Derived.WalkLawsBesides
import Derived.OwnWalk
import Derived.BigQuiet
import Derived.Deep.MidRow
import Derived.Deep.RegionHeld
import Derived.Deep.RegionHeld3
import Derived.WalkSmall
import Derived.Deep.DeepCutAuto
namespace Go.Proofs.YtbcmpacmoofdkaaGreatDoor
open Go.ChangeShapes Go.WideShapes Go.ChangeAt Go.RowKit

theorem PS.opened {b : Nat} {w : World} {tv : Value} {toks : List ITk} {at' op : Nat} {sc nv dv : Value} (h : PS b w tv toks at' op sc nv dv) (m : Nat) : PS b (w.setCell ⟨b, 2, none⟩ (.int .i64 (m : Int))) tv toks at' m sc nv dv :=
  ⟨(World.cell?_setCell_other _ _ _ _ (by simp)).trans h.c0, (World.cell?_setCell_other _ _ _ _ (by simp)).trans h.c1, World.cell?_setCell_same _ _ _ h.c2, (World.cell?_setCell_other _ _ _ _ (by simp)).trans h.c3, (World.cell?_setCell_other _ _ _ _ (by simp)).trans h.c4, (World.cell?_setCell_other _ _ _ _ (by simp)).trans h.c5,
   by rw [World.frozen?_setCell]; exact h.f1, by rw [World.frozen?_setCell]; exact h.f2, by rw [World.frozen?_setCell]; exact h.f3, by rw [World.frozen?_setCell]; exact h.f4, by rw [World.frozen?_setCell]; exact h.f5,
   rdTk_below h.rt ((Below.refl b w).setCell (p := ⟨b, 2, none⟩) (Nat.le_refl _) _), h.ba, by simpa using h.old3⟩
theorem St.opened {b : Nat} {w : World} {tv : Value} {toks : List ITk} {at' op : Nat} {so : Option Addr} {fx : List UInt8 → Fix} {ns : List Nod} {ds : List Nat} {nv dv : Value} (h : St b w tv toks at' op so fx ns ds nv dv) (m : Nat) : St b (w.setCell ⟨b, 2, none⟩ (.int .i64 (m : Int))) tv toks at' m so fx ns ds nv dv :=
  h.moved (h.ps.opened m) ((Moved.refl b w).set _)

set_option maxRecDepth 100000 in
set_option maxHeartbeats 8000000 in
theorem phrase_pat (b : Nat) (tv : Value) (toks : List ITk) (at' at1 op : Nat) (so : Option Addr) (fx : List UInt8 → Fix) (ns ns' : List Nod) (ds ds' : List Nat) (nv dv : Value) (w : World) (n : Int) (h : St b w tv toks at' op so fx ns ds nv dv) (ho : op < 1000)
    (hb : Calls Tryz.prog 123 #[.pointer (some ⟨b, 0, none⟩), .int .u8 32] w fun e w' => e = .returned (.bool true) ∧ Below w.heap.size w w')
    (ht : ∀ W, St b W tv toks at' (op + 1) so fx ns ds nv dv → Calls Tryz.prog 220 #[.pointer (some ⟨b, 0, none⟩)] W fun e w' => e = .returned (.int .i64 n) ∧ (∃ nv' dv', St b w' tv toks at1 (op + 1) so fx ns' ds' nv' dv') ∧ Rel b W w') :
    Calls Tryz.prog 140 #[.pointer (some ⟨b, 0, none⟩), .int .u8 32, .func (.func 220) #[.pointer (some ⟨b, 0, none⟩)] #[]] w fun e w' => e = .returned (.int .i64 n) ∧ (∃ nv' dv', St b w' tv toks at1 op so fx ns' ds' nv' dv') ∧ Rel b w w' := by
  have hold := h.ps.old
  have CB := hide' hb
  have CT := hide' ht
  have HSw := hide' h
  have e0 : ((op : Int) == 1000) = false := by simp; omega
  obtain ⟨q, hq⟩ : ∃ q, op + 1 = q := ⟨_, rfl⟩
  rw [hq] at CT
  have e1 : (op : Int) + 1 = (q : Int) := by omega
  have e2 : (q : Int) - 1 = (op : Int) := by omega
  have hq2 : q ≤ 1000 := by omega
  clear hb ht h hq
  go_enter Tryz.func140, Tryz.ntmps140
  go_upto_region 3 with (go_at_call 123; refine CB.out.mono ?_; clear CB; rintro e w1 ⟨rfl, b1⟩)
  have h1 := HSw.out.below b1
  have c2 := h1.ps.c2
  have f2 := h1.ps.f2
  have HS1 := hide' h1
  clear h1
  go_upto_region 6 with fail
  have h2 : St b (w1.setCell ⟨b, 2, none⟩ (.int .i64 (q : Int))) tv toks at' q so fx ns ds nv dv := HS1.out.opened q
  have r2 : Rel b w (w1.setCell ⟨b, 2, none⟩ (.int .i64 (q : Int))) := (Rel.of b1 hold).set (by decide) _
  have HS2 := hide' h2
  have HR2 := hide' r2
  clear h2 r2 HS1 c2 f2 b1
  go_wp2_with (go_at_call 220; refine (CT.out _ HS2.out).mono ?_; clear CT; rintro e w3 ⟨rfl, ⟨nv', dv', h3⟩, r3⟩; (have d2 := h3.ps.c2); (have g2 := h3.ps.f2); (have HS3 := hide' h3); (have HR3 := hide' r3); clear h3 r3)
  go_ret
  exact ⟨rfl, ⟨nv', dv', HS3.out.opened op⟩, (HR2.out.trans HR3.out).set (by decide) _⟩

set_option maxRecDepth 100000 in
set_option maxHeartbeats 8000000 in
theorem pat_of (b : Nat) (tv : Value) (toks : List ITk) (at' at1 op : Nat) (so : Option Addr) (fx : List UInt8 → Fix) (ns ns' : List Nod) (ds ds' : List Nat) (nv dv : Value) (w : World) (n : Int) (h : St b w tv toks at' op so fx ns ds nv dv) (ho : op < 1000)
    (hb : Calls Tryz.prog 123 #[.pointer (some ⟨b, 0, none⟩), .int .u8 32] w fun e w' => e = .returned (.bool true) ∧ Below w.heap.size w w')
    (ht : ∀ W, St b W tv toks at' (op + 1) so fx ns ds nv dv → Calls Tryz.prog 220 #[.pointer (some ⟨b, 0, none⟩)] W fun e w' => e = .returned (.int .i64 n) ∧ (∃ nv' dv', St b w' tv toks at1 (op + 1) so fx ns' ds' nv' dv') ∧ Rel b W w') :
    Calls Tryz.prog 202 #[.pointer (some ⟨b, 0, none⟩)] w fun e w' => e = .returned (.int .i64 n) ∧ (∃ nv' dv', St b w' tv toks at1 op so fx ns' ds' nv' dv') ∧ Rel b w w' := by
  have C := hide' (phrase_pat b tv toks at' at1 op so fx ns ns' ds ds' nv dv w n h ho hb ht)
  have hmf : ∀ (fn : Fn) (first cap : Array Value) (w : World), (Instr.makeFunc fn first cap).run Tryz.prog w = .ok (.func fn first cap) w := fun _ _ _ _ => rfl
  clear h hb ht
  go_enter Tryz.func202, Tryz.ntmps202
  go_wp2_with (go_at_call 140; refine C.out.mono ?_; clear C; rintro e w1 ⟨rfl, h1, r1⟩; (have H1 := hide' h1); (have R1 := hide' r1); clear h1 r1)
  go_ret
  exact ⟨rfl, H1.out, R1.out⟩

set_option maxRecDepth 100000 in
set_option maxHeartbeats 8000000 in
theorem phrase_exp (b : Nat) (tv : Value) (toks : List ITk) (at' at1 op : Nat) (so : Option Addr) (fx : List UInt8 → Fix) (ns ns' : List Nod) (ds ds' : List Nat) (nv dv : Value) (w : World) (n : Int) (h : St b w tv toks at' op so fx ns ds nv dv) (ho : op < 1000)
    (hb : Calls Tryz.prog 123 #[.pointer (some ⟨b, 0, none⟩), .int .u8 192] w fun e w' => e = .returned (.bool true) ∧ Below w.heap.size w w')
    (ht : ∀ W, St b W tv toks at' (op + 1) so fx ns ds nv dv → Calls Tryz.prog 222 #[.pointer (some ⟨b, 0, none⟩)] W fun e w' => e = .returned (.int .i64 n) ∧ (∃ nv' dv', St b w' tv toks at1 (op + 1) so fx ns' ds' nv' dv') ∧ Rel b W w') :
    Calls Tryz.prog 140 #[.pointer (some ⟨b, 0, none⟩), .int .u8 192, .func (.func 222) #[.pointer (some ⟨b, 0, none⟩)] #[]] w fun e w' => e = .returned (.int .i64 n) ∧ (∃ nv' dv', St b w' tv toks at1 op so fx ns' ds' nv' dv') ∧ Rel b w w' := by
  have hold := h.ps.old
  have CB := hide' hb
  have CT := hide' ht
  have HSw := hide' h
  have e0 : ((op : Int) == 1000) = false := by simp; omega
  obtain ⟨q, hq⟩ : ∃ q, op + 1 = q := ⟨_, rfl⟩
  rw [hq] at CT
  have e1 : (op : Int) + 1 = (q : Int) := by omega
  have e2 : (q : Int) - 1 = (op : Int) := by omega
  have hq2 : q ≤ 1000 := by omega
  clear hb ht h hq
  go_enter Tryz.func140, Tryz.ntmps140
  go_upto_region 3 with (go_at_call 123; refine CB.out.mono ?_; clear CB; rintro e w1 ⟨rfl, b1⟩)
  have h1 := HSw.out.below b1
  have c2 := h1.ps.c2
  have f2 := h1.ps.f2
  have HS1 := hide' h1
  clear h1
  go_upto_region 6 with fail
  have h2 : St b (w1.setCell ⟨b, 2, none⟩ (.int .i64 (q : Int))) tv toks at' q so fx ns ds nv dv := HS1.out.opened q
  have r2 : Rel b w (w1.setCell ⟨b, 2, none⟩ (.int .i64 (q : Int))) := (Rel.of b1 hold).set (by decide) _
  have HS2 := hide' h2
  have HR2 := hide' r2
  clear h2 r2 HS1 c2 f2 b1
  go_wp2_with (go_at_call 222; refine (CT.out _ HS2.out).mono ?_; clear CT; rintro e w3 ⟨rfl, ⟨nv', dv', h3⟩, r3⟩; (have d2 := h3.ps.c2); (have g2 := h3.ps.f2); (have HS3 := hide' h3); (have HR3 := hide' r3); clear h3 r3)
  go_ret
  exact ⟨rfl, ⟨nv', dv', HS3.out.opened op⟩, (HR2.out.trans HR3.out).set (by decide) _⟩

set_option maxRecDepth 100000 in
set_option maxHeartbeats 8000000 in
theorem exp_of (b : Nat) (tv : Value) (toks : List ITk) (at' at1 op : Nat) (so : Option Addr) (fx : List UInt8 → Fix) (ns ns' : List Nod) (ds ds' : List Nat) (nv dv : Value) (w : World) (n : Int) (h : St b w tv toks at' op so fx ns ds nv dv) (ho : op < 1000)
    (hb : Calls Tryz.prog 123 #[.pointer (some ⟨b, 0, none⟩), .int .u8 192] w fun e w' => e = .returned (.bool true) ∧ Below w.heap.size w w')
    (ht : ∀ W, St b W tv toks at' (op + 1) so fx ns ds nv dv → Calls Tryz.prog 222 #[.pointer (some ⟨b, 0, none⟩)] W fun e w' => e = .returned (.int .i64 n) ∧ (∃ nv' dv', St b w' tv toks at1 (op + 1) so fx ns' ds' nv' dv') ∧ Rel b W w') :
    Calls Tryz.prog 204 #[.pointer (some ⟨b, 0, none⟩)] w fun e w' => e = .returned (.int .i64 n) ∧ (∃ nv' dv', St b w' tv toks at1 op so fx ns' ds' nv' dv') ∧ Rel b w w' := by
  have C := hide' (phrase_exp b tv toks at' at1 op so fx ns ns' ds ds' nv dv w n h ho hb ht)
  have hmf : ∀ (fn : Fn) (first cap : Array Value) (w : World), (Instr.makeFunc fn first cap).run Tryz.prog w = .ok (.func fn first cap) w := fun _ _ _ _ => rfl
  clear h hb ht
  go_enter Tryz.func204, Tryz.ntmps204
  go_wp2_with (go_at_call 140; refine C.out.mono ?_; clear C; rintro e w1 ⟨rfl, h1, r1⟩; (have H1 := hide' h1); (have R1 := hide' r1); clear h1 r1)
  go_ret
  exact ⟨rfl, H1.out, R1.out⟩

set_option maxRecDepth 100000 in
set_option maxHeartbeats 8000000 in
theorem phrase_dec (b : Nat) (tv : Value) (toks : List ITk) (at' at1 op : Nat) (so : Option Addr) (fx : List UInt8 → Fix) (ns ns' : List Nod) (ds ds' : List Nat) (nv dv : Value) (w : World) (n : Int) (h : St b w tv toks at' op so fx ns ds nv dv) (ho : op < 1000)
    (hb : Calls Tryz.prog 123 #[.pointer (some ⟨b, 0, none⟩), .int .u8 1] w fun e w' => e = .returned (.bool true) ∧ Below w.heap.size w w')
    (ht : ∀ W, St b W tv toks at' (op + 1) so fx ns ds nv dv → Calls Tryz.prog 141 #[.pointer (some ⟨b, 0, none⟩)] W fun e w' => e = .returned (.int .i64 n) ∧ (∃ nv' dv', St b w' tv toks at1 (op + 1) so fx ns' ds' nv' dv') ∧ Rel b W w') :
    Calls Tryz.prog 140 #[.pointer (some ⟨b, 0, none⟩), .int .u8 1, .func (.func 141) #[.pointer (some ⟨b, 0, none⟩)] #[]] w fun e w' => e = .returned (.int .i64 n) ∧ (∃ nv' dv', St b w' tv toks at1 op so fx ns' ds' nv' dv') ∧ Rel b w w' := by
  have hold := h.ps.old
  have CB := hide' hb
  have CT := hide' ht
  have HSw := hide' h
  have e0 : ((op : Int) == 1000) = false := by simp; omega
  obtain ⟨q, hq⟩ : ∃ q, op + 1 = q := ⟨_, rfl⟩
  rw [hq] at CT
  have e1 : (op : Int) + 1 = (q : Int) := by omega
  have e2 : (q : Int) - 1 = (op : Int) := by omega
  have hq2 : q ≤ 1000 := by omega
  clear hb ht h hq
  go_enter Tryz.func140, Tryz.ntmps140
  go_upto_region 3 with (go_at_call 123; refine CB.out.mono ?_; clear CB; rintro e w1 ⟨rfl, b1⟩)
  have h1 := HSw.out.below b1
  have c2 := h1.ps.c2
  have f2 := h1.ps.f2
  have HS1 := hide' h1
  clear h1
  go_upto_region 6 with fail
  have h2 : St b (w1.setCell ⟨b, 2, none⟩ (.int .i64 (q : Int))) tv toks at' q so fx ns ds nv dv := HS1.out.opened q
  have r2 : Rel b w (w1.setCell ⟨b, 2, none⟩ (.int .i64 (q : Int))) := (Rel.of b1 hold).set (by decide) _
  have HS2 := hide' h2
  have HR2 := hide' r2
  clear h2 r2 HS1 c2 f2 b1
  go_wp2_with (go_at_call 141; refine (CT.out _ HS2.out).mono ?_; clear CT; rintro e w3 ⟨rfl, ⟨nv', dv', h3⟩, r3⟩; (have d2 := h3.ps.c2); (have g2 := h3.ps.f2); (have HS3 := hide' h3); (have HR3 := hide' r3); clear h3 r3)
  go_ret
  exact ⟨rfl, ⟨nv', dv', HS3.out.opened op⟩, (HR2.out.trans HR3.out).set (by decide) _⟩

set_option maxRecDepth 100000 in
set_option maxHeartbeats 8000000 in
theorem dec_of (b : Nat) (tv : Value) (toks : List ITk) (at' at1 op : Nat) (so : Option Addr) (fx : List UInt8 → Fix) (ns ns' : List Nod) (ds ds' : List Nat) (nv dv : Value) (w : World) (n : Int) (h : St b w tv toks at' op so fx ns ds nv dv) (ho : op < 1000)
    (hb : Calls Tryz.prog 123 #[.pointer (some ⟨b, 0, none⟩), .int .u8 1] w fun e w' => e = .returned (.bool true) ∧ Below w.heap.size w w')
    (ht : ∀ W, St b W tv toks at' (op + 1) so fx ns ds nv dv → Calls Tryz.prog 141 #[.pointer (some ⟨b, 0, none⟩)] W fun e w' => e = .returned (.int .i64 n) ∧ (∃ nv' dv', St b w' tv toks at1 (op + 1) so fx ns' ds' nv' dv') ∧ Rel b W w') :
    Calls Tryz.prog 124 #[.pointer (some ⟨b, 0, none⟩)] w fun e w' => e = .returned (.int .i64 n) ∧ (∃ nv' dv', St b w' tv toks at1 op so fx ns' ds' nv' dv') ∧ Rel b w w' := by
  have C := hide' (phrase_dec b tv toks at' at1 op so fx ns ns' ds ds' nv dv w n h ho hb ht)
  have hmf : ∀ (fn : Fn) (first cap : Array Value) (w : World), (Instr.makeFunc fn first cap).run Tryz.prog w = .ok (.func fn first cap) w := fun _ _ _ _ => rfl
  clear h hb ht
  go_enter Tryz.func124, Tryz.ntmps124
  go_wp2_with (go_at_call 140; refine C.out.mono ?_; clear C; rintro e w1 ⟨rfl, h1, r1⟩; (have H1 := hide' h1); (have R1 := hide' r1); clear h1 r1)
  go_ret
  exact ⟨rfl, H1.out, R1.out⟩
end Go.Proofs.YtbcmpacmoofdkaaGreatDoor
/- The parser: list, where one bind stands. -/
namespace Go.Proofs.YtbcmpacmoofdkaaGreatDoor
open Go.ChangeShapes Go.WideShapes Go.ChangeAt Go.RowKit

set_option maxRecDepth 100000 in
set_option maxHeartbeats 8000000 in
theorem list_bind (b : Nat) (tv : Value) (toks : List ITk) (at1 op : Nat) (so : Option Addr) (fx : List UInt8 → Fix) (ns' : List Nod) (ds' : List Nat) (w : World) (n : Int)
    (ha : isT (lookT toks at1) ⟨#[97, 110, 100]⟩ = false)
    (ht : Calls Tryz.prog 180 #[.pointer (some ⟨b, 0, none⟩)] w fun e w' => e = .returned (.int .i64 n) ∧ (∃ nv' dv', St b w' tv toks at1 op so fx ns' ds' nv' dv') ∧ Rel b w w') :
    Calls Tryz.prog 181 #[.pointer (some ⟨b, 0, none⟩), .string ⟨#[97, 110, 100]⟩, .func (.func 180) #[.pointer (some ⟨b, 0, none⟩)] #[]] w fun e w' => ∃ g, e = .returned (.slice (some ⟨g, 0, none⟩) 1 1) ∧ RdI w'.heap.size w' (.slice (some ⟨g, 0, none⟩) 1 1) [n] ∧ (∃ nv' dv', St b w' tv toks at1 op so fx ns' ds' nv' dv') ∧ Rel b w w' := by
  have CT := hide' ht
  have CN := hide' (fun W nv dv (h : St b W tv toks at1 op so fx ns' ds' nv dv) => take_no b tv toks at1 op (.pointer so) nv dv ⟨#[97, 110, 100]⟩ W h.ps ha)
  clear ht ha
  go_enter Tryz.func181, Tryz.ntmps181
  go_wp2_with (go_at_call 180; refine CT.out.mono ?_; clear CT; rintro e w1 ⟨rfl, ⟨nv', dv', h1⟩, r1⟩; (have H1 := hide' h1); (have R1 := hide' r1); clear h1 r1)
  obtain ⟨W2, hW2⟩ : ∃ W2, w1.alloc (.cells #[.int .i64 n] 3) = W2 := ⟨_, rfl⟩
  have c0 : W2.cell? ⟨w1.heap.size, 0, none⟩ = some (.int .i64 n) := by rw [← hW2]; simp
  have s2 : w1.heap.size < W2.heap.size := by rw [← hW2]; simp
  have B2 : Below w1.heap.size w1 W2 := by rw [← hW2]; exact (Below.refl _ _).alloc (Nat.le_refl _) _
  have H2 := hide' (H1.out.below B2)
  have R2 := hide' (R1.out.trans (Rel.of B2 H1.out.ps.old))
  generalize w1.heap.size = g at *
  try rw [hW2]
  clear hW2
  go_loopw [7] (fun v wr => v = .slice (some ⟨g, 0, none⟩) 1 1 ∧ wr = W2) (fun _ _ => 0)
  case atStart => exact ⟨rfl, rfl⟩
  case round =>
    obtain ⟨rfl, hw⟩ := hrel
    subst hw
    go_wp2_with (go_at_call 122; refine (CN.out _ nv' dv' H2.out).mono ?_; clear CN; rintro e w3 ⟨rfl, b3⟩)
    go_ret
    refine ⟨g, rfl, ⟨_, _, rfl, by simp, fun j hj => ⟨⟨g, 0, none⟩, rfl, Nat.lt_of_lt_of_le s2 b3.size, ?_⟩⟩, ⟨nv', dv', H2.out.below b3⟩, R2.out.trans (Rel.of b3 H2.out.ps.old)⟩
    match j, hj with
    | 0, _ => exact (b3.cell (p := ⟨g, 0, none⟩) s2).trans c0
end Go.Proofs.YtbcmpacmoofdkaaGreatDoor
/- The parser: group, where one bind stands. -/
namespace Go.Proofs.YtbcmpacmoofdkaaGreatDoor
open Go.ChangeShapes Go.WideShapes Go.ChangeAt Go.RowKit

set_option maxRecDepth 100000 in
set_option maxHeartbeats 8000000 in
theorem group_bind (b : Nat) (tv : Value) (toks : List ITk) (at' at1 op : Nat) (so : Option Addr) (fx : List UInt8 → Fix) (ns ns' : List Nod) (ds ds' : List Nat) (nv dv : Value) (w : World) (n : Nat) (line col kind : Int) (h : St b w tv toks at' op so fx ns ds nv dv)
    (ha : isT (lookT toks at1) ⟨#[97, 110, 100]⟩ = false)
    (ht : ∀ W, Below w.heap.size w W → Calls Tryz.prog 180 #[.pointer (some ⟨b, 0, none⟩)] W fun e w' => e = .returned (.int .i64 (n : Int)) ∧ (∃ nv' dv', St b w' tv toks at1 op so fx ns' ds' nv' dv') ∧ Rel b W w')
    (hn : n < ds'.length) (hdep : depM ds' [(n : Int)] ≤ 1000) (hds : ∀ j, j < ds'.length → ds'.getD j 0 ≤ 1000) (hcap : ns'.length + 1 ≤ 1000) :
    Calls Tryz.prog 159 #[.pointer (some ⟨b, 0, none⟩), .agg #[.int .i64 line, .int .i64 col], .int .i64 kind, .func (.func 180) #[.pointer (some ⟨b, 0, none⟩)] #[]] w fun e w' => e = .returned (.int .i64 (ns'.length : Int)) ∧ (∃ nv' dv', St b w' tv toks at1 op so fx (ns' ++ [⟨kind, [], [], [(n : Int)], line, col⟩]) (ds' ++ [depM ds' [(n : Int)]]) nv' dv') ∧ Rel b w w' := by
  have hold := h.ps.old
  have CL := hide' (fun W (g : Below w.heap.size w W) => list_bind b tv toks at1 op so fx ns' ds' W n ha (ht W g))
  have CP := hide' (fun W g nv' dv' (hW : St b W tv toks at1 op so fx ns' ds' nv' dv') (hk : RdI W.heap.size W (.slice (some ⟨g, 0, none⟩) 1 1) [(n : Int)]) => put_any b tv toks at1 op so fx ns' ds' nv' dv' W hW ⟨#[]⟩ (by decide) line col kind (.slice (some ⟨g, 0, none⟩) 1 1) [(n : Int)] hk (fun e => by cases e) (by simp) (fun j hj => by
    match j, hj with
    | 0, _ => exact ⟨by simp, by simpa using hn⟩) hdep hds hcap)
  have HSw := hide' h
  obtain ⟨W0, hW0⟩ : ∃ W0, w.alloc (.cells #[.int .i64 line, .int .i64 col] 82) = W0 := ⟨_, rfl⟩
  have B0 : Below w.heap.size w W0 := by rw [← hW0]; exact (Below.refl _ _).alloc (Nat.le_refl _) _
  have p0 : W0.cell? ⟨w.heap.size, 0, none⟩ = some (.int .i64 line) := by rw [← hW0]; simp
  have p1 : W0.cell? ⟨w.heap.size, 1, none⟩ = some (.int .i64 col) := by rw [← hW0]; simp
  have s0 : w.heap.size < W0.heap.size := by rw [← hW0]; simp
  have HPR := hide' (h.prot (h.ps.below B0.drew hold) (Nat.le_refl _) s0)
  have HB0 := hide' B0
  generalize ns'.length = N at *
  generalize depM ds' [(n : Int)] = D at *
  clear h ha ht hn hdep hds B0
  go_enter Tryz.func159, Tryz.ntmps159
  go_upto_region 1 with fail
  try rw [hW0]
  clear hW0
  go_region_held3 (fun w' => w'.cell? ⟨w.heap.size, 0, none⟩ = some (.int .i64 line) ∧ w'.cell? ⟨w.heap.size, 1, none⟩ = some (.int .i64 col)) (go_keep) (first
    | (go_at_call 181; refine (CL.out _ HB0.out.drew).mono ?_; clear CL; rintro e w1 ⟨g, rfl, k1, ⟨nv', dv', h1⟩, r1⟩; (have K1 := hide' k1); (have H1 := hide' h1); (have R1 := hide' r1); clear k1 h1 r1; (have q1 := R1.out.rest _ HPR.out); (have HQ1 := hide' q1.2); (have c0 := (cell_of_block (a := ⟨w.heap.size, 0, none⟩) q1.1).trans p0); (have c1 := (cell_of_block (a := ⟨w.heap.size, 1, none⟩) q1.1).trans p1); clear q1)
    | (go_at_call 125; refine (CP.out _ g nv' dv' H1.out K1.out).mono ?_; clear CP; rintro e w2 ⟨rfl, h2, r2⟩; (have H2 := hide' h2); (have R2 := hide' r2); clear h2 r2; (have q2 := R2.out.rest _ HQ1.out); (have d0 := (cell_of_block (a := ⟨w.heap.size, 0, none⟩) q2.1).trans c0); (have d1 := (cell_of_block (a := ⟨w.heap.size, 1, none⟩) q2.1).trans c1); clear q2))
  go_wp2_with fail
  go_ret
  exact ⟨rfl, H2.out, ((Rel.of HB0.out.drew hold).trans R1.out).trans R2.out⟩
end Go.Proofs.YtbcmpacmoofdkaaGreatDoor
/- The parser: bind, values. -/
namespace Go.Proofs.YtbcmpacmoofdkaaGreatDoor
open Go.ChangeShapes Go.WideShapes Go.ChangeAt Go.RowKit

theorem two_new (w : World) (n m : Int) (t : TypeId) : RdI (w.alloc (.cells #[.int .i64 n, .int .i64 m] t)).heap.size (w.alloc (.cells #[.int .i64 n, .int .i64 m] t)) (.slice (some ⟨w.heap.size, 0, none⟩) 2 2) [n, m] := by
  refine ⟨_, _, rfl, by simp, fun j hj => ⟨⟨w.heap.size, 0, none⟩, rfl, by simp, ?_⟩⟩
  match j, hj with
  | 0, _ => simp [Addr.add]
  | 1, _ => simp [Addr.add]

set_option maxRecDepth 100000 in
set_option maxHeartbeats 8000000 in
theorem bind_of (b : Nat) (tv : Value) (toks : List ITk) (at1 at2 op : Nat) (so : Option Addr) (fx : List UInt8 → Fix) (ns1 ns2 : List Nod) (ds1 ds2 : List Nat) (w : World) (n m : Nat)
    (hp : Calls Tryz.prog 202 #[.pointer (some ⟨b, 0, none⟩)] w fun e w' => e = .returned (.int .i64 (n : Int)) ∧ (∃ nv' dv', St b w' tv toks at1 op so fx ns1 ds1 nv' dv') ∧ Rel b w w')
    (heq : isT (lookT toks at1) ⟨#[61]⟩ = true) (hb : at1 + 1 ≤ 8796093022208)
    (he : ∀ W nv dv, St b W tv toks (at1 + 1) op so fx ns1 ds1 nv dv → Calls Tryz.prog 204 #[.pointer (some ⟨b, 0, none⟩)] W fun e w' => e = .returned (.int .i64 (m : Int)) ∧ (∃ nv' dv', St b w' tv toks at2 op so fx ns2 ds2 nv' dv') ∧ Rel b W w')
    (hn : n < ds2.length) (hm : m < ds2.length) (hdep : depM ds2 [(n : Int), (m : Int)] ≤ 1000) (hds : ∀ j, j < ds2.length → ds2.getD j 0 ≤ 1000) (hcap : ns2.length + 1 ≤ 1000) :
    Calls Tryz.prog 180 #[.pointer (some ⟨b, 0, none⟩)] w fun e w' => e = .returned (.int .i64 (ns2.length : Int)) ∧ (∃ nv' dv', St b w' tv toks at2 op so fx (ns2 ++ [⟨53, [], [], [(n : Int), (m : Int)], (ns2.getD n Nod.zero).line, (ns2.getD n Nod.zero).column⟩]) (ds2 ++ [depM ds2 [(n : Int), (m : Int)]]) nv' dv') ∧ Rel b w w' := by
  have CP := hide' hp
  have CW := hide' (fun W nv dv (h : St b W tv toks at1 op so fx ns1 ds1 nv dv) => want_yes b tv toks at1 op (.pointer so) nv dv ⟨#[61]⟩ W h.ps heq hb)
  have CE := hide' he
  have CJ := hide' (fun W nv dv kv (h : St b W tv toks at2 op so fx ns2 ds2 nv dv) (hk : RdI W.heap.size W kv [(n : Int), (m : Int)]) => join_any b tv toks at2 op so fx ns2 ds2 nv dv W h 53 kv n [(m : Int)] hk (by simp) (fun j hj => by
    match j, hj with
    | 0, _ => exact ⟨by simp, by simpa using hn⟩
    | 1, _ => exact ⟨by simp, by simpa using hm⟩) hdep hds hcap)
  clear hp heq hb he hn hm hdep hds
  generalize ns2.length = N at *
  generalize depM ds2 [(n : Int), (m : Int)] = D at *
  generalize (ns2.getD n Nod.zero).line = tx at *
  generalize (ns2.getD n Nod.zero).column = ty at *
  go_enter Tryz.func180, Tryz.ntmps180
  go_wp2_with (first
    | (go_at_call 202; refine CP.out.mono ?_; clear CP; rintro e w1 ⟨rfl, ⟨nv1, dv1, h1⟩, r1⟩; (have H1 := hide' h1); (have R1 := hide' r1); clear h1 r1)
    | (go_at_call 190; refine (CW.out _ nv1 dv1 H1.out).mono ?_; clear CW; rintro e w2 ⟨rfl, p2, m2⟩; (have H2 := hide' (H1.out.moved p2 m2)); (have R2 := hide' (R1.out.trans (rel_of_moved H1.out.ps p2 m2))); clear p2 m2)
    | (go_at_call 204; refine (CE.out _ nv1 dv1 H2.out).mono ?_; clear CE; rintro e w3 ⟨rfl, ⟨nv3, dv3, h3⟩, r3⟩; (have H3 := hide' h3); (have R3 := hide' (R2.out.trans r3)); clear h3 r3)
    | (go_at_call 203; refine (CJ.out _ nv3 dv3 _ (H3.out.below ((Below.refl _ _).alloc (Nat.le_refl _) _)) (two_new _ _ _ _)).mono ?_; clear CJ; rintro e w4 ⟨rfl, h4, r4⟩; (have H4 := hide' h4); (have R4 := hide' r4); clear h4 r4))
  go_ret
  exact ⟨rfl, H4.out, (R3.out.trans (Rel.of ((Below.refl _ _).alloc (Nat.le_refl _) _) H3.out.ps.old)).trans R4.out⟩

set_option maxRecDepth 100000 in
set_option maxHeartbeats 8000000 in
theorem values_of (b : Nat) (tv : Value) (toks : List ITk) (at' op : Nat) (sc nv dv : Value) (w : World) (line col : Int) (Q : Ending → World → Prop) (h : PS b w tv toks at' op sc nv dv)
    (hr : isT (lookT toks at') ⟨#[114, 101, 99]⟩ = false)
    (hg : ∀ W, Below w.heap.size w W → Calls Tryz.prog 159 #[.pointer (some ⟨b, 0, none⟩), .agg #[.int .i64 line, .int .i64 col], .int .i64 51, .func (.func 180) #[.pointer (some ⟨b, 0, none⟩)] #[]] W fun e w' => ∃ n : Int, e = .returned (.int .i64 n) ∧ Q e w') :
    Calls Tryz.prog 158 #[.pointer (some ⟨b, 0, none⟩), .agg #[.int .i64 line, .int .i64 col]] w Q := by
  have hold := h.old
  have CT := hide' (fun W (g : Below w.heap.size w W) => take_no b tv toks at' op sc nv dv ⟨#[114, 101, 99]⟩ W (h.below g hold) hr)
  have CG := hide' hg
  have hmf : ∀ (fn : Fn) (first cap : Array Value) (w : World), (Instr.makeFunc fn first cap).run Tryz.prog w = .ok (.func fn first cap) w := fun _ _ _ _ => rfl
  obtain ⟨W0, hW0⟩ : ∃ W0, w.alloc (.cells #[.int .i64 line, .int .i64 col] 82) = W0 := ⟨_, rfl⟩
  have B0 : Below w.heap.size w W0 := by rw [← hW0]; exact (Below.refl _ _).alloc (Nat.le_refl _) _
  have p0 : W0.cell? ⟨w.heap.size, 0, none⟩ = some (.int .i64 line) := by rw [← hW0]; simp
  have p1 : W0.cell? ⟨w.heap.size, 1, none⟩ = some (.int .i64 col) := by rw [← hW0]; simp
  have s0 : w.heap.size < W0.heap.size := by rw [← hW0]; simp
  have HB0 := hide' B0
  clear h hr hg B0
  go_enter Tryz.func158, Tryz.ntmps158
  go_upto_region 1 with fail
  try rw [hW0]
  clear hW0
  go_wp2_with (first
    | (go_at_call 122; refine (CT.out _ HB0.out).mono ?_; clear CT; rintro e w1 ⟨rfl, b1⟩; (have c0 := (b1.cell (p := ⟨w.heap.size, 0, none⟩) s0).trans p0); (have c1 := (b1.cell (p := ⟨w.heap.size, 1, none⟩) s0).trans p1))
    | (go_at_call 159; refine (CG.out _ (HB0.out.trans (b1.mono (Nat.le_of_lt s0)))).mono ?_; clear CG; rintro e w2 ⟨n, rfl, q2⟩; (have HQ := hide' q2); clear q2))
  exact HQ.out
end Go.Proofs.YtbcmpacmoofdkaaGreatDoor
