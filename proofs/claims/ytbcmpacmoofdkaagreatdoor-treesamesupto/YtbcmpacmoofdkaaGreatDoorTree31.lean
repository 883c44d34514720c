/- The parser: pattern, operand, and, or, handled, over what they call. -/
import Derived.Test.YtbcmpacmoofdkaaGreatDoorProg
import Derived.Test.YtbcmpacmoofdkaaGreatDoorTree28
import Derived.WalkKit
import Derived.ProofKit
import Derived.OpenShut
import Derived.Below
import Derived.WalkLawsBesides
import Derived.OwnWalk
import Derived.BigQuiet
import Derived.Deep.MidRow
import Derived.Deep.RegionHeld
import Derived.Deep.RegionHeld3
import Derived.WalkSmall
import Derived.Deep.DeepCutAuto
import Derived.Deep.AppendLies
namespace Go.Proofs.YtbcmpacmoofdkaaGreatDoor
open Go.ChangeShapes Go.WideShapes Go.ChangeAt Go.RowKit

set_option maxRecDepth 100000 in
set_option maxHeartbeats 8000000 in
theorem pattern_of (b : Nat) (tv : Value) (toks : List ITk) (at' at1 op : Nat) (so : Option Addr) (fx : List UInt8 → Fix) (ns ns' : List Nod) (ds ds' : List Nat) (nv dv : Value) (w : World) (n : Int) (h : St b w tv toks at' op so fx ns ds nv dv)
    (ho : isT (lookT toks at') ⟨#[111, 112]⟩ = false) (hl : (isNm (lookT toks at') && (isT (lookT toks (at' + 1)) ⟨#[97, 115]⟩ || isT (lookT toks (at' + 1)) ⟨#[58]⟩)) = false) (hc : isT (lookT toks at1) ⟨#[58]⟩ = false)
    (hi : ∀ W, Below w.heap.size w W → Calls Tryz.prog 233 #[.pointer (some ⟨b, 0, none⟩), patMix b] W fun e w' => e = .returned (.int .i64 n) ∧ (∃ nv' dv', St b w' tv toks at1 op so fx ns' ds' nv' dv') ∧ Rel b W w') :
    Calls Tryz.prog 220 #[.pointer (some ⟨b, 0, none⟩)] w fun e w' => e = .returned (.int .i64 n) ∧ (∃ nv' dv', St b w' tv toks at1 op so fx ns' ds' nv' dv') ∧ Rel b w w' := by
  have hold := h.ps.old
  have CL := hide' (isLayered_any b tv toks at' op (.pointer so) nv dv w h.ps ho)
  rw [hl] at CL
  have CP := hide' (fun W => patterns_any b W)
  have CI := hide' hi
  have CT := hide' (fun W nv' dv' (g : St b W tv toks at1 op so fx ns' ds' nv' dv') => typed_no b tv toks at1 op (.pointer so) nv' dv' 37 n W g.ps hc)
  clear h ho hl hc hi
  unfold patMix at CP CI
  go_enter Tryz.func220, Tryz.ntmps220
  go_wp2_with (first
    | (go_at_call 231; refine CL.out.mono ?_; clear CL; rintro e w1 ⟨rfl, b1⟩)
    | (go_at_call 234; refine (CP.out _).mono ?_; clear CP; rintro e w2 ⟨rfl, b2⟩; (have B2 := b1.trans (b2.mono b1.size)))
    | (go_at_call 233; refine (CI.out _ B2).mono ?_; clear CI; rintro e w3 ⟨rfl, ⟨nv', dv', h3⟩, r3⟩; (have H3 := hide' h3); (have R3 := hide' r3); clear h3 r3)
    | (go_at_call 232; refine (CT.out _ nv' dv' H3.out).mono ?_; clear CT; rintro e w4 ⟨rfl, b4⟩))
  go_ret
  exact ⟨rfl, ⟨nv', dv', H3.out.below b4⟩, ((Rel.of B2 hold).trans R3.out).trans (Rel.of b4 H3.out.ps.old)⟩

set_option maxRecDepth 100000 in
set_option maxHeartbeats 8000000 in
theorem and_of (b : Nat) (tv : Value) (toks : List ITk) (at1 op : Nat) (so : Option Addr) (fx : List UInt8 → Fix) (ns' : List Nod) (ds' : List Nat) (w : World) (n : Int)
    (hw : isT (lookT toks at1) ⟨#[97, 110, 100, 97, 108, 115, 111]⟩ = false)
    (hi : Calls Tryz.prog 260 #[.pointer (some ⟨b, 0, none⟩)] w fun e w' => e = .returned (.int .i64 n) ∧ (∃ nv' dv', St b w' tv toks at1 op so fx ns' ds' nv' dv') ∧ Rel b w w') :
    Calls Tryz.prog 253 #[.pointer (some ⟨b, 0, none⟩)] w fun e w' => e = .returned (.int .i64 n) ∧ (∃ nv' dv', St b w' tv toks at1 op so fx ns' ds' nv' dv') ∧ Rel b w w' := by
  have CI := hide' hi
  have CT := hide' (fun W nv' dv' (g : St b W tv toks at1 op so fx ns' ds' nv' dv') => take_no b tv toks at1 op (.pointer so) nv' dv' ⟨#[97, 110, 100, 97, 108, 115, 111]⟩ W g.ps hw)
  clear hi hw
  go_enter Tryz.func253, Tryz.ntmps253
  go_wp2_with (go_at_call 260; refine CI.out.mono ?_; clear CI; rintro e w1 ⟨rfl, ⟨nv', dv', h1⟩, r1⟩; (have H1 := hide' h1); (have R1 := hide' r1); clear h1 r1)
  go_loopw [3] (fun v wr => v = .int .i64 n ∧ wr = w1) (fun _ _ => 0)
  case atStart => exact ⟨rfl, rfl⟩
  case round =>
    obtain ⟨rfl, hw⟩ := hrel
    subst hw
    go_wp2_with (go_at_call 122; refine (CT.out _ nv' dv' H1.out).mono ?_; clear CT; rintro e w2 ⟨rfl, b2⟩)
    go_ret
    exact ⟨rfl, ⟨nv', dv', H1.out.below b2⟩, R1.out.trans (Rel.of b2 H1.out.ps.old)⟩

set_option maxRecDepth 100000 in
set_option maxHeartbeats 8000000 in
theorem or_of (b : Nat) (tv : Value) (toks : List ITk) (at1 op : Nat) (so : Option Addr) (fx : List UInt8 → Fix) (ns' : List Nod) (ds' : List Nat) (w : World) (n : Int)
    (hw : isT (lookT toks at1) ⟨#[111, 114, 101, 108, 115, 101]⟩ = false)
    (hi : Calls Tryz.prog 253 #[.pointer (some ⟨b, 0, none⟩)] w fun e w' => e = .returned (.int .i64 n) ∧ (∃ nv' dv', St b w' tv toks at1 op so fx ns' ds' nv' dv') ∧ Rel b w w') :
    Calls Tryz.prog 236 #[.pointer (some ⟨b, 0, none⟩)] w fun e w' => e = .returned (.int .i64 n) ∧ (∃ nv' dv', St b w' tv toks at1 op so fx ns' ds' nv' dv') ∧ Rel b w w' := by
  have CI := hide' hi
  have CT := hide' (fun W nv' dv' (g : St b W tv toks at1 op so fx ns' ds' nv' dv') => take_no b tv toks at1 op (.pointer so) nv' dv' ⟨#[111, 114, 101, 108, 115, 101]⟩ W g.ps hw)
  clear hi hw
  go_enter Tryz.func236, Tryz.ntmps236
  go_wp2_with (go_at_call 253; refine CI.out.mono ?_; clear CI; rintro e w1 ⟨rfl, ⟨nv', dv', h1⟩, r1⟩; (have H1 := hide' h1); (have R1 := hide' r1); clear h1 r1)
  go_loopw [3] (fun v wr => v = .int .i64 n ∧ wr = w1) (fun _ _ => 0)
  case atStart => exact ⟨rfl, rfl⟩
  case round =>
    obtain ⟨rfl, hw⟩ := hrel
    subst hw
    go_wp2_with (go_at_call 122; refine (CT.out _ nv' dv' H1.out).mono ?_; clear CT; rintro e w2 ⟨rfl, b2⟩)
    go_ret
    exact ⟨rfl, ⟨nv', dv', H1.out.below b2⟩, R1.out.trans (Rel.of b2 H1.out.ps.old)⟩

set_option maxRecDepth 100000 in
set_option maxHeartbeats 8000000 in
theorem handled_of (b : Nat) (tv : Value) (toks : List ITk) (at1 op : Nat) (so : Option Addr) (fx : List UInt8 → Fix) (ns' : List Nod) (ds' : List Nat) (w : World) (n : Int)
    (hw : isT (lookT toks at1) ⟨#[104, 97, 110, 100, 108, 101]⟩ = false)
    (hi : Calls Tryz.prog 236 #[.pointer (some ⟨b, 0, none⟩)] w fun e w' => e = .returned (.int .i64 n) ∧ (∃ nv' dv', St b w' tv toks at1 op so fx ns' ds' nv' dv') ∧ Rel b w w') :
    Calls Tryz.prog 222 #[.pointer (some ⟨b, 0, none⟩)] w fun e w' => e = .returned (.int .i64 n) ∧ (∃ nv' dv', St b w' tv toks at1 op so fx ns' ds' nv' dv') ∧ Rel b w w' := by
  have CI := hide' hi
  have CT := hide' (fun W nv' dv' (g : St b W tv toks at1 op so fx ns' ds' nv' dv') => take_no b tv toks at1 op (.pointer so) nv' dv' ⟨#[104, 97, 110, 100, 108, 101]⟩ W g.ps hw)
  clear hi hw
  go_enter Tryz.func222, Tryz.ntmps222
  go_wp2_with (go_at_call 236; refine CI.out.mono ?_; clear CI; rintro e w1 ⟨rfl, ⟨nv', dv', h1⟩, r1⟩; (have H1 := hide' h1); (have R1 := hide' r1); clear h1 r1)
  go_loopw [3] (fun v wr => v = .int .i64 n ∧ wr = w1) (fun _ _ => 0)
  case atStart => exact ⟨rfl, rfl⟩
  case round =>
    obtain ⟨rfl, hw⟩ := hrel
    subst hw
    go_wp2_with (go_at_call 122; refine (CT.out _ nv' dv' H1.out).mono ?_; clear CT; rintro e w2 ⟨rfl, b2⟩)
    go_ret
    exact ⟨rfl, ⟨nv', dv', H1.out.below b2⟩, R1.out.trans (Rel.of b2 H1.out.ps.old)⟩

set_option maxRecDepth 100000 in
set_option maxHeartbeats 8000000 in
theorem operand_of (b : Nat) (tv : Value) (toks : List ITk) (at' at1 op : Nat) (so : Option Addr) (fx : List UInt8 → Fix) (ns ns' : List Nod) (ds ds' : List Nat) (nv dv : Value) (w : World) (n : Int) (h : St b w tv toks at' op so fx ns ds nv dv) (hln : at' < toks.length)
    (k0 : isT (lookT toks at') ⟨#[105, 102]⟩ = false) (k1 : isT (lookT toks at') ⟨#[119, 104, 105, 108, 101]⟩ = false) (k2 : isT (lookT toks at') ⟨#[99, 97, 115, 101]⟩ = false) (k3 : isT (lookT toks at') ⟨#[102, 110]⟩ = false) (k4 : isT (lookT toks at') ⟨#[114, 97, 105, 115, 101]⟩ = false) (hc : isT (lookT toks at1) ⟨#[58]⟩ = false)
    (hi : ∀ W, Below w.heap.size w W → Calls Tryz.prog 233 #[.pointer (some ⟨b, 0, none⟩), expMix b] W fun e w' => e = .returned (.int .i64 n) ∧ (∃ nv' dv', St b w' tv toks at1 op so fx ns' ds' nv' dv') ∧ Rel b W w') :
    Calls Tryz.prog 260 #[.pointer (some ⟨b, 0, none⟩)] w fun e w' => e = .returned (.int .i64 n) ∧ (∃ nv' dv', St b w' tv toks at1 op so fx ns' ds' nv' dv') ∧ Rel b w w' := by
  have hold := h.ps.old
  have CH := hide' (here_any b tv toks at' op (.pointer so) nv dv w h.ps hln)
  have CT0 := hide' (fun W (g : Below w.heap.size w W) => take_no b tv toks at' op (.pointer so) nv dv ⟨#[105, 102]⟩ W (h.ps.below g hold) k0)
  have CT1 := hide' (fun W (g : Below w.heap.size w W) => take_no b tv toks at' op (.pointer so) nv dv ⟨#[119, 104, 105, 108, 101]⟩ W (h.ps.below g hold) k1)
  have CT2 := hide' (fun W (g : Below w.heap.size w W) => take_no b tv toks at' op (.pointer so) nv dv ⟨#[99, 97, 115, 101]⟩ W (h.ps.below g hold) k2)
  have CT3 := hide' (fun W (g : Below w.heap.size w W) => take_no b tv toks at' op (.pointer so) nv dv ⟨#[102, 110]⟩ W (h.ps.below g hold) k3)
  have CT4 := hide' (fun W (g : Below w.heap.size w W) => take_no b tv toks at' op (.pointer so) nv dv ⟨#[114, 97, 105, 115, 101]⟩ W (h.ps.below g hold) k4)
  have CP := hide' (fun W => expressions_any b W)
  have CI := hide' hi
  have CC := hide' (fun W nv' dv' (g : St b W tv toks at1 op so fx ns' ds' nv' dv') => typed_no b tv toks at1 op (.pointer so) nv' dv' 18 n W g.ps hc)
  clear h hc hi k0 k1 k2 k3 k4
  unfold expMix at CP CI
  generalize (lookT toks at').line = tx at *
  generalize (lookT toks at').column = ty at *
  go_enter Tryz.func260, Tryz.ntmps260
  go_upto_region 2 with (go_at_call 107; refine CH.out.mono ?_; clear CH; rintro e w1 ⟨rfl, b1⟩)
  obtain ⟨W1, hW1⟩ : ∃ W1, w1.alloc (.cells #[.int .i64 tx, .int .i64 ty] 82) = W1 := ⟨_, rfl⟩
  have B1 : Below w.heap.size w W1 := by rw [← hW1]; exact b1.alloc b1.size _
  try rw [hW1]
  clear hW1 b1
  go_wp2_with (first
    | (go_at_call 122; refine (CT0.out _ B1).mono ?_; clear CT0; rintro e v0 ⟨rfl, t0⟩; (have Z0 := B1.trans (t0.mono B1.size)))
    | (go_at_call 122; refine (CT1.out _ Z0).mono ?_; clear CT1; rintro e v1 ⟨rfl, t1⟩; (have Z1 := Z0.trans (t1.mono Z0.size)))
    | (go_at_call 122; refine (CT2.out _ Z1).mono ?_; clear CT2; rintro e v2 ⟨rfl, t2⟩; (have Z2 := Z1.trans (t2.mono Z1.size)))
    | (go_at_call 122; refine (CT3.out _ Z2).mono ?_; clear CT3; rintro e v3 ⟨rfl, t3⟩; (have Z3 := Z2.trans (t3.mono Z2.size)))
    | (go_at_call 122; refine (CT4.out _ Z3).mono ?_; clear CT4; rintro e v4 ⟨rfl, t4⟩; (have Z4 := Z3.trans (t4.mono Z3.size)))
    | (go_at_call 268; refine (CP.out _).mono ?_; clear CP; rintro e w2 ⟨rfl, b2⟩; (have B2 := Z4.trans (b2.mono Z4.size)))
    | (go_at_call 233; refine (CI.out _ B2).mono ?_; clear CI; rintro e w3 ⟨rfl, ⟨nv', dv', h3⟩, r3⟩; (have H3 := hide' h3); (have R3 := hide' r3); clear h3 r3)
    | (go_at_call 232; refine (CC.out _ nv' dv' H3.out).mono ?_; clear CC; rintro e w4 ⟨rfl, b4⟩))
  go_ret
  exact ⟨rfl, ⟨nv', dv', H3.out.below b4⟩, ((Rel.of B2 hold).trans R3.out).trans (Rel.of b4 H3.out.ps.old)⟩
end Go.Proofs.YtbcmpacmoofdkaaGreatDoor
/- The parser: declaration at val. -/
namespace Go.Proofs.YtbcmpacmoofdkaaGreatDoor
open Go.ChangeShapes Go.WideShapes Go.ChangeAt Go.RowKit

set_option maxRecDepth 100000 in
set_option maxHeartbeats 8000000 in
theorem declaration_val (b : Nat) (tv : Value) (toks : List ITk) (at' at1 op : Nat) (so : Option Addr) (fx : List UInt8 → Fix) (ns ns' : List Nod) (ds ds' : List Nat) (nv dv : Value) (w : World) (n : Int) (h : St b w tv toks at' op so fx ns ds nv dv) (hln : at' < toks.length) (hb : at' + 1 ≤ 8796093022208)
    (hk : (lookT toks at').text = [118, 97, 108])
    (hv : ∀ W, St b W tv toks (at' + 1) op so fx ns ds nv dv → Calls Tryz.prog 158 #[.pointer (some ⟨b, 0, none⟩), .agg #[.int .i64 (lookT toks at').line, .int .i64 (lookT toks at').column]] W fun e w' => e = .returned (.int .i64 n) ∧ (∃ nv' dv', St b w' tv toks at1 op so fx ns' ds' nv' dv') ∧ Rel b W w') :
    Calls Tryz.prog 141 #[.pointer (some ⟨b, 0, none⟩)] w fun e w' => e = .returned (.int .i64 n) ∧ (∃ nv' dv', St b w' tv toks at1 op so fx ns' ds' nv' dv') ∧ Rel b w w' := by
  have hold := h.ps.old
  have HSw := hide' h
  have CH := hide' (here_any b tv toks at' op (.pointer so) nv dv w h.ps hln)
  have CN := hide' (fun W (g : Below w.heap.size w W) => next_any b tv toks at' op (.pointer so) nv dv W (h.ps.below g hold) hb)
  have CV := hide' hv
  generalize lookT toks at' = T at *
  obtain ⟨tk, tt, tp, tx, ty, po, pc, tl⟩ := T
  unfold ITk.val ITk.pv at CN
  simp only at CN CH CV hk ⊢
  subst hk
  generalize tp.length = PL at *
  have ez : ByteArray.mk [118, 97, 108].toArray = ⟨#[118, 97, 108]⟩ := rfl
  rw [ez] at CN
  have hfd : ∀ W, (Instr.field 72 (.agg #[.int .i64 tk, .string ⟨#[118, 97, 108]⟩, .slice po PL pc, .int .i64 tx, .int .i64 ty]) 1).run Tryz.prog W = .ok (.string ⟨#[118, 97, 108]⟩) W := fun W => by kernel_rfl
  clear h hv ez
  go_enter Tryz.func141, Tryz.ntmps141
  go_upto_region 2 with (go_at_call 107; refine CH.out.mono ?_; clear CH; rintro e w1 ⟨rfl, b1⟩)
  obtain ⟨P, hP⟩ : ∃ P, w1.heap.size = P := ⟨_, rfl⟩
  have s1 := b1.size
  obtain ⟨W2, hW2⟩ : ∃ W2, w1.alloc (.cells #[.int .i64 tx, .int .i64 ty] 82) = W2 := ⟨_, rfl⟩
  have B2 : Below w.heap.size w W2 := by rw [← hW2]; exact b1.alloc s1 _
  have S2 : W2.heap.size = P + 1 := by rw [← hW2, ← hP]; simp
  have p0 : W2.cell? ⟨P, 0, none⟩ = some (.int .i64 tx) := by rw [← hW2, ← hP]; simp
  have p1 : W2.cell? ⟨P, 1, none⟩ = some (.int .i64 ty) := by rw [← hW2, ← hP]; simp
  rw [hP] at s1
  rw [hW2, hP]
  clear hW2 b1 hP
  have hPb : ¬ P = b := by omega
  have hPs : P < W2.heap.size := by omega
  have HB2 := hide' B2
  clear B2 S2
  go_wp2_with (first
    | (go_at_call 157; refine (CN.out _ HB2.out).mono ?_; clear CN; rintro e w3 ⟨rfl, hp3, m3⟩; (have HP3 := hide' hp3); (have HM3 := hide' m3); (have q3 := m3.rest P hPs hPb); (have c3 := (cell_of_block (a := ⟨P, 0, none⟩) q3).trans p0); (have d3 := (cell_of_block (a := ⟨P, 1, none⟩) q3).trans p1); clear hp3 m3 q3)
    | (go_at_call 158; refine (CV.out _ (HSw.out.moved HP3.out ((Moved.of HB2.out (Nat.le_of_lt hold)).trans HM3.out))).mono ?_; clear CV; rintro e w4 ⟨rfl, h4, r4⟩; (have H4 := hide' h4); (have R4 := hide' r4); clear h4 r4))
  go_ret
  have rm := rel_of_moved HSw.out.ps HP3.out ((Moved.of HB2.out (Nat.le_of_lt hold)).trans HM3.out)
  exact ⟨rfl, H4.out, rm.trans R4.out⟩
end Go.Proofs.YtbcmpacmoofdkaaGreatDoor
/- The parser: declarations, where one stands. -/
namespace Go.Proofs.YtbcmpacmoofdkaaGreatDoor
open Go.ChangeShapes Go.WideShapes Go.ChangeAt Go.RowKit

def lenV : Value → Nat
  | .slice _ n _ => n
  | _ => 0

theorem below_of_grown {w w' : World} (h : w.grownBy w' none) : Below w.heap.size w w' := ⟨h.os, h.tape, h.output, h.size, fun k hk => h.block k hk (by simp)⟩

set_option maxRecDepth 100000 in
set_option maxHeartbeats 8000000 in
theorem declarations_one (b : Nat) (tv : Value) (toks : List ITk) (at' at1 op : Nat) (so : Option Addr) (fx : List UInt8 → Fix) (ns ns' : List Nod) (ds ds' : List Nat) (nv dv : Value) (w : World) (n : Nat) (h : St b w tv toks at' op so fx ns ds nv dv) (hln : at' < toks.length)
    (h0 : isT (lookT toks at') ⟨#[59]⟩ = false) (h1 : isT (lookT toks at1) ⟨#[59]⟩ = false)
    (hb0 : ∀ W, Below w.heap.size w W → Calls Tryz.prog 123 #[.pointer (some ⟨b, 0, none⟩), .int .u8 1] W fun e w' => e = .returned (.bool true) ∧ Below W.heap.size W w')
    (hd : ∀ W, Below w.heap.size w W → Calls Tryz.prog 124 #[.pointer (some ⟨b, 0, none⟩)] W fun e w' => e = .returned (.int .i64 (n : Int)) ∧ (∃ nv' dv', St b w' tv toks at1 op so fx ns' ds' nv' dv') ∧ Rel b W w')
    (hb1 : ∀ W nv' dv', St b W tv toks at1 op so fx ns' ds' nv' dv' → Calls Tryz.prog 123 #[.pointer (some ⟨b, 0, none⟩), .int .u8 1] W fun e w' => e = .returned (.bool false) ∧ Below W.heap.size W w')
    (hn : n < ds'.length) (hdep : depM ds' [(n : Int)] ≤ 1000) (hds : ∀ j, j < ds'.length → ds'.getD j 0 ≤ 1000) (hcap : ns'.length + 1 ≤ 1000) :
    Calls Tryz.prog 105 #[.pointer (some ⟨b, 0, none⟩)] w fun e w' => e = .returned (.int .i64 (ns'.length : Int)) ∧ (∃ nv' dv', St b w' tv toks at1 op so fx (ns' ++ [⟨50, [], [], [(n : Int)], (lookT toks at').line, (lookT toks at').column⟩]) (ds' ++ [depM ds' [(n : Int)]]) nv' dv') ∧ Rel b w w' := by
  obtain ⟨i0, hi, hz0, hz1, hz2⟩ := info_parts infoInt
  have hold := h.ps.old
  have HSw := hide' h
  have CH := hide' (here_any b tv toks at' op (.pointer so) nv dv w h.ps hln)
  have CT0 := hide' (fun W (g : Below w.heap.size w W) => take_no b tv toks at' op (.pointer so) nv dv ⟨#[59]⟩ W (h.ps.below g hold) h0)
  have CT1 := hide' (fun W nv' dv' (g : St b W tv toks at1 op so fx ns' ds' nv' dv') => take_no b tv toks at1 op (.pointer so) nv' dv' ⟨#[59]⟩ W g.ps h1)
  have CB0 := hide' hb0
  have CB1 := hide' hb1
  have CD := hide' hd
  have CP := hide' (fun W g cap nv' dv' (hW : St b W tv toks at1 op so fx ns' ds' nv' dv') (hk : RdI W.heap.size W (.slice (some ⟨g, 0, none⟩) 1 cap) [(n : Int)]) => put_any b tv toks at1 op so fx ns' ds' nv' dv' W hW ⟨#[]⟩ (by decide) (lookT toks at').line (lookT toks at').column 50 (.slice (some ⟨g, 0, none⟩) 1 cap) [(n : Int)] hk (fun e => by cases e) (by simp) (fun j hj => by
    match j, hj with
    | 0, _ => exact ⟨by simp, by simpa using hn⟩) hdep hds hcap)
  generalize ns'.length = N at *
  generalize depM ds' [(n : Int)] = D at *
  generalize (lookT toks at').line = tx at *
  generalize (lookT toks at').column = ty at *
  clear h h0 h1 hb0 hb1 hd hn hdep hds
  go_enter Tryz.func105, Tryz.ntmps105
  go_upto_region 2 with (go_at_call 107; refine CH.out.mono ?_; clear CH; rintro e w1 ⟨rfl, b1⟩)
  obtain ⟨P, hP⟩ : ∃ P, w1.heap.size = P := ⟨_, rfl⟩
  have s1 := b1.size
  obtain ⟨W2, hW2⟩ : ∃ W2, w1.alloc (.cells #[.int .i64 tx, .int .i64 ty] 82) = W2 := ⟨_, rfl⟩
  have B2 : Below w.heap.size w W2 := by rw [← hW2]; exact b1.alloc s1 _
  have S2 : W2.heap.size = P + 1 := by rw [← hW2, ← hP]; simp
  have p0 : W2.cell? ⟨P, 0, none⟩ = some (.int .i64 tx) := by rw [← hW2, ← hP]; simp
  have p1 : W2.cell? ⟨P, 1, none⟩ = some (.int .i64 ty) := by rw [← hW2, ← hP]; simp
  rw [hP] at s1
  rw [hW2, hP]
  clear hW2 b1 hP
  have hPs : P < W2.heap.size := by omega
  have HB2 := hide' B2
  have HPR := hide' (HSw.out.prot (HSw.out.ps.below B2 hold) s1 hPs)
  clear B2 S2
  go_wp2_with fail
  go_loopw [4] (fun v4 wr => (v4 = .slice none 0 0 ∧ wr = W2) ∨ (∃ (g cap : Nat), v4 = .slice (some ⟨g, 0, none⟩) 1 cap ∧ Hid' (RdI wr.heap.size wr (.slice (some ⟨g, 0, none⟩) 1 cap) [(n : Int)] ∧ (∃ nv' dv', St b wr tv toks at1 op so fx ns' ds' nv' dv') ∧ Rel b W2 wr))) (fun v4 _ => 1 - lenV v4)
  case atStart => exact .inl ⟨rfl, rfl⟩
  case round =>
    rcases hrel with ⟨rfl, hw⟩ | ⟨g, cap, rfl, HI⟩
    · obtain rfl : wr = _ := hw
      go_wp2_with (first
        | (go_at_call 122; refine (CT0.out _ HB2.out).mono ?_; clear CT0; rintro e w3 ⟨rfl, b3⟩; (have B3 := HB2.out.trans (b3.mono HB2.out.size)))
        | (go_at_call 123; refine (CB0.out _ B3).mono ?_; clear CB0; rintro e w4 ⟨rfl, b4⟩; (have B4 := B3.trans (b4.mono B3.size)))
        | (go_at_call 124; refine (CD.out _ B4).mono ?_; clear CD; rintro e w5 ⟨rfl, ⟨nv', dv', h5⟩, r5⟩; (have H5 := hide' h5); (have R5 := hide' r5); clear h5 r5)
        | (at_builtin; refine wpList_append_lies _ rfl _ _ 28 rfl 0 3 i0 (.int .i64 0) 1 8 Tryz.underlying28 hi hz0 hz1 hz2 rfl (by decide) (.slice none 0 0) 0 [] rfl (World.ownsRow_nil _ _ _ _) ⟨_, 0, none⟩ 1 1 [.int .i64 (n : Int)] rfl rfl (cellsNew _ _ _) (by simp [Value.oneCell']) (by decide) (by decide) (by decide) (by simp) (w5.heap.size + 1) (by simp) ?_; intro g7 cap7 w7 hown7 hgrow7 hat7 hlt7))
      go_roundw
      case rel =>
        have bb : Below w5.heap.size w5 w7 := ((Below.refl _ _).alloc (Nat.le_refl _) _).trans ((below_of_grown hgrow7).mono (by simp))
        refine .inr ⟨g7, cap7, rfl, ⟨⟨_, _, rfl, by simp, fun j hj => ⟨⟨g7, 0, none⟩, rfl, hlt7, ?_⟩⟩, ⟨nv', dv', H5.out.below bb⟩, (Rel.of (b3.trans (b4.mono b3.size)) (Nat.lt_of_lt_of_le hold HB2.out.size)).trans (R5.out.trans (Rel.of bb H5.out.ps.old))⟩⟩
        match j, hj with
        | 0, _ => exact hown7.cellAt 0 (by decide)
      case measure => simp [lenV]
    · obtain ⟨nv', dv', h5⟩ := HI.out.2.1
      have q1 := HI.out.2.2.rest P HPR.out
      have c0 := (cell_of_block (a := ⟨P, 0, none⟩) q1.1).trans p0
      have c1 := (cell_of_block (a := ⟨P, 1, none⟩) q1.1).trans p1
      have hPw : P < wr.heap.size := q1.2.1
      have H5 := hide' h5
      clear h5 q1
      go_wp2_with (first
        | (go_at_call 122; refine (CT1.out _ nv' dv' H5.out).mono ?_; clear CT1; rintro e w3 ⟨rfl, b3⟩; (have e0 := (b3.cell (p := ⟨P, 0, none⟩) hPw).trans c0); (have e1 := (b3.cell (p := ⟨P, 1, none⟩) hPw).trans c1))
        | (go_at_call 123; refine (CB1.out _ nv' dv' (H5.out.below b3)).mono ?_; clear CB1; rintro e w4 ⟨rfl, b4⟩; (have B4 := b3.trans (b4.mono b3.size)); (have f0 := (B4.cell (p := ⟨P, 0, none⟩) hPw).trans c0); (have f1 := (B4.cell (p := ⟨P, 1, none⟩) hPw).trans c1))
        | (go_at_call 125; refine (CP.out _ g cap nv' dv' (H5.out.below B4) (rdI_mono (rdI_below HI.out.1 B4) B4.size)).mono ?_; clear CP; rintro e w6 ⟨rfl, h6, r6⟩; (have H6 := hide' h6); (have R6 := hide' r6); clear h6 r6))
      go_ret
      exact ⟨rfl, H6.out, (Rel.of HB2.out hold).trans (HI.out.2.2.trans ((Rel.of B4 H5.out.ps.old).trans R6.out))⟩
end Go.Proofs.YtbcmpacmoofdkaaGreatDoor
