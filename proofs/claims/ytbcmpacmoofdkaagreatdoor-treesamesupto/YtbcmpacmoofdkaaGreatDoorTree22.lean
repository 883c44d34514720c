/- The parser: want, constantOf, goesFirst on the road. -/
import Derived.Test.YtbcmpacmoofdkaaGreatDoorProg
import Derived.Test.YtbcmpacmoofdkaaGreatDoorTree17
import Derived.WalkKit
import Derived.ProofKit
import Derived.OpenShut
import Derived.Below
import Derived.WalkLawsBesides
import Derived.OwnWalk
import Derived.BigQuiet
import Derived.Deep.MidRow
import Derived.Deep.RegionHeld
import Derived.Deep.RegionHeld3
import Derived.WalkSmall
import Derived.Deep.DeepCutAuto
import Derived.Laws.OwnMore
namespace Go.Proofs.YtbcmpacmoofdkaaGreatDoor
open Go.ChangeShapes Go.WideShapes Go.ChangeAt Go.RowKit

set_option maxRecDepth 100000 in
set_option maxHeartbeats 8000000 in
theorem want_yes (b : Nat) (tv : Value) (toks : List ITk) (at' op : Nat) (sc nv dv : Value) (s : ByteArray) (w : World) (h : PS b w tv toks at' op sc nv dv) (ht : isT (lookT toks at') s = true) (hb : at' + 1 ≤ 8796093022208) :
    Calls Tryz.prog 190 #[.pointer (some ⟨b, 0, none⟩), .string s] w fun e w' => e = .returned (.tuple #[]) ∧ PS b w' tv toks (at' + 1) op sc nv dv ∧ Moved b w w' := by
  have CT := hide' (take_yes b tv toks at' op sc nv dv s w h ht hb)
  clear h ht
  go_enter Tryz.func190, Tryz.ntmps190
  go_wp2_with (go_at_call 122; refine CT.out.mono ?_; clear CT; rintro e w1 ⟨rfl, h1, m1⟩; (have H1 := hide' h1); (have M1 := hide' m1); clear h1 m1)
  go_end0
  exact ⟨rfl, H1.out, M1.out⟩

set_option maxRecDepth 100000 in
set_option maxHeartbeats 8000000 in
theorem constantOf_int (t : ITk) (w : World) (hk : t.kind = 4) : Calls Tryz.prog 238 #[t.val] w fun e w' => e = .returned (.int .i64 1) ∧ Below w.heap.size w w' := by
  obtain ⟨tk, tt, tp, tx, ty, po, pc, tl⟩ := t
  unfold ITk.val ITk.pv
  simp only at hk ⊢
  subst hk
  generalize tp.length = PL at *
  generalize ByteArray.mk tt.toArray = z at *
  go_enter Tryz.func238, Tryz.ntmps238
  go_wp2
  go_ret
  exact ⟨rfl, (Below.refl _ _).alloc (Nat.le_refl _) _⟩

set_option maxRecDepth 100000 in
set_option maxHeartbeats 8000000 in
theorem constantOf_name (t : ITk) (w : World) (hk : t.kind = 2) : Calls Tryz.prog 238 #[t.val] w fun e w' => e = .returned (.int .i64 0) ∧ Below w.heap.size w w' := by
  obtain ⟨tk, tt, tp, tx, ty, po, pc, tl⟩ := t
  unfold ITk.val ITk.pv
  simp only at hk ⊢
  subst hk
  generalize tp.length = PL at *
  generalize ByteArray.mk tt.toArray = z at *
  go_enter Tryz.func238, Tryz.ntmps238
  go_wp2
  go_ret
  exact ⟨rfl, (Below.refl _ _).alloc (Nat.le_refl _) _⟩

set_option maxRecDepth 100000 in
set_option maxHeartbeats 8000000 in
theorem goesFirst_end (p : Value) (fi fr nr : Bool) (fl nl : Int) (w : World) :
    Calls Tryz.prog 248 #[p, .agg #[.bool fi, .int .i64 fl, .bool fr], .agg #[.bool false, .int .i64 nl, .bool nr]] w fun e w' => e = .returned (.bool true) ∧ Below w.heap.size w w' := by
  go_enter Tryz.func248, Tryz.ntmps248
  go_wp2
  go_ret
  exact ⟨rfl, ((Below.refl _ _).alloc (Nat.le_refl _) _).alloc (by simp) _⟩

set_option maxRecDepth 100000 in
set_option maxHeartbeats 8000000 in
theorem goesFirst_level (p : Value) (fi fr nr : Bool) (fl nl : Int) (w : World) (hl : fl ≠ nl) :
    Calls Tryz.prog 248 #[p, .agg #[.bool fi, .int .i64 fl, .bool fr], .agg #[.bool true, .int .i64 nl, .bool nr]] w fun e w' => e = .returned (.bool (decide (nl < fl))) ∧ Below w.heap.size w w' := by
  have h1 : (fl != nl) = true := by simpa using hl
  go_enter Tryz.func248, Tryz.ntmps248
  go_wp2
  go_ret
  exact ⟨rfl, ((Below.refl _ _).alloc (Nat.le_refl _) _).alloc (by simp) _⟩
end Go.Proofs.YtbcmpacmoofdkaaGreatDoor
/- The parser: a node's place. -/
namespace Go.Proofs.YtbcmpacmoofdkaaGreatDoor
open Go.ChangeShapes Go.WideShapes Go.ChangeAt Go.RowKit

theorem nodCells_at {b : Nat} {w : World} : ∀ (ns : List Nod) (kvs : List Value) (_ : KOk b w ns kvs) (i : Nat) (_ : i < ns.length), (nodCells ns kvs)[i * 6 + 4]? = some (.int .i64 (ns.getD i Nod.zero).line) ∧ (nodCells ns kvs)[i * 6 + 5]? = some (.int .i64 (ns.getD i Nod.zero).column)
  | [], _, _, i, hi => absurd hi (by simp)
  | _ :: _, [], h, _, _ => absurd h (by simp [KOk])
  | t :: r, k :: ks, h, 0, _ => by simp [nodCells]
  | t :: r, k :: ks, h, i + 1, hi => by
    have := nodCells_at r ks h.2 i (by simpa using hi)
    have e4 : (i + 1) * 6 + 4 = (i * 6 + 4) + 6 := by omega
    have e5 : (i + 1) * 6 + 5 = (i * 6 + 5) + 6 := by omega
    rw [e4, e5]
    simpa [nodCells] using this

set_option maxRecDepth 100000 in
set_option maxHeartbeats 8000000 in
theorem placeOf_any (b : Nat) (tv : Value) (toks : List ITk) (at' op : Nat) (so : Option Addr) (fx : List UInt8 → Fix) (ns : List Nod) (ds : List Nat) (nv dv : Value) (w : World) (h : St b w tv toks at' op so fx ns ds nv dv) (i : Nat) (hi : i < ns.length) :
    Calls Tryz.prog 221 #[.pointer (some ⟨b, 0, none⟩), .int .i64 (i : Int)] w fun e w' => e = .returned (.agg #[.int .i64 (ns.getD i Nod.zero).line, .int .i64 (ns.getD i Nod.zero).column]) ∧ Below w.heap.size w w' := by
  have hold := h.ps.old
  have hsm := h.sm
  obtain ⟨kvs, hko, hr⟩ := h.rn
  obtain ⟨g, cap, hnv⟩ : ∃ g cap, nv = .slice (some ⟨g, 0, none⟩) ns.length cap := by
    rcases hr.2 with ⟨hv, h0⟩ | ⟨g, cap, cur, hv, _⟩
    · exfalso; omega
    · exact ⟨g, cap, hv⟩
  subst hnv
  have hgl := (hr.lt g rfl).2
  have hgb := (hr.lt g rfl).1
  obtain ⟨x4, x5⟩ := nodCells_at ns kvs hko i hi
  have y4 := (hr.cellAt (i * 6 + 4) (by omega)).trans x4
  have y5 := (hr.cellAt (i * 6 + 5) (by omega)).trans x5
  generalize (ns.getD i Nod.zero).line = tx at *
  generalize (ns.getD i Nod.zero).column = ty at *
  obtain ⟨W0, hW0⟩ : ∃ W0, w.alloc (.cells #[.int .i64 0, .int .i64 0] 82) = W0 := ⟨_, rfl⟩
  have B0 : Below w.heap.size w (w.alloc (.cells #[.int .i64 0, .int .i64 0] 82)) := (Below.refl _ _).alloc (Nat.le_refl _) _
  have d0 : (w.alloc (.cells #[.int .i64 0, .int .i64 0] 82)).cell? ⟨w.heap.size, 0, none⟩ = some (.int .i64 0) := by simp
  have d1 : (w.alloc (.cells #[.int .i64 0, .int .i64 0] 82)).cell? ⟨w.heap.size, 1, none⟩ = some (.int .i64 0) := by simp
  have z0 : (w.alloc (.cells #[.int .i64 0, .int .i64 0] 82)).frozen? ⟨w.heap.size, 0, none⟩ = false := by simp
  have z1 : (w.alloc (.cells #[.int .i64 0, .int .i64 0] 82)).frozen? ⟨w.heap.size, 1, none⟩ = false := by simp
  have S0 : W0.heap.size = w.heap.size + 1 := by rw [← hW0]; simp
  rw [hW0] at B0 d0 d1 z0 z1
  have c4 := (h.ps.below B0 hold).c4
  have t4 := (B0.cell (p := ⟨g, i * 6 + 4, none⟩) hgl).trans y4
  have t5 := (B0.cell (p := ⟨g, i * 6 + 5, none⟩) hgl).trans y5
  generalize ns.length = N at *
  have hng : ¬ g = w.heap.size := by omega
  have hng2 : ¬ w.heap.size = g := by omega
  have hnb : ¬ b = w.heap.size := by omega
  have hnb2 : ¬ w.heap.size = b := by omega
  have hi' : decide ((i : Int) < (N : Int)) = true := by simp; omega
  have HB0 := hide' B0
  clear h hr hko x4 x5 y4 y5 B0 S0 hsm
  go_enter Tryz.func221, Tryz.ntmps221
  go_upto_region 1 with fail
  try rw [hW0]
  clear hW0
  go_region_held3 (fun w' => w'.cell? ⟨b, 4, none⟩ = some (.slice (some ⟨g, 0, none⟩) N cap) ∧ w'.cell? ⟨g, i * 6 + 4, none⟩ = some (.int .i64 tx) ∧ w'.cell? ⟨g, i * 6 + 5, none⟩ = some (.int .i64 ty)) (go_keep) (fail)
  go_wp2
  have hd : ((W0.setCell ⟨w.heap.size, 0, none⟩ (.int .i64 tx)).setCell ⟨w.heap.size, 1, none⟩ (.int .i64 ty)).drew = (W0.drew.setCell ⟨w.heap.size, 0, none⟩ (.int .i64 tx)).setCell ⟨w.heap.size, 1, none⟩ (.int .i64 ty) := by
    rw [World.setCell_drew, World.setCell_drew]
  rw [hd]
  refine place_end (w1 := W0.drew) rfl d0 d1 z0 z1 rfl ?_
  exact ⟨rfl, (HB0.out.drew.setCell (p := ⟨w.heap.size, 0, none⟩) (Nat.le_refl _) _).setCell (p := ⟨w.heap.size, 1, none⟩) (Nat.le_refl _) _⟩
end Go.Proofs.YtbcmpacmoofdkaaGreatDoor
/- The parser: join. -/
namespace Go.Proofs.YtbcmpacmoofdkaaGreatDoor
open Go.ChangeShapes Go.WideShapes Go.ChangeAt Go.RowKit

set_option maxRecDepth 100000 in
set_option maxHeartbeats 8000000 in
theorem join_any (b : Nat) (tv : Value) (toks : List ITk) (at' op : Nat) (so : Option Addr) (fx : List UInt8 → Fix) (ns : List Nod) (ds : List Nat) (nv dv : Value) (w : World) (h : St b w tv toks at' op so fx ns ds nv dv)
    (kind : Int) (kv : Value) (i : Nat) (ks : List Int) (hk : RdI w.heap.size w kv ((i : Int) :: ks)) (hkl : ks.length + 1 ≤ 1000) (hks : ∀ j, j < ks.length + 1 → 0 ≤ ((i : Int) :: ks).getD j 0 ∧ ((i : Int) :: ks).getD j 0 < (ds.length : Int)) (hdep : depM ds ((i : Int) :: ks) ≤ 1000) (hds : ∀ j, j < ds.length → ds.getD j 0 ≤ 1000) (hcap : ns.length + 1 ≤ 1000) :
    Calls Tryz.prog 203 #[.pointer (some ⟨b, 0, none⟩), .int .i64 kind, kv] w fun e w' => e = .returned (.int .i64 (ns.length : Int)) ∧ (∃ nv' dv', St b w' tv toks at' op so fx (ns ++ [⟨kind, [], [], (i : Int) :: ks, (ns.getD i Nod.zero).line, (ns.getD i Nod.zero).column⟩]) (ds ++ [depM ds ((i : Int) :: ks)]) nv' dv') ∧ Rel b w w' := by
  have hold := h.ps.old
  have hi : i < ns.length := by
    have := (hks 0 (by omega)).2
    have e := h.ln
    simp at this
    omega
  have CPO := hide' (placeOf_any b tv toks at' op so fx ns ds nv dv w h i hi)
  have CP := hide' (fun W (g : Below w.heap.size w W) => put_any b tv toks at' op so fx ns ds nv dv W (h.below g) ⟨#[]⟩ (by decide) (ns.getD i Nod.zero).line (ns.getD i Nod.zero).column kind kv ((i : Int) :: ks) (rdI_mono (rdI_below hk g) g.size) (fun e => by cases e) (by simpa using hkl) (fun j hj => hks j (by simpa using hj)) hdep hds hcap)
  generalize (ns.getD i Nod.zero).line = tx at *
  generalize (ns.getD i Nod.zero).column = ty at *
  obtain ⟨ao, cap, rfl, hm, hc⟩ := hk
  obtain ⟨a, rfl, hab, hcell⟩ := hc 0 (by simp)
  simp only [List.length_cons, List.getD_cons_zero] at hcell CP hc ⊢
  have ha0 : a.add 0 = a := by
    obtain ⟨ab, aof, ap⟩ := a
    cases ap <;> simp [Addr.add]
  rw [ha0] at hcell
  clear ha0
  have hL0 : decide ((0 : Int) < ((ks.length + 1 : Nat) : Int)) = true := decide_eq_true (by omega)
  have hL1 : 0 < ks.length + 1 := Nat.succ_pos _
  generalize ks.length + 1 = L at *
  generalize ns.length = N at *
  clear h hks hdep hds hc hm
  go_enter Tryz.func203, Tryz.ntmps203
  go_wp2_with (first
    | (go_at_call 221; refine CPO.out.mono ?_; clear CPO; rintro e w1 ⟨rfl, b1⟩)
    | (go_at_call 125; refine (CP.out _ b1).mono ?_; clear CP; rintro e w2 ⟨rfl, hs, hr⟩; (have HS := hide' hs); (have HR := hide' hr); clear hs hr))
  go_ret
  exact ⟨rfl, HS.out, (Rel.of b1 hold).trans HR.out⟩
end Go.Proofs.YtbcmpacmoofdkaaGreatDoor
/- The parser: atexp at a whole number. -/
namespace Go.Proofs.YtbcmpacmoofdkaaGreatDoor
open Go.ChangeShapes Go.WideShapes Go.ChangeAt Go.RowKit

set_option maxRecDepth 100000 in
set_option maxHeartbeats 16000000 in
theorem atexp_int (b : Nat) (tv : Value) (toks : List ITk) (at' op : Nat) (so : Option Addr) (fx : List UInt8 → Fix) (ns : List Nod) (ds : List Nat) (nv dv : Value) (w : World) (h : St b w tv toks at' op so fx ns ds nv dv)
    (hl : at' < toks.length) (hb : at' + 1 ≤ 8796093022208) (hk : (lookT toks at').kind = 4) (hbg : Beg b w (lookT toks at') 96) (htx : (lookT toks at').text.length ≤ 1048576) (hds : ∀ j, j < ds.length → ds.getD j 0 ≤ 1000) (hcap : ns.length + 1 ≤ 1000) :
    Calls Tryz.prog 278 #[.pointer (some ⟨b, 0, none⟩)] w fun e w' => e = .returned (.int .i64 (ns.length : Int)) ∧ (∃ nv' dv', St b w' tv toks (at' + 1) op so fx (ns ++ [⟨1, (lookT toks at').text, [], [], (lookT toks at').line, (lookT toks at').column⟩]) (ds ++ [1]) nv' dv') ∧ Rel b w w' := by
  have hold := h.ps.old
  have CB := hide' (begins_96_64 b tv toks at' op (.pointer so) nv dv w h.ps hbg)
  have CH := hide' (fun W (g : Below w.heap.size w W) => here_any b tv toks at' op (.pointer so) nv dv W (h.ps.below g hold) hl)
  have HSw := hide' h
  have CL : Hid' (∀ W, Below w.heap.size w W → Calls Tryz.prog 139 #[.pointer (some ⟨b, 0, none⟩), .int .i64 0] W fun e w' => e = .returned (lookT toks (at' + 0)).val ∧ Below W.heap.size W w') := ⟨fun W g => look_any b tv toks at' op 0 (.pointer so) nv dv W (h.ps.below g hold) (by decide)⟩
  rw [Nat.add_zero] at CL
  have CO := hide' (fun W => constantOf_int (lookT toks at') W hk)
  have CNX := hide' (fun W (g : Below w.heap.size w W) => next_any b tv toks at' op (.pointer so) nv dv W (h.ps.below g hold) hb)
  have CP := hide' (fun W (hW : St b W tv toks (at' + 1) op so fx ns ds nv dv) => put_any b tv toks (at' + 1) op so fx ns ds nv dv W hW ⟨(lookT toks at').text.toArray⟩ (by simpa [ByteArray.size] using htx) (lookT toks at').line (lookT toks at').column 1 (.slice none 0 0) [] ⟨none, 0, rfl, by decide, fun j hj => absurd hj (by simp)⟩ (fun _ => rfl) (by decide) (fun j hj => absurd hj (by simp)) (by simp [depM]) hds hcap)
  generalize lookT toks at' = T at *
  obtain ⟨tk, tt, tp, tx, ty, po, pc, tl⟩ := T
  have et : (ByteArray.mk tt.toArray).data.toList = tt := rfl
  rw [et] at CP
  simp only at CH CP hk htx ⊢
  subst hk
  unfold ITk.val ITk.pv at CL CO CNX
  simp only at CL CO CNX
  generalize tp.length = PL at *
  generalize ByteArray.mk tt.toArray = z at *
  have e2 : depM ds [] = 1 := rfl
  rw [e2] at CP
  generalize ns.length = N at *
  have hfd : ∀ W, (Instr.field 72 (.agg #[.int .i64 4, .string z, .slice po PL pc, .int .i64 tx, .int .i64 ty]) 1).run Tryz.prog W = .ok (.string z) W := fun W => by kernel_rfl
  clear h e2 htx hds hbg et
  go_enter Tryz.func278, Tryz.ntmps278
  go_upto_region 4 with (first
    | (go_at_call 123; refine CB.out.mono ?_; clear CB; rintro e w0 ⟨rfl, b0⟩)
    | (go_at_call 107; refine (CH.out _ b0).mono ?_; clear CH; rintro e w1 ⟨rfl, b1⟩; (have B1 : Below w.heap.size w w1 := b0.trans (b1.mono b0.size))))
  obtain ⟨P, hP⟩ : ∃ P, w1.heap.size = P := ⟨_, rfl⟩
  have s1 := B1.size
  obtain ⟨W2, hW2⟩ : ∃ W2, w1.alloc (.cells #[.int .i64 tx, .int .i64 ty] 82) = W2 := ⟨_, rfl⟩
  have B2 : Below w.heap.size w W2 := by rw [← hW2]; exact B1.alloc s1 _
  have S2 : W2.heap.size = P + 1 := by rw [← hW2, ← hP]; simp
  have p0 : W2.cell? ⟨P, 0, none⟩ = some (.int .i64 tx) := by rw [← hW2, ← hP]; simp
  have p1 : W2.cell? ⟨P, 1, none⟩ = some (.int .i64 ty) := by rw [← hW2, ← hP]; simp
  rw [hP] at s1
  rw [hW2, hP]
  clear hW2 b0 b1 B1 hP
  go_upto_region 6 with (first
    | (go_at_call 139; refine (CL.out _ B2).mono ?_; clear CL; rintro e w3 ⟨rfl, b3⟩)
    | (go_at_call 238; refine (CO.out _).mono ?_; clear CO; rintro e w4 ⟨rfl, b4⟩))
  have b34 : Below W2.heap.size W2 w4 := b3.trans (b4.mono b3.size)
  have p0' := (b34.cell (p := ⟨P, 0, none⟩) (show P < _ by omega)).trans p0
  have p1' := (b34.cell (p := ⟨P, 1, none⟩) (show P < _ by omega)).trans p1
  have B3 : Below w.heap.size w w4 := B2.trans (b34.mono (by omega))
  have s3 := b34.size
  have hPb : ¬ P = b := by omega
  have hPs : P < w4.heap.size := by omega
  clear p0 p1 B2 b3 b4 b34
  have HB3 := hide' B3
  clear B3
  clear S2
  go_region_held3 (fun w' => w'.cell? ⟨P, 0, none⟩ = some (.int .i64 tx) ∧ w'.cell? ⟨P, 1, none⟩ = some (.int .i64 ty)) (go_keep) (first
    | (go_at_call 157; refine (CNX.out _ HB3.out.drew).mono ?_; clear CNX; rintro e w5 ⟨rfl, hp4, m4⟩; (have HP4 := hide' hp4); (have HM4 := hide' m4); (have q4 := m4.rest P (by simpa using hPs) hPb); (have c4 := (cell_of_block (a := ⟨P, 0, none⟩) q4).trans p0'); (have d4 := (cell_of_block (a := ⟨P, 1, none⟩) q4).trans p1'); clear hp4 m4 q4)
    | (go_at_call 125; refine (CP.out _ (HSw.out.moved HP4.out ((Moved.of HB3.out.drew (Nat.le_of_lt hold)).trans HM4.out))).mono ?_; clear CP; rintro e w6 ⟨rfl, h5, r5⟩; (have H5 := hide' h5); (have R5 := hide' r5); clear h5 r5; (have q5 := R5.out.rest P (HSw.out.prot HP4.out s1 (Nat.lt_of_lt_of_le hPs HM4.out.low.size))); (have c5 := (cell_of_block (a := ⟨P, 0, none⟩) q5.1).trans c4); (have d5 := (cell_of_block (a := ⟨P, 1, none⟩) q5.1).trans d4); clear q5))
  go_wp2_with fail
  go_ret
  obtain ⟨nv', dv', h5⟩ := H5.out
  have rm := rel_of_moved HSw.out.ps HP4.out ((Moved.of HB3.out.drew (Nat.le_of_lt hold)).trans HM4.out)
  exact ⟨rfl, ⟨nv', dv', h5⟩, rm.trans R5.out⟩
end Go.Proofs.YtbcmpacmoofdkaaGreatDoor
/- The parser: app at a whole number, apppat at a name. -/
namespace Go.Proofs.YtbcmpacmoofdkaaGreatDoor
open Go.ChangeShapes Go.WideShapes Go.ChangeAt Go.RowKit

set_option maxRecDepth 100000 in
set_option maxHeartbeats 8000000 in
theorem app_one (b : Nat) (tv : Value) (toks : List ITk) (at1 op : Nat) (so : Option Addr) (fx : List UInt8 → Fix) (ns' : List Nod) (ds' : List Nat) (w : World) (n : Int)
    (ha : Calls Tryz.prog 278 #[.pointer (some ⟨b, 0, none⟩)] w fun e w' => e = .returned (.int .i64 n) ∧ (∃ nv' dv', St b w' tv toks at1 op so fx ns' ds' nv' dv') ∧ Rel b w w')
    (hb : ∀ W nv' dv', St b W tv toks at1 op so fx ns' ds' nv' dv' → Calls Tryz.prog 123 #[.pointer (some ⟨b, 0, none⟩), .int .u8 64] W fun e w' => e = .returned (.bool false) ∧ Below W.heap.size W w') :
    Calls Tryz.prog 275 #[.pointer (some ⟨b, 0, none⟩)] w fun e w' => e = .returned (.int .i64 n) ∧ (∃ nv' dv', St b w' tv toks at1 op so fx ns' ds' nv' dv') ∧ Rel b w w' := by
  have CA := hide' ha
  have CB := hide' hb
  clear ha hb
  go_enter Tryz.func275, Tryz.ntmps275
  go_wp2_with (go_at_call 278; refine CA.out.mono ?_; clear CA; rintro e w1 ⟨rfl, ⟨nv', dv', hs⟩, hr⟩; (have HS := hide' hs); (have HR := hide' hr); clear hs hr)
  go_loopw [3] (fun v wr => v = .int .i64 n ∧ wr = w1) (fun _ _ => 0)
  case atStart => exact ⟨rfl, rfl⟩
  case round =>
    obtain ⟨rfl, hw⟩ := hrel
    subst hw
    go_wp2_with (go_at_call 123; refine (CB.out _ nv' dv' HS.out).mono ?_; clear CB; rintro e w2 ⟨rfl, b2⟩)
    go_ret
    exact ⟨rfl, ⟨nv', dv', HS.out.below b2⟩, HR.out.trans (Rel.of b2 HS.out.ps.old)⟩

set_option maxRecDepth 100000 in
set_option maxHeartbeats 8000000 in
theorem apppat_name (b : Nat) (tv : Value) (toks : List ITk) (at' op : Nat) (so : Option Addr) (fx : List UInt8 → Fix) (ns : List Nod) (ds : List Nat) (nv dv : Value) (w : World) (h : St b w tv toks at' op so fx ns ds nv dv)
    (hl : at' < toks.length) (hb : at' + 1 ≤ 8796093022208) (hk : (lookT toks at').kind = 2) (hpth : (lookT toks at').path = []) (hbg : ∀ W, Below w.heap.size w W → Beg b W (lookT toks at') 124) (htx : (lookT toks at').text.length ≤ 1048576) (hds : ∀ j, j < ds.length → ds.getD j 0 ≤ 1000) (hcap : ns.length + 1 ≤ 1000)
    (hb2 : ∀ W ns' ds' nv' dv', St b W tv toks (at' + 1) op so fx ns' ds' nv' dv' → Calls Tryz.prog 123 #[.pointer (some ⟨b, 0, none⟩), .int .u8 32] W fun e w' => e = .returned (.bool false) ∧ Below W.heap.size W w') :
    Calls Tryz.prog 250 #[.pointer (some ⟨b, 0, none⟩)] w fun e w' => e = .returned (.int .i64 (ns.length : Int)) ∧ (∃ nv' dv', St b w' tv toks (at' + 1) op so fx (ns ++ [⟨31, (lookT toks at').text, [], [], (lookT toks at').line, (lookT toks at').column⟩]) (ds ++ [1]) nv' dv') ∧ Rel b w w' := by
  have hold := h.ps.old
  have CL : Hid' (Calls Tryz.prog 139 #[.pointer (some ⟨b, 0, none⟩), .int .i64 0] w fun e w' => e = .returned (lookT toks (at' + 0)).val ∧ Below w.heap.size w w') := ⟨look_any b tv toks at' op 0 (.pointer so) nv dv w h.ps (by decide)⟩
  rw [Nat.add_zero] at CL
  have CB := hide' (fun W (g : Below w.heap.size w W) => begins_124_32 b tv toks at' op (.pointer so) nv dv W (h.ps.below g hold) (hbg W g))
  have CV := hide' (fun W (g : Below w.heap.size w W) => valueName_any b tv toks at' op so fx ns ds nv dv W (h.below g) 31 hl hb hk hpth htx hds hcap)
  have CB2 := hide' (fun W nv' dv' => hb2 W (ns ++ [⟨31, (lookT toks at').text, [], [], (lookT toks at').line, (lookT toks at').column⟩]) (ds ++ [1]) nv' dv')
  generalize lookT toks at' = T at *
  obtain ⟨tk, tt, tp, tx, ty, po, pc, tl⟩ := T
  simp only at CV CB2 hk ⊢
  subst hk
  unfold ITk.val ITk.pv at CL
  simp only at CL
  generalize tp.length = PL at *
  generalize ByteArray.mk tt.toArray = z at *
  have hfd : ∀ W, (Instr.field 72 (.agg #[.int .i64 2, .string z, .slice po PL pc, .int .i64 tx, .int .i64 ty]) 0).run Tryz.prog W = .ok (.int .i64 2) W := fun W => by kernel_rfl
  generalize ns.length = N at *
  clear h hb2 hpth htx hds hbg
  go_enter Tryz.func250, Tryz.ntmps250
  go_wp2_with (first
    | (go_at_call 139; refine CL.out.mono ?_; clear CL; rintro e w1 ⟨rfl, b1⟩)
    | (go_at_call 123; refine (CB.out _ b1).mono ?_; clear CB; rintro e w2 ⟨rfl, b2⟩; (have B2 := b1.trans (b2.mono b1.size)))
    | (go_at_call 242; refine (CV.out _ B2).mono ?_; clear CV; rintro e w3 ⟨rfl, ⟨nv', dv', hs⟩, hr⟩; (have HS := hide' hs); (have HR := hide' hr); clear hs hr)
    | (go_at_call 123; refine (CB2.out _ nv' dv' HS.out).mono ?_; clear CB2; rintro e w4 ⟨rfl, b4⟩))
  go_ret
  exact ⟨rfl, ⟨nv', dv', HS.out.below b4⟩, ((Rel.of B2 hold).trans HR.out).trans (Rel.of b4 HS.out.ps.old)⟩
end Go.Proofs.YtbcmpacmoofdkaaGreatDoor
