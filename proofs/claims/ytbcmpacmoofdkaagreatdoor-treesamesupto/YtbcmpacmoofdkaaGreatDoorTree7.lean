/- The parser in memory; its looks at tokens. -/
import Derived.Test.YtbcmpacmoofdkaaGreatDoorProg
import Derived.Test.YtbcmpacmoofdkaaGreatDoorTree2
import Derived.WalkKit
import Derived.ProofKit
import Derived.OpenShut
import Derived.Below
import Derived.WalkLawsBesides
import Derived.OwnWalk
import Derived.BigQuiet
import Derived.Deep.MidRow
import Derived.Deep.RegionHeld
import Derived.Deep.RegionHeld3
import Derived.Deep.DeepCutAuto
import Derived.WalkSmall
namespace Go.Proofs.YtbcmpacmoofdkaaGreatDoor
open Go.ChangeShapes Go.WideShapes Go.ChangeAt Go.RowKit

theorem results_one {fn : Func} {p : Tmp} {ty : TypeId} (h : fn.results = #[.cell p ty]) (tmps : Array Value) (w : World) (b : Nat) (cs : List Value) (d : TypeDesc)
    (hp : tmps.getD p undef = .pointer (some ⟨b, 0, none⟩)) (hc : w.rangeAt b 0 cs) (hu : Tryz.prog.underlying ty = some d) (hd : d.isRow = true) (hi : (Tryz.prog.info? ty).map (·.size) = some cs.length) :
    (results fn tmps).run Tryz.prog w = .ok (.agg cs.toArray) w := by
  have hp' : tmps[p]?.getD undef = .pointer (some ⟨b, 0, none⟩) := by simpa using hp
  simp [results, h, hp', asAddr, run_loadVar_mid w b 0 ty cs d hc hu hd hi]
theorem infoTokS : (Tryz.prog.info? 72).map (·.size) = some 5 := by kernel_rfl
theorem infoPlaceS : (Tryz.prog.info? 82).map (·.size) = some 2 := by kernel_rfl
/-- Five cells of a block that may be written. -/
structure Five (W : World) (b : Nat) (v0 v1 v2 v3 v4 : Value) : Prop where
  c0 : W.cell? ⟨b, 0, none⟩ = some v0
  c1 : W.cell? ⟨b, 1, none⟩ = some v1
  c2 : W.cell? ⟨b, 2, none⟩ = some v2
  c3 : W.cell? ⟨b, 3, none⟩ = some v3
  c4 : W.cell? ⟨b, 4, none⟩ = some v4
  f0 : W.frozen? ⟨b, 0, none⟩ = false
  f1 : W.frozen? ⟨b, 1, none⟩ = false
  f2 : W.frozen? ⟨b, 2, none⟩ = false
  f3 : W.frozen? ⟨b, 3, none⟩ = false
  f4 : W.frozen? ⟨b, 4, none⟩ = false
theorem Five.below {W W' : World} {b B : Nat} {v0 v1 v2 v3 v4 : Value} (h : Five W b v0 v1 v2 v3 v4) (g : Below B W W') (hb : b < B) : Five W' b v0 v1 v2 v3 v4 :=
  ⟨by rw [g.cell (p := ⟨b, 0, none⟩) hb]; exact h.c0, by rw [g.cell (p := ⟨b, 1, none⟩) hb]; exact h.c1, by rw [g.cell (p := ⟨b, 2, none⟩) hb]; exact h.c2, by rw [g.cell (p := ⟨b, 3, none⟩) hb]; exact h.c3, by rw [g.cell (p := ⟨b, 4, none⟩) hb]; exact h.c4,
   by rw [g.frozen (p := ⟨b, 0, none⟩) hb]; exact h.f0, by rw [g.frozen (p := ⟨b, 1, none⟩) hb]; exact h.f1, by rw [g.frozen (p := ⟨b, 2, none⟩) hb]; exact h.f2, by rw [g.frozen (p := ⟨b, 3, none⟩) hb]; exact h.f3, by rw [g.frozen (p := ⟨b, 4, none⟩) hb]; exact h.f4⟩
theorem five_new (w : World) (v0 v1 v2 v3 v4 : Value) (t : TypeId) : Five (w.alloc (.cells #[v0, v1, v2, v3, v4] t)) w.heap.size v0 v1 v2 v3 v4 := by constructor <;> simp
/-- Once its five cells are written, a token is handed back. -/
theorem tok_end1 {w w1 : World} {fn : Func} {p : Tmp} (h : fn.results = #[.cell p 72]) {tmps : Array Value} {R : Ending → World → Prop} {u0 u1 u2 u3 u4 v0 v1 v2 v3 v4 : Value}
    (c : Five w1 w.heap.size u0 u1 u2 u3 u4)
    (hp : tmps.getD p undef = .pointer (some ⟨w.heap.size, 0, none⟩)) (b : Below w.heap.size w w1)
    (g : Below w.heap.size w (((((w1.setCell ⟨w.heap.size, 0, none⟩ v0).setCell ⟨w.heap.size, 1, none⟩ v1).setCell ⟨w.heap.size, 2, none⟩ v2).setCell ⟨w.heap.size, 3, none⟩ v3).setCell ⟨w.heap.size, 4, none⟩ v4) → R (.returned (.agg #[v0, v1, v2, v3, v4])) (((((w1.setCell ⟨w.heap.size, 0, none⟩ v0).setCell ⟨w.heap.size, 1, none⟩ v1).setCell ⟨w.heap.size, 2, none⟩ v2).setCell ⟨w.heap.size, 3, none⟩ v3).setCell ⟨w.heap.size, 4, none⟩ v4)) :
    bodyPost Tryz.prog fn R Exit.ret { tmps := tmps, defers := [] } (((((w1.setCell ⟨w.heap.size, 0, none⟩ v0).setCell ⟨w.heap.size, 1, none⟩ v1).setCell ⟨w.heap.size, 2, none⟩ v2).setCell ⟨w.heap.size, 3, none⟩ v3).setCell ⟨w.heap.size, 4, none⟩ v4) := by
  have ht : w1.there w.heap.size 0 [v0, v1, v2, v3, v4].length := by
    intro j hj
    simp only [List.length_cons, List.length_nil] at hj
    match j, hj with
    | 0, _ => exact ⟨by rw [c.c0]; rfl, c.f0⟩
    | 1, _ => exact ⟨by rw [c.c1]; rfl, c.f1⟩
    | 2, _ => exact ⟨by rw [c.c2]; rfl, c.f2⟩
    | 3, _ => exact ⟨by rw [c.c3]; rfl, c.f3⟩
    | 4, _ => exact ⟨by rw [c.c4]; rfl, c.f4⟩
  have hr := World.rangeAt_setCells_same w1 w.heap.size 0 [v0, v1, v2, v3, v4] ht
  refine bodyPost_ret (results_one h _ _ w.heap.size [v0, v1, v2, v3, v4] _ hp hr Tryz.underlying72 rfl infoTokS) rfl (g ?_)
  exact ((((b.setCell (Nat.le_refl _) _).setCell (Nat.le_refl _) _).setCell (Nat.le_refl _) _).setCell (Nat.le_refl _) _).setCell (Nat.le_refl _) _

/-- A token as it lies in memory: its path's slice is told. -/
structure ITk where
  kind : Int
  text : List UInt8
  path : List (List UInt8)
  line : Int
  column : Int
  po : Option Addr
  pc : Nat
  tl : text.length ≤ 1048576
def ITk.zero : ITk := ⟨0, [], [], 0, 0, none, 0, by decide⟩
def ITk.pv (t : ITk) : Value := .slice t.po t.path.length t.pc
def ITk.val (t : ITk) : Value := .agg #[.int .i64 t.kind, .string ⟨t.text.toArray⟩, t.pv, .int .i64 t.line, .int .i64 t.column]
structure TkAt (B : Nat) (w : World) (g o : Nat) (t : ITk) : Prop where
  c0 : w.cell? ⟨g, o, none⟩ = some (.int .i64 t.kind)
  c1 : w.cell? ⟨g, o + 1, none⟩ = some (.string ⟨t.text.toArray⟩)
  c2 : w.cell? ⟨g, o + 2, none⟩ = some t.pv
  c3 : w.cell? ⟨g, o + 3, none⟩ = some (.int .i64 t.line)
  c4 : w.cell? ⟨g, o + 4, none⟩ = some (.int .i64 t.column)
  rp : RdP B w t.pv t.path
theorem TkAt.below {B : Nat} {w w' : World} {g o : Nat} {t : ITk} (h : TkAt B w g o t) (b : Below B w w') (hg : g < B) : TkAt B w' g o t :=
  ⟨by rw [b.cell (p := ⟨g, o, none⟩) hg]; exact h.c0, by rw [b.cell (p := ⟨g, o + 1, none⟩) hg]; exact h.c1, by rw [b.cell (p := ⟨g, o + 2, none⟩) hg]; exact h.c2, by rw [b.cell (p := ⟨g, o + 3, none⟩) hg]; exact h.c3, by rw [b.cell (p := ⟨g, o + 4, none⟩) hg]; exact h.c4, rdP_below h.rp b⟩
def RdTk (B : Nat) (w : World) (v : Value) (l : List ITk) : Prop :=
  ∃ ao cap, v = .slice ao l.length cap ∧ l.length ≤ 8796093022208 ∧ ∀ j, j < l.length → ∃ g o : Nat, ao = some ⟨g, o, none⟩ ∧ g < B ∧ TkAt B w g (o + j * 5) (l.getD j ITk.zero)
theorem rdTk_below {B : Nat} {w w' : World} {v : Value} {l : List ITk} (h : RdTk B w v l) (b : Below B w w') : RdTk B w' v l := by
  obtain ⟨ao, cap, hv, hm, hc⟩ := h
  refine ⟨ao, cap, hv, hm, fun j hj => ?_⟩
  obtain ⟨g, o, ha, hg, ht⟩ := hc j hj
  exact ⟨g, o, ha, hg, ht.below b hg⟩
/-- The parser's six cells; its tokens lie below it. -/
structure PS (b : Nat) (w : World) (tv : Value) (toks : List ITk) (at' op : Nat) (sc nv dv : Value) : Prop where
  c0 : w.cell? ⟨b, 0, none⟩ = some tv
  c1 : w.cell? ⟨b, 1, none⟩ = some (.int .i64 (at' : Int))
  c2 : w.cell? ⟨b, 2, none⟩ = some (.int .i64 (op : Int))
  c3 : w.cell? ⟨b, 3, none⟩ = some sc
  c4 : w.cell? ⟨b, 4, none⟩ = some nv
  c5 : w.cell? ⟨b, 5, none⟩ = some dv
  f1 : w.frozen? ⟨b, 1, none⟩ = false
  f2 : w.frozen? ⟨b, 2, none⟩ = false
  f3 : w.frozen? ⟨b, 3, none⟩ = false
  f4 : w.frozen? ⟨b, 4, none⟩ = false
  f5 : w.frozen? ⟨b, 5, none⟩ = false
  rt : RdTk b w tv toks
  ba : at' ≤ 8796093022208
  old3 : b + 3 ≤ w.heap.size
theorem PS.old {b : Nat} {w : World} {tv : Value} {toks : List ITk} {at' op : Nat} {sc nv dv : Value} (h : PS b w tv toks at' op sc nv dv) : b < w.heap.size := Nat.lt_of_lt_of_le (Nat.lt_add_of_pos_right (by decide)) h.old3
theorem PS.below {b B : Nat} {w w' : World} {tv : Value} {toks : List ITk} {at' op : Nat} {sc nv dv : Value} (h : PS b w tv toks at' op sc nv dv) (g : Below B w w') (hb : b < B) : PS b w' tv toks at' op sc nv dv :=
  ⟨by rw [g.cell (p := ⟨b, 0, none⟩) hb]; exact h.c0, by rw [g.cell (p := ⟨b, 1, none⟩) hb]; exact h.c1, by rw [g.cell (p := ⟨b, 2, none⟩) hb]; exact h.c2, by rw [g.cell (p := ⟨b, 3, none⟩) hb]; exact h.c3, by rw [g.cell (p := ⟨b, 4, none⟩) hb]; exact h.c4, by rw [g.cell (p := ⟨b, 5, none⟩) hb]; exact h.c5,
   by rw [g.frozen (p := ⟨b, 1, none⟩) hb]; exact h.f1, by rw [g.frozen (p := ⟨b, 2, none⟩) hb]; exact h.f2, by rw [g.frozen (p := ⟨b, 3, none⟩) hb]; exact h.f3, by rw [g.frozen (p := ⟨b, 4, none⟩) hb]; exact h.f4, by rw [g.frozen (p := ⟨b, 5, none⟩) hb]; exact h.f5,
   rdTk_below h.rt (g.mono (Nat.le_of_lt hb)), h.ba, Nat.le_trans h.old3 g.size⟩
theorem below_drew2 (B : Nat) (w : World) (n : Nat) : Below B w (w.drewN n) := ⟨rfl, rfl, rfl, Nat.le_refl _, fun _ _ => rfl⟩
def lookT (toks : List ITk) (i : Nat) : ITk := toks.getD i ITk.zero
theorem lookT_end {toks : List ITk} {i : Nat} (h : toks.length ≤ i) : lookT toks i = ITk.zero := by
  unfold lookT
  simp [List.getD_eq_getElem?_getD, List.getElem?_eq_none h]

set_option maxRecDepth 100000 in
set_option maxHeartbeats 8000000 in
theorem look_any (b : Nat) (tv : Value) (toks : List ITk) (at' op k : Nat) (sc nv dv : Value) (w : World) (h : PS b w tv toks at' op sc nv dv) (hk : k ≤ 8796093022208) :
    Calls Tryz.prog 139 #[.pointer (some ⟨b, 0, none⟩), .int .i64 (k : Int)] w fun e w' => e = .returned (lookT toks (at' + k)).val ∧ Below w.heap.size w w' := by
  have HP := hide' h
  have hba := h.ba
  obtain ⟨ao, cap, htv, hm, hc⟩ := h.rt
  have HC := hide' hc
  obtain ⟨L, hL⟩ : ∃ L, toks.length = L := ⟨_, rfl⟩
  have HL := hide' hL
  rw [hL] at htv hm
  have F0 := five_new w (.int .i64 0) (.string ⟨#[]⟩) (.slice none 0 0) (.int .i64 0) (.int .i64 0) 72
  have B0 : Below w.heap.size w (w.alloc (.cells #[.int .i64 0, .string ⟨#[]⟩, .slice none 0 0, .int .i64 0, .int .i64 0] 72)) := (Below.refl _ _).alloc (Nat.le_refl _) _
  have P0 := HP.out.below B0 HP.out.old
  have hold := HP.out.old
  obtain ⟨W0, hW0⟩ : ∃ W0, w.alloc (.cells #[.int .i64 0, .string ⟨#[]⟩, .slice none 0 0, .int .i64 0, .int .i64 0] 72) = W0 := ⟨_, rfl⟩
  have hs0 : w.heap.size + 1 ≤ W0.heap.size := by rw [← hW0]; simp
  rw [hW0] at F0 B0 P0
  obtain ⟨q, hq⟩ : ∃ q, at' + k = q := ⟨_, rfl⟩
  have hqi : (at' : Int) + (k : Int) = (q : Int) := by omega
  have hqb : q ≤ 17592186044416 := by omega
  rw [hq]
  have c0 := P0.c0
  have c1 := P0.c1
  rw [htv] at c0
  have HF0 := hide' F0
  have HB0 := hide' B0
  have HP0 := hide' P0
  clear hc hL h htv F0 B0 P0
  by_cases h1 : q < L
  · obtain ⟨g, o, ea, hg, hat⟩ := HC.out q (by have := HL.out; omega)
    subst ea
    obtain ⟨T, hT⟩ : ∃ T, lookT toks q = T := ⟨_, rfl⟩
    rw [hT]
    rw [show toks.getD q ITk.zero = T from hT] at hat
    have hat2 := hat.below (HB0.out.mono (Nat.le_of_lt hold)) hg
    obtain ⟨tk, tt, tp, tx, ty, po, pc, tl⟩ := T
    obtain ⟨d0, d1, d2, d3, d4, _⟩ := hat2
    simp only [ITk.pv] at d0 d1 d2 d3 d4
    unfold ITk.val ITk.pv
    simp only
    generalize tp.length = PL at *
    obtain ⟨z, hz⟩ : ∃ z : ByteArray, ByteArray.mk tt.toArray = z := ⟨_, rfl⟩
    rw [hz] at d1
    have HZ := hide' hz
    clear hz hat hT
    have hgl : g < w.heap.size := by omega
    have hng : ¬ g = w.heap.size := by omega
    have hng2 : ¬ w.heap.size = g := by omega
    have hnb : ¬ b = w.heap.size := by omega
    have hnb2 : ¬ w.heap.size = b := by omega
    obtain ⟨e0, e1, e2, e3, e4, f0, f1, f2, f3, f4⟩ := HF0.out
    go_enter Tryz.func139, Tryz.ntmps139
    go_upto_region 1 with fail
    try rw [hW0]
    clear hW0
    go_quiet (fail)
    go_upto_region 2 with fail
    have hwq : IntKind.i64.wrap (q : Int) = (q : Int) := by simp [IntKind.wrap, IntKind.bits, IntKind.signed]; omega
    go_region_held3 (fun w' => w'.cell? ⟨b, 0, none⟩ = some (.slice (some ⟨g, o, none⟩) L cap) ∧ w'.cell? ⟨b, 1, none⟩ = some (.int .i64 (at' : Int)) ∧ w'.cell? ⟨g, o + q * 5, none⟩ = some (.int .i64 tk) ∧ w'.cell? ⟨g, o + q * 5 + 1, none⟩ = some (.string z) ∧ w'.cell? ⟨g, o + q * 5 + 2, none⟩ = some (.slice po PL pc) ∧ w'.cell? ⟨g, o + q * 5 + 3, none⟩ = some (.int .i64 tx) ∧ w'.cell? ⟨g, o + q * 5 + 4, none⟩ = some (.int .i64 ty)) (go_keep) (fail)
    go_wp2
    refine tok_end1 (w1 := (W0.drewN nq).drew) rfl (HF0.out.below (below_drew2 _ _ nq).drew (by have := HB0.out.size; exact Nat.lt_of_lt_of_le (Nat.lt_succ_self _) hs0)) rfl (HB0.out.trans ((below_drew2 _ _ nq).drew)) fun gg => ?_
    refine ⟨?_, gg⟩
    rw [HZ.out]
  · rw [lookT_end (by have := HL.out; omega)]
    obtain ⟨e0, e1, e2, e3, e4, f0, f1, f2, f3, f4⟩ := HF0.out
    go_enter Tryz.func139, Tryz.ntmps139
    go_upto_region 1 with fail
    try rw [hW0]
    clear hW0
    go_quiet (fail)
    go_wp2
    refine tok_end1 (w1 := W0.drewN nq) rfl (HF0.out.below (below_drew2 _ _ nq) (Nat.lt_of_lt_of_le (Nat.lt_succ_self _) hs0)) rfl (HB0.out.trans (below_drew2 _ _ nq)) fun gg => ?_
    exact ⟨rfl, gg⟩
end Go.Proofs.YtbcmpacmoofdkaaGreatDoor
/- The parser's small steps: isAt, is, take, next, here. -/
namespace Go.Proofs.YtbcmpacmoofdkaaGreatDoor
open Go.ChangeShapes Go.WideShapes Go.ChangeAt Go.RowKit

def isT (t : ITk) (s : ByteArray) : Bool := (t.kind == 1) && (t.text == s.data.toList)
theorem str_eq (a : List UInt8) (s : ByteArray) : ((ByteArray.mk a.toArray).toList == s.toList) = (a == s.data.toList) := by
  rw [ByteArray.toList_eq, ByteArray.toList_eq]

set_option maxRecDepth 100000 in
set_option maxHeartbeats 8000000 in
theorem isAt_any (b : Nat) (tv : Value) (toks : List ITk) (at' op k : Nat) (sc nv dv : Value) (s : ByteArray) (w : World) (h : PS b w tv toks at' op sc nv dv) (hk : k ≤ 8796093022208) :
    Calls Tryz.prog 154 #[.pointer (some ⟨b, 0, none⟩), .int .i64 (k : Int), .string s] w fun e w' => e = .returned (.bool (isT (lookT toks (at' + k)) s)) ∧ Below w.heap.size w w' := by
  have CL := hide' (look_any b tv toks at' op k sc nv dv w h hk)
  generalize lookT toks (at' + k) = T at *
  obtain ⟨tk, tt, tp, tx, ty, po, pc, tl⟩ := T
  unfold ITk.val ITk.pv at CL
  simp only at CL
  generalize tp.length = PL at *
  have HE := hide' (str_eq tt s)
  obtain ⟨z, hz⟩ : ∃ z : ByteArray, ByteArray.mk tt.toArray = z := ⟨_, rfl⟩
  rw [hz] at CL HE
  unfold isT
  simp only
  obtain ⟨tb, htb⟩ : ∃ tb, (tt == s.data.toList) = tb := ⟨_, rfl⟩
  rw [htb] at HE ⊢
  clear hz htb h
  by_cases h1 : tk = 1
  · subst h1
    go_enter Tryz.func154, Tryz.ntmps154
    go_wp2_with (go_at_call 139; refine CL.out.mono ?_; clear CL; rintro e w1 ⟨rfl, b1⟩)
    go_ret
    refine ⟨?_, b1.alloc b1.size _⟩
    have := HE.out
    simp_all
  · have g1 : (tk == 1) = false := by simpa using h1
    rw [g1, Bool.false_and]
    go_enter Tryz.func154, Tryz.ntmps154
    go_wp2_with (go_at_call 139; refine CL.out.mono ?_; clear CL; rintro e w1 ⟨rfl, b1⟩)
    go_ret
    exact ⟨rfl, b1.alloc b1.size _⟩

set_option maxRecDepth 100000 in
set_option maxHeartbeats 8000000 in
theorem is_any (b : Nat) (tv : Value) (toks : List ITk) (at' op : Nat) (sc nv dv : Value) (s : ByteArray) (w : World) (h : PS b w tv toks at' op sc nv dv) :
    Calls Tryz.prog 137 #[.pointer (some ⟨b, 0, none⟩), .string s] w fun e w' => e = .returned (.bool (isT (lookT toks at') s)) ∧ Below w.heap.size w w' := by
  have CL : Hid' (Calls Tryz.prog 154 #[.pointer (some ⟨b, 0, none⟩), .int .i64 0, .string s] w fun e w' => e = .returned (.bool (isT (lookT toks (at' + 0)) s)) ∧ Below w.heap.size w w') := ⟨isAt_any b tv toks at' op 0 sc nv dv s w h (by decide)⟩
  rw [Nat.add_zero] at CL
  generalize isT (lookT toks at') s = T at *
  clear h
  go_enter Tryz.func137, Tryz.ntmps137
  go_wp2_with (go_at_call 154; refine CL.out.mono ?_; clear CL; rintro e w1 ⟨rfl, b1⟩)
  go_ret
  exact ⟨rfl, b1⟩

/-- What a call leaves that moves on in the tokens: nothing below the parser, nothing old but the parser's block. -/
structure Moved (b : Nat) (w w' : World) : Prop where
  low : Below b w w'
  rest : ∀ k, k < w.heap.size → k ≠ b → w'.heap[k]? = w.heap[k]?
theorem Moved.refl (b : Nat) (w : World) : Moved b w w := ⟨Below.refl _ _, fun _ _ _ => rfl⟩
theorem Moved.of {b : Nat} {w w' : World} (h : Below w.heap.size w w') (hb : b ≤ w.heap.size) : Moved b w w' := ⟨h.mono hb, fun k hk _ => h.block k hk⟩
theorem Moved.trans {b : Nat} {w w' w'' : World} (h : Moved b w w') (g : Moved b w' w'') : Moved b w w'' := ⟨h.low.trans g.low, fun k hk hne => (g.rest k (Nat.lt_of_lt_of_le hk h.low.size) hne).trans (h.rest k hk hne)⟩
theorem Moved.set {b j : Nat} {w w' : World} (h : Moved b w w') (u : Value) : Moved b w (w'.setCell ⟨b, j, none⟩ u) :=
  ⟨h.low.setCell (Nat.le_refl _) _, fun k hk hne => by rw [Below.heap_setCell _ _ _ _ (by show k ≠ b; exact hne)]; exact h.rest k hk hne⟩
theorem PS.move {b : Nat} {w : World} {tv : Value} {toks : List ITk} {at' op m : Nat} {sc nv dv : Value} (h : PS b w tv toks at' op sc nv dv) (hm : m ≤ 8796093022208) : PS b (w.setCell ⟨b, 1, none⟩ (.int .i64 (m : Int))) tv toks m op sc nv dv :=
  ⟨(World.cell?_setCell_other _ _ _ _ (by simp)).trans h.c0, World.cell?_setCell_same _ _ _ h.c1, (World.cell?_setCell_other _ _ _ _ (by simp)).trans h.c2, (World.cell?_setCell_other _ _ _ _ (by simp)).trans h.c3, (World.cell?_setCell_other _ _ _ _ (by simp)).trans h.c4, (World.cell?_setCell_other _ _ _ _ (by simp)).trans h.c5,
   by rw [World.frozen?_setCell]; exact h.f1, by rw [World.frozen?_setCell]; exact h.f2, by rw [World.frozen?_setCell]; exact h.f3, by rw [World.frozen?_setCell]; exact h.f4, by rw [World.frozen?_setCell]; exact h.f5,
   rdTk_below h.rt ((Below.refl b w).setCell (p := ⟨b, 1, none⟩) (Nat.le_refl _) _), hm, by simpa using h.old3⟩

set_option maxRecDepth 100000 in
set_option maxHeartbeats 8000000 in
theorem take_no (b : Nat) (tv : Value) (toks : List ITk) (at' op : Nat) (sc nv dv : Value) (s : ByteArray) (w : World) (h : PS b w tv toks at' op sc nv dv) (ht : isT (lookT toks at') s = false) :
    Calls Tryz.prog 122 #[.pointer (some ⟨b, 0, none⟩), .string s] w fun e w' => e = .returned (.bool false) ∧ Below w.heap.size w w' := by
  have CL := hide' (is_any b tv toks at' op sc nv dv s w h)
  rw [ht] at CL
  clear h ht
  go_enter Tryz.func122, Tryz.ntmps122
  go_wp2_with (go_at_call 137; refine CL.out.mono ?_; clear CL; rintro e w1 ⟨rfl, b1⟩)
  go_ret
  exact ⟨rfl, b1⟩

set_option maxRecDepth 100000 in
set_option maxHeartbeats 8000000 in
theorem take_yes (b : Nat) (tv : Value) (toks : List ITk) (at' op : Nat) (sc nv dv : Value) (s : ByteArray) (w : World) (h : PS b w tv toks at' op sc nv dv) (ht : isT (lookT toks at') s = true) (hb : at' + 1 ≤ 8796093022208) :
    Calls Tryz.prog 122 #[.pointer (some ⟨b, 0, none⟩), .string s] w fun e w' => e = .returned (.bool true) ∧ PS b w' tv toks (at' + 1) op sc nv dv ∧ Moved b w w' := by
  have CL := hide' (is_any b tv toks at' op sc nv dv s w h)
  rw [ht] at CL
  have HP := hide' h
  have hold := h.old
  clear h ht
  go_enter Tryz.func122, Tryz.ntmps122
  go_wp2_with (go_at_call 137; refine CL.out.mono ?_; clear CL; rintro e w1 ⟨rfl, b1⟩; (have HP1 := hide' (HP.out.below b1 hold)); (have c1 := HP1.out.c1); (have f1 := HP1.out.f1))
  go_ret
  exact ⟨rfl, HP1.out.move hb, (Moved.of b1 (Nat.le_of_lt hold)).set _⟩
end Go.Proofs.YtbcmpacmoofdkaaGreatDoor
/- What the parser's calls leave as it is; next, here; kinds of tokens that begin a phrase. -/
namespace Go.Proofs.YtbcmpacmoofdkaaGreatDoor
open Go.ChangeShapes Go.WideShapes Go.ChangeAt Go.RowKit

/-- A block that is neither the parser's nor that of its rows. -/
def Prot (b : Nat) (w : World) (k : Nat) : Prop := k < w.heap.size ∧ k ≠ b ∧ (∀ v, w.cell? ⟨b, 4, none⟩ = some v → v.ownBlock ≠ some k) ∧ (∀ v, w.cell? ⟨b, 5, none⟩ = some v → v.ownBlock ≠ some k)
/-- What a call of the parser's leaves. -/
structure Rel (b : Nat) (w w' : World) : Prop where
  low : Below b w w'
  rest : ∀ k, Prot b w k → w'.heap[k]? = w.heap[k]? ∧ Prot b w' k
theorem Rel.refl (b : Nat) (w : World) : Rel b w w := ⟨Below.refl _ _, fun _ h => ⟨rfl, h⟩⟩
theorem Rel.trans {b : Nat} {w w' w'' : World} (h : Rel b w w') (g : Rel b w' w'') : Rel b w w'' :=
  ⟨h.low.trans g.low, fun k hk => ⟨(g.rest k (h.rest k hk).2).1.trans (h.rest k hk).1, (g.rest k (h.rest k hk).2).2⟩⟩
theorem Rel.of {b : Nat} {w w' : World} (h : Below w.heap.size w w') (hb : b < w.heap.size) : Rel b w w' :=
  ⟨h.mono (Nat.le_of_lt hb), fun k hk => ⟨h.block k hk.1, Nat.lt_of_lt_of_le hk.1 h.size, hk.2.1, fun v hv => hk.2.2.1 v (by rw [h.cell (p := ⟨b, 4, none⟩) hb] at hv; exact hv), fun v hv => hk.2.2.2 v (by rw [h.cell (p := ⟨b, 5, none⟩) hb] at hv; exact hv)⟩⟩
theorem Rel.set {b j : Nat} {w w' : World} (h : Rel b w w') (hj : j < 4) (u : Value) : Rel b w (w'.setCell ⟨b, j, none⟩ u) := by
  refine ⟨h.low.setCell (Nat.le_refl _) _, fun k hk => ?_⟩
  obtain ⟨h1, h2⟩ := h.rest k hk
  refine ⟨by rw [Below.heap_setCell _ _ _ _ (by show k ≠ b; exact h2.2.1)]; exact h1, by simpa using h2.1, h2.2.1, fun v hv => h2.2.2.1 v ?_, fun v hv => h2.2.2.2 v ?_⟩
  · rw [World.cell?_setCell_other _ _ _ _ (by simp <;> omega)] at hv; exact hv
  · rw [World.cell?_setCell_other _ _ _ _ (by simp <;> omega)] at hv; exact hv
theorem Rel.setNew {b g j : Nat} {w w' : World} (h : Rel b w w') (hb : b < w.heap.size) (hg : w.heap.size ≤ g) (u : Value) : Rel b w (w'.setCell ⟨g, j, none⟩ u) := by
  refine ⟨h.low.setCell (p := ⟨g, j, none⟩) (by show b ≤ g; omega) _, fun k hk => ?_⟩
  obtain ⟨h1, h2⟩ := h.rest k hk
  have hkl := hk.1
  refine ⟨by rw [Below.heap_setCell _ _ _ _ (by show k ≠ g; omega)]; exact h1, by simpa using h2.1, h2.2.1, fun v hv => h2.2.2.1 v ?_, fun v hv => h2.2.2.2 v ?_⟩
  · rw [World.cell?_setCell_other _ _ _ _ (by simp <;> omega)] at hv; exact hv
  · rw [World.cell?_setCell_other _ _ _ _ (by simp <;> omega)] at hv; exact hv
theorem Rel.setNew5 {b g : Nat} {w w' : World} (h : Rel b w w') (hb : b < w.heap.size) (hg : w.heap.size ≤ g) (v0 v1 v2 v3 v4 : Value) : Rel b w (((((w'.setCell ⟨g, 0, none⟩ v0).setCell ⟨g, 1, none⟩ v1).setCell ⟨g, 2, none⟩ v2).setCell ⟨g, 3, none⟩ v3).setCell ⟨g, 4, none⟩ v4) :=
  ((((h.setNew hb hg _).setNew hb hg _).setNew hb hg _).setNew hb hg _).setNew hb hg _
theorem Moved.setNew {b g j : Nat} {w w' : World} (h : Moved b w w') (hb : b < w.heap.size) (hg : w.heap.size ≤ g) (u : Value) : Moved b w (w'.setCell ⟨g, j, none⟩ u) :=
  ⟨h.low.setCell (p := ⟨g, j, none⟩) (by show b ≤ g; omega) _, fun k hk hne => by rw [Below.heap_setCell _ _ _ _ (by show k ≠ g; omega)]; exact h.rest k hk hne⟩
theorem Moved.setNew5 {b g : Nat} {w w' : World} (h : Moved b w w') (hb : b < w.heap.size) (hg : w.heap.size ≤ g) (v0 v1 v2 v3 v4 : Value) : Moved b w (((((w'.setCell ⟨g, 0, none⟩ v0).setCell ⟨g, 1, none⟩ v1).setCell ⟨g, 2, none⟩ v2).setCell ⟨g, 3, none⟩ v3).setCell ⟨g, 4, none⟩ v4) :=
  ((((h.setNew hb hg _).setNew hb hg _).setNew hb hg _).setNew hb hg _).setNew hb hg _
theorem rel_of_moved {b : Nat} {w w' : World} {tv tv' : Value} {toks toks' : List ITk} {a a' op op' : Nat} {sc sc' nv dv : Value} (p : PS b w tv toks a op sc nv dv) (p' : PS b w' tv' toks' a' op' sc' nv dv) (m : Moved b w w') : Rel b w w' :=
  ⟨m.low, fun k hk => ⟨m.rest k hk.1 hk.2.1, Nat.lt_of_lt_of_le hk.1 m.low.size, hk.2.1, fun v hv => hk.2.2.1 v (by rw [p'.c4] at hv; rw [p.c4]; exact hv), fun v hv => hk.2.2.2 v (by rw [p'.c5] at hv; rw [p.c5]; exact hv)⟩⟩
theorem Five.setNe {W : World} {b g j : Nat} {u v0 v1 v2 v3 v4 : Value} (h : Five W g v0 v1 v2 v3 v4) (hne : g ≠ b) : Five (W.setCell ⟨b, j, none⟩ u) g v0 v1 v2 v3 v4 :=
  ⟨(World.cell?_setCell_other _ _ _ _ (by simp <;> omega)).trans h.c0, (World.cell?_setCell_other _ _ _ _ (by simp <;> omega)).trans h.c1, (World.cell?_setCell_other _ _ _ _ (by simp <;> omega)).trans h.c2, (World.cell?_setCell_other _ _ _ _ (by simp <;> omega)).trans h.c3, (World.cell?_setCell_other _ _ _ _ (by simp <;> omega)).trans h.c4,
   by rw [World.frozen?_setCell]; exact h.f0, by rw [World.frozen?_setCell]; exact h.f1, by rw [World.frozen?_setCell]; exact h.f2, by rw [World.frozen?_setCell]; exact h.f3, by rw [World.frozen?_setCell]; exact h.f4⟩
theorem cell_of_block {w w' : World} {a : Addr} (h : w'.heap[a.block]? = w.heap[a.block]?) : w'.cell? a = w.cell? a := by
  unfold World.cell?
  rw [h]

/-- Once its five cells are written, a token is handed back; what else was written plays no part. -/
theorem tok_end0 {w1 : World} {fn : Func} {p : Tmp} {g : Nat} (h : fn.results = #[.cell p 72]) {tmps : Array Value} {R : Ending → World → Prop} {u0 u1 u2 u3 u4 v0 v1 v2 v3 v4 : Value}
    (c : Five w1 g u0 u1 u2 u3 u4) (hp : tmps.getD p undef = .pointer (some ⟨g, 0, none⟩))
    (r : R (.returned (.agg #[v0, v1, v2, v3, v4])) (((((w1.setCell ⟨g, 0, none⟩ v0).setCell ⟨g, 1, none⟩ v1).setCell ⟨g, 2, none⟩ v2).setCell ⟨g, 3, none⟩ v3).setCell ⟨g, 4, none⟩ v4)) :
    bodyPost Tryz.prog fn R Exit.ret { tmps := tmps, defers := [] } (((((w1.setCell ⟨g, 0, none⟩ v0).setCell ⟨g, 1, none⟩ v1).setCell ⟨g, 2, none⟩ v2).setCell ⟨g, 3, none⟩ v3).setCell ⟨g, 4, none⟩ v4) := by
  have ht : w1.there g 0 [v0, v1, v2, v3, v4].length := by
    intro j hj
    simp only [List.length_cons, List.length_nil] at hj
    match j, hj with
    | 0, _ => exact ⟨by rw [c.c0]; rfl, c.f0⟩
    | 1, _ => exact ⟨by rw [c.c1]; rfl, c.f1⟩
    | 2, _ => exact ⟨by rw [c.c2]; rfl, c.f2⟩
    | 3, _ => exact ⟨by rw [c.c3]; rfl, c.f3⟩
    | 4, _ => exact ⟨by rw [c.c4]; rfl, c.f4⟩
  have hr := World.rangeAt_setCells_same w1 g 0 [v0, v1, v2, v3, v4] ht
  exact bodyPost_ret (results_one h _ _ g [v0, v1, v2, v3, v4] _ hp hr Tryz.underlying72 rfl infoTokS) rfl r
theorem set5_below {w w1 : World} {B g : Nat} (h : Below B w w1) (hg : B ≤ g) (v0 v1 v2 v3 v4 : Value) : Below B w (((((w1.setCell ⟨g, 0, none⟩ v0).setCell ⟨g, 1, none⟩ v1).setCell ⟨g, 2, none⟩ v2).setCell ⟨g, 3, none⟩ v3).setCell ⟨g, 4, none⟩ v4) :=
  ((((h.setCell (p := ⟨g, 0, none⟩) hg _).setCell (p := ⟨g, 1, none⟩) hg _).setCell (p := ⟨g, 2, none⟩) hg _).setCell (p := ⟨g, 3, none⟩) hg _).setCell (p := ⟨g, 4, none⟩) hg _

set_option maxRecDepth 100000 in
set_option maxHeartbeats 8000000 in
theorem next_any (b : Nat) (tv : Value) (toks : List ITk) (at' op : Nat) (sc nv dv : Value) (w : World) (h : PS b w tv toks at' op sc nv dv) (hb : at' + 1 ≤ 8796093022208) :
    Calls Tryz.prog 157 #[.pointer (some ⟨b, 0, none⟩)] w fun e w' => e = .returned (lookT toks at').val ∧ PS b w' tv toks (at' + 1) op sc nv dv ∧ Moved b w w' := by
  have hold := h.old
  have F0 := five_new w (.int .i64 0) (.string ⟨#[]⟩) (.slice none 0 0) (.int .i64 0) (.int .i64 0) 72
  have B0 : Below w.heap.size w (w.alloc (.cells #[.int .i64 0, .string ⟨#[]⟩, .slice none 0 0, .int .i64 0, .int .i64 0] 72)) := (Below.refl _ _).alloc (Nat.le_refl _) _
  have S0 : (w.alloc (.cells #[.int .i64 0, .string ⟨#[]⟩, .slice none 0 0, .int .i64 0, .int .i64 0] 72)).heap.size = w.heap.size + 1 := by simp
  obtain ⟨W0, hW0⟩ : ∃ W0, w.alloc (.cells #[.int .i64 0, .string ⟨#[]⟩, .slice none 0 0, .int .i64 0, .int .i64 0] 72) = W0 := ⟨_, rfl⟩
  rw [hW0] at F0 B0 S0
  have HP0 := hide' (h.below B0 hold)
  have HF0 := hide' F0
  have HB0 := hide' B0
  have CL : Hid' (Calls Tryz.prog 139 #[.pointer (some ⟨b, 0, none⟩), .int .i64 0] W0 fun e w' => e = .returned (lookT toks (at' + 0)).val ∧ Below W0.heap.size W0 w') := ⟨look_any b tv toks at' op 0 sc nv dv W0 HP0.out (by decide)⟩
  rw [Nat.add_zero] at CL
  generalize lookT toks at' = T at *
  obtain ⟨tk, tt, tp, tx, ty, po, pc, tl⟩ := T
  unfold ITk.val ITk.pv at CL ⊢
  simp only at CL ⊢
  generalize tp.length = PL at *
  generalize ByteArray.mk tt.toArray = z at *
  clear h F0 B0
  go_enter Tryz.func157, Tryz.ntmps157
  go_upto_region 1 with fail
  try rw [hW0]
  clear hW0
  go_upto_region 2 with (go_at_call 139; refine CL.out.mono ?_; clear CL; rintro e w1 ⟨rfl, b1⟩)
  have S1 := b1.size
  have B1 : Below W0.heap.size W0 (w1.alloc (.cells #[.int .i64 tk, .string z, .slice po PL pc, .int .i64 tx, .int .i64 ty] 72)) := b1.alloc S1 _
  have T1 := five_new w1 (.int .i64 tk) (.string z) (.slice po PL pc) (.int .i64 tx) (.int .i64 ty) 72
  have P1 := HP0.out.below B1 (by omega)
  have F1 := HF0.out.below B1 (by omega)
  have BW := hide' (HB0.out.trans (B1.mono (by omega)))
  obtain ⟨T, hT⟩ : ∃ T, w1.heap.size = T := ⟨_, rfl⟩
  rw [hT] at T1 S1 ⊢
  have hTb : ¬ T = b := by omega
  have hbT : ¬ b = T := by omega
  have hTw : ¬ T = w.heap.size := by omega
  have hwT : ¬ w.heap.size = T := by omega
  have hbw : ¬ b = w.heap.size := by omega
  have hwb : ¬ w.heap.size = b := by omega
  generalize w1.alloc (.cells #[.int .i64 tk, .string z, .slice po PL pc, .int .i64 tx, .int .i64 ty] 72) = W2 at *
  have HP1 := hide' P1
  have HF1 := hide' F1
  have c1 := P1.c1
  have f1 := P1.f1
  obtain ⟨t0, t1, t2, t3, t4, _, _, _, _, _⟩ := T1
  obtain ⟨d0, d1, d2, d3, d4, g0, g1, g2, g3, g4⟩ := F1
  clear P1 b1 hT B1
  go_wp2
  refine tok_end0 (w1 := W2.setCell ⟨b, 1, none⟩ (.int .i64 ((at' : Int) + 1))) rfl (HF1.out.setNe hwb) rfl ?_
  refine ⟨rfl, (HP1.out.move (m := at' + 1) hb).below (set5_below (Below.refl w.heap.size _) (Nat.le_refl _) _ _ _ _ _) hold, ((Moved.of BW.out (Nat.le_of_lt hold)).set _).setNew5 hold (Nat.le_refl _) _ _ _ _ _⟩
end Go.Proofs.YtbcmpacmoofdkaaGreatDoor
