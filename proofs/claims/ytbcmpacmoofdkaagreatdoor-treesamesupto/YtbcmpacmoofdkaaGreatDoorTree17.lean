/- The parser: a name is taken, and put as a node. -/
import Derived.Test.YtbcmpacmoofdkaaGreatDoorProg
import Derived.Test.YtbcmpacmoofdkaaGreatDoorTree12
import Derived.WalkKit
import Derived.ProofKit
import Derived.OpenShut
import Derived.Below
import Derived.WalkLawsBesides
import Derived.OwnWalk
import Derived.BigQuiet
import Derived.Deep.MidRow
import Derived.Deep.RegionHeld
import Derived.Deep.RegionHeld3
import Derived.WalkSmall
import Derived.Deep.DeepCutAuto
namespace Go.Proofs.YtbcmpacmoofdkaaGreatDoor
open Go.ChangeShapes Go.WideShapes Go.ChangeAt Go.RowKit

theorem Five.of_block {W W' : World} {b : Nat} {v0 v1 v2 v3 v4 : Value} (h : Five W b v0 v1 v2 v3 v4) (e : W'.heap[b]? = W.heap[b]?) : Five W' b v0 v1 v2 v3 v4 :=
  ⟨(cell_of_block (a := ⟨b, 0, none⟩) e).trans h.c0, (cell_of_block (a := ⟨b, 1, none⟩) e).trans h.c1, (cell_of_block (a := ⟨b, 2, none⟩) e).trans h.c2, (cell_of_block (a := ⟨b, 3, none⟩) e).trans h.c3, (cell_of_block (a := ⟨b, 4, none⟩) e).trans h.c4,
   (World.frozen?_of_block (a := ⟨b, 0, none⟩) e).trans h.f0, (World.frozen?_of_block (a := ⟨b, 1, none⟩) e).trans h.f1, (World.frozen?_of_block (a := ⟨b, 2, none⟩) e).trans h.f2, (World.frozen?_of_block (a := ⟨b, 3, none⟩) e).trans h.f3, (World.frozen?_of_block (a := ⟨b, 4, none⟩) e).trans h.f4⟩

set_option maxRecDepth 100000 in
set_option maxHeartbeats 8000000 in
theorem long_any (b : Nat) (tv : Value) (toks : List ITk) (at' op : Nat) (sc nv dv : Value) (w : World) (h : PS b w tv toks at' op sc nv dv) (hb : at' + 1 ≤ 8796093022208) (hk : (lookT toks at').kind = 2) :
    Calls Tryz.prog 189 #[.pointer (some ⟨b, 0, none⟩)] w fun e w' => e = .returned (lookT toks at').val ∧ PS b w' tv toks (at' + 1) op sc nv dv ∧ Moved b w w' := by
  have hold := h.old
  have F0 := five_new w (.int .i64 0) (.string ⟨#[]⟩) (.slice none 0 0) (.int .i64 0) (.int .i64 0) 72
  have B0 : Below w.heap.size w (w.alloc (.cells #[.int .i64 0, .string ⟨#[]⟩, .slice none 0 0, .int .i64 0, .int .i64 0] 72)) := (Below.refl _ _).alloc (Nat.le_refl _) _
  have S0 : (w.alloc (.cells #[.int .i64 0, .string ⟨#[]⟩, .slice none 0 0, .int .i64 0, .int .i64 0] 72)).heap.size = w.heap.size + 1 := by simp
  obtain ⟨W0, hW0⟩ : ∃ W0, w.alloc (.cells #[.int .i64 0, .string ⟨#[]⟩, .slice none 0 0, .int .i64 0, .int .i64 0] 72) = W0 := ⟨_, rfl⟩
  rw [hW0] at F0 B0 S0
  have HP0 := hide' (h.below B0 hold)
  have HF0 := hide' F0
  have HB0 := hide' B0
  have CL : Hid' (Calls Tryz.prog 139 #[.pointer (some ⟨b, 0, none⟩), .int .i64 0] W0 fun e w' => e = .returned (lookT toks (at' + 0)).val ∧ Below W0.heap.size W0 w') := ⟨look_any b tv toks at' op 0 sc nv dv W0 HP0.out (by decide)⟩
  rw [Nat.add_zero] at CL
  have CN := hide' (fun W (g : Below W0.heap.size W0 W) => next_any b tv toks at' op sc nv dv W (HP0.out.below g (by omega)) hb)
  generalize lookT toks at' = T at *
  obtain ⟨tk, tt, tp, tx, ty, po, pc, tl⟩ := T
  simp only at hk
  subst hk
  unfold ITk.val ITk.pv at CL CN ⊢
  simp only at CL CN ⊢
  generalize tp.length = PL at *
  generalize ByteArray.mk tt.toArray = z at *
  have hfd : ∀ W, (Instr.field 72 (.agg #[.int .i64 2, .string z, .slice po PL pc, .int .i64 tx, .int .i64 ty]) 0).run Tryz.prog W = .ok (.int .i64 2) W := fun W => by kernel_rfl
  clear h F0 B0
  go_enter Tryz.func189, Tryz.ntmps189
  go_upto_region 1 with fail
  try rw [hW0]
  clear hW0
  go_upto_region 3 with (go_at_call 139; refine CL.out.mono ?_; clear CL; rintro e w1 ⟨rfl, b1⟩)
  go_wp2_with (go_at_call 157; refine (CN.out _ b1).mono ?_; clear CN; rintro e w2 ⟨rfl, hp2, m2⟩; (have HP2 := hide' hp2); (have HM2 := hide' m2); (have s1 := b1.size); (have F2 := (HF0.out.below b1 (by omega))); (have e2 := m2.rest w.heap.size (by omega) (by omega)); (have F3 := F2.of_block e2); (have HF3 := hide' F3); (obtain ⟨d0, d1, d2, d3, d4, g0, g1, g2, g3, g4⟩ := F3); clear hp2 m2 F2)
  refine tok_end0 (w1 := w2) rfl HF3.out rfl ?_
  have hM : Moved b w w2 := (Moved.of (HB0.out.trans (b1.mono (by omega))) (Nat.le_of_lt hold)).trans HM2.out
  exact ⟨rfl, HP2.out.below (set5_below (Below.refl w.heap.size _) (Nat.le_refl _) _ _ _ _ _) hold, hM.setNew5 hold (Nat.le_refl _) _ _ _ _ _⟩
end Go.Proofs.YtbcmpacmoofdkaaGreatDoor
/- The parser: valueName at a name. -/
namespace Go.Proofs.YtbcmpacmoofdkaaGreatDoor
open Go.ChangeShapes Go.WideShapes Go.ChangeAt Go.RowKit

/-- A block that was laid behind the parser's rows is none of them. -/
theorem St.prot {b : Nat} {w w' : World} {tv : Value} {toks : List ITk} {a a' op op' : Nat} {so : Option Addr} {fx : List UInt8 → Fix} {ns : List Nod} {ds : List Nat} {nv dv sc' : Value} (h : St b w tv toks a op so fx ns ds nv dv) (p' : PS b w' tv toks a' op' sc' nv dv) {k : Nat} (hk : w.heap.size ≤ k) (hk2 : k < w'.heap.size) : Prot b w' k := by
  have hold := h.ps.old
  refine ⟨hk2, by omega, fun v hv => ?_, fun v hv => ?_⟩
  · rw [p'.c4] at hv
    injection hv with hv
    subst hv
    intro e
    obtain ⟨_, _, r⟩ := h.rn
    have := (r.lt k e).2
    omega
  · rw [p'.c5] at hv
    injection hv with hv
    subst hv
    intro e
    have := (h.rd.lt k e).2
    omega

set_option maxRecDepth 100000 in
set_option maxHeartbeats 16000000 in
theorem valueName_any (b : Nat) (tv : Value) (toks : List ITk) (at' op : Nat) (so : Option Addr) (fx : List UInt8 → Fix) (ns : List Nod) (ds : List Nat) (nv dv : Value) (w : World) (h : St b w tv toks at' op so fx ns ds nv dv)
    (kind : Int) (hl : at' < toks.length) (hb : at' + 1 ≤ 8796093022208) (hk : (lookT toks at').kind = 2) (hpth : (lookT toks at').path = []) (htx : (lookT toks at').text.length ≤ 1048576) (hds : ∀ j, j < ds.length → ds.getD j 0 ≤ 1000) (hcap : ns.length + 1 ≤ 1000) :
    Calls Tryz.prog 242 #[.pointer (some ⟨b, 0, none⟩), .int .i64 kind] w fun e w' => e = .returned (.int .i64 (ns.length : Int)) ∧ (∃ nv' dv', St b w' tv toks (at' + 1) op so fx (ns ++ [⟨kind, (lookT toks at').text, [], [], (lookT toks at').line, (lookT toks at').column⟩]) (ds ++ [1]) nv' dv') ∧ Rel b w w' := by
  have hold := h.ps.old
  have CH := hide' (here_any b tv toks at' op (.pointer so) nv dv w h.ps hl)
  have HSw := hide' h
  have CI := hide' (fun W (g : Below w.heap.size w W) => is_any b tv toks at' op (.pointer so) nv dv ⟨#[111, 112]⟩ W (h.ps.below g hold))
  have e1 : isT (lookT toks at') ⟨#[111, 112]⟩ = false := by unfold isT; rw [hk]; rfl
  rw [e1] at CI
  have CLO := hide' (fun W (g : Below w.heap.size w W) => long_any b tv toks at' op (.pointer so) nv dv W (h.ps.below g hold) hb hk)
  have CP := hide' (fun W (hW : St b W tv toks (at' + 1) op so fx ns ds nv dv) => putNamed_any b tv toks (at' + 1) op so fx ns ds nv dv W hW (lookT toks at') hpth htx (lookT toks at').line (lookT toks at').column kind (.slice none 0 0) [] ⟨none, 0, rfl, by decide, fun j hj => absurd hj (by simp)⟩ (fun _ => rfl) (by decide) (fun j hj => absurd hj (by simp)) (by simp [depM]) hds hcap)
  generalize lookT toks at' = T at *
  obtain ⟨tk, tt, tp, tx, ty, po, pc, tl⟩ := T
  simp only at CH CP hk hpth htx ⊢
  subst hk hpth
  unfold ITk.val ITk.pv at CLO CP
  simp only [List.length_nil] at CLO CP
  generalize ByteArray.mk tt.toArray = z at *
  have e2 : depM ds [] = 1 := rfl
  rw [e2] at CP
  generalize ns.length = N at *
  clear h e1 e2 htx hds
  go_enter Tryz.func242, Tryz.ntmps242
  go_upto_region 2 with (go_at_call 107; refine CH.out.mono ?_; clear CH; rintro e w1 ⟨rfl, b1⟩)
  obtain ⟨P, hP⟩ : ∃ P, w1.heap.size = P := ⟨_, rfl⟩
  have s1 := b1.size
  obtain ⟨W2, hW2⟩ : ∃ W2, w1.alloc (.cells #[.int .i64 tx, .int .i64 ty] 82) = W2 := ⟨_, rfl⟩
  have B2 : Below w.heap.size w W2 := by rw [← hW2]; exact b1.alloc s1 _
  have S2 : W2.heap.size = P + 1 := by rw [← hW2, ← hP]; simp
  have p0 : W2.cell? ⟨P, 0, none⟩ = some (.int .i64 tx) := by rw [← hW2, ← hP]; simp
  have p1 : W2.cell? ⟨P, 1, none⟩ = some (.int .i64 ty) := by rw [← hW2, ← hP]; simp
  rw [hP] at s1
  rw [hW2, hP]
  clear hW2 b1 hP
  go_upto_region 4 with (go_at_call 137; refine (CI.out _ B2).mono ?_; clear CI; rintro e w3 ⟨rfl, b3⟩)
  have p0' := (b3.cell (p := ⟨P, 0, none⟩) (show P < _ by omega)).trans p0
  have p1' := (b3.cell (p := ⟨P, 1, none⟩) (show P < _ by omega)).trans p1
  have B3 : Below w.heap.size w w3 := B2.trans (b3.mono (by omega))
  have s3 := b3.size
  have hPb : ¬ P = b := by omega
  have hPs : P < w3.heap.size := by omega
  clear p0 p1 B2 b3
  have HB3 := hide' B3
  clear B3
  clear S2
  go_region_held3 (fun w' => w'.cell? ⟨P, 0, none⟩ = some (.int .i64 tx) ∧ w'.cell? ⟨P, 1, none⟩ = some (.int .i64 ty)) (go_keep) (first
    | (go_at_call 189; refine (CLO.out _ HB3.out.drew).mono ?_; clear CLO; rintro e w4 ⟨rfl, hp4, m4⟩; (have HP4 := hide' hp4); (have HM4 := hide' m4); (have q4 := m4.rest P (by simpa using hPs) hPb); (have c4 := (cell_of_block (a := ⟨P, 0, none⟩) q4).trans p0'); (have d4 := (cell_of_block (a := ⟨P, 1, none⟩) q4).trans p1'); clear hp4 m4 q4)
    | (go_at_call 142; refine (CP.out _ (HSw.out.moved HP4.out ((Moved.of HB3.out.drew (Nat.le_of_lt hold)).trans HM4.out))).mono ?_; clear CP; rintro e w5 ⟨rfl, h5, r5⟩; (have H5 := hide' h5); (have R5 := hide' r5); clear h5 r5; (have q5 := R5.out.rest P (HSw.out.prot HP4.out s1 (Nat.lt_of_lt_of_le hPs HM4.out.low.size))); (have c5 := (cell_of_block (a := ⟨P, 0, none⟩) q5.1).trans c4); (have d5 := (cell_of_block (a := ⟨P, 1, none⟩) q5.1).trans d4); clear q5))
  go_wp2_with fail
  go_ret
  obtain ⟨nv', dv', h5⟩ := H5.out
  have rm := rel_of_moved HSw.out.ps HP4.out ((Moved.of HB3.out.drew (Nat.le_of_lt hold)).trans HM4.out)
  exact ⟨rfl, ⟨nv', dv', h5⟩, rm.trans R5.out⟩
end Go.Proofs.YtbcmpacmoofdkaaGreatDoor
/- The parser: typed where no colon stands, isLayered. -/
namespace Go.Proofs.YtbcmpacmoofdkaaGreatDoor
open Go.ChangeShapes Go.WideShapes Go.ChangeAt Go.RowKit

set_option maxRecDepth 100000 in
set_option maxHeartbeats 8000000 in
theorem typed_no (b : Nat) (tv : Value) (toks : List ITk) (at' op : Nat) (sc nv dv : Value) (kind n : Int) (w : World) (h : PS b w tv toks at' op sc nv dv) (ht : isT (lookT toks at') ⟨#[58]⟩ = false) :
    Calls Tryz.prog 232 #[.pointer (some ⟨b, 0, none⟩), .int .i64 kind, .int .i64 n] w fun e w' => e = .returned (.int .i64 n) ∧ Below w.heap.size w w' := by
  have CT := hide' (take_no b tv toks at' op sc nv dv ⟨#[58]⟩ w h ht)
  clear h ht
  go_enter Tryz.func232, Tryz.ntmps232
  go_wp2
  go_loopw [2] (fun v wr => v = .int .i64 n ∧ wr = w) (fun _ _ => 0)
  case atStart => exact ⟨rfl, rfl⟩
  case round =>
    obtain ⟨rfl, hw⟩ := hrel
    subst hw
    go_wp2_with (go_at_call 122; refine CT.out.mono ?_; clear CT; rintro e w1 ⟨rfl, b1⟩)
    go_ret
    exact ⟨rfl, b1⟩

set_option maxRecDepth 100000 in
set_option maxHeartbeats 8000000 in
theorem isLayered_any (b : Nat) (tv : Value) (toks : List ITk) (at' op : Nat) (sc nv dv : Value) (w : World) (h : PS b w tv toks at' op sc nv dv) (ho : isT (lookT toks at') ⟨#[111, 112]⟩ = false) :
    Calls Tryz.prog 231 #[.pointer (some ⟨b, 0, none⟩)] w fun e w' => e = .returned (.bool (isNm (lookT toks at') && (isT (lookT toks (at' + 1)) ⟨#[97, 115]⟩ || isT (lookT toks (at' + 1)) ⟨#[58]⟩))) ∧ Below w.heap.size w w' := by
  have hold := h.old
  have CI := hide' (is_any b tv toks at' op sc nv dv ⟨#[111, 112]⟩ w h)
  rw [ho] at CI
  have CL : Hid' (∀ W, Below w.heap.size w W → Calls Tryz.prog 139 #[.pointer (some ⟨b, 0, none⟩), .int .i64 0] W fun e w' => e = .returned (lookT toks (at' + 0)).val ∧ Below W.heap.size W w') := ⟨fun W g => look_any b tv toks at' op 0 sc nv dv W (h.below g hold) (by decide)⟩
  rw [Nat.add_zero] at CL
  have CN := hide' (fun W => isName_any (lookT toks at') W)
  have CA : Hid' (∀ W, Below w.heap.size w W → Calls Tryz.prog 154 #[.pointer (some ⟨b, 0, none⟩), .int .i64 1, .string ⟨#[97, 115]⟩] W fun e w' => e = .returned (.bool (isT (lookT toks (at' + 1)) ⟨#[97, 115]⟩)) ∧ Below W.heap.size W w') := ⟨fun W g => isAt_any b tv toks at' op 1 sc nv dv _ W (h.below g hold) (by decide)⟩
  have CC : Hid' (∀ W, Below w.heap.size w W → Calls Tryz.prog 154 #[.pointer (some ⟨b, 0, none⟩), .int .i64 1, .string ⟨#[58]⟩] W fun e w' => e = .returned (.bool (isT (lookT toks (at' + 1)) ⟨#[58]⟩)) ∧ Below W.heap.size W w') := ⟨fun W g => isAt_any b tv toks at' op 1 sc nv dv _ W (h.below g hold) (by decide)⟩
  generalize isT (lookT toks (at' + 1)) ⟨#[97, 115]⟩ = ba at *
  generalize isT (lookT toks (at' + 1)) ⟨#[58]⟩ = bb at *
  generalize isNm (lookT toks at') = bn at *
  generalize lookT toks at' = T at *
  obtain ⟨tk, tt, tp, tx, ty, po, pc, tl⟩ := T
  unfold ITk.val ITk.pv at CL CN
  simp only at CL CN
  generalize tp.length = PL at *
  generalize ByteArray.mk tt.toArray = z at *
  clear h ho
  cases bn
  · go_enter Tryz.func231, Tryz.ntmps231
    go_wp2_with (first
      | (go_at_call 137; refine CI.out.mono ?_; clear CI; rintro e w1 ⟨rfl, b1⟩)
      | (go_at_call 139; refine (CL.out _ b1).mono ?_; clear CL; rintro e w2 ⟨rfl, b2⟩; (have B2 := b1.trans (b2.mono b1.size)))
      | (go_at_call 177; refine (CN.out _).mono ?_; clear CN; rintro e w3 ⟨rfl, b3⟩; (have B3 := B2.trans (b3.mono B2.size))))
    go_ret
    exact ⟨rfl, B3⟩
  · cases ba <;> cases bb <;> (
      go_enter Tryz.func231, Tryz.ntmps231
      go_wp2_with (first
        | (go_at_call 137; refine CI.out.mono ?_; clear CI; rintro e w1 ⟨rfl, b1⟩)
        | (go_at_call 139; refine (CL.out _ b1).mono ?_; clear CL; rintro e w2 ⟨rfl, b2⟩; (have B2 := b1.trans (b2.mono b1.size)))
        | (go_at_call 177; refine (CN.out _).mono ?_; clear CN; rintro e w3 ⟨rfl, b3⟩; (have B3 := B2.trans (b3.mono B2.size)))
        | (go_at_call 154; refine (CA.out _ B3).mono ?_; clear CA; rintro e w4 ⟨rfl, b4⟩; (have B4 := B3.trans (b4.mono B3.size)))
        | (go_at_call 154; refine (CC.out _ B4).mono ?_; clear CC; rintro e w5 ⟨rfl, b5⟩; (have B5 := B4.trans (b5.mono B4.size))))
      go_ret
      first
        | exact ⟨rfl, B5⟩
        | exact ⟨rfl, B4⟩)
end Go.Proofs.YtbcmpacmoofdkaaGreatDoor
/- The parser: a token's fixity in a pattern. -/
namespace Go.Proofs.YtbcmpacmoofdkaaGreatDoor
open Go.ChangeShapes Go.WideShapes Go.ChangeAt Go.RowKit

theorem infoFixS : (Tryz.prog.info? 114).map (·.size) = some 3 := by kernel_rfl

/-- Three cells that may be written. -/
structure Three (w : World) (g : Nat) (v0 v1 v2 : Value) : Prop where
  c0 : w.cell? ⟨g, 0, none⟩ = some v0
  c1 : w.cell? ⟨g, 1, none⟩ = some v1
  c2 : w.cell? ⟨g, 2, none⟩ = some v2
  f0 : w.frozen? ⟨g, 0, none⟩ = false
  f1 : w.frozen? ⟨g, 1, none⟩ = false
  f2 : w.frozen? ⟨g, 2, none⟩ = false
theorem three_new (w : World) (v0 v1 v2 : Value) (t : TypeId) : Three (w.alloc (.cells #[v0, v1, v2] t)) w.heap.size v0 v1 v2 := by constructor <;> simp
theorem Three.below {w w' : World} {g B : Nat} {v0 v1 v2 : Value} (h : Three w g v0 v1 v2) (b : Below B w w') (hg : g < B) : Three w' g v0 v1 v2 :=
  ⟨(b.cell (p := ⟨g, 0, none⟩) hg).trans h.c0, (b.cell (p := ⟨g, 1, none⟩) hg).trans h.c1, (b.cell (p := ⟨g, 2, none⟩) hg).trans h.c2, (b.frozen (p := ⟨g, 0, none⟩) hg).trans h.f0, (b.frozen (p := ⟨g, 1, none⟩) hg).trans h.f1, (b.frozen (p := ⟨g, 2, none⟩) hg).trans h.f2⟩

/-- Once its three cells are written, a fixity is handed back. -/
theorem fix_end {w1 : World} {fn : Func} {p : Tmp} {g : Nat} (h : fn.results = #[.cell p 114]) {tmps : Array Value} {R : Ending → World → Prop} {u0 u1 u2 v0 v1 v2 : Value}
    (c : Three w1 g u0 u1 u2) (hp : tmps.getD p undef = .pointer (some ⟨g, 0, none⟩))
    (r : R (.returned (.agg #[v0, v1, v2])) (((w1.setCell ⟨g, 0, none⟩ v0).setCell ⟨g, 1, none⟩ v1).setCell ⟨g, 2, none⟩ v2)) :
    bodyPost Tryz.prog fn R Exit.ret { tmps := tmps, defers := [] } (((w1.setCell ⟨g, 0, none⟩ v0).setCell ⟨g, 1, none⟩ v1).setCell ⟨g, 2, none⟩ v2) := by
  have ht : w1.there g 0 [v0, v1, v2].length := by
    intro j hj
    simp only [List.length_cons, List.length_nil] at hj
    match j, hj with
    | 0, _ => exact ⟨by rw [c.c0]; rfl, c.f0⟩
    | 1, _ => exact ⟨by rw [c.c1]; rfl, c.f1⟩
    | 2, _ => exact ⟨by rw [c.c2]; rfl, c.f2⟩
  have hr := World.rangeAt_setCells_same w1 g 0 [v0, v1, v2] ht
  exact bodyPost_ret (results_one h _ _ g [v0, v1, v2] _ hp hr Tryz.underlying114 rfl infoFixS) rfl r

/-- A token's fixity in a pattern. -/
def fxP (fx : List UInt8 → Fix) (t : ITk) : Fix := if isNm t then fx t.text else (false, 0, false)

set_option maxRecDepth 100000 in
set_option maxHeartbeats 8000000 in
theorem fixityInPat_any (b : Nat) (tv : Value) (toks : List ITk) (at' op : Nat) (so : Option Addr) (nv dv : Value) (fx : List UInt8 → Fix) (t : ITk) (w : World) (h : PS b w tv toks at' op (.pointer so) nv dv) (hf : Fnd b w (.pointer so) fx) :
    Calls Tryz.prog 251 #[.pointer (some ⟨b, 0, none⟩), t.val] w fun e w' => e = .returned (fixV (fxP fx t)) ∧ Below w.heap.size w w' := by
  have CN := hide' (fun W => isName_any t W)
  have hold := h.old
  unfold fxP
  generalize isNm t = bn at *
  obtain ⟨tk, tt, tp, tx, ty, po, pc, tl⟩ := t
  unfold ITk.val ITk.pv at CN ⊢
  simp only at CN ⊢
  generalize tp.length = PL at *
  have CF := hide' (fun W (r : Rel b w W) => hf ⟨tt.toArray⟩ (by simpa [ByteArray.size] using tl) W r)
  have e0 : (ByteArray.mk tt.toArray).data.toList = tt := rfl
  rw [e0] at CF
  generalize ByteArray.mk tt.toArray = z at *
  obtain ⟨⟨fi, fl, fr⟩, hfx⟩ : ∃ f, fx tt = f := ⟨_, rfl⟩
  rw [hfx] at CF ⊢
  unfold fixV at CF ⊢
  simp only at CF ⊢
  clear hfx e0
  obtain ⟨WA, hWA⟩ : ∃ WA, w.alloc (.cells #[.int .i64 tk, .string z, .slice po PL pc, .int .i64 tx, .int .i64 ty] 72) = WA := ⟨_, rfl⟩
  have FA := five_new w (.int .i64 tk) (.string z) (.slice po PL pc) (.int .i64 tx) (.int .i64 ty) 72
  have BA : Below w.heap.size w (w.alloc (.cells #[.int .i64 tk, .string z, .slice po PL pc, .int .i64 tx, .int .i64 ty] 72)) := (Below.refl _ _).alloc (Nat.le_refl _) _
  have SA : WA.heap.size = w.heap.size + 1 := by rw [← hWA]; simp
  rw [hWA] at FA BA
  obtain ⟨W0, hW0⟩ : ∃ W0, WA.alloc (.cells #[.bool false, .int .i64 0, .bool false] 114) = W0 := ⟨_, rfl⟩
  have B1 : Below WA.heap.size WA W0 := by rw [← hW0]; exact (Below.refl _ _).alloc (Nat.le_refl _) _
  have T0 : Three W0 (w.heap.size + 1) (.bool false) (.int .i64 0) (.bool false) := by rw [← hW0, ← SA]; exact three_new _ _ _ _ _
  have S0 : W0.heap.size = w.heap.size + 2 := by rw [← hW0]; simp; omega
  have B0 : Below w.heap.size w W0 := BA.trans (B1.mono (by omega))
  have F0 : Five W0 w.heap.size (.int .i64 tk) (.string z) (.slice po PL pc) (.int .i64 tx) (.int .i64 ty) := FA.below B1 (by omega)
  have c3 := (h.below B0 hold).c3
  have HB0 := hide' B0
  have HT0 := hide' T0
  have hws : w.heap.size < W0.heap.size := by omega
  have hws1 : w.heap.size + 1 < W0.heap.size := by omega
  have hbs : b < W0.heap.size := by omega
  obtain ⟨t0, t1, t2, t3, t4, _, _, _, _, _⟩ := F0
  clear h hf B0 B1 T0 FA BA
  go_enter Tryz.func251, Tryz.ntmps251
  go_upto_region 1 with fail
  try rw [hWA]
  try rw [SA]
  try rw [hW0]
  clear hWA hW0 SA
  cases bn
  · go_wp2_with (go_at_call 177; refine (CN.out _).mono ?_; clear CN; rintro e w1 ⟨rfl, b1⟩; (have T1 := HT0.out.below b1 hws1); (have HT1 := hide' T1); (obtain ⟨d0, d1, d2, g0, g1, g2⟩ := T1))
    refine fix_end (w1 := w1) rfl HT1.out rfl ?_
    have B1 := HB0.out.trans (b1.mono (Nat.le_of_lt hws))
    exact ⟨rfl, ((B1.setCell (p := ⟨w.heap.size + 1, 0, none⟩) (Nat.le_succ _) _).setCell (p := ⟨w.heap.size + 1, 1, none⟩) (Nat.le_succ _) _).setCell (p := ⟨w.heap.size + 1, 2, none⟩) (Nat.le_succ _) _⟩
  · go_upto_region 3 with (go_at_call 177; refine (CN.out _).mono ?_; clear CN; rintro e w1 ⟨rfl, b1⟩; (have T1 := HT0.out.below b1 hws1); (have HT1 := hide' T1))
    have B1 : Below w.heap.size w w1 := HB0.out.trans (b1.mono (Nat.le_of_lt hws))
    have s1 := b1.size
    have n3 := (b1.cell (p := ⟨b, 3, none⟩) (show b < _ from hbs)).trans c3
    have m1 := (b1.cell (p := ⟨w.heap.size, 1, none⟩) (show w.heap.size < _ from hws)).trans t1
    clear b1 c3 t0 t1 t2 t3 t4 T1
    go_region_held3 (fun w' => w'.cell? ⟨b, 3, none⟩ = some (.pointer so) ∧ w'.cell? ⟨w.heap.size, 1, none⟩ = some (.string z)) (go_keep) (
      (go_at_call 201; refine (CF.out _ (Rel.of B1.drew hold)).mono ?_; clear CF; rintro e w2 ⟨rfl, b2⟩; (have p3 := (b2.cell (p := ⟨b, 3, none⟩) (show b < w1.heap.size by omega)).trans n3); (have q1 := (b2.cell (p := ⟨w.heap.size, 1, none⟩) (show w.heap.size < w1.heap.size by omega)).trans m1); (have T2 := HT1.out.below (w' := w2) (B := w1.heap.size) ((Below.refl _ _).drew.trans b2) (by omega)); (have HT2 := hide' T2); (obtain ⟨d0, d1, d2, g0, g1, g2⟩ := T2); (have B2 : Below w.heap.size w w2 := B1.drew.trans (b2.mono (show w.heap.size ≤ w1.heap.size by omega))); (have hn0 : ¬ b = w.heap.size + 1 := by omega); (have hn1 : ¬ w.heap.size + 1 = b := by omega)))
    go_wp2
    refine fix_end (w1 := w2) rfl HT2.out rfl ?_
    exact ⟨rfl, ((B2.setCell (p := ⟨w.heap.size + 1, 0, none⟩) (Nat.le_succ _) _).setCell (p := ⟨w.heap.size + 1, 1, none⟩) (Nat.le_succ _) _).setCell (p := ⟨w.heap.size + 1, 2, none⟩) (Nat.le_succ _) _⟩
end Go.Proofs.YtbcmpacmoofdkaaGreatDoor
/- The parser: a token's fixity in an expression. -/
namespace Go.Proofs.YtbcmpacmoofdkaaGreatDoor
open Go.ChangeShapes Go.WideShapes Go.ChangeAt Go.RowKit

set_option maxRecDepth 100000 in
set_option maxHeartbeats 8000000 in
theorem fixityInExp_any (b : Nat) (tv : Value) (toks : List ITk) (at' op : Nat) (so : Option Addr) (nv dv : Value) (fx : List UInt8 → Fix) (t : ITk) (w : World) (h : PS b w tv toks at' op (.pointer so) nv dv) (hf : Fnd b w (.pointer so) fx) (hk : t.kind ≠ 1) :
    Calls Tryz.prog 276 #[.pointer (some ⟨b, 0, none⟩), t.val] w fun e w' => e = .returned (fixV (fxP fx t)) ∧ Below w.heap.size w w' := by
  have hold := h.old
  have CP := hide' (fun W (g : Below w.heap.size w W) => fixityInPat_any b tv toks at' op so nv dv fx t W (h.below g hold) (hf.rel (Rel.of g hold)))
  generalize fxP fx t = F at *
  obtain ⟨fi, fl, fr⟩ := F
  unfold fixV at CP ⊢
  obtain ⟨tk, tt, tp, tx, ty, po, pc, tl⟩ := t
  unfold ITk.val ITk.pv at CP ⊢
  simp only at CP hk ⊢
  generalize tp.length = PL at *
  generalize ByteArray.mk tt.toArray = z at *
  have hk1 : (tk == 1) = false := by simpa using hk
  obtain ⟨WA, hWA⟩ : ∃ WA, w.alloc (.cells #[.int .i64 tk, .string z, .slice po PL pc, .int .i64 tx, .int .i64 ty] 72) = WA := ⟨_, rfl⟩
  have FA := five_new w (.int .i64 tk) (.string z) (.slice po PL pc) (.int .i64 tx) (.int .i64 ty) 72
  have BA : Below w.heap.size w (w.alloc (.cells #[.int .i64 tk, .string z, .slice po PL pc, .int .i64 tx, .int .i64 ty] 72)) := (Below.refl _ _).alloc (Nat.le_refl _) _
  have SA : WA.heap.size = w.heap.size + 1 := by rw [← hWA]; simp
  rw [hWA] at FA BA
  obtain ⟨W0, hW0⟩ : ∃ W0, WA.alloc (.cells #[.bool false, .int .i64 0, .bool false] 114) = W0 := ⟨_, rfl⟩
  have B1 : Below WA.heap.size WA W0 := by rw [← hW0]; exact (Below.refl _ _).alloc (Nat.le_refl _) _
  have T0 : Three W0 (w.heap.size + 1) (.bool false) (.int .i64 0) (.bool false) := by rw [← hW0, ← SA]; exact three_new _ _ _ _ _
  have S0 : W0.heap.size = w.heap.size + 2 := by rw [← hW0]; simp; omega
  have B0 : Below w.heap.size w W0 := BA.trans (B1.mono (by omega))
  have F0 : Five W0 w.heap.size (.int .i64 tk) (.string z) (.slice po PL pc) (.int .i64 tx) (.int .i64 ty) := FA.below B1 (by omega)
  have HB0 := hide' B0
  have HT0 := hide' T0
  have hws : w.heap.size ≤ W0.heap.size := by omega
  have hws1 : w.heap.size + 1 < W0.heap.size := by omega
  obtain ⟨t0, t1, t2, t3, t4, _, _, _, _, _⟩ := F0
  clear h hf B0 B1 T0 FA BA
  go_enter Tryz.func276, Tryz.ntmps276
  go_upto_region 1 with fail
  clear hWA hW0 SA
  go_wp2_with (go_at_call 251; refine (CP.out _ HB0.out).mono ?_; clear CP; rintro e w1 ⟨rfl, b1⟩; (have T1 := HT0.out.below b1 hws1); (have HT1 := hide' T1); (obtain ⟨d0, d1, d2, g0, g1, g2⟩ := T1))
  refine fix_end (w1 := w1) rfl HT1.out rfl ?_
  have B1 := HB0.out.trans (b1.mono hws)
  exact ⟨rfl, ((B1.setCell (p := ⟨w.heap.size + 1, 0, none⟩) (Nat.le_succ _) _).setCell (p := ⟨w.heap.size + 1, 1, none⟩) (Nat.le_succ _) _).setCell (p := ⟨w.heap.size + 1, 2, none⟩) (Nat.le_succ _) _⟩
end Go.Proofs.YtbcmpacmoofdkaaGreatDoor
