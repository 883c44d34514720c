/- Which phrases a token begins. -/
import Derived.Test.YtbcmpacmoofdkaaGreatDoorProg
import Derived.Test.YtbcmpacmoofdkaaGreatDoorTree7
import Derived.WalkKit
import Derived.ProofKit
import Derived.OpenShut
import Derived.Below
import Derived.WalkLawsBesides
import Derived.OwnWalk
import Derived.BigQuiet
import Derived.Deep.MidRow
import Derived.Deep.RegionHeld
import Derived.Deep.RegionHeld3
import Derived.Deep.DeepCutAuto
import Derived.WalkSmall
namespace Go.Proofs.YtbcmpacmoofdkaaGreatDoor
open Go.ChangeShapes Go.WideShapes Go.ChangeAt Go.RowKit

abbrev Fix := Bool × Int × Bool
def fixV (f : Fix) : Value := .agg #[.bool f.1, .int .i64 f.2.1, .bool f.2.2]
/-- What names are in the parser's scope, whatever its calls leave. -/
def Fnd (b : Nat) (w : World) (sc : Value) (fx : List UInt8 → Fix) : Prop := ∀ (z : ByteArray), z.size ≤ 1048576 → ∀ (W : World), Rel b w W → Calls Tryz.prog 201 #[sc, .string z] W fun e w' => e = .returned (fixV (fx z.data.toList)) ∧ Below W.heap.size W w'
theorem Fnd.rel {b : Nat} {w w' : World} {sc : Value} {fx : List UInt8 → Fix} (h : Fnd b w sc fx) (r : Rel b w w') : Fnd b w' sc fx := fun z hz W g => h z hz W (r.trans g)
def isNm (t : ITk) : Bool := (t.kind == 2) && (t.path.length == 0)
def isSt (t : ITk) : Bool := isNm t && (t.text == [42])
def isIx (fx : List UInt8 → Fix) (t : ITk) : Bool := isNm t && (fx t.text).1

set_option maxRecDepth 100000 in
set_option maxHeartbeats 8000000 in
theorem isName_any (t : ITk) (w : World) : Calls Tryz.prog 177 #[t.val] w fun e w' => e = .returned (.bool (isNm t)) ∧ Below w.heap.size w w' := by
  obtain ⟨tk, tt, tp, tx, ty, po, pc, tl⟩ := t
  unfold ITk.val ITk.pv isNm
  simp only
  generalize tp.length = PL at *
  generalize ByteArray.mk tt.toArray = z at *
  by_cases h1 : tk = 2
  · subst h1
    by_cases h2 : PL = 0
    · subst h2
      go_enter Tryz.func177, Tryz.ntmps177
      go_wp2
      go_ret
      exact ⟨rfl, (Below.refl _ _).alloc (Nat.le_refl _) _⟩
    · have g2 : ((PL : Int) == 0) = false := by simp; omega
      have g3 : (PL == 0) = false := by simpa using h2
      rw [g3]
      go_enter Tryz.func177, Tryz.ntmps177
      go_wp2
      go_ret
      exact ⟨rfl, (Below.refl _ _).alloc (Nat.le_refl _) _⟩
  · have g1 : (tk == 2) = false := by simpa using h1
    rw [g1, Bool.false_and]
    go_enter Tryz.func177, Tryz.ntmps177
    go_wp2
    go_ret
    exact ⟨rfl, (Below.refl _ _).alloc (Nat.le_refl _) _⟩

set_option maxRecDepth 100000 in
set_option maxHeartbeats 8000000 in
theorem isStar_any (t : ITk) (w : World) : Calls Tryz.prog 178 #[t.val] w fun e w' => e = .returned (.bool (isSt t)) ∧ Below w.heap.size w w' := by
  have CN := hide' (fun W => isName_any t W)
  unfold isSt
  generalize isNm t = nb at *
  obtain ⟨tk, tt, tp, tx, ty, po, pc, tl⟩ := t
  unfold ITk.val ITk.pv at CN ⊢
  simp only at CN ⊢
  generalize tp.length = PL at *
  have HE := hide' (str_eq tt ⟨#[42]⟩)
  generalize ByteArray.mk tt.toArray = z at *
  have e0 : (ByteArray.mk #[42]).data.toList = [42] := rfl
  rw [e0] at HE
  obtain ⟨tb, htb⟩ : ∃ tb, (tt == [42]) = tb := ⟨_, rfl⟩
  rw [htb] at HE ⊢
  clear htb e0
  obtain ⟨W0, hW0⟩ : ∃ W0, w.alloc (.cells #[.int .i64 tk, .string z, .slice po PL pc, .int .i64 tx, .int .i64 ty] 72) = W0 := ⟨_, rfl⟩
  have F0 := five_new w (.int .i64 tk) (.string z) (.slice po PL pc) (.int .i64 tx) (.int .i64 ty) 72
  have B0 : Below w.heap.size w (w.alloc (.cells #[.int .i64 tk, .string z, .slice po PL pc, .int .i64 tx, .int .i64 ty] 72)) := (Below.refl _ _).alloc (Nat.le_refl _) _
  have S0 : W0.heap.size = w.heap.size + 1 := by rw [← hW0]; simp
  rw [hW0] at F0 B0
  have HF0 := hide' F0
  obtain ⟨t0, t1, t2, t3, t4, _, _, _, _, _⟩ := F0
  have ARM := CN
  cases nb
  · go_enter Tryz.func178, Tryz.ntmps178
    go_upto_region 1 with fail
    try rw [hW0]
    clear hW0
    go_wp2_with (go_at_call 177; refine (CN.out _).mono ?_; rintro e w1 ⟨rfl, b1⟩)
    go_ret
    exact ⟨rfl, B0.trans (b1.mono (by omega))⟩
  · go_enter Tryz.func178, Tryz.ntmps178
    go_upto_region 1 with fail
    try rw [hW0]
    clear hW0
    go_wp2_with (go_at_call 177; refine (CN.out _).mono ?_; rintro e w1 ⟨rfl, b1⟩; (have F1 := HF0.out.below b1 (by omega)); (have k1 := F1.c1))
    go_ret
    refine ⟨?_, B0.trans (b1.mono (by omega))⟩
    have := HE.out
    simp_all

set_option maxRecDepth 100000 in
set_option maxHeartbeats 8000000 in
theorem isInfix_any (b : Nat) (tv : Value) (toks : List ITk) (at' op : Nat) (so : Option Addr) (nv dv : Value) (fx : List UInt8 → Fix) (t : ITk) (w : World) (h : PS b w tv toks at' op (.pointer so) nv dv) (hf : Fnd b w (.pointer so) fx) (hn : isNm t = true) :
    Calls Tryz.prog 179 #[.pointer (some ⟨b, 0, none⟩), t.val] w fun e w' => e = .returned (.bool (fx t.text).1) ∧ Below w.heap.size w w' := by
  have CN := hide' (fun W => isName_any t W)
  have hold := h.old
  rw [hn] at CN
  clear hn
  obtain ⟨tk, tt, tp, tx, ty, po, pc, tl⟩ := t
  unfold ITk.val ITk.pv at CN ⊢
  simp only at CN ⊢
  generalize tp.length = PL at *
  have CF := hide' (fun W (r : Rel b w W) => hf ⟨tt.toArray⟩ (by simpa [ByteArray.size] using tl) W r)
  have e0 : (ByteArray.mk tt.toArray).data.toList = tt := rfl
  rw [e0] at CF
  generalize ByteArray.mk tt.toArray = z at *
  obtain ⟨⟨fi, fl, fr⟩, hfx⟩ : ∃ f, fx tt = f := ⟨_, rfl⟩
  rw [hfx] at CF ⊢
  unfold fixV at CF
  simp only at CF ⊢
  have hfd : ∀ W, (Instr.field 114 (.agg #[.bool fi, .int .i64 fl, .bool fr]) 0).run Tryz.prog W = .ok (.bool fi) W := fun W => by kernel_rfl
  clear hfx e0
  obtain ⟨W0, hW0⟩ : ∃ W0, w.alloc (.cells #[.int .i64 tk, .string z, .slice po PL pc, .int .i64 tx, .int .i64 ty] 72) = W0 := ⟨_, rfl⟩
  have F0 := five_new w (.int .i64 tk) (.string z) (.slice po PL pc) (.int .i64 tx) (.int .i64 ty) 72
  have B0 : Below w.heap.size w (w.alloc (.cells #[.int .i64 tk, .string z, .slice po PL pc, .int .i64 tx, .int .i64 ty] 72)) := (Below.refl _ _).alloc (Nat.le_refl _) _
  have S0 : W0.heap.size = w.heap.size + 1 := by rw [← hW0]; simp
  rw [hW0] at F0 B0
  have HF0 := hide' F0
  have HB0 := hide' B0
  have P0 := h.below B0 hold
  have c3 := P0.c3
  have hws : w.heap.size < W0.heap.size := by omega
  have hbs : b < W0.heap.size := by omega
  obtain ⟨t0, t1, t2, t3, t4, _, _, _, _, _⟩ := F0
  clear h hf P0 B0
  · go_enter Tryz.func179, Tryz.ntmps179
    go_upto_region 1 with fail
    try rw [hW0]
    clear hW0
    go_region_held3 (fun w' => w'.cell? ⟨b, 3, none⟩ = some (.pointer so) ∧ w'.cell? ⟨w.heap.size, 0, none⟩ = some (.int .i64 tk) ∧ w'.cell? ⟨w.heap.size, 1, none⟩ = some (.string z) ∧ w'.cell? ⟨w.heap.size, 2, none⟩ = some (.slice po PL pc) ∧ w'.cell? ⟨w.heap.size, 3, none⟩ = some (.int .i64 tx) ∧ w'.cell? ⟨w.heap.size, 4, none⟩ = some (.int .i64 ty)) (go_keep) (first
      | (go_at_call 177; refine (CN.out _).mono ?_; rintro e w1 ⟨rfl, b1⟩; have n3 := (b1.cell (p := ⟨b, 3, none⟩) (show b < _ from hbs)).trans c3; have m0 := (b1.cell (p := ⟨w.heap.size, 0, none⟩) (show w.heap.size < _ from hws)).trans t0; have m1 := (b1.cell (p := ⟨w.heap.size, 1, none⟩) (show w.heap.size < _ from hws)).trans t1; have m2 := (b1.cell (p := ⟨w.heap.size, 2, none⟩) (show w.heap.size < _ from hws)).trans t2; have m3 := (b1.cell (p := ⟨w.heap.size, 3, none⟩) (show w.heap.size < _ from hws)).trans t3; have m4 := (b1.cell (p := ⟨w.heap.size, 4, none⟩) (show w.heap.size < _ from hws)).trans t4; (have B1 : Below w.heap.size w w1 := HB0.out.trans (((Below.refl _ _).drew.trans b1).mono (Nat.le_of_lt hws))); (have hs1 : W0.heap.size ≤ w1.heap.size := b1.size))
      | (go_at_call 201; refine (CF.out _ (Rel.of B1 hold)).mono ?_; rintro e w2 ⟨rfl, b2⟩; have p3 := (b2.cell (p := ⟨b, 3, none⟩) (show b < _ by omega)).trans n3; have q0 := (b2.cell (p := ⟨w.heap.size, 0, none⟩) (show w.heap.size < _ by omega)).trans m0; have q1 := (b2.cell (p := ⟨w.heap.size, 1, none⟩) (show w.heap.size < _ by omega)).trans m1; have q2 := (b2.cell (p := ⟨w.heap.size, 2, none⟩) (show w.heap.size < _ by omega)).trans m2; have q3 := (b2.cell (p := ⟨w.heap.size, 3, none⟩) (show w.heap.size < _ by omega)).trans m3; have q4 := (b2.cell (p := ⟨w.heap.size, 4, none⟩) (show w.heap.size < _ by omega)).trans m4))
    go_wp2
    go_ret
    exact ⟨rfl, B1.trans (b2.mono (by omega))⟩

/-- The bits of a name's phrases. -/
def bnN (fx : List UInt8 → Fix) (t : ITk) : Nat := if (fx t.text).1 then (if isSt t then 12 else 28) else (if isSt t then 108 else 124)

set_option maxRecDepth 100000 in
set_option maxHeartbeats 8000000 in
theorem begunByName_any (b : Nat) (tv : Value) (toks : List ITk) (at' op : Nat) (so : Option Addr) (nv dv : Value) (fx : List UInt8 → Fix) (t : ITk) (w : World) (h : PS b w tv toks at' op (.pointer so) nv dv) (hf : Fnd b w (.pointer so) fx) (hn : isNm t = true) :
    Calls Tryz.prog 156 #[.pointer (some ⟨b, 0, none⟩), t.val] w fun e w' => e = .returned (.int .u8 (bnN fx t : Nat)) ∧ Below w.heap.size w w' := by
  have hold := h.old
  have CN := hide' (fun W => isName_any t W)
  rw [hn] at CN
  have CS := hide' (fun W => isStar_any t W)
  have CI := hide' (fun W (g : Below w.heap.size w W) => isInfix_any b tv toks at' op so nv dv fx t W (h.below g hold) (hf.rel (Rel.of g hold)) hn)
  unfold bnN
  generalize isSt t = sb at *
  generalize (fx t.text).1 = ib at *
  obtain ⟨tk, tt, tp, tx, ty, po, pc, tl⟩ := t
  unfold ITk.val ITk.pv at CN CS CI ⊢
  simp only at CN CS CI ⊢
  generalize tp.length = PL at *
  generalize ByteArray.mk tt.toArray = z at *
  obtain ⟨W0, hW0⟩ : ∃ W0, w.alloc (.cells #[.int .i64 tk, .string z, .slice po PL pc, .int .i64 tx, .int .i64 ty] 72) = W0 := ⟨_, rfl⟩
  have F0 := five_new w (.int .i64 tk) (.string z) (.slice po PL pc) (.int .i64 tx) (.int .i64 ty) 72
  have B0 : Below w.heap.size w (w.alloc (.cells #[.int .i64 tk, .string z, .slice po PL pc, .int .i64 tx, .int .i64 ty] 72)) := (Below.refl _ _).alloc (Nat.le_refl _) _
  have S0 : W0.heap.size = w.heap.size + 1 := by rw [← hW0]; simp
  rw [hW0] at F0 B0
  have HF0 := hide' F0
  have HB0 := hide' B0
  have bc := Below.refl W0.heap.size W0
  obtain ⟨t0, t1, t2, t3, t4, _, _, _, _, _⟩ := F0
  clear h hf hn B0
  cases sb <;> cases ib
  all_goals (
    go_enter Tryz.func156, Tryz.ntmps156
    go_upto_region 1 with fail
    try rw [hW0]
    clear hW0
    go_upto_region 4 with (go_at_call 177; refine (CN.out _).mono ?_; clear CN; rintro e w1 ⟨rfl, b1⟩)
    clear t0 t1 t2 t3 t4
    obtain ⟨t0, t1, t2, t3, t4, _, _, _, _, _⟩ := HF0.out.below b1 (by omega)
    go_upto_region 6 with (go_at_call 178; refine (CS.out _).mono ?_; clear CS; rintro e w2 ⟨rfl, b2⟩)
    have B2 : Below W0.heap.size W0 w2 := b1.trans (b2.mono b1.size)
    clear t0 t1 t2 t3 t4
    obtain ⟨t0, t1, t2, t3, t4, _, _, _, _, _⟩ := HF0.out.below B2 (by omega)
    have BW2 := HB0.out.trans (B2.mono (by omega))
    go_wp2_with (go_at_call 179; refine (CI.out _ BW2).mono ?_; clear CI; rintro e w3 ⟨rfl, b3⟩)
    go_ret
    exact ⟨rfl, BW2.trans (b3.mono BW2.size)⟩)

set_option maxRecDepth 100000 in
set_option maxHeartbeats 8000000 in
theorem word_val (w : World) : Calls Tryz.prog 155 #[.string ⟨#[118, 97, 108]⟩] w fun e w' => e = .returned (.int .u8 3) ∧ Below w.heap.size w w' := by
  go_enter Tryz.func155, Tryz.ntmps155
  go_wp2
  go_ret
  exact ⟨rfl, Below.refl _ _⟩

set_option maxRecDepth 100000 in
set_option maxHeartbeats 8000000 in
theorem word_eq (w : World) : Calls Tryz.prog 155 #[.string ⟨#[61]⟩] w fun e w' => e = .returned (.int .u8 0) ∧ Below w.heap.size w w' := by
  go_enter Tryz.func155, Tryz.ntmps155
  go_wp2
  go_ret
  exact ⟨rfl, Below.refl _ _⟩
end Go.Proofs.YtbcmpacmoofdkaaGreatDoor
