/- Writers of types: a strings.Builder within a struct; put. -/
import Derived.Test.YtlijfkmcaccflaaGreatDoorProg
import Derived.Test.YtlijfkmcaccflaaGreatDoorTy16
import Derived.WalkKit
import Derived.ProofKit
import Derived.OpenShut
import Derived.Below
import Derived.WalkLawsBesides
import Derived.OwnWalk
import Derived.Laws.OwnMore
import Derived.Laws.Externs
import Derived.Lib.Builder
import Derived.Lib.AppendStr
import Derived.Lib.UnsafeStr
import Derived.BigQuiet
import Derived.WalkSmall
import Derived.Deep.DeepCutAuto
namespace Go.Proofs.YtlijfkmcaccflaaGreatDoor
open Go.ChangeShapes Go.WideShapes Go.ChangeAt Go.RowKit

/-- A writer: its block W; what its builder holds. -/
structure Wr (W b F : Nat) (w : World) (ad bv : Value) (l : List UInt8) : Prop where
  blk : ∃ nv mv, w.heap[W]? = some (.cells #[.pointer (some ⟨b, 0, none⟩), nv, mv, ad, bv, .bool false] 96 (0, 0))
  ads : ad = .pointer none ∨ ad = .pointer (some ⟨W, 3, none⟩)
  row : w.ownsRow F 5 1 bv l.length (Lib.byteCells l)
  sm : l.length ≤ 1000
  wf : W < F
  fh : F ≤ w.heap.size
theorem Wr.old {W b F : Nat} {w : World} {ad bv : Value} {l : List UInt8} (h : Wr W b F w ad bv l) : W < w.heap.size := by
  obtain ⟨nv, mv, hbk⟩ := h.blk
  rcases Nat.lt_or_ge W w.heap.size with h' | h'
  · exact h'
  · simp [Array.getElem?_eq_none h'] at hbk
theorem Wr.below {W b F : Nat} {w w' : World} {ad bv : Value} {l : List UInt8} (h : Wr W b F w ad bv l) (g : Below w.heap.size w w') : Wr W b F w' ad bv l := by
  obtain ⟨nv, mv, hbk⟩ := h.blk
  exact ⟨⟨nv, mv, (g.block W h.old).trans hbk⟩, h.ads, row_keep h.row fun k hk => g.block k (h.row.lt k hk).2, h.sm, h.wf, Nat.le_trans h.fh g.size⟩
theorem Wr.cell {W b F : Nat} {w : World} {ad bv : Value} {l : List UInt8} (h : Wr W b F w ad bv l) : w.cell? ⟨W, 0, none⟩ = some (.pointer (some ⟨b, 0, none⟩)) ∧ w.cell? ⟨W, 3, none⟩ = some ad ∧ w.cell? ⟨W, 4, none⟩ = some bv ∧ w.cell? ⟨W, 5, none⟩ = some (.bool false) := by
  obtain ⟨nv, mv, hbk⟩ := h.blk
  exact ⟨by rw [Lib.cell_of_heap hbk]; rfl, by rw [Lib.cell_of_heap hbk]; rfl, by rw [Lib.cell_of_heap hbk]; rfl, by rw [Lib.cell_of_heap hbk]; rfl⟩
theorem Wr.frozen {W b F : Nat} {w : World} {ad bv : Value} {l : List UInt8} (h : Wr W b F w ad bv l) (j : Nat) : w.frozen? ⟨W, j, none⟩ = false := by
  obtain ⟨nv, mv, hbk⟩ := h.blk
  exact Lib.frozen_of_heap hbk j
theorem Wr.shape {W b F : Nat} {w : World} {ad bv : Value} {l : List UInt8} (h : Wr W b F w ad bv l) : w.shape? W = some (96, 6) := by
  obtain ⟨nv, mv, hbk⟩ := h.blk
  simp [World.shape?, hbk]
theorem Wr.apart {W b F : Nat} {w : World} {ad bv : Value} {l : List UInt8} (h : Wr W b F w ad bv l) : bv.ownBlock ≠ some W := fun e => by have := (h.row.lt W e).1; have := h.wf; omega
/-- What a call of a writer leaves as it was. -/
structure Wrel (W : Nat) (bv : Value) (w w' : World) : Prop where
  os : w'.os = w.os
  tape : w'.tape = w.tape
  output : w'.output = w.output
  size : w.heap.size ≤ w'.heap.size
  rest : ∀ k, k < w.heap.size → k ≠ W → bv.ownBlock ≠ some k → w'.heap[k]? = w.heap[k]?
/-- The same, of blocks below F alone. -/
structure Wkp (W F : Nat) (w w' : World) : Prop where
  os : w'.os = w.os
  tape : w'.tape = w.tape
  output : w'.output = w.output
  size : w.heap.size ≤ w'.heap.size
  rest : ∀ k, k < F → k ≠ W → w'.heap[k]? = w.heap[k]?
theorem Wkp.trans {W F : Nat} {w w1 w2 : World} (h : Wkp W F w w1) (g : Wkp W F w1 w2) : Wkp W F w w2 := ⟨g.os.trans h.os, g.tape.trans h.tape, g.output.trans h.output, Nat.le_trans h.size g.size, fun k h1 h2 => (g.rest k h1 h2).trans (h.rest k h1 h2)⟩
theorem Wkp.of {W F : Nat} {w w1 : World} (h : Below F w w1) : Wkp W F w w1 := ⟨h.os, h.tape, h.output, h.size, fun k h1 _ => h.block k h1⟩
theorem Wkp.below {W F : Nat} {w w1 : World} (h : Wkp W F w w1) (hw : W ≤ F) : Below W w w1 := ⟨h.os, h.tape, h.output, h.size, fun k hk => h.rest k (by omega) (by omega)⟩
theorem Wkp.mono {W F F' : Nat} {w w1 : World} (h : Wkp W F w w1) (hw : F' ≤ F) : Wkp W F' w w1 := ⟨h.os, h.tape, h.output, h.size, fun k hk => h.rest k (by omega)⟩
theorem Wrel.kp {W b F : Nat} {w w' : World} {ad bv : Value} {l : List UInt8} (h : Wr W b F w ad bv l) (g : Wrel W bv w w') : Wkp W F w w' := ⟨g.os, g.tape, g.output, g.size, fun k h1 h2 => g.rest k (by have := h.fh; omega) h2 (fun e => by have := (h.row.lt k e).1; omega)⟩
theorem bytes_app (l : List UInt8) (s : ByteArray) : Lib.byteCells (l ++ s.data.toList) = Lib.byteCells l ++ Lib.strCells s := by simp [Lib.byteCells, Lib.strCells]
theorem len_app (l : List UInt8) (s : ByteArray) : (l ++ s.data.toList).length = l.length + s.size := by
  rw [List.length_append, Array.length_toList]
  rfl
theorem sizeBuilder : (Tryz.prog.info? 94).map (·.size) = some 2 := by kernel_rfl
theorem liesBuilder : liesAt Tryz.prog Tryz.prog.depth 96 (6 / Tryz.prog.cellsOf 96) 3 94 1 = true := by kernel_rfl
theorem infoByte : (Tryz.prog.info? 5).map (fun i => (i.zero, i.size, i.bytes)) = some (some (.int .u8 0), 1, 1) := by kernel_rfl

set_option maxHeartbeats 1000000 in
set_option maxRecDepth 100000 in
theorem check_used (W : Nat) (w : World) (h0 : w.cell? ⟨W, 3, none⟩ = some (.pointer (some ⟨W, 3, none⟩))) :
    Calls Tryz.prog 98 #[.pointer (some ⟨W, 3, none⟩)] w fun e w' => e = .returned (.tuple #[]) ∧ w' = w := by
  obtain ⟨j, hj, _⟩ := Option.map_eq_some_iff.1 sizeBuilder
  go_enter Tryz.func98, Tryz.ntmps98
  go_wp2
  rw [Lib.run_neq_ptr_same w _ Tryz.underlying91 hj]
  go_wp2
  go_end0
  exact ⟨rfl, rfl⟩

set_option maxHeartbeats 1000000 in
set_option maxRecDepth 100000 in
theorem check_fresh (W : Nat) (w : World) (h0 : w.cell? ⟨W, 3, none⟩ = some (.pointer none)) (hsh : w.shape? W = some (96, 6)) (hfz : w.frozen? ⟨W, 3, none⟩ = false) :
    Calls Tryz.prog 98 #[.pointer (some ⟨W, 3, none⟩)] w fun e w' => e = .returned (.tuple #[]) ∧ w' = w.setCell ⟨W, 3, none⟩ (.pointer (some ⟨W, 3, none⟩)) := by
  obtain ⟨j, hj, hjs⟩ := Option.map_eq_some_iff.1 sizeBuilder
  go_enter Tryz.func98, Tryz.ntmps98
  go_wp2
  rw [Lib.run_to_unsafe w ⟨W, 3, none⟩ Tryz.underlying91 Tryz.underlying169 hj (by rw [hjs]; decide) hsh (by show 3 < 6; decide)]
  simp only [Result.andThen]
  rw [Oper.upon_value]
  go_wp2
  rw [run_callFunc_extern Tryz.func111 (by kernel_rfl) (by kernel_rfl) (by kernel_rfl) (e := Extern.AbiNoEscape.same) (by kernel_rfl)]
  rw [Lib.run_noEscape]
  simp only [Result.andThen]
  rw [Oper.upon_value]
  go_wp2
  rw [Lib.run_from_unsafe w ⟨W, 3, none⟩ Tryz.underlying169 Tryz.underlying91 hj hsh liesBuilder]
  simp only [Result.andThen]
  rw [Oper.upon_value]
  go_wp2
  go_end0
  exact ⟨rfl, rfl⟩

theorem check_any (W b F : Nat) (ad bv : Value) (l : List UInt8) (w : World) (h : Wr W b F w ad bv l) :
    Calls Tryz.prog 98 #[.pointer (some ⟨W, 3, none⟩)] w fun e w' => e = .returned (.tuple #[]) ∧ Wr W b F w' (.pointer (some ⟨W, 3, none⟩)) bv l ∧ Wrel W bv w w' := by
  rcases h.ads with e | e
  · subst e
    refine (check_fresh W w h.cell.2.1 h.shape (h.frozen 3)).mono ?_
    rintro e w' ⟨rfl, rfl⟩
    obtain ⟨nv, mv, hbk⟩ := h.blk
    refine ⟨rfl, ⟨⟨nv, mv, ?_⟩, .inr rfl, ownsRow_setCell_below h.row (a := ⟨W, 3, none⟩) h.wf _, h.sm, h.wf, by simpa using h.fh⟩, ⟨rfl, rfl, rfl, by simp, fun k _ h2 _ => Below.heap_setCell _ _ _ _ (by show k ≠ W; exact h2)⟩⟩
    exact heap_setCell_same w W 3 _ _ _ hbk
  · subst e
    refine (check_used W w h.cell.2.1).mono ?_
    rintro e w' ⟨rfl, rfl⟩
    exact ⟨rfl, h, ⟨rfl, rfl, rfl, Nat.le_refl _, fun _ _ _ _ => rfl⟩⟩

set_option maxHeartbeats 2000000 in
set_option maxRecDepth 100000 in
theorem write_any (W b F : Nat) (ad bv : Value) (l : List UInt8) (s : ByteArray) (w : World) (h : Wr W b F w ad bv l) (hlen : l.length + s.size ≤ 1000) :
    Calls Tryz.prog 84 #[.pointer (some ⟨W, 3, none⟩), .string s] w fun e w' => e = .returned (.tuple #[.int .i64 s.size, .nilIface]) ∧ (∃ ad' bv', Wr W b F w' ad' bv' (l ++ s.data.toList)) ∧ Wrel W bv w w' := by
  obtain ⟨i0, hi, hz0, hz1, hz2⟩ := info_parts infoByte
  go_enter Tryz.func84, Tryz.ntmps84
  go_wp2_with (go_at_call 98; refine (check_any W b F ad bv l _ h).mono ?_)
  rintro e w1 ⟨rfl, h1, hb1⟩
  have hW1 := h1.old
  have c1 := h1.cell.2.2.1
  have f1 := h1.frozen 4
  have hown := h1.row
  go_wp2_with (at_builtin; refine Lib.wpList_append_own_string _ rfl _ _ 92 9 rfl F 5 i0 Tryz.underlying92 Tryz.underlying9 hi hz0 hz1 hz2 _ _ _ rfl hown s rfl ?c3 ?c4 ?c5 ?_)
  case c3 => unfold maxLen; omega
  case c4 => omega
  case c5 => exact h1.fh
  intro v' w2 hown' hgrow _
  obtain ⟨nv, mv, hbk⟩ := h1.blk
  have hb2 : w2.heap[W]? = some (.cells #[.pointer (some ⟨b, 0, none⟩), nv, mv, .pointer (some ⟨W, 3, none⟩), bv, .bool false] 96 (0, 0)) := by
    rw [hgrow.block W hW1 (fun e => h1.apart e.symm)]
    exact hbk
  have d1 : w2.cell? ⟨W, 4, none⟩ = some bv := by rw [Lib.cell_of_heap hb2]; rfl
  have g1 : w2.frozen? ⟨W, 4, none⟩ = false := Lib.frozen_of_heap hb2 4
  obtain ⟨ao, n', cap, rfl⟩ : ∃ ao n' cap, v' = .slice ao n' cap := by
    rcases hown'.2 with ⟨hv, _⟩ | ⟨g, cap, cur, hv, _⟩
    · exact ⟨_, _, _, hv⟩
    · exact ⟨_, _, _, hv⟩
  go_wp2
  go_ret2
  have eb := bytes_app l s
  have el := len_app l s
  refine ⟨rfl, ⟨_, _, ⟨⟨nv, mv, heap_setCell_same w2 W 4 _ _ _ hb2⟩, .inr rfl, ?_, by rw [el]; exact hlen, h.wf, by have := h1.fh; have := hgrow.size; simp; omega⟩⟩, ?_⟩
  · rw [eb, el]
    exact ownsRow_setCell_below hown' (a := ⟨W, 4, none⟩) h.wf _
  · exact ⟨hgrow.os.trans hb1.os, hgrow.tape.trans hb1.tape, hgrow.output.trans hb1.output, by have := hgrow.size; have := hb1.size; simp; omega, fun k h1' h2 h3 => (Below.heap_setCell _ _ _ _ (by show k ≠ W; exact h2)).trans ((hgrow.block k (by have := hb1.size; omega) (fun e => h3 e.symm)).trans (hb1.rest k h1' h2 h3))⟩

set_option maxHeartbeats 2000000 in
set_option maxRecDepth 100000 in
theorem len_any (W b F : Nat) (ad bv : Value) (l : List UInt8) (w : World) (h : Wr W b F w ad bv l) :
    Calls Tryz.prog 83 #[.pointer (some ⟨W, 3, none⟩)] w fun e w' => e = .returned (.int .i64 (l.length : Int)) ∧ w' = w := by
  have c1 := h.cell.2.2.1
  obtain ⟨ao, cap, hv⟩ := own_some h.row
  rw [hv] at c1
  generalize l.length = L at *
  clear h hv
  go_enter Tryz.func83, Tryz.ntmps83
  go_wp2
  go_ret
  simp

set_option maxHeartbeats 2000000 in
set_option maxRecDepth 100000 in
theorem string_any (W b F : Nat) (ad bv : Value) (l : List UInt8) (w : World) (h : Wr W b F w ad bv l) (h0 : l ≠ []) :
    Calls Tryz.prog 45 #[.pointer (some ⟨W, 3, none⟩)] w fun e w' => e = .returned (.string ⟨l.toArray⟩) ∧ Below W w w' := by
  have hl0 : l.length ≠ 0 := by simpa using h0
  have hown := h.row
  obtain ⟨g, cap, cur, hv, hbg, hg, hnc, hcm, hcs, htake⟩ : ∃ g cap cur, bv = .slice (some ⟨g, 0, none⟩) l.length cap ∧ F ≤ g ∧ w.heap[g]? = some (.cells cur 5 (0, 0)) ∧ l.length ≤ cap ∧ cap ≤ maxLen ∧ cur.size = cap * 1 ∧ cur.toList.take (l.length * 1) = Lib.byteCells l := by
    rcases hown.2 with ⟨_, hz⟩ | ⟨g, cap, cur, hv, r⟩
    · exact absurd hz hl0
    · exact ⟨g, cap, cur, hv, r⟩
  have c1 : w.drew.cell? ⟨W, 4, none⟩ = some (.slice (some ⟨g, 0, none⟩) l.length cap) := by rw [← hv]; exact h.cell.2.2.1
  have c0 : w.cell? ⟨W, 4, none⟩ = some (.slice (some ⟨g, 0, none⟩) l.length cap) := c1
  have hSD : (Builtin.unsafeSliceData_ #[92] 126 #[.slice (some ⟨g, 0, none⟩) l.length cap]).run Tryz.prog w.drew = .ok (.pointer (some ⟨g, 0, none⟩)) w.drew :=
    Lib.run_unsafeSliceData_row _ _ _ _ _ _ (by omega)
  have hUS : (Builtin.unsafeString_ #[126, 3] 9 #[.pointer (some ⟨g, 0, none⟩), .int .i64 l.length]).run Tryz.prog w.drew = .ok (.string ⟨l.toArray⟩) (w.drew.freeze ⟨g, 0, none⟩ l.length) := by
    refine Lib.run_unsafeString_row w.drew 126 3 9 5 Tryz.underlying126 (by kernel_rfl) g cur.size (by have hg' : w.drew.heap[g]? = some (.cells cur 5 (0, 0)) := hg; simp [World.shape?, hg']) l h0 (by omega) (by unfold maxLen at hcm; omega) ?_
    intro j x hx
    rw [hv] at hown
    have := hown.cells (g := g) rfl j (.int .u8 x.toNat) (by simp [Lib.byteCells, hx])
    exact this
  have hbgW : W ≤ g := by have := h.wf; omega
  generalize l.length = L at *
  clear h hv hown hg hnc hcm hcs htake h0 hl0 hbg
  go_enter Tryz.func45, Tryz.ntmps45
  go_wp2
  go_region
  all_goals (go_wp2; go_ret; exact ⟨rfl, Lib.below_freeze (Below.drew (Below.refl W w)) (p := ⟨g, 0, none⟩) hbgW _⟩)
end Go.Proofs.YtlijfkmcaccflaaGreatDoor
