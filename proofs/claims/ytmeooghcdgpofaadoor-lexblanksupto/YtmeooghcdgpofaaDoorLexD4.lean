/- The program's scanner: tokens that are cut off. -/
import Derived.Test.YtmeooghcdgpofaaDoorProg
import Derived.Test.YtmeooghcdgpofaaDoorLexD2
import Derived.Test.YtmeooghcdgpofaaDoorShelf
import Derived.WalkKit
import Derived.ProofKit
import Derived.OpenShut
import Derived.Below
import Derived.WalkLawsBesides
import Derived.OwnWalk
import Derived.BigQuiet
import Derived.Lib.IndexBytes
import Derived.Deep.MidRow
namespace Go.Proofs.YtmeooghcdgpofaaDoor
open Go.ChangeShapes Go.WideShapes Go.ChangeAt Go.RowKit

theorem clone_any (s : ByteArray) (w : World) (hs : s.size ≤ 281474976710656) : Calls Tryd.prog 42 #[.string s] w fun e w' => e = .returned (.string s) ∧ Below w.heap.size w w' := by
  go_enter Tryd.func42, Tryd.ntmps42
  go_wp2_with (go_at_call 53; refine (Tryd.stringslite_Clone _ _ hs).mono ?_; rintro e w1 ⟨rfl, g1⟩)
  go_ret
  exact ⟨rfl, g1⟩

/-- A token as a value; its path is a row in memory. -/
def tokV (k : Nat) (t : List UInt8) (v : Value) (x y : Nat) : Value := .agg #[.int .i64 (k : Int), .string ⟨t.toArray⟩, v, .int .i64 (x : Int), .int .i64 (y : Int)]
/-- What a reader answers that makes no path. -/
def Gives (r : Rd) (e : Ending) : Prop := match r with
  | .bad n => e = .returned (.tuple #[tokV 0 [] (.slice none 0 0) 0 0, .int .i64 0, .int .i64 (n : Int)])
  | .got k t _ n => e = .returned (.tuple #[tokV k t (.slice none 0 0) 0 0, .int .i64 (n : Int), .int .i64 0])
theorem ext_take (s : ByteArray) (n : Nat) : s.extract 0 n = ⟨(s.data.toList.take n).toArray⟩ := by
  apply ByteArray.ext
  rw [ByteArray.data_extract]
  apply Array.ext'
  simp
/-- The five cells of a token that was laid ahead of a call. -/
theorem cell5 {w w1 : World} {c0 c1 c2 c3 c4 : Value} {t : TypeId} (h : Below (w.alloc (.cells #[c0, c1, c2, c3, c4] t)).heap.size (w.alloc (.cells #[c0, c1, c2, c3, c4] t)) w1) :
    (w1.cell? ⟨w.heap.size, 0, none⟩ = some c0 ∧ w1.cell? ⟨w.heap.size, 1, none⟩ = some c1 ∧ w1.cell? ⟨w.heap.size, 2, none⟩ = some c2 ∧ w1.cell? ⟨w.heap.size, 3, none⟩ = some c3 ∧ w1.cell? ⟨w.heap.size, 4, none⟩ = some c4)
    ∧ (w1.frozen? ⟨w.heap.size, 0, none⟩ = false ∧ w1.frozen? ⟨w.heap.size, 1, none⟩ = false ∧ w1.frozen? ⟨w.heap.size, 2, none⟩ = false ∧ w1.frozen? ⟨w.heap.size, 3, none⟩ = false ∧ w1.frozen? ⟨w.heap.size, 4, none⟩ = false)
    ∧ Below w.heap.size w w1 ∧ w.heap.size < w1.heap.size := by
  have hs : w.heap.size < (w.alloc (.cells #[c0, c1, c2, c3, c4] t)).heap.size := by simp
  refine ⟨⟨?_, ?_, ?_, ?_, ?_⟩, ⟨?_, ?_, ?_, ?_, ?_⟩, ?_, ?_⟩
  · rw [h.cell (p := ⟨w.heap.size, 0, none⟩) hs]; simp
  · rw [h.cell (p := ⟨w.heap.size, 1, none⟩) hs]; simp
  · rw [h.cell (p := ⟨w.heap.size, 2, none⟩) hs]; simp
  · rw [h.cell (p := ⟨w.heap.size, 3, none⟩) hs]; simp
  · rw [h.cell (p := ⟨w.heap.size, 4, none⟩) hs]; simp
  · rw [h.frozen (p := ⟨w.heap.size, 0, none⟩) hs]; simp
  · rw [h.frozen (p := ⟨w.heap.size, 1, none⟩) hs]; simp
  · rw [h.frozen (p := ⟨w.heap.size, 2, none⟩) hs]; simp
  · rw [h.frozen (p := ⟨w.heap.size, 3, none⟩) hs]; simp
  · rw [h.frozen (p := ⟨w.heap.size, 4, none⟩) hs]; simp
  · exact ((Below.refl _ _).alloc (Nat.le_refl _) _).trans (h.mono (Nat.le_of_lt hs))
  · exact Nat.lt_of_lt_of_le hs h.size

theorem results_tok {fn : Func} {p u v : Tmp} {ty : TypeId} (h : fn.results = #[.cell p ty, .tmp u, .tmp v]) (tmps : Array Value) (w : World) (b : Nat) (cs : List Value) (d : TypeDesc)
    (hp : tmps.getD p undef = .pointer (some ⟨b, 0, none⟩)) (hc : w.rangeAt b 0 cs) (hu : Tryd.prog.underlying ty = some d) (hd : d.isRow = true) (hi : (Tryd.prog.info? ty).map (·.size) = some cs.length) :
    (results fn tmps).run Tryd.prog w = .ok (.tuple #[.agg cs.toArray, tmps.getD u undef, tmps.getD v undef]) w := by
  have hp' : tmps[p]?.getD undef = .pointer (some ⟨b, 0, none⟩) := by simpa using hp
  simp [results, h, hp', asAddr, Result.andThen, run_loadVar_mid w b 0 ty cs d hc hu hd hi]
theorem infoTok : (Tryd.prog.info? 34).map (·.size) = some 5 := by kernel_rfl
/-- Once its five cells are written, a token is handed back. -/
theorem tok_end {w w1 : World} {fn : Func} {p u v : Tmp} (h : fn.results = #[.cell p 34, .tmp u, .tmp v]) {tmps : Array Value} {R : Ending → World → Prop} {v0 v1 v2 v3 v4 : Value}
    (c : (w1.cell? ⟨w.heap.size, 0, none⟩).isSome = true ∧ (w1.cell? ⟨w.heap.size, 1, none⟩).isSome = true ∧ (w1.cell? ⟨w.heap.size, 2, none⟩).isSome = true ∧ (w1.cell? ⟨w.heap.size, 3, none⟩).isSome = true ∧ (w1.cell? ⟨w.heap.size, 4, none⟩).isSome = true)
    (f : w1.frozen? ⟨w.heap.size, 0, none⟩ = false ∧ w1.frozen? ⟨w.heap.size, 1, none⟩ = false ∧ w1.frozen? ⟨w.heap.size, 2, none⟩ = false ∧ w1.frozen? ⟨w.heap.size, 3, none⟩ = false ∧ w1.frozen? ⟨w.heap.size, 4, none⟩ = false)
    (hp : tmps.getD p undef = .pointer (some ⟨w.heap.size, 0, none⟩)) (b : Below w.heap.size w w1)
    (g : Below w.heap.size w (((((w1.setCell ⟨w.heap.size, 0, none⟩ v0).setCell ⟨w.heap.size, 1, none⟩ v1).setCell ⟨w.heap.size, 2, none⟩ v2).setCell ⟨w.heap.size, 3, none⟩ v3).setCell ⟨w.heap.size, 4, none⟩ v4) → R (.returned (.tuple #[.agg #[v0, v1, v2, v3, v4], tmps.getD u undef, tmps.getD v undef])) (((((w1.setCell ⟨w.heap.size, 0, none⟩ v0).setCell ⟨w.heap.size, 1, none⟩ v1).setCell ⟨w.heap.size, 2, none⟩ v2).setCell ⟨w.heap.size, 3, none⟩ v3).setCell ⟨w.heap.size, 4, none⟩ v4)) :
    bodyPost Tryd.prog fn R Exit.ret { tmps := tmps, defers := [] } (((((w1.setCell ⟨w.heap.size, 0, none⟩ v0).setCell ⟨w.heap.size, 1, none⟩ v1).setCell ⟨w.heap.size, 2, none⟩ v2).setCell ⟨w.heap.size, 3, none⟩ v3).setCell ⟨w.heap.size, 4, none⟩ v4) := by
  have ht : w1.there w.heap.size 0 [v0, v1, v2, v3, v4].length := by
    intro j hj
    simp only [List.length_cons, List.length_nil] at hj
    match j, hj with
    | 0, _ => exact ⟨c.1, f.1⟩
    | 1, _ => exact ⟨c.2.1, f.2.1⟩
    | 2, _ => exact ⟨c.2.2.1, f.2.2.1⟩
    | 3, _ => exact ⟨c.2.2.2.1, f.2.2.2.1⟩
    | 4, _ => exact ⟨c.2.2.2.2, f.2.2.2.2⟩
  have hr := World.rangeAt_setCells_same w1 w.heap.size 0 [v0, v1, v2, v3, v4] ht
  refine bodyPost_ret (results_tok h _ _ w.heap.size [v0, v1, v2, v3, v4] _ hp hr Tryd.underlying34 rfl infoTok) rfl (g ?_)
  exact ((((b.setCell (Nat.le_refl _) _).setCell (Nat.le_refl _) _).setCell (Nat.le_refl _) _).setCell (Nat.le_refl _) _).setCell (Nat.le_refl _) _
theorem some5 {w1 : World} {b : Nat} {c0 c1 c2 c3 c4 : Value} (h : w1.cell? ⟨b, 0, none⟩ = some c0 ∧ w1.cell? ⟨b, 1, none⟩ = some c1 ∧ w1.cell? ⟨b, 2, none⟩ = some c2 ∧ w1.cell? ⟨b, 3, none⟩ = some c3 ∧ w1.cell? ⟨b, 4, none⟩ = some c4) :
    (w1.cell? ⟨b, 0, none⟩).isSome = true ∧ (w1.cell? ⟨b, 1, none⟩).isSome = true ∧ (w1.cell? ⟨b, 2, none⟩).isSome = true ∧ (w1.cell? ⟨b, 3, none⟩).isSome = true ∧ (w1.cell? ⟨b, 4, none⟩).isSome = true := by
  obtain ⟨h0, h1, h2, h3, h4⟩ := h
  rw [h0, h1, h2, h3, h4]; exact ⟨rfl, rfl, rfl, rfl, rfl⟩

set_option maxRecDepth 100000 in
set_option maxHeartbeats 4000000 in
theorem cut_any (s : ByteArray) (k n : Nat) (_hk : k ≤ 100) (hn : n ≤ s.size) (hs : s.size ≤ 1073741824) (w : World) : Calls Tryd.prog 41 #[.string s, .int .i64 (k : Int), .int .i64 (n : Int)] w fun e w' => e = .returned (.tuple #[tokV k (s.data.toList.take n) (.slice none 0 0) 0 0, .int .i64 (n : Int), .int .i64 0]) ∧ Below w.heap.size w w' := by
  obtain ⟨t, ht⟩ : ∃ t, s.extract 0 n = t := ⟨_, rfl⟩
  have HV : Hid (tokV k (s.data.toList.take n) (.slice none 0 0) 0 0 = .agg #[.int .i64 (k : Int), .string t, .slice none 0 0, .int .i64 0, .int .i64 0]) := by
    show _ = _; unfold tokV; rw [← ext_take s n, ht]; rfl
  have hts : t.size ≤ 281474976710656 := by rw [← ht, ByteArray.size_extract]; omega
  rw [HV.out]
  clear HV
  go_enter Tryd.func41, Tryd.ntmps41
  go_wp2_with (go_at_call 42; refine (clone_any _ _ hts).mono ?_; rintro e w1 ⟨rfl, g1⟩; obtain ⟨⟨c0, c1, c2, c3, c4⟩, ⟨f0, f1, f2, f3, f4⟩, b1, b2⟩ := cell5 g1; clear g1)
  refine tok_end rfl (some5 ⟨c0, c1, c2, c3, c4⟩) ⟨f0, f1, f2, f3, f4⟩ rfl b1 fun g => ?_
  exact ⟨rfl, g⟩
end Go.Proofs.YtmeooghcdgpofaaDoor
