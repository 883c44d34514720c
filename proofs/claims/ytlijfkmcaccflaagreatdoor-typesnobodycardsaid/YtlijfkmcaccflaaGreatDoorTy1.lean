/- Books of types in memory; the small readers of a book. -/
import Derived.Test.YtlijfkmcaccflaaGreatDoorProg
import Derived.WalkKit
import Derived.ProofKit
import Derived.OpenShut
import Derived.Below
import Derived.WalkLawsBesides
import Derived.OwnWalk
import Derived.Laws.OwnMore
import Derived.WalkSmall
import Derived.LaidEqlPtr
namespace Go.Proofs.YtlijfkmcaccflaaGreatDoor
open Go.ChangeShapes Go.WideShapes Go.ChangeAt Go.RowKit

structure Hid' (p : Prop) : Prop where
  out : p
theorem hide' {p : Prop} (h : p) : Hid' p := ⟨h⟩
theorem cell_of_block {w w' : World} {a : Addr} (h : w'.heap[a.block]? = w.heap[a.block]?) : w'.cell? a = w.cell? a := by
  unfold World.cell?
  rw [h]
/-- What a book keeps of a type: the kinds that are met here have no labels, no class, no name. -/
structure Tc where
  kind : Int
  con : Int
  level : Int
  to : Int
  av : Value
  args : List Int
def Tc.zero : Tc := ⟨0, 0, 0, 0, .slice none 0 0, []⟩
def Tc.cells (c : Tc) : List Value := [.int .i64 c.kind, .int .i64 c.con, .slice none 0 0, c.av, .bool false, .int .i64 0, .int .i64 c.level, .string ⟨#[]⟩, .bool false, .bool false, .int .i64 c.to, .int .i64 0]
def Tc.val (c : Tc) : Value := .agg #[.int .i64 c.kind, .int .i64 c.con, .slice none 0 0, c.av, .bool false, .int .i64 0, .int .i64 c.level, .string ⟨#[]⟩, .bool false, .bool false, .int .i64 c.to, .int .i64 0]
def flat : List Tc → List Value
  | [] => []
  | c :: r => c.cells ++ flat r
theorem flat_length : ∀ cs : List Tc, (flat cs).length = cs.length * 12
  | [] => rfl
  | c :: r => by
    show (c.cells ++ flat r).length = _
    rw [List.length_append, flat_length r]
    simp [Tc.cells]; omega
theorem flat_append : ∀ (cs : List Tc) (c : Tc), flat (cs ++ [c]) = flat cs ++ c.cells
  | [], c => by simp [flat]
  | d :: r, c => by
    show d.cells ++ flat (r ++ [c]) = (d.cells ++ flat r) ++ c.cells
    rw [flat_append r c, List.append_assoc]
theorem flat_at : ∀ (cs : List Tc) (j i : Nat), j < cs.length → i < 12 → (flat cs)[j * 12 + i]? = ((cs.getD j Tc.zero).cells)[i]?
  | [], j, _, h, _ => absurd h (Nat.not_lt_zero j)
  | c :: r, 0, i, _, hi => by
    show (c.cells ++ flat r)[0 * 12 + i]? = _
    rw [Nat.zero_mul, Nat.zero_add, List.getElem?_append_left (by simpa [Tc.cells] using hi)]
    rfl
  | c :: r, j + 1, i, h, hi => by
    show (c.cells ++ flat r)[(j + 1) * 12 + i]? = _
    have e : (j + 1) * 12 + i = 12 + (j * 12 + i) := by omega
    rw [e, List.getElem?_append_right (by simp [Tc.cells])]
    have := flat_at r j i (by simpa using h) hi
    simpa [Tc.cells] using this
/-- A type's cells. -/
structure TcAt (w : World) (g o : Nat) (c : Tc) : Prop where
  c0 : w.cell? ⟨g, o, none⟩ = some (.int .i64 c.kind)
  c1 : w.cell? ⟨g, o + 1, none⟩ = some (.int .i64 c.con)
  c2 : w.cell? ⟨g, o + 2, none⟩ = some (.slice none 0 0)
  c3 : w.cell? ⟨g, o + 3, none⟩ = some c.av
  c4 : w.cell? ⟨g, o + 4, none⟩ = some (.bool false)
  c5 : w.cell? ⟨g, o + 5, none⟩ = some (.int .i64 0)
  c6 : w.cell? ⟨g, o + 6, none⟩ = some (.int .i64 c.level)
  c7 : w.cell? ⟨g, o + 7, none⟩ = some (.string ⟨#[]⟩)
  c8 : w.cell? ⟨g, o + 8, none⟩ = some (.bool false)
  c9 : w.cell? ⟨g, o + 9, none⟩ = some (.bool false)
  c10 : w.cell? ⟨g, o + 10, none⟩ = some (.int .i64 c.to)
  c11 : w.cell? ⟨g, o + 11, none⟩ = some (.int .i64 0)
/-- Numbers that can be read, in a block from lo on and below hi, not the one that is named. -/
def Nums (lo hi : Nat) (no : Option Nat) (w : World) (v : Value) (l : List Int) : Prop :=
  ∃ ao cap, v = .slice ao l.length cap ∧ l.length ≤ cap ∧ l.length ≤ 100 ∧ ∀ j, j < l.length → ∃ g, ao = some ⟨g, 0, none⟩ ∧ lo < g ∧ g < hi ∧ no ≠ some g ∧ w.cell? ⟨g, j, none⟩ = some (.int .i64 (l.getD j 0))
theorem Nums.below {lo hi : Nat} {no : Option Nat} {w w' : World} {v : Value} {l : List Int} (h : Nums lo hi no w v l) (b : Below hi w w') : Nums lo hi no w' v l := by
  obtain ⟨ao, cap, hv, h1, h2, hc⟩ := h
  refine ⟨ao, cap, hv, h1, h2, fun j hj => ?_⟩
  obtain ⟨g, ha, hl, hh, hn, hx⟩ := hc j hj
  exact ⟨g, ha, hl, hh, hn, (b.cell (p := ⟨g, j, none⟩) hh).trans hx⟩
theorem Nums.mono {lo hi hi' : Nat} {no : Option Nat} {w : World} {v : Value} {l : List Int} (h : Nums lo hi no w v l) (hb : hi ≤ hi') : Nums lo hi' no w v l := by
  obtain ⟨ao, cap, hv, h1, h2, hc⟩ := h
  refine ⟨ao, cap, hv, h1, h2, fun j hj => ?_⟩
  obtain ⟨g, ha, hl, hh, hn, hx⟩ := hc j hj
  exact ⟨g, ha, hl, Nat.lt_of_lt_of_le hh hb, hn, hx⟩
/-- A book: its block b, all that it has below hi. -/
structure Bk (b hi : Nat) (w : World) (cv : Value) (cs : List Tc) : Prop where
  c0 : w.cell? ⟨b, 0, none⟩ = some (.pointer (some ⟨b, 0, none⟩))
  c2 : w.cell? ⟨b, 2, none⟩ = some cv
  f2 : w.frozen? ⟨b, 2, none⟩ = false
  row : w.ownsRow (b + 1) 71 12 cv cs.length (flat cs)
  rhi : ∀ g, cv.ownBlock = some g → g < hi
  old : b < hi
  hil : hi ≤ w.heap.size
  sm : cs.length ≤ 100
  args : ∀ j, j < cs.length → Nums b hi cv.ownBlock w (cs.getD j Tc.zero).av (cs.getD j Tc.zero).args
  cons : ∃ gc, gc ≠ b ∧ gc < hi ∧ cv.ownBlock ≠ some gc ∧ w.cell? ⟨b, 1, none⟩ = some (.slice (some ⟨gc, 0, none⟩) 7 7) ∧ w.cell? ⟨gc, 0, none⟩ = some (.string ⟨#[105, 110, 116]⟩) ∧ w.cell? ⟨gc, 1, none⟩ = some (.int .i64 0)
theorem row_keep {w w' : World} {B e size n : Nat} {v : Value} {xs : List Value} (h : w.ownsRow B e size v n xs) (hk : ∀ g, v.ownBlock = some g → w'.heap[g]? = w.heap[g]?) : w'.ownsRow B e size v n xs := by
  refine ⟨h.1, ?_⟩
  rcases h.2 with h0 | ⟨g, cap, cur, hv, hg, hw, hr⟩
  · exact .inl h0
  · exact .inr ⟨g, cap, cur, hv, hg, by rw [hk g (by rw [hv]; rfl)]; exact hw, hr⟩
theorem Bk.below {b hi : Nat} {w w' : World} {cv : Value} {cs : List Tc} (h : Bk b hi w cv cs) (g : Below hi w w') : Bk b hi w' cv cs := by
  obtain ⟨gc, h1, h2, h3, h4, h5, h6⟩ := h.cons
  exact ⟨(g.cell (p := ⟨b, 0, none⟩) h.old).trans h.c0, (g.cell (p := ⟨b, 2, none⟩) h.old).trans h.c2, (g.frozen (p := ⟨b, 2, none⟩) h.old).trans h.f2, row_keep h.row fun k hk => g.block k (h.rhi k hk), h.rhi, h.old, Nat.le_trans h.hil g.size, h.sm, fun j hj => (h.args j hj).below g, gc, h1, h2, h3, (g.cell (p := ⟨b, 1, none⟩) h.old).trans h4, (g.cell (p := ⟨gc, 0, none⟩) h2).trans h5, (g.cell (p := ⟨gc, 1, none⟩) h2).trans h6⟩
theorem Bk.mono {b hi hi' : Nat} {w : World} {cv : Value} {cs : List Tc} (h : Bk b hi w cv cs) (e : hi ≤ hi') (e' : hi' ≤ w.heap.size) : Bk b hi' w cv cs := by
  obtain ⟨gc, h1, h2, h3, h4⟩ := h.cons
  exact ⟨h.c0, h.c2, h.f2, h.row, fun g hg => Nat.lt_of_lt_of_le (h.rhi g hg) e, Nat.lt_of_lt_of_le h.old e, e', h.sm, fun j hj => (h.args j hj).mono e, gc, h1, Nat.lt_of_lt_of_le h2 e, h3, h4⟩
theorem Bk.at {b hi : Nat} {w : World} {cv : Value} {cs : List Tc} (h : Bk b hi w cv cs) {j : Nat} (hj : j < cs.length) : ∃ g cap, cv = .slice (some ⟨g, 0, none⟩) cs.length cap ∧ b < g ∧ g < hi ∧ TcAt w g (j * 12) (cs.getD j Tc.zero) := by
  rcases h.row.2 with ⟨_, h0⟩ | ⟨g, cap, cur, hv, hg, _⟩
  · omega
  · have hr := h.row
    rw [hv] at hr
    have hc : ∀ i, i < 12 → ∀ v, (cs.getD j Tc.zero).cells[i]? = some v → w.cell? ⟨g, j * 12 + i, none⟩ = some v := fun i hi v hv => by
      rw [hr.cellAt (j * 12 + i) (by rw [Nat.mul_comm]; omega), flat_at cs j i hj hi]
      exact hv
    exact ⟨g, cap, hv, by omega, h.rhi g (by rw [hv]; rfl), ⟨hc 0 (by decide) _ rfl, hc 1 (by decide) _ rfl, hc 2 (by decide) _ rfl, hc 3 (by decide) _ rfl, hc 4 (by decide) _ rfl, hc 5 (by decide) _ rfl, hc 6 (by decide) _ rfl, hc 7 (by decide) _ rfl, hc 8 (by decide) _ rfl, hc 9 (by decide) _ rfl, hc 10 (by decide) _ rfl, hc 11 (by decide) _ rfl⟩⟩

set_option maxRecDepth 100000 in
set_option maxHeartbeats 4000000 in
theorem made_no (w : World) : Calls Tryz.prog 24 #[.pointer none] w fun e w' => e = .returned (.bool false) ∧ w' = w := by
  go_enter Tryz.func24, Tryz.ntmps24
  go_wp2
  go_ret
  simp

set_option maxRecDepth 100000 in
set_option maxHeartbeats 4000000 in
theorem made_zero (b : Nat) (w : World) (h : w.cell? ⟨b, 0, none⟩ = some (.pointer none)) : Calls Tryz.prog 24 #[.pointer (some ⟨b, 0, none⟩)] w fun e w' => e = .returned (.bool false) ∧ w' = w := by
  have he : ∀ w : World, (binOp BinOp.eql 26 (.pointer none) (.pointer (some ⟨b, 0, none⟩))).run Tryz.prog w = .ok (.bool false) w := fun _ => by kernel_rfl
  go_enter Tryz.func24, Tryz.ntmps24
  go_wp2
  go_ret
  simp

set_option maxRecDepth 100000 in
set_option maxHeartbeats 4000000 in
theorem made_yes (b : Nat) (w : World) (h : w.cell? ⟨b, 0, none⟩ = some (.pointer (some ⟨b, 0, none⟩))) : Calls Tryz.prog 24 #[.pointer (some ⟨b, 0, none⟩)] w fun e w' => e = .returned (.bool true) ∧ w' = w := by
  obtain ⟨j, hj⟩ : ∃ j, Tryz.prog.info? 30 = some j := Option.isSome_iff_exists.1 (by kernel_rfl)
  have he := fun w : World => run_eql_ptr_same (P := Tryz.prog) (w := w) (⟨b, 0, none⟩ : Addr) Tryz.underlying26 hj
  go_enter Tryz.func24, Tryz.ntmps24
  go_wp2
  go_ret
  simp

set_option maxRecDepth 100000 in
set_option maxHeartbeats 4000000 in
theorem isLevel_one (w : World) : Calls Tryz.prog 26 #[.int .i64 1] w fun e w' => e = .returned (.bool true) ∧ w' = w := by
  go_enter Tryz.func26, Tryz.ntmps26
  go_wp2
  go_ret
  simp

set_option maxRecDepth 100000 in
set_option maxHeartbeats 4000000 in
theorem hasCon_int (b gc : Nat) (w : World) (h : w.cell? ⟨b, 1, none⟩ = some (.slice (some ⟨gc, 0, none⟩) 7 7)) : Calls Tryz.prog 28 #[.pointer (some ⟨b, 0, none⟩), .int .i64 0] w fun e w' => e = .returned (.bool true) ∧ w' = w := by
  go_enter Tryz.func28, Tryz.ntmps28
  go_wp2
  go_ret
  simp

set_option maxRecDepth 100000 in
set_option maxHeartbeats 8000000 in
theorem now_same (b hi : Nat) (cv : Value) (cs : List Tc) (t : Nat) (w : World) (h : Bk b hi w cv cs) (ht : t < cs.length) (hk : (cs.getD t Tc.zero).kind ≠ 0) : Calls Tryz.prog 48 #[.pointer (some ⟨b, 0, none⟩), .int .i64 (t : Int)] w fun e w' => e = .returned (.int .i64 (t : Int)) ∧ w' = w := by
  have c2 := h.c2
  have hs := h.sm
  obtain ⟨g, cap, hv, _, _, hat⟩ := h.at ht
  rw [hv] at c2
  have d0 := hat.c0
  generalize (cs.getD t Tc.zero).kind = k at *
  generalize cs.length = n at *
  have hk2 : (k == 0) = false := by simpa using hk
  clear h hat hv hk
  go_enter Tryz.func48, Tryz.ntmps48
  go_wp2
  go_loop [1] (fun v => v = .int .i64 (t : Int)) (fun _ => 0)
  case atStart => rfl
  case round =>
    subst hrel
    go_wp2
    go_ret
    simp

set_option maxRecDepth 100000 in
set_option maxHeartbeats 8000000 in
theorem now_one (b hi : Nat) (cv : Value) (cs : List Tc) (t s : Nat) (w : World) (h : Bk b hi w cv cs) (ht : t < cs.length) (hs : s < cs.length) (hk : (cs.getD t Tc.zero).kind = 0) (hts : (cs.getD t Tc.zero).to = (s : Int)) (hsk : (cs.getD s Tc.zero).kind ≠ 0) (hne : t ≠ s) : Calls Tryz.prog 48 #[.pointer (some ⟨b, 0, none⟩), .int .i64 (t : Int)] w fun e w' => e = .returned (.int .i64 (s : Int)) ∧ w' = w := by
  have c2 := h.c2
  have hsm := h.sm
  obtain ⟨g, cap, hv, _, _, hat⟩ := h.at ht
  obtain ⟨g', cap', hv', _, _, hat'⟩ := h.at hs
  rw [hv] at c2
  rw [hv] at hv'
  injection hv' with e1 _ _
  injection e1 with e1
  injection e1 with e1
  subst e1
  have d0 := hat.c0
  have d10 := hat.c10
  have s0 := hat'.c0
  rw [hk] at d0
  rw [hts] at d10
  generalize (cs.getD s Tc.zero).kind = k at *
  generalize cs.length = n at *
  have hk2 : (k == 0) = false := by simpa using hsk
  have HN := hide' hne
  clear h hat hv hk hat' hts hsk hne
  go_enter Tryz.func48, Tryz.ntmps48
  go_wp2
  go_loop [1] (fun v => v = .int .i64 (t : Int) ∨ v = .int .i64 (s : Int)) (fun v => if intOf v = (t : Int) then 1 else 0)
  case atStart => exact .inl rfl
  case round =>
    rcases hrel with h1 | h1
    · subst h1
      go_wp2
      go_round
      case rel => exact .inr rfl
      case measure =>
        have hq : ¬ ((s : Int) = (t : Int)) := by have := HN.out; omega
        simp [intOf, hq]
    · subst h1
      go_wp2
      go_ret
      simp
end Go.Proofs.YtlijfkmcaccflaaGreatDoor
