/- Tokens that a call is handed, of bulk at most 1048576: what their reading gives. -/
import Derived.Test.YtgcbkjfckmjgeaaGreatDoorProg
import Derived.Test.YtgcbkjfckmjgeaaGreatDoorRows
import Derived.Test.YtgcbkjfckmjgeaaGreatDoorLexA
import Derived.Test.YtgcbkjfckmjgeaaGreatDoorLexH12
import Derived.OpenShut
import Derived.ChangeArms
import Derived.SliceStrings
import Derived.SizedLaws
import Derived.Deep.Slices
namespace Go.Proofs.YtgcbkjfckmjgeaaGreatDoor
open Go.ChangeShapes Go.WideShapes Go.ChangeAt Go.RowKit
open Go.Deep (open_slice choose_lt add_add)

theorem bulk_mem {H : Type} {d : DataW H} : ∀ {ds : List (DataW H)}, d ∈ ds → Rows.uptoBulk d ≤ Rows.uptoBulkAll ds
  | a :: r, h => by
    simp only [Rows.uptoBulkAll]
    rcases List.mem_cons.1 h with rfl | h
    · omega
    · have := bulk_mem h; omega

section
variable {H : Type} {enc : TypeId × Value → H} {W : World}

/-- A slice of strings that can be read, none of them too long. -/
theorem rdS_ofB {fuel : Nat} {v : Value} {x : DataW H × List MemPlace} (h : DataW.trod enc Tryz.prog W 0 (fun _ => true) true fuel 32 [v] = some x) (hb : Rows.uptoBulk x.1 ≤ 1048576) :
    ∃ p, RdS W v p ∧ ∀ j, j < p.length → (p.getD j []).length ≤ 1048576 := by
  rcases open_strings Tryz.underlying32 Tryz.underlying9 (by kernel_rfl) h with ⟨hcs, _⟩ | ⟨a, len, cap, ss, hcs, _, hl, hm, hss, hx, hcell, _⟩
  · injection hcs with hcs _
    subst hcs
    exact ⟨[], rdS_nil W, fun j hj => absurd hj (by simp)⟩
  · injection hcs with hcs _
    subst hcs
    have hsl : ss.length = cap := by simpa using hss
    have hlen : ((ss.take len).map fun s => s.data.toList).length = len := by rw [List.length_map, List.length_take]; omega
    have hget : ∀ j, j < len → ((ss.take len).map fun s => s.data.toList).getD j [] = (ss.getD j ByteArray.empty).data.toList := by
      intro j hj
      have : j < ss.length := by omega
      simp [List.getD_eq_getElem?_getD, hj, this]
    refine ⟨(ss.take len).map fun s => s.data.toList, ⟨some a, cap, by rw [hlen], by rw [hlen]; unfold maxLen at hm; omega, fun j hj => ⟨a, rfl, ?_, ?_⟩⟩, fun j hj => ?_⟩
    · rw [hlen] at hj
      have := blk_of (hcell j (by omega))
      rwa [add_block] at this
    · rw [hlen] at hj
      rw [hget j hj]
      exact hcell j (by omega)
    · rw [hlen] at hj
      rw [hget j hj]
      have hmem : (ss.getD j ByteArray.empty) ∈ ss.take len := by
        have h1 : j < (ss.take len).length := by rw [List.length_take]; omega
        have h2 : (ss.take len)[j] = ss.getD j ByteArray.empty := by
          have : j < ss.length := by omega
          simp [List.getD_eq_getElem?_getD, this]
        rw [← h2]
        exact List.getElem_mem _
      have h9 : Rows.uptoBulk (DataW.lit (Lit.string (ss.getD j ByteArray.empty).data.toList) : DataW H) ≤ Rows.uptoBulkAll (strs (ss.take len)) := bulk_mem (List.mem_map.2 ⟨_, hmem, rfl⟩)
      rw [hx] at hb
      simp only [Rows.uptoBulk] at hb h9
      omega

set_option maxRecDepth 100000 in
/-- One token, from its five cells. -/
theorem tok_ofB {fuel : Nat} {cs : List Value} {x : DataW H × List MemPlace} (h : DataW.trod enc Tryz.prog W 0 (fun _ => true) true fuel 34 cs = some x) (hb : Rows.uptoBulk x.1 ≤ 1048576) :
    ∃ (t : ITok) (pv : Value), cs = [.int .i64 t.kind, .string ⟨t.text.toArray⟩, pv, .int .i64 t.line, .int .i64 t.column] ∧ RdS W pv t.path ∧ t.text.length ≤ 1048576 ∧ (∀ j, j < t.path.length → (t.path.getD j []).length ≤ 1048576) := by
  obtain ⟨xs, n, _, hx, hl, hxl, hf⟩ := DataW.trod_struct Tryz.underlying34 h
  rw [cellsTok] at hl
  obtain ⟨y0, y1, y2, y3, y4, rfl⟩ := list5 (show xs.length = 5 from hxl)
  obtain ⟨v0, v1, v2, v3, v4, rfl⟩ := list5 hl
  · clear hxl hl
    have g0 : DataW.trod enc Tryz.prog W 0 (fun _ => true) true n 31 [v0] = some y0 := hf 0 _ rfl
    have g1 : DataW.trod enc Tryz.prog W 0 (fun _ => true) true n 9 [v1] = some y1 := hf 1 _ rfl
    have g2 : DataW.trod enc Tryz.prog W 0 (fun _ => true) true n 32 [v2] = some y2 := hf 2 _ rfl
    have g3 : DataW.trod enc Tryz.prog W 0 (fun _ => true) true n 3 [v3] = some y3 := hf 3 _ rfl
    have g4 : DataW.trod enc Tryz.prog W 0 (fun _ => true) true n 3 [v4] = some y4 := hf 4 _ rfl
    subst hx
    simp only [Rows.uptoBulk, List.map, Rows.uptoBulkAll] at hb
    obtain ⟨k, e0, _, _⟩ := DataW.trod_int Tryz.underlying31 g0
    obtain ⟨s, e1, x1, _⟩ := DataW.trod_string Tryz.underlying9 g1
    obtain ⟨p, hp, hpl⟩ := rdS_ofB g2 (by omega)
    obtain ⟨l3, e3, _, _⟩ := DataW.trod_int Tryz.underlying3 g3
    obtain ⟨l4, e4, _, _⟩ := DataW.trod_int Tryz.underlying3 g4
    injection e0 with e0 _
    injection e1 with e1 _
    injection e3 with e3 _
    injection e4 with e4 _
    subst e0 e1 e3 e4
    refine ⟨⟨k, s.data.toList, p, l3, l4⟩, v2, rfl, hp, ?_, hpl⟩
    rw [x1] at hb
    simp only [Rows.uptoBulk] at hb
    show s.data.toList.length ≤ _
    omega

/-- A row of tokens that a call is handed can be read. -/
theorem rdT_ofB {fuel : Nat} {v : Value} {x : DataW H × List MemPlace} (h : DataW.trod enc Tryz.prog W 0 (fun _ => true) true fuel 22 [v] = some x) (hb : Rows.uptoBulk x.1 ≤ 1048576) : ∃ l, RdT W v l ∧ ∀ j, j < l.length → SmallT (l.getD j ITok.zero) := by
  rcases open_slice Tryz.underlying22 h with ⟨hcs, _⟩ | ⟨a, len, cap, m, n, D, Pl, hcs, _, hl, hm, hmm, hx, hel⟩
  · injection hcs with hcs _
    subst hcs
    exact ⟨[], ⟨none, 0, rfl, Nat.zero_le _, fun j hj => absurd hj (by simp)⟩, fun j hj => absurd hj (by simp)⟩
  · injection hcs with hcs _
    subst hcs
    rw [cellsTok] at hel
    have hmc : m = cap := by simpa using hmm
    have each : ∀ i, i < len → ∃ q : ITok × Value, (∃ cs', W.cells? 0 (a.add (i * 5)) 5 = some cs' ∧ cs' = [.int .i64 q.1.kind, .string ⟨q.1.text.toArray⟩, q.2, .int .i64 q.1.line, .int .i64 q.1.column]) ∧ RdS W q.2 q.1.path ∧ q.1.text.length ≤ 1048576 ∧ (∀ j, j < q.1.path.length → (q.1.path.getD j []).length ≤ 1048576) := by
      intro i hi
      obtain ⟨cs', h1, h2⟩ := hel i (by omega)
      have h9 := bulk_mem (List.mem_map.2 ⟨i, List.mem_range.2 hi, rfl⟩ : D i ∈ (List.range len).map D)
      have hb2 := hb
      rw [hx] at hb2
      simp only [Rows.uptoBulk] at hb2
      obtain ⟨t, pv, e, r1, r2, r3⟩ := tok_ofB h2 (by show Rows.uptoBulk (D i) ≤ _; omega)
      exact ⟨(t, pv), ⟨cs', h1, e⟩, r1, r2, r3⟩
    have : Inhabited (ITok × Value) := ⟨(ITok.zero, undef)⟩
    obtain ⟨q, hq⟩ := choose_lt each
    have hlen : ((List.range len).map fun i => (q i).1).length = len := by simp
    refine ⟨(List.range len).map fun i => (q i).1, ⟨some a, cap, by rw [hlen], by rw [hlen]; unfold maxLen at hm; omega, fun j hj => ?_⟩, fun j hj => ?_⟩
    rotate_left
    · rw [hlen] at hj
      have hget : ((List.range len).map fun i => (q i).1).getD j ITok.zero = (q j).1 := by simp [List.getD_eq_getElem?_getD, hj]
      rw [hget]
      obtain ⟨_, _, r2, r3⟩ := hq j hj
      exact ⟨r2, r3⟩
    rw [hlen] at hj
    have hget : ((List.range len).map fun i => (q i).1).getD j ITok.zero = (q j).1 := by simp [List.getD_eq_getElem?_getD, hj]
    rw [hget]
    -- the row's first cell is there, so its place is a plain one
    have h0 : 0 < len := by omega
    obtain ⟨⟨cs0, z1, z2⟩, _⟩ := hq 0 h0
    obtain ⟨_, _, zc⟩ := World.cells?_some z1
    have za : W.cell? a = some (.int .i64 (q 0).1.kind) := by
      have := zc 0 (by omega)
      rw [z2] at this
      simpa [Addr.add] using this
    have hsp := spot_of_cell za
    obtain ⟨g, o, sp⟩ := a
    simp only at hsp
    subst hsp
    obtain ⟨⟨cs', c1, c2⟩, r1, r2, r3⟩ := hq j hj
    obtain ⟨_, _, cc⟩ := World.cells?_some c1
    rw [c2] at cc
    have ea : ∀ i : Nat, ((⟨g, o, none⟩ : Addr).add (j * 5)).add i = ⟨g, o + j * 5 + i, none⟩ := fun i => by
      rw [add_add]
      unfold Addr.add
      split
      · first | (simp; done) | (simp; omega)
      · first | (simp; done) | (simp; omega)
    refine ⟨g, o, (q j).2, rfl, blk_of za, ?_⟩
    have d0 := cc 0 (by omega)
    have d1 := cc 1 (by omega)
    have d2 := cc 2 (by omega)
    have d3 := cc 3 (by omega)
    have d4 := cc 4 (by omega)
    rw [ea] at d0 d1 d2 d3 d4
    exact ⟨by simpa using d0, by simpa using d1, by simpa using d2, by simpa using d3, by simpa using d4, r1, Nat.le_trans r2 (by decide), fun j hj => Nat.le_trans (r3 j hj) (by decide)⟩
end
end Go.Proofs.YtgcbkjfckmjgeaaGreatDoor
