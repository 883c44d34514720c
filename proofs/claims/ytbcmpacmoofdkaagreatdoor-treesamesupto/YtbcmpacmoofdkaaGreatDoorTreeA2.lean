/- Nodes and numbers that a call is handed: what their reading gives. -/
import Derived.Test.YtbcmpacmoofdkaaGreatDoorProg
import Derived.Test.YtbcmpacmoofdkaaGreatDoorTree2
import Derived.OpenShut
import Derived.ChangeArms
import Derived.SliceStrings
import Derived.SizedLaws
import Derived.Deep.Slices
import Derived.Test.YtbcmpacmoofdkaaGreatDoorRows
import Derived.Test.YtbcmpacmoofdkaaGreatDoorSam7
namespace Go.Proofs.YtbcmpacmoofdkaaGreatDoor
open Go.ChangeShapes Go.WideShapes Go.ChangeAt Go.RowKit
open Go.Deep (open_slice choose_lt add_add)

theorem mem_weightsN {H : Type} {P : Program} {e : TypeId} {d : DataW H} {n : Nat} : ∀ {ds : List (DataW H)}, d ∈ ds → n ∈ d.weights P e → n ∈ DataW.weightsAll P e ds
  | a :: r, h, g => by
    show n ∈ a.weights P e ++ DataW.weightsAll P e r
    rw [List.mem_append]
    rcases List.mem_cons.1 h with rfl | h
    · exact .inl g
    · exact .inr (mem_weightsN h g)
theorem reachN_val : reachBytes = 140737488351232 := by decide
theorem spotN_of_cell {w : World} {a : Addr} {v : Value} (h : w.cell? a = some v) : a.spot = none := by
  unfold World.cell? at h
  split at h
  · split at h
    · cases h
    · rename_i hs
      cases e : a.spot with
      | none => rfl
      | some x => rw [e] at hs; exact absurd rfl hs
  · cases h
theorem blkN_of {w : World} {a : Addr} {v : Value} (h : w.cell? a = some v) : a.block < w.heap.size := by
  rcases Nat.lt_or_ge a.block w.heap.size with hl | hl
  · exact hl
  · unfold World.cell? at h
    rw [Array.getElem?_eq_none hl] at h
    cases h

section
variable {H : Type} {enc : TypeId × Value → H} {W : World}

/-- A slice of strings that can be read. -/
theorem rdP_of {fuel : Nat} {v : Value} {x : DataW H × List MemPlace} (h : DataW.trod enc Tryz.prog W 0 (fun _ => true) true fuel 35 [v] = some x) : ∃ p, RdP W.heap.size W v p := by
  rcases open_strings Tryz.underlying35 Tryz.underlying9 (by kernel_rfl) h with ⟨hcs, _⟩ | ⟨a, len, cap, ss, hcs, _, hl, hm, hss, hx, hcell, _⟩
  · injection hcs with hcs _
    subst hcs
    exact ⟨[], none, 0, rfl, by simp, fun j hj => absurd hj (by simp)⟩
  · injection hcs with hcs _
    subst hcs
    have hsl : ss.length = cap := by simpa using hss
    have hlen : ((ss.take len).map fun s => s.data.toList).length = len := by rw [List.length_map, List.length_take]; omega
    have hget : ∀ j, j < len → ((ss.take len).map fun s => s.data.toList).getD j [] = (ss.getD j ByteArray.empty).data.toList := by
      intro j hj
      have : j < ss.length := by omega
      simp [List.getD_eq_getElem?_getD, hj, this]
    refine ⟨(ss.take len).map fun s => s.data.toList, some a, cap, by rw [hlen], by rw [hlen]; unfold maxLen at hm; omega, fun j hj => ⟨a, rfl, ?_, ?_⟩⟩
    · rw [hlen] at hj
      have := blkN_of (hcell j (by omega))
      rwa [addBlock] at this
    · rw [hlen] at hj
      rw [hget j hj]
      exact hcell j (by omega)

theorem cellsInt : Tryz.prog.cellsOf 3 = 1 := by kernel_rfl
/-- A slice of numbers that can be read. -/
theorem rdI_of {fuel : Nat} {v : Value} {x : DataW H × List MemPlace} (h : DataW.trod enc Tryz.prog W 0 (fun _ => true) true fuel 28 [v] = some x) : ∃ l, RdI W.heap.size W v l := by
  rcases open_slice Tryz.underlying28 h with ⟨hcs, _⟩ | ⟨a, len, cap, m, n, D, Pl, hcs, _, hl, hm, hmm, hx, hel⟩
  · injection hcs with hcs _
    subst hcs
    exact ⟨[], none, 0, rfl, Nat.zero_le _, fun j hj => absurd hj (by simp)⟩
  · injection hcs with hcs _
    subst hcs
    rw [cellsInt] at hel
    have hmc : m = cap := by simpa using hmm
    have each : ∀ i, i < len → ∃ q : Int, W.cell? (a.add i) = some (.int .i64 q) := by
      intro i hi
      obtain ⟨cs', h1, h2⟩ := hel i (by omega)
      obtain ⟨k, e0, _, _⟩ := DataW.trod_int Tryz.underlying3 h2
      obtain ⟨_, _, zc⟩ := World.cells?_some h1
      have := zc 0 (by omega)
      rw [e0] at this
      exact ⟨k, by simpa [Addr.add] using this⟩
    obtain ⟨q, hq⟩ := choose_lt each
    have hlen : ((List.range len).map q).length = len := by simp
    refine ⟨(List.range len).map q, some a, cap, by rw [hlen], by rw [hlen]; unfold maxLen at hm; omega, fun j hj => ?_⟩
    rw [hlen] at hj
    have hget : ((List.range len).map q).getD j 0 = q j := by simp [List.getD_eq_getElem?_getD, hj]
    rw [hget]
    have := blkN_of (hq j hj)
    rw [addBlock] at this
    exact ⟨a, rfl, this, hq j hj⟩

theorem list6 {α : Type} {l : List α} (h : l.length = 6) : ∃ a b c d e f, l = [a, b, c, d, e, f] := by
  match l, h with
  | [a, b, c, d, e, f], _ => exact ⟨a, b, c, d, e, f, rfl⟩
theorem cellsNod : Tryz.prog.cellsOf 37 = 6 := by kernel_rfl
theorem bytesNod : Tryz.prog.bytesOf 37 = 88 := by kernel_rfl
set_option maxRecDepth 100000 in
/-- One node, from its six cells. -/
theorem nod_of {fuel : Nat} {cs : List Value} {x : DataW H × List MemPlace} (h : DataW.trod enc Tryz.prog W 0 (fun _ => true) true fuel 37 cs = some x) :
    ∃ (t : Nod) (pv kv : Value), cs = [.int .i64 t.kind, .string ⟨t.text.toArray⟩, pv, kv, .int .i64 t.line, .int .i64 t.column] ∧ RdP W.heap.size W pv t.path ∧ RdI W.heap.size W kv t.kids := by
  obtain ⟨xs, n, _, hx, hl, hxl, hf⟩ := DataW.trod_struct Tryz.underlying37 h
  rw [cellsNod] at hl
  obtain ⟨y0, y1, y2, y3, y4, y5, rfl⟩ := list6 (show xs.length = 6 from hxl)
  obtain ⟨v0, v1, v2, v3, v4, v5, rfl⟩ := list6 hl
  clear hxl hl
  have g0 : DataW.trod enc Tryz.prog W 0 (fun _ => true) true n 34 [v0] = some y0 := hf 0 _ rfl
  have g1 : DataW.trod enc Tryz.prog W 0 (fun _ => true) true n 9 [v1] = some y1 := hf 1 _ rfl
  have g2 : DataW.trod enc Tryz.prog W 0 (fun _ => true) true n 35 [v2] = some y2 := hf 2 _ rfl
  have g3 : DataW.trod enc Tryz.prog W 0 (fun _ => true) true n 28 [v3] = some y3 := hf 3 _ rfl
  have g4 : DataW.trod enc Tryz.prog W 0 (fun _ => true) true n 3 [v4] = some y4 := hf 4 _ rfl
  have g5 : DataW.trod enc Tryz.prog W 0 (fun _ => true) true n 3 [v5] = some y5 := hf 5 _ rfl
  obtain ⟨k, e0, _, _⟩ := DataW.trod_int Tryz.underlying34 g0
  obtain ⟨s, e1, _, _⟩ := DataW.trod_string Tryz.underlying9 g1
  obtain ⟨p, hp⟩ := rdP_of g2
  obtain ⟨ks, hk⟩ := rdI_of g3
  obtain ⟨l4, e4, _, _⟩ := DataW.trod_int Tryz.underlying3 g4
  obtain ⟨l5, e5, _, _⟩ := DataW.trod_int Tryz.underlying3 g5
  injection e0 with e0 _
  injection e1 with e1 _
  injection e4 with e4 _
  injection e5 with e5 _
  subst e0 e1 e4 e5
  exact ⟨⟨k, s.data.toList, p, ks, l4, l5⟩, v2, v3, rfl, hp, hk⟩

/-- A row of nodes that a call is handed can be read. -/
theorem rdN_of {fuel : Nat} {v : Value} {x : DataW H × List MemPlace} (h : DataW.trod enc Tryz.prog W 0 (fun _ => true) true fuel 22 [v] = some x) (hw : ∀ n ∈ x.1.weights Tryz.prog 22, n ≤ reachBytes) : ∃ l, RdN W.heap.size W v l := by
  rcases open_slice Tryz.underlying22 h with ⟨hcs, _⟩ | ⟨a, len, cap, m, n, D, Pl, hcs, _, hl, hm, hmm, hx, hel⟩
  · injection hcs with hcs _
    subst hcs
    exact ⟨[], none, 0, rfl, Nat.zero_le _, fun j hj => absurd hj (by simp)⟩
  · injection hcs with hcs _
    subst hcs
    rw [cellsNod] at hel
    have hmc : m = cap := by simpa using hmm
    have hbig : len ≤ 8796093022208 := by
      have h1 := hw _ (by
        rw [hx]
        simp only [DataW.weights, Tryz.underlying22]
        exact List.mem_cons_self)
      rw [reachN_val, bytesNod] at h1
      have h2 : ((List.range len).map D).length = len := by simp
      rw [h2] at h1
      omega
    have each : ∀ i, i < len → ∃ q : Nod × Value × Value, (∃ cs', W.cells? 0 (a.add (i * 6)) 6 = some cs' ∧ cs' = [.int .i64 q.1.kind, .string ⟨q.1.text.toArray⟩, q.2.1, q.2.2, .int .i64 q.1.line, .int .i64 q.1.column]) ∧ RdP W.heap.size W q.2.1 q.1.path ∧ RdI W.heap.size W q.2.2 q.1.kids := by
      intro i hi
      obtain ⟨cs', h1, h2⟩ := hel i (by omega)
      obtain ⟨t, pv, kv, e, r1, r2⟩ := nod_of h2
      exact ⟨(t, pv, kv), ⟨cs', h1, e⟩, r1, r2⟩
    have : Inhabited (Nod × Value × Value) := ⟨(Nod.zero, undef, undef)⟩
    obtain ⟨q, hq⟩ := choose_lt each
    have hlen : ((List.range len).map fun i => (q i).1).length = len := by simp
    refine ⟨(List.range len).map fun i => (q i).1, some a, cap, by rw [hlen], by rw [hlen]; exact hbig, fun j hj => ?_⟩
    rw [hlen] at hj
    have hget : ((List.range len).map fun i => (q i).1).getD j Nod.zero = (q j).1 := by simp [List.getD_eq_getElem?_getD, hj]
    rw [hget]
    have h0 : 0 < len := by omega
    obtain ⟨⟨cs0, z1, z2⟩, _⟩ := hq 0 h0
    obtain ⟨_, _, zc⟩ := World.cells?_some z1
    have za : W.cell? a = some (.int .i64 (q 0).1.kind) := by
      have := zc 0 (by omega)
      rw [z2] at this
      simpa [Addr.add] using this
    have hsp := spotN_of_cell za
    obtain ⟨g, o, sp⟩ := a
    simp only at hsp
    subst hsp
    obtain ⟨⟨cs', c1, c2⟩, r1, r2⟩ := hq j hj
    obtain ⟨_, _, cc⟩ := World.cells?_some c1
    rw [c2] at cc
    have ea : ∀ i : Nat, ((⟨g, o, none⟩ : Addr).add (j * 6)).add i = ⟨g, o + j * 6 + i, none⟩ := fun i => by
      rw [add_add]
      unfold Addr.add
      split
      · first | (simp; done) | (simp; omega)
      · first | (simp; done) | (simp; omega)
    refine ⟨g, o, (q j).2.1, (q j).2.2, rfl, blkN_of za, ?_⟩
    have d0 := cc 0 (by omega)
    have d1 := cc 1 (by omega)
    have d2 := cc 2 (by omega)
    have d3 := cc 3 (by omega)
    have d4 := cc 4 (by omega)
    have d5 := cc 5 (by omega)
    rw [ea] at d0 d1 d2 d3 d4 d5
    exact ⟨by simpa using d0, by simpa using d1, by simpa using d2, by simpa using d3, by simpa using d4, by simpa using d5, r1, r2⟩
end
end Go.Proofs.YtbcmpacmoofdkaaGreatDoor
/- Nodes that a call is handed, of bulk at most 1048576: what their reading gives. -/
namespace Go.Proofs.YtbcmpacmoofdkaaGreatDoor
open Go.ChangeShapes Go.WideShapes Go.ChangeAt Go.RowKit
open Go.Deep (open_slice choose_lt add_add)

theorem bulkN_mem {H : Type} {d : DataW H} : ∀ {ds : List (DataW H)}, d ∈ ds → Rows.uptoBulk d ≤ Rows.uptoBulkAll ds
  | a :: r, h => by
    simp only [Rows.uptoBulkAll]
    rcases List.mem_cons.1 h with rfl | h
    · omega
    · have := bulkN_mem h; omega
theorem bulkN_pos {H : Type} (d : DataW H) : 1 ≤ Rows.uptoBulk d := by
  cases d with
  | lit l => cases l <;> simp [Rows.uptoBulk]
  | _ => simp [Rows.uptoBulk]
theorem bulkN_len {H : Type} : ∀ (ds : List (DataW H)), ds.length ≤ Rows.uptoBulkAll ds
  | [] => Nat.zero_le _
  | a :: r => by
    have h1 := bulkN_pos a
    have h2 := bulkN_len r
    simp only [Rows.uptoBulkAll, List.length_cons]
    omega

section
variable {H : Type} {enc : TypeId × Value → H} {W : World}

/-- A slice of strings that can be read. -/
theorem rdP_ofB {fuel : Nat} {v : Value} {x : DataW H × List MemPlace} (h : DataW.trod enc Tryz.prog W 0 (fun _ => true) true fuel 35 [v] = some x) (hb : Rows.uptoBulk x.1 ≤ 1048576) : ∃ p, RdP W.heap.size W v p ∧ p.length ≤ 1048576 ∧ ∀ s ∈ p, s.length ≤ 1048576 := by
  rcases open_strings Tryz.underlying35 Tryz.underlying9 (by kernel_rfl) h with ⟨hcs, _⟩ | ⟨a, len, cap, ss, hcs, _, hl, hm, hss, hx, hcell, _⟩
  · injection hcs with hcs _
    subst hcs
    exact ⟨[], ⟨none, 0, rfl, by simp, fun j hj => absurd hj (by simp)⟩, by simp, fun s hs => absurd hs (by simp)⟩
  · injection hcs with hcs _
    subst hcs
    have hsl : ss.length = cap := by simpa using hss
    have hlen : ((ss.take len).map fun s => s.data.toList).length = len := by rw [List.length_map, List.length_take]; omega
    have hget : ∀ j, j < len → ((ss.take len).map fun s => s.data.toList).getD j [] = (ss.getD j ByteArray.empty).data.toList := by
      intro j hj
      have : j < ss.length := by omega
      simp [List.getD_eq_getElem?_getD, hj, this]
    have hb2 := hb
    rw [hx] at hb2
    simp only [Rows.uptoBulk] at hb2
    have hln : (strs (H := H) (ss.take len)).length = len := by simp [strs]; omega
    have hl9 := bulkN_len (strs (H := H) (ss.take len))
    refine ⟨(ss.take len).map fun s => s.data.toList, ⟨some a, cap, by rw [hlen], by rw [hlen]; unfold maxLen at hm; omega, fun j hj => ⟨a, rfl, ?_, ?_⟩⟩, by rw [hlen]; omega, fun s hs => ?_⟩
    rotate_left 2
    · obtain ⟨z, hz, rfl⟩ := List.mem_map.1 hs
      have h9 : Rows.uptoBulk (DataW.lit (Lit.string z.data.toList) : DataW H) ≤ Rows.uptoBulkAll (strs (ss.take len)) := bulkN_mem (List.mem_map.2 ⟨z, hz, rfl⟩)
      simp only [Rows.uptoBulk] at h9
      omega
    · rw [hlen] at hj
      have := blkN_of (hcell j (by omega))
      rwa [addBlock] at this
    · rw [hlen] at hj
      rw [hget j hj]
      exact hcell j (by omega)


/-- A slice of numbers that can be read. -/
theorem rdI_ofB {fuel : Nat} {v : Value} {x : DataW H × List MemPlace} (h : DataW.trod enc Tryz.prog W 0 (fun _ => true) true fuel 28 [v] = some x) (hb : Rows.uptoBulk x.1 ≤ 1048576) : ∃ l, RdI W.heap.size W v l ∧ l.length ≤ 1048576 := by
  rcases open_slice Tryz.underlying28 h with ⟨hcs, _⟩ | ⟨a, len, cap, m, n, D, Pl, hcs, _, hl, hm, hmm, hx, hel⟩
  · injection hcs with hcs _
    subst hcs
    exact ⟨[], ⟨none, 0, rfl, Nat.zero_le _, fun j hj => absurd hj (by simp)⟩, by simp⟩
  · injection hcs with hcs _
    subst hcs
    rw [cellsInt] at hel
    have hmc : m = cap := by simpa using hmm
    have each : ∀ i, i < len → ∃ q : Int, W.cell? (a.add i) = some (.int .i64 q) := by
      intro i hi
      obtain ⟨cs', h1, h2⟩ := hel i (by omega)
      obtain ⟨k, e0, _, _⟩ := DataW.trod_int Tryz.underlying3 h2
      obtain ⟨_, _, zc⟩ := World.cells?_some h1
      have := zc 0 (by omega)
      rw [e0] at this
      exact ⟨k, by simpa [Addr.add] using this⟩
    obtain ⟨q, hq⟩ := choose_lt each
    have hlen : ((List.range len).map q).length = len := by simp
    have hb2 := hb
    rw [hx] at hb2
    simp only [Rows.uptoBulk] at hb2
    have hl9 := bulkN_len ((List.range len).map D)
    rw [List.length_map, List.length_range] at hl9
    refine ⟨(List.range len).map q, ⟨some a, cap, by rw [hlen], by rw [hlen]; unfold maxLen at hm; omega, fun j hj => ?_⟩, by rw [hlen]; omega⟩
    rw [hlen] at hj
    have hget : ((List.range len).map q).getD j 0 = q j := by simp [List.getD_eq_getElem?_getD, hj]
    rw [hget]
    have := blkN_of (hq j hj)
    rw [addBlock] at this
    exact ⟨a, rfl, this, hq j hj⟩


set_option maxRecDepth 100000 in
/-- One node, from its six cells. -/
theorem nod_ofB {fuel : Nat} {cs : List Value} {x : DataW H × List MemPlace} (h : DataW.trod enc Tryz.prog W 0 (fun _ => true) true fuel 37 cs = some x) (hb : Rows.uptoBulk x.1 ≤ 1048576) :
    ∃ (t : Nod) (pv kv : Value), cs = [.int .i64 t.kind, .string ⟨t.text.toArray⟩, pv, kv, .int .i64 t.line, .int .i64 t.column] ∧ RdP W.heap.size W pv t.path ∧ RdI W.heap.size W kv t.kids ∧ SmallN t := by
  obtain ⟨xs, n, _, hx, hl, hxl, hf⟩ := DataW.trod_struct Tryz.underlying37 h
  rw [cellsNod] at hl
  obtain ⟨y0, y1, y2, y3, y4, y5, rfl⟩ := list6 (show xs.length = 6 from hxl)
  obtain ⟨v0, v1, v2, v3, v4, v5, rfl⟩ := list6 hl
  clear hxl hl
  have g0 : DataW.trod enc Tryz.prog W 0 (fun _ => true) true n 34 [v0] = some y0 := hf 0 _ rfl
  have g1 : DataW.trod enc Tryz.prog W 0 (fun _ => true) true n 9 [v1] = some y1 := hf 1 _ rfl
  have g2 : DataW.trod enc Tryz.prog W 0 (fun _ => true) true n 35 [v2] = some y2 := hf 2 _ rfl
  have g3 : DataW.trod enc Tryz.prog W 0 (fun _ => true) true n 28 [v3] = some y3 := hf 3 _ rfl
  have g4 : DataW.trod enc Tryz.prog W 0 (fun _ => true) true n 3 [v4] = some y4 := hf 4 _ rfl
  have g5 : DataW.trod enc Tryz.prog W 0 (fun _ => true) true n 3 [v5] = some y5 := hf 5 _ rfl
  subst hx
  simp only [Rows.uptoBulk, List.map, Rows.uptoBulkAll] at hb
  obtain ⟨k, e0, _, hkw⟩ := DataW.trod_int Tryz.underlying34 g0
  obtain ⟨s, e1, x1, _⟩ := DataW.trod_string Tryz.underlying9 g1
  obtain ⟨p, hp, hpl, hps⟩ := rdP_ofB g2 (by omega)
  obtain ⟨ks, hk, hkl⟩ := rdI_ofB g3 (by omega)
  obtain ⟨l4, e4, _, _⟩ := DataW.trod_int Tryz.underlying3 g4
  obtain ⟨l5, e5, _, _⟩ := DataW.trod_int Tryz.underlying3 g5
  injection e0 with e0 _
  injection e1 with e1 _
  injection e4 with e4 _
  injection e5 with e5 _
  subst e0 e1 e4 e5
  refine ⟨⟨k, s.data.toList, p, ks, l4, l5⟩, v2, v3, rfl, hp, hk, ⟨?_, ?_, ?_, hpl, hps, hkl⟩⟩
  · have h1 : (decide (IntKind.i64.min ≤ k) && decide (k ≤ IntKind.i64.max)) = true := hkw
    rw [Bool.and_eq_true] at h1
    have h2 : IntKind.i64.min = -9223372036854775808 := by decide
    have h3 := of_decide_eq_true h1.1
    rw [h2] at h3
    exact h3
  · have h1 : (decide (IntKind.i64.min ≤ k) && decide (k ≤ IntKind.i64.max)) = true := hkw
    rw [Bool.and_eq_true] at h1
    have h2 : IntKind.i64.max = 9223372036854775807 := by decide
    have h3 := of_decide_eq_true h1.2
    rw [h2] at h3
    exact h3
  · rw [x1] at hb
    simp only [Rows.uptoBulk] at hb
    show s.data.toList.length ≤ _
    omega


/-- A row of nodes that a call is handed can be read. -/
theorem rdN_ofB {fuel : Nat} {v : Value} {x : DataW H × List MemPlace} (h : DataW.trod enc Tryz.prog W 0 (fun _ => true) true fuel 22 [v] = some x) (hb : Rows.uptoBulk x.1 ≤ 1048576) : ∃ l, RdN W.heap.size W v l ∧ l.length ≤ 1048576 ∧ ∀ j, j < l.length → SmallN (l.getD j Nod.zero) := by
  rcases open_slice Tryz.underlying22 h with ⟨hcs, _⟩ | ⟨a, len, cap, m, n, D, Pl, hcs, _, hl, hm, hmm, hx, hel⟩
  · injection hcs with hcs _
    subst hcs
    exact ⟨[], ⟨none, 0, rfl, Nat.zero_le _, fun j hj => absurd hj (by simp)⟩, by simp, fun j hj => absurd hj (by simp)⟩
  · injection hcs with hcs _
    subst hcs
    rw [cellsNod] at hel
    have hmc : m = cap := by simpa using hmm
    have hb2 := hb
    rw [hx] at hb2
    simp only [Rows.uptoBulk] at hb2
    have hl9 := bulkN_len ((List.range len).map D)
    rw [List.length_map, List.length_range] at hl9
    have hbig : len ≤ 8796093022208 := by omega
    have each : ∀ i, i < len → ∃ q : Nod × Value × Value, (∃ cs', W.cells? 0 (a.add (i * 6)) 6 = some cs' ∧ cs' = [.int .i64 q.1.kind, .string ⟨q.1.text.toArray⟩, q.2.1, q.2.2, .int .i64 q.1.line, .int .i64 q.1.column]) ∧ RdP W.heap.size W q.2.1 q.1.path ∧ RdI W.heap.size W q.2.2 q.1.kids ∧ SmallN q.1 := by
      intro i hi
      obtain ⟨cs', h1, h2⟩ := hel i (by omega)
      have h9 := bulkN_mem (List.mem_map.2 ⟨i, List.mem_range.2 hi, rfl⟩ : D i ∈ (List.range len).map D)
      obtain ⟨t, pv, kv, e, r1, r2, r3⟩ := nod_ofB h2 (by show Rows.uptoBulk (D i) ≤ _; omega)
      exact ⟨(t, pv, kv), ⟨cs', h1, e⟩, r1, r2, r3⟩
    have : Inhabited (Nod × Value × Value) := ⟨(Nod.zero, undef, undef)⟩
    obtain ⟨q, hq⟩ := choose_lt each
    have hlen : ((List.range len).map fun i => (q i).1).length = len := by simp
    refine ⟨(List.range len).map fun i => (q i).1, ⟨some a, cap, by rw [hlen], by rw [hlen]; exact hbig, fun j hj => ?_⟩, by rw [hlen]; omega, fun j hj => ?_⟩
    rotate_left
    · rw [hlen] at hj
      have hget : ((List.range len).map fun i => (q i).1).getD j Nod.zero = (q j).1 := by simp [List.getD_eq_getElem?_getD, hj]
      rw [hget]
      exact (hq j hj).2.2.2
    rw [hlen] at hj
    have hget : ((List.range len).map fun i => (q i).1).getD j Nod.zero = (q j).1 := by simp [List.getD_eq_getElem?_getD, hj]
    rw [hget]
    have h0 : 0 < len := by omega
    obtain ⟨⟨cs0, z1, z2⟩, _⟩ := hq 0 h0
    obtain ⟨_, _, zc⟩ := World.cells?_some z1
    have za : W.cell? a = some (.int .i64 (q 0).1.kind) := by
      have := zc 0 (by omega)
      rw [z2] at this
      simpa [Addr.add] using this
    have hsp := spotN_of_cell za
    obtain ⟨g, o, sp⟩ := a
    simp only at hsp
    subst hsp
    obtain ⟨⟨cs', c1, c2⟩, r1, r2, _⟩ := hq j hj
    obtain ⟨_, _, cc⟩ := World.cells?_some c1
    rw [c2] at cc
    have ea : ∀ i : Nat, ((⟨g, o, none⟩ : Addr).add (j * 6)).add i = ⟨g, o + j * 6 + i, none⟩ := fun i => by
      rw [add_add]
      unfold Addr.add
      split
      · first | (simp; done) | (simp; omega)
      · first | (simp; done) | (simp; omega)
    refine ⟨g, o, (q j).2.1, (q j).2.2, rfl, blkN_of za, ?_⟩
    have d0 := cc 0 (by omega)
    have d1 := cc 1 (by omega)
    have d2 := cc 2 (by omega)
    have d3 := cc 3 (by omega)
    have d4 := cc 4 (by omega)
    have d5 := cc 5 (by omega)
    rw [ea] at d0 d1 d2 d3 d4 d5
    exact ⟨by simpa using d0, by simpa using d1, by simpa using d2, by simpa using d3, by simpa using d4, by simpa using d5, r1, r2⟩
end
end Go.Proofs.YtbcmpacmoofdkaaGreatDoor
