/- Nodes below others, by marks. No program is named here. -/
import Derived.WalkKit
import Derived.ProofKit
import Derived.Test.YtbcmpacmoofdkaaGreatDoorProg
import Derived.OpenShut
import Derived.Below
import Derived.WalkLawsBesides
import Derived.OwnWalk
import Derived.Laws.OwnMore
import Derived.WalkSmall
import Derived.Laws.MakeOwn
namespace Go.Proofs.YtbcmpacmoofdkaaGreatDoor

def hitI (l : List Int) (j : Nat) : Bool := l.any (· == (j : Int))
/-- One node's kids are marked, if it is. -/
def markS (K : Nat → List Int) (k : Nat) (M : Nat → Bool) : Nat → Bool := fun j => M j || (M k && (decide (j < k) && hitI (K k) j))
/-- From node k - 1 down to 0. -/
def markF (K : Nat → List Int) : Nat → (Nat → Bool) → Nat → Bool
  | 0, M => M
  | k + 1, M => markF K k (markS K k M)
def rootsM (n : Nat) (roots : List Int) : Nat → Bool := fun j => decide (j < n) && hitI roots j
def belowN (K : Nat → List Int) (n : Nat) (roots : List Int) : List Nat := (List.range n).filter (markF K n (rootsM n roots))
theorem markS_none {K : Nat → List Int} {k : Nat} {M : Nat → Bool} (h : M k = false) : markS K k M = M := by
  funext j
  unfold markS
  rw [h]; simp
theorem markS_high {K : Nat → List Int} {k j : Nat} {M : Nat → Bool} (h : k ≤ j) : markS K k M j = M j := by
  unfold markS
  rw [decide_eq_false (by omega)]; simp
theorem markF_high (K : Nat → List Int) : ∀ (k j : Nat) (M : Nat → Bool), k ≤ j → markF K k M j = M j := by
  intro k
  induction k with
  | zero => intro j M _; rfl
  | succ k ih =>
    intro j M h
    show markF K k (markS K k M) j = M j
    rw [ih j _ (by omega), markS_high (by omega)]
theorem markF_skip (K : Nat → List Int) (n : Nat) (M : Nat → Bool) : ∀ d : Nat, (∀ k, n ≤ k → M k = false) → markF K (n + d) M = markF K n M := by
  intro d
  induction d with
  | zero => intro _; rfl
  | succ d ih =>
    intro h
    show markF K (n + d) (markS K (n + d) M) = _
    rw [markS_none (h _ (by omega))]
    exact ih h
theorem roots_same {n m : Nat} {roots : List Int} (hnm : n ≤ m) (h : ∀ j, n ≤ j → j < m → hitI roots j = false) : rootsM m roots = rootsM n roots := by
  funext j
  unfold rootsM
  by_cases h1 : j < n
  · rw [decide_eq_true h1, decide_eq_true (show j < m by omega)]
  · by_cases h2 : j < m
    · rw [h j (by omega) h2]; simp
    · rw [decide_eq_false h1, decide_eq_false h2]
/-- How many nodes are looked at plays no part, as long as no root lies behind them. -/
theorem below_same (K : Nat → List Int) {n m : Nat} {roots : List Int} (hnm : n ≤ m) (h : ∀ j, n ≤ j → j < m → hitI roots j = false) : belowN K m roots = belowN K n roots := by
  unfold belowN
  obtain ⟨d, rfl⟩ : ∃ d, m = n + d := ⟨m - n, by omega⟩
  have hz : ∀ k, n ≤ k → rootsM n roots k = false := fun k hk => by unfold rootsM; rw [decide_eq_false (by omega)]; rfl
  rw [roots_same hnm h, markF_skip K n _ d hz, List.range_add, List.filter_append]
  have : ((List.range d).map fun x => n + x).filter (markF K n (rootsM n roots)) = [] := by
    rw [List.filter_eq_nil_iff]
    intro a ha
    obtain ⟨x, _, rfl⟩ := List.mem_map.1 ha
    rw [markF_high K n _ _ (by omega), hz _ (by omega)]
    simp
  rw [this, List.append_nil]
/-- The greatest root's number, and one more. -/
def reachI (n : Nat) : List Int → Nat
  | [] => 0
  | r :: rs => if 0 ≤ r ∧ r < (n : Int) then max (r.toNat + 1) (reachI n rs) else reachI n rs
theorem reach_le (n : Nat) : ∀ l : List Int, reachI n l ≤ n
  | [] => Nat.zero_le _
  | r :: rs => by
    unfold reachI
    have := reach_le n rs
    split
    · omega
    · exact this
theorem reach_hit (n : Nat) : ∀ (l : List Int) (j : Nat), reachI n l ≤ j → j < n → hitI l j = false
  | [], _, _, _ => rfl
  | r :: rs, j, h, hj => by
    unfold reachI at h
    have ih := fun g => reach_hit n rs j g hj
    show ((r == (j : Int)) || hitI rs j) = false
    split at h
    · rw [ih (by omega), Bool.or_false, beq_eq_false_iff_ne]
      omega
    · rename_i h2
      rw [ih h, Bool.or_false, beq_eq_false_iff_ne]
      intro e
      exact h2 ⟨by omega, by omega⟩
end Go.Proofs.YtbcmpacmoofdkaaGreatDoor
/- Rows of numbers and of nodes that are read; marks; which kids are lower. -/
namespace Go.Proofs.YtbcmpacmoofdkaaGreatDoor
open Go.ChangeShapes Go.WideShapes Go.ChangeAt Go.RowKit

structure Hid' (p : Prop) : Prop where
  out : p
theorem hide' {p : Prop} (h : p) : Hid' p := ⟨h⟩

/-- A slice of numbers that can be read, its cells below B. -/
def RdI (B : Nat) (w : World) (v : Value) (l : List Int) : Prop :=
  ∃ ao cap, v = .slice ao l.length cap ∧ l.length ≤ 9223372036854775807 ∧ ∀ j, j < l.length → ∃ a : Addr, ao = some a ∧ a.block < B ∧ w.cell? (a.add j) = some (.int .i64 (l.getD j 0))
theorem addBlock (a : Addr) (j : Nat) : (a.add j).block = a.block := by
  unfold Addr.add
  split <;> rfl
theorem rdI_below {B : Nat} {w w' : World} {v : Value} {l : List Int} (h : RdI B w v l) (b : Below B w w') : RdI B w' v l := by
  obtain ⟨ao, cap, hv, hm, hc⟩ := h
  refine ⟨ao, cap, hv, hm, fun j hj => ?_⟩
  obtain ⟨a, ha, hb, hx⟩ := hc j hj
  exact ⟨a, ha, hb, by rw [b.cell (p := a.add j) (by rw [addBlock]; exact hb)]; exact hx⟩
theorem rdI_mono {B B' : Nat} {w : World} {v : Value} {l : List Int} (h : RdI B w v l) (hb : B ≤ B') : RdI B' w v l := by
  obtain ⟨ao, cap, hv, hm, hc⟩ := h
  refine ⟨ao, cap, hv, hm, fun j hj => ?_⟩
  obtain ⟨a, ha, hl, hx⟩ := hc j hj
  exact ⟨a, ha, Nat.lt_of_lt_of_le hl hb, hx⟩
/-- Marks in a block of their own. -/
structure MarkR (w : World) (g n : Nat) (M : Nat → Bool) : Prop where
  cells : ∀ j, j < n → w.cell? ⟨g, j, none⟩ = some (.bool (M j))
  froze : ∀ j, j < n → w.frozen? ⟨g, j, none⟩ = false
theorem MarkR.below {w w' : World} {g n B : Nat} {M : Nat → Bool} (h : MarkR w g n M) (b : Below B w w') (hg : g < B) : MarkR w' g n M :=
  ⟨fun j hj => by rw [b.cell (p := ⟨g, j, none⟩) hg]; exact h.cells j hj, fun j hj => by rw [b.frozen (p := ⟨g, j, none⟩) hg]; exact h.froze j hj⟩
theorem MarkR.congr {w : World} {g n : Nat} {M N : Nat → Bool} (h : MarkR w g n M) (e : ∀ j, j < n → N j = M j) : MarkR w g n N :=
  ⟨fun j hj => by rw [e j hj]; exact h.cells j hj, h.froze⟩
theorem MarkR.set {w : World} {g n m : Nat} {M : Nat → Bool} (h : MarkR w g n M) (hm : m < n) : MarkR (w.setCell ⟨g, m, none⟩ (.bool true)) g n (fun j => M j || decide (j = m)) := by
  refine ⟨fun j hj => ?_, fun j hj => by rw [World.frozen?_setCell]; exact h.froze j hj⟩
  by_cases e : j = m
  · subst e
    rw [decide_eq_true rfl, Bool.or_true]
    exact World.cell?_setCell_same _ _ _ (h.cells j hj)
  · rw [decide_eq_false e, Bool.or_false]
    exact (World.cell?_setCell_other _ _ _ _ (by simp <;> omega)).trans (h.cells j hj)
theorem hitI_snoc (l : List Int) (k j : Nat) (h : k < l.length) : hitI (l.take (k + 1)) j = (hitI (l.take k) j || (l.getD k 0 == (j : Int))) := by
  unfold hitI
  rw [List.take_succ_eq_append_getElem h, List.any_append]
  simp [List.getD_eq_getElem?_getD, h]

set_option maxHeartbeats 4000000 in
theorem lower_any (x i : Int) (w : World) : Calls Tryz.prog 23 #[.int .i64 x, .int .i64 i] w fun e w' => e = .returned (.bool (decide (0 ≤ x) && decide (x < i))) ∧ w' = w := by
  by_cases h : 0 ≤ x
  · have h1 : decide (x ≥ 0) = true := by simp; omega
    go_enter Tryz.func23, Tryz.ntmps23
    go_wp2
    go_ret
    first | (simp; done) | simp [h]
  · have h1 : decide (x ≥ 0) = false := by simp; omega
    go_enter Tryz.func23, Tryz.ntmps23
    go_wp2
    go_ret
    first | (simp; done) | simp [h]

set_option maxHeartbeats 4000000 in
theorem within_any (ao : Option Addr) (n cap : Nat) (x : Int) (w : World) : Calls Tryz.prog 13 #[.slice ao n cap, .int .i64 x] w fun e w' => e = .returned (.bool (decide (0 ≤ x) && decide (x < (n : Int)))) ∧ w' = w := by
  by_cases h : 0 ≤ x
  · have h1 : decide (x ≥ 0) = true := by simp; omega
    go_enter Tryz.func13, Tryz.ntmps13
    go_wp2
    go_ret
    first | (simp; done) | simp [h]
  · have h1 : decide (x ≥ 0) = false := by simp; omega
    go_enter Tryz.func13, Tryz.ntmps13
    go_wp2
    go_ret
    first | (simp; done) | simp [h]

set_option maxRecDepth 100000 in
set_option maxHeartbeats 8000000 in
theorem meetKids_any (B g n i : Nat) (M : Nat → Bool) (kv : Value) (ks : List Int) (w : World) (hB : B ≤ g) (hi : i ≤ n) (_hn : n ≤ 8796093022208) (hrow : MarkR w g n M) (hk : RdI B w kv ks) :
    Calls Tryz.prog 19 #[.slice (some ⟨g, 0, none⟩) n n, kv, .int .i64 (i : Int)] w fun e w' => e = .returned (.tuple #[]) ∧ MarkR w' g n (fun j => M j || (decide (j < i) && hitI ks j)) ∧ Below B w w' ∧ w'.heap.size = w.heap.size := by
  obtain ⟨ao, cap, rfl, hm, hc⟩ := hk
  have HC := hide' hc
  have HR := hide' hrow
  obtain ⟨L, hL⟩ : ∃ L, ks.length = L := ⟨_, rfl⟩
  have HL := hide' hL
  rw [hL] at hm ⊢
  clear hL hc hrow
  go_enter Tryz.func19, Tryz.ntmps19
  go_wp2
  go_loopw [10] (fun vi wr => ∃ k : Nat, vi = .int .i64 (k : Int) ∧ k ≤ L ∧ Hid' (MarkR wr g n (fun j => M j || (decide (j < i) && hitI (ks.take k) j))) ∧ Below B w wr ∧ wr.heap.size = w.heap.size) (fun vi _ => L - (intOf vi).toNat)
  case atStart => exact ⟨0, rfl, Nat.zero_le _, ⟨HR.out.congr fun j hj => by simp [hitI]⟩, Below.refl _ _, rfl⟩
  case round =>
    obtain ⟨k, rfl, hkL, HM, bel, hsz⟩ := hrel
    by_cases h1 : k < L
    · obtain ⟨a, ea, hab, hcell⟩ := HC.out k (by have := HL.out; omega)
      subst ea
      rw [← bel.cell (p := a.add k) (by rw [addBlock]; exact hab)] at hcell
      have HS := hide' (fun j => hitI_snoc ks k j (by have := HL.out; omega))
      obtain ⟨x, hx⟩ : ∃ x, ks.getD k 0 = x := ⟨_, rfl⟩
      rw [hx] at hcell HS
      have CL := hide' (fun W => lower_any x (i : Int) W)
      by_cases hlow : 0 ≤ x ∧ x < (i : Int)
      · obtain ⟨m, rfl⟩ : ∃ m : Nat, x = (m : Int) := ⟨x.toNat, by omega⟩
        have hmi : m < i := by omega
        have hmn : m < n := by omega
        have e0 : (decide (0 ≤ (m : Int)) && decide ((m : Int) < (i : Int))) = true := by simp; omega
        rw [e0] at CL
        have cm := HM.out.cells m hmn
        have fm := HM.out.froze m hmn
        clear e0 hlow hx
        go_wp2_with (go_at_call 23; refine (CL.out _).mono ?_; rintro e w1 ⟨rfl, h9⟩; replace h9 := h9.symm; subst h9)
        go_roundw
        case rel =>
          refine ⟨k + 1, by go_num, by omega, ⟨(HM.out.set hmn).congr fun j hj => ?_⟩, bel.setCell (p := ⟨g, m, none⟩) hB _, by simpa using hsz⟩
          rw [HS.out j]
          by_cases e : j = m
          · subst e; simp [hmi]
          · have e2 : ((m : Int) == (j : Int)) = false := by simp; omega
            rw [e2, decide_eq_false e]; simp
        case measure => simp [intOf]; omega
      · have e0 : (decide (0 ≤ x) && decide (x < (i : Int))) = false := by
          rw [Bool.and_eq_false_iff]
          by_cases h0 : 0 ≤ x
          · exact .inr (decide_eq_false (fun g => hlow ⟨h0, g⟩))
          · exact .inl (decide_eq_false h0)
        rw [e0] at CL
        have hlow' := hide' hlow
        clear e0 hlow hx
        go_wp2_with (go_at_call 23; refine (CL.out _).mono ?_; rintro e w1 ⟨rfl, h9⟩; replace h9 := h9.symm; subst h9)
        go_roundw
        case rel =>
          refine ⟨k + 1, by go_num, by omega, ⟨HM.out.congr fun j hj => ?_⟩, bel, hsz⟩
          rw [HS.out j]
          by_cases hj : j < i
          · have e2 : (x == (j : Int)) = false := by
              rw [beq_eq_false_iff_ne]
              intro e
              exact hlow'.out ⟨by omega, by omega⟩
            rw [e2, Bool.or_false]
          · rw [decide_eq_false hj]; simp
        case measure => simp [intOf]; omega
    · have HT : ks.take k = ks := List.take_of_length_le (by have := HL.out; omega)
      rw [HT] at HM
      have hkl : decide ((k : Int) < (L : Int)) = false := by simp; omega
      go_wp2
      go_end0
      exact ⟨rfl, HM.out, bel, hsz⟩
end Go.Proofs.YtbcmpacmoofdkaaGreatDoor
/- Which nodes are below others: the program's Below. -/
namespace Go.Proofs.YtbcmpacmoofdkaaGreatDoor
open Go.ChangeShapes Go.WideShapes Go.ChangeAt Go.RowKit

structure Nod where
  kind : Int
  text : List UInt8
  path : List (List UInt8)
  kids : List Int
  line : Int
  column : Int
def Nod.zero : Nod := ⟨0, [], [], [], 0, 0⟩
def RdP (B : Nat) (w : World) (v : Value) (p : List (List UInt8)) : Prop :=
  ∃ ao cap, v = .slice ao p.length cap ∧ p.length ≤ 9223372036854775807 ∧ ∀ j, j < p.length → ∃ a : Addr, ao = some a ∧ a.block < B ∧ w.cell? (a.add j) = some (.string ⟨(p.getD j []).toArray⟩)
theorem rdP_below {B : Nat} {w w' : World} {v : Value} {l : List (List UInt8)} (h : RdP B w v l) (b : Below B w w') : RdP B w' v l := by
  obtain ⟨ao, cap, hv, hm, hc⟩ := h
  refine ⟨ao, cap, hv, hm, fun j hj => ?_⟩
  obtain ⟨a, ha, hb, hx⟩ := hc j hj
  exact ⟨a, ha, hb, by rw [b.cell (p := a.add j) (by rw [addBlock]; exact hb)]; exact hx⟩
/-- A node's six cells. -/
structure NodAt (B : Nat) (w : World) (g o : Nat) (t : Nod) (pv kv : Value) : Prop where
  c0 : w.cell? ⟨g, o, none⟩ = some (.int .i64 t.kind)
  c1 : w.cell? ⟨g, o + 1, none⟩ = some (.string ⟨t.text.toArray⟩)
  c2 : w.cell? ⟨g, o + 2, none⟩ = some pv
  c3 : w.cell? ⟨g, o + 3, none⟩ = some kv
  c4 : w.cell? ⟨g, o + 4, none⟩ = some (.int .i64 t.line)
  c5 : w.cell? ⟨g, o + 5, none⟩ = some (.int .i64 t.column)
  rp : RdP B w pv t.path
  rk : RdI B w kv t.kids
theorem NodAt.below {B : Nat} {w w' : World} {g o : Nat} {t : Nod} {pv kv : Value} (h : NodAt B w g o t pv kv) (b : Below B w w') (hg : g < B) : NodAt B w' g o t pv kv :=
  ⟨by rw [b.cell (p := ⟨g, o, none⟩) hg]; exact h.c0, by rw [b.cell (p := ⟨g, o + 1, none⟩) hg]; exact h.c1, by rw [b.cell (p := ⟨g, o + 2, none⟩) hg]; exact h.c2, by rw [b.cell (p := ⟨g, o + 3, none⟩) hg]; exact h.c3, by rw [b.cell (p := ⟨g, o + 4, none⟩) hg]; exact h.c4, by rw [b.cell (p := ⟨g, o + 5, none⟩) hg]; exact h.c5, rdP_below h.rp b, rdI_below h.rk b⟩
/-- A row of nodes that can be read, its cells below B. -/
def RdN (B : Nat) (w : World) (v : Value) (l : List Nod) : Prop :=
  ∃ ao cap, v = .slice ao l.length cap ∧ l.length ≤ 8796093022208 ∧ ∀ j, j < l.length → ∃ (g o : Nat) (pv kv : Value), ao = some ⟨g, o, none⟩ ∧ g < B ∧ NodAt B w g (o + j * 6) (l.getD j Nod.zero) pv kv
theorem rdN_below {B : Nat} {w w' : World} {v : Value} {l : List Nod} (h : RdN B w v l) (b : Below B w w') : RdN B w' v l := by
  obtain ⟨ao, cap, hv, hm, hc⟩ := h
  refine ⟨ao, cap, hv, hm, fun j hj => ?_⟩
  obtain ⟨g, o, pv, kv, ha, hb, hx⟩ := hc j hj
  exact ⟨g, o, pv, kv, ha, hb, hx.below b hb⟩
def kidsOf (l : List Nod) (i : Nat) : List Int := (l.getD i Nod.zero).kids
def intCells (l : List Nat) : List Value := l.map fun j : Nat => Value.int .i64 (j : Int)
def OwnI (B : Nat) (v : Value) (l : List Nat) (w : World) : Prop := w.ownsRow B 3 1 v l.length (intCells l)
theorem ownI_nil (B : Nat) (w : World) : OwnI B (.slice none 0 0) [] w := World.ownsRow_nil _ _ _ _
theorem ownI_slice {B : Nat} {v : Value} {l : List Nat} {w : World} (h : OwnI B v l w) : ∃ ao cap, v = .slice ao l.length cap := by
  rcases h.2 with ⟨hv, h0⟩ | ⟨g, cap, cur, hv, _⟩
  · exact ⟨none, 0, by rw [hv, h0]⟩
  · exact ⟨_, _, hv⟩
theorem ownI_mono {B B' : Nat} {v : Value} {l : List Nat} {w : World} (h : OwnI B v l w) (hb : B' ≤ B) : OwnI B' v l w := by
  refine ⟨h.1, ?_⟩
  rcases h.2 with h0 | ⟨g, cap, cur, hv, hg, hr⟩
  · exact .inl h0
  · exact .inr ⟨g, cap, cur, hv, Nat.le_trans hb hg, hr⟩
theorem ownI_snoc {B : Nat} {v : Value} {l : List Nat} {w : World} {L k : Nat} (e : l.length = L) (h : w.ownsRow B 3 1 v (L + 1) (intCells l ++ [.int .i64 (k : Int)])) : OwnI B v (l ++ [k]) w := by
  unfold OwnI
  have : intCells (l ++ [k]) = intCells l ++ [.int .i64 (k : Int)] := by simp [intCells]
  rw [this, List.length_append, e]
  exact h
theorem infoInt : (Tryz.prog.info? 3).map (fun i => (i.zero, i.size, i.bytes)) = some (some (.int .i64 0), 1, 8) := by kernel_rfl
theorem infoBool : (Tryz.prog.info? 4).map (fun i => (i.zero, i.size, i.bytes)) = some (some (.bool false), 1, 1) := by kernel_rfl
theorem range_filter_succ (F : Nat → Bool) (k : Nat) : (List.range (k + 1)).filter F = if F k then (List.range k).filter F ++ [k] else (List.range k).filter F := by
  rw [List.range_succ, List.filter_append]
  cases h : F k <;> simp [h]
theorem filter_len (F : Nat → Bool) (k : Nat) : ((List.range k).filter F).length ≤ k := by
  have := List.length_filter_le F (List.range k)
  simpa using this
/-- What is made is marks, none set. -/
theorem mark_made {w : World} {B g n : Nat} (h : w.ownsRow B 4 1 (.slice (some ⟨g, 0, none⟩) n n) n (madeCells (Value.bool false).cells (n * 1)).toList) : MarkR w g n (fun _ => false) := by
  rw [Nat.mul_one] at h
  have e : (madeCells (Value.bool false).cells n).toList = List.replicate n (.bool false) := toList_madeCells_one (.bool false) n
  rw [e] at h
  refine ⟨fun j hj => ?_, fun j _ => h.frozenAt j⟩
  rw [h.cellAt j (by omega)]
  simp [hj]
theorem reachI_cons (n : Nat) (r : Int) (rs : List Int) : reachI n (r :: rs) = if 0 ≤ r ∧ r < (n : Int) then max (r.toNat + 1) (reachI n rs) else reachI n rs := rfl

set_option maxRecDepth 100000 in
set_option maxHeartbeats 8000000 in
theorem reach_any (v : Value) (l : List Nod) (rv : Value) (rs : List Int) (w : World) (hv : RdN w.heap.size w v l) (hr : RdI w.heap.size w rv rs) :
    Calls Tryz.prog 18 #[v, rv] w fun e w' => e = .returned (.int .i64 (reachI l.length rs : Nat)) ∧ w' = w := by
  obtain ⟨ao, cap, rfl, hm, hc⟩ := hv
  obtain ⟨ro, rc, rfl, hrm, hrc⟩ := hr
  have HC := hide' hrc
  obtain ⟨N, hN⟩ : ∃ N, l.length = N := ⟨_, rfl⟩
  obtain ⟨L, hL⟩ : ∃ L, rs.length = L := ⟨_, rfl⟩
  have HL := hide' hL
  obtain ⟨T, hT⟩ : ∃ T, reachI N rs = T := ⟨_, rfl⟩
  rw [hN] at hm ⊢
  rw [hL] at hrm ⊢
  rw [hT]
  have HT := hide' hT
  clear hc hrc hN hL hT
  go_enter Tryz.func18, Tryz.ntmps18
  go_wp2
  go_loopw [5, 10] (fun vs vi wr => ∃ (k m : Nat), vi = .int .i64 (k : Int) ∧ vs = .int .i64 (m : Int) ∧ k ≤ L ∧ m ≤ N ∧ Hid' (max m (reachI N (rs.drop k)) = T) ∧ wr = w) (fun _ vi _ => L - (intOf vi).toNat)
  case atStart => exact ⟨0, 0, rfl, rfl, Nat.zero_le _, Nat.zero_le _, ⟨by rw [List.drop_zero, HT.out]; omega⟩, rfl⟩
  case round =>
    obtain ⟨k, m, rfl, rfl, hk, hmN, HI, hww⟩ := hrel
    subst hww
    by_cases h1 : k < L
    · obtain ⟨a, ea, hab, hcell⟩ := HC.out k (by have := HL.out; omega)
      subst ea
      have hd : rs.drop k = rs.getD k 0 :: rs.drop (k + 1) := by
        rw [List.drop_eq_getElem_cons (by have := HL.out; omega)]
        have : k < rs.length := by have := HL.out; omega
        simp [List.getD_eq_getElem?_getD, this]
      obtain ⟨x, hx⟩ : ∃ x, rs.getD k 0 = x := ⟨_, rfl⟩
      rw [hx] at hcell hd
      have HI2 := HI.out
      rw [hd, reachI_cons] at HI2
      have CW := hide' (fun W => within_any ao N cap x W)
      by_cases hin : 0 ≤ x ∧ x < (N : Int)
      · obtain ⟨q, rfl⟩ : ∃ q : Nat, x = (q : Int) := ⟨x.toNat, by omega⟩
        have e0 : (decide (0 ≤ (q : Int)) && decide ((q : Int) < (N : Int))) = true := by simp; omega
        rw [e0] at CW
        rw [if_pos hin] at HI2
        have HI3 := hide' HI2
        have hqN : q < N := by omega
        clear e0 hin hx hd HI HI2
        go_wp2_with (go_at_call 13; refine (CW.out _).mono ?_; rintro e w1 ⟨rfl, h9⟩; replace h9 := h9.symm; subst h9)
        go_roundw
        case rel => exact ⟨k + 1, max m (q + 1), by go_num, by congr 1; split <;> omega, by omega, by omega, ⟨by have := HI3.out; omega⟩, by first | rfl | trivial⟩
        case measure => simp [intOf]; omega
      · have e0 : (decide (0 ≤ x) && decide (x < (N : Int))) = false := by
          rw [Bool.and_eq_false_iff]
          by_cases h0 : 0 ≤ x
          · exact .inr (decide_eq_false (fun g => hin ⟨h0, g⟩))
          · exact .inl (decide_eq_false h0)
        rw [e0] at CW
        rw [if_neg hin] at HI2
        have HI3 := hide' HI2
        clear e0 hin hx hd HI HI2
        go_wp2_with (go_at_call 13; refine (CW.out _).mono ?_; rintro e w1 ⟨rfl, h9⟩; replace h9 := h9.symm; subst h9)
        go_roundw
        case rel => exact ⟨k + 1, m, by go_num, rfl, by omega, hmN, ⟨HI3.out⟩, by first | rfl | trivial⟩
        case measure => simp [intOf]; omega
    · have e1 : rs.drop k = [] := List.drop_eq_nil_of_le (by have := HL.out; omega)
      have HI2 := HI.out
      rw [e1] at HI2
      have e2 : m = T := by rw [← HI2]; show m = max m 0; omega
      have HE := hide' e2
      have hkl : decide ((k : Int) < (L : Int)) = false := by simp; omega
      clear e1 e2 HI HI2
      go_wp2
      go_ret
      rw [HE.out]
      exact ⟨rfl, rfl⟩
end Go.Proofs.YtbcmpacmoofdkaaGreatDoor
