/- How the library lays digits out with an exponent. -/
import Derived.Test.YtbengmceiaejeaaGreatDoorFtW7
namespace Go.Proofs.YtbengmceiaejeaaGreatDoor
open Go.ChangeShapes Go.WideShapes Go.ChangeAt Go.RowKit

/-- The digits' cells, one behind the other. -/
def CellsAt (w : World) (B : Nat) (c : Nat → Int) (n : Nat) : Prop := ∀ j, j < n → w.cell? ⟨B, j, none⟩ = some (.int .u8 (c j))

theorem CellsAt.grown {w w' : World} {B D n : Nat} {c : Nat → Int} (h : CellsAt w B c n) (hB : B < w.heap.size) (hg : w.grownBy w' (some D)) (hne : B ≠ D) : CellsAt w' B c n := by
  intro j hj
  rw [World.cell?_of_block (w := w) (hg.block B hB (by simpa using hne))]
  exact h j hj
theorem CellsAt.alloc {w : World} {B n : Nat} {c : Nat → Int} (h : CellsAt w B c n) (hB : B < w.heap.size) (o : Obj) : CellsAt (w.alloc o) B c n := by
  intro j hj
  rw [World.cell?_of_block (w := w) (Below.heap_alloc w o B hB)]
  exact h j hj

theorem cell_three_new (w : World) (a b c : Value) (t : TypeId) : ∀ j u, [a, b, c][j]? = some u → (w.alloc (.cells #[a, b, c] t)).cell? ((⟨w.heap.size, 0, none⟩ : Addr).add j) = some u := by
  intro j u hj
  match j, hj with
  | 0, hj => simp at hj; subst hj; simp [Addr.add]
  | 1, hj => simp at hj; subst hj; simp [Addr.add]
  | 2, hj => simp at hj; subst hj; simp [Addr.add]
  | j + 3, hj => simp at hj

/-- An exponent's digits. -/
def expV (X : Nat) : List Value :=
  if X < 10 then [.int .u8 48, .int .u8 ((X : Int) + 48)]
  else if X < 100 then [.int .u8 ((X / 10 : Nat) + 48 : Int), .int .u8 ((X % 10 : Nat) + 48 : Int)]
  else [.int .u8 ((X / 100 : Nat) + 48 : Int), .int .u8 ((X / 10 % 10 : Nat) + 48 : Int), .int .u8 ((X % 10 : Nat) + 48 : Int)]

/-- What stands behind the first digit. -/
def tailV (c : Nat → Int) (r : Nat) : List Value := (List.range r).map fun j => .int .u8 (c (j + 1))

/-- The whole row: digits, the letter, the exponent's sign and digits. -/
def eRow (pre : List Value) (sg : Int) (X : Nat) : List Value := pre ++ [.int .u8 101] ++ [.int .u8 sg] ++ expV X

theorem tailV_len (c : Nat → Int) (r : Nat) : (tailV c r).length = r := by unfold tailV; simp

theorem tailV_one (c : Nat → Int) (r : Nat) : ∀ u ∈ tailV c r, u.oneCell' = true := by
  intro u hu
  unfold tailV at hu
  obtain ⟨j, _, rfl⟩ := List.mem_map.1 hu
  rfl

theorem cells_tail {w w1 w2 : World} {B D r : Nat} {c : Nat → Int} {o o' : Obj} (hne : B ≠ D) (hBs : B < w.heap.size) (hd : CellsAt w B c (r + 1)) (g1 : (w.alloc o).grownBy w1 (some D)) (g2 : (w1.alloc o').grownBy w2 (some D)) :
    Hid (∀ j u, (tailV c r)[j]? = some u → w2.cell? ((⟨B, 1, none⟩ : Addr).add j) = some u) := by
  refine hide fun j u hu => ?_
  have s1 := g1.size
  simp at s1
  have d1 := (hd.alloc hBs o).grown (by simp; omega) g1 hne
  have d2 := (d1.alloc (by omega) o').grown (by simp; omega) g2 hne
  have hj : j < r := by
    rcases Nat.lt_or_ge j r with h | h
    · exact h
    · rw [List.getElem?_eq_none (by rw [tailV_len]; exact h)] at hu; cases hu
  rw [Addr.add_lit, d2 (1 + j) (by omega), ← hu]
  unfold tailV
  rw [List.getElem?_map, List.getElem?_range hj]
  simp [Nat.add_comm]

set_option maxRecDepth 100000 in
set_option maxHeartbeats 8000000 in
theorem efg_mn0 (base D B r X : Nat) (c : Nat → Int) (dp : Int) (w : World) (hb : base ≤ w.heap.size) (hBs : B < w.heap.size) (hne : B ≠ D) (hD : base ≤ D) (hown : w.ownsRow base 5 1 (.slice (some ⟨D, 0, none⟩) 0 24) 0 []) (hd : CellsAt w B c (r + 1)) (hr : 1 ≤ r ∧ r ≤ 16) (hX : dp - 1 = -(X : Int)) (hX0 : 1 ≤ X) (hXb : X < 10) :
    Calls Tryz.prog 118 #[.slice (some ⟨D, 0, none⟩) 0 24, .bool false, .slice (some ⟨B, 0, none⟩) 32 32, .int .i64 dp, .int .i64 ((r + 1 : Nat) : Int), .int .i64 (r : Int), .int .u8 101, .bool true] w fun e w' => e = .returned (.slice (some ⟨D, 0, none⟩) (2 + r + 1 + 1 + 2) 24) ∧ Below base w w' ∧ w'.ownsRow base 5 1 (.slice (some ⟨D, 0, none⟩) (2 + r + 1 + 1 + 2) 24) (2 + r + 1 + 1 + 2) (eRow ([.int .u8 (c 0)] ++ [.int .u8 46] ++ tailV c r) 45 X) := by
  have hrow : Hid (eRow ([.int .u8 (c 0)] ++ [.int .u8 46] ++ tailV c r) 45 X = [.int .u8 (c 0)] ++ [.int .u8 46] ++ tailV c r ++ [.int .u8 101] ++ [.int .u8 45] ++ [.int .u8 48, .int .u8 ((X : Int) + 48)]) := hide (by unfold eRow expV; rw [if_pos hXb])
  obtain ⟨LL, eLL⟩ : ∃ L, eRow ([.int .u8 (c 0)] ++ [.int .u8 46] ++ tailV c r) 45 X = L := ⟨_, rfl⟩
  rw [eLL] at hrow ⊢
  clear eLL
  obtain ⟨i, hi, hz0, hz1, hz2⟩ := info_parts info5
  have hd0 : w.cell? ⟨B, 0, none⟩ = some (.int .u8 (c 0)) := hd 0 (by omega)
  have HD := hide hd
  clear hd hz0 hz2
  have hl := tailV_len c r
  have h1 := tailV_one c r
  have hI1 : ((r + 1 : Nat) : Int) = (r : Int) + 1 := by omega
  have hlt : decide (dp - 1 < 0) = true := decide_eq_true (by omega)
  have hX2 : -(dp - 1) = (X : Int) := by omega
  have hr1 : decide ((X : Int) < 10) = true := decide_eq_true (by omega)
  have hw1 : IntKind.u8.wrap (X : Int) = (X : Int) := by rw [IntKind.wrap_u8]; omega
  have hw2 : IntKind.u8.wrap ((X : Int) + 48) = (X : Int) + 48 := by rw [IntKind.wrap_u8]; omega
  have hdp : -500 ≤ dp ∧ dp ≤ 500 := by omega
  clear hXb
  go_enter Tryz.func118, Tryz.ntmps118
  go_wp2_with (first
    | (at_builtin; refine wpList_append_fits _ rfl _ _ 65 rfl base 5 i 1 Tryz.underlying65 hi hz1 D (2) 24 ([.int .u8 (c 0)] ++ [.int .u8 46]) rfl o2 ⟨B, 1, none⟩ r 31 (tailV c r) rfl (by rw [hl]; omega) HD2.out h1 (by omega) ?_; intro w3 o3 g3; have b3 : Below base w w3 := b2.grown g3 (by have := b2.size; omega) (fun k e => by cases e; exact hD))
    | (at_builtin; refine wpList_append_fits _ rfl _ _ 65 rfl base 5 i 1 Tryz.underlying65 hi hz1 D (1) 24 ([.int .u8 (c 0)]) rfl (o1.alloc _) ⟨_, 0, none⟩ 1 1 ([.int .u8 46]) rfl rfl (cell_one_new _ _ _) (by simp [Value.oneCell']) (by omega) ?_; intro w2 o2 g2; have b2 : Below base w w2 := ((b1).alloc (by have := (b1).size; omega) _).grown g2 (by have := (b1).size; simp; omega) (fun k e => by cases e; exact hD); have HD2 := cells_tail hne hBs HD.out g1 g2)
    | (at_builtin; refine wpList_append_fits _ rfl _ _ 65 rfl base 5 i 1 Tryz.underlying65 hi hz1 D (0) 24 ([]) rfl (hown.alloc _) ⟨_, 0, none⟩ 1 1 ([.int .u8 (c 0)]) rfl rfl (cell_one_new _ _ _) (by simp [Value.oneCell']) (by omega) ?_; intro w1 o1 g1; have b1 : Below base w w1 := ((Below.refl base w).alloc (by omega) _).grown g1 (by simp; omega) (fun k e => by cases e; exact hD)))
  go_loop [0, 114] (fun d v => d = .slice (some ⟨D, 0, none⟩) (2 + r) 24 ∧ v = .int .i64 0) (fun _ _ => 0)
  case atStart => exact ⟨rfl, rfl⟩
  case round =>
    obtain ⟨rfl, rfl⟩ := hrel
    go_wp2_with (first
      | (at_builtin; refine wpList_append_fits _ rfl _ _ 65 rfl base 5 i 1 Tryz.underlying65 hi hz1 D (2 + r + 1 + 1) 24 ([.int .u8 (c 0)] ++ [.int .u8 46] ++ tailV c r ++ [.int .u8 101] ++ [.int .u8 45]) rfl (o5.alloc _) ⟨_, 0, none⟩ 2 2 ([.int .u8 48, .int .u8 ((X : Int) + 48)]) rfl rfl (cell_two_new _ _ _ _) (by simp [Value.oneCell']) (by omega) ?_; intro w6 o6 g6; have b6 : Below base w w6 := ((b5).alloc (by have := (b5).size; omega) _).grown g6 (by have := (b5).size; simp; omega) (fun k e => by cases e; exact hD))
      | (at_builtin; refine wpList_append_fits _ rfl _ _ 65 rfl base 5 i 1 Tryz.underlying65 hi hz1 D (2 + r + 1) 24 ([.int .u8 (c 0)] ++ [.int .u8 46] ++ tailV c r ++ [.int .u8 101]) rfl (o4.alloc _) ⟨_, 0, none⟩ 1 1 ([.int .u8 45]) rfl rfl (cell_one_new _ _ _) (by simp [Value.oneCell']) (by omega) ?_; intro w5 o5 g5; have b5 : Below base w w5 := ((b4).alloc (by have := (b4).size; omega) _).grown g5 (by have := (b4).size; simp; omega) (fun k e => by cases e; exact hD))
      | (at_builtin; refine wpList_append_fits _ rfl _ _ 65 rfl base 5 i 1 Tryz.underlying65 hi hz1 D (2 + r) 24 ([.int .u8 (c 0)] ++ [.int .u8 46] ++ tailV c r) rfl (o3.alloc _) ⟨_, 0, none⟩ 1 1 ([.int .u8 101]) rfl rfl (cell_one_new _ _ _) (by simp [Value.oneCell']) (by omega) ?_; intro w4 o4 g4; have b4 : Below base w w4 := ((b3).alloc (by have := (b3).size; omega) _).grown g4 (by have := (b3).size; simp; omega) (fun k e => by cases e; exact hD)))
    go_ret
    exact ⟨rfl, b6, by rw [hrow.out]; exact o6⟩

set_option maxRecDepth 100000 in
set_option maxHeartbeats 8000000 in
theorem efg_mn1 (base D B r X : Nat) (c : Nat → Int) (dp : Int) (w : World) (hb : base ≤ w.heap.size) (hBs : B < w.heap.size) (hne : B ≠ D) (hD : base ≤ D) (hown : w.ownsRow base 5 1 (.slice (some ⟨D, 0, none⟩) 0 24) 0 []) (hd : CellsAt w B c (r + 1)) (hr : 1 ≤ r ∧ r ≤ 16) (hX : dp - 1 = -(X : Int)) (hX0 : 1 ≤ X) (hXb : 10 ≤ X ∧ X < 100) :
    Calls Tryz.prog 118 #[.slice (some ⟨D, 0, none⟩) 0 24, .bool false, .slice (some ⟨B, 0, none⟩) 32 32, .int .i64 dp, .int .i64 ((r + 1 : Nat) : Int), .int .i64 (r : Int), .int .u8 101, .bool true] w fun e w' => e = .returned (.slice (some ⟨D, 0, none⟩) (2 + r + 1 + 1 + 2) 24) ∧ Below base w w' ∧ w'.ownsRow base 5 1 (.slice (some ⟨D, 0, none⟩) (2 + r + 1 + 1 + 2) 24) (2 + r + 1 + 1 + 2) (eRow ([.int .u8 (c 0)] ++ [.int .u8 46] ++ tailV c r) 45 X) := by
  have hrow : Hid (eRow ([.int .u8 (c 0)] ++ [.int .u8 46] ++ tailV c r) 45 X = [.int .u8 (c 0)] ++ [.int .u8 46] ++ tailV c r ++ [.int .u8 101] ++ [.int .u8 45] ++ [.int .u8 ((X / 10 : Nat) + 48 : Int), .int .u8 ((X % 10 : Nat) + 48 : Int)]) := hide (by unfold eRow expV; rw [if_neg (by omega), if_pos hXb.2])
  obtain ⟨LL, eLL⟩ : ∃ L, eRow ([.int .u8 (c 0)] ++ [.int .u8 46] ++ tailV c r) 45 X = L := ⟨_, rfl⟩
  rw [eLL] at hrow ⊢
  clear eLL
  obtain ⟨i, hi, hz0, hz1, hz2⟩ := info_parts info5
  have hd0 : w.cell? ⟨B, 0, none⟩ = some (.int .u8 (c 0)) := hd 0 (by omega)
  have HD := hide hd
  clear hd hz0 hz2
  have hl := tailV_len c r
  have h1 := tailV_one c r
  have hI1 : ((r + 1 : Nat) : Int) = (r : Int) + 1 := by omega
  have hlt : decide (dp - 1 < 0) = true := decide_eq_true (by omega)
  have hX2 : -(dp - 1) = (X : Int) := by omega
  have hr1 : decide ((X : Int) < 10) = false := decide_eq_false (by omega)
  have hr2 : decide ((X : Int) < 100) = true := decide_eq_true (by omega)
  have hq1 : (X : Int) / 10 = ((X / 10 : Nat) : Int) := by simp
  have hq2 : (X : Int) % 10 = ((X % 10 : Nat) : Int) := by simp
  have hq3 : (X : Int).tdiv 10 = ((X / 10 : Nat) : Int) := by rw [Int.tdiv_eq_ediv_of_nonneg (by omega)]; simp
  have hq4 : (X : Int).tmod 10 = ((X % 10 : Nat) : Int) := by rw [Int.tmod_eq_emod_of_nonneg (by omega)]; simp
  have hb1 : X / 10 < 10 := by omega
  have hb2 : X % 10 < 10 := by omega
  obtain ⟨p, ep⟩ : ∃ p, X / 10 = p := ⟨_, rfl⟩
  obtain ⟨q, eq⟩ : ∃ p, X % 10 = p := ⟨_, rfl⟩
  rw [ep] at hq1 hq3 hb1 hrow
  rw [eq] at hq2 hq4 hb2 hrow
  have hw1 : IntKind.u8.wrap (p : Int) = (p : Int) := by rw [IntKind.wrap_u8]; omega
  have hw2 : IntKind.u8.wrap (q : Int) = (q : Int) := by rw [IntKind.wrap_u8]; omega
  have hw3 : IntKind.u8.wrap ((p : Int) + 48) = (p : Int) + 48 := by rw [IntKind.wrap_u8]; omega
  have hw4 : IntKind.u8.wrap ((q : Int) + 48) = (q : Int) + 48 := by rw [IntKind.wrap_u8]; omega
  clear ep eq
  have hdp : -500 ≤ dp ∧ dp ≤ 500 := by omega
  clear hXb
  go_enter Tryz.func118, Tryz.ntmps118
  go_wp2_with (first
    | (at_builtin; refine wpList_append_fits _ rfl _ _ 65 rfl base 5 i 1 Tryz.underlying65 hi hz1 D (2) 24 ([.int .u8 (c 0)] ++ [.int .u8 46]) rfl o2 ⟨B, 1, none⟩ r 31 (tailV c r) rfl (by rw [hl]; omega) HD2.out h1 (by omega) ?_; intro w3 o3 g3; have b3 : Below base w w3 := b2.grown g3 (by have := b2.size; omega) (fun k e => by cases e; exact hD))
    | (at_builtin; refine wpList_append_fits _ rfl _ _ 65 rfl base 5 i 1 Tryz.underlying65 hi hz1 D (1) 24 ([.int .u8 (c 0)]) rfl (o1.alloc _) ⟨_, 0, none⟩ 1 1 ([.int .u8 46]) rfl rfl (cell_one_new _ _ _) (by simp [Value.oneCell']) (by omega) ?_; intro w2 o2 g2; have b2 : Below base w w2 := ((b1).alloc (by have := (b1).size; omega) _).grown g2 (by have := (b1).size; simp; omega) (fun k e => by cases e; exact hD); have HD2 := cells_tail hne hBs HD.out g1 g2)
    | (at_builtin; refine wpList_append_fits _ rfl _ _ 65 rfl base 5 i 1 Tryz.underlying65 hi hz1 D (0) 24 ([]) rfl (hown.alloc _) ⟨_, 0, none⟩ 1 1 ([.int .u8 (c 0)]) rfl rfl (cell_one_new _ _ _) (by simp [Value.oneCell']) (by omega) ?_; intro w1 o1 g1; have b1 : Below base w w1 := ((Below.refl base w).alloc (by omega) _).grown g1 (by simp; omega) (fun k e => by cases e; exact hD)))
  go_loop [0, 114] (fun d v => d = .slice (some ⟨D, 0, none⟩) (2 + r) 24 ∧ v = .int .i64 0) (fun _ _ => 0)
  case atStart => exact ⟨rfl, rfl⟩
  case round =>
    obtain ⟨rfl, rfl⟩ := hrel
    go_wp2_with (first
      | (at_builtin; refine wpList_append_fits _ rfl _ _ 65 rfl base 5 i 1 Tryz.underlying65 hi hz1 D (2 + r + 1 + 1) 24 ([.int .u8 (c 0)] ++ [.int .u8 46] ++ tailV c r ++ [.int .u8 101] ++ [.int .u8 45]) rfl (o5.alloc _) ⟨_, 0, none⟩ 2 2 ([.int .u8 ((p : Int) + 48), .int .u8 ((q : Int) + 48)]) rfl rfl (cell_two_new _ _ _ _) (by simp [Value.oneCell']) (by omega) ?_; intro w6 o6 g6; have b6 : Below base w w6 := ((b5).alloc (by have := (b5).size; omega) _).grown g6 (by have := (b5).size; simp; omega) (fun k e => by cases e; exact hD))
      | (at_builtin; refine wpList_append_fits _ rfl _ _ 65 rfl base 5 i 1 Tryz.underlying65 hi hz1 D (2 + r + 1) 24 ([.int .u8 (c 0)] ++ [.int .u8 46] ++ tailV c r ++ [.int .u8 101]) rfl (o4.alloc _) ⟨_, 0, none⟩ 1 1 ([.int .u8 45]) rfl rfl (cell_one_new _ _ _) (by simp [Value.oneCell']) (by omega) ?_; intro w5 o5 g5; have b5 : Below base w w5 := ((b4).alloc (by have := (b4).size; omega) _).grown g5 (by have := (b4).size; simp; omega) (fun k e => by cases e; exact hD))
      | (at_builtin; refine wpList_append_fits _ rfl _ _ 65 rfl base 5 i 1 Tryz.underlying65 hi hz1 D (2 + r) 24 ([.int .u8 (c 0)] ++ [.int .u8 46] ++ tailV c r) rfl (o3.alloc _) ⟨_, 0, none⟩ 1 1 ([.int .u8 101]) rfl rfl (cell_one_new _ _ _) (by simp [Value.oneCell']) (by omega) ?_; intro w4 o4 g4; have b4 : Below base w w4 := ((b3).alloc (by have := (b3).size; omega) _).grown g4 (by have := (b3).size; simp; omega) (fun k e => by cases e; exact hD)))
    go_ret
    exact ⟨rfl, b6, by rw [hrow.out]; exact o6⟩

set_option maxRecDepth 100000 in
set_option maxHeartbeats 8000000 in
theorem efg_mn2 (base D B r X : Nat) (c : Nat → Int) (dp : Int) (w : World) (hb : base ≤ w.heap.size) (hBs : B < w.heap.size) (hne : B ≠ D) (hD : base ≤ D) (hown : w.ownsRow base 5 1 (.slice (some ⟨D, 0, none⟩) 0 24) 0 []) (hd : CellsAt w B c (r + 1)) (hr : 1 ≤ r ∧ r ≤ 16) (hX : dp - 1 = -(X : Int)) (hX0 : 1 ≤ X) (hXb : 100 ≤ X ∧ X < 400) :
    Calls Tryz.prog 118 #[.slice (some ⟨D, 0, none⟩) 0 24, .bool false, .slice (some ⟨B, 0, none⟩) 32 32, .int .i64 dp, .int .i64 ((r + 1 : Nat) : Int), .int .i64 (r : Int), .int .u8 101, .bool true] w fun e w' => e = .returned (.slice (some ⟨D, 0, none⟩) (2 + r + 1 + 1 + 3) 24) ∧ Below base w w' ∧ w'.ownsRow base 5 1 (.slice (some ⟨D, 0, none⟩) (2 + r + 1 + 1 + 3) 24) (2 + r + 1 + 1 + 3) (eRow ([.int .u8 (c 0)] ++ [.int .u8 46] ++ tailV c r) 45 X) := by
  have hrow : Hid (eRow ([.int .u8 (c 0)] ++ [.int .u8 46] ++ tailV c r) 45 X = [.int .u8 (c 0)] ++ [.int .u8 46] ++ tailV c r ++ [.int .u8 101] ++ [.int .u8 45] ++ [.int .u8 ((X / 100 : Nat) + 48 : Int), .int .u8 ((X / 10 % 10 : Nat) + 48 : Int), .int .u8 ((X % 10 : Nat) + 48 : Int)]) := hide (by unfold eRow expV; rw [if_neg (by omega), if_neg (by omega)])
  obtain ⟨LL, eLL⟩ : ∃ L, eRow ([.int .u8 (c 0)] ++ [.int .u8 46] ++ tailV c r) 45 X = L := ⟨_, rfl⟩
  rw [eLL] at hrow ⊢
  clear eLL
  obtain ⟨i, hi, hz0, hz1, hz2⟩ := info_parts info5
  have hd0 : w.cell? ⟨B, 0, none⟩ = some (.int .u8 (c 0)) := hd 0 (by omega)
  have HD := hide hd
  clear hd hz0 hz2
  have hl := tailV_len c r
  have h1 := tailV_one c r
  have hI1 : ((r + 1 : Nat) : Int) = (r : Int) + 1 := by omega
  have hlt : decide (dp - 1 < 0) = true := decide_eq_true (by omega)
  have hX2 : -(dp - 1) = (X : Int) := by omega
  have hr1 : decide ((X : Int) < 10) = false := decide_eq_false (by omega)
  have hr2 : decide ((X : Int) < 100) = false := decide_eq_false (by omega)
  have hq0 : (X : Int) / 100 = ((X / 100 : Nat) : Int) := by simp
  have hq1 : (X : Int) / 10 = ((X / 10 : Nat) : Int) := by simp
  have hq2 : (X : Int) % 10 = ((X % 10 : Nat) : Int) := by simp
  have hb0 : X / 100 < 10 := by omega
  have hb1 : X / 10 < 40 := by omega
  have hb2 : X % 10 < 10 := by omega
  have hq5 : ((X / 10 : Nat) : Int) % 10 = ((X / 10 % 10 : Nat) : Int) := by simp
  have hb3 : X / 10 % 10 < 10 := by omega
  obtain ⟨o, eo⟩ : ∃ p, X / 100 = p := ⟨_, rfl⟩
  obtain ⟨p, ep⟩ : ∃ p, X / 10 = p := ⟨_, rfl⟩
  obtain ⟨q, eq⟩ : ∃ p, X % 10 = p := ⟨_, rfl⟩
  rw [eo] at hq0 hb0 hrow
  rw [ep] at hq1 hb1 hq5 hb3 hrow
  rw [eq] at hq2 hb2 hrow
  obtain ⟨s, es⟩ : ∃ s, p % 10 = s := ⟨_, rfl⟩
  rw [es] at hq5 hb3 hrow
  have hw0 : IntKind.u8.wrap (o : Int) = (o : Int) := by rw [IntKind.wrap_u8]; omega
  have hw1 : IntKind.u8.wrap (p : Int) = (p : Int) := by rw [IntKind.wrap_u8]; omega
  have hw2 : IntKind.u8.wrap (q : Int) = (q : Int) := by rw [IntKind.wrap_u8]; omega
  have hw3 : IntKind.u8.wrap ((o : Int) + 48) = (o : Int) + 48 := by rw [IntKind.wrap_u8]; omega
  have hw4 : IntKind.u8.wrap ((q : Int) + 48) = (q : Int) + 48 := by rw [IntKind.wrap_u8]; omega
  have hw5 : IntKind.u8.wrap ((s : Int) + 48) = (s : Int) + 48 := by rw [IntKind.wrap_u8]; omega
  clear eo ep eq es
  have hdp : -500 ≤ dp ∧ dp ≤ 500 := by omega
  clear hXb
  go_enter Tryz.func118, Tryz.ntmps118
  go_wp2_with (first
    | (at_builtin; refine wpList_append_fits _ rfl _ _ 65 rfl base 5 i 1 Tryz.underlying65 hi hz1 D (2) 24 ([.int .u8 (c 0)] ++ [.int .u8 46]) rfl o2 ⟨B, 1, none⟩ r 31 (tailV c r) rfl (by rw [hl]; omega) HD2.out h1 (by omega) ?_; intro w3 o3 g3; have b3 : Below base w w3 := b2.grown g3 (by have := b2.size; omega) (fun k e => by cases e; exact hD))
    | (at_builtin; refine wpList_append_fits _ rfl _ _ 65 rfl base 5 i 1 Tryz.underlying65 hi hz1 D (1) 24 ([.int .u8 (c 0)]) rfl (o1.alloc _) ⟨_, 0, none⟩ 1 1 ([.int .u8 46]) rfl rfl (cell_one_new _ _ _) (by simp [Value.oneCell']) (by omega) ?_; intro w2 o2 g2; have b2 : Below base w w2 := ((b1).alloc (by have := (b1).size; omega) _).grown g2 (by have := (b1).size; simp; omega) (fun k e => by cases e; exact hD); have HD2 := cells_tail hne hBs HD.out g1 g2)
    | (at_builtin; refine wpList_append_fits _ rfl _ _ 65 rfl base 5 i 1 Tryz.underlying65 hi hz1 D (0) 24 ([]) rfl (hown.alloc _) ⟨_, 0, none⟩ 1 1 ([.int .u8 (c 0)]) rfl rfl (cell_one_new _ _ _) (by simp [Value.oneCell']) (by omega) ?_; intro w1 o1 g1; have b1 : Below base w w1 := ((Below.refl base w).alloc (by omega) _).grown g1 (by simp; omega) (fun k e => by cases e; exact hD)))
  go_loop [0, 114] (fun d v => d = .slice (some ⟨D, 0, none⟩) (2 + r) 24 ∧ v = .int .i64 0) (fun _ _ => 0)
  case atStart => exact ⟨rfl, rfl⟩
  case round =>
    obtain ⟨rfl, rfl⟩ := hrel
    go_wp2_with (first
      | (at_builtin; refine wpList_append_fits _ rfl _ _ 65 rfl base 5 i 1 Tryz.underlying65 hi hz1 D (2 + r + 1 + 1) 24 ([.int .u8 (c 0)] ++ [.int .u8 46] ++ tailV c r ++ [.int .u8 101] ++ [.int .u8 45]) rfl (o5.alloc _) ⟨_, 0, none⟩ 3 3 ([.int .u8 ((o : Int) + 48), .int .u8 ((s : Int) + 48), .int .u8 ((q : Int) + 48)]) rfl rfl (cell_three_new _ _ _ _ _) (by simp [Value.oneCell']) (by omega) ?_; intro w6 o6 g6; have b6 : Below base w w6 := ((b5).alloc (by have := (b5).size; omega) _).grown g6 (by have := (b5).size; simp; omega) (fun k e => by cases e; exact hD))
      | (at_builtin; refine wpList_append_fits _ rfl _ _ 65 rfl base 5 i 1 Tryz.underlying65 hi hz1 D (2 + r + 1) 24 ([.int .u8 (c 0)] ++ [.int .u8 46] ++ tailV c r ++ [.int .u8 101]) rfl (o4.alloc _) ⟨_, 0, none⟩ 1 1 ([.int .u8 45]) rfl rfl (cell_one_new _ _ _) (by simp [Value.oneCell']) (by omega) ?_; intro w5 o5 g5; have b5 : Below base w w5 := ((b4).alloc (by have := (b4).size; omega) _).grown g5 (by have := (b4).size; simp; omega) (fun k e => by cases e; exact hD))
      | (at_builtin; refine wpList_append_fits _ rfl _ _ 65 rfl base 5 i 1 Tryz.underlying65 hi hz1 D (2 + r) 24 ([.int .u8 (c 0)] ++ [.int .u8 46] ++ tailV c r) rfl (o3.alloc _) ⟨_, 0, none⟩ 1 1 ([.int .u8 101]) rfl rfl (cell_one_new _ _ _) (by simp [Value.oneCell']) (by omega) ?_; intro w4 o4 g4; have b4 : Below base w w4 := ((b3).alloc (by have := (b3).size; omega) _).grown g4 (by have := (b3).size; simp; omega) (fun k e => by cases e; exact hD)))
    go_ret
    exact ⟨rfl, b6, by rw [hrow.out]; exact o6⟩

set_option maxRecDepth 100000 in
set_option maxHeartbeats 8000000 in
theorem efg_mp0 (base D B r X : Nat) (c : Nat → Int) (dp : Int) (w : World) (hb : base ≤ w.heap.size) (hBs : B < w.heap.size) (hne : B ≠ D) (hD : base ≤ D) (hown : w.ownsRow base 5 1 (.slice (some ⟨D, 0, none⟩) 0 24) 0 []) (hd : CellsAt w B c (r + 1)) (hr : 1 ≤ r ∧ r ≤ 16) (hX : dp - 1 = (X : Int)) (hXb : X < 10) :
    Calls Tryz.prog 118 #[.slice (some ⟨D, 0, none⟩) 0 24, .bool false, .slice (some ⟨B, 0, none⟩) 32 32, .int .i64 dp, .int .i64 ((r + 1 : Nat) : Int), .int .i64 (r : Int), .int .u8 101, .bool true] w fun e w' => e = .returned (.slice (some ⟨D, 0, none⟩) (2 + r + 1 + 1 + 2) 24) ∧ Below base w w' ∧ w'.ownsRow base 5 1 (.slice (some ⟨D, 0, none⟩) (2 + r + 1 + 1 + 2) 24) (2 + r + 1 + 1 + 2) (eRow ([.int .u8 (c 0)] ++ [.int .u8 46] ++ tailV c r) 43 X) := by
  have hrow : Hid (eRow ([.int .u8 (c 0)] ++ [.int .u8 46] ++ tailV c r) 43 X = [.int .u8 (c 0)] ++ [.int .u8 46] ++ tailV c r ++ [.int .u8 101] ++ [.int .u8 43] ++ [.int .u8 48, .int .u8 ((X : Int) + 48)]) := hide (by unfold eRow expV; rw [if_pos hXb])
  obtain ⟨LL, eLL⟩ : ∃ L, eRow ([.int .u8 (c 0)] ++ [.int .u8 46] ++ tailV c r) 43 X = L := ⟨_, rfl⟩
  rw [eLL] at hrow ⊢
  clear eLL
  obtain ⟨i, hi, hz0, hz1, hz2⟩ := info_parts info5
  have hd0 : w.cell? ⟨B, 0, none⟩ = some (.int .u8 (c 0)) := hd 0 (by omega)
  have HD := hide hd
  clear hd hz0 hz2
  have hl := tailV_len c r
  have h1 := tailV_one c r
  have hI1 : ((r + 1 : Nat) : Int) = (r : Int) + 1 := by omega
  have hlt : decide (dp - 1 < 0) = false := decide_eq_false (by omega)
  have hr1 : decide ((X : Int) < 10) = true := decide_eq_true (by omega)
  have hw1 : IntKind.u8.wrap (X : Int) = (X : Int) := by rw [IntKind.wrap_u8]; omega
  have hw2 : IntKind.u8.wrap ((X : Int) + 48) = (X : Int) + 48 := by rw [IntKind.wrap_u8]; omega
  have hdp : -500 ≤ dp ∧ dp ≤ 500 := by omega
  clear hXb
  go_enter Tryz.func118, Tryz.ntmps118
  go_wp2_with (first
    | (at_builtin; refine wpList_append_fits _ rfl _ _ 65 rfl base 5 i 1 Tryz.underlying65 hi hz1 D (2) 24 ([.int .u8 (c 0)] ++ [.int .u8 46]) rfl o2 ⟨B, 1, none⟩ r 31 (tailV c r) rfl (by rw [hl]; omega) HD2.out h1 (by omega) ?_; intro w3 o3 g3; have b3 : Below base w w3 := b2.grown g3 (by have := b2.size; omega) (fun k e => by cases e; exact hD))
    | (at_builtin; refine wpList_append_fits _ rfl _ _ 65 rfl base 5 i 1 Tryz.underlying65 hi hz1 D (1) 24 ([.int .u8 (c 0)]) rfl (o1.alloc _) ⟨_, 0, none⟩ 1 1 ([.int .u8 46]) rfl rfl (cell_one_new _ _ _) (by simp [Value.oneCell']) (by omega) ?_; intro w2 o2 g2; have b2 : Below base w w2 := ((b1).alloc (by have := (b1).size; omega) _).grown g2 (by have := (b1).size; simp; omega) (fun k e => by cases e; exact hD); have HD2 := cells_tail hne hBs HD.out g1 g2)
    | (at_builtin; refine wpList_append_fits _ rfl _ _ 65 rfl base 5 i 1 Tryz.underlying65 hi hz1 D (0) 24 ([]) rfl (hown.alloc _) ⟨_, 0, none⟩ 1 1 ([.int .u8 (c 0)]) rfl rfl (cell_one_new _ _ _) (by simp [Value.oneCell']) (by omega) ?_; intro w1 o1 g1; have b1 : Below base w w1 := ((Below.refl base w).alloc (by omega) _).grown g1 (by simp; omega) (fun k e => by cases e; exact hD)))
  go_loop [0, 114] (fun d v => d = .slice (some ⟨D, 0, none⟩) (2 + r) 24 ∧ v = .int .i64 0) (fun _ _ => 0)
  case atStart => exact ⟨rfl, rfl⟩
  case round =>
    obtain ⟨rfl, rfl⟩ := hrel
    go_wp2_with (first
      | (at_builtin; refine wpList_append_fits _ rfl _ _ 65 rfl base 5 i 1 Tryz.underlying65 hi hz1 D (2 + r + 1 + 1) 24 ([.int .u8 (c 0)] ++ [.int .u8 46] ++ tailV c r ++ [.int .u8 101] ++ [.int .u8 43]) rfl (o5.alloc _) ⟨_, 0, none⟩ 2 2 ([.int .u8 48, .int .u8 ((X : Int) + 48)]) rfl rfl (cell_two_new _ _ _ _) (by simp [Value.oneCell']) (by omega) ?_; intro w6 o6 g6; have b6 : Below base w w6 := ((b5).alloc (by have := (b5).size; omega) _).grown g6 (by have := (b5).size; simp; omega) (fun k e => by cases e; exact hD))
      | (at_builtin; refine wpList_append_fits _ rfl _ _ 65 rfl base 5 i 1 Tryz.underlying65 hi hz1 D (2 + r + 1) 24 ([.int .u8 (c 0)] ++ [.int .u8 46] ++ tailV c r ++ [.int .u8 101]) rfl (o4.alloc _) ⟨_, 0, none⟩ 1 1 ([.int .u8 43]) rfl rfl (cell_one_new _ _ _) (by simp [Value.oneCell']) (by omega) ?_; intro w5 o5 g5; have b5 : Below base w w5 := ((b4).alloc (by have := (b4).size; omega) _).grown g5 (by have := (b4).size; simp; omega) (fun k e => by cases e; exact hD))
      | (at_builtin; refine wpList_append_fits _ rfl _ _ 65 rfl base 5 i 1 Tryz.underlying65 hi hz1 D (2 + r) 24 ([.int .u8 (c 0)] ++ [.int .u8 46] ++ tailV c r) rfl (o3.alloc _) ⟨_, 0, none⟩ 1 1 ([.int .u8 101]) rfl rfl (cell_one_new _ _ _) (by simp [Value.oneCell']) (by omega) ?_; intro w4 o4 g4; have b4 : Below base w w4 := ((b3).alloc (by have := (b3).size; omega) _).grown g4 (by have := (b3).size; simp; omega) (fun k e => by cases e; exact hD)))
    go_ret
    exact ⟨rfl, b6, by rw [hrow.out]; exact o6⟩

set_option maxRecDepth 100000 in
set_option maxHeartbeats 8000000 in
theorem efg_mp1 (base D B r X : Nat) (c : Nat → Int) (dp : Int) (w : World) (hb : base ≤ w.heap.size) (hBs : B < w.heap.size) (hne : B ≠ D) (hD : base ≤ D) (hown : w.ownsRow base 5 1 (.slice (some ⟨D, 0, none⟩) 0 24) 0 []) (hd : CellsAt w B c (r + 1)) (hr : 1 ≤ r ∧ r ≤ 16) (hX : dp - 1 = (X : Int)) (hXb : 10 ≤ X ∧ X < 100) :
    Calls Tryz.prog 118 #[.slice (some ⟨D, 0, none⟩) 0 24, .bool false, .slice (some ⟨B, 0, none⟩) 32 32, .int .i64 dp, .int .i64 ((r + 1 : Nat) : Int), .int .i64 (r : Int), .int .u8 101, .bool true] w fun e w' => e = .returned (.slice (some ⟨D, 0, none⟩) (2 + r + 1 + 1 + 2) 24) ∧ Below base w w' ∧ w'.ownsRow base 5 1 (.slice (some ⟨D, 0, none⟩) (2 + r + 1 + 1 + 2) 24) (2 + r + 1 + 1 + 2) (eRow ([.int .u8 (c 0)] ++ [.int .u8 46] ++ tailV c r) 43 X) := by
  have hrow : Hid (eRow ([.int .u8 (c 0)] ++ [.int .u8 46] ++ tailV c r) 43 X = [.int .u8 (c 0)] ++ [.int .u8 46] ++ tailV c r ++ [.int .u8 101] ++ [.int .u8 43] ++ [.int .u8 ((X / 10 : Nat) + 48 : Int), .int .u8 ((X % 10 : Nat) + 48 : Int)]) := hide (by unfold eRow expV; rw [if_neg (by omega), if_pos hXb.2])
  obtain ⟨LL, eLL⟩ : ∃ L, eRow ([.int .u8 (c 0)] ++ [.int .u8 46] ++ tailV c r) 43 X = L := ⟨_, rfl⟩
  rw [eLL] at hrow ⊢
  clear eLL
  obtain ⟨i, hi, hz0, hz1, hz2⟩ := info_parts info5
  have hd0 : w.cell? ⟨B, 0, none⟩ = some (.int .u8 (c 0)) := hd 0 (by omega)
  have HD := hide hd
  clear hd hz0 hz2
  have hl := tailV_len c r
  have h1 := tailV_one c r
  have hI1 : ((r + 1 : Nat) : Int) = (r : Int) + 1 := by omega
  have hlt : decide (dp - 1 < 0) = false := decide_eq_false (by omega)
  have hr1 : decide ((X : Int) < 10) = false := decide_eq_false (by omega)
  have hr2 : decide ((X : Int) < 100) = true := decide_eq_true (by omega)
  have hq1 : (X : Int) / 10 = ((X / 10 : Nat) : Int) := by simp
  have hq2 : (X : Int) % 10 = ((X % 10 : Nat) : Int) := by simp
  have hq3 : (X : Int).tdiv 10 = ((X / 10 : Nat) : Int) := by rw [Int.tdiv_eq_ediv_of_nonneg (by omega)]; simp
  have hq4 : (X : Int).tmod 10 = ((X % 10 : Nat) : Int) := by rw [Int.tmod_eq_emod_of_nonneg (by omega)]; simp
  have hb1 : X / 10 < 10 := by omega
  have hb2 : X % 10 < 10 := by omega
  obtain ⟨p, ep⟩ : ∃ p, X / 10 = p := ⟨_, rfl⟩
  obtain ⟨q, eq⟩ : ∃ p, X % 10 = p := ⟨_, rfl⟩
  rw [ep] at hq1 hq3 hb1 hrow
  rw [eq] at hq2 hq4 hb2 hrow
  have hw1 : IntKind.u8.wrap (p : Int) = (p : Int) := by rw [IntKind.wrap_u8]; omega
  have hw2 : IntKind.u8.wrap (q : Int) = (q : Int) := by rw [IntKind.wrap_u8]; omega
  have hw3 : IntKind.u8.wrap ((p : Int) + 48) = (p : Int) + 48 := by rw [IntKind.wrap_u8]; omega
  have hw4 : IntKind.u8.wrap ((q : Int) + 48) = (q : Int) + 48 := by rw [IntKind.wrap_u8]; omega
  clear ep eq
  have hdp : -500 ≤ dp ∧ dp ≤ 500 := by omega
  clear hXb
  go_enter Tryz.func118, Tryz.ntmps118
  go_wp2_with (first
    | (at_builtin; refine wpList_append_fits _ rfl _ _ 65 rfl base 5 i 1 Tryz.underlying65 hi hz1 D (2) 24 ([.int .u8 (c 0)] ++ [.int .u8 46]) rfl o2 ⟨B, 1, none⟩ r 31 (tailV c r) rfl (by rw [hl]; omega) HD2.out h1 (by omega) ?_; intro w3 o3 g3; have b3 : Below base w w3 := b2.grown g3 (by have := b2.size; omega) (fun k e => by cases e; exact hD))
    | (at_builtin; refine wpList_append_fits _ rfl _ _ 65 rfl base 5 i 1 Tryz.underlying65 hi hz1 D (1) 24 ([.int .u8 (c 0)]) rfl (o1.alloc _) ⟨_, 0, none⟩ 1 1 ([.int .u8 46]) rfl rfl (cell_one_new _ _ _) (by simp [Value.oneCell']) (by omega) ?_; intro w2 o2 g2; have b2 : Below base w w2 := ((b1).alloc (by have := (b1).size; omega) _).grown g2 (by have := (b1).size; simp; omega) (fun k e => by cases e; exact hD); have HD2 := cells_tail hne hBs HD.out g1 g2)
    | (at_builtin; refine wpList_append_fits _ rfl _ _ 65 rfl base 5 i 1 Tryz.underlying65 hi hz1 D (0) 24 ([]) rfl (hown.alloc _) ⟨_, 0, none⟩ 1 1 ([.int .u8 (c 0)]) rfl rfl (cell_one_new _ _ _) (by simp [Value.oneCell']) (by omega) ?_; intro w1 o1 g1; have b1 : Below base w w1 := ((Below.refl base w).alloc (by omega) _).grown g1 (by simp; omega) (fun k e => by cases e; exact hD)))
  go_loop [0, 114] (fun d v => d = .slice (some ⟨D, 0, none⟩) (2 + r) 24 ∧ v = .int .i64 0) (fun _ _ => 0)
  case atStart => exact ⟨rfl, rfl⟩
  case round =>
    obtain ⟨rfl, rfl⟩ := hrel
    go_wp2_with (first
      | (at_builtin; refine wpList_append_fits _ rfl _ _ 65 rfl base 5 i 1 Tryz.underlying65 hi hz1 D (2 + r + 1 + 1) 24 ([.int .u8 (c 0)] ++ [.int .u8 46] ++ tailV c r ++ [.int .u8 101] ++ [.int .u8 43]) rfl (o5.alloc _) ⟨_, 0, none⟩ 2 2 ([.int .u8 ((p : Int) + 48), .int .u8 ((q : Int) + 48)]) rfl rfl (cell_two_new _ _ _ _) (by simp [Value.oneCell']) (by omega) ?_; intro w6 o6 g6; have b6 : Below base w w6 := ((b5).alloc (by have := (b5).size; omega) _).grown g6 (by have := (b5).size; simp; omega) (fun k e => by cases e; exact hD))
      | (at_builtin; refine wpList_append_fits _ rfl _ _ 65 rfl base 5 i 1 Tryz.underlying65 hi hz1 D (2 + r + 1) 24 ([.int .u8 (c 0)] ++ [.int .u8 46] ++ tailV c r ++ [.int .u8 101]) rfl (o4.alloc _) ⟨_, 0, none⟩ 1 1 ([.int .u8 43]) rfl rfl (cell_one_new _ _ _) (by simp [Value.oneCell']) (by omega) ?_; intro w5 o5 g5; have b5 : Below base w w5 := ((b4).alloc (by have := (b4).size; omega) _).grown g5 (by have := (b4).size; simp; omega) (fun k e => by cases e; exact hD))
      | (at_builtin; refine wpList_append_fits _ rfl _ _ 65 rfl base 5 i 1 Tryz.underlying65 hi hz1 D (2 + r) 24 ([.int .u8 (c 0)] ++ [.int .u8 46] ++ tailV c r) rfl (o3.alloc _) ⟨_, 0, none⟩ 1 1 ([.int .u8 101]) rfl rfl (cell_one_new _ _ _) (by simp [Value.oneCell']) (by omega) ?_; intro w4 o4 g4; have b4 : Below base w w4 := ((b3).alloc (by have := (b3).size; omega) _).grown g4 (by have := (b3).size; simp; omega) (fun k e => by cases e; exact hD)))
    go_ret
    exact ⟨rfl, b6, by rw [hrow.out]; exact o6⟩

set_option maxRecDepth 100000 in
set_option maxHeartbeats 8000000 in
theorem efg_mp2 (base D B r X : Nat) (c : Nat → Int) (dp : Int) (w : World) (hb : base ≤ w.heap.size) (hBs : B < w.heap.size) (hne : B ≠ D) (hD : base ≤ D) (hown : w.ownsRow base 5 1 (.slice (some ⟨D, 0, none⟩) 0 24) 0 []) (hd : CellsAt w B c (r + 1)) (hr : 1 ≤ r ∧ r ≤ 16) (hX : dp - 1 = (X : Int)) (hXb : 100 ≤ X ∧ X < 400) :
    Calls Tryz.prog 118 #[.slice (some ⟨D, 0, none⟩) 0 24, .bool false, .slice (some ⟨B, 0, none⟩) 32 32, .int .i64 dp, .int .i64 ((r + 1 : Nat) : Int), .int .i64 (r : Int), .int .u8 101, .bool true] w fun e w' => e = .returned (.slice (some ⟨D, 0, none⟩) (2 + r + 1 + 1 + 3) 24) ∧ Below base w w' ∧ w'.ownsRow base 5 1 (.slice (some ⟨D, 0, none⟩) (2 + r + 1 + 1 + 3) 24) (2 + r + 1 + 1 + 3) (eRow ([.int .u8 (c 0)] ++ [.int .u8 46] ++ tailV c r) 43 X) := by
  have hrow : Hid (eRow ([.int .u8 (c 0)] ++ [.int .u8 46] ++ tailV c r) 43 X = [.int .u8 (c 0)] ++ [.int .u8 46] ++ tailV c r ++ [.int .u8 101] ++ [.int .u8 43] ++ [.int .u8 ((X / 100 : Nat) + 48 : Int), .int .u8 ((X / 10 % 10 : Nat) + 48 : Int), .int .u8 ((X % 10 : Nat) + 48 : Int)]) := hide (by unfold eRow expV; rw [if_neg (by omega), if_neg (by omega)])
  obtain ⟨LL, eLL⟩ : ∃ L, eRow ([.int .u8 (c 0)] ++ [.int .u8 46] ++ tailV c r) 43 X = L := ⟨_, rfl⟩
  rw [eLL] at hrow ⊢
  clear eLL
  obtain ⟨i, hi, hz0, hz1, hz2⟩ := info_parts info5
  have hd0 : w.cell? ⟨B, 0, none⟩ = some (.int .u8 (c 0)) := hd 0 (by omega)
  have HD := hide hd
  clear hd hz0 hz2
  have hl := tailV_len c r
  have h1 := tailV_one c r
  have hI1 : ((r + 1 : Nat) : Int) = (r : Int) + 1 := by omega
  have hlt : decide (dp - 1 < 0) = false := decide_eq_false (by omega)
  have hr1 : decide ((X : Int) < 10) = false := decide_eq_false (by omega)
  have hr2 : decide ((X : Int) < 100) = false := decide_eq_false (by omega)
  have hq0 : (X : Int) / 100 = ((X / 100 : Nat) : Int) := by simp
  have hq1 : (X : Int) / 10 = ((X / 10 : Nat) : Int) := by simp
  have hq2 : (X : Int) % 10 = ((X % 10 : Nat) : Int) := by simp
  have hb0 : X / 100 < 10 := by omega
  have hb1 : X / 10 < 40 := by omega
  have hb2 : X % 10 < 10 := by omega
  have hq5 : ((X / 10 : Nat) : Int) % 10 = ((X / 10 % 10 : Nat) : Int) := by simp
  have hb3 : X / 10 % 10 < 10 := by omega
  obtain ⟨o, eo⟩ : ∃ p, X / 100 = p := ⟨_, rfl⟩
  obtain ⟨p, ep⟩ : ∃ p, X / 10 = p := ⟨_, rfl⟩
  obtain ⟨q, eq⟩ : ∃ p, X % 10 = p := ⟨_, rfl⟩
  rw [eo] at hq0 hb0 hrow
  rw [ep] at hq1 hb1 hq5 hb3 hrow
  rw [eq] at hq2 hb2 hrow
  obtain ⟨s, es⟩ : ∃ s, p % 10 = s := ⟨_, rfl⟩
  rw [es] at hq5 hb3 hrow
  have hw0 : IntKind.u8.wrap (o : Int) = (o : Int) := by rw [IntKind.wrap_u8]; omega
  have hw1 : IntKind.u8.wrap (p : Int) = (p : Int) := by rw [IntKind.wrap_u8]; omega
  have hw2 : IntKind.u8.wrap (q : Int) = (q : Int) := by rw [IntKind.wrap_u8]; omega
  have hw3 : IntKind.u8.wrap ((o : Int) + 48) = (o : Int) + 48 := by rw [IntKind.wrap_u8]; omega
  have hw4 : IntKind.u8.wrap ((q : Int) + 48) = (q : Int) + 48 := by rw [IntKind.wrap_u8]; omega
  have hw5 : IntKind.u8.wrap ((s : Int) + 48) = (s : Int) + 48 := by rw [IntKind.wrap_u8]; omega
  clear eo ep eq es
  have hdp : -500 ≤ dp ∧ dp ≤ 500 := by omega
  clear hXb
  go_enter Tryz.func118, Tryz.ntmps118
  go_wp2_with (first
    | (at_builtin; refine wpList_append_fits _ rfl _ _ 65 rfl base 5 i 1 Tryz.underlying65 hi hz1 D (2) 24 ([.int .u8 (c 0)] ++ [.int .u8 46]) rfl o2 ⟨B, 1, none⟩ r 31 (tailV c r) rfl (by rw [hl]; omega) HD2.out h1 (by omega) ?_; intro w3 o3 g3; have b3 : Below base w w3 := b2.grown g3 (by have := b2.size; omega) (fun k e => by cases e; exact hD))
    | (at_builtin; refine wpList_append_fits _ rfl _ _ 65 rfl base 5 i 1 Tryz.underlying65 hi hz1 D (1) 24 ([.int .u8 (c 0)]) rfl (o1.alloc _) ⟨_, 0, none⟩ 1 1 ([.int .u8 46]) rfl rfl (cell_one_new _ _ _) (by simp [Value.oneCell']) (by omega) ?_; intro w2 o2 g2; have b2 : Below base w w2 := ((b1).alloc (by have := (b1).size; omega) _).grown g2 (by have := (b1).size; simp; omega) (fun k e => by cases e; exact hD); have HD2 := cells_tail hne hBs HD.out g1 g2)
    | (at_builtin; refine wpList_append_fits _ rfl _ _ 65 rfl base 5 i 1 Tryz.underlying65 hi hz1 D (0) 24 ([]) rfl (hown.alloc _) ⟨_, 0, none⟩ 1 1 ([.int .u8 (c 0)]) rfl rfl (cell_one_new _ _ _) (by simp [Value.oneCell']) (by omega) ?_; intro w1 o1 g1; have b1 : Below base w w1 := ((Below.refl base w).alloc (by omega) _).grown g1 (by simp; omega) (fun k e => by cases e; exact hD)))
  go_loop [0, 114] (fun d v => d = .slice (some ⟨D, 0, none⟩) (2 + r) 24 ∧ v = .int .i64 0) (fun _ _ => 0)
  case atStart => exact ⟨rfl, rfl⟩
  case round =>
    obtain ⟨rfl, rfl⟩ := hrel
    go_wp2_with (first
      | (at_builtin; refine wpList_append_fits _ rfl _ _ 65 rfl base 5 i 1 Tryz.underlying65 hi hz1 D (2 + r + 1 + 1) 24 ([.int .u8 (c 0)] ++ [.int .u8 46] ++ tailV c r ++ [.int .u8 101] ++ [.int .u8 43]) rfl (o5.alloc _) ⟨_, 0, none⟩ 3 3 ([.int .u8 ((o : Int) + 48), .int .u8 ((s : Int) + 48), .int .u8 ((q : Int) + 48)]) rfl rfl (cell_three_new _ _ _ _ _) (by simp [Value.oneCell']) (by omega) ?_; intro w6 o6 g6; have b6 : Below base w w6 := ((b5).alloc (by have := (b5).size; omega) _).grown g6 (by have := (b5).size; simp; omega) (fun k e => by cases e; exact hD))
      | (at_builtin; refine wpList_append_fits _ rfl _ _ 65 rfl base 5 i 1 Tryz.underlying65 hi hz1 D (2 + r + 1) 24 ([.int .u8 (c 0)] ++ [.int .u8 46] ++ tailV c r ++ [.int .u8 101]) rfl (o4.alloc _) ⟨_, 0, none⟩ 1 1 ([.int .u8 43]) rfl rfl (cell_one_new _ _ _) (by simp [Value.oneCell']) (by omega) ?_; intro w5 o5 g5; have b5 : Below base w w5 := ((b4).alloc (by have := (b4).size; omega) _).grown g5 (by have := (b4).size; simp; omega) (fun k e => by cases e; exact hD))
      | (at_builtin; refine wpList_append_fits _ rfl _ _ 65 rfl base 5 i 1 Tryz.underlying65 hi hz1 D (2 + r) 24 ([.int .u8 (c 0)] ++ [.int .u8 46] ++ tailV c r) rfl (o3.alloc _) ⟨_, 0, none⟩ 1 1 ([.int .u8 101]) rfl rfl (cell_one_new _ _ _) (by simp [Value.oneCell']) (by omega) ?_; intro w4 o4 g4; have b4 : Below base w w4 := ((b3).alloc (by have := (b3).size; omega) _).grown g4 (by have := (b3).size; simp; omega) (fun k e => by cases e; exact hD)))
    go_ret
    exact ⟨rfl, b6, by rw [hrow.out]; exact o6⟩

set_option maxRecDepth 100000 in
set_option maxHeartbeats 8000000 in
theorem efg_on0 (base D B X : Nat) (c : Nat → Int) (dp : Int) (w : World) (hb : base ≤ w.heap.size) (_hBs : B < w.heap.size) (_hne : B ≠ D) (hD : base ≤ D) (hown : w.ownsRow base 5 1 (.slice (some ⟨D, 0, none⟩) 0 24) 0 []) (hd : CellsAt w B c 1) (hX : dp - 1 = -(X : Int)) (hX0 : 1 ≤ X) (hXb : X < 10) :
    Calls Tryz.prog 118 #[.slice (some ⟨D, 0, none⟩) 0 24, .bool false, .slice (some ⟨B, 0, none⟩) 32 32, .int .i64 dp, .int .i64 1, .int .i64 0, .int .u8 101, .bool true] w fun e w' => e = .returned (.slice (some ⟨D, 0, none⟩) (5) 24) ∧ Below base w w' ∧ w'.ownsRow base 5 1 (.slice (some ⟨D, 0, none⟩) (5) 24) (5) (eRow ([.int .u8 (c 0)]) 45 X) := by
  have hrow : Hid (eRow ([.int .u8 (c 0)]) 45 X = [.int .u8 (c 0)] ++ [.int .u8 101] ++ [.int .u8 45] ++ [.int .u8 48, .int .u8 ((X : Int) + 48)]) := hide (by unfold eRow expV; rw [if_pos hXb])
  obtain ⟨LL, eLL⟩ : ∃ L, eRow ([.int .u8 (c 0)]) 45 X = L := ⟨_, rfl⟩
  rw [eLL] at hrow ⊢
  clear eLL
  obtain ⟨i, hi, hz0, hz1, hz2⟩ := info_parts info5
  have hd0 : w.cell? ⟨B, 0, none⟩ = some (.int .u8 (c 0)) := hd 0 (by omega)
  have HD := hide hd
  clear hd hz0 hz2
  have hlt : decide (dp - 1 < 0) = true := decide_eq_true (by omega)
  have hX2 : -(dp - 1) = (X : Int) := by omega
  have hr1 : decide ((X : Int) < 10) = true := decide_eq_true (by omega)
  have hw1 : IntKind.u8.wrap (X : Int) = (X : Int) := by rw [IntKind.wrap_u8]; omega
  have hw2 : IntKind.u8.wrap ((X : Int) + 48) = (X : Int) + 48 := by rw [IntKind.wrap_u8]; omega
  have hdp : -500 ≤ dp ∧ dp ≤ 500 := by omega
  clear hXb
  go_enter Tryz.func118, Tryz.ntmps118
  go_wp2_with (first
    | (at_builtin; refine wpList_append_fits _ rfl _ _ 65 rfl base 5 i 1 Tryz.underlying65 hi hz1 D (3) 24 ([.int .u8 (c 0)] ++ [.int .u8 101] ++ [.int .u8 45]) rfl (o5.alloc _) ⟨_, 0, none⟩ 2 2 ([.int .u8 48, .int .u8 ((X : Int) + 48)]) rfl rfl (cell_two_new _ _ _ _) (by simp [Value.oneCell']) (by omega) ?_; intro w6 o6 g6; have b6 : Below base w w6 := ((b5).alloc (by have := (b5).size; omega) _).grown g6 (by have := (b5).size; simp; omega) (fun k e => by cases e; exact hD))
    | (at_builtin; refine wpList_append_fits _ rfl _ _ 65 rfl base 5 i 1 Tryz.underlying65 hi hz1 D (2) 24 ([.int .u8 (c 0)] ++ [.int .u8 101]) rfl (o4.alloc _) ⟨_, 0, none⟩ 1 1 ([.int .u8 45]) rfl rfl (cell_one_new _ _ _) (by simp [Value.oneCell']) (by omega) ?_; intro w5 o5 g5; have b5 : Below base w w5 := ((b4).alloc (by have := (b4).size; omega) _).grown g5 (by have := (b4).size; simp; omega) (fun k e => by cases e; exact hD))
    | (at_builtin; refine wpList_append_fits _ rfl _ _ 65 rfl base 5 i 1 Tryz.underlying65 hi hz1 D (1) 24 ([.int .u8 (c 0)]) rfl (o1.alloc _) ⟨_, 0, none⟩ 1 1 ([.int .u8 101]) rfl rfl (cell_one_new _ _ _) (by simp [Value.oneCell']) (by omega) ?_; intro w4 o4 g4; have b4 : Below base w w4 := ((b1).alloc (by have := (b1).size; omega) _).grown g4 (by have := (b1).size; simp; omega) (fun k e => by cases e; exact hD))
    | (at_builtin; refine wpList_append_fits _ rfl _ _ 65 rfl base 5 i 1 Tryz.underlying65 hi hz1 D (0) 24 ([]) rfl (hown.alloc _) ⟨_, 0, none⟩ 1 1 ([.int .u8 (c 0)]) rfl rfl (cell_one_new _ _ _) (by simp [Value.oneCell']) (by omega) ?_; intro w1 o1 g1; have b1 : Below base w w1 := ((Below.refl base w).alloc (by omega) _).grown g1 (by simp; omega) (fun k e => by cases e; exact hD)))
  go_ret
  exact ⟨rfl, b6, by rw [hrow.out]; exact o6⟩

set_option maxRecDepth 100000 in
set_option maxHeartbeats 8000000 in
theorem efg_on1 (base D B X : Nat) (c : Nat → Int) (dp : Int) (w : World) (hb : base ≤ w.heap.size) (_hBs : B < w.heap.size) (_hne : B ≠ D) (hD : base ≤ D) (hown : w.ownsRow base 5 1 (.slice (some ⟨D, 0, none⟩) 0 24) 0 []) (hd : CellsAt w B c 1) (hX : dp - 1 = -(X : Int)) (hX0 : 1 ≤ X) (hXb : 10 ≤ X ∧ X < 100) :
    Calls Tryz.prog 118 #[.slice (some ⟨D, 0, none⟩) 0 24, .bool false, .slice (some ⟨B, 0, none⟩) 32 32, .int .i64 dp, .int .i64 1, .int .i64 0, .int .u8 101, .bool true] w fun e w' => e = .returned (.slice (some ⟨D, 0, none⟩) (5) 24) ∧ Below base w w' ∧ w'.ownsRow base 5 1 (.slice (some ⟨D, 0, none⟩) (5) 24) (5) (eRow ([.int .u8 (c 0)]) 45 X) := by
  have hrow : Hid (eRow ([.int .u8 (c 0)]) 45 X = [.int .u8 (c 0)] ++ [.int .u8 101] ++ [.int .u8 45] ++ [.int .u8 ((X / 10 : Nat) + 48 : Int), .int .u8 ((X % 10 : Nat) + 48 : Int)]) := hide (by unfold eRow expV; rw [if_neg (by omega), if_pos hXb.2])
  obtain ⟨LL, eLL⟩ : ∃ L, eRow ([.int .u8 (c 0)]) 45 X = L := ⟨_, rfl⟩
  rw [eLL] at hrow ⊢
  clear eLL
  obtain ⟨i, hi, hz0, hz1, hz2⟩ := info_parts info5
  have hd0 : w.cell? ⟨B, 0, none⟩ = some (.int .u8 (c 0)) := hd 0 (by omega)
  have HD := hide hd
  clear hd hz0 hz2
  have hlt : decide (dp - 1 < 0) = true := decide_eq_true (by omega)
  have hX2 : -(dp - 1) = (X : Int) := by omega
  have hr1 : decide ((X : Int) < 10) = false := decide_eq_false (by omega)
  have hr2 : decide ((X : Int) < 100) = true := decide_eq_true (by omega)
  have hq1 : (X : Int) / 10 = ((X / 10 : Nat) : Int) := by simp
  have hq2 : (X : Int) % 10 = ((X % 10 : Nat) : Int) := by simp
  have hq3 : (X : Int).tdiv 10 = ((X / 10 : Nat) : Int) := by rw [Int.tdiv_eq_ediv_of_nonneg (by omega)]; simp
  have hq4 : (X : Int).tmod 10 = ((X % 10 : Nat) : Int) := by rw [Int.tmod_eq_emod_of_nonneg (by omega)]; simp
  have hb1 : X / 10 < 10 := by omega
  have hb2 : X % 10 < 10 := by omega
  obtain ⟨p, ep⟩ : ∃ p, X / 10 = p := ⟨_, rfl⟩
  obtain ⟨q, eq⟩ : ∃ p, X % 10 = p := ⟨_, rfl⟩
  rw [ep] at hq1 hq3 hb1 hrow
  rw [eq] at hq2 hq4 hb2 hrow
  have hw1 : IntKind.u8.wrap (p : Int) = (p : Int) := by rw [IntKind.wrap_u8]; omega
  have hw2 : IntKind.u8.wrap (q : Int) = (q : Int) := by rw [IntKind.wrap_u8]; omega
  have hw3 : IntKind.u8.wrap ((p : Int) + 48) = (p : Int) + 48 := by rw [IntKind.wrap_u8]; omega
  have hw4 : IntKind.u8.wrap ((q : Int) + 48) = (q : Int) + 48 := by rw [IntKind.wrap_u8]; omega
  clear ep eq
  have hdp : -500 ≤ dp ∧ dp ≤ 500 := by omega
  clear hXb
  go_enter Tryz.func118, Tryz.ntmps118
  go_wp2_with (first
    | (at_builtin; refine wpList_append_fits _ rfl _ _ 65 rfl base 5 i 1 Tryz.underlying65 hi hz1 D (3) 24 ([.int .u8 (c 0)] ++ [.int .u8 101] ++ [.int .u8 45]) rfl (o5.alloc _) ⟨_, 0, none⟩ 2 2 ([.int .u8 ((p : Int) + 48), .int .u8 ((q : Int) + 48)]) rfl rfl (cell_two_new _ _ _ _) (by simp [Value.oneCell']) (by omega) ?_; intro w6 o6 g6; have b6 : Below base w w6 := ((b5).alloc (by have := (b5).size; omega) _).grown g6 (by have := (b5).size; simp; omega) (fun k e => by cases e; exact hD))
    | (at_builtin; refine wpList_append_fits _ rfl _ _ 65 rfl base 5 i 1 Tryz.underlying65 hi hz1 D (2) 24 ([.int .u8 (c 0)] ++ [.int .u8 101]) rfl (o4.alloc _) ⟨_, 0, none⟩ 1 1 ([.int .u8 45]) rfl rfl (cell_one_new _ _ _) (by simp [Value.oneCell']) (by omega) ?_; intro w5 o5 g5; have b5 : Below base w w5 := ((b4).alloc (by have := (b4).size; omega) _).grown g5 (by have := (b4).size; simp; omega) (fun k e => by cases e; exact hD))
    | (at_builtin; refine wpList_append_fits _ rfl _ _ 65 rfl base 5 i 1 Tryz.underlying65 hi hz1 D (1) 24 ([.int .u8 (c 0)]) rfl (o1.alloc _) ⟨_, 0, none⟩ 1 1 ([.int .u8 101]) rfl rfl (cell_one_new _ _ _) (by simp [Value.oneCell']) (by omega) ?_; intro w4 o4 g4; have b4 : Below base w w4 := ((b1).alloc (by have := (b1).size; omega) _).grown g4 (by have := (b1).size; simp; omega) (fun k e => by cases e; exact hD))
    | (at_builtin; refine wpList_append_fits _ rfl _ _ 65 rfl base 5 i 1 Tryz.underlying65 hi hz1 D (0) 24 ([]) rfl (hown.alloc _) ⟨_, 0, none⟩ 1 1 ([.int .u8 (c 0)]) rfl rfl (cell_one_new _ _ _) (by simp [Value.oneCell']) (by omega) ?_; intro w1 o1 g1; have b1 : Below base w w1 := ((Below.refl base w).alloc (by omega) _).grown g1 (by simp; omega) (fun k e => by cases e; exact hD)))
  go_ret
  exact ⟨rfl, b6, by rw [hrow.out]; exact o6⟩

set_option maxRecDepth 100000 in
set_option maxHeartbeats 8000000 in
theorem efg_on2 (base D B X : Nat) (c : Nat → Int) (dp : Int) (w : World) (hb : base ≤ w.heap.size) (_hBs : B < w.heap.size) (_hne : B ≠ D) (hD : base ≤ D) (hown : w.ownsRow base 5 1 (.slice (some ⟨D, 0, none⟩) 0 24) 0 []) (hd : CellsAt w B c 1) (hX : dp - 1 = -(X : Int)) (hX0 : 1 ≤ X) (hXb : 100 ≤ X ∧ X < 400) :
    Calls Tryz.prog 118 #[.slice (some ⟨D, 0, none⟩) 0 24, .bool false, .slice (some ⟨B, 0, none⟩) 32 32, .int .i64 dp, .int .i64 1, .int .i64 0, .int .u8 101, .bool true] w fun e w' => e = .returned (.slice (some ⟨D, 0, none⟩) (6) 24) ∧ Below base w w' ∧ w'.ownsRow base 5 1 (.slice (some ⟨D, 0, none⟩) (6) 24) (6) (eRow ([.int .u8 (c 0)]) 45 X) := by
  have hrow : Hid (eRow ([.int .u8 (c 0)]) 45 X = [.int .u8 (c 0)] ++ [.int .u8 101] ++ [.int .u8 45] ++ [.int .u8 ((X / 100 : Nat) + 48 : Int), .int .u8 ((X / 10 % 10 : Nat) + 48 : Int), .int .u8 ((X % 10 : Nat) + 48 : Int)]) := hide (by unfold eRow expV; rw [if_neg (by omega), if_neg (by omega)])
  obtain ⟨LL, eLL⟩ : ∃ L, eRow ([.int .u8 (c 0)]) 45 X = L := ⟨_, rfl⟩
  rw [eLL] at hrow ⊢
  clear eLL
  obtain ⟨i, hi, hz0, hz1, hz2⟩ := info_parts info5
  have hd0 : w.cell? ⟨B, 0, none⟩ = some (.int .u8 (c 0)) := hd 0 (by omega)
  have HD := hide hd
  clear hd hz0 hz2
  have hlt : decide (dp - 1 < 0) = true := decide_eq_true (by omega)
  have hX2 : -(dp - 1) = (X : Int) := by omega
  have hr1 : decide ((X : Int) < 10) = false := decide_eq_false (by omega)
  have hr2 : decide ((X : Int) < 100) = false := decide_eq_false (by omega)
  have hq0 : (X : Int) / 100 = ((X / 100 : Nat) : Int) := by simp
  have hq1 : (X : Int) / 10 = ((X / 10 : Nat) : Int) := by simp
  have hq2 : (X : Int) % 10 = ((X % 10 : Nat) : Int) := by simp
  have hb0 : X / 100 < 10 := by omega
  have hb1 : X / 10 < 40 := by omega
  have hb2 : X % 10 < 10 := by omega
  have hq5 : ((X / 10 : Nat) : Int) % 10 = ((X / 10 % 10 : Nat) : Int) := by simp
  have hb3 : X / 10 % 10 < 10 := by omega
  obtain ⟨o, eo⟩ : ∃ p, X / 100 = p := ⟨_, rfl⟩
  obtain ⟨p, ep⟩ : ∃ p, X / 10 = p := ⟨_, rfl⟩
  obtain ⟨q, eq⟩ : ∃ p, X % 10 = p := ⟨_, rfl⟩
  rw [eo] at hq0 hb0 hrow
  rw [ep] at hq1 hb1 hq5 hb3 hrow
  rw [eq] at hq2 hb2 hrow
  obtain ⟨s, es⟩ : ∃ s, p % 10 = s := ⟨_, rfl⟩
  rw [es] at hq5 hb3 hrow
  have hw0 : IntKind.u8.wrap (o : Int) = (o : Int) := by rw [IntKind.wrap_u8]; omega
  have hw1 : IntKind.u8.wrap (p : Int) = (p : Int) := by rw [IntKind.wrap_u8]; omega
  have hw2 : IntKind.u8.wrap (q : Int) = (q : Int) := by rw [IntKind.wrap_u8]; omega
  have hw3 : IntKind.u8.wrap ((o : Int) + 48) = (o : Int) + 48 := by rw [IntKind.wrap_u8]; omega
  have hw4 : IntKind.u8.wrap ((q : Int) + 48) = (q : Int) + 48 := by rw [IntKind.wrap_u8]; omega
  have hw5 : IntKind.u8.wrap ((s : Int) + 48) = (s : Int) + 48 := by rw [IntKind.wrap_u8]; omega
  clear eo ep eq es
  have hdp : -500 ≤ dp ∧ dp ≤ 500 := by omega
  clear hXb
  go_enter Tryz.func118, Tryz.ntmps118
  go_wp2_with (first
    | (at_builtin; refine wpList_append_fits _ rfl _ _ 65 rfl base 5 i 1 Tryz.underlying65 hi hz1 D (3) 24 ([.int .u8 (c 0)] ++ [.int .u8 101] ++ [.int .u8 45]) rfl (o5.alloc _) ⟨_, 0, none⟩ 3 3 ([.int .u8 ((o : Int) + 48), .int .u8 ((s : Int) + 48), .int .u8 ((q : Int) + 48)]) rfl rfl (cell_three_new _ _ _ _ _) (by simp [Value.oneCell']) (by omega) ?_; intro w6 o6 g6; have b6 : Below base w w6 := ((b5).alloc (by have := (b5).size; omega) _).grown g6 (by have := (b5).size; simp; omega) (fun k e => by cases e; exact hD))
    | (at_builtin; refine wpList_append_fits _ rfl _ _ 65 rfl base 5 i 1 Tryz.underlying65 hi hz1 D (2) 24 ([.int .u8 (c 0)] ++ [.int .u8 101]) rfl (o4.alloc _) ⟨_, 0, none⟩ 1 1 ([.int .u8 45]) rfl rfl (cell_one_new _ _ _) (by simp [Value.oneCell']) (by omega) ?_; intro w5 o5 g5; have b5 : Below base w w5 := ((b4).alloc (by have := (b4).size; omega) _).grown g5 (by have := (b4).size; simp; omega) (fun k e => by cases e; exact hD))
    | (at_builtin; refine wpList_append_fits _ rfl _ _ 65 rfl base 5 i 1 Tryz.underlying65 hi hz1 D (1) 24 ([.int .u8 (c 0)]) rfl (o1.alloc _) ⟨_, 0, none⟩ 1 1 ([.int .u8 101]) rfl rfl (cell_one_new _ _ _) (by simp [Value.oneCell']) (by omega) ?_; intro w4 o4 g4; have b4 : Below base w w4 := ((b1).alloc (by have := (b1).size; omega) _).grown g4 (by have := (b1).size; simp; omega) (fun k e => by cases e; exact hD))
    | (at_builtin; refine wpList_append_fits _ rfl _ _ 65 rfl base 5 i 1 Tryz.underlying65 hi hz1 D (0) 24 ([]) rfl (hown.alloc _) ⟨_, 0, none⟩ 1 1 ([.int .u8 (c 0)]) rfl rfl (cell_one_new _ _ _) (by simp [Value.oneCell']) (by omega) ?_; intro w1 o1 g1; have b1 : Below base w w1 := ((Below.refl base w).alloc (by omega) _).grown g1 (by simp; omega) (fun k e => by cases e; exact hD)))
  go_ret
  exact ⟨rfl, b6, by rw [hrow.out]; exact o6⟩

set_option maxRecDepth 100000 in
set_option maxHeartbeats 8000000 in
theorem efg_op0 (base D B X : Nat) (c : Nat → Int) (dp : Int) (w : World) (hb : base ≤ w.heap.size) (_hBs : B < w.heap.size) (_hne : B ≠ D) (hD : base ≤ D) (hown : w.ownsRow base 5 1 (.slice (some ⟨D, 0, none⟩) 0 24) 0 []) (hd : CellsAt w B c 1) (hX : dp - 1 = (X : Int)) (hXb : X < 10) :
    Calls Tryz.prog 118 #[.slice (some ⟨D, 0, none⟩) 0 24, .bool false, .slice (some ⟨B, 0, none⟩) 32 32, .int .i64 dp, .int .i64 1, .int .i64 0, .int .u8 101, .bool true] w fun e w' => e = .returned (.slice (some ⟨D, 0, none⟩) (5) 24) ∧ Below base w w' ∧ w'.ownsRow base 5 1 (.slice (some ⟨D, 0, none⟩) (5) 24) (5) (eRow ([.int .u8 (c 0)]) 43 X) := by
  have hrow : Hid (eRow ([.int .u8 (c 0)]) 43 X = [.int .u8 (c 0)] ++ [.int .u8 101] ++ [.int .u8 43] ++ [.int .u8 48, .int .u8 ((X : Int) + 48)]) := hide (by unfold eRow expV; rw [if_pos hXb])
  obtain ⟨LL, eLL⟩ : ∃ L, eRow ([.int .u8 (c 0)]) 43 X = L := ⟨_, rfl⟩
  rw [eLL] at hrow ⊢
  clear eLL
  obtain ⟨i, hi, hz0, hz1, hz2⟩ := info_parts info5
  have hd0 : w.cell? ⟨B, 0, none⟩ = some (.int .u8 (c 0)) := hd 0 (by omega)
  have HD := hide hd
  clear hd hz0 hz2
  have hlt : decide (dp - 1 < 0) = false := decide_eq_false (by omega)
  have hr1 : decide ((X : Int) < 10) = true := decide_eq_true (by omega)
  have hw1 : IntKind.u8.wrap (X : Int) = (X : Int) := by rw [IntKind.wrap_u8]; omega
  have hw2 : IntKind.u8.wrap ((X : Int) + 48) = (X : Int) + 48 := by rw [IntKind.wrap_u8]; omega
  have hdp : -500 ≤ dp ∧ dp ≤ 500 := by omega
  clear hXb
  go_enter Tryz.func118, Tryz.ntmps118
  go_wp2_with (first
    | (at_builtin; refine wpList_append_fits _ rfl _ _ 65 rfl base 5 i 1 Tryz.underlying65 hi hz1 D (3) 24 ([.int .u8 (c 0)] ++ [.int .u8 101] ++ [.int .u8 43]) rfl (o5.alloc _) ⟨_, 0, none⟩ 2 2 ([.int .u8 48, .int .u8 ((X : Int) + 48)]) rfl rfl (cell_two_new _ _ _ _) (by simp [Value.oneCell']) (by omega) ?_; intro w6 o6 g6; have b6 : Below base w w6 := ((b5).alloc (by have := (b5).size; omega) _).grown g6 (by have := (b5).size; simp; omega) (fun k e => by cases e; exact hD))
    | (at_builtin; refine wpList_append_fits _ rfl _ _ 65 rfl base 5 i 1 Tryz.underlying65 hi hz1 D (2) 24 ([.int .u8 (c 0)] ++ [.int .u8 101]) rfl (o4.alloc _) ⟨_, 0, none⟩ 1 1 ([.int .u8 43]) rfl rfl (cell_one_new _ _ _) (by simp [Value.oneCell']) (by omega) ?_; intro w5 o5 g5; have b5 : Below base w w5 := ((b4).alloc (by have := (b4).size; omega) _).grown g5 (by have := (b4).size; simp; omega) (fun k e => by cases e; exact hD))
    | (at_builtin; refine wpList_append_fits _ rfl _ _ 65 rfl base 5 i 1 Tryz.underlying65 hi hz1 D (1) 24 ([.int .u8 (c 0)]) rfl (o1.alloc _) ⟨_, 0, none⟩ 1 1 ([.int .u8 101]) rfl rfl (cell_one_new _ _ _) (by simp [Value.oneCell']) (by omega) ?_; intro w4 o4 g4; have b4 : Below base w w4 := ((b1).alloc (by have := (b1).size; omega) _).grown g4 (by have := (b1).size; simp; omega) (fun k e => by cases e; exact hD))
    | (at_builtin; refine wpList_append_fits _ rfl _ _ 65 rfl base 5 i 1 Tryz.underlying65 hi hz1 D (0) 24 ([]) rfl (hown.alloc _) ⟨_, 0, none⟩ 1 1 ([.int .u8 (c 0)]) rfl rfl (cell_one_new _ _ _) (by simp [Value.oneCell']) (by omega) ?_; intro w1 o1 g1; have b1 : Below base w w1 := ((Below.refl base w).alloc (by omega) _).grown g1 (by simp; omega) (fun k e => by cases e; exact hD)))
  go_ret
  exact ⟨rfl, b6, by rw [hrow.out]; exact o6⟩

set_option maxRecDepth 100000 in
set_option maxHeartbeats 8000000 in
theorem efg_op1 (base D B X : Nat) (c : Nat → Int) (dp : Int) (w : World) (hb : base ≤ w.heap.size) (_hBs : B < w.heap.size) (_hne : B ≠ D) (hD : base ≤ D) (hown : w.ownsRow base 5 1 (.slice (some ⟨D, 0, none⟩) 0 24) 0 []) (hd : CellsAt w B c 1) (hX : dp - 1 = (X : Int)) (hXb : 10 ≤ X ∧ X < 100) :
    Calls Tryz.prog 118 #[.slice (some ⟨D, 0, none⟩) 0 24, .bool false, .slice (some ⟨B, 0, none⟩) 32 32, .int .i64 dp, .int .i64 1, .int .i64 0, .int .u8 101, .bool true] w fun e w' => e = .returned (.slice (some ⟨D, 0, none⟩) (5) 24) ∧ Below base w w' ∧ w'.ownsRow base 5 1 (.slice (some ⟨D, 0, none⟩) (5) 24) (5) (eRow ([.int .u8 (c 0)]) 43 X) := by
  have hrow : Hid (eRow ([.int .u8 (c 0)]) 43 X = [.int .u8 (c 0)] ++ [.int .u8 101] ++ [.int .u8 43] ++ [.int .u8 ((X / 10 : Nat) + 48 : Int), .int .u8 ((X % 10 : Nat) + 48 : Int)]) := hide (by unfold eRow expV; rw [if_neg (by omega), if_pos hXb.2])
  obtain ⟨LL, eLL⟩ : ∃ L, eRow ([.int .u8 (c 0)]) 43 X = L := ⟨_, rfl⟩
  rw [eLL] at hrow ⊢
  clear eLL
  obtain ⟨i, hi, hz0, hz1, hz2⟩ := info_parts info5
  have hd0 : w.cell? ⟨B, 0, none⟩ = some (.int .u8 (c 0)) := hd 0 (by omega)
  have HD := hide hd
  clear hd hz0 hz2
  have hlt : decide (dp - 1 < 0) = false := decide_eq_false (by omega)
  have hr1 : decide ((X : Int) < 10) = false := decide_eq_false (by omega)
  have hr2 : decide ((X : Int) < 100) = true := decide_eq_true (by omega)
  have hq1 : (X : Int) / 10 = ((X / 10 : Nat) : Int) := by simp
  have hq2 : (X : Int) % 10 = ((X % 10 : Nat) : Int) := by simp
  have hq3 : (X : Int).tdiv 10 = ((X / 10 : Nat) : Int) := by rw [Int.tdiv_eq_ediv_of_nonneg (by omega)]; simp
  have hq4 : (X : Int).tmod 10 = ((X % 10 : Nat) : Int) := by rw [Int.tmod_eq_emod_of_nonneg (by omega)]; simp
  have hb1 : X / 10 < 10 := by omega
  have hb2 : X % 10 < 10 := by omega
  obtain ⟨p, ep⟩ : ∃ p, X / 10 = p := ⟨_, rfl⟩
  obtain ⟨q, eq⟩ : ∃ p, X % 10 = p := ⟨_, rfl⟩
  rw [ep] at hq1 hq3 hb1 hrow
  rw [eq] at hq2 hq4 hb2 hrow
  have hw1 : IntKind.u8.wrap (p : Int) = (p : Int) := by rw [IntKind.wrap_u8]; omega
  have hw2 : IntKind.u8.wrap (q : Int) = (q : Int) := by rw [IntKind.wrap_u8]; omega
  have hw3 : IntKind.u8.wrap ((p : Int) + 48) = (p : Int) + 48 := by rw [IntKind.wrap_u8]; omega
  have hw4 : IntKind.u8.wrap ((q : Int) + 48) = (q : Int) + 48 := by rw [IntKind.wrap_u8]; omega
  clear ep eq
  have hdp : -500 ≤ dp ∧ dp ≤ 500 := by omega
  clear hXb
  go_enter Tryz.func118, Tryz.ntmps118
  go_wp2_with (first
    | (at_builtin; refine wpList_append_fits _ rfl _ _ 65 rfl base 5 i 1 Tryz.underlying65 hi hz1 D (3) 24 ([.int .u8 (c 0)] ++ [.int .u8 101] ++ [.int .u8 43]) rfl (o5.alloc _) ⟨_, 0, none⟩ 2 2 ([.int .u8 ((p : Int) + 48), .int .u8 ((q : Int) + 48)]) rfl rfl (cell_two_new _ _ _ _) (by simp [Value.oneCell']) (by omega) ?_; intro w6 o6 g6; have b6 : Below base w w6 := ((b5).alloc (by have := (b5).size; omega) _).grown g6 (by have := (b5).size; simp; omega) (fun k e => by cases e; exact hD))
    | (at_builtin; refine wpList_append_fits _ rfl _ _ 65 rfl base 5 i 1 Tryz.underlying65 hi hz1 D (2) 24 ([.int .u8 (c 0)] ++ [.int .u8 101]) rfl (o4.alloc _) ⟨_, 0, none⟩ 1 1 ([.int .u8 43]) rfl rfl (cell_one_new _ _ _) (by simp [Value.oneCell']) (by omega) ?_; intro w5 o5 g5; have b5 : Below base w w5 := ((b4).alloc (by have := (b4).size; omega) _).grown g5 (by have := (b4).size; simp; omega) (fun k e => by cases e; exact hD))
    | (at_builtin; refine wpList_append_fits _ rfl _ _ 65 rfl base 5 i 1 Tryz.underlying65 hi hz1 D (1) 24 ([.int .u8 (c 0)]) rfl (o1.alloc _) ⟨_, 0, none⟩ 1 1 ([.int .u8 101]) rfl rfl (cell_one_new _ _ _) (by simp [Value.oneCell']) (by omega) ?_; intro w4 o4 g4; have b4 : Below base w w4 := ((b1).alloc (by have := (b1).size; omega) _).grown g4 (by have := (b1).size; simp; omega) (fun k e => by cases e; exact hD))
    | (at_builtin; refine wpList_append_fits _ rfl _ _ 65 rfl base 5 i 1 Tryz.underlying65 hi hz1 D (0) 24 ([]) rfl (hown.alloc _) ⟨_, 0, none⟩ 1 1 ([.int .u8 (c 0)]) rfl rfl (cell_one_new _ _ _) (by simp [Value.oneCell']) (by omega) ?_; intro w1 o1 g1; have b1 : Below base w w1 := ((Below.refl base w).alloc (by omega) _).grown g1 (by simp; omega) (fun k e => by cases e; exact hD)))
  go_ret
  exact ⟨rfl, b6, by rw [hrow.out]; exact o6⟩

set_option maxRecDepth 100000 in
set_option maxHeartbeats 8000000 in
theorem efg_op2 (base D B X : Nat) (c : Nat → Int) (dp : Int) (w : World) (hb : base ≤ w.heap.size) (_hBs : B < w.heap.size) (_hne : B ≠ D) (hD : base ≤ D) (hown : w.ownsRow base 5 1 (.slice (some ⟨D, 0, none⟩) 0 24) 0 []) (hd : CellsAt w B c 1) (hX : dp - 1 = (X : Int)) (hXb : 100 ≤ X ∧ X < 400) :
    Calls Tryz.prog 118 #[.slice (some ⟨D, 0, none⟩) 0 24, .bool false, .slice (some ⟨B, 0, none⟩) 32 32, .int .i64 dp, .int .i64 1, .int .i64 0, .int .u8 101, .bool true] w fun e w' => e = .returned (.slice (some ⟨D, 0, none⟩) (6) 24) ∧ Below base w w' ∧ w'.ownsRow base 5 1 (.slice (some ⟨D, 0, none⟩) (6) 24) (6) (eRow ([.int .u8 (c 0)]) 43 X) := by
  have hrow : Hid (eRow ([.int .u8 (c 0)]) 43 X = [.int .u8 (c 0)] ++ [.int .u8 101] ++ [.int .u8 43] ++ [.int .u8 ((X / 100 : Nat) + 48 : Int), .int .u8 ((X / 10 % 10 : Nat) + 48 : Int), .int .u8 ((X % 10 : Nat) + 48 : Int)]) := hide (by unfold eRow expV; rw [if_neg (by omega), if_neg (by omega)])
  obtain ⟨LL, eLL⟩ : ∃ L, eRow ([.int .u8 (c 0)]) 43 X = L := ⟨_, rfl⟩
  rw [eLL] at hrow ⊢
  clear eLL
  obtain ⟨i, hi, hz0, hz1, hz2⟩ := info_parts info5
  have hd0 : w.cell? ⟨B, 0, none⟩ = some (.int .u8 (c 0)) := hd 0 (by omega)
  have HD := hide hd
  clear hd hz0 hz2
  have hlt : decide (dp - 1 < 0) = false := decide_eq_false (by omega)
  have hr1 : decide ((X : Int) < 10) = false := decide_eq_false (by omega)
  have hr2 : decide ((X : Int) < 100) = false := decide_eq_false (by omega)
  have hq0 : (X : Int) / 100 = ((X / 100 : Nat) : Int) := by simp
  have hq1 : (X : Int) / 10 = ((X / 10 : Nat) : Int) := by simp
  have hq2 : (X : Int) % 10 = ((X % 10 : Nat) : Int) := by simp
  have hb0 : X / 100 < 10 := by omega
  have hb1 : X / 10 < 40 := by omega
  have hb2 : X % 10 < 10 := by omega
  have hq5 : ((X / 10 : Nat) : Int) % 10 = ((X / 10 % 10 : Nat) : Int) := by simp
  have hb3 : X / 10 % 10 < 10 := by omega
  obtain ⟨o, eo⟩ : ∃ p, X / 100 = p := ⟨_, rfl⟩
  obtain ⟨p, ep⟩ : ∃ p, X / 10 = p := ⟨_, rfl⟩
  obtain ⟨q, eq⟩ : ∃ p, X % 10 = p := ⟨_, rfl⟩
  rw [eo] at hq0 hb0 hrow
  rw [ep] at hq1 hb1 hq5 hb3 hrow
  rw [eq] at hq2 hb2 hrow
  obtain ⟨s, es⟩ : ∃ s, p % 10 = s := ⟨_, rfl⟩
  rw [es] at hq5 hb3 hrow
  have hw0 : IntKind.u8.wrap (o : Int) = (o : Int) := by rw [IntKind.wrap_u8]; omega
  have hw1 : IntKind.u8.wrap (p : Int) = (p : Int) := by rw [IntKind.wrap_u8]; omega
  have hw2 : IntKind.u8.wrap (q : Int) = (q : Int) := by rw [IntKind.wrap_u8]; omega
  have hw3 : IntKind.u8.wrap ((o : Int) + 48) = (o : Int) + 48 := by rw [IntKind.wrap_u8]; omega
  have hw4 : IntKind.u8.wrap ((q : Int) + 48) = (q : Int) + 48 := by rw [IntKind.wrap_u8]; omega
  have hw5 : IntKind.u8.wrap ((s : Int) + 48) = (s : Int) + 48 := by rw [IntKind.wrap_u8]; omega
  clear eo ep eq es
  have hdp : -500 ≤ dp ∧ dp ≤ 500 := by omega
  clear hXb
  go_enter Tryz.func118, Tryz.ntmps118
  go_wp2_with (first
    | (at_builtin; refine wpList_append_fits _ rfl _ _ 65 rfl base 5 i 1 Tryz.underlying65 hi hz1 D (3) 24 ([.int .u8 (c 0)] ++ [.int .u8 101] ++ [.int .u8 43]) rfl (o5.alloc _) ⟨_, 0, none⟩ 3 3 ([.int .u8 ((o : Int) + 48), .int .u8 ((s : Int) + 48), .int .u8 ((q : Int) + 48)]) rfl rfl (cell_three_new _ _ _ _ _) (by simp [Value.oneCell']) (by omega) ?_; intro w6 o6 g6; have b6 : Below base w w6 := ((b5).alloc (by have := (b5).size; omega) _).grown g6 (by have := (b5).size; simp; omega) (fun k e => by cases e; exact hD))
    | (at_builtin; refine wpList_append_fits _ rfl _ _ 65 rfl base 5 i 1 Tryz.underlying65 hi hz1 D (2) 24 ([.int .u8 (c 0)] ++ [.int .u8 101]) rfl (o4.alloc _) ⟨_, 0, none⟩ 1 1 ([.int .u8 43]) rfl rfl (cell_one_new _ _ _) (by simp [Value.oneCell']) (by omega) ?_; intro w5 o5 g5; have b5 : Below base w w5 := ((b4).alloc (by have := (b4).size; omega) _).grown g5 (by have := (b4).size; simp; omega) (fun k e => by cases e; exact hD))
    | (at_builtin; refine wpList_append_fits _ rfl _ _ 65 rfl base 5 i 1 Tryz.underlying65 hi hz1 D (1) 24 ([.int .u8 (c 0)]) rfl (o1.alloc _) ⟨_, 0, none⟩ 1 1 ([.int .u8 101]) rfl rfl (cell_one_new _ _ _) (by simp [Value.oneCell']) (by omega) ?_; intro w4 o4 g4; have b4 : Below base w w4 := ((b1).alloc (by have := (b1).size; omega) _).grown g4 (by have := (b1).size; simp; omega) (fun k e => by cases e; exact hD))
    | (at_builtin; refine wpList_append_fits _ rfl _ _ 65 rfl base 5 i 1 Tryz.underlying65 hi hz1 D (0) 24 ([]) rfl (hown.alloc _) ⟨_, 0, none⟩ 1 1 ([.int .u8 (c 0)]) rfl rfl (cell_one_new _ _ _) (by simp [Value.oneCell']) (by omega) ?_; intro w1 o1 g1; have b1 : Below base w w1 := ((Below.refl base w).alloc (by omega) _).grown g1 (by simp; omega) (fun k e => by cases e; exact hD)))
  go_ret
  exact ⟨rfl, b6, by rw [hrow.out]; exact o6⟩
end Go.Proofs.YtbengmceiaejeaaGreatDoor
