/- The closed call, second part: how its digits are laid out. -/
import Derived.Test.YtbengmceiaejeaaGreatDoorAw1
import Derived.OwnWalk
import Derived.WalkSmall
import Derived.Maps.AppendAt
namespace Go.Proofs.YtbengmceiaejeaaGreatDoor
open Go.ChangeShapes Go.WideShapes Go.ChangeAt Go.RowKit

/-- The digits of 30000000000000004, as bytes. -/
def dig (j : Nat) : Int := if j = 0 then 51 else if j = 16 then 52 else 48

/-- Seventeen cells hold them. -/
def Digs (w : World) (B : Nat) : Prop := ∀ j, j < 17 → w.cell? ⟨B, j, none⟩ = some (.int .u8 (dig j))

theorem Digs.grown {w w' : World} {B D : Nat} (h : Digs w B) (hB : B < w.heap.size) (hg : w.grownBy w' (some D)) (hne : B ≠ D) : Digs w' B := by
  intro j hj
  rw [World.cell?_of_block (w := w) (hg.block B hB (by simpa using hne))]
  exact h j hj
theorem Digs.alloc {w : World} {B : Nat} (h : Digs w B) (hB : B < w.heap.size) (o : Obj) : Digs (w.alloc o) B := by
  intro j hj
  rw [World.cell?_of_block (w := w) (Below.heap_alloc w o B hB)]
  exact h j hj

theorem info5 : (Tryz.prog.info? 5).map (fun i => (i.zero, i.size, i.bytes)) = some (some (.int .u8 0), 1, 1) := by kernel_rfl

/-- What stands behind the first digit, two appends on. -/
theorem digs_tail {w w1 w2 : World} {B D : Nat} {o o' : Obj} (hne : B ≠ D) (hBs : B < w.heap.size) (hd : Digs w B) (g1 : (w.alloc o).grownBy w1 (some D)) (g2 : (w1.alloc o').grownBy w2 (some D)) :
    Hid (∀ j u, ([48, 48, 48, 48, 48, 48, 48, 48, 48, 48, 48, 48, 48, 48, 48, 52].map (Value.int .u8))[j]? = some u → w2.cell? ((⟨B, 1, none⟩ : Addr).add j) = some u) := by
  refine hide fun j u hu => ?_
  have s1 := g1.size
  simp at s1
  have d1 := (hd.alloc hBs o).grown (by simp; omega) g1 hne
  have d2 := (d1.alloc (by omega) o').grown (by simp; omega) g2 hne
  have hj : j < 16 := by
    rcases Nat.lt_or_ge j 16 with h | h
    · exact h
    · rw [List.getElem?_eq_none (by simpa using h)] at hu; cases hu
  rw [Addr.add_lit, d2 (1 + j) (by omega), ← hu]
  have : ∀ k : Fin 16, some (Value.int .u8 (dig (1 + k.val))) = ([48, 48, 48, 48, 48, 48, 48, 48, 48, 48, 48, 48, 48, 48, 48, 52].map (Value.int .u8))[k.val]? := by
    intro k
    have h : ∀ k : Fin 16, dig (1 + k.val) = [48, 48, 48, 48, 48, 48, 48, 48, 48, 48, 48, 48, 48, 48, 48, 52][k.val]! := by decide
    rw [h k, List.getElem?_map, List.getElem!_eq_getElem?_getD, List.getElem?_eq_getElem (by have := k.isLt; simp)]
    rfl
  exact this ⟨j, hj⟩

set_option maxRecDepth 100000 in
theorem c_efg (base D B : Nat) (w : World) (hb : base ≤ w.heap.size) (hBs : B < w.heap.size) (hne : B ≠ D) (hD : base ≤ D) (hown : w.ownsRow base 5 1 (.slice (some ⟨D, 0, none⟩) 0 24) 0 []) (hd : Digs w B) :
    Calls Tryz.prog 118 #[.slice (some ⟨D, 0, none⟩) 0 24, .bool false, .slice (some ⟨B, 0, none⟩) 32 32, .int .i64 0, .int .i64 17, .int .i64 16, .int .u8 101, .bool true] w fun e w' => e = .returned (.slice (some ⟨D, 0, none⟩) 22 24) ∧ Below base w w' ∧ w'.ownsRow base 5 1 (.slice (some ⟨D, 0, none⟩) 22 24) 22 ([51, 46, 48, 48, 48, 48, 48, 48, 48, 48, 48, 48, 48, 48, 48, 48, 48, 52, 101, 45, 48, 49].map (Value.int .u8)) := by
  obtain ⟨i, hi, hz0, hz1, hz2⟩ := info_parts info5
  have hd0 : w.cell? ⟨B, 0, none⟩ = some (.int .u8 51) := hd 0 (by omega)
  have HD := hide hd
  clear hd hz0 hz2
  go_enter Tryz.func118, Tryz.ntmps118
  go_wp2_with (first
    | (at_builtin; refine wpList_append_fits _ rfl _ _ 65 rfl base 5 i 1 Tryz.underlying65 hi hz1 D 2 24 ([51, 46].map (Value.int .u8)) rfl o2 ⟨B, 1, none⟩ 16 31 ([48, 48, 48, 48, 48, 48, 48, 48, 48, 48, 48, 48, 48, 48, 48, 52].map (Value.int .u8)) rfl rfl HD2.out (ints_oneCell _ _) (by decide) ?_; intro w3 p3 g3; have o3 : w3.ownsRow base 5 1 (.slice (some ⟨D, 0, none⟩) 18 24) 18 ([51, 46, 48, 48, 48, 48, 48, 48, 48, 48, 48, 48, 48, 48, 48, 48, 48, 52].map (Value.int .u8)) := p3; clear p3; have b3 : Below base w w3 := b2.grown g3 (by have := b2.size; omega) (fun k e => by cases e; exact hD))
    | (at_builtin; refine wpList_append_fits _ rfl _ _ 65 rfl base 5 i 1 Tryz.underlying65 hi hz1 D 1 24 ([51].map (Value.int .u8)) rfl (o1.alloc _) ⟨_, 0, none⟩ 1 1 [.int .u8 46] rfl rfl (cell_one_new _ _ _) (by simp [Value.oneCell']) (by decide) ?_; intro w2 p2 g2; have o2 : w2.ownsRow base 5 1 (.slice (some ⟨D, 0, none⟩) 2 24) 2 ([51, 46].map (Value.int .u8)) := p2; clear p2; have b2 : Below base w w2 := ((b1).alloc (by have := b1.size; omega) _).grown g2 (by have := b1.size; simp; omega) (fun k e => by cases e; exact hD); have HD2 : Hid (∀ j u, ([48, 48, 48, 48, 48, 48, 48, 48, 48, 48, 48, 48, 48, 48, 48, 52].map (Value.int .u8))[j]? = some u → w2.cell? ((⟨B, 1, none⟩ : Addr).add j) = some u) := digs_tail hne hBs HD.out g1 g2)
    | (at_builtin; refine wpList_append_fits _ rfl _ _ 65 rfl base 5 i 1 Tryz.underlying65 hi hz1 D 0 24 ([].map (Value.int .u8)) rfl (hown.alloc _) ⟨_, 0, none⟩ 1 1 [.int .u8 51] rfl rfl (cell_one_new _ _ _) (by simp [Value.oneCell']) (by decide) ?_; intro w1 p1 g1; have o1 : w1.ownsRow base 5 1 (.slice (some ⟨D, 0, none⟩) 1 24) 1 ([51].map (Value.int .u8)) := p1; clear p1; have b1 : Below base w w1 := ((Below.refl _ _).alloc (by omega) _).grown g1 (by simp; omega) (fun k e => by cases e; exact hD)))
  go_loop [0, 114] (fun d v => d = .slice (some ⟨D, 0, none⟩) 18 24 ∧ v = .int .i64 0) (fun _ _ => 0)
  case atStart => exact ⟨rfl, rfl⟩
  case round =>
    obtain ⟨rfl, rfl⟩ := hrel
    go_wp2_with (first
      | (at_builtin; refine wpList_append_fits _ rfl _ _ 65 rfl base 5 i 1 Tryz.underlying65 hi hz1 D 20 24 ([51, 46, 48, 48, 48, 48, 48, 48, 48, 48, 48, 48, 48, 48, 48, 48, 48, 52, 101, 45].map (Value.int .u8)) rfl (o5.alloc _) ⟨_, 0, none⟩ 2 2 [.int .u8 48, .int .u8 49] rfl rfl (cell_two_new _ _ _ _) (by simp [Value.oneCell']) (by decide) ?_; intro w6 p6 g6; have o6 : w6.ownsRow base 5 1 (.slice (some ⟨D, 0, none⟩) 22 24) 22 ([51, 46, 48, 48, 48, 48, 48, 48, 48, 48, 48, 48, 48, 48, 48, 48, 48, 52, 101, 45, 48, 49].map (Value.int .u8)) := p6; clear p6; have b6 : Below base w w6 := ((b5).alloc (by have := b5.size; omega) _).grown g6 (by have := b5.size; simp; omega) (fun k e => by cases e; exact hD))
      | (at_builtin; refine wpList_append_fits _ rfl _ _ 65 rfl base 5 i 1 Tryz.underlying65 hi hz1 D 19 24 ([51, 46, 48, 48, 48, 48, 48, 48, 48, 48, 48, 48, 48, 48, 48, 48, 48, 52, 101].map (Value.int .u8)) rfl (o4.alloc _) ⟨_, 0, none⟩ 1 1 [.int .u8 45] rfl rfl (cell_one_new _ _ _) (by simp [Value.oneCell']) (by decide) ?_; intro w5 p5 g5; have o5 : w5.ownsRow base 5 1 (.slice (some ⟨D, 0, none⟩) 20 24) 20 ([51, 46, 48, 48, 48, 48, 48, 48, 48, 48, 48, 48, 48, 48, 48, 48, 48, 52, 101, 45].map (Value.int .u8)) := p5; clear p5; have b5 : Below base w w5 := ((b4).alloc (by have := b4.size; omega) _).grown g5 (by have := b4.size; simp; omega) (fun k e => by cases e; exact hD))
      | (at_builtin; refine wpList_append_fits _ rfl _ _ 65 rfl base 5 i 1 Tryz.underlying65 hi hz1 D 18 24 ([51, 46, 48, 48, 48, 48, 48, 48, 48, 48, 48, 48, 48, 48, 48, 48, 48, 52].map (Value.int .u8)) rfl (o3.alloc _) ⟨_, 0, none⟩ 1 1 [.int .u8 101] rfl rfl (cell_one_new _ _ _) (by simp [Value.oneCell']) (by decide) ?_; intro w4 p4 g4; have o4 : w4.ownsRow base 5 1 (.slice (some ⟨D, 0, none⟩) 19 24) 19 ([51, 46, 48, 48, 48, 48, 48, 48, 48, 48, 48, 48, 48, 48, 48, 48, 48, 52, 101].map (Value.int .u8)) := p4; clear p4; have b4 : Below base w w4 := ((b3).alloc (by have := b3.size; omega) _).grown g4 (by have := b3.size; simp; omega) (fun k e => by cases e; exact hD)))
    go_ret
    exact ⟨rfl, b6, o6⟩

set_option maxRecDepth 100000 in
theorem c_len1 (w : World) : Calls Tryz.prog 119 #[.int .u64 30000000000000004] w fun e w' => e = .returned (.int .i64 55) ∧ w' = w := by
  go_enter Tryz.func119, Tryz.ntmps119
  go_wp2
  go_ret
  refine ⟨?_, rfl⟩
  kernel_rfl

set_option maxRecDepth 100000 in
theorem c_len2 (w : World) : Calls Tryz.prog 119 #[.int .u64 5404319552844596] w fun e w' => e = .returned (.int .i64 53) ∧ w' = w := by
  go_enter Tryz.func119, Tryz.ntmps119
  go_wp2
  go_ret
  refine ⟨?_, rfl⟩
  kernel_rfl

theorem c_l10b (w : World) : Calls Tryz.prog 123 #[.int .i64 55] w fun e w' => e = .returned (.int .i64 16) ∧ w' = w := by
  go_enter Tryz.func123, Tryz.ntmps123
  go_wp2
  go_ret
  exact ⟨rfl, rfl⟩

theorem c_bool2 (w : World) : Calls Tryz.prog 161 #[.bool true] w fun e w' => e = .returned (.int .i64 1) ∧ w' = w := by
  go_enter Tryz.func161, Tryz.ntmps161
  go_wp2
  go_ret
  exact ⟨rfl, rfl⟩

theorem c_numDigits (w : World) (h : w.cell? ⟨9, 16, none⟩ = some (.int .u64 10000000000000000)) : Calls Tryz.prog 122 #[.int .u64 30000000000000004] w fun e w' => e = .returned (.int .i64 17) ∧ w' = w := by
  go_enter Tryz.func122, Tryz.ntmps122
  go_wp2_with (first
    | (go_at_call 119; refine (c_len1 _).mono ?_; rintro e w' ⟨rfl, rfl⟩)
    | (go_at_call 123; refine (c_l10b _).mono ?_; rintro e w' ⟨rfl, rfl⟩)
    | (go_at_call 161; refine (c_bool2 _).mono ?_; rintro e w' ⟨rfl, rfl⟩))
  go_ret
  exact ⟨rfl, rfl⟩

/-- The row of a new array of 32 bytes. -/
theorem holds32 (w : World) (t : TypeId) : Sort.Holds (fun (b : UInt8) => Value.int .u8 (b.toNat : Int)) (w.alloc (.cells (Array.replicate 32 (.int .u8 0)) t)) w.heap.size 0 (Array.replicate 17 0) := by
  intro j hj
  simp at hj
  refine ⟨?_, ?_⟩
  · rw [World.cell?_alloc_new]
    rw [Array.getElem?_replicate, if_pos (by omega), getElem!_pos _ j (by simpa using hj)]
    simp
  · simp

theorem c_fmt10 (B : Nat) (w : World) (H : Sort.Holds (fun (b : UInt8) => Value.int .u8 (b.toNat : Int)) w B 0 (Array.replicate 17 0)) :
    Calls Tryz.prog 131 #[.slice (some ⟨B, 0, none⟩) 17 32, .int .u64 30000000000000004] w fun e w' => e = .returned (.tuple #[]) ∧ Below B w w' ∧ Digs w' B := by
  have h := Tryz.internal_strconv_formatBase10 B 0 32 30000000000000004 (Array.replicate 17 0) _ H (by rw [Array.size_replicate]; decide) (by decide) (by rw [Array.size_replicate]; decide)
  rw [Array.size_replicate] at h
  refine h.mono ?_
  rintro e w' ⟨rfl, n, v', dk, rfl, hF⟩
  refine ⟨rfl, ?_, ?_⟩
  · refine ⟨rfl, rfl, rfl, ?_, fun k hk => ?_⟩
    · exact Nat.le_of_eq (Sort.size_putRow _ _ _ _ _).symm
    · show (Sort.putRow _ _ _ _ _).heap[k]? = _
      simp only [Sort.putRow, Sort.mapBlock, Array.getElem?_modify]
      rw [if_neg (by omega)]
  · intro j hj
    have hs := hF.size
    have hc := Sort.cell?_putRow (fun (b : UInt8) => Value.int .u8 (b.toNat : Int)) _ B 0 _ dk H (by rw [hs, Array.size_replicate]) j (by omega)
    rw [Nat.zero_add] at hc
    rw [World.cell?_drewN, hc, hF.done j (by omega) hj]
    have : ∀ k : Fin 17, ((Lib.dg 30000000000000004 (17 - 1 - k.val)).toNat : Int) = dig k.val := by decide +kernel
    have := this ⟨j, hj⟩
    simp only at this
    rw [this]

theorem c_setDigits (B : Nat) (w : World) (H : Sort.Holds (fun (b : UInt8) => Value.int .u8 (b.toNat : Int)) w B 0 (Array.replicate 17 0)) :
    Calls Tryz.prog 121 #[.slice (some ⟨B, 0, none⟩) 32 32, .int .u64 30000000000000004, .int .i64 (-17), .int .i64 17] w fun e w' => e = .returned (.tuple #[.int .i64 0, .int .i64 17]) ∧ Below B w w' ∧ Digs w' B := by
  have HH := hide H
  clear H
  go_enter Tryz.func121, Tryz.ntmps121
  go_wp2_with (go_at_call 131; refine (c_fmt10 _ _ HH.out).mono ?_; rintro e w1 ⟨rfl, b1, d1⟩)
  have d16 : w1.cell? ⟨B, 16, none⟩ = some (.int .u8 52) := d1 16 (by omega)
  go_loop [3] (fun v => v = .int .i64 17) (fun _ => 0)
  case atStart => rfl
  case round =>
    subst hrel
    go_wp2
    go_ret2
    exact ⟨rfl, b1, d1⟩
end Go.Proofs.YtbengmceiaejeaaGreatDoor
