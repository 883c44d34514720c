/- How many digits a number has, and its digits in a row of bytes, without the noughts behind them. -/
import Derived.Test.YtbengmceiaejeaaGreatDoorFtW6
import Derived.Test.YtbengmceiaejeaaGreatDoorFtS
import Derived.Lib.Replace
namespace Go.Proofs.YtbengmceiaejeaaGreatDoor
open Go.ChangeShapes Go.WideShapes Go.ChangeAt Go.RowKit

theorem b2i_any (b : Bool) (w : World) : Calls Tryz.prog 161 #[.bool b] w fun e w' => e = .returned (.int .i64 ((b.toNat : Nat) : Int)) ∧ w' = w := by
  cases b
  · go_enter Tryz.func161, Tryz.ntmps161
    go_wp2
    go_ret
    exact ⟨rfl, rfl⟩
  · go_enter Tryz.func161, Tryz.ntmps161
    go_wp2
    go_ret
    exact ⟨rfl, rfl⟩

theorem l10_nat (b : Nat) : l10 (b : Int) = ((Lib.l10 b : Nat) : Int) := by
  unfold l10 Lib.l10
  omega

theorem nd_any (d : Nat) (h1 : 1 ≤ d) (h2 : d < 18446744073709551616) (w : World) (R : RdyT w) : Calls Tryz.prog 122 #[.int .u64 (d : Int)] w fun e w' => e = .returned (.int .i64 ((Lib.nDigits d : Nat) : Int)) ∧ w' = w := by
  obtain ⟨hn, hq⟩ := Lib.numDigits_eq d h1 h2
  have L64 := fun w => Tryz.bits_Len64 (d : Int) w (by omega) (by omega)
  rw [show ((d : Int)).toNat = d by omega] at L64
  have hb : Lib.bitLen d ≤ 64 := Lib.bitLen_le d 64 (Nat.le_refl _) h2
  have LG := fun w => l10_any ((Lib.bitLen d : Nat) : Int) (by omega) w
  rw [l10_nat] at LG
  have T := R.tens (Lib.l10 (Lib.bitLen d)) (by omega)
  obtain ⟨b, eb⟩ : ∃ b, Lib.bitLen d = b := ⟨_, rfl⟩
  rw [eb] at L64 LG T hn hq
  obtain ⟨q, eq⟩ : ∃ q, Lib.l10 b = q := ⟨_, rfl⟩
  rw [eq] at LG T hn hq
  obtain ⟨t, et⟩ : ∃ t, 10 ^ q = t := ⟨_, rfl⟩
  rw [et] at T hn
  obtain ⟨N, eN⟩ : ∃ N, Lib.nDigits d = N := ⟨_, rfl⟩
  rw [eN] at hn ⊢
  by_cases ht : t ≤ d
  · rw [if_pos ht] at hn
    have hI : decide ((t : Int) ≤ (d : Int)) = true := decide_eq_true (by omega)
    have hN : decide (t ≤ d) = true := decide_eq_true ht
    have hR : (q : Int) + 1 = (N : Int) := by omega
    clear hn eb eq et eN ht R
    go_enter Tryz.func122, Tryz.ntmps122
    go_wp2_with (first
      | (go_at_call 119; refine (L64 _).mono ?_; rintro e w' ⟨rfl, rfl⟩)
      | (go_at_call 123; refine (LG _).mono ?_; rintro e w' ⟨rfl, rfl⟩)
      | (go_at_call 161; refine (b2i_any _ _).mono ?_; rintro e w' ⟨rfl, rfl⟩))
    go_ret
    exact ⟨rfl, rfl⟩
  · rw [if_neg ht] at hn
    have hI : decide ((t : Int) ≤ (d : Int)) = false := decide_eq_false (by omega)
    have hN : decide (t ≤ d) = false := decide_eq_false ht
    have hR : q = N := by omega
    subst hR
    clear hn eb eq et eN ht R
    go_enter Tryz.func122, Tryz.ntmps122
    go_wp2_with (first
      | (go_at_call 119; refine (L64 _).mono ?_; rintro e w' ⟨rfl, rfl⟩)
      | (go_at_call 123; refine (LG _).mono ?_; rintro e w' ⟨rfl, rfl⟩)
      | (go_at_call 161; refine (b2i_any _ _).mono ?_; rintro e w' ⟨rfl, rfl⟩))
    go_ret
    exact ⟨rfl, rfl⟩

/-- A digit, as a byte. -/
def dgN (d j : Nat) : Nat := 48 + d / 10 ^ j % 10

theorem dg_nat (d j : Nat) : (Lib.dg d j).toNat = dgN d j := by
  unfold Lib.dg dgN
  rw [UInt8.toNat_ofNat']
  have : d / 10 ^ j % 10 < 10 := Nat.mod_lt _ (by decide)
  omega

/-- Cells hold the digits. -/
def DigsN (w : World) (B d n : Nat) : Prop := ∀ j, j < n → w.cell? ⟨B, j, none⟩ = some (.int .u8 ((dgN d (n - 1 - j) : Nat) : Int))

theorem fmt10_any (B d n : Nat) (w : World) (hd : d < 10 ^ n) (hd2 : d < 18446744073709551616) (hn : n ≤ 32) (H : Sort.Holds (fun (b : UInt8) => Value.int .u8 (b.toNat : Int)) w B 0 (Array.replicate n 0)) :
    Calls Tryz.prog 131 #[.slice (some ⟨B, 0, none⟩) n 32, .int .u64 (d : Int)] w fun e w' => e = .returned (.tuple #[]) ∧ Below B w w' ∧ DigsN w' B d n := by
  have h := Tryz.internal_strconv_formatBase10 B 0 32 d (Array.replicate n 0) _ H (by rw [Array.size_replicate]; exact hd) hd2 (by rw [Array.size_replicate]; omega)
  rw [Array.size_replicate] at h
  refine h.mono ?_
  rintro e w' ⟨rfl, k, v', dk, rfl, hF⟩
  refine ⟨rfl, ?_, ?_⟩
  · refine ⟨rfl, rfl, rfl, ?_, fun k hk => ?_⟩
    · exact Nat.le_of_eq (Sort.size_putRow _ _ _ _ _).symm
    · show (Sort.putRow _ _ _ _ _).heap[k]? = _
      simp only [Sort.putRow, Sort.mapBlock, Array.getElem?_modify]
      rw [if_neg (by omega)]
  · intro j hj
    have hs := hF.size
    have hc := Sort.cell?_putRow (fun (b : UInt8) => Value.int .u8 (b.toNat : Int)) _ B 0 _ dk H (by rw [hs, Array.size_replicate]) j (by omega)
    rw [Nat.zero_add] at hc
    rw [World.cell?_drewN, hc, hF.done j (by omega) hj, dg_nat]

set_option maxHeartbeats 2000000 in
theorem setD_any (B d n i : Nat) (p : Int) (w : World) (hd : d < 10 ^ n) (hd2 : d < 18446744073709551616) (hn : n ≤ 20) (hi : i < n) (hz : ∀ t, t < i → d / 10 ^ t % 10 = 0) (hnz : d / 10 ^ i % 10 ≠ 0) (hp : -1000 ≤ p ∧ p ≤ 1000) (H : Sort.Holds (fun (b : UInt8) => Value.int .u8 (b.toNat : Int)) w B 0 (Array.replicate n 0)) :
    Calls Tryz.prog 121 #[.slice (some ⟨B, 0, none⟩) 32 32, .int .u64 (d : Int), .int .i64 p, .int .i64 (n : Int)] w fun e w' => e = .returned (.tuple #[.int .i64 ((n : Int) + p), .int .i64 ((n - i : Nat) : Int)]) ∧ Below B w w' ∧ DigsN w' B d n := by
  have FM := fmt10_any B d n w hd hd2 (by omega) H
  clear H hd
  go_enter Tryz.func121, Tryz.ntmps121
  go_wp2_with (go_at_call 131; refine FM.mono ?_; rintro e w1 ⟨rfl, b1, d1⟩)
  have HB := hide b1
  have HD := hide d1
  have HZ := hide hz
  have HNZ := hide hnz
  clear b1 d1 hz hnz FM
  go_loop [3] (fun v => ∃ t : Nat, t ≤ i ∧ v = .int .i64 ((n - t : Nat) : Int)) (fun v => (intOf v).toNat)
  case atStart => exact ⟨0, by omega, by go_num⟩
  case round =>
    obtain ⟨t, ht, rfl⟩ := hrel
    obtain ⟨c, ec⟩ : ∃ c, n - t = c + 1 := ⟨n - t - 1, by omega⟩
    rw [ec]
    have hc := HD.out c (by omega)
    have hci : n - 1 - c = t := by omega
    rw [hci] at hc
    have hix : ((c + 1 : Nat) : Int) - 1 = (c : Int) := by omega
    have hpos : decide ((0 : Int) < ((c + 1 : Nat) : Int)) = true := decide_eq_true (by omega)
    have hc32 : c < 32 := by omega
    by_cases hti : t = i
    · subst hti
      have hne : ((dgN d t : Nat) : Int) ≠ 48 := by
        have := HNZ.out
        unfold dgN
        omega
      have hneB : (((dgN d t : Nat) : Int) == 48) = false := by simpa using hne
      obtain ⟨x, ex⟩ : ∃ x : Nat, dgN d t = x := ⟨_, rfl⟩
      rw [ex] at hc hneB
      clear hne ex hci
      obtain ⟨C, eC⟩ : ∃ C, c + 1 = C := ⟨_, rfl⟩
      rw [eC] at hix hpos ec ⊢
      go_wp2
      go_ret2
      exact ⟨rfl, HB.out, HD.out⟩
    · have heq : dgN d t = 48 := by
        have := HZ.out t (by omega)
        unfold dgN
        omega
      rw [heq] at hc
      obtain ⟨C, eC⟩ : ∃ C, c + 1 = C := ⟨_, rfl⟩
      rw [eC] at hix hpos ⊢
      clear heq hci
      go_wp2
      refine ⟨⟨t + 1, by omega, ?_⟩, ?_⟩
      · rw [show n - (t + 1) = c by omega]
      · show ((c : Int)).toNat < ((C : Int)).toNat
        omega
end Go.Proofs.YtbengmceiaejeaaGreatDoor
/- How the library lays digits out with an exponent. -/
namespace Go.Proofs.YtbengmceiaejeaaGreatDoor
open Go.ChangeShapes Go.WideShapes Go.ChangeAt Go.RowKit

/-- The digits' cells, one behind the other. -/
def CellsAt (w : World) (B : Nat) (c : Nat → Int) (n : Nat) : Prop := ∀ j, j < n → w.cell? ⟨B, j, none⟩ = some (.int .u8 (c j))

theorem CellsAt.grown {w w' : World} {B D n : Nat} {c : Nat → Int} (h : CellsAt w B c n) (hB : B < w.heap.size) (hg : w.grownBy w' (some D)) (hne : B ≠ D) : CellsAt w' B c n := by
  intro j hj
  rw [World.cell?_of_block (w := w) (hg.block B hB (by simpa using hne))]
  exact h j hj
theorem CellsAt.alloc {w : World} {B n : Nat} {c : Nat → Int} (h : CellsAt w B c n) (hB : B < w.heap.size) (o : Obj) : CellsAt (w.alloc o) B c n := by
  intro j hj
  rw [World.cell?_of_block (w := w) (Below.heap_alloc w o B hB)]
  exact h j hj

theorem cell_three_new (w : World) (a b c : Value) (t : TypeId) : ∀ j u, [a, b, c][j]? = some u → (w.alloc (.cells #[a, b, c] t)).cell? ((⟨w.heap.size, 0, none⟩ : Addr).add j) = some u := by
  intro j u hj
  match j, hj with
  | 0, hj => simp at hj; subst hj; simp [Addr.add]
  | 1, hj => simp at hj; subst hj; simp [Addr.add]
  | 2, hj => simp at hj; subst hj; simp [Addr.add]
  | j + 3, hj => simp at hj

/-- An exponent's digits. -/
def expV (X : Nat) : List Value :=
  if X < 10 then [.int .u8 48, .int .u8 ((X : Int) + 48)]
  else if X < 100 then [.int .u8 ((X / 10 : Nat) + 48 : Int), .int .u8 ((X % 10 : Nat) + 48 : Int)]
  else [.int .u8 ((X / 100 : Nat) + 48 : Int), .int .u8 ((X / 10 % 10 : Nat) + 48 : Int), .int .u8 ((X % 10 : Nat) + 48 : Int)]

/-- What stands behind the first digit. -/
def tailV (c : Nat → Int) (r : Nat) : List Value := (List.range r).map fun j => .int .u8 (c (j + 1))

/-- The whole row: digits, the letter, the exponent's sign and digits. -/
def eRow (pre : List Value) (sg : Int) (X : Nat) : List Value := pre ++ [.int .u8 101] ++ [.int .u8 sg] ++ expV X

theorem tailV_len (c : Nat → Int) (r : Nat) : (tailV c r).length = r := by unfold tailV; simp

theorem tailV_one (c : Nat → Int) (r : Nat) : ∀ u ∈ tailV c r, u.oneCell' = true := by
  intro u hu
  unfold tailV at hu
  obtain ⟨j, _, rfl⟩ := List.mem_map.1 hu
  rfl

theorem cells_tail {w w1 w2 : World} {B D r : Nat} {c : Nat → Int} {o o' : Obj} (hne : B ≠ D) (hBs : B < w.heap.size) (hd : CellsAt w B c (r + 1)) (g1 : (w.alloc o).grownBy w1 (some D)) (g2 : (w1.alloc o').grownBy w2 (some D)) :
    Hid (∀ j u, (tailV c r)[j]? = some u → w2.cell? ((⟨B, 1, none⟩ : Addr).add j) = some u) := by
  refine hide fun j u hu => ?_
  have s1 := g1.size
  simp at s1
  have d1 := (hd.alloc hBs o).grown (by simp; omega) g1 hne
  have d2 := (d1.alloc (by omega) o').grown (by simp; omega) g2 hne
  have hj : j < r := by
    rcases Nat.lt_or_ge j r with h | h
    · exact h
    · rw [List.getElem?_eq_none (by rw [tailV_len]; exact h)] at hu; cases hu
  rw [Addr.add_lit, d2 (1 + j) (by omega), ← hu]
  unfold tailV
  rw [List.getElem?_map, List.getElem?_range hj]
  simp [Nat.add_comm]

set_option maxRecDepth 100000 in
set_option maxHeartbeats 8000000 in
theorem efg_mn0 (base D B r X : Nat) (c : Nat → Int) (dp : Int) (w : World) (hb : base ≤ w.heap.size) (hBs : B < w.heap.size) (hne : B ≠ D) (hD : base ≤ D) (hown : w.ownsRow base 5 1 (.slice (some ⟨D, 0, none⟩) 0 24) 0 []) (hd : CellsAt w B c (r + 1)) (hr : 1 ≤ r ∧ r ≤ 16) (hX : dp - 1 = -(X : Int)) (hX0 : 1 ≤ X) (hXb : X < 10) :
    Calls Tryz.prog 118 #[.slice (some ⟨D, 0, none⟩) 0 24, .bool false, .slice (some ⟨B, 0, none⟩) 32 32, .int .i64 dp, .int .i64 ((r + 1 : Nat) : Int), .int .i64 (r : Int), .int .u8 101, .bool true] w fun e w' => e = .returned (.slice (some ⟨D, 0, none⟩) (2 + r + 1 + 1 + 2) 24) ∧ Below base w w' ∧ w'.ownsRow base 5 1 (.slice (some ⟨D, 0, none⟩) (2 + r + 1 + 1 + 2) 24) (2 + r + 1 + 1 + 2) (eRow ([.int .u8 (c 0)] ++ [.int .u8 46] ++ tailV c r) 45 X) := by
  have hrow : Hid (eRow ([.int .u8 (c 0)] ++ [.int .u8 46] ++ tailV c r) 45 X = [.int .u8 (c 0)] ++ [.int .u8 46] ++ tailV c r ++ [.int .u8 101] ++ [.int .u8 45] ++ [.int .u8 48, .int .u8 ((X : Int) + 48)]) := hide (by unfold eRow expV; rw [if_pos hXb])
  obtain ⟨LL, eLL⟩ : ∃ L, eRow ([.int .u8 (c 0)] ++ [.int .u8 46] ++ tailV c r) 45 X = L := ⟨_, rfl⟩
  rw [eLL] at hrow ⊢
  clear eLL
  obtain ⟨i, hi, hz0, hz1, hz2⟩ := info_parts info5
  have hd0 : w.cell? ⟨B, 0, none⟩ = some (.int .u8 (c 0)) := hd 0 (by omega)
  have HD := hide hd
  clear hd hz0 hz2
  have hl := tailV_len c r
  have h1 := tailV_one c r
  have hI1 : ((r + 1 : Nat) : Int) = (r : Int) + 1 := by omega
  have hlt : decide (dp - 1 < 0) = true := decide_eq_true (by omega)
  have hX2 : -(dp - 1) = (X : Int) := by omega
  have hr1 : decide ((X : Int) < 10) = true := decide_eq_true (by omega)
  have hw1 : IntKind.u8.wrap (X : Int) = (X : Int) := by rw [IntKind.wrap_u8]; omega
  have hw2 : IntKind.u8.wrap ((X : Int) + 48) = (X : Int) + 48 := by rw [IntKind.wrap_u8]; omega
  have hdp : -500 ≤ dp ∧ dp ≤ 500 := by omega
  clear hXb
  go_enter Tryz.func118, Tryz.ntmps118
  go_wp2_with (first
    | (at_builtin; refine wpList_append_fits _ rfl _ _ 65 rfl base 5 i 1 Tryz.underlying65 hi hz1 D (2) 24 ([.int .u8 (c 0)] ++ [.int .u8 46]) rfl o2 ⟨B, 1, none⟩ r 31 (tailV c r) rfl (by rw [hl]; omega) HD2.out h1 (by omega) ?_; intro w3 o3 g3; have b3 : Below base w w3 := b2.grown g3 (by have := b2.size; omega) (fun k e => by cases e; exact hD))
    | (at_builtin; refine wpList_append_fits _ rfl _ _ 65 rfl base 5 i 1 Tryz.underlying65 hi hz1 D (1) 24 ([.int .u8 (c 0)]) rfl (o1.alloc _) ⟨_, 0, none⟩ 1 1 ([.int .u8 46]) rfl rfl (cell_one_new _ _ _) (by simp [Value.oneCell']) (by omega) ?_; intro w2 o2 g2; have b2 : Below base w w2 := ((b1).alloc (by have := (b1).size; omega) _).grown g2 (by have := (b1).size; simp; omega) (fun k e => by cases e; exact hD); have HD2 := cells_tail hne hBs HD.out g1 g2)
    | (at_builtin; refine wpList_append_fits _ rfl _ _ 65 rfl base 5 i 1 Tryz.underlying65 hi hz1 D (0) 24 ([]) rfl (hown.alloc _) ⟨_, 0, none⟩ 1 1 ([.int .u8 (c 0)]) rfl rfl (cell_one_new _ _ _) (by simp [Value.oneCell']) (by omega) ?_; intro w1 o1 g1; have b1 : Below base w w1 := ((Below.refl base w).alloc (by omega) _).grown g1 (by simp; omega) (fun k e => by cases e; exact hD)))
  go_loop [0, 114] (fun d v => d = .slice (some ⟨D, 0, none⟩) (2 + r) 24 ∧ v = .int .i64 0) (fun _ _ => 0)
  case atStart => exact ⟨rfl, rfl⟩
  case round =>
    obtain ⟨rfl, rfl⟩ := hrel
    go_wp2_with (first
      | (at_builtin; refine wpList_append_fits _ rfl _ _ 65 rfl base 5 i 1 Tryz.underlying65 hi hz1 D (2 + r + 1 + 1) 24 ([.int .u8 (c 0)] ++ [.int .u8 46] ++ tailV c r ++ [.int .u8 101] ++ [.int .u8 45]) rfl (o5.alloc _) ⟨_, 0, none⟩ 2 2 ([.int .u8 48, .int .u8 ((X : Int) + 48)]) rfl rfl (cell_two_new _ _ _ _) (by simp [Value.oneCell']) (by omega) ?_; intro w6 o6 g6; have b6 : Below base w w6 := ((b5).alloc (by have := (b5).size; omega) _).grown g6 (by have := (b5).size; simp; omega) (fun k e => by cases e; exact hD))
      | (at_builtin; refine wpList_append_fits _ rfl _ _ 65 rfl base 5 i 1 Tryz.underlying65 hi hz1 D (2 + r + 1) 24 ([.int .u8 (c 0)] ++ [.int .u8 46] ++ tailV c r ++ [.int .u8 101]) rfl (o4.alloc _) ⟨_, 0, none⟩ 1 1 ([.int .u8 45]) rfl rfl (cell_one_new _ _ _) (by simp [Value.oneCell']) (by omega) ?_; intro w5 o5 g5; have b5 : Below base w w5 := ((b4).alloc (by have := (b4).size; omega) _).grown g5 (by have := (b4).size; simp; omega) (fun k e => by cases e; exact hD))
      | (at_builtin; refine wpList_append_fits _ rfl _ _ 65 rfl base 5 i 1 Tryz.underlying65 hi hz1 D (2 + r) 24 ([.int .u8 (c 0)] ++ [.int .u8 46] ++ tailV c r) rfl (o3.alloc _) ⟨_, 0, none⟩ 1 1 ([.int .u8 101]) rfl rfl (cell_one_new _ _ _) (by simp [Value.oneCell']) (by omega) ?_; intro w4 o4 g4; have b4 : Below base w w4 := ((b3).alloc (by have := (b3).size; omega) _).grown g4 (by have := (b3).size; simp; omega) (fun k e => by cases e; exact hD)))
    go_ret
    exact ⟨rfl, b6, by rw [hrow.out]; exact o6⟩

set_option maxRecDepth 100000 in
set_option maxHeartbeats 8000000 in
theorem efg_mn1 (base D B r X : Nat) (c : Nat → Int) (dp : Int) (w : World) (hb : base ≤ w.heap.size) (hBs : B < w.heap.size) (hne : B ≠ D) (hD : base ≤ D) (hown : w.ownsRow base 5 1 (.slice (some ⟨D, 0, none⟩) 0 24) 0 []) (hd : CellsAt w B c (r + 1)) (hr : 1 ≤ r ∧ r ≤ 16) (hX : dp - 1 = -(X : Int)) (hX0 : 1 ≤ X) (hXb : 10 ≤ X ∧ X < 100) :
    Calls Tryz.prog 118 #[.slice (some ⟨D, 0, none⟩) 0 24, .bool false, .slice (some ⟨B, 0, none⟩) 32 32, .int .i64 dp, .int .i64 ((r + 1 : Nat) : Int), .int .i64 (r : Int), .int .u8 101, .bool true] w fun e w' => e = .returned (.slice (some ⟨D, 0, none⟩) (2 + r + 1 + 1 + 2) 24) ∧ Below base w w' ∧ w'.ownsRow base 5 1 (.slice (some ⟨D, 0, none⟩) (2 + r + 1 + 1 + 2) 24) (2 + r + 1 + 1 + 2) (eRow ([.int .u8 (c 0)] ++ [.int .u8 46] ++ tailV c r) 45 X) := by
  have hrow : Hid (eRow ([.int .u8 (c 0)] ++ [.int .u8 46] ++ tailV c r) 45 X = [.int .u8 (c 0)] ++ [.int .u8 46] ++ tailV c r ++ [.int .u8 101] ++ [.int .u8 45] ++ [.int .u8 ((X / 10 : Nat) + 48 : Int), .int .u8 ((X % 10 : Nat) + 48 : Int)]) := hide (by unfold eRow expV; rw [if_neg (by omega), if_pos hXb.2])
  obtain ⟨LL, eLL⟩ : ∃ L, eRow ([.int .u8 (c 0)] ++ [.int .u8 46] ++ tailV c r) 45 X = L := ⟨_, rfl⟩
  rw [eLL] at hrow ⊢
  clear eLL
  obtain ⟨i, hi, hz0, hz1, hz2⟩ := info_parts info5
  have hd0 : w.cell? ⟨B, 0, none⟩ = some (.int .u8 (c 0)) := hd 0 (by omega)
  have HD := hide hd
  clear hd hz0 hz2
  have hl := tailV_len c r
  have h1 := tailV_one c r
  have hI1 : ((r + 1 : Nat) : Int) = (r : Int) + 1 := by omega
  have hlt : decide (dp - 1 < 0) = true := decide_eq_true (by omega)
  have hX2 : -(dp - 1) = (X : Int) := by omega
  have hr1 : decide ((X : Int) < 10) = false := decide_eq_false (by omega)
  have hr2 : decide ((X : Int) < 100) = true := decide_eq_true (by omega)
  have hq1 : (X : Int) / 10 = ((X / 10 : Nat) : Int) := by simp
  have hq2 : (X : Int) % 10 = ((X % 10 : Nat) : Int) := by simp
  have hq3 : (X : Int).tdiv 10 = ((X / 10 : Nat) : Int) := by rw [Int.tdiv_eq_ediv_of_nonneg (by omega)]; simp
  have hq4 : (X : Int).tmod 10 = ((X % 10 : Nat) : Int) := by rw [Int.tmod_eq_emod_of_nonneg (by omega)]; simp
  have hb1 : X / 10 < 10 := by omega
  have hb2 : X % 10 < 10 := by omega
  obtain ⟨p, ep⟩ : ∃ p, X / 10 = p := ⟨_, rfl⟩
  obtain ⟨q, eq⟩ : ∃ p, X % 10 = p := ⟨_, rfl⟩
  rw [ep] at hq1 hq3 hb1 hrow
  rw [eq] at hq2 hq4 hb2 hrow
  have hw1 : IntKind.u8.wrap (p : Int) = (p : Int) := by rw [IntKind.wrap_u8]; omega
  have hw2 : IntKind.u8.wrap (q : Int) = (q : Int) := by rw [IntKind.wrap_u8]; omega
  have hw3 : IntKind.u8.wrap ((p : Int) + 48) = (p : Int) + 48 := by rw [IntKind.wrap_u8]; omega
  have hw4 : IntKind.u8.wrap ((q : Int) + 48) = (q : Int) + 48 := by rw [IntKind.wrap_u8]; omega
  clear ep eq
  have hdp : -500 ≤ dp ∧ dp ≤ 500 := by omega
  clear hXb
  go_enter Tryz.func118, Tryz.ntmps118
  go_wp2_with (first
    | (at_builtin; refine wpList_append_fits _ rfl _ _ 65 rfl base 5 i 1 Tryz.underlying65 hi hz1 D (2) 24 ([.int .u8 (c 0)] ++ [.int .u8 46]) rfl o2 ⟨B, 1, none⟩ r 31 (tailV c r) rfl (by rw [hl]; omega) HD2.out h1 (by omega) ?_; intro w3 o3 g3; have b3 : Below base w w3 := b2.grown g3 (by have := b2.size; omega) (fun k e => by cases e; exact hD))
    | (at_builtin; refine wpList_append_fits _ rfl _ _ 65 rfl base 5 i 1 Tryz.underlying65 hi hz1 D (1) 24 ([.int .u8 (c 0)]) rfl (o1.alloc _) ⟨_, 0, none⟩ 1 1 ([.int .u8 46]) rfl rfl (cell_one_new _ _ _) (by simp [Value.oneCell']) (by omega) ?_; intro w2 o2 g2; have b2 : Below base w w2 := ((b1).alloc (by have := (b1).size; omega) _).grown g2 (by have := (b1).size; simp; omega) (fun k e => by cases e; exact hD); have HD2 := cells_tail hne hBs HD.out g1 g2)
    | (at_builtin; refine wpList_append_fits _ rfl _ _ 65 rfl base 5 i 1 Tryz.underlying65 hi hz1 D (0) 24 ([]) rfl (hown.alloc _) ⟨_, 0, none⟩ 1 1 ([.int .u8 (c 0)]) rfl rfl (cell_one_new _ _ _) (by simp [Value.oneCell']) (by omega) ?_; intro w1 o1 g1; have b1 : Below base w w1 := ((Below.refl base w).alloc (by omega) _).grown g1 (by simp; omega) (fun k e => by cases e; exact hD)))
  go_loop [0, 114] (fun d v => d = .slice (some ⟨D, 0, none⟩) (2 + r) 24 ∧ v = .int .i64 0) (fun _ _ => 0)
  case atStart => exact ⟨rfl, rfl⟩
  case round =>
    obtain ⟨rfl, rfl⟩ := hrel
    go_wp2_with (first
      | (at_builtin; refine wpList_append_fits _ rfl _ _ 65 rfl base 5 i 1 Tryz.underlying65 hi hz1 D (2 + r + 1 + 1) 24 ([.int .u8 (c 0)] ++ [.int .u8 46] ++ tailV c r ++ [.int .u8 101] ++ [.int .u8 45]) rfl (o5.alloc _) ⟨_, 0, none⟩ 2 2 ([.int .u8 ((p : Int) + 48), .int .u8 ((q : Int) + 48)]) rfl rfl (cell_two_new _ _ _ _) (by simp [Value.oneCell']) (by omega) ?_; intro w6 o6 g6; have b6 : Below base w w6 := ((b5).alloc (by have := (b5).size; omega) _).grown g6 (by have := (b5).size; simp; omega) (fun k e => by cases e; exact hD))
      | (at_builtin; refine wpList_append_fits _ rfl _ _ 65 rfl base 5 i 1 Tryz.underlying65 hi hz1 D (2 + r + 1) 24 ([.int .u8 (c 0)] ++ [.int .u8 46] ++ tailV c r ++ [.int .u8 101]) rfl (o4.alloc _) ⟨_, 0, none⟩ 1 1 ([.int .u8 45]) rfl rfl (cell_one_new _ _ _) (by simp [Value.oneCell']) (by omega) ?_; intro w5 o5 g5; have b5 : Below base w w5 := ((b4).alloc (by have := (b4).size; omega) _).grown g5 (by have := (b4).size; simp; omega) (fun k e => by cases e; exact hD))
      | (at_builtin; refine wpList_append_fits _ rfl _ _ 65 rfl base 5 i 1 Tryz.underlying65 hi hz1 D (2 + r) 24 ([.int .u8 (c 0)] ++ [.int .u8 46] ++ tailV c r) rfl (o3.alloc _) ⟨_, 0, none⟩ 1 1 ([.int .u8 101]) rfl rfl (cell_one_new _ _ _) (by simp [Value.oneCell']) (by omega) ?_; intro w4 o4 g4; have b4 : Below base w w4 := ((b3).alloc (by have := (b3).size; omega) _).grown g4 (by have := (b3).size; simp; omega) (fun k e => by cases e; exact hD)))
    go_ret
    exact ⟨rfl, b6, by rw [hrow.out]; exact o6⟩

set_option maxRecDepth 100000 in
set_option maxHeartbeats 8000000 in
theorem efg_mn2 (base D B r X : Nat) (c : Nat → Int) (dp : Int) (w : World) (hb : base ≤ w.heap.size) (hBs : B < w.heap.size) (hne : B ≠ D) (hD : base ≤ D) (hown : w.ownsRow base 5 1 (.slice (some ⟨D, 0, none⟩) 0 24) 0 []) (hd : CellsAt w B c (r + 1)) (hr : 1 ≤ r ∧ r ≤ 16) (hX : dp - 1 = -(X : Int)) (hX0 : 1 ≤ X) (hXb : 100 ≤ X ∧ X < 400) :
    Calls Tryz.prog 118 #[.slice (some ⟨D, 0, none⟩) 0 24, .bool false, .slice (some ⟨B, 0, none⟩) 32 32, .int .i64 dp, .int .i64 ((r + 1 : Nat) : Int), .int .i64 (r : Int), .int .u8 101, .bool true] w fun e w' => e = .returned (.slice (some ⟨D, 0, none⟩) (2 + r + 1 + 1 + 3) 24) ∧ Below base w w' ∧ w'.ownsRow base 5 1 (.slice (some ⟨D, 0, none⟩) (2 + r + 1 + 1 + 3) 24) (2 + r + 1 + 1 + 3) (eRow ([.int .u8 (c 0)] ++ [.int .u8 46] ++ tailV c r) 45 X) := by
  have hrow : Hid (eRow ([.int .u8 (c 0)] ++ [.int .u8 46] ++ tailV c r) 45 X = [.int .u8 (c 0)] ++ [.int .u8 46] ++ tailV c r ++ [.int .u8 101] ++ [.int .u8 45] ++ [.int .u8 ((X / 100 : Nat) + 48 : Int), .int .u8 ((X / 10 % 10 : Nat) + 48 : Int), .int .u8 ((X % 10 : Nat) + 48 : Int)]) := hide (by unfold eRow expV; rw [if_neg (by omega), if_neg (by omega)])
  obtain ⟨LL, eLL⟩ : ∃ L, eRow ([.int .u8 (c 0)] ++ [.int .u8 46] ++ tailV c r) 45 X = L := ⟨_, rfl⟩
  rw [eLL] at hrow ⊢
  clear eLL
  obtain ⟨i, hi, hz0, hz1, hz2⟩ := info_parts info5
  have hd0 : w.cell? ⟨B, 0, none⟩ = some (.int .u8 (c 0)) := hd 0 (by omega)
  have HD := hide hd
  clear hd hz0 hz2
  have hl := tailV_len c r
  have h1 := tailV_one c r
  have hI1 : ((r + 1 : Nat) : Int) = (r : Int) + 1 := by omega
  have hlt : decide (dp - 1 < 0) = true := decide_eq_true (by omega)
  have hX2 : -(dp - 1) = (X : Int) := by omega
  have hr1 : decide ((X : Int) < 10) = false := decide_eq_false (by omega)
  have hr2 : decide ((X : Int) < 100) = false := decide_eq_false (by omega)
  have hq0 : (X : Int) / 100 = ((X / 100 : Nat) : Int) := by simp
  have hq1 : (X : Int) / 10 = ((X / 10 : Nat) : Int) := by simp
  have hq2 : (X : Int) % 10 = ((X % 10 : Nat) : Int) := by simp
  have hb0 : X / 100 < 10 := by omega
  have hb1 : X / 10 < 40 := by omega
  have hb2 : X % 10 < 10 := by omega
  have hq5 : ((X / 10 : Nat) : Int) % 10 = ((X / 10 % 10 : Nat) : Int) := by simp
  have hb3 : X / 10 % 10 < 10 := by omega
  obtain ⟨o, eo⟩ : ∃ p, X / 100 = p := ⟨_, rfl⟩
  obtain ⟨p, ep⟩ : ∃ p, X / 10 = p := ⟨_, rfl⟩
  obtain ⟨q, eq⟩ : ∃ p, X % 10 = p := ⟨_, rfl⟩
  rw [eo] at hq0 hb0 hrow
  rw [ep] at hq1 hb1 hq5 hb3 hrow
  rw [eq] at hq2 hb2 hrow
  obtain ⟨s, es⟩ : ∃ s, p % 10 = s := ⟨_, rfl⟩
  rw [es] at hq5 hb3 hrow
  have hw0 : IntKind.u8.wrap (o : Int) = (o : Int) := by rw [IntKind.wrap_u8]; omega
  have hw1 : IntKind.u8.wrap (p : Int) = (p : Int) := by rw [IntKind.wrap_u8]; omega
  have hw2 : IntKind.u8.wrap (q : Int) = (q : Int) := by rw [IntKind.wrap_u8]; omega
  have hw3 : IntKind.u8.wrap ((o : Int) + 48) = (o : Int) + 48 := by rw [IntKind.wrap_u8]; omega
  have hw4 : IntKind.u8.wrap ((q : Int) + 48) = (q : Int) + 48 := by rw [IntKind.wrap_u8]; omega
  have hw5 : IntKind.u8.wrap ((s : Int) + 48) = (s : Int) + 48 := by rw [IntKind.wrap_u8]; omega
  clear eo ep eq es
  have hdp : -500 ≤ dp ∧ dp ≤ 500 := by omega
  clear hXb
  go_enter Tryz.func118, Tryz.ntmps118
  go_wp2_with (first
    | (at_builtin; refine wpList_append_fits _ rfl _ _ 65 rfl base 5 i 1 Tryz.underlying65 hi hz1 D (2) 24 ([.int .u8 (c 0)] ++ [.int .u8 46]) rfl o2 ⟨B, 1, none⟩ r 31 (tailV c r) rfl (by rw [hl]; omega) HD2.out h1 (by omega) ?_; intro w3 o3 g3; have b3 : Below base w w3 := b2.grown g3 (by have := b2.size; omega) (fun k e => by cases e; exact hD))
    | (at_builtin; refine wpList_append_fits _ rfl _ _ 65 rfl base 5 i 1 Tryz.underlying65 hi hz1 D (1) 24 ([.int .u8 (c 0)]) rfl (o1.alloc _) ⟨_, 0, none⟩ 1 1 ([.int .u8 46]) rfl rfl (cell_one_new _ _ _) (by simp [Value.oneCell']) (by omega) ?_; intro w2 o2 g2; have b2 : Below base w w2 := ((b1).alloc (by have := (b1).size; omega) _).grown g2 (by have := (b1).size; simp; omega) (fun k e => by cases e; exact hD); have HD2 := cells_tail hne hBs HD.out g1 g2)
    | (at_builtin; refine wpList_append_fits _ rfl _ _ 65 rfl base 5 i 1 Tryz.underlying65 hi hz1 D (0) 24 ([]) rfl (hown.alloc _) ⟨_, 0, none⟩ 1 1 ([.int .u8 (c 0)]) rfl rfl (cell_one_new _ _ _) (by simp [Value.oneCell']) (by omega) ?_; intro w1 o1 g1; have b1 : Below base w w1 := ((Below.refl base w).alloc (by omega) _).grown g1 (by simp; omega) (fun k e => by cases e; exact hD)))
  go_loop [0, 114] (fun d v => d = .slice (some ⟨D, 0, none⟩) (2 + r) 24 ∧ v = .int .i64 0) (fun _ _ => 0)
  case atStart => exact ⟨rfl, rfl⟩
  case round =>
    obtain ⟨rfl, rfl⟩ := hrel
    go_wp2_with (first
      | (at_builtin; refine wpList_append_fits _ rfl _ _ 65 rfl base 5 i 1 Tryz.underlying65 hi hz1 D (2 + r + 1 + 1) 24 ([.int .u8 (c 0)] ++ [.int .u8 46] ++ tailV c r ++ [.int .u8 101] ++ [.int .u8 45]) rfl (o5.alloc _) ⟨_, 0, none⟩ 3 3 ([.int .u8 ((o : Int) + 48), .int .u8 ((s : Int) + 48), .int .u8 ((q : Int) + 48)]) rfl rfl (cell_three_new _ _ _ _ _) (by simp [Value.oneCell']) (by omega) ?_; intro w6 o6 g6; have b6 : Below base w w6 := ((b5).alloc (by have := (b5).size; omega) _).grown g6 (by have := (b5).size; simp; omega) (fun k e => by cases e; exact hD))
      | (at_builtin; refine wpList_append_fits _ rfl _ _ 65 rfl base 5 i 1 Tryz.underlying65 hi hz1 D (2 + r + 1) 24 ([.int .u8 (c 0)] ++ [.int .u8 46] ++ tailV c r ++ [.int .u8 101]) rfl (o4.alloc _) ⟨_, 0, none⟩ 1 1 ([.int .u8 45]) rfl rfl (cell_one_new _ _ _) (by simp [Value.oneCell']) (by omega) ?_; intro w5 o5 g5; have b5 : Below base w w5 := ((b4).alloc (by have := (b4).size; omega) _).grown g5 (by have := (b4).size; simp; omega) (fun k e => by cases e; exact hD))
      | (at_builtin; refine wpList_append_fits _ rfl _ _ 65 rfl base 5 i 1 Tryz.underlying65 hi hz1 D (2 + r) 24 ([.int .u8 (c 0)] ++ [.int .u8 46] ++ tailV c r) rfl (o3.alloc _) ⟨_, 0, none⟩ 1 1 ([.int .u8 101]) rfl rfl (cell_one_new _ _ _) (by simp [Value.oneCell']) (by omega) ?_; intro w4 o4 g4; have b4 : Below base w w4 := ((b3).alloc (by have := (b3).size; omega) _).grown g4 (by have := (b3).size; simp; omega) (fun k e => by cases e; exact hD)))
    go_ret
    exact ⟨rfl, b6, by rw [hrow.out]; exact o6⟩

set_option maxRecDepth 100000 in
set_option maxHeartbeats 8000000 in
theorem efg_mp0 (base D B r X : Nat) (c : Nat → Int) (dp : Int) (w : World) (hb : base ≤ w.heap.size) (hBs : B < w.heap.size) (hne : B ≠ D) (hD : base ≤ D) (hown : w.ownsRow base 5 1 (.slice (some ⟨D, 0, none⟩) 0 24) 0 []) (hd : CellsAt w B c (r + 1)) (hr : 1 ≤ r ∧ r ≤ 16) (hX : dp - 1 = (X : Int)) (hXb : X < 10) :
    Calls Tryz.prog 118 #[.slice (some ⟨D, 0, none⟩) 0 24, .bool false, .slice (some ⟨B, 0, none⟩) 32 32, .int .i64 dp, .int .i64 ((r + 1 : Nat) : Int), .int .i64 (r : Int), .int .u8 101, .bool true] w fun e w' => e = .returned (.slice (some ⟨D, 0, none⟩) (2 + r + 1 + 1 + 2) 24) ∧ Below base w w' ∧ w'.ownsRow base 5 1 (.slice (some ⟨D, 0, none⟩) (2 + r + 1 + 1 + 2) 24) (2 + r + 1 + 1 + 2) (eRow ([.int .u8 (c 0)] ++ [.int .u8 46] ++ tailV c r) 43 X) := by
  have hrow : Hid (eRow ([.int .u8 (c 0)] ++ [.int .u8 46] ++ tailV c r) 43 X = [.int .u8 (c 0)] ++ [.int .u8 46] ++ tailV c r ++ [.int .u8 101] ++ [.int .u8 43] ++ [.int .u8 48, .int .u8 ((X : Int) + 48)]) := hide (by unfold eRow expV; rw [if_pos hXb])
  obtain ⟨LL, eLL⟩ : ∃ L, eRow ([.int .u8 (c 0)] ++ [.int .u8 46] ++ tailV c r) 43 X = L := ⟨_, rfl⟩
  rw [eLL] at hrow ⊢
  clear eLL
  obtain ⟨i, hi, hz0, hz1, hz2⟩ := info_parts info5
  have hd0 : w.cell? ⟨B, 0, none⟩ = some (.int .u8 (c 0)) := hd 0 (by omega)
  have HD := hide hd
  clear hd hz0 hz2
  have hl := tailV_len c r
  have h1 := tailV_one c r
  have hI1 : ((r + 1 : Nat) : Int) = (r : Int) + 1 := by omega
  have hlt : decide (dp - 1 < 0) = false := decide_eq_false (by omega)
  have hr1 : decide ((X : Int) < 10) = true := decide_eq_true (by omega)
  have hw1 : IntKind.u8.wrap (X : Int) = (X : Int) := by rw [IntKind.wrap_u8]; omega
  have hw2 : IntKind.u8.wrap ((X : Int) + 48) = (X : Int) + 48 := by rw [IntKind.wrap_u8]; omega
  have hdp : -500 ≤ dp ∧ dp ≤ 500 := by omega
  clear hXb
  go_enter Tryz.func118, Tryz.ntmps118
  go_wp2_with (first
    | (at_builtin; refine wpList_append_fits _ rfl _ _ 65 rfl base 5 i 1 Tryz.underlying65 hi hz1 D (2) 24 ([.int .u8 (c 0)] ++ [.int .u8 46]) rfl o2 ⟨B, 1, none⟩ r 31 (tailV c r) rfl (by rw [hl]; omega) HD2.out h1 (by omega) ?_; intro w3 o3 g3; have b3 : Below base w w3 := b2.grown g3 (by have := b2.size; omega) (fun k e => by cases e; exact hD))
    | (at_builtin; refine wpList_append_fits _ rfl _ _ 65 rfl base 5 i 1 Tryz.underlying65 hi hz1 D (1) 24 ([.int .u8 (c 0)]) rfl (o1.alloc _) ⟨_, 0, none⟩ 1 1 ([.int .u8 46]) rfl rfl (cell_one_new _ _ _) (by simp [Value.oneCell']) (by omega) ?_; intro w2 o2 g2; have b2 : Below base w w2 := ((b1).alloc (by have := (b1).size; omega) _).grown g2 (by have := (b1).size; simp; omega) (fun k e => by cases e; exact hD); have HD2 := cells_tail hne hBs HD.out g1 g2)
    | (at_builtin; refine wpList_append_fits _ rfl _ _ 65 rfl base 5 i 1 Tryz.underlying65 hi hz1 D (0) 24 ([]) rfl (hown.alloc _) ⟨_, 0, none⟩ 1 1 ([.int .u8 (c 0)]) rfl rfl (cell_one_new _ _ _) (by simp [Value.oneCell']) (by omega) ?_; intro w1 o1 g1; have b1 : Below base w w1 := ((Below.refl base w).alloc (by omega) _).grown g1 (by simp; omega) (fun k e => by cases e; exact hD)))
  go_loop [0, 114] (fun d v => d = .slice (some ⟨D, 0, none⟩) (2 + r) 24 ∧ v = .int .i64 0) (fun _ _ => 0)
  case atStart => exact ⟨rfl, rfl⟩
  case round =>
    obtain ⟨rfl, rfl⟩ := hrel
    go_wp2_with (first
      | (at_builtin; refine wpList_append_fits _ rfl _ _ 65 rfl base 5 i 1 Tryz.underlying65 hi hz1 D (2 + r + 1 + 1) 24 ([.int .u8 (c 0)] ++ [.int .u8 46] ++ tailV c r ++ [.int .u8 101] ++ [.int .u8 43]) rfl (o5.alloc _) ⟨_, 0, none⟩ 2 2 ([.int .u8 48, .int .u8 ((X : Int) + 48)]) rfl rfl (cell_two_new _ _ _ _) (by simp [Value.oneCell']) (by omega) ?_; intro w6 o6 g6; have b6 : Below base w w6 := ((b5).alloc (by have := (b5).size; omega) _).grown g6 (by have := (b5).size; simp; omega) (fun k e => by cases e; exact hD))
      | (at_builtin; refine wpList_append_fits _ rfl _ _ 65 rfl base 5 i 1 Tryz.underlying65 hi hz1 D (2 + r + 1) 24 ([.int .u8 (c 0)] ++ [.int .u8 46] ++ tailV c r ++ [.int .u8 101]) rfl (o4.alloc _) ⟨_, 0, none⟩ 1 1 ([.int .u8 43]) rfl rfl (cell_one_new _ _ _) (by simp [Value.oneCell']) (by omega) ?_; intro w5 o5 g5; have b5 : Below base w w5 := ((b4).alloc (by have := (b4).size; omega) _).grown g5 (by have := (b4).size; simp; omega) (fun k e => by cases e; exact hD))
      | (at_builtin; refine wpList_append_fits _ rfl _ _ 65 rfl base 5 i 1 Tryz.underlying65 hi hz1 D (2 + r) 24 ([.int .u8 (c 0)] ++ [.int .u8 46] ++ tailV c r) rfl (o3.alloc _) ⟨_, 0, none⟩ 1 1 ([.int .u8 101]) rfl rfl (cell_one_new _ _ _) (by simp [Value.oneCell']) (by omega) ?_; intro w4 o4 g4; have b4 : Below base w w4 := ((b3).alloc (by have := (b3).size; omega) _).grown g4 (by have := (b3).size; simp; omega) (fun k e => by cases e; exact hD)))
    go_ret
    exact ⟨rfl, b6, by rw [hrow.out]; exact o6⟩

set_option maxRecDepth 100000 in
set_option maxHeartbeats 8000000 in
theorem efg_mp1 (base D B r X : Nat) (c : Nat → Int) (dp : Int) (w : World) (hb : base ≤ w.heap.size) (hBs : B < w.heap.size) (hne : B ≠ D) (hD : base ≤ D) (hown : w.ownsRow base 5 1 (.slice (some ⟨D, 0, none⟩) 0 24) 0 []) (hd : CellsAt w B c (r + 1)) (hr : 1 ≤ r ∧ r ≤ 16) (hX : dp - 1 = (X : Int)) (hXb : 10 ≤ X ∧ X < 100) :
    Calls Tryz.prog 118 #[.slice (some ⟨D, 0, none⟩) 0 24, .bool false, .slice (some ⟨B, 0, none⟩) 32 32, .int .i64 dp, .int .i64 ((r + 1 : Nat) : Int), .int .i64 (r : Int), .int .u8 101, .bool true] w fun e w' => e = .returned (.slice (some ⟨D, 0, none⟩) (2 + r + 1 + 1 + 2) 24) ∧ Below base w w' ∧ w'.ownsRow base 5 1 (.slice (some ⟨D, 0, none⟩) (2 + r + 1 + 1 + 2) 24) (2 + r + 1 + 1 + 2) (eRow ([.int .u8 (c 0)] ++ [.int .u8 46] ++ tailV c r) 43 X) := by
  have hrow : Hid (eRow ([.int .u8 (c 0)] ++ [.int .u8 46] ++ tailV c r) 43 X = [.int .u8 (c 0)] ++ [.int .u8 46] ++ tailV c r ++ [.int .u8 101] ++ [.int .u8 43] ++ [.int .u8 ((X / 10 : Nat) + 48 : Int), .int .u8 ((X % 10 : Nat) + 48 : Int)]) := hide (by unfold eRow expV; rw [if_neg (by omega), if_pos hXb.2])
  obtain ⟨LL, eLL⟩ : ∃ L, eRow ([.int .u8 (c 0)] ++ [.int .u8 46] ++ tailV c r) 43 X = L := ⟨_, rfl⟩
  rw [eLL] at hrow ⊢
  clear eLL
  obtain ⟨i, hi, hz0, hz1, hz2⟩ := info_parts info5
  have hd0 : w.cell? ⟨B, 0, none⟩ = some (.int .u8 (c 0)) := hd 0 (by omega)
  have HD := hide hd
  clear hd hz0 hz2
  have hl := tailV_len c r
  have h1 := tailV_one c r
  have hI1 : ((r + 1 : Nat) : Int) = (r : Int) + 1 := by omega
  have hlt : decide (dp - 1 < 0) = false := decide_eq_false (by omega)
  have hr1 : decide ((X : Int) < 10) = false := decide_eq_false (by omega)
  have hr2 : decide ((X : Int) < 100) = true := decide_eq_true (by omega)
  have hq1 : (X : Int) / 10 = ((X / 10 : Nat) : Int) := by simp
  have hq2 : (X : Int) % 10 = ((X % 10 : Nat) : Int) := by simp
  have hq3 : (X : Int).tdiv 10 = ((X / 10 : Nat) : Int) := by rw [Int.tdiv_eq_ediv_of_nonneg (by omega)]; simp
  have hq4 : (X : Int).tmod 10 = ((X % 10 : Nat) : Int) := by rw [Int.tmod_eq_emod_of_nonneg (by omega)]; simp
  have hb1 : X / 10 < 10 := by omega
  have hb2 : X % 10 < 10 := by omega
  obtain ⟨p, ep⟩ : ∃ p, X / 10 = p := ⟨_, rfl⟩
  obtain ⟨q, eq⟩ : ∃ p, X % 10 = p := ⟨_, rfl⟩
  rw [ep] at hq1 hq3 hb1 hrow
  rw [eq] at hq2 hq4 hb2 hrow
  have hw1 : IntKind.u8.wrap (p : Int) = (p : Int) := by rw [IntKind.wrap_u8]; omega
  have hw2 : IntKind.u8.wrap (q : Int) = (q : Int) := by rw [IntKind.wrap_u8]; omega
  have hw3 : IntKind.u8.wrap ((p : Int) + 48) = (p : Int) + 48 := by rw [IntKind.wrap_u8]; omega
  have hw4 : IntKind.u8.wrap ((q : Int) + 48) = (q : Int) + 48 := by rw [IntKind.wrap_u8]; omega
  clear ep eq
  have hdp : -500 ≤ dp ∧ dp ≤ 500 := by omega
  clear hXb
  go_enter Tryz.func118, Tryz.ntmps118
  go_wp2_with (first
    | (at_builtin; refine wpList_append_fits _ rfl _ _ 65 rfl base 5 i 1 Tryz.underlying65 hi hz1 D (2) 24 ([.int .u8 (c 0)] ++ [.int .u8 46]) rfl o2 ⟨B, 1, none⟩ r 31 (tailV c r) rfl (by rw [hl]; omega) HD2.out h1 (by omega) ?_; intro w3 o3 g3; have b3 : Below base w w3 := b2.grown g3 (by have := b2.size; omega) (fun k e => by cases e; exact hD))
    | (at_builtin; refine wpList_append_fits _ rfl _ _ 65 rfl base 5 i 1 Tryz.underlying65 hi hz1 D (1) 24 ([.int .u8 (c 0)]) rfl (o1.alloc _) ⟨_, 0, none⟩ 1 1 ([.int .u8 46]) rfl rfl (cell_one_new _ _ _) (by simp [Value.oneCell']) (by omega) ?_; intro w2 o2 g2; have b2 : Below base w w2 := ((b1).alloc (by have := (b1).size; omega) _).grown g2 (by have := (b1).size; simp; omega) (fun k e => by cases e; exact hD); have HD2 := cells_tail hne hBs HD.out g1 g2)
    | (at_builtin; refine wpList_append_fits _ rfl _ _ 65 rfl base 5 i 1 Tryz.underlying65 hi hz1 D (0) 24 ([]) rfl (hown.alloc _) ⟨_, 0, none⟩ 1 1 ([.int .u8 (c 0)]) rfl rfl (cell_one_new _ _ _) (by simp [Value.oneCell']) (by omega) ?_; intro w1 o1 g1; have b1 : Below base w w1 := ((Below.refl base w).alloc (by omega) _).grown g1 (by simp; omega) (fun k e => by cases e; exact hD)))
  go_loop [0, 114] (fun d v => d = .slice (some ⟨D, 0, none⟩) (2 + r) 24 ∧ v = .int .i64 0) (fun _ _ => 0)
  case atStart => exact ⟨rfl, rfl⟩
  case round =>
    obtain ⟨rfl, rfl⟩ := hrel
    go_wp2_with (first
      | (at_builtin; refine wpList_append_fits _ rfl _ _ 65 rfl base 5 i 1 Tryz.underlying65 hi hz1 D (2 + r + 1 + 1) 24 ([.int .u8 (c 0)] ++ [.int .u8 46] ++ tailV c r ++ [.int .u8 101] ++ [.int .u8 43]) rfl (o5.alloc _) ⟨_, 0, none⟩ 2 2 ([.int .u8 ((p : Int) + 48), .int .u8 ((q : Int) + 48)]) rfl rfl (cell_two_new _ _ _ _) (by simp [Value.oneCell']) (by omega) ?_; intro w6 o6 g6; have b6 : Below base w w6 := ((b5).alloc (by have := (b5).size; omega) _).grown g6 (by have := (b5).size; simp; omega) (fun k e => by cases e; exact hD))
      | (at_builtin; refine wpList_append_fits _ rfl _ _ 65 rfl base 5 i 1 Tryz.underlying65 hi hz1 D (2 + r + 1) 24 ([.int .u8 (c 0)] ++ [.int .u8 46] ++ tailV c r ++ [.int .u8 101]) rfl (o4.alloc _) ⟨_, 0, none⟩ 1 1 ([.int .u8 43]) rfl rfl (cell_one_new _ _ _) (by simp [Value.oneCell']) (by omega) ?_; intro w5 o5 g5; have b5 : Below base w w5 := ((b4).alloc (by have := (b4).size; omega) _).grown g5 (by have := (b4).size; simp; omega) (fun k e => by cases e; exact hD))
      | (at_builtin; refine wpList_append_fits _ rfl _ _ 65 rfl base 5 i 1 Tryz.underlying65 hi hz1 D (2 + r) 24 ([.int .u8 (c 0)] ++ [.int .u8 46] ++ tailV c r) rfl (o3.alloc _) ⟨_, 0, none⟩ 1 1 ([.int .u8 101]) rfl rfl (cell_one_new _ _ _) (by simp [Value.oneCell']) (by omega) ?_; intro w4 o4 g4; have b4 : Below base w w4 := ((b3).alloc (by have := (b3).size; omega) _).grown g4 (by have := (b3).size; simp; omega) (fun k e => by cases e; exact hD)))
    go_ret
    exact ⟨rfl, b6, by rw [hrow.out]; exact o6⟩

set_option maxRecDepth 100000 in
set_option maxHeartbeats 8000000 in
theorem efg_mp2 (base D B r X : Nat) (c : Nat → Int) (dp : Int) (w : World) (hb : base ≤ w.heap.size) (hBs : B < w.heap.size) (hne : B ≠ D) (hD : base ≤ D) (hown : w.ownsRow base 5 1 (.slice (some ⟨D, 0, none⟩) 0 24) 0 []) (hd : CellsAt w B c (r + 1)) (hr : 1 ≤ r ∧ r ≤ 16) (hX : dp - 1 = (X : Int)) (hXb : 100 ≤ X ∧ X < 400) :
    Calls Tryz.prog 118 #[.slice (some ⟨D, 0, none⟩) 0 24, .bool false, .slice (some ⟨B, 0, none⟩) 32 32, .int .i64 dp, .int .i64 ((r + 1 : Nat) : Int), .int .i64 (r : Int), .int .u8 101, .bool true] w fun e w' => e = .returned (.slice (some ⟨D, 0, none⟩) (2 + r + 1 + 1 + 3) 24) ∧ Below base w w' ∧ w'.ownsRow base 5 1 (.slice (some ⟨D, 0, none⟩) (2 + r + 1 + 1 + 3) 24) (2 + r + 1 + 1 + 3) (eRow ([.int .u8 (c 0)] ++ [.int .u8 46] ++ tailV c r) 43 X) := by
  have hrow : Hid (eRow ([.int .u8 (c 0)] ++ [.int .u8 46] ++ tailV c r) 43 X = [.int .u8 (c 0)] ++ [.int .u8 46] ++ tailV c r ++ [.int .u8 101] ++ [.int .u8 43] ++ [.int .u8 ((X / 100 : Nat) + 48 : Int), .int .u8 ((X / 10 % 10 : Nat) + 48 : Int), .int .u8 ((X % 10 : Nat) + 48 : Int)]) := hide (by unfold eRow expV; rw [if_neg (by omega), if_neg (by omega)])
  obtain ⟨LL, eLL⟩ : ∃ L, eRow ([.int .u8 (c 0)] ++ [.int .u8 46] ++ tailV c r) 43 X = L := ⟨_, rfl⟩
  rw [eLL] at hrow ⊢
  clear eLL
  obtain ⟨i, hi, hz0, hz1, hz2⟩ := info_parts info5
  have hd0 : w.cell? ⟨B, 0, none⟩ = some (.int .u8 (c 0)) := hd 0 (by omega)
  have HD := hide hd
  clear hd hz0 hz2
  have hl := tailV_len c r
  have h1 := tailV_one c r
  have hI1 : ((r + 1 : Nat) : Int) = (r : Int) + 1 := by omega
  have hlt : decide (dp - 1 < 0) = false := decide_eq_false (by omega)
  have hr1 : decide ((X : Int) < 10) = false := decide_eq_false (by omega)
  have hr2 : decide ((X : Int) < 100) = false := decide_eq_false (by omega)
  have hq0 : (X : Int) / 100 = ((X / 100 : Nat) : Int) := by simp
  have hq1 : (X : Int) / 10 = ((X / 10 : Nat) : Int) := by simp
  have hq2 : (X : Int) % 10 = ((X % 10 : Nat) : Int) := by simp
  have hb0 : X / 100 < 10 := by omega
  have hb1 : X / 10 < 40 := by omega
  have hb2 : X % 10 < 10 := by omega
  have hq5 : ((X / 10 : Nat) : Int) % 10 = ((X / 10 % 10 : Nat) : Int) := by simp
  have hb3 : X / 10 % 10 < 10 := by omega
  obtain ⟨o, eo⟩ : ∃ p, X / 100 = p := ⟨_, rfl⟩
  obtain ⟨p, ep⟩ : ∃ p, X / 10 = p := ⟨_, rfl⟩
  obtain ⟨q, eq⟩ : ∃ p, X % 10 = p := ⟨_, rfl⟩
  rw [eo] at hq0 hb0 hrow
  rw [ep] at hq1 hb1 hq5 hb3 hrow
  rw [eq] at hq2 hb2 hrow
  obtain ⟨s, es⟩ : ∃ s, p % 10 = s := ⟨_, rfl⟩
  rw [es] at hq5 hb3 hrow
  have hw0 : IntKind.u8.wrap (o : Int) = (o : Int) := by rw [IntKind.wrap_u8]; omega
  have hw1 : IntKind.u8.wrap (p : Int) = (p : Int) := by rw [IntKind.wrap_u8]; omega
  have hw2 : IntKind.u8.wrap (q : Int) = (q : Int) := by rw [IntKind.wrap_u8]; omega
  have hw3 : IntKind.u8.wrap ((o : Int) + 48) = (o : Int) + 48 := by rw [IntKind.wrap_u8]; omega
  have hw4 : IntKind.u8.wrap ((q : Int) + 48) = (q : Int) + 48 := by rw [IntKind.wrap_u8]; omega
  have hw5 : IntKind.u8.wrap ((s : Int) + 48) = (s : Int) + 48 := by rw [IntKind.wrap_u8]; omega
  clear eo ep eq es
  have hdp : -500 ≤ dp ∧ dp ≤ 500 := by omega
  clear hXb
  go_enter Tryz.func118, Tryz.ntmps118
  go_wp2_with (first
    | (at_builtin; refine wpList_append_fits _ rfl _ _ 65 rfl base 5 i 1 Tryz.underlying65 hi hz1 D (2) 24 ([.int .u8 (c 0)] ++ [.int .u8 46]) rfl o2 ⟨B, 1, none⟩ r 31 (tailV c r) rfl (by rw [hl]; omega) HD2.out h1 (by omega) ?_; intro w3 o3 g3; have b3 : Below base w w3 := b2.grown g3 (by have := b2.size; omega) (fun k e => by cases e; exact hD))
    | (at_builtin; refine wpList_append_fits _ rfl _ _ 65 rfl base 5 i 1 Tryz.underlying65 hi hz1 D (1) 24 ([.int .u8 (c 0)]) rfl (o1.alloc _) ⟨_, 0, none⟩ 1 1 ([.int .u8 46]) rfl rfl (cell_one_new _ _ _) (by simp [Value.oneCell']) (by omega) ?_; intro w2 o2 g2; have b2 : Below base w w2 := ((b1).alloc (by have := (b1).size; omega) _).grown g2 (by have := (b1).size; simp; omega) (fun k e => by cases e; exact hD); have HD2 := cells_tail hne hBs HD.out g1 g2)
    | (at_builtin; refine wpList_append_fits _ rfl _ _ 65 rfl base 5 i 1 Tryz.underlying65 hi hz1 D (0) 24 ([]) rfl (hown.alloc _) ⟨_, 0, none⟩ 1 1 ([.int .u8 (c 0)]) rfl rfl (cell_one_new _ _ _) (by simp [Value.oneCell']) (by omega) ?_; intro w1 o1 g1; have b1 : Below base w w1 := ((Below.refl base w).alloc (by omega) _).grown g1 (by simp; omega) (fun k e => by cases e; exact hD)))
  go_loop [0, 114] (fun d v => d = .slice (some ⟨D, 0, none⟩) (2 + r) 24 ∧ v = .int .i64 0) (fun _ _ => 0)
  case atStart => exact ⟨rfl, rfl⟩
  case round =>
    obtain ⟨rfl, rfl⟩ := hrel
    go_wp2_with (first
      | (at_builtin; refine wpList_append_fits _ rfl _ _ 65 rfl base 5 i 1 Tryz.underlying65 hi hz1 D (2 + r + 1 + 1) 24 ([.int .u8 (c 0)] ++ [.int .u8 46] ++ tailV c r ++ [.int .u8 101] ++ [.int .u8 43]) rfl (o5.alloc _) ⟨_, 0, none⟩ 3 3 ([.int .u8 ((o : Int) + 48), .int .u8 ((s : Int) + 48), .int .u8 ((q : Int) + 48)]) rfl rfl (cell_three_new _ _ _ _ _) (by simp [Value.oneCell']) (by omega) ?_; intro w6 o6 g6; have b6 : Below base w w6 := ((b5).alloc (by have := (b5).size; omega) _).grown g6 (by have := (b5).size; simp; omega) (fun k e => by cases e; exact hD))
      | (at_builtin; refine wpList_append_fits _ rfl _ _ 65 rfl base 5 i 1 Tryz.underlying65 hi hz1 D (2 + r + 1) 24 ([.int .u8 (c 0)] ++ [.int .u8 46] ++ tailV c r ++ [.int .u8 101]) rfl (o4.alloc _) ⟨_, 0, none⟩ 1 1 ([.int .u8 43]) rfl rfl (cell_one_new _ _ _) (by simp [Value.oneCell']) (by omega) ?_; intro w5 o5 g5; have b5 : Below base w w5 := ((b4).alloc (by have := (b4).size; omega) _).grown g5 (by have := (b4).size; simp; omega) (fun k e => by cases e; exact hD))
      | (at_builtin; refine wpList_append_fits _ rfl _ _ 65 rfl base 5 i 1 Tryz.underlying65 hi hz1 D (2 + r) 24 ([.int .u8 (c 0)] ++ [.int .u8 46] ++ tailV c r) rfl (o3.alloc _) ⟨_, 0, none⟩ 1 1 ([.int .u8 101]) rfl rfl (cell_one_new _ _ _) (by simp [Value.oneCell']) (by omega) ?_; intro w4 o4 g4; have b4 : Below base w w4 := ((b3).alloc (by have := (b3).size; omega) _).grown g4 (by have := (b3).size; simp; omega) (fun k e => by cases e; exact hD)))
    go_ret
    exact ⟨rfl, b6, by rw [hrow.out]; exact o6⟩

set_option maxRecDepth 100000 in
set_option maxHeartbeats 8000000 in
theorem efg_on0 (base D B X : Nat) (c : Nat → Int) (dp : Int) (w : World) (hb : base ≤ w.heap.size) (_hBs : B < w.heap.size) (_hne : B ≠ D) (hD : base ≤ D) (hown : w.ownsRow base 5 1 (.slice (some ⟨D, 0, none⟩) 0 24) 0 []) (hd : CellsAt w B c 1) (hX : dp - 1 = -(X : Int)) (hX0 : 1 ≤ X) (hXb : X < 10) :
    Calls Tryz.prog 118 #[.slice (some ⟨D, 0, none⟩) 0 24, .bool false, .slice (some ⟨B, 0, none⟩) 32 32, .int .i64 dp, .int .i64 1, .int .i64 0, .int .u8 101, .bool true] w fun e w' => e = .returned (.slice (some ⟨D, 0, none⟩) (5) 24) ∧ Below base w w' ∧ w'.ownsRow base 5 1 (.slice (some ⟨D, 0, none⟩) (5) 24) (5) (eRow ([.int .u8 (c 0)]) 45 X) := by
  have hrow : Hid (eRow ([.int .u8 (c 0)]) 45 X = [.int .u8 (c 0)] ++ [.int .u8 101] ++ [.int .u8 45] ++ [.int .u8 48, .int .u8 ((X : Int) + 48)]) := hide (by unfold eRow expV; rw [if_pos hXb])
  obtain ⟨LL, eLL⟩ : ∃ L, eRow ([.int .u8 (c 0)]) 45 X = L := ⟨_, rfl⟩
  rw [eLL] at hrow ⊢
  clear eLL
  obtain ⟨i, hi, hz0, hz1, hz2⟩ := info_parts info5
  have hd0 : w.cell? ⟨B, 0, none⟩ = some (.int .u8 (c 0)) := hd 0 (by omega)
  have HD := hide hd
  clear hd hz0 hz2
  have hlt : decide (dp - 1 < 0) = true := decide_eq_true (by omega)
  have hX2 : -(dp - 1) = (X : Int) := by omega
  have hr1 : decide ((X : Int) < 10) = true := decide_eq_true (by omega)
  have hw1 : IntKind.u8.wrap (X : Int) = (X : Int) := by rw [IntKind.wrap_u8]; omega
  have hw2 : IntKind.u8.wrap ((X : Int) + 48) = (X : Int) + 48 := by rw [IntKind.wrap_u8]; omega
  have hdp : -500 ≤ dp ∧ dp ≤ 500 := by omega
  clear hXb
  go_enter Tryz.func118, Tryz.ntmps118
  go_wp2_with (first
    | (at_builtin; refine wpList_append_fits _ rfl _ _ 65 rfl base 5 i 1 Tryz.underlying65 hi hz1 D (3) 24 ([.int .u8 (c 0)] ++ [.int .u8 101] ++ [.int .u8 45]) rfl (o5.alloc _) ⟨_, 0, none⟩ 2 2 ([.int .u8 48, .int .u8 ((X : Int) + 48)]) rfl rfl (cell_two_new _ _ _ _) (by simp [Value.oneCell']) (by omega) ?_; intro w6 o6 g6; have b6 : Below base w w6 := ((b5).alloc (by have := (b5).size; omega) _).grown g6 (by have := (b5).size; simp; omega) (fun k e => by cases e; exact hD))
    | (at_builtin; refine wpList_append_fits _ rfl _ _ 65 rfl base 5 i 1 Tryz.underlying65 hi hz1 D (2) 24 ([.int .u8 (c 0)] ++ [.int .u8 101]) rfl (o4.alloc _) ⟨_, 0, none⟩ 1 1 ([.int .u8 45]) rfl rfl (cell_one_new _ _ _) (by simp [Value.oneCell']) (by omega) ?_; intro w5 o5 g5; have b5 : Below base w w5 := ((b4).alloc (by have := (b4).size; omega) _).grown g5 (by have := (b4).size; simp; omega) (fun k e => by cases e; exact hD))
    | (at_builtin; refine wpList_append_fits _ rfl _ _ 65 rfl base 5 i 1 Tryz.underlying65 hi hz1 D (1) 24 ([.int .u8 (c 0)]) rfl (o1.alloc _) ⟨_, 0, none⟩ 1 1 ([.int .u8 101]) rfl rfl (cell_one_new _ _ _) (by simp [Value.oneCell']) (by omega) ?_; intro w4 o4 g4; have b4 : Below base w w4 := ((b1).alloc (by have := (b1).size; omega) _).grown g4 (by have := (b1).size; simp; omega) (fun k e => by cases e; exact hD))
    | (at_builtin; refine wpList_append_fits _ rfl _ _ 65 rfl base 5 i 1 Tryz.underlying65 hi hz1 D (0) 24 ([]) rfl (hown.alloc _) ⟨_, 0, none⟩ 1 1 ([.int .u8 (c 0)]) rfl rfl (cell_one_new _ _ _) (by simp [Value.oneCell']) (by omega) ?_; intro w1 o1 g1; have b1 : Below base w w1 := ((Below.refl base w).alloc (by omega) _).grown g1 (by simp; omega) (fun k e => by cases e; exact hD)))
  go_ret
  exact ⟨rfl, b6, by rw [hrow.out]; exact o6⟩

set_option maxRecDepth 100000 in
set_option maxHeartbeats 8000000 in
theorem efg_on1 (base D B X : Nat) (c : Nat → Int) (dp : Int) (w : World) (hb : base ≤ w.heap.size) (_hBs : B < w.heap.size) (_hne : B ≠ D) (hD : base ≤ D) (hown : w.ownsRow base 5 1 (.slice (some ⟨D, 0, none⟩) 0 24) 0 []) (hd : CellsAt w B c 1) (hX : dp - 1 = -(X : Int)) (hX0 : 1 ≤ X) (hXb : 10 ≤ X ∧ X < 100) :
    Calls Tryz.prog 118 #[.slice (some ⟨D, 0, none⟩) 0 24, .bool false, .slice (some ⟨B, 0, none⟩) 32 32, .int .i64 dp, .int .i64 1, .int .i64 0, .int .u8 101, .bool true] w fun e w' => e = .returned (.slice (some ⟨D, 0, none⟩) (5) 24) ∧ Below base w w' ∧ w'.ownsRow base 5 1 (.slice (some ⟨D, 0, none⟩) (5) 24) (5) (eRow ([.int .u8 (c 0)]) 45 X) := by
  have hrow : Hid (eRow ([.int .u8 (c 0)]) 45 X = [.int .u8 (c 0)] ++ [.int .u8 101] ++ [.int .u8 45] ++ [.int .u8 ((X / 10 : Nat) + 48 : Int), .int .u8 ((X % 10 : Nat) + 48 : Int)]) := hide (by unfold eRow expV; rw [if_neg (by omega), if_pos hXb.2])
  obtain ⟨LL, eLL⟩ : ∃ L, eRow ([.int .u8 (c 0)]) 45 X = L := ⟨_, rfl⟩
  rw [eLL] at hrow ⊢
  clear eLL
  obtain ⟨i, hi, hz0, hz1, hz2⟩ := info_parts info5
  have hd0 : w.cell? ⟨B, 0, none⟩ = some (.int .u8 (c 0)) := hd 0 (by omega)
  have HD := hide hd
  clear hd hz0 hz2
  have hlt : decide (dp - 1 < 0) = true := decide_eq_true (by omega)
  have hX2 : -(dp - 1) = (X : Int) := by omega
  have hr1 : decide ((X : Int) < 10) = false := decide_eq_false (by omega)
  have hr2 : decide ((X : Int) < 100) = true := decide_eq_true (by omega)
  have hq1 : (X : Int) / 10 = ((X / 10 : Nat) : Int) := by simp
  have hq2 : (X : Int) % 10 = ((X % 10 : Nat) : Int) := by simp
  have hq3 : (X : Int).tdiv 10 = ((X / 10 : Nat) : Int) := by rw [Int.tdiv_eq_ediv_of_nonneg (by omega)]; simp
  have hq4 : (X : Int).tmod 10 = ((X % 10 : Nat) : Int) := by rw [Int.tmod_eq_emod_of_nonneg (by omega)]; simp
  have hb1 : X / 10 < 10 := by omega
  have hb2 : X % 10 < 10 := by omega
  obtain ⟨p, ep⟩ : ∃ p, X / 10 = p := ⟨_, rfl⟩
  obtain ⟨q, eq⟩ : ∃ p, X % 10 = p := ⟨_, rfl⟩
  rw [ep] at hq1 hq3 hb1 hrow
  rw [eq] at hq2 hq4 hb2 hrow
  have hw1 : IntKind.u8.wrap (p : Int) = (p : Int) := by rw [IntKind.wrap_u8]; omega
  have hw2 : IntKind.u8.wrap (q : Int) = (q : Int) := by rw [IntKind.wrap_u8]; omega
  have hw3 : IntKind.u8.wrap ((p : Int) + 48) = (p : Int) + 48 := by rw [IntKind.wrap_u8]; omega
  have hw4 : IntKind.u8.wrap ((q : Int) + 48) = (q : Int) + 48 := by rw [IntKind.wrap_u8]; omega
  clear ep eq
  have hdp : -500 ≤ dp ∧ dp ≤ 500 := by omega
  clear hXb
  go_enter Tryz.func118, Tryz.ntmps118
  go_wp2_with (first
    | (at_builtin; refine wpList_append_fits _ rfl _ _ 65 rfl base 5 i 1 Tryz.underlying65 hi hz1 D (3) 24 ([.int .u8 (c 0)] ++ [.int .u8 101] ++ [.int .u8 45]) rfl (o5.alloc _) ⟨_, 0, none⟩ 2 2 ([.int .u8 ((p : Int) + 48), .int .u8 ((q : Int) + 48)]) rfl rfl (cell_two_new _ _ _ _) (by simp [Value.oneCell']) (by omega) ?_; intro w6 o6 g6; have b6 : Below base w w6 := ((b5).alloc (by have := (b5).size; omega) _).grown g6 (by have := (b5).size; simp; omega) (fun k e => by cases e; exact hD))
    | (at_builtin; refine wpList_append_fits _ rfl _ _ 65 rfl base 5 i 1 Tryz.underlying65 hi hz1 D (2) 24 ([.int .u8 (c 0)] ++ [.int .u8 101]) rfl (o4.alloc _) ⟨_, 0, none⟩ 1 1 ([.int .u8 45]) rfl rfl (cell_one_new _ _ _) (by simp [Value.oneCell']) (by omega) ?_; intro w5 o5 g5; have b5 : Below base w w5 := ((b4).alloc (by have := (b4).size; omega) _).grown g5 (by have := (b4).size; simp; omega) (fun k e => by cases e; exact hD))
    | (at_builtin; refine wpList_append_fits _ rfl _ _ 65 rfl base 5 i 1 Tryz.underlying65 hi hz1 D (1) 24 ([.int .u8 (c 0)]) rfl (o1.alloc _) ⟨_, 0, none⟩ 1 1 ([.int .u8 101]) rfl rfl (cell_one_new _ _ _) (by simp [Value.oneCell']) (by omega) ?_; intro w4 o4 g4; have b4 : Below base w w4 := ((b1).alloc (by have := (b1).size; omega) _).grown g4 (by have := (b1).size; simp; omega) (fun k e => by cases e; exact hD))
    | (at_builtin; refine wpList_append_fits _ rfl _ _ 65 rfl base 5 i 1 Tryz.underlying65 hi hz1 D (0) 24 ([]) rfl (hown.alloc _) ⟨_, 0, none⟩ 1 1 ([.int .u8 (c 0)]) rfl rfl (cell_one_new _ _ _) (by simp [Value.oneCell']) (by omega) ?_; intro w1 o1 g1; have b1 : Below base w w1 := ((Below.refl base w).alloc (by omega) _).grown g1 (by simp; omega) (fun k e => by cases e; exact hD)))
  go_ret
  exact ⟨rfl, b6, by rw [hrow.out]; exact o6⟩

set_option maxRecDepth 100000 in
set_option maxHeartbeats 8000000 in
theorem efg_on2 (base D B X : Nat) (c : Nat → Int) (dp : Int) (w : World) (hb : base ≤ w.heap.size) (_hBs : B < w.heap.size) (_hne : B ≠ D) (hD : base ≤ D) (hown : w.ownsRow base 5 1 (.slice (some ⟨D, 0, none⟩) 0 24) 0 []) (hd : CellsAt w B c 1) (hX : dp - 1 = -(X : Int)) (hX0 : 1 ≤ X) (hXb : 100 ≤ X ∧ X < 400) :
    Calls Tryz.prog 118 #[.slice (some ⟨D, 0, none⟩) 0 24, .bool false, .slice (some ⟨B, 0, none⟩) 32 32, .int .i64 dp, .int .i64 1, .int .i64 0, .int .u8 101, .bool true] w fun e w' => e = .returned (.slice (some ⟨D, 0, none⟩) (6) 24) ∧ Below base w w' ∧ w'.ownsRow base 5 1 (.slice (some ⟨D, 0, none⟩) (6) 24) (6) (eRow ([.int .u8 (c 0)]) 45 X) := by
  have hrow : Hid (eRow ([.int .u8 (c 0)]) 45 X = [.int .u8 (c 0)] ++ [.int .u8 101] ++ [.int .u8 45] ++ [.int .u8 ((X / 100 : Nat) + 48 : Int), .int .u8 ((X / 10 % 10 : Nat) + 48 : Int), .int .u8 ((X % 10 : Nat) + 48 : Int)]) := hide (by unfold eRow expV; rw [if_neg (by omega), if_neg (by omega)])
  obtain ⟨LL, eLL⟩ : ∃ L, eRow ([.int .u8 (c 0)]) 45 X = L := ⟨_, rfl⟩
  rw [eLL] at hrow ⊢
  clear eLL
  obtain ⟨i, hi, hz0, hz1, hz2⟩ := info_parts info5
  have hd0 : w.cell? ⟨B, 0, none⟩ = some (.int .u8 (c 0)) := hd 0 (by omega)
  have HD := hide hd
  clear hd hz0 hz2
  have hlt : decide (dp - 1 < 0) = true := decide_eq_true (by omega)
  have hX2 : -(dp - 1) = (X : Int) := by omega
  have hr1 : decide ((X : Int) < 10) = false := decide_eq_false (by omega)
  have hr2 : decide ((X : Int) < 100) = false := decide_eq_false (by omega)
  have hq0 : (X : Int) / 100 = ((X / 100 : Nat) : Int) := by simp
  have hq1 : (X : Int) / 10 = ((X / 10 : Nat) : Int) := by simp
  have hq2 : (X : Int) % 10 = ((X % 10 : Nat) : Int) := by simp
  have hb0 : X / 100 < 10 := by omega
  have hb1 : X / 10 < 40 := by omega
  have hb2 : X % 10 < 10 := by omega
  have hq5 : ((X / 10 : Nat) : Int) % 10 = ((X / 10 % 10 : Nat) : Int) := by simp
  have hb3 : X / 10 % 10 < 10 := by omega
  obtain ⟨o, eo⟩ : ∃ p, X / 100 = p := ⟨_, rfl⟩
  obtain ⟨p, ep⟩ : ∃ p, X / 10 = p := ⟨_, rfl⟩
  obtain ⟨q, eq⟩ : ∃ p, X % 10 = p := ⟨_, rfl⟩
  rw [eo] at hq0 hb0 hrow
  rw [ep] at hq1 hb1 hq5 hb3 hrow
  rw [eq] at hq2 hb2 hrow
  obtain ⟨s, es⟩ : ∃ s, p % 10 = s := ⟨_, rfl⟩
  rw [es] at hq5 hb3 hrow
  have hw0 : IntKind.u8.wrap (o : Int) = (o : Int) := by rw [IntKind.wrap_u8]; omega
  have hw1 : IntKind.u8.wrap (p : Int) = (p : Int) := by rw [IntKind.wrap_u8]; omega
  have hw2 : IntKind.u8.wrap (q : Int) = (q : Int) := by rw [IntKind.wrap_u8]; omega
  have hw3 : IntKind.u8.wrap ((o : Int) + 48) = (o : Int) + 48 := by rw [IntKind.wrap_u8]; omega
  have hw4 : IntKind.u8.wrap ((q : Int) + 48) = (q : Int) + 48 := by rw [IntKind.wrap_u8]; omega
  have hw5 : IntKind.u8.wrap ((s : Int) + 48) = (s : Int) + 48 := by rw [IntKind.wrap_u8]; omega
  clear eo ep eq es
  have hdp : -500 ≤ dp ∧ dp ≤ 500 := by omega
  clear hXb
  go_enter Tryz.func118, Tryz.ntmps118
  go_wp2_with (first
    | (at_builtin; refine wpList_append_fits _ rfl _ _ 65 rfl base 5 i 1 Tryz.underlying65 hi hz1 D (3) 24 ([.int .u8 (c 0)] ++ [.int .u8 101] ++ [.int .u8 45]) rfl (o5.alloc _) ⟨_, 0, none⟩ 3 3 ([.int .u8 ((o : Int) + 48), .int .u8 ((s : Int) + 48), .int .u8 ((q : Int) + 48)]) rfl rfl (cell_three_new _ _ _ _ _) (by simp [Value.oneCell']) (by omega) ?_; intro w6 o6 g6; have b6 : Below base w w6 := ((b5).alloc (by have := (b5).size; omega) _).grown g6 (by have := (b5).size; simp; omega) (fun k e => by cases e; exact hD))
    | (at_builtin; refine wpList_append_fits _ rfl _ _ 65 rfl base 5 i 1 Tryz.underlying65 hi hz1 D (2) 24 ([.int .u8 (c 0)] ++ [.int .u8 101]) rfl (o4.alloc _) ⟨_, 0, none⟩ 1 1 ([.int .u8 45]) rfl rfl (cell_one_new _ _ _) (by simp [Value.oneCell']) (by omega) ?_; intro w5 o5 g5; have b5 : Below base w w5 := ((b4).alloc (by have := (b4).size; omega) _).grown g5 (by have := (b4).size; simp; omega) (fun k e => by cases e; exact hD))
    | (at_builtin; refine wpList_append_fits _ rfl _ _ 65 rfl base 5 i 1 Tryz.underlying65 hi hz1 D (1) 24 ([.int .u8 (c 0)]) rfl (o1.alloc _) ⟨_, 0, none⟩ 1 1 ([.int .u8 101]) rfl rfl (cell_one_new _ _ _) (by simp [Value.oneCell']) (by omega) ?_; intro w4 o4 g4; have b4 : Below base w w4 := ((b1).alloc (by have := (b1).size; omega) _).grown g4 (by have := (b1).size; simp; omega) (fun k e => by cases e; exact hD))
    | (at_builtin; refine wpList_append_fits _ rfl _ _ 65 rfl base 5 i 1 Tryz.underlying65 hi hz1 D (0) 24 ([]) rfl (hown.alloc _) ⟨_, 0, none⟩ 1 1 ([.int .u8 (c 0)]) rfl rfl (cell_one_new _ _ _) (by simp [Value.oneCell']) (by omega) ?_; intro w1 o1 g1; have b1 : Below base w w1 := ((Below.refl base w).alloc (by omega) _).grown g1 (by simp; omega) (fun k e => by cases e; exact hD)))
  go_ret
  exact ⟨rfl, b6, by rw [hrow.out]; exact o6⟩

set_option maxRecDepth 100000 in
set_option maxHeartbeats 8000000 in
theorem efg_op0 (base D B X : Nat) (c : Nat → Int) (dp : Int) (w : World) (hb : base ≤ w.heap.size) (_hBs : B < w.heap.size) (_hne : B ≠ D) (hD : base ≤ D) (hown : w.ownsRow base 5 1 (.slice (some ⟨D, 0, none⟩) 0 24) 0 []) (hd : CellsAt w B c 1) (hX : dp - 1 = (X : Int)) (hXb : X < 10) :
    Calls Tryz.prog 118 #[.slice (some ⟨D, 0, none⟩) 0 24, .bool false, .slice (some ⟨B, 0, none⟩) 32 32, .int .i64 dp, .int .i64 1, .int .i64 0, .int .u8 101, .bool true] w fun e w' => e = .returned (.slice (some ⟨D, 0, none⟩) (5) 24) ∧ Below base w w' ∧ w'.ownsRow base 5 1 (.slice (some ⟨D, 0, none⟩) (5) 24) (5) (eRow ([.int .u8 (c 0)]) 43 X) := by
  have hrow : Hid (eRow ([.int .u8 (c 0)]) 43 X = [.int .u8 (c 0)] ++ [.int .u8 101] ++ [.int .u8 43] ++ [.int .u8 48, .int .u8 ((X : Int) + 48)]) := hide (by unfold eRow expV; rw [if_pos hXb])
  obtain ⟨LL, eLL⟩ : ∃ L, eRow ([.int .u8 (c 0)]) 43 X = L := ⟨_, rfl⟩
  rw [eLL] at hrow ⊢
  clear eLL
  obtain ⟨i, hi, hz0, hz1, hz2⟩ := info_parts info5
  have hd0 : w.cell? ⟨B, 0, none⟩ = some (.int .u8 (c 0)) := hd 0 (by omega)
  have HD := hide hd
  clear hd hz0 hz2
  have hlt : decide (dp - 1 < 0) = false := decide_eq_false (by omega)
  have hr1 : decide ((X : Int) < 10) = true := decide_eq_true (by omega)
  have hw1 : IntKind.u8.wrap (X : Int) = (X : Int) := by rw [IntKind.wrap_u8]; omega
  have hw2 : IntKind.u8.wrap ((X : Int) + 48) = (X : Int) + 48 := by rw [IntKind.wrap_u8]; omega
  have hdp : -500 ≤ dp ∧ dp ≤ 500 := by omega
  clear hXb
  go_enter Tryz.func118, Tryz.ntmps118
  go_wp2_with (first
    | (at_builtin; refine wpList_append_fits _ rfl _ _ 65 rfl base 5 i 1 Tryz.underlying65 hi hz1 D (3) 24 ([.int .u8 (c 0)] ++ [.int .u8 101] ++ [.int .u8 43]) rfl (o5.alloc _) ⟨_, 0, none⟩ 2 2 ([.int .u8 48, .int .u8 ((X : Int) + 48)]) rfl rfl (cell_two_new _ _ _ _) (by simp [Value.oneCell']) (by omega) ?_; intro w6 o6 g6; have b6 : Below base w w6 := ((b5).alloc (by have := (b5).size; omega) _).grown g6 (by have := (b5).size; simp; omega) (fun k e => by cases e; exact hD))
    | (at_builtin; refine wpList_append_fits _ rfl _ _ 65 rfl base 5 i 1 Tryz.underlying65 hi hz1 D (2) 24 ([.int .u8 (c 0)] ++ [.int .u8 101]) rfl (o4.alloc _) ⟨_, 0, none⟩ 1 1 ([.int .u8 43]) rfl rfl (cell_one_new _ _ _) (by simp [Value.oneCell']) (by omega) ?_; intro w5 o5 g5; have b5 : Below base w w5 := ((b4).alloc (by have := (b4).size; omega) _).grown g5 (by have := (b4).size; simp; omega) (fun k e => by cases e; exact hD))
    | (at_builtin; refine wpList_append_fits _ rfl _ _ 65 rfl base 5 i 1 Tryz.underlying65 hi hz1 D (1) 24 ([.int .u8 (c 0)]) rfl (o1.alloc _) ⟨_, 0, none⟩ 1 1 ([.int .u8 101]) rfl rfl (cell_one_new _ _ _) (by simp [Value.oneCell']) (by omega) ?_; intro w4 o4 g4; have b4 : Below base w w4 := ((b1).alloc (by have := (b1).size; omega) _).grown g4 (by have := (b1).size; simp; omega) (fun k e => by cases e; exact hD))
    | (at_builtin; refine wpList_append_fits _ rfl _ _ 65 rfl base 5 i 1 Tryz.underlying65 hi hz1 D (0) 24 ([]) rfl (hown.alloc _) ⟨_, 0, none⟩ 1 1 ([.int .u8 (c 0)]) rfl rfl (cell_one_new _ _ _) (by simp [Value.oneCell']) (by omega) ?_; intro w1 o1 g1; have b1 : Below base w w1 := ((Below.refl base w).alloc (by omega) _).grown g1 (by simp; omega) (fun k e => by cases e; exact hD)))
  go_ret
  exact ⟨rfl, b6, by rw [hrow.out]; exact o6⟩

set_option maxRecDepth 100000 in
set_option maxHeartbeats 8000000 in
theorem efg_op1 (base D B X : Nat) (c : Nat → Int) (dp : Int) (w : World) (hb : base ≤ w.heap.size) (_hBs : B < w.heap.size) (_hne : B ≠ D) (hD : base ≤ D) (hown : w.ownsRow base 5 1 (.slice (some ⟨D, 0, none⟩) 0 24) 0 []) (hd : CellsAt w B c 1) (hX : dp - 1 = (X : Int)) (hXb : 10 ≤ X ∧ X < 100) :
    Calls Tryz.prog 118 #[.slice (some ⟨D, 0, none⟩) 0 24, .bool false, .slice (some ⟨B, 0, none⟩) 32 32, .int .i64 dp, .int .i64 1, .int .i64 0, .int .u8 101, .bool true] w fun e w' => e = .returned (.slice (some ⟨D, 0, none⟩) (5) 24) ∧ Below base w w' ∧ w'.ownsRow base 5 1 (.slice (some ⟨D, 0, none⟩) (5) 24) (5) (eRow ([.int .u8 (c 0)]) 43 X) := by
  have hrow : Hid (eRow ([.int .u8 (c 0)]) 43 X = [.int .u8 (c 0)] ++ [.int .u8 101] ++ [.int .u8 43] ++ [.int .u8 ((X / 10 : Nat) + 48 : Int), .int .u8 ((X % 10 : Nat) + 48 : Int)]) := hide (by unfold eRow expV; rw [if_neg (by omega), if_pos hXb.2])
  obtain ⟨LL, eLL⟩ : ∃ L, eRow ([.int .u8 (c 0)]) 43 X = L := ⟨_, rfl⟩
  rw [eLL] at hrow ⊢
  clear eLL
  obtain ⟨i, hi, hz0, hz1, hz2⟩ := info_parts info5
  have hd0 : w.cell? ⟨B, 0, none⟩ = some (.int .u8 (c 0)) := hd 0 (by omega)
  have HD := hide hd
  clear hd hz0 hz2
  have hlt : decide (dp - 1 < 0) = false := decide_eq_false (by omega)
  have hr1 : decide ((X : Int) < 10) = false := decide_eq_false (by omega)
  have hr2 : decide ((X : Int) < 100) = true := decide_eq_true (by omega)
  have hq1 : (X : Int) / 10 = ((X / 10 : Nat) : Int) := by simp
  have hq2 : (X : Int) % 10 = ((X % 10 : Nat) : Int) := by simp
  have hq3 : (X : Int).tdiv 10 = ((X / 10 : Nat) : Int) := by rw [Int.tdiv_eq_ediv_of_nonneg (by omega)]; simp
  have hq4 : (X : Int).tmod 10 = ((X % 10 : Nat) : Int) := by rw [Int.tmod_eq_emod_of_nonneg (by omega)]; simp
  have hb1 : X / 10 < 10 := by omega
  have hb2 : X % 10 < 10 := by omega
  obtain ⟨p, ep⟩ : ∃ p, X / 10 = p := ⟨_, rfl⟩
  obtain ⟨q, eq⟩ : ∃ p, X % 10 = p := ⟨_, rfl⟩
  rw [ep] at hq1 hq3 hb1 hrow
  rw [eq] at hq2 hq4 hb2 hrow
  have hw1 : IntKind.u8.wrap (p : Int) = (p : Int) := by rw [IntKind.wrap_u8]; omega
  have hw2 : IntKind.u8.wrap (q : Int) = (q : Int) := by rw [IntKind.wrap_u8]; omega
  have hw3 : IntKind.u8.wrap ((p : Int) + 48) = (p : Int) + 48 := by rw [IntKind.wrap_u8]; omega
  have hw4 : IntKind.u8.wrap ((q : Int) + 48) = (q : Int) + 48 := by rw [IntKind.wrap_u8]; omega
  clear ep eq
  have hdp : -500 ≤ dp ∧ dp ≤ 500 := by omega
  clear hXb
  go_enter Tryz.func118, Tryz.ntmps118
  go_wp2_with (first
    | (at_builtin; refine wpList_append_fits _ rfl _ _ 65 rfl base 5 i 1 Tryz.underlying65 hi hz1 D (3) 24 ([.int .u8 (c 0)] ++ [.int .u8 101] ++ [.int .u8 43]) rfl (o5.alloc _) ⟨_, 0, none⟩ 2 2 ([.int .u8 ((p : Int) + 48), .int .u8 ((q : Int) + 48)]) rfl rfl (cell_two_new _ _ _ _) (by simp [Value.oneCell']) (by omega) ?_; intro w6 o6 g6; have b6 : Below base w w6 := ((b5).alloc (by have := (b5).size; omega) _).grown g6 (by have := (b5).size; simp; omega) (fun k e => by cases e; exact hD))
    | (at_builtin; refine wpList_append_fits _ rfl _ _ 65 rfl base 5 i 1 Tryz.underlying65 hi hz1 D (2) 24 ([.int .u8 (c 0)] ++ [.int .u8 101]) rfl (o4.alloc _) ⟨_, 0, none⟩ 1 1 ([.int .u8 43]) rfl rfl (cell_one_new _ _ _) (by simp [Value.oneCell']) (by omega) ?_; intro w5 o5 g5; have b5 : Below base w w5 := ((b4).alloc (by have := (b4).size; omega) _).grown g5 (by have := (b4).size; simp; omega) (fun k e => by cases e; exact hD))
    | (at_builtin; refine wpList_append_fits _ rfl _ _ 65 rfl base 5 i 1 Tryz.underlying65 hi hz1 D (1) 24 ([.int .u8 (c 0)]) rfl (o1.alloc _) ⟨_, 0, none⟩ 1 1 ([.int .u8 101]) rfl rfl (cell_one_new _ _ _) (by simp [Value.oneCell']) (by omega) ?_; intro w4 o4 g4; have b4 : Below base w w4 := ((b1).alloc (by have := (b1).size; omega) _).grown g4 (by have := (b1).size; simp; omega) (fun k e => by cases e; exact hD))
    | (at_builtin; refine wpList_append_fits _ rfl _ _ 65 rfl base 5 i 1 Tryz.underlying65 hi hz1 D (0) 24 ([]) rfl (hown.alloc _) ⟨_, 0, none⟩ 1 1 ([.int .u8 (c 0)]) rfl rfl (cell_one_new _ _ _) (by simp [Value.oneCell']) (by omega) ?_; intro w1 o1 g1; have b1 : Below base w w1 := ((Below.refl base w).alloc (by omega) _).grown g1 (by simp; omega) (fun k e => by cases e; exact hD)))
  go_ret
  exact ⟨rfl, b6, by rw [hrow.out]; exact o6⟩

set_option maxRecDepth 100000 in
set_option maxHeartbeats 8000000 in
theorem efg_op2 (base D B X : Nat) (c : Nat → Int) (dp : Int) (w : World) (hb : base ≤ w.heap.size) (_hBs : B < w.heap.size) (_hne : B ≠ D) (hD : base ≤ D) (hown : w.ownsRow base 5 1 (.slice (some ⟨D, 0, none⟩) 0 24) 0 []) (hd : CellsAt w B c 1) (hX : dp - 1 = (X : Int)) (hXb : 100 ≤ X ∧ X < 400) :
    Calls Tryz.prog 118 #[.slice (some ⟨D, 0, none⟩) 0 24, .bool false, .slice (some ⟨B, 0, none⟩) 32 32, .int .i64 dp, .int .i64 1, .int .i64 0, .int .u8 101, .bool true] w fun e w' => e = .returned (.slice (some ⟨D, 0, none⟩) (6) 24) ∧ Below base w w' ∧ w'.ownsRow base 5 1 (.slice (some ⟨D, 0, none⟩) (6) 24) (6) (eRow ([.int .u8 (c 0)]) 43 X) := by
  have hrow : Hid (eRow ([.int .u8 (c 0)]) 43 X = [.int .u8 (c 0)] ++ [.int .u8 101] ++ [.int .u8 43] ++ [.int .u8 ((X / 100 : Nat) + 48 : Int), .int .u8 ((X / 10 % 10 : Nat) + 48 : Int), .int .u8 ((X % 10 : Nat) + 48 : Int)]) := hide (by unfold eRow expV; rw [if_neg (by omega), if_neg (by omega)])
  obtain ⟨LL, eLL⟩ : ∃ L, eRow ([.int .u8 (c 0)]) 43 X = L := ⟨_, rfl⟩
  rw [eLL] at hrow ⊢
  clear eLL
  obtain ⟨i, hi, hz0, hz1, hz2⟩ := info_parts info5
  have hd0 : w.cell? ⟨B, 0, none⟩ = some (.int .u8 (c 0)) := hd 0 (by omega)
  have HD := hide hd
  clear hd hz0 hz2
  have hlt : decide (dp - 1 < 0) = false := decide_eq_false (by omega)
  have hr1 : decide ((X : Int) < 10) = false := decide_eq_false (by omega)
  have hr2 : decide ((X : Int) < 100) = false := decide_eq_false (by omega)
  have hq0 : (X : Int) / 100 = ((X / 100 : Nat) : Int) := by simp
  have hq1 : (X : Int) / 10 = ((X / 10 : Nat) : Int) := by simp
  have hq2 : (X : Int) % 10 = ((X % 10 : Nat) : Int) := by simp
  have hb0 : X / 100 < 10 := by omega
  have hb1 : X / 10 < 40 := by omega
  have hb2 : X % 10 < 10 := by omega
  have hq5 : ((X / 10 : Nat) : Int) % 10 = ((X / 10 % 10 : Nat) : Int) := by simp
  have hb3 : X / 10 % 10 < 10 := by omega
  obtain ⟨o, eo⟩ : ∃ p, X / 100 = p := ⟨_, rfl⟩
  obtain ⟨p, ep⟩ : ∃ p, X / 10 = p := ⟨_, rfl⟩
  obtain ⟨q, eq⟩ : ∃ p, X % 10 = p := ⟨_, rfl⟩
  rw [eo] at hq0 hb0 hrow
  rw [ep] at hq1 hb1 hq5 hb3 hrow
  rw [eq] at hq2 hb2 hrow
  obtain ⟨s, es⟩ : ∃ s, p % 10 = s := ⟨_, rfl⟩
  rw [es] at hq5 hb3 hrow
  have hw0 : IntKind.u8.wrap (o : Int) = (o : Int) := by rw [IntKind.wrap_u8]; omega
  have hw1 : IntKind.u8.wrap (p : Int) = (p : Int) := by rw [IntKind.wrap_u8]; omega
  have hw2 : IntKind.u8.wrap (q : Int) = (q : Int) := by rw [IntKind.wrap_u8]; omega
  have hw3 : IntKind.u8.wrap ((o : Int) + 48) = (o : Int) + 48 := by rw [IntKind.wrap_u8]; omega
  have hw4 : IntKind.u8.wrap ((q : Int) + 48) = (q : Int) + 48 := by rw [IntKind.wrap_u8]; omega
  have hw5 : IntKind.u8.wrap ((s : Int) + 48) = (s : Int) + 48 := by rw [IntKind.wrap_u8]; omega
  clear eo ep eq es
  have hdp : -500 ≤ dp ∧ dp ≤ 500 := by omega
  clear hXb
  go_enter Tryz.func118, Tryz.ntmps118
  go_wp2_with (first
    | (at_builtin; refine wpList_append_fits _ rfl _ _ 65 rfl base 5 i 1 Tryz.underlying65 hi hz1 D (3) 24 ([.int .u8 (c 0)] ++ [.int .u8 101] ++ [.int .u8 43]) rfl (o5.alloc _) ⟨_, 0, none⟩ 3 3 ([.int .u8 ((o : Int) + 48), .int .u8 ((s : Int) + 48), .int .u8 ((q : Int) + 48)]) rfl rfl (cell_three_new _ _ _ _ _) (by simp [Value.oneCell']) (by omega) ?_; intro w6 o6 g6; have b6 : Below base w w6 := ((b5).alloc (by have := (b5).size; omega) _).grown g6 (by have := (b5).size; simp; omega) (fun k e => by cases e; exact hD))
    | (at_builtin; refine wpList_append_fits _ rfl _ _ 65 rfl base 5 i 1 Tryz.underlying65 hi hz1 D (2) 24 ([.int .u8 (c 0)] ++ [.int .u8 101]) rfl (o4.alloc _) ⟨_, 0, none⟩ 1 1 ([.int .u8 43]) rfl rfl (cell_one_new _ _ _) (by simp [Value.oneCell']) (by omega) ?_; intro w5 o5 g5; have b5 : Below base w w5 := ((b4).alloc (by have := (b4).size; omega) _).grown g5 (by have := (b4).size; simp; omega) (fun k e => by cases e; exact hD))
    | (at_builtin; refine wpList_append_fits _ rfl _ _ 65 rfl base 5 i 1 Tryz.underlying65 hi hz1 D (1) 24 ([.int .u8 (c 0)]) rfl (o1.alloc _) ⟨_, 0, none⟩ 1 1 ([.int .u8 101]) rfl rfl (cell_one_new _ _ _) (by simp [Value.oneCell']) (by omega) ?_; intro w4 o4 g4; have b4 : Below base w w4 := ((b1).alloc (by have := (b1).size; omega) _).grown g4 (by have := (b1).size; simp; omega) (fun k e => by cases e; exact hD))
    | (at_builtin; refine wpList_append_fits _ rfl _ _ 65 rfl base 5 i 1 Tryz.underlying65 hi hz1 D (0) 24 ([]) rfl (hown.alloc _) ⟨_, 0, none⟩ 1 1 ([.int .u8 (c 0)]) rfl rfl (cell_one_new _ _ _) (by simp [Value.oneCell']) (by omega) ?_; intro w1 o1 g1; have b1 : Below base w w1 := ((Below.refl base w).alloc (by omega) _).grown g1 (by simp; omega) (fun k e => by cases e; exact hD)))
  go_ret
  exact ⟨rfl, b6, by rw [hrow.out]; exact o6⟩
end Go.Proofs.YtbengmceiaejeaaGreatDoor
/- The digits with an exponent: any layout in one. -/
namespace Go.Proofs.YtbengmceiaejeaaGreatDoor
open Go.ChangeShapes Go.WideShapes Go.ChangeAt Go.RowKit

def preV (c : Nat → Int) (r : Nat) : List Value := if r = 0 then [.int .u8 (c 0)] else [.int .u8 (c 0)] ++ [.int .u8 46] ++ tailV c r

def sgV (E : Int) : Int := if E < 0 then 45 else 43

theorem efg_any (base D B r : Nat) (c : Nat → Int) (dp : Int) (w : World) (hb : base ≤ w.heap.size) (hBs : B < w.heap.size) (hne : B ≠ D) (hD : base ≤ D) (hown : w.ownsRow base 5 1 (.slice (some ⟨D, 0, none⟩) 0 24) 0 []) (hd : CellsAt w B c (r + 1)) (hr : r ≤ 16) (hdp : -390 ≤ dp ∧ dp ≤ 390) :
    Calls Tryz.prog 118 #[.slice (some ⟨D, 0, none⟩) 0 24, .bool false, .slice (some ⟨B, 0, none⟩) 32 32, .int .i64 dp, .int .i64 ((r + 1 : Nat) : Int), .int .i64 (r : Int), .int .u8 101, .bool true] w fun e w' => ∃ n, e = .returned (.slice (some ⟨D, 0, none⟩) n 24) ∧ n ≤ 24 ∧ Below base w w' ∧ w'.ownsRow base 5 1 (.slice (some ⟨D, 0, none⟩) n 24) n (eRow (preV c r) (sgV (dp - 1)) (dp - 1).natAbs) := by
  obtain ⟨X, eX⟩ : ∃ X, (dp - 1).natAbs = X := ⟨_, rfl⟩
  rw [eX]
  have wrap : ∀ {n : Nat} {e : Ending} {w' : World}, (e = .returned (.slice (some ⟨D, 0, none⟩) n 24) ∧ Below base w w' ∧ w'.ownsRow base 5 1 (.slice (some ⟨D, 0, none⟩) n 24) n (eRow (preV c r) (sgV (dp - 1)) X)) → n ≤ 24 → ∃ n, e = .returned (.slice (some ⟨D, 0, none⟩) n 24) ∧ n ≤ 24 ∧ Below base w w' ∧ w'.ownsRow base 5 1 (.slice (some ⟨D, 0, none⟩) n 24) n (eRow (preV c r) (sgV (dp - 1)) X) := fun h hn => ⟨_, h.1, hn, h.2.1, h.2.2⟩
  have hrange : X < 10 ∨ (10 ≤ X ∧ X < 100) ∨ (100 ≤ X ∧ X < 400) := by omega
  rcases Nat.eq_zero_or_pos r with h0 | h0
  · subst h0
    have hp : preV c 0 = [.int .u8 (c 0)] := by unfold preV; rw [if_pos rfl]
    rw [hp] at wrap ⊢
    by_cases hn : dp - 1 < 0
    · have hs : sgV (dp - 1) = 45 := by unfold sgV; rw [if_pos hn]
      rw [hs] at wrap ⊢
      rcases hrange with h | h | h
      · exact (efg_on0 base D B X c dp w hb hBs hne hD hown hd (by omega) (by omega) h).mono fun e w' h => wrap h (by omega)
      · exact (efg_on1 base D B X c dp w hb hBs hne hD hown hd (by omega) (by omega) h).mono fun e w' h => wrap h (by omega)
      · exact (efg_on2 base D B X c dp w hb hBs hne hD hown hd (by omega) (by omega) h).mono fun e w' h => wrap h (by omega)
    · have hs : sgV (dp - 1) = 43 := by unfold sgV; rw [if_neg hn]
      rw [hs] at wrap ⊢
      rcases hrange with h | h | h
      · exact (efg_op0 base D B X c dp w hb hBs hne hD hown hd (by omega) h).mono fun e w' h => wrap h (by omega)
      · exact (efg_op1 base D B X c dp w hb hBs hne hD hown hd (by omega) h).mono fun e w' h => wrap h (by omega)
      · exact (efg_op2 base D B X c dp w hb hBs hne hD hown hd (by omega) h).mono fun e w' h => wrap h (by omega)
  · have hp : preV c r = [.int .u8 (c 0)] ++ [.int .u8 46] ++ tailV c r := by unfold preV; rw [if_neg (by omega)]
    rw [hp] at wrap ⊢
    by_cases hn : dp - 1 < 0
    · have hs : sgV (dp - 1) = 45 := by unfold sgV; rw [if_pos hn]
      rw [hs] at wrap ⊢
      rcases hrange with h | h | h
      · exact (efg_mn0 base D B r X c dp w hb hBs hne hD hown hd ⟨h0, hr⟩ (by omega) (by omega) h).mono fun e w' h => wrap h (by omega)
      · exact (efg_mn1 base D B r X c dp w hb hBs hne hD hown hd ⟨h0, hr⟩ (by omega) (by omega) h).mono fun e w' h => wrap h (by omega)
      · exact (efg_mn2 base D B r X c dp w hb hBs hne hD hown hd ⟨h0, hr⟩ (by omega) (by omega) h).mono fun e w' h => wrap h (by omega)
    · have hs : sgV (dp - 1) = 43 := by unfold sgV; rw [if_neg hn]
      rw [hs] at wrap ⊢
      rcases hrange with h | h | h
      · exact (efg_mp0 base D B r X c dp w hb hBs hne hD hown hd ⟨h0, hr⟩ (by omega) h).mono fun e w' h => wrap h (by omega)
      · exact (efg_mp1 base D B r X c dp w hb hBs hne hD hown hd ⟨h0, hr⟩ (by omega) h).mono fun e w' h => wrap h (by omega)
      · exact (efg_mp2 base D B r X c dp w hb hBs hne hD hown hd ⟨h0, hr⟩ (by omega) h).mono fun e w' h => wrap h (by omega)
end Go.Proofs.YtbengmceiaejeaaGreatDoor
/- The library's ftoa64 of any number above 0. -/
namespace Go.Proofs.YtbengmceiaejeaaGreatDoor
open Go.ChangeShapes Go.WideShapes Go.ChangeAt Go.RowKit

theorem holdsN (w : World) (t : TypeId) (n : Nat) (hn : n ≤ 32) : Sort.Holds (fun (b : UInt8) => Value.int .u8 (b.toNat : Int)) (w.alloc (.cells (Array.replicate 32 (.int .u8 0)) t)) w.heap.size 0 (Array.replicate n 0) := by
  intro j hj
  simp at hj
  refine ⟨?_, ?_⟩
  · rw [World.cell?_alloc_new]
    rw [Array.getElem?_replicate, if_pos (by omega), getElem!_pos _ j (by simpa using hj)]
    simp
  · simp

theorem holdsN_kept {w w2 : World} {B n : Nat} (hB : B < w.heap.size) (H : Sort.Holds (fun (b : UInt8) => Value.int .u8 (b.toNat : Int)) w B 0 (Array.replicate n 0)) (b : Below w.heap.size w w2) : Sort.Holds (fun (b : UInt8) => Value.int .u8 (b.toNat : Int)) w2 B 0 (Array.replicate n 0) := by
  intro j hj
  have := H j hj
  exact ⟨(b.cell (p := ⟨B, 0 + j, none⟩) hB).trans this.1, (b.frozen (p := ⟨B, 0 + j, none⟩) hB).trans this.2⟩

set_option maxRecDepth 100000 in
set_option maxHeartbeats 8000000 in
theorem ftoa_norm (base D : Nat) (w : World) (R : RdyT w) (hb : base ≤ w.heap.size) (hD : base ≤ D) (hown : w.ownsRow base 5 1 (.slice (some ⟨D, 0, none⟩) 0 24) 0 []) (u m z b d n r : Nat) (E0 T dp : Int)
    (e f : Nat) (hu : u < 9223372036854775808) (hq1 : (u : Int) / 4503599627370496 = (e : Int)) (he : 1 ≤ e ∧ e ≤ 2046) (hq2 : bits .and .i64 (e : Int) 2047 = (e : Int)) (hq3 : bits .and .u64 (u : Int) 4503599627370495 = (f : Int)) (hq4 : bits .or .u64 (f : Int) 4503599627370496 = (m : Int)) (hE0 : (e : Int) + -1023 - (z : Int) - 52 = E0)
    (hm0 : 0 < m) (hm : m < 9007199254740992) (hz : 64 - (b : Int) = (z : Int)) (hzb : z ≤ 63) (X : Nat) (hsh : IntKind.u64.wrap ((m : Int) * 2 ^ z) = (X : Int))
    (L64 : ∀ w, Calls Tryz.prog 119 #[.int .u64 (m : Int)] w fun e w' => e = .returned (.int .i64 (b : Int)) ∧ w' = w)
    (SF : ∀ w, RdyT w → Calls Tryz.prog 128 #[.int .u64 (X : Int), .int .i64 E0] w fun e w' => e = .returned (.tuple #[.int .u64 (d : Int), .int .i64 T]) ∧ Below w.heap.size w w')
    (ND : ∀ w, RdyT w → Calls Tryz.prog 122 #[.int .u64 (d : Int)] w fun e w' => e = .returned (.int .i64 (n : Int)) ∧ w' = w)
    (SD : ∀ w B, Sort.Holds (fun (b : UInt8) => Value.int .u8 (b.toNat : Int)) w B 0 (Array.replicate n 0) → Calls Tryz.prog 121 #[.slice (some ⟨B, 0, none⟩) 32 32, .int .u64 (d : Int), .int .i64 T, .int .i64 (n : Int)] w fun e w' => e = .returned (.tuple #[.int .i64 dp, .int .i64 ((r + 1 : Nat) : Int)]) ∧ Below B w w' ∧ DigsN w' B d n)
    (hn : n ≤ 20) (hrn : r + 1 ≤ n) (hr : r ≤ 16) (hdp : -390 ≤ dp ∧ dp ≤ 390) :
    Calls Tryz.prog 89 #[.slice (some ⟨D, 0, none⟩) 0 24, .float .f64 u, .int .u8 101, .int .i64 (-1)] w fun e w' => ∃ k, e = .returned (.slice (some ⟨D, 0, none⟩) k 24) ∧ k ≤ 24 ∧ Below base w w' ∧ w'.ownsRow base 5 1 (.slice (some ⟨D, 0, none⟩) k 24) k (eRow (preV (fun j => ((dgN d (n - 1 - j) : Nat) : Int)) r) (sgV (dp - 1)) (dp - 1).natAbs) := by
  have q1 := x_fbits u
  have hmz : ((m : Int) == 0) = false := by simp; omega
  have hq5 : (u : Int) / 9223372036854775808 = 0 := by omega
  have he0 : ((e : Int) == 0) = false := by simp; omega
  have he1 : ((e : Int) == 2047) = false := by simp; omega
  have HRW := hide hrn
  have hI1 : ((r + 1 : Nat) : Int) - 1 = (r : Int) := by omega
  obtain ⟨rr, err⟩ : ∃ x, r + 1 = x := ⟨_, rfl⟩
  rw [err] at SD hI1
  have EF := fun (B : Nat) (w1 : World) (h1 : base ≤ w1.heap.size) (h2 : B < w1.heap.size) (h3 : B ≠ D) (h4 : w1.ownsRow base 5 1 (.slice (some ⟨D, 0, none⟩) 0 24) 0 []) (h5 : CellsAt w1 B (fun j => ((dgN d (n - 1 - j) : Nat) : Int)) (r + 1)) => efg_any base D B r (fun j => ((dgN d (n - 1 - j) : Nat) : Int)) dp w1 h1 h2 h3 hD h4 h5 hr hdp
  rw [err] at EF
  obtain ⟨ROW, eROW⟩ : ∃ x, eRow (preV (fun j => ((dgN d (n - 1 - j) : Nat) : Int)) r) (sgV (dp - 1)) (dp - 1).natAbs = x := ⟨_, rfl⟩
  rw [eROW] at EF ⊢
  have HER := hide err
  clear err eROW hrn
  go_enter Tryz.func89, Tryz.ntmps89
  go_wp2
  go_quiet (fail)
  go_wp2_with (first
    | (go_at_call 119; refine (L64 _).mono ?_; rintro e w' ⟨rfl, rfl⟩)
    | (go_at_call 128; refine (SF _ (R.below ((below_drewN w.heap.size w _).alloc (Nat.le_refl _) _))).mono ?_; rintro e w2 ⟨rfl, b2⟩))
  have W1 : Below w.heap.size w w2 := ((below_drewN w.heap.size w nq).alloc (Nat.le_refl _) _).trans (b2.mono (by simp))
  have R2 : RdyT w2 := R.below W1
  have sz2 : w.heap.size < w2.heap.size := by have := b2.size; simp at this; omega
  have HB := hide (holdsN_kept (B := w.heap.size) (by simp) (holdsN (w.drewN nq) _ n (by omega)) b2)
  clear b2 SF L64
  have HW := hide W1
  have HR2 := hide R2
  clear W1 R2
  go_region_with (first
    | (go_at_call 122; refine (ND _ (by exact HR2.out.below (below_drewN _ _ 1))).mono ?_; rintro e w' ⟨rfl, rfl⟩)
    | (go_at_call 121; refine (SD _ _ (by exact HB.out)).mono ?_; rintro e w3 ⟨rfl, b3, d3⟩))
  have b4 : Below w.heap.size w w3 := HW.out.drew.trans b3
  have sz3 : w.heap.size < w3.heap.size := by have h := b3.size; have h' : w2.drew.heap.size = w2.heap.size := rfl; omega
  have o3 := own_kept hown b4
  have hDs : D < w.heap.size := (hown.lt D rfl).2
  have H4 := hide b4
  have O3 := hide o3
  have D3 := hide d3
  clear b3 d3 o3 b4 HW HB
  go_wp2_with (go_at_call 118; refine (EF _ _ (by omega) sz3 (by omega) O3.out (fun j hj => D3.out j (by have := HRW.out; have := HER.out; omega))).mono ?_; rintro e w5 ⟨k, rfl, hk, b5, o5⟩)
  go_ret
  exact ⟨k, rfl, hk, (H4.out.mono hb).trans b5, o5⟩

set_option maxRecDepth 100000 in
set_option maxHeartbeats 8000000 in
theorem ftoa_sub (base D : Nat) (w : World) (R : RdyT w) (hb : base ≤ w.heap.size) (hD : base ≤ D) (hown : w.ownsRow base 5 1 (.slice (some ⟨D, 0, none⟩) 0 24) 0 []) (u m z b d n r : Nat) (E0 T dp : Int)
    (hum : u = m) (hm52 : m < 4503599627370496) (hq1 : (m : Int) / 4503599627370496 = 0) (hq3 : bits .and .u64 (m : Int) 4503599627370495 = (m : Int)) (hE0 : -1022 - (z : Int) - 52 = E0)
    (hm0 : 0 < m) (hm : m < 9007199254740992) (hz : 64 - (b : Int) = (z : Int)) (hzb : z ≤ 63) (X : Nat) (hsh : IntKind.u64.wrap ((m : Int) * 2 ^ z) = (X : Int))
    (L64 : ∀ w, Calls Tryz.prog 119 #[.int .u64 (m : Int)] w fun e w' => e = .returned (.int .i64 (b : Int)) ∧ w' = w)
    (SF : ∀ w, RdyT w → Calls Tryz.prog 128 #[.int .u64 (X : Int), .int .i64 E0] w fun e w' => e = .returned (.tuple #[.int .u64 (d : Int), .int .i64 T]) ∧ Below w.heap.size w w')
    (ND : ∀ w, RdyT w → Calls Tryz.prog 122 #[.int .u64 (d : Int)] w fun e w' => e = .returned (.int .i64 (n : Int)) ∧ w' = w)
    (SD : ∀ w B, Sort.Holds (fun (b : UInt8) => Value.int .u8 (b.toNat : Int)) w B 0 (Array.replicate n 0) → Calls Tryz.prog 121 #[.slice (some ⟨B, 0, none⟩) 32 32, .int .u64 (d : Int), .int .i64 T, .int .i64 (n : Int)] w fun e w' => e = .returned (.tuple #[.int .i64 dp, .int .i64 ((r + 1 : Nat) : Int)]) ∧ Below B w w' ∧ DigsN w' B d n)
    (hn : n ≤ 20) (hrn : r + 1 ≤ n) (hr : r ≤ 16) (hdp : -390 ≤ dp ∧ dp ≤ 390) :
    Calls Tryz.prog 89 #[.slice (some ⟨D, 0, none⟩) 0 24, .float .f64 u, .int .u8 101, .int .i64 (-1)] w fun e w' => ∃ k, e = .returned (.slice (some ⟨D, 0, none⟩) k 24) ∧ k ≤ 24 ∧ Below base w w' ∧ w'.ownsRow base 5 1 (.slice (some ⟨D, 0, none⟩) k 24) k (eRow (preV (fun j => ((dgN d (n - 1 - j) : Nat) : Int)) r) (sgV (dp - 1)) (dp - 1).natAbs) := by
  have q1 := x_fbits u
  have hmz : ((m : Int) == 0) = false := by simp; omega
  subst hum
  have hq5 : (u : Int) / 9223372036854775808 = 0 := by omega
  have hq2 : bits .and .i64 0 2047 = 0 := by decide
  have HRW := hide hrn
  have hI1 : ((r + 1 : Nat) : Int) - 1 = (r : Int) := by omega
  obtain ⟨rr, err⟩ : ∃ x, r + 1 = x := ⟨_, rfl⟩
  rw [err] at SD hI1
  have EF := fun (B : Nat) (w1 : World) (h1 : base ≤ w1.heap.size) (h2 : B < w1.heap.size) (h3 : B ≠ D) (h4 : w1.ownsRow base 5 1 (.slice (some ⟨D, 0, none⟩) 0 24) 0 []) (h5 : CellsAt w1 B (fun j => ((dgN d (n - 1 - j) : Nat) : Int)) (r + 1)) => efg_any base D B r (fun j => ((dgN d (n - 1 - j) : Nat) : Int)) dp w1 h1 h2 h3 hD h4 h5 hr hdp
  rw [err] at EF
  obtain ⟨ROW, eROW⟩ : ∃ x, eRow (preV (fun j => ((dgN d (n - 1 - j) : Nat) : Int)) r) (sgV (dp - 1)) (dp - 1).natAbs = x := ⟨_, rfl⟩
  rw [eROW] at EF ⊢
  have HER := hide err
  clear err eROW hrn
  go_enter Tryz.func89, Tryz.ntmps89
  go_wp2
  go_quiet (fail)
  go_wp2_with (first
    | (go_at_call 119; refine (L64 _).mono ?_; rintro e w' ⟨rfl, rfl⟩)
    | (go_at_call 128; refine (SF _ (R.below ((below_drewN w.heap.size w _).alloc (Nat.le_refl _) _))).mono ?_; rintro e w2 ⟨rfl, b2⟩))
  have W1 : Below w.heap.size w w2 := ((below_drewN w.heap.size w nq).alloc (Nat.le_refl _) _).trans (b2.mono (by simp))
  have R2 : RdyT w2 := R.below W1
  have sz2 : w.heap.size < w2.heap.size := by have := b2.size; simp at this; omega
  have HB := hide (holdsN_kept (B := w.heap.size) (by simp) (holdsN (w.drewN nq) _ n (by omega)) b2)
  clear b2 SF L64
  have HW := hide W1
  have HR2 := hide R2
  clear W1 R2
  go_region_with (first
    | (go_at_call 122; refine (ND _ (by exact HR2.out.below (below_drewN _ _ 1))).mono ?_; rintro e w' ⟨rfl, rfl⟩)
    | (go_at_call 121; refine (SD _ _ (by exact HB.out)).mono ?_; rintro e w3 ⟨rfl, b3, d3⟩))
  have b4 : Below w.heap.size w w3 := HW.out.drew.trans b3
  have sz3 : w.heap.size < w3.heap.size := by have h := b3.size; have h' : w2.drew.heap.size = w2.heap.size := rfl; omega
  have o3 := own_kept hown b4
  have hDs : D < w.heap.size := (hown.lt D rfl).2
  have H4 := hide b4
  have O3 := hide o3
  have D3 := hide d3
  clear b3 d3 o3 b4 HW HB
  go_wp2_with (go_at_call 118; refine (EF _ _ (by omega) sz3 (by omega) O3.out (fun j hj => D3.out j (by have := HRW.out; have := HER.out; omega))).mono ?_; rintro e w5 ⟨k, rfl, hk, b5, o5⟩)
  go_ret
  exact ⟨k, rfl, hk, (H4.out.mono hb).trans b5, o5⟩
end Go.Proofs.YtbengmceiaejeaaGreatDoor
/- Digits with an exponent, as bytes: cut at the letter, the exponent read, the point taken out. -/
namespace Go.Proofs.YtbengmceiaejeaaGreatDoor
open Go.ChangeShapes Go.WideShapes Go.ChangeAt Go.RowKit

def dB (d j : Nat) : UInt8 := UInt8.ofNat (dgN d j)

theorem dgN_lt (d j : Nat) : 48 ≤ dgN d j ∧ dgN d j < 58 := by
  have : d / 10 ^ j % 10 < 10 := Nat.mod_lt _ (by decide)
  unfold dgN
  omega

theorem ofNat_toNat {k : Nat} (h : k < 256) : (UInt8.ofNat k).toNat = k := by rw [UInt8.toNat_ofNat']; omega

theorem dB_nat (d j : Nat) : (dB d j).toNat = dgN d j := ofNat_toNat (by have := dgN_lt d j; omega)

/-- The first r + 1 of n digits. -/
def digsB (d n r : Nat) : List UInt8 := (List.range (r + 1)).map fun j => dB d (n - 1 - j)
def tailB (d n r : Nat) : List UInt8 := (List.range r).map fun j => dB d (n - 1 - (j + 1))
def preB (d n r : Nat) : List UInt8 := if r = 0 then [dB d (n - 1)] else [dB d (n - 1)] ++ [46] ++ tailB d n r
def expB (X : Nat) : List UInt8 :=
  if X < 10 then [48, UInt8.ofNat (X + 48)]
  else if X < 100 then [UInt8.ofNat (X / 10 + 48), UInt8.ofNat (X % 10 + 48)]
  else [UInt8.ofNat (X / 100 + 48), UInt8.ofNat (X / 10 % 10 + 48), UInt8.ofNat (X % 10 + 48)]
def sgB (E : Int) : UInt8 := if E < 0 then 45 else 43
def eB (d n r : Nat) (E : Int) : List UInt8 := preB d n r ++ [101] ++ [sgB E] ++ expB E.natAbs

def asV (l : List UInt8) : List Value := l.map fun b => .int .u8 ((b.toNat : Nat) : Int)

theorem digsB_cons (d n r : Nat) : digsB d n r = dB d (n - 1) :: tailB d n r := by
  unfold digsB tailB
  rw [List.range_succ_eq_map, List.map_cons, List.map_map]
  rfl

theorem asV_tail (d n r : Nat) : asV (tailB d n r) = tailV (fun j => ((dgN d (n - 1 - j) : Nat) : Int)) r := by
  unfold asV tailB tailV
  rw [List.map_map]
  refine List.map_congr_left fun j _ => ?_
  simp only [Function.comp, dB_nat]

theorem asV_pre (d n r : Nat) : asV (preB d n r) = preV (fun j => ((dgN d (n - 1 - j) : Nat) : Int)) r := by
  unfold preB preV
  split
  · simp [asV, dB_nat]
  · rw [← asV_tail]
    simp [asV, dB_nat]

theorem asV_exp {X : Nat} (hX : X < 400) : asV (expB X) = expV X := by
  unfold expB expV
  split
  · simp [asV]; omega
  · split
    · simp [asV]; omega
    · simp [asV]; omega

theorem asV_e (d n r : Nat) {E : Int} (hE : E.natAbs < 400) : asV (eB d n r E) = eRow (preV (fun j => ((dgN d (n - 1 - j) : Nat) : Int)) r) (sgV E) E.natAbs := by
  have h1 := asV_pre d n r
  have h2 := asV_exp hE
  have h3 : asV [sgB E] = [.int .u8 (sgV E)] := by
    unfold sgB sgV
    split <;> rfl
  unfold eB eRow
  have app : ∀ a b, asV (a ++ b) = asV a ++ asV b := fun a b => List.map_append
  rw [app, app, app, h1, h2, h3]
  rfl

/-- Where a byte stands that is not ahead. -/
theorem index_app (c : UInt8) : ∀ (a b : List UInt8), c ∉ a → Lib.index (a ++ c :: b) [c] = (a.length : Int)
  | [], b, _ => by simp [Lib.index]
  | x :: a, b, h => by
    have hx : x ≠ c := fun e => h (by simp [e])
    have ha : c ∉ a := fun e => h (by simp [e])
    have ih := index_app c a b ha
    rw [List.cons_append, Lib.index, ih]
    have : ([c].isPrefixOf (x :: (a ++ c :: b))) = false := by simp [List.isPrefixOf]; exact fun e => hx e.symm
    rw [this]
    have h2 : ((a.length : Int) == -1) = false := by simp
    simp only [h2, Bool.false_eq_true, if_false, List.length_cons]
    omega

theorem dB_ne (d j : Nat) {c : UInt8} (hc : c.toNat < 48 ∨ 58 ≤ c.toNat) : c ≠ dB d j := by
  intro e
  have h1 := dgN_lt d j
  rw [e, dB_nat] at hc
  omega

theorem tail_no (d n r : Nat) {c : UInt8} (hc : c.toNat < 48 ∨ 58 ≤ c.toNat) : c ∉ tailB d n r := by
  unfold tailB
  intro h
  obtain ⟨j, _, e⟩ := List.mem_map.1 h
  exact dB_ne d _ hc e.symm

theorem pre_no (d n r : Nat) : (101 : UInt8) ∉ preB d n r := by
  have h1 : (101 : UInt8) ≠ dB d (n - 1) := dB_ne d _ (by decide)
  have h2 : (101 : UInt8) ∉ tailB d n r := tail_no d n r (by decide)
  unfold preB
  split
  · simpa using h1
  · simp only [List.mem_append, List.mem_singleton, not_or]
    exact ⟨⟨h1, by decide⟩, h2⟩

theorem cut_e (d n r : Nat) (E : Int) : Lib.cut (eB d n r E) [101] = (preB d n r, sgB E :: expB E.natAbs, true) := by
  have e : eB d n r E = preB d n r ++ 101 :: (sgB E :: expB E.natAbs) := by unfold eB; simp
  have h := index_app 101 (preB d n r) (sgB E :: expB E.natAbs) (pre_no d n r)
  unfold Lib.cut
  rw [e, h, if_pos (by omega)]
  simp

theorem dec_two (a b : Nat) (ha : a < 10) (hb : b < 10) : Lib.decNat [UInt8.ofNat (a + 48), UInt8.ofNat (b + 48)] = some (a * 10 + b) := by
  have h1 : Lib.digitVal (UInt8.ofNat (a + 48)) = some a := by unfold Lib.digitVal; rw [ofNat_toNat (by omega), if_pos (by omega)]; simp
  have h2 : Lib.digitVal (UInt8.ofNat (b + 48)) = some b := by unfold Lib.digitVal; rw [ofNat_toNat (by omega), if_pos (by omega)]; simp
  generalize UInt8.ofNat (a + 48) = x at h1 ⊢
  generalize UInt8.ofNat (b + 48) = y at h2 ⊢
  simp [Lib.decNat, Lib.decFrom, h1, h2]

theorem dec_three (a b c : Nat) (ha : a < 10) (hb : b < 10) (hc : c < 10) : Lib.decNat [UInt8.ofNat (a + 48), UInt8.ofNat (b + 48), UInt8.ofNat (c + 48)] = some ((a * 10 + b) * 10 + c) := by
  have h1 : Lib.digitVal (UInt8.ofNat (a + 48)) = some a := by unfold Lib.digitVal; rw [ofNat_toNat (by omega), if_pos (by omega)]; simp
  have h2 : Lib.digitVal (UInt8.ofNat (b + 48)) = some b := by unfold Lib.digitVal; rw [ofNat_toNat (by omega), if_pos (by omega)]; simp
  have h3 : Lib.digitVal (UInt8.ofNat (c + 48)) = some c := by unfold Lib.digitVal; rw [ofNat_toNat (by omega), if_pos (by omega)]; simp
  generalize UInt8.ofNat (a + 48) = x at h1 ⊢
  generalize UInt8.ofNat (b + 48) = y at h2 ⊢
  generalize UInt8.ofNat (c + 48) = z at h3 ⊢
  simp [Lib.decNat, Lib.decFrom, h1, h2, h3]

theorem dec_exp {X : Nat} (hX : X < 400) : Lib.decNat (expB X) = some X := by
  unfold expB
  split
  · have := dec_two 0 X (by omega) (by omega)
    simpa using this
  · split
    · rw [dec_two _ _ (by omega) (by omega)]
      congr 1
      omega
    · rw [dec_three _ _ _ (by omega) (by omega) (by omega)]
      congr 1
      omega

theorem atoi_exp {E : Int} (hE : E.natAbs < 400) : Lib.atoi (sgB E :: expB E.natAbs) = some E := by
  have hd := dec_exp hE
  by_cases h : E < 0
  · have e : sgB E = 45 := by unfold sgB; rw [if_pos h]
    rw [e]
    show (Lib.decNat (expB E.natAbs)).map (fun (m : Nat) => -(m : Int)) = some E
    rw [hd, Option.map_some]
    congr 1
    omega
  · have e : sgB E = 43 := by unfold sgB; rw [if_neg h]
    rw [e]
    show (Lib.decNat (expB E.natAbs)).map (fun (m : Nat) => (m : Int)) = some E
    rw [hd, Option.map_some]
    congr 1
    omega

theorem exp_size {X : Nat} : (expB X).length ≤ 3 := by
  unfold expB
  split
  · simp
  · split <;> simp

theorem count_no {s : List UInt8} (h : (46 : UInt8) ∉ s) : Lib.index s [46] = -1 := by
  refine Lib.index_none fun j hj => ?_
  unfold Lib.occAt
  rw [Bool.eq_false_iff]
  intro hp
  obtain ⟨t, ht⟩ := List.isPrefixOf_iff_prefix.1 hp
  apply h
  have : (46 : UInt8) ∈ s.drop j := by rw [← ht]; simp
  exact List.mem_of_mem_drop this

theorem replace_pre (d n r : Nat) : Lib.replace (preB d n r) [46] [] 1 = digsB d n r := by
  have hne : (([46] : List UInt8) == []) = false := by decide
  have h0 : (46 : UInt8) ≠ dB d (n - 1) := dB_ne d _ (by decide)
  have ht : (46 : UInt8) ∉ tailB d n r := tail_no d n r (by decide)
  unfold Lib.replace
  rw [hne]
  simp only [Bool.false_eq_true, if_false]
  rw [digsB_cons]
  unfold preB
  by_cases hr : r = 0
  · subst hr
    rw [if_pos rfl]
    have hi : Lib.index [dB d (n - 1)] [46] = -1 := count_no (by simpa using h0)
    have hc : Lib.count [dB d (n - 1)] [46] = 0 := by
      unfold Lib.count Lib.countFrom
      rw [hi]; rfl
    unfold Lib.replaceNum
    rw [hc]
    simp [Lib.replaceK, tailB]
  · rw [if_neg hr]
    have e : [dB d (n - 1)] ++ [46] ++ tailB d n r = [dB d (n - 1)] ++ 46 :: tailB d n r := by simp
    rw [e]
    have hi : Lib.index ([dB d (n - 1)] ++ 46 :: tailB d n r) [46] = ((1 : Nat) : Int) := index_app 46 [dB d (n - 1)] (tailB d n r) (by simpa using h0)
    have hcp : 1 ≤ Lib.count ([dB d (n - 1)] ++ 46 :: tailB d n r) [46] := by
      unfold Lib.count Lib.countFrom
      rw [hi]
      simp
    have hrn : Lib.replaceNum ([dB d (n - 1)] ++ 46 :: tailB d n r) [46] 1 = 1 := by
      unfold Lib.replaceNum
      split
      · rename_i h
        omega
      · rfl
    rw [hrn, Lib.replaceK_hit [46] [] 0 _ 1 hi]
    simp [Lib.replaceK]
end Go.Proofs.YtbengmceiaejeaaGreatDoor
/- The library's text of any number above 0, with an exponent. -/
namespace Go.Proofs.YtbengmceiaejeaaGreatDoor
open Go.ChangeShapes Go.WideShapes Go.ChangeAt Go.RowKit

/-- How far a number is moved so that its first digit stands at the top. -/
def zOf (m : Nat) : Nat := 64 - Lib.bitLen m

theorem z_facts {m : Nat} (hm0 : 0 < m) (hm : m < 9007199254740992) : 11 ≤ zOf m ∧ zOf m < 64 ∧ 9223372036854775808 ≤ m * 2 ^ zOf m ∧ m * 2 ^ zOf m < 18446744073709551616 ∧ (4503599627370496 ≤ m → zOf m = 11) ∧ (m < 4503599627370496 → 12 ≤ zOf m) ∧ Lib.bitLen m ≤ 53 ∧ (4 * m + 2) * 2 ^ (zOf m - 2) < 18446744073709551616 := by
  obtain ⟨b1, b2, b3⟩ := Lib.bitLenAux_bounds 64 m (by omega) (by omega)
  have e : Lib.bitLenAux 64 m = Lib.bitLen m := rfl
  rw [e] at b1 b2 b3
  have hb53 : Lib.bitLen m ≤ 53 := by
    rcases Nat.lt_or_ge 53 (Lib.bitLen m) with h | h
    · have : 2 ^ 53 ≤ 2 ^ (Lib.bitLen m - 1) := Nat.pow_le_pow_right (by decide) (by omega)
      omega
    · exact h
  unfold zOf
  obtain ⟨b, eb⟩ : ∃ b, Lib.bitLen m = b := ⟨_, rfl⟩
  rw [eb] at b1 b2 b3 hb53 ⊢
  have p1 : 2 ^ (b - 1) * 2 ^ (64 - b) = 2 ^ 63 := by rw [← Nat.pow_add]; congr 1; omega
  have p2 : 2 ^ b * 2 ^ (64 - b) = 2 ^ 64 := by rw [← Nat.pow_add]; congr 1; omega
  have q1 := Nat.mul_le_mul_right (2 ^ (64 - b)) b2
  have q2 := Nat.mul_le_mul_right (2 ^ (64 - b)) (show m + 1 ≤ 2 ^ b from b3)
  rw [p1] at q1
  rw [p2, Nat.add_mul, Nat.one_mul] at q2
  have hT : 0 < 2 ^ (64 - b) := Nat.two_pow_pos _
  have h4 : 2 ^ (64 - b) = 4 * 2 ^ (64 - b - 2) := by
    rw [show (4 : Nat) = 2 ^ 2 from rfl, ← Nat.pow_add]
    congr 1
    omega
  refine ⟨by omega, by omega, by omega, by omega, ?_, ?_, hb53, ?_⟩
  · intro h
    have : ¬ b ≤ 52 := fun hb => by
      have : 2 ^ b ≤ 2 ^ 52 := Nat.pow_le_pow_right (by decide) hb
      omega
    omega
  · intro h
    have : ¬ 53 ≤ b := fun hb => by
      have : 2 ^ 52 ≤ 2 ^ (b - 1) := Nat.pow_le_pow_right (by decide) (by omega)
      omega
    omega
  · rw [h4] at q2 hT
    obtain ⟨T, eT⟩ : ∃ T, 2 ^ (64 - b - 2) = T := ⟨_, rfl⟩
    rw [eT] at q2 hT ⊢
    have e1 : (4 * m + 2) * T = 4 * (m * T) + 2 * T := by rw [Nat.add_mul, Nat.mul_assoc]
    have e2 : m * (4 * T) = 4 * (m * T) := Nat.mul_left_comm _ _ _
    rw [e1]
    rw [e2] at q2
    omega

theorem short_bound {m Q : Nat} (hm0 : 0 < m) (hm : m < 9007199254740992) (hQ : Q ≤ 2045) (hsub : Q = 0 ∨ 4503599627370496 ≤ m) :
    inI m Q (aOf m Q) (mOf m Q) (shortG m Q (zOf m)) = true ∧ 1 ≤ shortD m Q (zOf m) ∧ shortD m Q (zOf m) < 100000000000000000 ∧ (shortT m Q (zOf m) = unitK m Q ∨ shortT m Q (zOf m) = unitK m Q + 1) := by
  obtain ⟨z1, z2, z3, z4, z5, z6, z7, hx⟩ := z_facts hm0 hm
  have hM : 0 < mOf m Q := den_pos _ _
  have hA : 0 < aOf m Q := num_pos _ _
  have hl := low_cases m Q hm0
  have hY : 4 * m + 2 < Ymax := by unfold Ymax; omega
  have p2 : ∀ y, y ≤ 4 * m + 2 → y * 2 ^ (zOf m - 2) < 18446744073709551616 := fun y hy => Nat.lt_of_le_of_lt (Nat.mul_le_mul_right _ hy) hx
  have u0 := us_of (m := m) hQ z1 (y := lowY m Q) (by omega) (by omega) (p2 _ (by omega))
  have u1 := us_of (m := m) hQ z1 (y := 4 * m + 2) (by omega) hY hx
  have u2 := us_of (m := m) hQ z1 (y := 4 * m) (by omega) (by omega) (p2 _ (by omega))
  have sp := span_of hm0 hQ hsub
  have hI := inI_between (m := m) (Q := Q) hM hA hm0
  have hr := rnd_upper hM sp.val sp.rho
  have e : shortG m Q (zOf m) = goRes (dMin m (unr (lowY m Q * aOf m Q) (mOf m Q))) (dMax m (unr ((4 * m + 2) * aOf m Q) (mOf m Q))) (if upper (mOf m Q) (4 * (m * aOf m Q % mOf m Q)) (m * aOf m Q / mOf m Q) then m * aOf m Q / mOf m Q + 1 else m * aOf m Q / mOf m Q) := by
    show goRes (dMin m (usF (lowY m Q * 2 ^ (zOf m - 2)) (rowOf (unitK m Q)).1 (rowOf (unitK m Q)).2 (shiftN m Q (zOf m)))) (dMax m (usF ((4 * m + 2) * 2 ^ (zOf m - 2)) (rowOf (unitK m Q)).1 (rowOf (unitK m Q)).2 (shiftN m Q (zOf m)))) (rnd4 (usF (4 * m * 2 ^ (zOf m - 2)) (rowOf (unitK m Q)).1 (rowOf (unitK m Q)).2 (shiftN m Q (zOf m)))) = _
    rw [u0, u1, u2, hr]
  have hin := sp.res_in hI
  rw [← e] at hin
  have hpos := sp.pos hin
  have hle := sp.inU _ hin
  have hw := wid_cases (m := m) hQ
  have hlt : shortG m Q (zOf m) < 100000000000000000 := by
    obtain ⟨A, eA⟩ : ∃ A, aOf m Q = A := ⟨_, rfl⟩
    obtain ⟨M, eM⟩ : ∃ M, mOf m Q = M := ⟨_, rfl⟩
    obtain ⟨g, eg⟩ : ∃ g, shortG m Q (zOf m) = g := ⟨_, rfl⟩
    rw [eA, eM] at hw hle
    rw [eg] at hle ⊢
    rw [eM] at hM
    rcases Nat.lt_or_ge g 100000000000000000 with h | h
    · exact h
    · exfalso
      have h1 := Nat.mul_le_mul_left (4 * M) h
      rcases hw with ⟨hm2, _, _, h4⟩ | ⟨_, _, h4⟩
      · have h5 : (4 * m + 2) * A = 18014398509481986 * A := by rw [hm2]
        omega
      · have h5 := Nat.mul_le_mul_right A (show 4 * m + 2 ≤ 36028797018963970 by omega)
        omega
  refine ⟨hin, ?_⟩
  rcases shortD_units m Q (zOf m) with ⟨h1, h2⟩ | ⟨h1, h2⟩
  · exact ⟨by omega, by omega, Or.inl h1⟩
  · exact ⟨by omega, by omega, Or.inr h1⟩

theorem unit_bound {m Q : Nat} (hQ : Q ≤ 2045) : -340 ≤ unitK m Q ∧ unitK m Q ≤ 340 := by
  unfold unitK
  split
  · unfold skw; omega
  · unfold l10; omega

theorem strip_at {d i g : Nat} (e : d = g * 10 ^ i) (hg : g % 10 ≠ 0) : (∀ t, t < i → d / 10 ^ t % 10 = 0) ∧ d / 10 ^ i % 10 ≠ 0 := by
  subst e
  constructor
  · intro t ht
    have h1 : 10 ^ i = 10 ^ (i - t - 1) * 10 * 10 ^ t := by
      rw [← Nat.pow_succ, ← Nat.pow_add]
      congr 1
      omega
    rw [h1, ← Nat.mul_assoc, Nat.mul_div_cancel _ (Nat.pow_pos (by decide)), ← Nat.mul_assoc]
    exact Nat.mul_mod_left _ _
  · rw [Nat.mul_div_cancel _ (Nat.pow_pos (by decide))]
    exact hg

/-- The number of digits without the noughts behind them. -/
theorem nd_strip {g i : Nat} (hg : 0 < g) : Lib.nDigits (g * 10 ^ i) = Lib.nDigits g + i := by
  induction i with
  | zero => simp
  | succ i ih =>
    rw [Nat.pow_succ, ← Nat.mul_assoc, Lib.nDigits]
    have h10 : 0 < g * 10 ^ i := Nat.mul_pos hg (Nat.pow_pos (by decide))
    rw [dif_neg (by omega), Nat.mul_div_cancel _ (by decide), ih]
    omega
end Go.Proofs.YtbengmceiaejeaaGreatDoor
