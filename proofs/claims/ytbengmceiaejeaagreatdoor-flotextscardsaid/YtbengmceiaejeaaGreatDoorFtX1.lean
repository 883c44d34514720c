/- The library's ftoa64 of any number above 0. -/
import Derived.Test.YtbengmceiaejeaaGreatDoorFtW9
namespace Go.Proofs.YtbengmceiaejeaaGreatDoor
open Go.ChangeShapes Go.WideShapes Go.ChangeAt Go.RowKit

theorem holdsN (w : World) (t : TypeId) (n : Nat) (hn : n ≤ 32) : Sort.Holds (fun (b : UInt8) => Value.int .u8 (b.toNat : Int)) (w.alloc (.cells (Array.replicate 32 (.int .u8 0)) t)) w.heap.size 0 (Array.replicate n 0) := by
  intro j hj
  simp at hj
  refine ⟨?_, ?_⟩
  · rw [World.cell?_alloc_new]
    rw [Array.getElem?_replicate, if_pos (by omega), getElem!_pos _ j (by simpa using hj)]
    simp
  · simp

theorem holdsN_kept {w w2 : World} {B n : Nat} (hB : B < w.heap.size) (H : Sort.Holds (fun (b : UInt8) => Value.int .u8 (b.toNat : Int)) w B 0 (Array.replicate n 0)) (b : Below w.heap.size w w2) : Sort.Holds (fun (b : UInt8) => Value.int .u8 (b.toNat : Int)) w2 B 0 (Array.replicate n 0) := by
  intro j hj
  have := H j hj
  exact ⟨(b.cell (p := ⟨B, 0 + j, none⟩) hB).trans this.1, (b.frozen (p := ⟨B, 0 + j, none⟩) hB).trans this.2⟩

set_option maxRecDepth 100000 in
set_option maxHeartbeats 8000000 in
theorem ftoa_norm (base D : Nat) (w : World) (R : RdyT w) (hb : base ≤ w.heap.size) (hD : base ≤ D) (hown : w.ownsRow base 5 1 (.slice (some ⟨D, 0, none⟩) 0 24) 0 []) (u m z b d n r : Nat) (E0 T dp : Int)
    (e f : Nat) (hu : u < 9223372036854775808) (hq1 : (u : Int) / 4503599627370496 = (e : Int)) (he : 1 ≤ e ∧ e ≤ 2046) (hq2 : bits .and .i64 (e : Int) 2047 = (e : Int)) (hq3 : bits .and .u64 (u : Int) 4503599627370495 = (f : Int)) (hq4 : bits .or .u64 (f : Int) 4503599627370496 = (m : Int)) (hE0 : (e : Int) + -1023 - (z : Int) - 52 = E0)
    (hm0 : 0 < m) (hm : m < 9007199254740992) (hz : 64 - (b : Int) = (z : Int)) (hzb : z ≤ 63) (X : Nat) (hsh : IntKind.u64.wrap ((m : Int) * 2 ^ z) = (X : Int))
    (L64 : ∀ w, Calls Tryz.prog 119 #[.int .u64 (m : Int)] w fun e w' => e = .returned (.int .i64 (b : Int)) ∧ w' = w)
    (SF : ∀ w, RdyT w → Calls Tryz.prog 128 #[.int .u64 (X : Int), .int .i64 E0] w fun e w' => e = .returned (.tuple #[.int .u64 (d : Int), .int .i64 T]) ∧ Below w.heap.size w w')
    (ND : ∀ w, RdyT w → Calls Tryz.prog 122 #[.int .u64 (d : Int)] w fun e w' => e = .returned (.int .i64 (n : Int)) ∧ w' = w)
    (SD : ∀ w B, Sort.Holds (fun (b : UInt8) => Value.int .u8 (b.toNat : Int)) w B 0 (Array.replicate n 0) → Calls Tryz.prog 121 #[.slice (some ⟨B, 0, none⟩) 32 32, .int .u64 (d : Int), .int .i64 T, .int .i64 (n : Int)] w fun e w' => e = .returned (.tuple #[.int .i64 dp, .int .i64 ((r + 1 : Nat) : Int)]) ∧ Below B w w' ∧ DigsN w' B d n)
    (hn : n ≤ 20) (hrn : r + 1 ≤ n) (hr : r ≤ 16) (hdp : -390 ≤ dp ∧ dp ≤ 390) :
    Calls Tryz.prog 89 #[.slice (some ⟨D, 0, none⟩) 0 24, .float .f64 u, .int .u8 101, .int .i64 (-1)] w fun e w' => ∃ k, e = .returned (.slice (some ⟨D, 0, none⟩) k 24) ∧ k ≤ 24 ∧ Below base w w' ∧ w'.ownsRow base 5 1 (.slice (some ⟨D, 0, none⟩) k 24) k (eRow (preV (fun j => ((dgN d (n - 1 - j) : Nat) : Int)) r) (sgV (dp - 1)) (dp - 1).natAbs) := by
  have q1 := x_fbits u
  have hmz : ((m : Int) == 0) = false := by simp; omega
  have hq5 : (u : Int) / 9223372036854775808 = 0 := by omega
  have he0 : ((e : Int) == 0) = false := by simp; omega
  have he1 : ((e : Int) == 2047) = false := by simp; omega
  have HRW := hide hrn
  have hI1 : ((r + 1 : Nat) : Int) - 1 = (r : Int) := by omega
  obtain ⟨rr, err⟩ : ∃ x, r + 1 = x := ⟨_, rfl⟩
  rw [err] at SD hI1
  have EF := fun (B : Nat) (w1 : World) (h1 : base ≤ w1.heap.size) (h2 : B < w1.heap.size) (h3 : B ≠ D) (h4 : w1.ownsRow base 5 1 (.slice (some ⟨D, 0, none⟩) 0 24) 0 []) (h5 : CellsAt w1 B (fun j => ((dgN d (n - 1 - j) : Nat) : Int)) (r + 1)) => efg_any base D B r (fun j => ((dgN d (n - 1 - j) : Nat) : Int)) dp w1 h1 h2 h3 hD h4 h5 hr hdp
  rw [err] at EF
  obtain ⟨ROW, eROW⟩ : ∃ x, eRow (preV (fun j => ((dgN d (n - 1 - j) : Nat) : Int)) r) (sgV (dp - 1)) (dp - 1).natAbs = x := ⟨_, rfl⟩
  rw [eROW] at EF ⊢
  have HER := hide err
  clear err eROW hrn
  go_enter Tryz.func89, Tryz.ntmps89
  go_wp2
  go_quiet (fail)
  go_wp2_with (first
    | (go_at_call 119; refine (L64 _).mono ?_; rintro e w' ⟨rfl, rfl⟩)
    | (go_at_call 128; refine (SF _ (R.below ((below_drewN w.heap.size w _).alloc (Nat.le_refl _) _))).mono ?_; rintro e w2 ⟨rfl, b2⟩))
  have W1 : Below w.heap.size w w2 := ((below_drewN w.heap.size w nq).alloc (Nat.le_refl _) _).trans (b2.mono (by simp))
  have R2 : RdyT w2 := R.below W1
  have sz2 : w.heap.size < w2.heap.size := by have := b2.size; simp at this; omega
  have HB := hide (holdsN_kept (B := w.heap.size) (by simp) (holdsN (w.drewN nq) _ n (by omega)) b2)
  clear b2 SF L64
  have HW := hide W1
  have HR2 := hide R2
  clear W1 R2
  go_region_with (first
    | (go_at_call 122; refine (ND _ (by exact HR2.out.below (below_drewN _ _ 1))).mono ?_; rintro e w' ⟨rfl, rfl⟩)
    | (go_at_call 121; refine (SD _ _ (by exact HB.out)).mono ?_; rintro e w3 ⟨rfl, b3, d3⟩))
  have b4 : Below w.heap.size w w3 := HW.out.drew.trans b3
  have sz3 : w.heap.size < w3.heap.size := by have h := b3.size; have h' : w2.drew.heap.size = w2.heap.size := rfl; omega
  have o3 := own_kept hown b4
  have hDs : D < w.heap.size := (hown.lt D rfl).2
  have H4 := hide b4
  have O3 := hide o3
  have D3 := hide d3
  clear b3 d3 o3 b4 HW HB
  go_wp2_with (go_at_call 118; refine (EF _ _ (by omega) sz3 (by omega) O3.out (fun j hj => D3.out j (by have := HRW.out; have := HER.out; omega))).mono ?_; rintro e w5 ⟨k, rfl, hk, b5, o5⟩)
  go_ret
  exact ⟨k, rfl, hk, (H4.out.mono hb).trans b5, o5⟩

set_option maxRecDepth 100000 in
set_option maxHeartbeats 8000000 in
theorem ftoa_sub (base D : Nat) (w : World) (R : RdyT w) (hb : base ≤ w.heap.size) (hD : base ≤ D) (hown : w.ownsRow base 5 1 (.slice (some ⟨D, 0, none⟩) 0 24) 0 []) (u m z b d n r : Nat) (E0 T dp : Int)
    (hum : u = m) (hm52 : m < 4503599627370496) (hq1 : (m : Int) / 4503599627370496 = 0) (hq3 : bits .and .u64 (m : Int) 4503599627370495 = (m : Int)) (hE0 : -1022 - (z : Int) - 52 = E0)
    (hm0 : 0 < m) (hm : m < 9007199254740992) (hz : 64 - (b : Int) = (z : Int)) (hzb : z ≤ 63) (X : Nat) (hsh : IntKind.u64.wrap ((m : Int) * 2 ^ z) = (X : Int))
    (L64 : ∀ w, Calls Tryz.prog 119 #[.int .u64 (m : Int)] w fun e w' => e = .returned (.int .i64 (b : Int)) ∧ w' = w)
    (SF : ∀ w, RdyT w → Calls Tryz.prog 128 #[.int .u64 (X : Int), .int .i64 E0] w fun e w' => e = .returned (.tuple #[.int .u64 (d : Int), .int .i64 T]) ∧ Below w.heap.size w w')
    (ND : ∀ w, RdyT w → Calls Tryz.prog 122 #[.int .u64 (d : Int)] w fun e w' => e = .returned (.int .i64 (n : Int)) ∧ w' = w)
    (SD : ∀ w B, Sort.Holds (fun (b : UInt8) => Value.int .u8 (b.toNat : Int)) w B 0 (Array.replicate n 0) → Calls Tryz.prog 121 #[.slice (some ⟨B, 0, none⟩) 32 32, .int .u64 (d : Int), .int .i64 T, .int .i64 (n : Int)] w fun e w' => e = .returned (.tuple #[.int .i64 dp, .int .i64 ((r + 1 : Nat) : Int)]) ∧ Below B w w' ∧ DigsN w' B d n)
    (hn : n ≤ 20) (hrn : r + 1 ≤ n) (hr : r ≤ 16) (hdp : -390 ≤ dp ∧ dp ≤ 390) :
    Calls Tryz.prog 89 #[.slice (some ⟨D, 0, none⟩) 0 24, .float .f64 u, .int .u8 101, .int .i64 (-1)] w fun e w' => ∃ k, e = .returned (.slice (some ⟨D, 0, none⟩) k 24) ∧ k ≤ 24 ∧ Below base w w' ∧ w'.ownsRow base 5 1 (.slice (some ⟨D, 0, none⟩) k 24) k (eRow (preV (fun j => ((dgN d (n - 1 - j) : Nat) : Int)) r) (sgV (dp - 1)) (dp - 1).natAbs) := by
  have q1 := x_fbits u
  have hmz : ((m : Int) == 0) = false := by simp; omega
  subst hum
  have hq5 : (u : Int) / 9223372036854775808 = 0 := by omega
  have hq2 : bits .and .i64 0 2047 = 0 := by decide
  have HRW := hide hrn
  have hI1 : ((r + 1 : Nat) : Int) - 1 = (r : Int) := by omega
  obtain ⟨rr, err⟩ : ∃ x, r + 1 = x := ⟨_, rfl⟩
  rw [err] at SD hI1
  have EF := fun (B : Nat) (w1 : World) (h1 : base ≤ w1.heap.size) (h2 : B < w1.heap.size) (h3 : B ≠ D) (h4 : w1.ownsRow base 5 1 (.slice (some ⟨D, 0, none⟩) 0 24) 0 []) (h5 : CellsAt w1 B (fun j => ((dgN d (n - 1 - j) : Nat) : Int)) (r + 1)) => efg_any base D B r (fun j => ((dgN d (n - 1 - j) : Nat) : Int)) dp w1 h1 h2 h3 hD h4 h5 hr hdp
  rw [err] at EF
  obtain ⟨ROW, eROW⟩ : ∃ x, eRow (preV (fun j => ((dgN d (n - 1 - j) : Nat) : Int)) r) (sgV (dp - 1)) (dp - 1).natAbs = x := ⟨_, rfl⟩
  rw [eROW] at EF ⊢
  have HER := hide err
  clear err eROW hrn
  go_enter Tryz.func89, Tryz.ntmps89
  go_wp2
  go_quiet (fail)
  go_wp2_with (first
    | (go_at_call 119; refine (L64 _).mono ?_; rintro e w' ⟨rfl, rfl⟩)
    | (go_at_call 128; refine (SF _ (R.below ((below_drewN w.heap.size w _).alloc (Nat.le_refl _) _))).mono ?_; rintro e w2 ⟨rfl, b2⟩))
  have W1 : Below w.heap.size w w2 := ((below_drewN w.heap.size w nq).alloc (Nat.le_refl _) _).trans (b2.mono (by simp))
  have R2 : RdyT w2 := R.below W1
  have sz2 : w.heap.size < w2.heap.size := by have := b2.size; simp at this; omega
  have HB := hide (holdsN_kept (B := w.heap.size) (by simp) (holdsN (w.drewN nq) _ n (by omega)) b2)
  clear b2 SF L64
  have HW := hide W1
  have HR2 := hide R2
  clear W1 R2
  go_region_with (first
    | (go_at_call 122; refine (ND _ (by exact HR2.out.below (below_drewN _ _ 1))).mono ?_; rintro e w' ⟨rfl, rfl⟩)
    | (go_at_call 121; refine (SD _ _ (by exact HB.out)).mono ?_; rintro e w3 ⟨rfl, b3, d3⟩))
  have b4 : Below w.heap.size w w3 := HW.out.drew.trans b3
  have sz3 : w.heap.size < w3.heap.size := by have h := b3.size; have h' : w2.drew.heap.size = w2.heap.size := rfl; omega
  have o3 := own_kept hown b4
  have hDs : D < w.heap.size := (hown.lt D rfl).2
  have H4 := hide b4
  have O3 := hide o3
  have D3 := hide d3
  clear b3 d3 o3 b4 HW HB
  go_wp2_with (go_at_call 118; refine (EF _ _ (by omega) sz3 (by omega) O3.out (fun j hj => D3.out j (by have := HRW.out; have := HER.out; omega))).mono ?_; rintro e w5 ⟨k, rfl, hk, b5, o5⟩)
  go_ret
  exact ⟨k, rfl, hk, (H4.out.mono hb).trans b5, o5⟩
end Go.Proofs.YtbengmceiaejeaaGreatDoor
