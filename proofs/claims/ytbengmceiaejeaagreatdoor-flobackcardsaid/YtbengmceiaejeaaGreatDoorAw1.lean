/- The closed call on every road: how 0.30000000000000004 is written. First part: its digits. -/
import Derived.Test.YtbengmceiaejeaaGreatDoorBits
import Derived.Test.YtbengmceiaejeaaGreatDoorShelf
import Derived.TacticsIn
namespace Go.Proofs.YtbengmceiaejeaaGreatDoor
open Go.ChangeShapes Go.WideShapes Go.ChangeAt Go.RowKit

theorem c_l10 (w : World) : Calls Tryz.prog 123 #[.int .i64 (-54)] w fun e w' => e = .returned (.int .i64 (-17)) ∧ w' = w := by
  go_enter Tryz.func123, Tryz.ntmps123
  go_wp2
  go_ret
  exact ⟨rfl, rfl⟩

theorem c_l2 (w : World) : Calls Tryz.prog 155 #[.int .i64 17] w fun e w' => e = .returned (.int .i64 56) ∧ w' = w := by
  go_enter Tryz.func155, Tryz.ntmps155
  go_wp2
  go_ret
  exact ⟨rfl, rfl⟩

theorem c_nudge0 (w : World) : Calls Tryz.prog 157 #[.int .u64 120000000000000007, .int .i64 0] w fun e w' => e = .returned (.int .u64 120000000000000007) ∧ w' = w := by
  go_enter Tryz.func157, Tryz.ntmps157
  go_wp2
  go_ret
  exact ⟨rfl, rfl⟩

theorem c_nudge1 (w : World) : Calls Tryz.prog 157 #[.int .u64 120000000000000029, .int .i64 0] w fun e w' => e = .returned (.int .u64 120000000000000029) ∧ w' = w := by
  go_enter Tryz.func157, Tryz.ntmps157
  go_wp2
  go_ret
  exact ⟨rfl, rfl⟩

theorem c_ceil (w : World) : Calls Tryz.prog 158 #[.int .u64 120000000000000007] w fun e w' => e = .returned (.int .u64 30000000000000002) ∧ w' = w := by
  go_enter Tryz.func158, Tryz.ntmps158
  go_wp2
  go_ret
  exact ⟨rfl, rfl⟩

theorem c_floor (w : World) : Calls Tryz.prog 159 #[.int .u64 120000000000000029] w fun e w' => e = .returned (.int .u64 30000000000000007) ∧ w' = w := by
  go_enter Tryz.func159, Tryz.ntmps159
  go_wp2
  go_ret
  exact ⟨rfl, rfl⟩

theorem c_round (w : World) : Calls Tryz.prog 160 #[.int .u64 120000000000000017] w fun e w' => e = .returned (.int .u64 30000000000000004) ∧ w' = w := by
  have h : bits .and .u64 30000000000000004 1 = 0 := by decide
  go_enter Tryz.func160, Tryz.ntmps160
  go_wp2
  go_ret
  exact ⟨rfl, rfl⟩

theorem c_mul0 (w : World) : Calls Tryz.prog 68 #[.int .u64 11068046444225731584, .int .u64 12800000000000000000] w fun e w' => e = .returned (.tuple #[.int .u64 7680000000000000426, .int .u64 6007024599731011584]) ∧ w' = w :=
  Tryz.bits_Mul64 11068046444225731584 12800000000000000000 (by decide) (by decide) w

theorem c_uscale0 (B : Nat) (w : World) (c0 : w.cell? ⟨B, 0, none⟩ = some (.int .u64 12800000000000000000)) (c2 : w.cell? ⟨B, 2, none⟩ = some (.int .i64 6)) :
    Calls Tryz.prog 156 #[.int .u64 11068046444225731584, .pointer (some ⟨B, 0, none⟩)] w fun e w' => e = .returned (.int .u64 120000000000000007) ∧ w' = w := by
  have h1 : bits .or .u64 120000000000000006 1 = 120000000000000007 := by decide
  have h2 : bits .and .i64 6 63 = 6 := by decide
  go_enter Tryz.func156, Tryz.ntmps156
  go_wp2_with (go_at_call 68; refine (c_mul0 _).mono ?_; rintro e w' ⟨rfl, rfl⟩)
  go_ret
  exact ⟨rfl, rfl⟩

theorem c_mul1 (w : World) : Calls Tryz.prog 68 #[.int .u64 11068046444225733632, .int .u64 12800000000000000000] w fun e w' => e = .returned (.tuple #[.int .u64 7680000000000001847, .int .u64 7583695858458165248]) ∧ w' = w :=
  Tryz.bits_Mul64 11068046444225733632 12800000000000000000 (by decide) (by decide) w

theorem c_uscale1 (B : Nat) (w : World) (c0 : w.cell? ⟨B, 0, none⟩ = some (.int .u64 12800000000000000000)) (c2 : w.cell? ⟨B, 2, none⟩ = some (.int .i64 6)) :
    Calls Tryz.prog 156 #[.int .u64 11068046444225733632, .pointer (some ⟨B, 0, none⟩)] w fun e w' => e = .returned (.int .u64 120000000000000029) ∧ w' = w := by
  have h1 : bits .or .u64 120000000000000028 1 = 120000000000000029 := by decide
  have h2 : bits .and .i64 6 63 = 6 := by decide
  go_enter Tryz.func156, Tryz.ntmps156
  go_wp2_with (go_at_call 68; refine (c_mul1 _).mono ?_; rintro e w' ⟨rfl, rfl⟩)
  go_ret
  exact ⟨rfl, rfl⟩

theorem c_mul2 (w : World) : Calls Tryz.prog 68 #[.int .u64 11068046444225732608, .int .u64 12800000000000000000] w fun e w' => e = .returned (.tuple #[.int .u64 7680000000000001136, .int .u64 16018732265949364224]) ∧ w' = w :=
  Tryz.bits_Mul64 11068046444225732608 12800000000000000000 (by decide) (by decide) w

theorem c_uscale2 (B : Nat) (w : World) (c0 : w.cell? ⟨B, 0, none⟩ = some (.int .u64 12800000000000000000)) (c2 : w.cell? ⟨B, 2, none⟩ = some (.int .i64 6)) :
    Calls Tryz.prog 156 #[.int .u64 11068046444225732608, .pointer (some ⟨B, 0, none⟩)] w fun e w' => e = .returned (.int .u64 120000000000000017) ∧ w' = w := by
  have h1 : bits .or .u64 120000000000000017 1 = 120000000000000017 := by decide
  have h2 : bits .and .i64 6 63 = 6 := by decide
  go_enter Tryz.func156, Tryz.ntmps156
  go_wp2_with (go_at_call 68; refine (c_mul2 _).mono ?_; rintro e w' ⟨rfl, rfl⟩)
  go_ret
  exact ⟨rfl, rfl⟩

/-- What the closed call reads of the library's variables. -/
structure Rdy (w : World) : Prop where
  m : ∃ m, w.cell? ⟨3, 0, none⟩ = some (.int .i64 m)
  ten : w.cell? ⟨9, 16, none⟩ = some (.int .u64 10000000000000000)
  hi : w.cell? ⟨13, 730, none⟩ = some (.int .u64 12800000000000000000)
  lo : w.cell? ⟨13, 731, none⟩ = some (.int .u64 0)
  s1 : 3 < w.heap.size
  s2 : 9 < w.heap.size
  s3 : 13 < w.heap.size

theorem Rdy.below {w w' : World} (h : Rdy w) (hb : Below w.heap.size w w') : Rdy w' := by
  obtain ⟨⟨m, hm⟩, h2, h3, h4, s1, s2, s3⟩ := h
  have hs := hb.size
  refine ⟨⟨m, ?_⟩, ?_, ?_, ?_, by omega, by omega, by omega⟩
  · rw [hb.cell s1]; exact hm
  · rw [hb.cell s2]; exact h2
  · rw [hb.cell s3]; exact h3
  · rw [hb.cell s3]; exact h4

theorem c_prescale (t : TypeId) (w : World) (R : Rdy w) :
    Calls Tryz.prog 154 #[.pointer (some ⟨w.heap.size, 0, none⟩), .int .i64 (-65), .int .i64 17, .int .i64 56] (w.alloc (.cells #[.int .u64 0, .int .u64 0, .int .i64 0] t)) fun e w' => e = .returned (.tuple #[]) ∧ w' = w.alloc (.cells #[.int .u64 12800000000000000000, .int .u64 0, .int .i64 6] t) := by
  have h1 : ∀ o, (w.alloc o).cell? ⟨13, 730, none⟩ = some (.int .u64 12800000000000000000) := by
    intro o
    rw [((Below.refl w.heap.size w).alloc (Nat.le_refl _) o).cell R.s3]; exact R.hi
  have h2 : ∀ o, (w.alloc o).cell? ⟨13, 731, none⟩ = some (.int .u64 0) := by
    intro o
    rw [((Below.refl w.heap.size w).alloc (Nat.le_refl _) o).cell R.s3]; exact R.lo
  go_enter Tryz.func154, Tryz.ntmps154
  go_wp2
  go_end0
  exact ⟨rfl, rfl⟩

/-- The three scalings that are asked for. -/
def usv (x : Int) : Int := if x = 11068046444225731584 then 120000000000000007 else if x = 11068046444225733632 then 120000000000000029 else 120000000000000017

theorem c_uscale (B : Nat) (x : Int) (w : World) (hx : x = 11068046444225731584 ∨ x = 11068046444225733632 ∨ x = 11068046444225732608) (c0 : w.cell? ⟨B, 0, none⟩ = some (.int .u64 12800000000000000000)) (c2 : w.cell? ⟨B, 2, none⟩ = some (.int .i64 6)) :
    Calls Tryz.prog 156 #[.int .u64 x, .pointer (some ⟨B, 0, none⟩)] w fun e w' => e = .returned (.int .u64 (usv x)) ∧ w' = w := by
  rcases hx with rfl | rfl | rfl
  · exact c_uscale0 B w c0 c2
  · exact c_uscale1 B w c0 c2
  · exact c_uscale2 B w c0 c2

theorem c_nudge (x : Int) (w : World) (hx : x = 120000000000000007 ∨ x = 120000000000000029) : Calls Tryz.prog 157 #[.int .u64 x, .int .i64 0] w fun e w' => e = .returned (.int .u64 x) ∧ w' = w := by
  rcases hx with rfl | rfl
  · exact c_nudge0 w
  · exact c_nudge1 w

theorem c_short (w : World) (R : Rdy w) :
    Calls Tryz.prog 128 #[.int .u64 11068046444225732608, .int .i64 (-65)] w fun e w' => e = .returned (.tuple #[.int .u64 30000000000000004, .int .i64 (-17)]) ∧ Below w.heap.size w w' := by
  have h1 : bits .and .i64 5404319552844596 1 = 0 := by decide
  have u0 : usv 11068046444225731584 = 120000000000000007 := by decide
  have u1 : usv 11068046444225733632 = 120000000000000029 := by decide
  have u2 : usv 11068046444225732608 = 120000000000000017 := by decide
  go_enter Tryz.func128, Tryz.ntmps128
  go_wp2_with (first
    | (go_at_call 123; refine (c_l10 _).mono ?_; rintro e w' ⟨rfl, rfl⟩)
    | (go_at_call 155; refine (c_l2 _).mono ?_; rintro e w' ⟨rfl, rfl⟩)
    | (go_at_call 154; refine (c_prescale _ _ R).mono ?_; rintro e w' ⟨rfl, rfl⟩)
    | (go_at_call 156; refine (c_uscale _ _ _ (by simp) (by simp) (by simp)).mono ?_; rintro e w' ⟨rfl, rfl⟩)
    | (go_at_call 157; refine (c_nudge _ _ (by simp)).mono ?_; rintro e w' ⟨rfl, rfl⟩)
    | (go_at_call 158; refine (c_ceil _).mono ?_; rintro e w' ⟨rfl, rfl⟩)
    | (go_at_call 159; refine (c_floor _).mono ?_; rintro e w' ⟨rfl, rfl⟩)
    | (go_at_call 160; refine (c_round _).mono ?_; rintro e w' ⟨rfl, rfl⟩))
  go_ret2
  exact ⟨rfl, (Below.refl _ _).alloc (Nat.le_refl _) _⟩
end Go.Proofs.YtbengmceiaejeaaGreatDoor
