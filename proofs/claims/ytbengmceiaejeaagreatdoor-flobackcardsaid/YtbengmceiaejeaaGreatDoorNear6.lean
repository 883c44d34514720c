/- The reference's Nearest, both ways and of nothing. -/
import Derived.Test.YtbengmceiaejeaaGreatDoorNear4
import Derived.Test.YtbengmceiaejeaaGreatDoorNear5
namespace Go.Proofs.YtbengmceiaejeaaGreatDoor
open Go.ChangeShapes Go.WideShapes Go.ChangeAt Go.RowKit
open Ieee

theorem nearest_zero (b : Bool) (v : Value) (P : Int) (w : World) (ha : IsAmt w v 0) :
    Calls Tryz.prog 77 #[.agg #[.bool b, v, .int .i64 P], .bool false] w fun e w' => e = .returned (.int .u64 ((wordD b (nearR 0 P) : Nat) : Int)) ∧ Below w.heap.size w w' := by
  obtain ⟨ds, rr, rd, rn, rv⟩ := ha
  have hnil : ds.length = 0 := by
    rcases Nat.eq_zero_or_pos ds.length with h | h
    · exact h
    · obtain ⟨k, hk⟩ : ∃ k, ds.length = k + 1 := ⟨ds.length - 1, by omega⟩
      have := norm_low rn hk
      have h2 : 0 < 65536 ^ k := Nat.pow_pos (by decide)
      omega
  obtain ⟨ao, c, rfl⟩ := rr.form
  rw [hnil, nearR_zero]
  have S := signed_any b 0 (by decide)
  obtain ⟨W, eW⟩ : ∃ W, wordD b 0 = W := ⟨_, rfl⟩
  rw [eW] at S ⊢
  clear rr rd rn rv hnil eW
  go_enter Tryz.func77, Tryz.ntmps77
  go_wp2_with (go_at_call 99; refine (S _).mono ?_; rintro e w' ⟨rfl, rfl⟩)
  go_ret
  exact ⟨rfl, (Below.refl _ _).alloc (Nat.le_refl _) _⟩

theorem nearest_any (b : Bool) (v : Value) (M : Nat) (P : Int) (w : World) (ha : IsAmt w v M) (hl : M.log2 ≤ 5000) (hP : -6000 ≤ P ∧ P ≤ 6000) :
    Calls Tryz.prog 77 #[.agg #[.bool b, v, .int .i64 P], .bool false] w fun e w' => e = .returned (.int .u64 ((wordD b (nearR M P) : Nat) : Int)) ∧ Below w.heap.size w w' := by
  rcases Nat.eq_zero_or_pos M with rfl | h
  · exact nearest_zero b v P w ha
  · by_cases hw : lastP M P ≤ P - 2
    · exact nearest_up b v M P w ha h hl hP hw
    · exact nearest_down b v M P w ha h hl hP (by omega)
end Go.Proofs.YtbengmceiaejeaaGreatDoor
