/- The walk of the reference's Nearest. -/
import Derived.Test.YtbengmceiaejeaaGreatDoorNear3
namespace Go.Proofs.YtbengmceiaejeaaGreatDoor
open Go.ChangeShapes Go.WideShapes Go.ChangeAt Go.RowKit
open Ieee

set_option maxHeartbeats 8000000 in
theorem nearest_up (b : Bool) (v : Value) (M : Nat) (P : Int) (w : World) (ha : IsAmt w v M) (hM : 0 < M) (hl : M.log2 ≤ 5000) (hP : -6000 ≤ P ∧ P ≤ 6000) (hw : lastP M P ≤ P - 2) :
    Calls Tryz.prog 77 #[.agg #[.bool b, v, .int .i64 P], .bool false] w fun e w' => e = .returned (.int .u64 ((wordD b (nearR M P) : Nat) : Int)) ∧ Below w.heap.size w w' := by
  have hM0 : M ≠ 0 := by omega
  have hlt := log2_hi hM0
  have hbl := blen_four hM0
  have hnp := near_pack hM0 P
  have hk1 := kept_le hM0 P
  have hk2 := kept_ge hM0 P
  have hku := kept_up hw
  have hlast : -1074 ≤ lastP M P ∧ lastP M P ≤ 11000 := by unfold lastP; omega
  have hlastE : lastP M P = max (((M.log2 + 3 : Nat) : Int) + (P - 2) - 53) (-1074) := by unfold lastP; omega
  obtain ⟨l, el⟩ : ∃ l, M.log2 = l := ⟨_, rfl⟩
  rw [el] at hlt hbl hl hlastE
  obtain ⟨q, eq⟩ : ∃ q, lastP M P = q := ⟨_, rfl⟩
  rw [eq] at hnp hk2 hku hlast hlastE hw
  obtain ⟨K, eK⟩ : ∃ K, keptN M P = K := ⟨_, rfl⟩
  rw [eK] at hnp hk1 hk2 hku
  obtain ⟨Q, eQ⟩ : ∃ Q, (q + 1074).toNat = Q := ⟨_, rfl⟩
  rw [eQ] at hnp hk2
  obtain ⟨s, es⟩ : ∃ s, (P - 2 - q).toNat = s := ⟨_, rfl⟩
  rw [es] at hku
  have hsI : P - 2 - q = (s : Int) := by omega
  have hqI : q = (Q : Int) - 1074 := by omega
  have hs : s ≤ 8000 := by omega
  have hwrap : IntKind.i64.wrap (P - 2 - ((Q : Int) - 1074)) = (s : Int) := by rw [IntKind.wrap_i64]; omega
  have B1 : Kept M := ⟨big_of hlt (by omega)⟩
  have B2 : Kept (M * 65536) := ⟨big_of (mul_pow_lt (k := 16) hlt) (by omega)⟩
  have B3 : Kept (M * 2 ^ 2) := ⟨big_of (mul_pow_lt (k := 2) hlt) (by omega)⟩
  have B4 : Kept (M * 2 ^ 2 * 65536) := ⟨big_of (mul_pow_lt (k := 16) (mul_pow_lt (k := 2) hlt)) (by omega)⟩
  obtain ⟨rb, ro, rc, rs, rfl, rr, rd, rn, rv⟩ := amt_pos ha hM
  have hlen := len_big rn (by rw [rv]; exact B1.out)
  have hrs : 0 < rs.length := by
    rcases Nat.eq_zero_or_pos rs.length with h | h
    · rw [List.eq_nil_of_length_eq_zero h] at rv; simp [valD] at rv; omega
    · exact h
  obtain ⟨L, eL⟩ : ∃ L, rs.length = L := ⟨_, rfl⟩
  rw [eL] at ha hlen hrs ⊢
  have hL0 : ((L : Int) == 0) = false := by simp; omega
  have HA := hide ha
  have SH := fun wt (hb : Below w.heap.size w wt) => shl_any _ M 2 wt (ha.below hb) B1.out B2.out (by omega)
  have LB := fun v wt (hv : IsAmt wt v (M * 2 ^ 2)) => lenB_any v (M * 2 ^ 2) wt hv B3.out
  rw [hbl] at LB
  have SH2 := fun v wt (hv : IsAmt wt v (M * 2 ^ 2)) => shl_any v (M * 2 ^ 2) s wt hv B3.out B4.out (by omega)
  rw [← hku] at SH2
  have VA := fun v wt (hv : IsAmt wt v K) => value_any v K wt hv (by omega)
  have PK := fun wt => pack_any b K Q wt hk1 (by omega) hk2
  rw [← hnp] at PK
  obtain ⟨W, eW⟩ : ∃ W, wordD b (nearR M P) = W := ⟨_, rfl⟩
  rw [eW] at PK ⊢
  have hmax : max (((l + 3 : Nat) : Int) + (P - 2) - 53) (-1074) = q := hlastE.symm
  obtain ⟨T, eT⟩ : ∃ T, l + 3 = T := ⟨_, rfl⟩
  rw [eT] at LB hmax
  clear ha rr rd rn rv hlt hbl hnp hk2 hku hlastE el eq eK eQ es B1 B2 B3 B4 eL HA eW hM0
  have two : ((T : Int) + (P - 2) - 53 = q ∧ -1074 ≤ q) ∨ ((T : Int) + (P - 2) - 53 < -1074 ∧ q = -1074) := by omega
  clear hmax
  rcases two with ⟨hT, hT2⟩ | ⟨hT, hT2⟩
  · have hd : decide (q ≤ P - 2) = true := decide_eq_true hw
    go_enter Tryz.func77, Tryz.ntmps77
    go_wp2_with (first
      | (go_at_call 74; refine (SH _ ((Below.refl _ _).alloc (Nat.le_refl _) _)).mono ?_; rintro e w1 ⟨v1, rfl, h1, b1⟩; obtain ⟨x0, x2, B1, z1⟩ := box_kept b1; clear b1)
      | (go_at_call 72; refine (LB _ _ h1).mono ?_; rintro e w' ⟨rfl, rfl⟩))
    go_region_with (first
      | (go_at_call 74; refine (SH2 _ _ (by exact h1)).mono ?_; rintro e w2 ⟨v2, rfl, h2, b2⟩; have y0 := (b2.cell (p := ⟨w.heap.size, 0, none⟩) (by exact z1)).trans x0)
      | (go_at_call 53; refine (VA _ _ (by exact h2)).mono ?_; rintro e w' ⟨rfl, rfl⟩)
      | (go_at_call 100; refine (PK _).mono ?_; rintro e w' ⟨rfl, rfl⟩))
    all_goals
      go_wp2
      go_ret
      exact ⟨rfl, B1.drew.trans (b2.mono (Nat.le_of_lt z1))⟩
  · subst hT2
    have hd : decide ((-1074 : Int) ≤ P - 2) = true := decide_eq_true hw
    go_enter Tryz.func77, Tryz.ntmps77
    go_wp2_with (first
      | (go_at_call 74; refine (SH _ ((Below.refl _ _).alloc (Nat.le_refl _) _)).mono ?_; rintro e w1 ⟨v1, rfl, h1, b1⟩; obtain ⟨x0, x2, B1, z1⟩ := box_kept b1; clear b1)
      | (go_at_call 72; refine (LB _ _ h1).mono ?_; rintro e w' ⟨rfl, rfl⟩))
    go_region_with (first
      | (go_at_call 74; refine (SH2 _ _ (by exact h1)).mono ?_; rintro e w2 ⟨v2, rfl, h2, b2⟩; have y0 := (b2.cell (p := ⟨w.heap.size, 0, none⟩) (by exact z1)).trans x0)
      | (go_at_call 53; refine (VA _ _ (by exact h2)).mono ?_; rintro e w' ⟨rfl, rfl⟩)
      | (go_at_call 100; refine (PK _).mono ?_; rintro e w' ⟨rfl, rfl⟩))
    all_goals
      go_wp2
      go_ret
      exact ⟨rfl, B1.drew.trans (b2.mono (Nat.le_of_lt z1))⟩
end Go.Proofs.YtbengmceiaejeaaGreatDoor
