/- The library's uscale at any word. -/
import Derived.Test.YtbengmceiaejeaaGreatDoorFtW1
namespace Go.Proofs.YtbengmceiaejeaaGreatDoor
open Go.ChangeShapes Go.WideShapes Go.ChangeAt Go.RowKit

theorem and_63 : ∀ s : Fin 64, bits .and .i64 ((s.val : Nat) : Int) 63 = ((s.val : Nat) : Int) := by decide

theorem or_1 (a : Nat) (ha : a < 18446744073709551616) : bits .or .u64 (a : Int) 1 = ((a ||| 1 : Nat) : Int) := by
  have h := u64_or a 1 ha (by decide)
  rw [show ((1 : Nat) : Int) = 1 from rfl] at h
  exact h

theorem or_0 (a : Nat) (ha : a < 18446744073709551616) : bits .or .u64 (a : Int) 0 = (a : Int) := by
  have h := u64_or a 0 ha (by decide)
  rw [show ((0 : Nat) : Int) = 0 from rfl, Nat.or_zero] at h
  exact h

set_option maxRecDepth 100000 in
set_option maxHeartbeats 4000000 in
theorem us_any (B : Nat) (x hi lo s : Nat) (w : World) (hx : x < 18446744073709551616) (hhi : hi < 18446744073709551616) (hlo : lo < 18446744073709551616) (hl : lo < hi * 18446744073709551616) (hs : s < 64) (c0 : w.cell? ⟨B, 0, none⟩ = some (.int .u64 (hi : Int))) (c1 : w.cell? ⟨B, 1, none⟩ = some (.int .u64 (lo : Int))) (c2 : w.cell? ⟨B, 2, none⟩ = some (.int .i64 (s : Int))) :
    Calls Tryz.prog 156 #[.int .u64 (x : Int), .pointer (some ⟨B, 0, none⟩)] w fun e w' => e = .returned (.int .u64 ((usF x hi lo s : Nat) : Int)) ∧ ∃ n, w' = w.drewN n := by
  have hM1 := Tryz.bits_Mul64 x hi hx hhi
  have hM2 := Tryz.bits_Mul64 x lo hx hlo
  have hP : x * hi / 18446744073709551616 < 18446744073709551616 := by
    rw [Nat.div_lt_iff_lt_mul (by decide)]
    exact Nat.mul_lt_mul'' hx hhi
  have hP2 : x * hi % 18446744073709551616 < 18446744073709551616 := Nat.mod_lt _ (by decide)
  have hP3 : x * lo / 18446744073709551616 < 18446744073709551615 := by
    rw [Nat.div_lt_iff_lt_mul (by decide)]
    have h1 : x * lo ≤ 18446744073709551615 * 18446744073709551615 := Nat.mul_le_mul (by omega) (by omega)
    omega
  have hle : x * lo / 18446744073709551616 ≤ x * hi := by
    have h1 : x * lo ≤ x * (hi * 18446744073709551616) := Nat.mul_le_mul_left _ (by omega)
    rw [← Nat.mul_assoc] at h1
    omega
  have hdm := Nat.div_add_mod (x * hi) 18446744073709551616
  have eU : usF x hi lo s = if x * hi / 18446744073709551616 / 2 ^ s * 2 ^ s ≠ x * hi / 18446744073709551616 then x * hi / 18446744073709551616 / 2 ^ s ||| 1 else if x * hi % 18446744073709551616 < x * lo / 18446744073709551616 then (x * hi / 18446744073709551616 - 1) / 2 ^ s ||| 1 else if 1 < x * hi % 18446744073709551616 - x * lo / 18446744073709551616 then x * hi / 18446744073709551616 / 2 ^ s ||| 1 else x * hi / 18446744073709551616 / 2 ^ s := rfl
  obtain ⟨h, eh⟩ : ∃ h, x * hi / 18446744073709551616 = h := ⟨_, rfl⟩
  obtain ⟨mid, em⟩ : ∃ m, x * hi % 18446744073709551616 = m := ⟨_, rfl⟩
  obtain ⟨mid2, em2⟩ : ∃ m, x * lo / 18446744073709551616 = m := ⟨_, rfl⟩
  obtain ⟨low, elow⟩ : ∃ m, x * lo % 18446744073709551616 = m := ⟨_, rfl⟩
  rw [eh, em] at hM1 hdm
  rw [em2, elow] at hM2
  rw [eh, em, em2] at eU
  rw [eh] at hP
  rw [em] at hP2
  rw [em2] at hP3 hle
  have ha : bits .and .i64 (s : Int) 63 = (s : Int) := and_63 ⟨s, hs⟩
  have hdle : h / 2 ^ s ≤ h := Nat.div_le_self _ _
  have hmle : h / 2 ^ s * 2 ^ s ≤ h := Nat.div_mul_le_self _ _
  have S1 : (h : Int) / 2 ^ s = ((h / 2 ^ s : Nat) : Int) := by simp
  have S2 : IntKind.u64.wrap (((h / 2 ^ s : Nat) : Int) * 2 ^ s) = ((h / 2 ^ s * 2 ^ s : Nat) : Int) := by
    rw [show ((h / 2 ^ s : Nat) : Int) * 2 ^ s = ((h / 2 ^ s * 2 ^ s : Nat) : Int) by simp]
    exact wraps64 _ (by omega) (by omega)
  have O1 := or_1 (h / 2 ^ s) (by omega)
  have O0 := or_0 (h / 2 ^ s) (by omega)
  obtain ⟨k, ek⟩ : ∃ k, h / 2 ^ s = k := ⟨_, rfl⟩
  rw [ek] at S1 S2 O1 O0 eU hdle hmle
  obtain ⟨kk, ekk⟩ : ∃ kk, k * 2 ^ s = kk := ⟨_, rfl⟩
  rw [ekk] at S2 eU hmle
  obtain ⟨R, eR⟩ : ∃ R, usF x hi lo s = R := ⟨_, rfl⟩
  rw [eR] at eU ⊢
  by_cases hne : kk = h
  · have hneI : ((kk : Int) != (h : Int)) = false := by simp [hne]
    rw [if_neg (by simpa using hne)] at eU
    rcases Nat.lt_or_ge mid mid2 with hm | hm
    · rw [if_pos hm] at eU
      have h1 : 1 ≤ h := by
        rcases Nat.eq_zero_or_pos h with h0 | h0
        · subst h0; omega
        · exact h0
      have hb : decide ((mid : Int) < (mid2 : Int)) = true := decide_eq_true (by omega)
      have S3 : ((h - 1 : Nat) : Int) / 2 ^ s = (((h - 1) / 2 ^ s : Nat) : Int) := by simp
      have hd3 : (h - 1) / 2 ^ s ≤ h - 1 := Nat.div_le_self _ _
      have O3 := or_1 ((h - 1) / 2 ^ s) (by omega)
      obtain ⟨k3, ek3⟩ : ∃ k, (h - 1) / 2 ^ s = k := ⟨_, rfl⟩
      rw [ek3] at S3 O3 eU
      obtain ⟨h3, eh3⟩ : ∃ h3, h - 1 = h3 := ⟨_, rfl⟩
      rw [eh3] at S3
      have hI : (h : Int) - 1 = (h3 : Int) := by omega
      have hwr : IntKind.u64.wrap ((mid : Int) - (mid2 : Int)) = (mid : Int) - (mid2 : Int) + 18446744073709551616 := by rw [IntKind.wrap_u64]; omega
      have hg : decide ((1 : Int) < (mid : Int) - (mid2 : Int) + 18446744073709551616) = true := decide_eq_true (by omega)
      obtain ⟨df, edf⟩ : ∃ d : Int, (mid : Int) - (mid2 : Int) + 18446744073709551616 = d := ⟨_, rfl⟩
      rw [edf] at hwr hg
      obtain ⟨K, eK⟩ : ∃ K, k3 ||| 1 = K := ⟨_, rfl⟩
      rw [eK] at O3 eU
      subst eU
      clear eh em em2 elow hdm hle ek ekk eR ek3 eh3 edf hd3 hdle hmle hne hl eK O1 O0
      go_enter Tryz.func156, Tryz.ntmps156
      go_wp2_with (first
        | (go_at_call 68; refine (hM1 _).mono ?_; rintro e w' ⟨rfl, rfl⟩; clear hM1)
        | (go_at_call 68; refine (hM2 _).mono ?_; rintro e w' ⟨rfl, rfl⟩; clear hM2)
        | (go_at_call 144; refine (b2_any _ _).mono ?_; rintro e w' ⟨rfl, rfl⟩))
      go_region_with (go_at_call 144; refine (b2_any _ _).mono ?_; rintro e w' ⟨rfl, rfl⟩)
      go_wp2
      go_ret
      exact ⟨rfl, 1, rfl⟩
    · rw [if_neg (by omega)] at eU
      have hb : decide ((mid : Int) < (mid2 : Int)) = false := decide_eq_false (by omega)
      have hb2 : decide (mid < mid2) = false := decide_eq_false (by omega)
      by_cases hd : 1 < mid - mid2
      · rw [if_pos hd] at eU
        have hg : decide ((1 : Int) < (mid : Int) - (mid2 : Int)) = true := decide_eq_true (by omega)
        obtain ⟨df, edf⟩ : ∃ d : Int, (mid : Int) - (mid2 : Int) = d := ⟨_, rfl⟩
        have hwr : IntKind.u64.wrap df = df := wraps64 _ (by omega) (by omega)
        rw [edf] at hg
        obtain ⟨K, eK⟩ : ∃ K, k ||| 1 = K := ⟨_, rfl⟩
        rw [eK] at O1 eU
        subst eU
        clear eh em em2 elow hdm hle ek ekk eR hdle hmle hne hl eK O0 hm hd
        go_enter Tryz.func156, Tryz.ntmps156
        go_wp2_with (first
          | (go_at_call 68; refine (hM1 _).mono ?_; rintro e w' ⟨rfl, rfl⟩; clear hM1)
          | (go_at_call 68; refine (hM2 _).mono ?_; rintro e w' ⟨rfl, rfl⟩; clear hM2)
          | (go_at_call 144; refine (b2_any _ _).mono ?_; rintro e w' ⟨rfl, rfl⟩))
        go_region_with (go_at_call 144; refine (b2_any _ _).mono ?_; rintro e w' ⟨rfl, rfl⟩)
        go_wp2
        go_ret
        exact ⟨rfl, 1, rfl⟩
      · rw [if_neg hd] at eU
        have hg : decide ((1 : Int) < (mid : Int) - (mid2 : Int)) = false := decide_eq_false (by omega)
        obtain ⟨df, edf⟩ : ∃ d : Int, (mid : Int) - (mid2 : Int) = d := ⟨_, rfl⟩
        have hwr : IntKind.u64.wrap df = df := wraps64 _ (by omega) (by omega)
        rw [edf] at hg
        subst eU
        clear eh em em2 elow hdm hle ek ekk eR hdle hmle hne hl hm hd
        go_enter Tryz.func156, Tryz.ntmps156
        go_wp2_with (first
          | (go_at_call 68; refine (hM1 _).mono ?_; rintro e w' ⟨rfl, rfl⟩; clear hM1)
          | (go_at_call 68; refine (hM2 _).mono ?_; rintro e w' ⟨rfl, rfl⟩; clear hM2)
          | (go_at_call 144; refine (b2_any _ _).mono ?_; rintro e w' ⟨rfl, rfl⟩))
        go_region_with (go_at_call 144; refine (b2_any _ _).mono ?_; rintro e w' ⟨rfl, rfl⟩)
        go_wp2
        go_ret
        exact ⟨rfl, 1, rfl⟩
  · have hneI : ((kk : Int) != (h : Int)) = true := by simp; omega
    rw [if_pos hne] at eU
    obtain ⟨K, eK⟩ : ∃ K, k ||| 1 = K := ⟨_, rfl⟩
    rw [eK] at O1 eU
    subst eU
    clear eh em em2 elow hdm hle ek ekk eR hdle hmle hne hl eK O0
    go_enter Tryz.func156, Tryz.ntmps156
    go_wp2_with (first
      | (go_at_call 68; refine (hM1 _).mono ?_; rintro e w' ⟨rfl, rfl⟩; clear hM1))
    go_ret
    exact ⟨rfl, 0, rfl⟩
end Go.Proofs.YtbengmceiaejeaaGreatDoor
/- The table, and the scaling of a number. -/
namespace Go.Proofs.YtbengmceiaejeaaGreatDoor
open Go.ChangeShapes Go.WideShapes Go.ChangeAt Go.RowKit

/-- What is read of the library's variables. -/
structure RdyT (w : World) : Prop where
  m : ∃ m, w.cell? ⟨3, 0, none⟩ = some (.int .i64 m)
  tens : ∀ i, i < 20 → w.cell? ⟨9, i, none⟩ = some (.int .u64 ((10 ^ i : Nat) : Int))
  hi : ∀ i, i < 696 → w.cell? ⟨13, i * 2, none⟩ = some (.int .u64 (((Go.Pinned.pow10Rows.getD i (0, 0)).1 : Nat) : Int))
  lo : ∀ i, i < 696 → w.cell? ⟨13, i * 2 + 1, none⟩ = some (.int .u64 (((Go.Pinned.pow10Rows.getD i (0, 0)).2 : Nat) : Int))
  s1 : 3 < w.heap.size
  s2 : 9 < w.heap.size
  s3 : 13 < w.heap.size

theorem pre_any (t : TypeId) (w : World) (R : RdyT w) (E p lp : Int) (i : Nat) (s : Int) (hE : -3000 ≤ E ∧ E ≤ 3000) (hp : p + 348 = (i : Int)) (hi : i < 696) (hl : -3000 ≤ lp ∧ lp ≤ 3000) (hs : -(E + lp + 3) = s) :
    Calls Tryz.prog 154 #[.pointer (some ⟨w.heap.size, 0, none⟩), .int .i64 E, .int .i64 p, .int .i64 lp] (w.alloc (.cells #[.int .u64 0, .int .u64 0, .int .i64 0] t)) fun e w' => e = .returned (.tuple #[]) ∧ w' = w.alloc (.cells #[.int .u64 (((Go.Pinned.pow10Rows.getD i (0, 0)).1 : Nat) : Int), .int .u64 (((Go.Pinned.pow10Rows.getD i (0, 0)).2 : Nat) : Int), .int .i64 s] t) := by
  have h1 : ∀ o, (w.alloc o).cell? ⟨13, i * 2, none⟩ = some (.int .u64 (((Go.Pinned.pow10Rows.getD i (0, 0)).1 : Nat) : Int)) := by
    intro o
    rw [((Below.refl w.heap.size w).alloc (Nat.le_refl _) o).cell R.s3]; exact R.hi i hi
  have h2 : ∀ o, (w.alloc o).cell? ⟨13, i * 2 + 1, none⟩ = some (.int .u64 (((Go.Pinned.pow10Rows.getD i (0, 0)).2 : Nat) : Int)) := by
    intro o
    rw [((Below.refl w.heap.size w).alloc (Nat.le_refl _) o).cell R.s3]; exact R.lo i hi
  obtain ⟨H, eH⟩ : ∃ H, (Go.Pinned.pow10Rows.getD i (0, 0)).1 = H := ⟨_, rfl⟩
  obtain ⟨L, eL⟩ : ∃ H, (Go.Pinned.pow10Rows.getD i (0, 0)).2 = H := ⟨_, rfl⟩
  rw [eH] at h1 ⊢
  rw [eL] at h2 ⊢
  have hp2 : p - -348 = (i : Int) := by omega
  clear eH eL R
  go_enter Tryz.func154, Tryz.ntmps154
  go_wp2
  go_end0
  exact ⟨rfl, rfl⟩
end Go.Proofs.YtbengmceiaejeaaGreatDoor
