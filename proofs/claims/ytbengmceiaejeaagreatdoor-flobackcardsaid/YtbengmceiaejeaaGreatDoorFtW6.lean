/- The library's small functions on the way to the fewest digits, at any number. -/
import Derived.Test.YtbengmceiaejeaaGreatDoorAw3
import Derived.Test.YtbengmceiaejeaaGreatDoorFtI
namespace Go.Proofs.YtbengmceiaejeaaGreatDoor
open Go.ChangeShapes Go.WideShapes Go.ChangeAt Go.RowKit

theorem l10_any (x : Int) (h : -5000 ≤ x ∧ x ≤ 5000) (w : World) : Calls Tryz.prog 123 #[.int .i64 x] w fun e w' => e = .returned (.int .i64 (l10 x)) ∧ w' = w := by
  go_enter Tryz.func123, Tryz.ntmps123
  go_wp2
  go_ret
  exact ⟨rfl, rfl⟩

theorem l2_any (x : Int) (h : -5000 ≤ x ∧ x ≤ 5000) (w : World) : Calls Tryz.prog 155 #[.int .i64 x] w fun e w' => e = .returned (.int .i64 (l2 x)) ∧ w' = w := by
  go_enter Tryz.func155, Tryz.ntmps155
  go_wp2
  go_ret
  exact ⟨rfl, rfl⟩

theorem skw_any (x : Int) (h : -5000 ≤ x ∧ x ≤ 5000) (w : World) : Calls Tryz.prog 153 #[.int .i64 x] w fun e w' => e = .returned (.int .i64 (skw x)) ∧ w' = w := by
  go_enter Tryz.func153, Tryz.ntmps153
  go_wp2
  go_ret
  exact ⟨rfl, rfl⟩

theorem nudgeP_any (u o : Nat) (w : World) (h : u < 4611686018427387904) (ho : o ≤ 1) : Calls Tryz.prog 157 #[.int .u64 (u : Int), .int .i64 (o : Int)] w fun e w' => e = .returned (.int .u64 ((u + o : Nat) : Int)) ∧ w' = w := by
  have h1 : IntKind.u64.wrap (o : Int) = (o : Int) := wraps64 _ (by omega) (by omega)
  go_enter Tryz.func157, Tryz.ntmps157
  go_wp2
  go_ret
  refine ⟨?_, rfl⟩
  simp

theorem nudgeM_any (u o : Nat) (w : World) (h : u < 4611686018427387904) (hu : o ≤ u) (ho : o ≤ 1) : Calls Tryz.prog 157 #[.int .u64 (u : Int), .int .i64 (-(o : Int))] w fun e w' => e = .returned (.int .u64 ((u - o : Nat) : Int)) ∧ w' = w := by
  have h0 : IntKind.u64.wrap ((u : Int) + IntKind.u64.wrap (-(o : Int))) = ((u - o : Nat) : Int) := by
    rw [IntKind.wrap_u64, IntKind.wrap_u64]
    omega
  obtain ⟨r, er⟩ : ∃ r, u - o = r := ⟨_, rfl⟩
  rw [er] at h0 ⊢
  obtain ⟨d, ed⟩ : ∃ d : Int, -(o : Int) = d := ⟨_, rfl⟩
  rw [ed] at h0 ⊢
  clear ed er hu ho h
  go_enter Tryz.func157, Tryz.ntmps157
  go_wp2
  go_ret
  exact ⟨rfl, rfl⟩

theorem ceil_any (u : Nat) (w : World) (h : u < 4611686018427387910) : Calls Tryz.prog 158 #[.int .u64 (u : Int)] w fun e w' => e = .returned (.int .u64 (((u + 3) / 4 : Nat) : Int)) ∧ w' = w := by
  go_enter Tryz.func158, Tryz.ntmps158
  go_wp2
  go_ret
  refine ⟨?_, rfl⟩
  simp

theorem floor_any (u : Nat) (w : World) (h : u < 4611686018427387910) : Calls Tryz.prog 159 #[.int .u64 (u : Int)] w fun e w' => e = .returned (.int .u64 ((u / 4 : Nat) : Int)) ∧ w' = w := by
  go_enter Tryz.func159, Tryz.ntmps159
  go_wp2
  go_ret
  refine ⟨?_, rfl⟩
  simp

theorem and_one (a : Nat) (ha : a < 18446744073709551616) : bits .and .u64 (a : Int) 1 = ((a % 2 : Nat) : Int) := by
  have h := u64_and a 1 ha (by decide)
  rw [show ((1 : Nat) : Int) = 1 from rfl] at h
  rw [h, Nat.and_one_is_mod]

theorem round_any (u : Nat) (w : World) (h : u < 4611686018427387904) : Calls Tryz.prog 160 #[.int .u64 (u : Int)] w fun e w' => e = .returned (.int .u64 ((rnd4 u : Nat) : Int)) ∧ w' = w := by
  have h1 := and_one (u / 4) (by omega)
  have h2 : Hid ((u + 1 + u / 4 % 2) / 4 = rnd4 u) := hide rfl
  rw [show ((u / 4 : Nat) : Int) = (u : Int) / 4 by simp] at h1
  obtain ⟨p, ep⟩ : ∃ p, u / 4 % 2 = p := ⟨_, rfl⟩
  have hp : p ≤ 1 := by omega
  rw [ep] at h1 h2
  obtain ⟨R, eR⟩ : ∃ R, rnd4 u = R := ⟨_, rfl⟩
  rw [eR] at h2 ⊢
  clear ep eR
  go_enter Tryz.func160, Tryz.ntmps160
  go_wp2
  go_ret
  refine ⟨?_, rfl⟩
  have := h2.out
  simp
  omega

theorem b2_any (b : Bool) (w : World) : Calls Tryz.prog 144 #[.bool b] w fun e w' => e = .returned (.int .u64 ((b.toNat : Nat) : Int)) ∧ w' = w := by
  cases b
  · go_enter Tryz.func144, Tryz.ntmps144
    go_wp2
    go_ret
    exact ⟨rfl, rfl⟩
  · go_enter Tryz.func144, Tryz.ntmps144
    go_wp2
    go_ret
    exact ⟨rfl, rfl⟩

theorem run_shr (t : TypeId) (a s : Nat) (hs : s < 64) (w : World) : (binOp .shr t (.int .u64 (a : Int)) (.int .i64 (s : Int))).run Tryz.prog w = .ok (.int .u64 ((a / 2 ^ s : Nat) : Int)) w := by
  show (Op.shift .shr .u64 (a : Int) .i64 (s : Int)).run Tryz.prog w = _
  unfold Op.shift
  rw [if_neg (by omega)]
  have e : min ((s : Int)).toNat IntKind.u64.bits = s := by
    show min ((s : Int)).toNat 64 = s
    omega
  have h2 : (a : Int).fdiv (2 ^ s) = ((a / 2 ^ s : Nat) : Int) := by
    rw [Int.fdiv_eq_ediv_of_nonneg _ (Int.pow_nonneg (by decide))]
    simp
  simp only [e, h2]
  rfl

theorem run_shl (t : TypeId) (a s : Nat) (hs : s < 64) (ha : a * 2 ^ s < 18446744073709551616) (w : World) : (binOp .shl t (.int .u64 (a : Int)) (.int .i64 (s : Int))).run Tryz.prog w = .ok (.int .u64 ((a * 2 ^ s : Nat) : Int)) w := by
  show (Op.shift .shl .u64 (a : Int) .i64 (s : Int)).run Tryz.prog w = _
  unfold Op.shift
  rw [if_neg (by omega)]
  have e : min ((s : Int)).toNat IntKind.u64.bits = s := by
    show min ((s : Int)).toNat 64 = s
    omega
  have h2 : IntKind.u64.wrap ((a : Int) * 2 ^ s) = ((a * 2 ^ s : Nat) : Int) := by
    rw [show (a : Int) * 2 ^ s = ((a * 2 ^ s : Nat) : Int) by simp]
    exact wraps64 _ (by omega) (by omega)
  simp only [e, h2]
  rfl
end Go.Proofs.YtbengmceiaejeaaGreatDoor
/- The library's uscale at any word. -/
namespace Go.Proofs.YtbengmceiaejeaaGreatDoor
open Go.ChangeShapes Go.WideShapes Go.ChangeAt Go.RowKit

theorem and_63 : ∀ s : Fin 64, bits .and .i64 ((s.val : Nat) : Int) 63 = ((s.val : Nat) : Int) := by decide

theorem or_1 (a : Nat) (ha : a < 18446744073709551616) : bits .or .u64 (a : Int) 1 = ((a ||| 1 : Nat) : Int) := by
  have h := u64_or a 1 ha (by decide)
  rw [show ((1 : Nat) : Int) = 1 from rfl] at h
  exact h

theorem or_0 (a : Nat) (ha : a < 18446744073709551616) : bits .or .u64 (a : Int) 0 = (a : Int) := by
  have h := u64_or a 0 ha (by decide)
  rw [show ((0 : Nat) : Int) = 0 from rfl, Nat.or_zero] at h
  exact h

set_option maxRecDepth 100000 in
set_option maxHeartbeats 4000000 in
theorem us_any (B : Nat) (x hi lo s : Nat) (w : World) (hx : x < 18446744073709551616) (hhi : hi < 18446744073709551616) (hlo : lo < 18446744073709551616) (hl : lo < hi * 18446744073709551616) (hs : s < 64) (c0 : w.cell? ⟨B, 0, none⟩ = some (.int .u64 (hi : Int))) (c1 : w.cell? ⟨B, 1, none⟩ = some (.int .u64 (lo : Int))) (c2 : w.cell? ⟨B, 2, none⟩ = some (.int .i64 (s : Int))) :
    Calls Tryz.prog 156 #[.int .u64 (x : Int), .pointer (some ⟨B, 0, none⟩)] w fun e w' => e = .returned (.int .u64 ((usF x hi lo s : Nat) : Int)) ∧ ∃ n, w' = w.drewN n := by
  have hM1 := Tryz.bits_Mul64 x hi hx hhi
  have hM2 := Tryz.bits_Mul64 x lo hx hlo
  have hP : x * hi / 18446744073709551616 < 18446744073709551616 := by
    rw [Nat.div_lt_iff_lt_mul (by decide)]
    exact Nat.mul_lt_mul'' hx hhi
  have hP2 : x * hi % 18446744073709551616 < 18446744073709551616 := Nat.mod_lt _ (by decide)
  have hP3 : x * lo / 18446744073709551616 < 18446744073709551615 := by
    rw [Nat.div_lt_iff_lt_mul (by decide)]
    have h1 : x * lo ≤ 18446744073709551615 * 18446744073709551615 := Nat.mul_le_mul (by omega) (by omega)
    omega
  have hle : x * lo / 18446744073709551616 ≤ x * hi := by
    have h1 : x * lo ≤ x * (hi * 18446744073709551616) := Nat.mul_le_mul_left _ (by omega)
    rw [← Nat.mul_assoc] at h1
    omega
  have hdm := Nat.div_add_mod (x * hi) 18446744073709551616
  have eU : usF x hi lo s = if x * hi / 18446744073709551616 / 2 ^ s * 2 ^ s ≠ x * hi / 18446744073709551616 then x * hi / 18446744073709551616 / 2 ^ s ||| 1 else if x * hi % 18446744073709551616 < x * lo / 18446744073709551616 then (x * hi / 18446744073709551616 - 1) / 2 ^ s ||| 1 else if 1 < x * hi % 18446744073709551616 - x * lo / 18446744073709551616 then x * hi / 18446744073709551616 / 2 ^ s ||| 1 else x * hi / 18446744073709551616 / 2 ^ s := rfl
  obtain ⟨h, eh⟩ : ∃ h, x * hi / 18446744073709551616 = h := ⟨_, rfl⟩
  obtain ⟨mid, em⟩ : ∃ m, x * hi % 18446744073709551616 = m := ⟨_, rfl⟩
  obtain ⟨mid2, em2⟩ : ∃ m, x * lo / 18446744073709551616 = m := ⟨_, rfl⟩
  obtain ⟨low, elow⟩ : ∃ m, x * lo % 18446744073709551616 = m := ⟨_, rfl⟩
  rw [eh, em] at hM1 hdm
  rw [em2, elow] at hM2
  rw [eh, em, em2] at eU
  rw [eh] at hP
  rw [em] at hP2
  rw [em2] at hP3 hle
  have ha : bits .and .i64 (s : Int) 63 = (s : Int) := and_63 ⟨s, hs⟩
  have hdle : h / 2 ^ s ≤ h := Nat.div_le_self _ _
  have hmle : h / 2 ^ s * 2 ^ s ≤ h := Nat.div_mul_le_self _ _
  have S1 : (h : Int) / 2 ^ s = ((h / 2 ^ s : Nat) : Int) := by simp
  have S2 : IntKind.u64.wrap (((h / 2 ^ s : Nat) : Int) * 2 ^ s) = ((h / 2 ^ s * 2 ^ s : Nat) : Int) := by
    rw [show ((h / 2 ^ s : Nat) : Int) * 2 ^ s = ((h / 2 ^ s * 2 ^ s : Nat) : Int) by simp]
    exact wraps64 _ (by omega) (by omega)
  have O1 := or_1 (h / 2 ^ s) (by omega)
  have O0 := or_0 (h / 2 ^ s) (by omega)
  obtain ⟨k, ek⟩ : ∃ k, h / 2 ^ s = k := ⟨_, rfl⟩
  rw [ek] at S1 S2 O1 O0 eU hdle hmle
  obtain ⟨kk, ekk⟩ : ∃ kk, k * 2 ^ s = kk := ⟨_, rfl⟩
  rw [ekk] at S2 eU hmle
  obtain ⟨R, eR⟩ : ∃ R, usF x hi lo s = R := ⟨_, rfl⟩
  rw [eR] at eU ⊢
  by_cases hne : kk = h
  · have hneI : ((kk : Int) != (h : Int)) = false := by simp [hne]
    rw [if_neg (by simpa using hne)] at eU
    rcases Nat.lt_or_ge mid mid2 with hm | hm
    · rw [if_pos hm] at eU
      have h1 : 1 ≤ h := by
        rcases Nat.eq_zero_or_pos h with h0 | h0
        · subst h0; omega
        · exact h0
      have hb : decide ((mid : Int) < (mid2 : Int)) = true := decide_eq_true (by omega)
      have S3 : ((h - 1 : Nat) : Int) / 2 ^ s = (((h - 1) / 2 ^ s : Nat) : Int) := by simp
      have hd3 : (h - 1) / 2 ^ s ≤ h - 1 := Nat.div_le_self _ _
      have O3 := or_1 ((h - 1) / 2 ^ s) (by omega)
      obtain ⟨k3, ek3⟩ : ∃ k, (h - 1) / 2 ^ s = k := ⟨_, rfl⟩
      rw [ek3] at S3 O3 eU
      obtain ⟨h3, eh3⟩ : ∃ h3, h - 1 = h3 := ⟨_, rfl⟩
      rw [eh3] at S3
      have hI : (h : Int) - 1 = (h3 : Int) := by omega
      have hwr : IntKind.u64.wrap ((mid : Int) - (mid2 : Int)) = (mid : Int) - (mid2 : Int) + 18446744073709551616 := by rw [IntKind.wrap_u64]; omega
      have hg : decide ((1 : Int) < (mid : Int) - (mid2 : Int) + 18446744073709551616) = true := decide_eq_true (by omega)
      obtain ⟨df, edf⟩ : ∃ d : Int, (mid : Int) - (mid2 : Int) + 18446744073709551616 = d := ⟨_, rfl⟩
      rw [edf] at hwr hg
      obtain ⟨K, eK⟩ : ∃ K, k3 ||| 1 = K := ⟨_, rfl⟩
      rw [eK] at O3 eU
      subst eU
      clear eh em em2 elow hdm hle ek ekk eR ek3 eh3 edf hd3 hdle hmle hne hl eK O1 O0
      go_enter Tryz.func156, Tryz.ntmps156
      go_wp2_with (first
        | (go_at_call 68; refine (hM1 _).mono ?_; rintro e w' ⟨rfl, rfl⟩; clear hM1)
        | (go_at_call 68; refine (hM2 _).mono ?_; rintro e w' ⟨rfl, rfl⟩; clear hM2)
        | (go_at_call 144; refine (b2_any _ _).mono ?_; rintro e w' ⟨rfl, rfl⟩))
      go_region_with (go_at_call 144; refine (b2_any _ _).mono ?_; rintro e w' ⟨rfl, rfl⟩)
      go_wp2
      go_ret
      exact ⟨rfl, 1, rfl⟩
    · rw [if_neg (by omega)] at eU
      have hb : decide ((mid : Int) < (mid2 : Int)) = false := decide_eq_false (by omega)
      have hb2 : decide (mid < mid2) = false := decide_eq_false (by omega)
      by_cases hd : 1 < mid - mid2
      · rw [if_pos hd] at eU
        have hg : decide ((1 : Int) < (mid : Int) - (mid2 : Int)) = true := decide_eq_true (by omega)
        obtain ⟨df, edf⟩ : ∃ d : Int, (mid : Int) - (mid2 : Int) = d := ⟨_, rfl⟩
        have hwr : IntKind.u64.wrap df = df := wraps64 _ (by omega) (by omega)
        rw [edf] at hg
        obtain ⟨K, eK⟩ : ∃ K, k ||| 1 = K := ⟨_, rfl⟩
        rw [eK] at O1 eU
        subst eU
        clear eh em em2 elow hdm hle ek ekk eR hdle hmle hne hl eK O0 hm hd
        go_enter Tryz.func156, Tryz.ntmps156
        go_wp2_with (first
          | (go_at_call 68; refine (hM1 _).mono ?_; rintro e w' ⟨rfl, rfl⟩; clear hM1)
          | (go_at_call 68; refine (hM2 _).mono ?_; rintro e w' ⟨rfl, rfl⟩; clear hM2)
          | (go_at_call 144; refine (b2_any _ _).mono ?_; rintro e w' ⟨rfl, rfl⟩))
        go_region_with (go_at_call 144; refine (b2_any _ _).mono ?_; rintro e w' ⟨rfl, rfl⟩)
        go_wp2
        go_ret
        exact ⟨rfl, 1, rfl⟩
      · rw [if_neg hd] at eU
        have hg : decide ((1 : Int) < (mid : Int) - (mid2 : Int)) = false := decide_eq_false (by omega)
        obtain ⟨df, edf⟩ : ∃ d : Int, (mid : Int) - (mid2 : Int) = d := ⟨_, rfl⟩
        have hwr : IntKind.u64.wrap df = df := wraps64 _ (by omega) (by omega)
        rw [edf] at hg
        subst eU
        clear eh em em2 elow hdm hle ek ekk eR hdle hmle hne hl hm hd
        go_enter Tryz.func156, Tryz.ntmps156
        go_wp2_with (first
          | (go_at_call 68; refine (hM1 _).mono ?_; rintro e w' ⟨rfl, rfl⟩; clear hM1)
          | (go_at_call 68; refine (hM2 _).mono ?_; rintro e w' ⟨rfl, rfl⟩; clear hM2)
          | (go_at_call 144; refine (b2_any _ _).mono ?_; rintro e w' ⟨rfl, rfl⟩))
        go_region_with (go_at_call 144; refine (b2_any _ _).mono ?_; rintro e w' ⟨rfl, rfl⟩)
        go_wp2
        go_ret
        exact ⟨rfl, 1, rfl⟩
  · have hneI : ((kk : Int) != (h : Int)) = true := by simp; omega
    rw [if_pos hne] at eU
    obtain ⟨K, eK⟩ : ∃ K, k ||| 1 = K := ⟨_, rfl⟩
    rw [eK] at O1 eU
    subst eU
    clear eh em em2 elow hdm hle ek ekk eR hdle hmle hne hl eK O0
    go_enter Tryz.func156, Tryz.ntmps156
    go_wp2_with (first
      | (go_at_call 68; refine (hM1 _).mono ?_; rintro e w' ⟨rfl, rfl⟩; clear hM1))
    go_ret
    exact ⟨rfl, 0, rfl⟩
end Go.Proofs.YtbengmceiaejeaaGreatDoor
/- The table, and the scaling of a number. -/
namespace Go.Proofs.YtbengmceiaejeaaGreatDoor
open Go.ChangeShapes Go.WideShapes Go.ChangeAt Go.RowKit

/-- What is read of the library's variables. -/
structure RdyT (w : World) : Prop where
  m : ∃ m, w.cell? ⟨3, 0, none⟩ = some (.int .i64 m)
  tens : ∀ i, i < 20 → w.cell? ⟨9, i, none⟩ = some (.int .u64 ((10 ^ i : Nat) : Int))
  hi : ∀ i, i < 696 → w.cell? ⟨13, i * 2, none⟩ = some (.int .u64 (((Go.Pinned.pow10Rows.getD i (0, 0)).1 : Nat) : Int))
  lo : ∀ i, i < 696 → w.cell? ⟨13, i * 2 + 1, none⟩ = some (.int .u64 (((Go.Pinned.pow10Rows.getD i (0, 0)).2 : Nat) : Int))
  s1 : 3 < w.heap.size
  s2 : 9 < w.heap.size
  s3 : 13 < w.heap.size

theorem pre_any (t : TypeId) (w : World) (R : RdyT w) (E p lp : Int) (i : Nat) (s : Int) (hE : -3000 ≤ E ∧ E ≤ 3000) (hp : p + 348 = (i : Int)) (hi : i < 696) (hl : -3000 ≤ lp ∧ lp ≤ 3000) (hs : -(E + lp + 3) = s) :
    Calls Tryz.prog 154 #[.pointer (some ⟨w.heap.size, 0, none⟩), .int .i64 E, .int .i64 p, .int .i64 lp] (w.alloc (.cells #[.int .u64 0, .int .u64 0, .int .i64 0] t)) fun e w' => e = .returned (.tuple #[]) ∧ w' = w.alloc (.cells #[.int .u64 (((Go.Pinned.pow10Rows.getD i (0, 0)).1 : Nat) : Int), .int .u64 (((Go.Pinned.pow10Rows.getD i (0, 0)).2 : Nat) : Int), .int .i64 s] t) := by
  have h1 : ∀ o, (w.alloc o).cell? ⟨13, i * 2, none⟩ = some (.int .u64 (((Go.Pinned.pow10Rows.getD i (0, 0)).1 : Nat) : Int)) := by
    intro o
    rw [((Below.refl w.heap.size w).alloc (Nat.le_refl _) o).cell R.s3]; exact R.hi i hi
  have h2 : ∀ o, (w.alloc o).cell? ⟨13, i * 2 + 1, none⟩ = some (.int .u64 (((Go.Pinned.pow10Rows.getD i (0, 0)).2 : Nat) : Int)) := by
    intro o
    rw [((Below.refl w.heap.size w).alloc (Nat.le_refl _) o).cell R.s3]; exact R.lo i hi
  obtain ⟨H, eH⟩ : ∃ H, (Go.Pinned.pow10Rows.getD i (0, 0)).1 = H := ⟨_, rfl⟩
  obtain ⟨L, eL⟩ : ∃ H, (Go.Pinned.pow10Rows.getD i (0, 0)).2 = H := ⟨_, rfl⟩
  rw [eH] at h1 ⊢
  rw [eL] at h2 ⊢
  have hp2 : p - -348 = (i : Int) := by omega
  clear eH eL R
  go_enter Tryz.func154, Tryz.ntmps154
  go_wp2
  go_end0
  exact ⟨rfl, rfl⟩
end Go.Proofs.YtbengmceiaejeaaGreatDoor
/- The library's way to the fewest digits, walked: three ways to the borders, three ends. -/
namespace Go.Proofs.YtbengmceiaejeaaGreatDoor
open Go.ChangeShapes Go.WideShapes Go.ChangeAt Go.RowKit

def shD (dm dx r : Nat) : Nat := if dm ≤ dx / 10 * 10 then dx / 10 else if dm < dx then r else dm
def shT (dm dx : Nat) (K : Int) : Int := if dm ≤ dx / 10 * 10 then K + 1 else K

/-- A scaling of one word, with the table's row in a box. -/
def Scaled (x H L s U : Nat) : Prop := ∀ (B : Nat) (w : World), w.cell? ⟨B, 0, none⟩ = some (.int .u64 (H : Int)) → w.cell? ⟨B, 1, none⟩ = some (.int .u64 (L : Int)) → w.cell? ⟨B, 2, none⟩ = some (.int .i64 (s : Int)) → Calls Tryz.prog 156 #[.int .u64 (x : Int), .pointer (some ⟨B, 0, none⟩)] w fun e w' => e = .returned (.int .u64 (U : Int)) ∧ ∃ n, w' = w.drewN n

theorem Scaled.run {x H L s U : Nat} (h : Scaled x H L s U) (w : World) (t : TypeId) (n : Nat) : Calls Tryz.prog 156 #[.int .u64 (x : Int), .pointer (some ⟨w.heap.size, 0, none⟩)] ((w.alloc (.cells #[.int .u64 (H : Int), .int .u64 (L : Int), .int .i64 (s : Int)] t)).drewN n) fun e w' => e = .returned (.int .u64 (U : Int)) ∧ ∃ n, w' = (w.alloc (.cells #[.int .u64 (H : Int), .int .u64 (L : Int), .int .i64 (s : Int)] t)).drewN n := by
  refine (h w.heap.size _ ?_ ?_ ?_).mono ?_
  · show (w.alloc _).cell? _ = _
    simp
  · show (w.alloc _).cell? _ = _
    simp
  · show (w.alloc _).cell? _ = _
    simp
  · rintro e w' ⟨rfl, k, rfl⟩
    exact ⟨rfl, n + k, by simp [World.drewN, Nat.add_assoc]⟩

set_option maxRecDepth 100000 in
set_option maxHeartbeats 8000000 in
theorem short_two (w : World) (X x0 x1 : Nat) (E q K : Int) (H L s o U0 U1 U2 m : Nat)
    (hX : X < 18446744073709551616) (hx1 : x1 < 18446744073709551616) (hm53 : m < 9007199254740992) (hq : -1074 ≤ q ∧ q ≤ 971) (hK2 : -348 ≤ K ∧ K ≤ 347) (ho : bits .and .i64 (m : Int) 1 = (o : Int)) (ho1 : o ≤ 1)
    (bx : Bool) (hbx : ((X : Int) == 9223372036854775808) = bx) (hb2 : bx = true → E = -1085) (hE : -1085 ≤ E) (hEq : E + 11 = q) (hK : l10 q = K) (e0 : (X : Int) - 1024 = (x0 : Int)) (e1 : (X : Int) + 1024 = (x1 : Int)) (hm : (X : Int) / 2048 = (m : Int))
    (V0 : Scaled x0 H L s U0) (V1 : Scaled x1 H L s U1) (V2 : Scaled X H L s U2)
    (PR : ∀ t, Calls Tryz.prog 154 #[.pointer (some ⟨w.heap.size, 0, none⟩), .int .i64 E, .int .i64 (-K), .int .i64 (l2 (-K))] (w.alloc (.cells #[.int .u64 0, .int .u64 0, .int .i64 0] t)) fun e w' => e = .returned (.tuple #[]) ∧ w' = w.alloc (.cells #[.int .u64 (H : Int), .int .u64 (L : Int), .int .i64 (s : Int)] t))
    (hU0 : U0 < 4611686018427387900) (hU1 : U1 < 4611686018427387900) (hU2 : U2 < 4611686018427387900) (hU1o : o ≤ U1) :
    Calls Tryz.prog 128 #[.int .u64 (X : Int), .int .i64 E] w fun e w' => e = .returned (.tuple #[.int .u64 ((shD ((U0 + o + 3) / 4) ((U1 - o) / 4) (rnd4 U2) : Nat) : Int), .int .i64 (shT ((U0 + o + 3) / 4) ((U1 - o) / 4) K)]) ∧ Below w.heap.size w w' := by
  have L10 := l10_any q (by omega)
  rw [hK] at L10
  have P2 := l2_any (-K) (by omega)
  have hlp : -2000 ≤ l2 (-K) ∧ l2 (-K) ≤ 2000 := by unfold l2; omega
  obtain ⟨lp, elp⟩ : ∃ lp, l2 (-K) = lp := ⟨_, rfl⟩
  rw [elp] at P2 PR hlp
  obtain ⟨p, ep⟩ : ∃ p, -K = p := ⟨_, rfl⟩
  have hp : -400 ≤ p ∧ p ≤ 400 := by omega
  have hpK : -p = K := by omega
  have hpK1 : -(p - 1) = K + 1 := by omega
  rw [ep] at P2 PR
  have NP := fun w => nudgeP_any U0 o w (by omega) ho1
  have NM := fun w => nudgeM_any U1 o w (by omega) hU1o ho1
  have CE := fun w => ceil_any (U0 + o) w (by omega)
  have FL := fun w => floor_any (U1 - o) w (by omega)
  have RN := fun w => round_any U2 w (by omega)
  have hrn : rnd4 U2 < 4611686018427387904 := by unfold rnd4; omega
  have hdm : (U0 + o + 3) / 4 < 4611686018427387904 := by omega
  have hdx : (U1 - o) / 4 < 4611686018427387904 := by omega
  obtain ⟨u0, eu0⟩ : ∃ u, U0 + o = u := ⟨_, rfl⟩
  obtain ⟨u1, eu1⟩ : ∃ u, U1 - o = u := ⟨_, rfl⟩
  obtain ⟨r2, er2⟩ : ∃ u, rnd4 U2 = u := ⟨_, rfl⟩
  rw [eu0] at NP CE hdm ⊢
  rw [eu1] at NM FL hdx ⊢
  rw [er2] at RN hrn ⊢
  obtain ⟨dm, edm⟩ : ∃ u, (u0 + 3) / 4 = u := ⟨_, rfl⟩
  obtain ⟨dx, edx⟩ : ∃ u, u1 / 4 = u := ⟨_, rfl⟩
  rw [edm] at CE hdm ⊢
  rw [edx] at FL hdx ⊢
  have hd10 : (dx : Int) / 10 = ((dx / 10 : Nat) : Int) := by simp
  have hd11 : ((dx / 10 : Nat) : Int) * 10 = ((dx / 10 * 10 : Nat) : Int) := by simp
  have hdle : dx / 10 ≤ dx := Nat.div_le_self _ _
  have hdle2 : dx / 10 * 10 ≤ dx := Nat.div_mul_le_self _ _
  have hSD : shD dm dx r2 = if dm ≤ dx / 10 * 10 then dx / 10 else if dm < dx then r2 else dm := rfl
  have hST : shT dm dx K = if dm ≤ dx / 10 * 10 then K + 1 else K := rfl
  obtain ⟨d, ed⟩ : ∃ d, dx / 10 = d := ⟨_, rfl⟩
  rw [ed] at hd10 hd11 hSD hdle hdle2 hST
  obtain ⟨dd, edd⟩ : ∃ d', d * 10 = d' := ⟨_, rfl⟩
  rw [edd] at hd11 hSD hST hdle2
  obtain ⟨sD, esD⟩ : ∃ x, shD dm dx r2 = x := ⟨_, rfl⟩
  obtain ⟨sT, esT⟩ : ∃ x, shT dm dx K = x := ⟨_, rfl⟩
  rw [esD] at hSD ⊢
  rw [esT] at hST ⊢
  have bA : Below w.heap.size w w := Below.refl _ _
  clear elp eu0 eu1 er2 edm edx ed edd esD esT hK2 hU1o
  have hEb : E ≤ 1000 := by omega
  have hge : decide ((-1085 : Int) ≤ E) = true := decide_eq_true hE
  have hgt : bx = true → decide ((-1085 : Int) < E) = false := fun h => decide_eq_false (by have := hb2 h; omega)
  clear hK hb2
  cases bx
  all_goals
   try have hgt2 := hgt rfl
   clear hgt
   rcases Nat.lt_or_ge dd dm with hc | hc
   · rw [if_neg (by omega)] at hSD hST
     have hcI : decide ((dm : Int) ≤ (dd : Int)) = false := decide_eq_false (by omega)
     have hcN : decide (dm ≤ dd) = false := decide_eq_false (by omega)
     subst hST
     rcases Nat.lt_or_ge dm dx with hc2 | hc2
     · rw [if_pos hc2] at hSD
       have hcI2 : decide ((dm : Int) < (dx : Int)) = true := decide_eq_true (by omega)
       have hcN2 : decide (dm < dx) = true := decide_eq_true hc2
       subst hSD
       clear hc hc2
       go_enter Tryz.func128, Tryz.ntmps128
       go_wp2_with (first
         | (go_at_call 123; refine (L10 _).mono ?_; rintro e w' ⟨rfl, rfl⟩; clear L10)
         | (go_at_call 155; refine (P2 _).mono ?_; rintro e w' ⟨rfl, rfl⟩; clear P2)
         | (go_at_call 154; refine (PR _).mono ?_; rintro e w' ⟨rfl, rfl⟩; clear PR)
         | (go_at_call 156; refine (V0.run _ _ 0).mono ?_; rintro e w' ⟨rfl, n0, rfl⟩; clear V0)
         | (go_at_call 156; refine (V1.run _ _ _).mono ?_; rintro e w' ⟨rfl, n1, rfl⟩; clear V1)
         | (go_at_call 156; refine (V2.run _ _ _).mono ?_; rintro e w' ⟨rfl, n2, rfl⟩; clear V2)
         | (go_at_call 157; refine (NP _).mono ?_; rintro e w' ⟨rfl, rfl⟩; clear NP)
         | (go_at_call 157; refine (NM _).mono ?_; rintro e w' ⟨rfl, rfl⟩; clear NM)
         | (go_at_call 158; refine (CE _).mono ?_; rintro e w' ⟨rfl, rfl⟩)
         | (go_at_call 159; refine (FL _).mono ?_; rintro e w' ⟨rfl, rfl⟩)
         | (go_at_call 160; refine (RN _).mono ?_; rintro e w' ⟨rfl, rfl⟩))
       go_ret2
       exact ⟨rfl, (bA.alloc (Nat.le_refl _) _).trans (below_drewN _ _ _)⟩
     · rw [if_neg (by omega)] at hSD
       have hcI2 : decide ((dm : Int) < (dx : Int)) = false := decide_eq_false (by omega)
       have hcN2 : decide (dm < dx) = false := decide_eq_false (by omega)
       subst hSD
       clear hc hc2 V2 RN
       go_enter Tryz.func128, Tryz.ntmps128
       go_wp2_with (first
         | (go_at_call 123; refine (L10 _).mono ?_; rintro e w' ⟨rfl, rfl⟩; clear L10)
         | (go_at_call 155; refine (P2 _).mono ?_; rintro e w' ⟨rfl, rfl⟩; clear P2)
         | (go_at_call 154; refine (PR _).mono ?_; rintro e w' ⟨rfl, rfl⟩; clear PR)
         | (go_at_call 156; refine (V0.run _ _ 0).mono ?_; rintro e w' ⟨rfl, n0, rfl⟩; clear V0)
         | (go_at_call 156; refine (V1.run _ _ _).mono ?_; rintro e w' ⟨rfl, n1, rfl⟩; clear V1)
         | (go_at_call 156; refine (V2.run _ _ _).mono ?_; rintro e w' ⟨rfl, n2, rfl⟩; clear V2)
         | (go_at_call 157; refine (NP _).mono ?_; rintro e w' ⟨rfl, rfl⟩; clear NP)
         | (go_at_call 157; refine (NM _).mono ?_; rintro e w' ⟨rfl, rfl⟩; clear NM)
         | (go_at_call 158; refine (CE _).mono ?_; rintro e w' ⟨rfl, rfl⟩)
         | (go_at_call 159; refine (FL _).mono ?_; rintro e w' ⟨rfl, rfl⟩)
         | (go_at_call 160; refine (RN _).mono ?_; rintro e w' ⟨rfl, rfl⟩))
       go_ret2
       exact ⟨rfl, (bA.alloc (Nat.le_refl _) _).trans (below_drewN _ _ _)⟩
   · rw [if_pos hc] at hSD hST
     have hcI : decide ((dm : Int) ≤ (dd : Int)) = true := decide_eq_true (by omega)
     have hcN : decide (dm ≤ dd) = true := decide_eq_true hc
     subst hST
     subst hSD
     clear hc V2 RN
     go_enter Tryz.func128, Tryz.ntmps128
     go_wp2_with (first
       | (go_at_call 123; refine (L10 _).mono ?_; rintro e w' ⟨rfl, rfl⟩; clear L10)
       | (go_at_call 155; refine (P2 _).mono ?_; rintro e w' ⟨rfl, rfl⟩; clear P2)
       | (go_at_call 154; refine (PR _).mono ?_; rintro e w' ⟨rfl, rfl⟩; clear PR)
       | (go_at_call 156; refine (V0.run _ _ 0).mono ?_; rintro e w' ⟨rfl, n0, rfl⟩; clear V0)
       | (go_at_call 156; refine (V1.run _ _ _).mono ?_; rintro e w' ⟨rfl, n1, rfl⟩; clear V1)
       | (go_at_call 156; refine (V2.run _ _ _).mono ?_; rintro e w' ⟨rfl, n2, rfl⟩; clear V2)
       | (go_at_call 157; refine (NP _).mono ?_; rintro e w' ⟨rfl, rfl⟩; clear NP)
       | (go_at_call 157; refine (NM _).mono ?_; rintro e w' ⟨rfl, rfl⟩; clear NM)
       | (go_at_call 158; refine (CE _).mono ?_; rintro e w' ⟨rfl, rfl⟩)
       | (go_at_call 159; refine (FL _).mono ?_; rintro e w' ⟨rfl, rfl⟩)
       | (go_at_call 160; refine (RN _).mono ?_; rintro e w' ⟨rfl, rfl⟩))
     go_ret2
     exact ⟨rfl, (bA.alloc (Nat.le_refl _) _).trans (below_drewN _ _ _)⟩

set_option maxRecDepth 100000 in
set_option maxHeartbeats 8000000 in
theorem short_one (w : World) (X x0 x1 : Nat) (E q K : Int) (H L s o U0 U1 U2 m : Nat)
    (hX : X < 18446744073709551616) (hx1 : x1 < 18446744073709551616) (hm53 : m < 9007199254740992) (hq : -1074 ≤ q ∧ q ≤ 971) (hK2 : -348 ≤ K ∧ K ≤ 347) (ho : bits .and .i64 (m : Int) 1 = (o : Int)) (ho1 : o ≤ 1)
    (hE : -1085 < E) (hEq : E + 11 = q) (hns : ((X : Int) == 9223372036854775808) = true) (hK : skw q = K) (e0 : (X : Int) - 512 = (x0 : Int)) (e1 : (X : Int) + 1024 = (x1 : Int)) (hm : (X : Int) / 2048 = (m : Int))
    (V0 : Scaled x0 H L s U0) (V1 : Scaled x1 H L s U1) (V2 : Scaled X H L s U2)
    (PR : ∀ t, Calls Tryz.prog 154 #[.pointer (some ⟨w.heap.size, 0, none⟩), .int .i64 E, .int .i64 (-K), .int .i64 (l2 (-K))] (w.alloc (.cells #[.int .u64 0, .int .u64 0, .int .i64 0] t)) fun e w' => e = .returned (.tuple #[]) ∧ w' = w.alloc (.cells #[.int .u64 (H : Int), .int .u64 (L : Int), .int .i64 (s : Int)] t))
    (hU0 : U0 < 4611686018427387900) (hU1 : U1 < 4611686018427387900) (hU2 : U2 < 4611686018427387900) (hU1o : o ≤ U1) :
    Calls Tryz.prog 128 #[.int .u64 (X : Int), .int .i64 E] w fun e w' => e = .returned (.tuple #[.int .u64 ((shD ((U0 + o + 3) / 4) ((U1 - o) / 4) (rnd4 U2) : Nat) : Int), .int .i64 (shT ((U0 + o + 3) / 4) ((U1 - o) / 4) K)]) ∧ Below w.heap.size w w' := by
  have L10 := skw_any q (by omega)
  rw [hK] at L10
  have P2 := l2_any (-K) (by omega)
  have hlp : -2000 ≤ l2 (-K) ∧ l2 (-K) ≤ 2000 := by unfold l2; omega
  obtain ⟨lp, elp⟩ : ∃ lp, l2 (-K) = lp := ⟨_, rfl⟩
  rw [elp] at P2 PR hlp
  obtain ⟨p, ep⟩ : ∃ p, -K = p := ⟨_, rfl⟩
  have hp : -400 ≤ p ∧ p ≤ 400 := by omega
  have hpK : -p = K := by omega
  have hpK1 : -(p - 1) = K + 1 := by omega
  rw [ep] at P2 PR
  have NP := fun w => nudgeP_any U0 o w (by omega) ho1
  have NM := fun w => nudgeM_any U1 o w (by omega) hU1o ho1
  have CE := fun w => ceil_any (U0 + o) w (by omega)
  have FL := fun w => floor_any (U1 - o) w (by omega)
  have RN := fun w => round_any U2 w (by omega)
  have hrn : rnd4 U2 < 4611686018427387904 := by unfold rnd4; omega
  have hdm : (U0 + o + 3) / 4 < 4611686018427387904 := by omega
  have hdx : (U1 - o) / 4 < 4611686018427387904 := by omega
  obtain ⟨u0, eu0⟩ : ∃ u, U0 + o = u := ⟨_, rfl⟩
  obtain ⟨u1, eu1⟩ : ∃ u, U1 - o = u := ⟨_, rfl⟩
  obtain ⟨r2, er2⟩ : ∃ u, rnd4 U2 = u := ⟨_, rfl⟩
  rw [eu0] at NP CE hdm ⊢
  rw [eu1] at NM FL hdx ⊢
  rw [er2] at RN hrn ⊢
  obtain ⟨dm, edm⟩ : ∃ u, (u0 + 3) / 4 = u := ⟨_, rfl⟩
  obtain ⟨dx, edx⟩ : ∃ u, u1 / 4 = u := ⟨_, rfl⟩
  rw [edm] at CE hdm ⊢
  rw [edx] at FL hdx ⊢
  have hd10 : (dx : Int) / 10 = ((dx / 10 : Nat) : Int) := by simp
  have hd11 : ((dx / 10 : Nat) : Int) * 10 = ((dx / 10 * 10 : Nat) : Int) := by simp
  have hdle : dx / 10 ≤ dx := Nat.div_le_self _ _
  have hdle2 : dx / 10 * 10 ≤ dx := Nat.div_mul_le_self _ _
  have hSD : shD dm dx r2 = if dm ≤ dx / 10 * 10 then dx / 10 else if dm < dx then r2 else dm := rfl
  have hST : shT dm dx K = if dm ≤ dx / 10 * 10 then K + 1 else K := rfl
  obtain ⟨d, ed⟩ : ∃ d, dx / 10 = d := ⟨_, rfl⟩
  rw [ed] at hd10 hd11 hSD hdle hdle2 hST
  obtain ⟨dd, edd⟩ : ∃ d', d * 10 = d' := ⟨_, rfl⟩
  rw [edd] at hd11 hSD hST hdle2
  obtain ⟨sD, esD⟩ : ∃ x, shD dm dx r2 = x := ⟨_, rfl⟩
  obtain ⟨sT, esT⟩ : ∃ x, shT dm dx K = x := ⟨_, rfl⟩
  rw [esD] at hSD ⊢
  rw [esT] at hST ⊢
  have bA : Below w.heap.size w w := Below.refl _ _
  clear elp eu0 eu1 er2 edm edx ed edd esD esT hK2 hU1o
  have hEb : E ≤ 1000 := by omega
  have hge : decide ((-1085 : Int) < E) = true := decide_eq_true hE
  clear hK
  rcases Nat.lt_or_ge dd dm with hc | hc
  · rw [if_neg (by omega)] at hSD hST
    have hcI : decide ((dm : Int) ≤ (dd : Int)) = false := decide_eq_false (by omega)
    have hcN : decide (dm ≤ dd) = false := decide_eq_false (by omega)
    subst hST
    rcases Nat.lt_or_ge dm dx with hc2 | hc2
    · rw [if_pos hc2] at hSD
      have hcI2 : decide ((dm : Int) < (dx : Int)) = true := decide_eq_true (by omega)
      have hcN2 : decide (dm < dx) = true := decide_eq_true hc2
      subst hSD
      clear hc hc2
      go_enter Tryz.func128, Tryz.ntmps128
      go_wp2_with (first
        | (go_at_call 153; refine (L10 _).mono ?_; rintro e w' ⟨rfl, rfl⟩; clear L10)
        | (go_at_call 155; refine (P2 _).mono ?_; rintro e w' ⟨rfl, rfl⟩; clear P2)
        | (go_at_call 154; refine (PR _).mono ?_; rintro e w' ⟨rfl, rfl⟩; clear PR)
        | (go_at_call 156; refine (V0.run _ _ 0).mono ?_; rintro e w' ⟨rfl, n0, rfl⟩; clear V0)
        | (go_at_call 156; refine (V1.run _ _ _).mono ?_; rintro e w' ⟨rfl, n1, rfl⟩; clear V1)
        | (go_at_call 156; refine (V2.run _ _ _).mono ?_; rintro e w' ⟨rfl, n2, rfl⟩; clear V2)
        | (go_at_call 157; refine (NP _).mono ?_; rintro e w' ⟨rfl, rfl⟩; clear NP)
        | (go_at_call 157; refine (NM _).mono ?_; rintro e w' ⟨rfl, rfl⟩; clear NM)
        | (go_at_call 158; refine (CE _).mono ?_; rintro e w' ⟨rfl, rfl⟩)
        | (go_at_call 159; refine (FL _).mono ?_; rintro e w' ⟨rfl, rfl⟩)
        | (go_at_call 160; refine (RN _).mono ?_; rintro e w' ⟨rfl, rfl⟩))
      go_ret2
      exact ⟨rfl, (bA.alloc (Nat.le_refl _) _).trans (below_drewN _ _ _)⟩
    · rw [if_neg (by omega)] at hSD
      have hcI2 : decide ((dm : Int) < (dx : Int)) = false := decide_eq_false (by omega)
      have hcN2 : decide (dm < dx) = false := decide_eq_false (by omega)
      subst hSD
      clear hc hc2 V2 RN
      go_enter Tryz.func128, Tryz.ntmps128
      go_wp2_with (first
        | (go_at_call 153; refine (L10 _).mono ?_; rintro e w' ⟨rfl, rfl⟩; clear L10)
        | (go_at_call 155; refine (P2 _).mono ?_; rintro e w' ⟨rfl, rfl⟩; clear P2)
        | (go_at_call 154; refine (PR _).mono ?_; rintro e w' ⟨rfl, rfl⟩; clear PR)
        | (go_at_call 156; refine (V0.run _ _ 0).mono ?_; rintro e w' ⟨rfl, n0, rfl⟩; clear V0)
        | (go_at_call 156; refine (V1.run _ _ _).mono ?_; rintro e w' ⟨rfl, n1, rfl⟩; clear V1)
        | (go_at_call 156; refine (V2.run _ _ _).mono ?_; rintro e w' ⟨rfl, n2, rfl⟩; clear V2)
        | (go_at_call 157; refine (NP _).mono ?_; rintro e w' ⟨rfl, rfl⟩; clear NP)
        | (go_at_call 157; refine (NM _).mono ?_; rintro e w' ⟨rfl, rfl⟩; clear NM)
        | (go_at_call 158; refine (CE _).mono ?_; rintro e w' ⟨rfl, rfl⟩)
        | (go_at_call 159; refine (FL _).mono ?_; rintro e w' ⟨rfl, rfl⟩)
        | (go_at_call 160; refine (RN _).mono ?_; rintro e w' ⟨rfl, rfl⟩))
      go_ret2
      exact ⟨rfl, (bA.alloc (Nat.le_refl _) _).trans (below_drewN _ _ _)⟩
  · rw [if_pos hc] at hSD hST
    have hcI : decide ((dm : Int) ≤ (dd : Int)) = true := decide_eq_true (by omega)
    have hcN : decide (dm ≤ dd) = true := decide_eq_true hc
    subst hST
    subst hSD
    clear hc V2 RN
    go_enter Tryz.func128, Tryz.ntmps128
    go_wp2_with (first
      | (go_at_call 153; refine (L10 _).mono ?_; rintro e w' ⟨rfl, rfl⟩; clear L10)
      | (go_at_call 155; refine (P2 _).mono ?_; rintro e w' ⟨rfl, rfl⟩; clear P2)
      | (go_at_call 154; refine (PR _).mono ?_; rintro e w' ⟨rfl, rfl⟩; clear PR)
      | (go_at_call 156; refine (V0.run _ _ 0).mono ?_; rintro e w' ⟨rfl, n0, rfl⟩; clear V0)
      | (go_at_call 156; refine (V1.run _ _ _).mono ?_; rintro e w' ⟨rfl, n1, rfl⟩; clear V1)
      | (go_at_call 156; refine (V2.run _ _ _).mono ?_; rintro e w' ⟨rfl, n2, rfl⟩; clear V2)
      | (go_at_call 157; refine (NP _).mono ?_; rintro e w' ⟨rfl, rfl⟩; clear NP)
      | (go_at_call 157; refine (NM _).mono ?_; rintro e w' ⟨rfl, rfl⟩; clear NM)
      | (go_at_call 158; refine (CE _).mono ?_; rintro e w' ⟨rfl, rfl⟩)
      | (go_at_call 159; refine (FL _).mono ?_; rintro e w' ⟨rfl, rfl⟩)
      | (go_at_call 160; refine (RN _).mono ?_; rintro e w' ⟨rfl, rfl⟩))
    go_ret2
    exact ⟨rfl, (bA.alloc (Nat.le_refl _) _).trans (below_drewN _ _ _)⟩
end Go.Proofs.YtbengmceiaejeaaGreatDoor
/- The library's way to the fewest digits, walked: of numbers below the least with all digits. -/
namespace Go.Proofs.YtbengmceiaejeaaGreatDoor
open Go.ChangeShapes Go.WideShapes Go.ChangeAt Go.RowKit

set_option maxRecDepth 100000 in
set_option maxHeartbeats 8000000 in
theorem short_three (w : World) (X x0 x1 : Nat) (E q K : Int) (H L s o U0 U1 U2 m : Nat)
    (hX : X < 18446744073709551616) (hx1 : x1 < 18446744073709551616) (hm53 : m < 9007199254740992) (_hq : -1074 ≤ q ∧ q ≤ 971) (hK2 : -348 ≤ K ∧ K ≤ 347) (ho : bits .and .i64 (m : Int) 1 = (o : Int)) (ho1 : o ≤ 1)
    (bx : Bool) (hbx : ((X : Int) == 9223372036854775808) = bx) (zn : Nat) (hE : E < -1085) (hE2 : -2000 ≤ E) (hz : 11 + (-1085 - E) = (zn : Int)) (hz2 : 11 ≤ zn ∧ zn < 64) (hEq : E + (zn : Int) = q) (hK : l10 q = K) (y : Nat) (hy : (2 : Int) ^ (zn - 1) = (y : Int)) (hyb : y < 9223372036854775809) (e0 : (X : Int) - (y : Int) = (x0 : Int)) (e1 : (X : Int) + (y : Int) = (x1 : Int)) (hm : (X : Int) / 2 ^ zn = (m : Int))
    (V0 : Scaled x0 H L s U0) (V1 : Scaled x1 H L s U1) (V2 : Scaled X H L s U2)
    (PR : ∀ t, Calls Tryz.prog 154 #[.pointer (some ⟨w.heap.size, 0, none⟩), .int .i64 E, .int .i64 (-K), .int .i64 (l2 (-K))] (w.alloc (.cells #[.int .u64 0, .int .u64 0, .int .i64 0] t)) fun e w' => e = .returned (.tuple #[]) ∧ w' = w.alloc (.cells #[.int .u64 (H : Int), .int .u64 (L : Int), .int .i64 (s : Int)] t))
    (hU0 : U0 < 4611686018427387900) (hU1 : U1 < 4611686018427387900) (hU2 : U2 < 4611686018427387900) (hU1o : o ≤ U1) :
    Calls Tryz.prog 128 #[.int .u64 (X : Int), .int .i64 E] w fun e w' => e = .returned (.tuple #[.int .u64 ((shD ((U0 + o + 3) / 4) ((U1 - o) / 4) (rnd4 U2) : Nat) : Int), .int .i64 (shT ((U0 + o + 3) / 4) ((U1 - o) / 4) K)]) ∧ Below w.heap.size w w' := by
  have L10 := l10_any q (by omega)
  rw [hK] at L10
  have P2 := l2_any (-K) (by omega)
  have hlp : -2000 ≤ l2 (-K) ∧ l2 (-K) ≤ 2000 := by unfold l2; omega
  obtain ⟨lp, elp⟩ : ∃ lp, l2 (-K) = lp := ⟨_, rfl⟩
  rw [elp] at P2 PR hlp
  obtain ⟨p, ep⟩ : ∃ p, -K = p := ⟨_, rfl⟩
  have hp : -400 ≤ p ∧ p ≤ 400 := by omega
  have hpK : -p = K := by omega
  have hpK1 : -(p - 1) = K + 1 := by omega
  rw [ep] at P2 PR
  have NP := fun w => nudgeP_any U0 o w (by omega) ho1
  have NM := fun w => nudgeM_any U1 o w (by omega) hU1o ho1
  have CE := fun w => ceil_any (U0 + o) w (by omega)
  have FL := fun w => floor_any (U1 - o) w (by omega)
  have RN := fun w => round_any U2 w (by omega)
  have hrn : rnd4 U2 < 4611686018427387904 := by unfold rnd4; omega
  have hdm : (U0 + o + 3) / 4 < 4611686018427387904 := by omega
  have hdx : (U1 - o) / 4 < 4611686018427387904 := by omega
  obtain ⟨u0, eu0⟩ : ∃ u, U0 + o = u := ⟨_, rfl⟩
  obtain ⟨u1, eu1⟩ : ∃ u, U1 - o = u := ⟨_, rfl⟩
  obtain ⟨r2, er2⟩ : ∃ u, rnd4 U2 = u := ⟨_, rfl⟩
  rw [eu0] at NP CE hdm ⊢
  rw [eu1] at NM FL hdx ⊢
  rw [er2] at RN hrn ⊢
  obtain ⟨dm, edm⟩ : ∃ u, (u0 + 3) / 4 = u := ⟨_, rfl⟩
  obtain ⟨dx, edx⟩ : ∃ u, u1 / 4 = u := ⟨_, rfl⟩
  rw [edm] at CE hdm ⊢
  rw [edx] at FL hdx ⊢
  have hd10 : (dx : Int) / 10 = ((dx / 10 : Nat) : Int) := by simp
  have hd11 : ((dx / 10 : Nat) : Int) * 10 = ((dx / 10 * 10 : Nat) : Int) := by simp
  have hdle : dx / 10 ≤ dx := Nat.div_le_self _ _
  have hdle2 : dx / 10 * 10 ≤ dx := Nat.div_mul_le_self _ _
  have hSD : shD dm dx r2 = if dm ≤ dx / 10 * 10 then dx / 10 else if dm < dx then r2 else dm := rfl
  have hST : shT dm dx K = if dm ≤ dx / 10 * 10 then K + 1 else K := rfl
  obtain ⟨d, ed⟩ : ∃ d, dx / 10 = d := ⟨_, rfl⟩
  rw [ed] at hd10 hd11 hSD hdle hdle2 hST
  obtain ⟨dd, edd⟩ : ∃ d', d * 10 = d' := ⟨_, rfl⟩
  rw [edd] at hd11 hSD hST hdle2
  obtain ⟨sD, esD⟩ : ∃ x, shD dm dx r2 = x := ⟨_, rfl⟩
  obtain ⟨sT, esT⟩ : ∃ x, shT dm dx K = x := ⟨_, rfl⟩
  rw [esD] at hSD ⊢
  rw [esT] at hST ⊢
  have bA : Below w.heap.size w w := Below.refl _ _
  clear elp eu0 eu1 er2 edm edx ed edd esD esT hK2 hU1o
  have hge : decide ((-1085 : Int) ≤ E) = false := decide_eq_false (by omega)
  have hgt : decide ((-1085 : Int) < E) = false := decide_eq_false (by omega)
  clear hK
  cases bx
  all_goals
   rcases Nat.lt_or_ge dd dm with hc | hc
   · rw [if_neg (by omega)] at hSD hST
     have hcI : decide ((dm : Int) ≤ (dd : Int)) = false := decide_eq_false (by omega)
     have hcN : decide (dm ≤ dd) = false := decide_eq_false (by omega)
     subst hST
     rcases Nat.lt_or_ge dm dx with hc2 | hc2
     · rw [if_pos hc2] at hSD
       have hcI2 : decide ((dm : Int) < (dx : Int)) = true := decide_eq_true (by omega)
       have hcN2 : decide (dm < dx) = true := decide_eq_true hc2
       subst hSD
       clear hc hc2
       go_enter Tryz.func128, Tryz.ntmps128
       go_wp2_with (first
         | (go_at_call 123; refine (L10 _).mono ?_; rintro e w' ⟨rfl, rfl⟩; clear L10)
         | (go_at_call 155; refine (P2 _).mono ?_; rintro e w' ⟨rfl, rfl⟩; clear P2)
         | (go_at_call 154; refine (PR _).mono ?_; rintro e w' ⟨rfl, rfl⟩; clear PR)
         | (go_at_call 156; refine (V0.run _ _ 0).mono ?_; rintro e w' ⟨rfl, n0, rfl⟩; clear V0)
         | (go_at_call 156; refine (V1.run _ _ _).mono ?_; rintro e w' ⟨rfl, n1, rfl⟩; clear V1)
         | (go_at_call 156; refine (V2.run _ _ _).mono ?_; rintro e w' ⟨rfl, n2, rfl⟩; clear V2)
         | (go_at_call 157; refine (NP _).mono ?_; rintro e w' ⟨rfl, rfl⟩; clear NP)
         | (go_at_call 157; refine (NM _).mono ?_; rintro e w' ⟨rfl, rfl⟩; clear NM)
         | (go_at_call 158; refine (CE _).mono ?_; rintro e w' ⟨rfl, rfl⟩)
         | (go_at_call 159; refine (FL _).mono ?_; rintro e w' ⟨rfl, rfl⟩)
         | (go_at_call 160; refine (RN _).mono ?_; rintro e w' ⟨rfl, rfl⟩))
       go_ret2
       exact ⟨rfl, (bA.alloc (Nat.le_refl _) _).trans (below_drewN _ _ _)⟩
     · rw [if_neg (by omega)] at hSD
       have hcI2 : decide ((dm : Int) < (dx : Int)) = false := decide_eq_false (by omega)
       have hcN2 : decide (dm < dx) = false := decide_eq_false (by omega)
       subst hSD
       clear hc hc2 V2 RN
       go_enter Tryz.func128, Tryz.ntmps128
       go_wp2_with (first
         | (go_at_call 123; refine (L10 _).mono ?_; rintro e w' ⟨rfl, rfl⟩; clear L10)
         | (go_at_call 155; refine (P2 _).mono ?_; rintro e w' ⟨rfl, rfl⟩; clear P2)
         | (go_at_call 154; refine (PR _).mono ?_; rintro e w' ⟨rfl, rfl⟩; clear PR)
         | (go_at_call 156; refine (V0.run _ _ 0).mono ?_; rintro e w' ⟨rfl, n0, rfl⟩; clear V0)
         | (go_at_call 156; refine (V1.run _ _ _).mono ?_; rintro e w' ⟨rfl, n1, rfl⟩; clear V1)
         | (go_at_call 156; refine (V2.run _ _ _).mono ?_; rintro e w' ⟨rfl, n2, rfl⟩; clear V2)
         | (go_at_call 157; refine (NP _).mono ?_; rintro e w' ⟨rfl, rfl⟩; clear NP)
         | (go_at_call 157; refine (NM _).mono ?_; rintro e w' ⟨rfl, rfl⟩; clear NM)
         | (go_at_call 158; refine (CE _).mono ?_; rintro e w' ⟨rfl, rfl⟩)
         | (go_at_call 159; refine (FL _).mono ?_; rintro e w' ⟨rfl, rfl⟩)
         | (go_at_call 160; refine (RN _).mono ?_; rintro e w' ⟨rfl, rfl⟩))
       go_ret2
       exact ⟨rfl, (bA.alloc (Nat.le_refl _) _).trans (below_drewN _ _ _)⟩
   · rw [if_pos hc] at hSD hST
     have hcI : decide ((dm : Int) ≤ (dd : Int)) = true := decide_eq_true (by omega)
     have hcN : decide (dm ≤ dd) = true := decide_eq_true hc
     subst hST
     subst hSD
     clear hc V2 RN
     go_enter Tryz.func128, Tryz.ntmps128
     go_wp2_with (first
       | (go_at_call 123; refine (L10 _).mono ?_; rintro e w' ⟨rfl, rfl⟩; clear L10)
       | (go_at_call 155; refine (P2 _).mono ?_; rintro e w' ⟨rfl, rfl⟩; clear P2)
       | (go_at_call 154; refine (PR _).mono ?_; rintro e w' ⟨rfl, rfl⟩; clear PR)
       | (go_at_call 156; refine (V0.run _ _ 0).mono ?_; rintro e w' ⟨rfl, n0, rfl⟩; clear V0)
       | (go_at_call 156; refine (V1.run _ _ _).mono ?_; rintro e w' ⟨rfl, n1, rfl⟩; clear V1)
       | (go_at_call 156; refine (V2.run _ _ _).mono ?_; rintro e w' ⟨rfl, n2, rfl⟩; clear V2)
       | (go_at_call 157; refine (NP _).mono ?_; rintro e w' ⟨rfl, rfl⟩; clear NP)
       | (go_at_call 157; refine (NM _).mono ?_; rintro e w' ⟨rfl, rfl⟩; clear NM)
       | (go_at_call 158; refine (CE _).mono ?_; rintro e w' ⟨rfl, rfl⟩)
       | (go_at_call 159; refine (FL _).mono ?_; rintro e w' ⟨rfl, rfl⟩)
       | (go_at_call 160; refine (RN _).mono ?_; rintro e w' ⟨rfl, rfl⟩))
     go_ret2
     exact ⟨rfl, (bA.alloc (Nat.le_refl _) _).trans (below_drewN _ _ _)⟩
end Go.Proofs.YtbengmceiaejeaaGreatDoor
/- The library's way to the fewest digits, of any number. -/
namespace Go.Proofs.YtbengmceiaejeaaGreatDoor
open Go.ChangeShapes Go.WideShapes Go.ChangeAt Go.RowKit

theorem wrapi62 (n : Int) (h₀ : 0 ≤ n) (h₁ : n < 2 ^ 62) : IntKind.i64.wrap n = n := by
  rw [IntKind.wrap_i64]
  omega

theorem i64_and (a b : Nat) (ha : a < 4611686018427387904) (hb : b < 4611686018427387904) : bits .and .i64 (a : Int) (b : Int) = ((a &&& b : Nat) : Int) := (bits_nat .i64 62 (by decide) wrapi62 a b ha hb).1

theorem odd_of (m : Nat) (hm : m < 9007199254740992) : bits .and .i64 (m : Int) 1 = ((m % 2 : Nat) : Int) := by
  have h := i64_and m 1 (by omega) (by decide)
  rw [show ((1 : Nat) : Int) = 1 from rfl] at h
  rw [h, Nat.and_one_is_mod]

theorem unr_le (N D : Nat) : unr N D ≤ N / D + 1 := by
  unfold unr
  split
  · rw [Nat.or_zero]; omega
  · rw [or_one]; omega

theorem unr_ge (N D : Nat) : N / D ≤ unr N D := by
  unfold unr
  split
  · rw [Nat.or_zero]; exact Nat.le_refl _
  · rw [or_one]; omega

theorem unr_small {m Q y : Nat} (hQ : Q ≤ 2045) (hy : y < Ymax) : unr (y * aOf m Q) (mOf m Q) < 4611686018427387000 := by
  have hM : 0 < mOf m Q := den_pos _ _
  have h1 := unr_le (y * aOf m Q) (mOf m Q)
  have hw := wid_cases (m := m) hQ
  have h14 : aOf m Q ≤ 14 * mOf m Q := by rcases hw with h | h <;> omega
  have h2 : y * aOf m Q / mOf m Q ≤ y * 14 := by
    refine Nat.div_le_of_le_mul ?_
    have := Nat.mul_le_mul_left y h14
    rw [Nat.mul_comm (mOf m Q), Nat.mul_assoc]
    exact this
  unfold Ymax at hy
  omega

theorem unr_one {m Q : Nat} (hQ : Q ≤ 2045) : 1 ≤ unr ((4 * m + 2) * aOf m Q) (mOf m Q) := by
  have hM : 0 < mOf m Q := den_pos _ _
  refine Nat.le_trans ?_ (unr_ge _ _)
  rw [Nat.le_div_iff_mul_le hM, Nat.one_mul]
  have hw := wid_cases (m := m) hQ
  have h1 : mOf m Q ≤ 2 * aOf m Q := by rcases hw with h | h <;> omega
  have h2 : 2 * aOf m Q ≤ (4 * m + 2) * aOf m Q := Nat.mul_le_mul_right _ (by omega)
  omega

theorem RdyT.below {w w' : World} (h : RdyT w) (hb : Below w.heap.size w w') : RdyT w' := by
  obtain ⟨⟨m, hm⟩, h2, h3, h4, s1, s2, s3⟩ := h
  have hs := hb.size
  refine ⟨⟨m, ?_⟩, fun i hi => ?_, fun i hi => ?_, fun i hi => ?_, by omega, by omega, by omega⟩
  · rw [hb.cell s1]; exact hm
  · rw [hb.cell s2]; exact h2 i hi
  · rw [hb.cell s3]; exact h3 i hi
  · rw [hb.cell s3]; exact h4 i hi

theorem shf_least : (shf (((0 : Nat) : Int) - 1074) (l10 (((0 : Nat) : Int) - 1074)) == 6) = true := by decide +kernel

/-- The digits and their power of ten. -/
def shortD (m Q z : Nat) : Nat :=
  let r := rowOf (unitK m Q)
  let s := shiftN m Q z
  shD (dMin m (usF (lowY m Q * 2 ^ (z - 2)) r.1 r.2 s)) (dMax m (usF ((4 * m + 2) * 2 ^ (z - 2)) r.1 r.2 s)) (rnd4 (usF (4 * m * 2 ^ (z - 2)) r.1 r.2 s))

def shortT (m Q z : Nat) : Int :=
  let r := rowOf (unitK m Q)
  let s := shiftN m Q z
  shT (dMin m (usF (lowY m Q * 2 ^ (z - 2)) r.1 r.2 s)) (dMax m (usF ((4 * m + 2) * 2 ^ (z - 2)) r.1 r.2 s)) (unitK m Q)

theorem shortD_units (m Q z : Nat) : (shortT m Q z = unitK m Q ∧ shortD m Q z = shortG m Q z) ∨ (shortT m Q z = unitK m Q + 1 ∧ shortD m Q z * 10 = shortG m Q z) := by
  have key : ∀ a b c (K : Int), (shT a b K = K ∧ shD a b c = goRes a b c) ∨ (shT a b K = K + 1 ∧ shD a b c * 10 = goRes a b c) := by
    intro a b c K
    unfold shT shD goRes
    by_cases h : a ≤ b / 10 * 10
    · right; rw [if_pos h, if_pos h, if_pos h]; exact ⟨rfl, rfl⟩
    · left; rw [if_neg h, if_neg h, if_neg h]; exact ⟨rfl, rfl⟩
  exact key _ _ _ _

set_option maxHeartbeats 2000000 in
theorem short_any (w : World) (R : RdyT w) {m Q z : Nat} (hm0 : 0 < m) (hm : m < 9007199254740992) (hQ : Q ≤ 2045) (hsub : Q = 0 ∨ 4503599627370496 ≤ m) (hz : 11 ≤ z) (hz2 : z < 64) (hlo : 9223372036854775808 ≤ m * 2 ^ z) (hhi : m * 2 ^ z < 18446744073709551616) (hzs : z = 11 ∨ (Q = 0 ∧ m < 4503599627370496)) (hx : (4 * m + 2) * 2 ^ (z - 2) < 18446744073709551616) :
    Calls Tryz.prog 128 #[.int .u64 ((m * 2 ^ z : Nat) : Int), .int .i64 ((Q : Int) - 1074 - (z : Int))] w fun e w' => e = .returned (.tuple #[.int .u64 ((shortD m Q z : Nat) : Int), .int .i64 (shortT m Q z)]) ∧ Below w.heap.size w w' := by
  have hg := good_unit (m := m) hQ
  unfold goodRow at hg
  simp only [Bool.and_eq_true, decide_eq_true_eq] at hg
  obtain ⟨⟨⟨⟨⟨⟨⟨⟨⟨g1, g2⟩, g3⟩, g4⟩, g5⟩, g6⟩, g7⟩, _⟩, _⟩, _⟩ := hg
  have hl := low_cases m Q hm0
  have hY : 4 * m + 2 < Ymax := by unfold Ymax; omega
  have p2 : ∀ y, y ≤ 4 * m + 2 → y * 2 ^ (z - 2) < 18446744073709551616 := fun y hy => Nat.lt_of_le_of_lt (Nat.mul_le_mul_right _ hy) hx
  have u0 := us_of (m := m) hQ hz (y := lowY m Q) (by omega) (by omega) (p2 _ (by omega))
  have u1 := us_of (m := m) hQ hz (y := 4 * m + 2) (by omega) hY hx
  have u2 := us_of (m := m) hQ hz (y := 4 * m) (by omega) (by omega) (p2 _ (by omega))
  have b0 := unr_small (m := m) (y := lowY m Q) hQ (by omega)
  have b1 := unr_small (m := m) (y := 4 * m + 2) hQ hY
  have b2 := unr_small (m := m) (y := 4 * m) hQ (by omega)
  have b3 := unr_one (m := m) hQ
  rw [← u0] at b0
  rw [← u1] at b1 b3
  rw [← u2] at b2
  clear u0 u1 u2
  have hs64 : shiftN m Q z < 64 := by
    unfold shiftN
    rcases hzs with h | ⟨h, h'⟩
    · omega
    · subst h
      have hK : unitK m 0 = l10 (((0 : Nat) : Int) - 1074) := by unfold unitK; rw [if_neg (by omega)]
      have := shf_least
      rw [beq_iff_eq] at this
      rw [hK, this]
      omega
  have hsI : -(((Q : Int) - 1074 - (z : Int)) + l2 (-unitK m Q) + 3) = ((shiftN m Q z : Nat) : Int) := by
    unfold shiftN
    unfold shf at g1 ⊢
    omega
  obtain ⟨s, es⟩ : ∃ s, shiftN m Q z = s := ⟨_, rfl⟩
  unfold shortD shortT dMin dMax
  simp only [es]
  rw [es] at hs64 hsI b0 b1 b2 b3
  obtain ⟨H, eH⟩ : ∃ h, (rowOf (unitK m Q)).1 = h := ⟨_, rfl⟩
  obtain ⟨L, eL⟩ : ∃ h, (rowOf (unitK m Q)).2 = h := ⟨_, rfl⟩
  have eH2 : (Go.Pinned.pow10Rows.getD (348 - unitK m Q).toNat (0, 0)).1 = H := eH
  have eL2 : (Go.Pinned.pow10Rows.getD (348 - unitK m Q).toNat (0, 0)).2 = L := eL
  rw [eH, eL] at g7 b0 b1 b2 b3
  rw [eH] at g5
  rw [eL] at g6
  simp only [eH, eL]
  have hzp : 2 ^ z = 4 * 2 ^ (z - 2) := by
    rw [show (4 : Nat) = 2 ^ 2 from rfl, ← Nat.pow_add]
    congr 1
    omega
  have hX2 : m * 2 ^ z = 4 * m * 2 ^ (z - 2) := by rw [hzp, ← Nat.mul_assoc, Nat.mul_comm m 4]
  have V0 : Scaled (lowY m Q * 2 ^ (z - 2)) H L s (usF (lowY m Q * 2 ^ (z - 2)) H L s) := fun B w c0 c1 c2 => us_any B _ H L s w (p2 _ (by omega)) g5 g6 g7 hs64 c0 c1 c2
  have V1 : Scaled ((4 * m + 2) * 2 ^ (z - 2)) H L s (usF ((4 * m + 2) * 2 ^ (z - 2)) H L s) := fun B w c0 c1 c2 => us_any B _ H L s w hx g5 g6 g7 hs64 c0 c1 c2
  have V2 : Scaled (4 * m * 2 ^ (z - 2)) H L s (usF (4 * m * 2 ^ (z - 2)) H L s) := fun B w c0 c1 c2 => us_any B _ H L s w (p2 _ (by omega)) g5 g6 g7 hs64 c0 c1 c2
  have hKb : -340 ≤ unitK m Q ∧ unitK m Q ≤ 340 := by
    unfold unitK
    split
    · unfold skw; omega
    · unfold l10; omega
  have hlb : -3000 ≤ l2 (-unitK m Q) ∧ l2 (-unitK m Q) ≤ 3000 := by unfold l2; omega
  have PR := fun t => pre_any t w R ((Q : Int) - 1074 - (z : Int)) (-unitK m Q) (l2 (-unitK m Q)) (348 - unitK m Q).toNat (s : Int) (by omega) (by omega) (by omega) hlb hsI
  rw [eH2, eL2] at PR
  have ho := odd_of m hm
  have ho1 : m % 2 ≤ 1 := by omega
  rw [hX2] at hlo hhi ⊢
  obtain ⟨U0, eU0⟩ : ∃ U, usF (lowY m Q * 2 ^ (z - 2)) H L s = U := ⟨_, rfl⟩
  obtain ⟨U1, eU1⟩ : ∃ U, usF ((4 * m + 2) * 2 ^ (z - 2)) H L s = U := ⟨_, rfl⟩
  obtain ⟨U2, eU2⟩ : ∃ U, usF (4 * m * 2 ^ (z - 2)) H L s = U := ⟨_, rfl⟩
  rw [eU0] at V0 b0
  rw [eU1] at V1 b1 b3
  rw [eU2] at V2 b2
  rw [eU0, eU1, eU2]
  clear eU0 eU1 eU2 eH eL eH2 eL2 g4 g7 R
  have hy2 : (4 * m + 2) * 2 ^ (z - 2) = 4 * m * 2 ^ (z - 2) + 2 * 2 ^ (z - 2) := by rw [Nat.add_mul]
  have hmX : 4 * m * 2 ^ (z - 2) / 2 ^ z = m := by
    rw [← hX2]
    exact Nat.mul_div_cancel _ (Nat.two_pow_pos z)
  rcases hzs with hz11 | ⟨hQ0, hmlt⟩
  · subst hz11
    have hP : (2 : Nat) ^ (11 - 2) = 512 := by decide
    rw [hP] at V0 V1 V2 hx hlo hhi ⊢
    have hmX' : ((4 * m * 512 : Nat) : Int) / 2048 = (m : Int) := by omega
    clear hy2 hmX hX2 hzp p2 hsI es
    rcases hl with ⟨hs1, hs2, hs3⟩ | ⟨hs1, hs3⟩
    · exact short_one w (4 * m * 512) (lowY m Q * 512) ((4 * m + 2) * 512) ((Q : Int) - 1074 - ((11 : Nat) : Int)) ((Q : Int) - 1074) (unitK m Q) H L s (m % 2) U0 U1 U2 m hhi hx hm (by omega) ⟨g2, g3⟩ ho ho1 (by omega) (by omega) (by rw [beq_iff_eq]; omega) (by unfold unitK; rw [if_pos ⟨hs1, hs2⟩]) (by omega) (by omega) hmX' V0 V1 V2 PR (by omega) (by omega) (by omega) (by omega)
    · exact short_two w (4 * m * 512) (lowY m Q * 512) ((4 * m + 2) * 512) ((Q : Int) - 1074 - ((11 : Nat) : Int)) ((Q : Int) - 1074) (unitK m Q) H L s (m % 2) U0 U1 U2 m hhi hx hm (by omega) ⟨g2, g3⟩ ho ho1 _ rfl (by rw [beq_iff_eq]; intro hh; omega) (by omega) (by omega) (by unfold unitK; rw [if_neg hs1]) (by omega) (by omega) hmX' V0 V1 V2 PR (by omega) (by omega) (by omega) (by omega)
  · subst hQ0
    have hs3 : lowY m 0 + 2 = 4 * m := by
      rcases hl with ⟨_, h, _⟩ | ⟨_, h⟩
      · omega
      · exact h
    have hz12 : 12 ≤ z := by
      rcases Nat.lt_or_ge z 12 with h | h
      · have : z = 11 := by omega
        subst this
        have hP : (2 : Nat) ^ (11 - 2) = 512 := by decide
        rw [hP] at hlo
        omega
      · exact h
    have hy1 : 2 ^ (z - 1) = 2 * 2 ^ (z - 2) := by
      rw [show z - 1 = (z - 2) + 1 by omega, Nat.pow_succ, Nat.mul_comm]
    have hyb : 2 ^ (z - 1) < 9223372036854775809 := by
      have : 2 ^ (z - 1) ≤ 2 ^ 62 := Nat.pow_le_pow_right (by decide) (by omega)
      omega
    have hmX' : ((4 * m * 2 ^ (z - 2) : Nat) : Int) / 2 ^ z = (m : Int) := by
      have := congrArg (Nat.cast (R := Int)) hmX
      simpa using this
    have hyI : (2 : Int) ^ (z - 1) = ((2 ^ (z - 1) : Nat) : Int) := by simp
    have el0 : lowY m 0 * 2 ^ (z - 2) + 2 * 2 ^ (z - 2) = 4 * m * 2 ^ (z - 2) := by rw [← hs3, Nat.add_mul]
    obtain ⟨T, eT⟩ : ∃ T, 2 ^ (z - 2) = T := ⟨_, rfl⟩
    obtain ⟨y, ey⟩ : ∃ y, 2 ^ (z - 1) = y := ⟨_, rfl⟩
    rw [eT, ey] at hy1
    rw [ey] at hyb hyI
    rw [eT] at hy2 el0 hmX' V0 V1 V2 hx hlo hhi ⊢
    obtain ⟨X, eX⟩ : ∃ X, 4 * m * T = X := ⟨_, rfl⟩
    obtain ⟨x0, ex0⟩ : ∃ X, lowY m 0 * T = X := ⟨_, rfl⟩
    obtain ⟨x1, ex1⟩ : ∃ X, (4 * m + 2) * T = X := ⟨_, rfl⟩
    rw [eX] at hy2 el0 hmX' V2 hlo hhi ⊢
    rw [ex0] at el0 V0
    rw [ex1] at hy2 V1 hx
    clear eT eX ex0 ex1 ey hmX hX2 hzp p2 es
    exact short_three w X x0 x1 (((0 : Nat) : Int) - 1074 - (z : Int)) (((0 : Nat) : Int) - 1074) (unitK m 0) H L s (m % 2) U0 U1 U2 m hhi hx hm (by omega) ⟨g2, g3⟩ ho ho1 _ rfl z (by omega) (by omega) (by omega) ⟨hz, hz2⟩ (by omega) (by unfold unitK; rw [if_neg (by omega)]) y hyI hyb (by omega) (by omega) hmX' V0 V1 V2 PR (by omega) (by omega) (by omega) (by omega)
end Go.Proofs.YtbengmceiaejeaaGreatDoor
