/- The document's side: a decimal against an exact amount. -/
import Derived.Test.YtbengmceiaejeaaGreatDoorFtR2
namespace Go.Proofs.YtbengmceiaejeaaGreatDoor
open Go.ChangeShapes Go.WideShapes Go.ChangeAt Go.RowKit

theorem drew_kept {w0 w1 : World} (b : Below w0.drew.heap.size w0.drew w1) : Below w0.heap.size w0 w1 := (below_drewN w0.heap.size w0 1).trans b

theorem ag_pp (va : Option Addr) (vl vc : Nat) (xa : Option Addr) (xl xc c M s p : Nat) (z : Bool) (w : World) (hv : IsAmt w (.slice va vl vc) c) (hx : IsAmt w (.slice xa xl xc) M) (hc : c < 2 ^ 100) (hM : M < 2 ^ 100) (hs : s ≤ 400) (hp : p ≤ 1200) :
    Calls Tryz.prog 73 #[.slice va vl vc, .int .i64 (s : Int), .agg #[.bool z, .slice xa xl xc, .int .i64 (p : Int)]] w fun e w' => e = .returned (.int .i64 (cmpN (c * 10 ^ s) (M * 2 ^ p))) ∧ Below w.heap.size w w' := by
  have h10 := ten_two s
  have hms : c * 10 ^ s < 2 ^ (100 + (4 * s + 1)) := by rw [Nat.pow_add]; exact Nat.mul_lt_mul'' hc h10
  have TE := fun w => ten_any s (by omega) w
  have hb1 := ten_big (show s ≤ 1200 by omega)
  have hb2 : c < BIG := big_of hc (by omega)
  have MU : ∀ v t w1, IsAmt w1 v c → IsAmt w1 t (10 ^ s) → Calls Tryz.prog 75 #[v, t] w1 fun e w' => ∃ v, e = .returned v ∧ IsAmt w' v (c * 10 ^ s) ∧ (∀ g, v.ownBlock = some g → w1.heap.size ≤ g) ∧ Below w1.heap.size w1 w' := fun v t w1 h1 h2 => mulD_any v t c (10 ^ s) w1 h1 h2 hb2 hb1
  have hb3 : M < BIG := big_of hM (by omega)
  have hb4 : M * 65536 < BIG := big_of (a := 100 + 16) (mul_pow_lt (k := 16) hM) (by omega)
  have SH : ∀ v w1, IsAmt w1 v (M) → Calls Tryz.prog 74 #[v, .int .i64 (p : Int)] w1 fun e w' => ∃ v, e = .returned v ∧ IsAmt w' v (M * 2 ^ p) ∧ Below w1.heap.size w1 w' := fun v w1 h => shl_any v _ p w1 h hb3 hb4 (by omega)
  have CM : ∀ a b w1, IsAmt w1 a (c * 10 ^ s) → IsAmt w1 b (M * 2 ^ p) → Calls Tryz.prog 97 #[a, b] w1 fun e w' => e = .returned (.int .i64 (cmpN (c * 10 ^ s) (M * 2 ^ p))) ∧ Below w1.heap.size w1 w' := fun a b w1 h1 h2 => cmpD_any a b _ _ w1 h1 h2
  obtain ⟨R, eR⟩ : ∃ R, cmpN (c * 10 ^ s) (M * 2 ^ p) = R := ⟨_, rfl⟩
  rw [eR] at CM ⊢
  obtain ⟨N2, e2⟩ : ∃ R, M * 2 ^ p = R := ⟨_, rfl⟩
  rw [e2] at SH CM
  obtain ⟨N1, e1⟩ : ∃ R, c * 10 ^ s = R := ⟨_, rfl⟩
  rw [e1] at MU CM
  obtain ⟨T, eT⟩ : ∃ R, 10 ^ s = R := ⟨_, rfl⟩
  rw [eT] at TE MU
  have HV := hide hv
  have HX := hide hx
  clear hb1 hb2 hb3 hb4 hms h10 eR e2 e1 eT hc hM hv hx
  go_enter Tryz.func73, Tryz.ntmps73
  go_wp2
  go_region_with fail
  go_wp2_with (first
    | (go_at_call 76; refine (TE _).mono ?_; rintro e w1 ⟨t, rfl, ht, b1⟩; have k1 := drew_kept b1; obtain ⟨_, x1, x2, _, _, _, y1, z1⟩ := cell_kept k1)
    | (go_at_call 75; refine (MU _ _ _ (HV.out.below y1) ht).mono ?_; rintro e w2 ⟨t2, rfl, ht2, f2, b2⟩; clear x1 x2; have k2 := k1.trans (b2.mono k1.size); obtain ⟨_, x1, x2, _, _, _, y2, z2⟩ := cell_kept k2; obtain ⟨a2, l2, c2, rfl⟩ := amt_form ht2)
    | (go_at_call 74; refine (SH _ _ (HX.out.below y2)).mono ?_; rintro e w3 ⟨t3, rfl, ht3, b3⟩; clear x1 x2; have k3 := k2.trans (b3.mono k2.size); obtain ⟨_, x1, x2, _, _, _, y3, z3⟩ := cell_kept k3; obtain ⟨a3, l3, c3, rfl⟩ := amt_form ht3)
    | (go_at_call 97; refine (CM _ _ _ (ht2.below b3) (ht3)).mono ?_; rintro e w4 ⟨rfl, b4⟩))
  go_ret
  exact ⟨rfl, y3.trans (b4.mono y3.size)⟩

theorem ag_pm (va : Option Addr) (vl vc : Nat) (xa : Option Addr) (xl xc c M s p : Nat) (z : Bool) (w : World) (hv : IsAmt w (.slice va vl vc) c) (hx : IsAmt w (.slice xa xl xc) M) (hc : c < 2 ^ 100) (_hM : M < 2 ^ 100) (hs : s ≤ 400) (hp : p ≤ 1200) (hp0 : 1 ≤ p) :
    Calls Tryz.prog 73 #[.slice va vl vc, .int .i64 (s : Int), .agg #[.bool z, .slice xa xl xc, .int .i64 (-(p : Int))]] w fun e w' => e = .returned (.int .i64 (cmpN (c * 10 ^ s * 2 ^ p) (M))) ∧ Below w.heap.size w w' := by
  have h10 := ten_two s
  have hms : c * 10 ^ s < 2 ^ (100 + (4 * s + 1)) := by rw [Nat.pow_add]; exact Nat.mul_lt_mul'' hc h10
  have TE := fun w => ten_any s (by omega) w
  have hb1 := ten_big (show s ≤ 1200 by omega)
  have hb2 : c < BIG := big_of hc (by omega)
  have MU : ∀ v t w1, IsAmt w1 v c → IsAmt w1 t (10 ^ s) → Calls Tryz.prog 75 #[v, t] w1 fun e w' => ∃ v, e = .returned v ∧ IsAmt w' v (c * 10 ^ s) ∧ (∀ g, v.ownBlock = some g → w1.heap.size ≤ g) ∧ Below w1.heap.size w1 w' := fun v t w1 h1 h2 => mulD_any v t c (10 ^ s) w1 h1 h2 hb2 hb1
  have hb3 : c * 10 ^ s < BIG := big_of hms (by omega)
  have hb4 : c * 10 ^ s * 65536 < BIG := big_of (a := 100 + (4 * s + 1) + 16) (mul_pow_lt (k := 16) hms) (by omega)
  have SH : ∀ v w1, IsAmt w1 v (c * 10 ^ s) → Calls Tryz.prog 74 #[v, .int .i64 (p : Int)] w1 fun e w' => ∃ v, e = .returned v ∧ IsAmt w' v (c * 10 ^ s * 2 ^ p) ∧ Below w1.heap.size w1 w' := fun v w1 h => shl_any v _ p w1 h hb3 hb4 (by omega)
  have CM : ∀ a b w1, IsAmt w1 a (c * 10 ^ s * 2 ^ p) → IsAmt w1 b (M) → Calls Tryz.prog 97 #[a, b] w1 fun e w' => e = .returned (.int .i64 (cmpN (c * 10 ^ s * 2 ^ p) (M))) ∧ Below w1.heap.size w1 w' := fun a b w1 h1 h2 => cmpD_any a b _ _ w1 h1 h2
  obtain ⟨R, eR⟩ : ∃ R, cmpN (c * 10 ^ s * 2 ^ p) (M) = R := ⟨_, rfl⟩
  rw [eR] at CM ⊢
  obtain ⟨N2, e2⟩ : ∃ R, c * 10 ^ s * 2 ^ p = R := ⟨_, rfl⟩
  rw [e2] at SH CM
  obtain ⟨N1, e1⟩ : ∃ R, c * 10 ^ s = R := ⟨_, rfl⟩
  rw [e1] at MU SH
  obtain ⟨T, eT⟩ : ∃ R, 10 ^ s = R := ⟨_, rfl⟩
  rw [eT] at TE MU
  have HV := hide hv
  have HX := hide hx
  clear hb1 hb2 hb3 hb4 hms h10 eR e2 e1 eT hc _hM hv hx
  go_enter Tryz.func73, Tryz.ntmps73
  go_wp2
  go_region_with fail
  go_wp2_with (first
    | (go_at_call 76; refine (TE _).mono ?_; rintro e w1 ⟨t, rfl, ht, b1⟩; have k1 := drew_kept b1; obtain ⟨_, x1, x2, _, _, _, y1, z1⟩ := cell_kept k1)
    | (go_at_call 75; refine (MU _ _ _ (HV.out.below y1) ht).mono ?_; rintro e w2 ⟨t2, rfl, ht2, f2, b2⟩; clear x1 x2; have k2 := k1.trans (b2.mono k1.size); obtain ⟨_, x1, x2, _, _, _, y2, z2⟩ := cell_kept k2; obtain ⟨a2, l2, c2, rfl⟩ := amt_form ht2)
    | (go_at_call 74; refine (SH _ _ (ht2)).mono ?_; rintro e w3 ⟨t3, rfl, ht3, b3⟩; clear x1 x2; have k3 := k2.trans (b3.mono k2.size); obtain ⟨_, x1, x2, _, _, _, y3, z3⟩ := cell_kept k3; obtain ⟨a3, l3, c3, rfl⟩ := amt_form ht3)
    | (go_at_call 97; refine (CM _ _ _ (ht3) (HX.out.below y3)).mono ?_; rintro e w4 ⟨rfl, b4⟩))
  go_ret
  exact ⟨rfl, y3.trans (b4.mono y3.size)⟩

theorem ag_mp (va : Option Addr) (vl vc : Nat) (xa : Option Addr) (xl xc c M s p : Nat) (z : Bool) (w : World) (hv : IsAmt w (.slice va vl vc) c) (hx : IsAmt w (.slice xa xl xc) M) (_hc : c < 2 ^ 100) (hM : M < 2 ^ 100) (hs : s ≤ 400) (hp : p ≤ 1200) (hs0 : 1 ≤ s) :
    Calls Tryz.prog 73 #[.slice va vl vc, .int .i64 (-(s : Int)), .agg #[.bool z, .slice xa xl xc, .int .i64 (p : Int)]] w fun e w' => e = .returned (.int .i64 (cmpN (c) (M * 10 ^ s * 2 ^ p))) ∧ Below w.heap.size w w' := by
  have h10 := ten_two s
  have hms : M * 10 ^ s < 2 ^ (100 + (4 * s + 1)) := by rw [Nat.pow_add]; exact Nat.mul_lt_mul'' hM h10
  have TE := fun w => ten_any s (by omega) w
  have hb1 := ten_big (show s ≤ 1200 by omega)
  have hb2 : M < BIG := big_of hM (by omega)
  have MU : ∀ v t w1, IsAmt w1 v M → IsAmt w1 t (10 ^ s) → Calls Tryz.prog 75 #[v, t] w1 fun e w' => ∃ v, e = .returned v ∧ IsAmt w' v (M * 10 ^ s) ∧ (∀ g, v.ownBlock = some g → w1.heap.size ≤ g) ∧ Below w1.heap.size w1 w' := fun v t w1 h1 h2 => mulD_any v t M (10 ^ s) w1 h1 h2 hb2 hb1
  have hb3 : M * 10 ^ s < BIG := big_of hms (by omega)
  have hb4 : M * 10 ^ s * 65536 < BIG := big_of (a := 100 + (4 * s + 1) + 16) (mul_pow_lt (k := 16) hms) (by omega)
  have SH : ∀ v w1, IsAmt w1 v (M * 10 ^ s) → Calls Tryz.prog 74 #[v, .int .i64 (p : Int)] w1 fun e w' => ∃ v, e = .returned v ∧ IsAmt w' v (M * 10 ^ s * 2 ^ p) ∧ Below w1.heap.size w1 w' := fun v w1 h => shl_any v _ p w1 h hb3 hb4 (by omega)
  have CM : ∀ a b w1, IsAmt w1 a (c) → IsAmt w1 b (M * 10 ^ s * 2 ^ p) → Calls Tryz.prog 97 #[a, b] w1 fun e w' => e = .returned (.int .i64 (cmpN (c) (M * 10 ^ s * 2 ^ p))) ∧ Below w1.heap.size w1 w' := fun a b w1 h1 h2 => cmpD_any a b _ _ w1 h1 h2
  obtain ⟨R, eR⟩ : ∃ R, cmpN (c) (M * 10 ^ s * 2 ^ p) = R := ⟨_, rfl⟩
  rw [eR] at CM ⊢
  obtain ⟨N2, e2⟩ : ∃ R, M * 10 ^ s * 2 ^ p = R := ⟨_, rfl⟩
  rw [e2] at SH CM
  obtain ⟨N1, e1⟩ : ∃ R, M * 10 ^ s = R := ⟨_, rfl⟩
  rw [e1] at MU SH
  obtain ⟨T, eT⟩ : ∃ R, 10 ^ s = R := ⟨_, rfl⟩
  rw [eT] at TE MU
  have HV := hide hv
  have HX := hide hx
  clear hb1 hb2 hb3 hb4 hms h10 eR e2 e1 eT _hc hM hv hx
  go_enter Tryz.func73, Tryz.ntmps73
  go_wp2
  go_region_with fail
  go_wp2_with (first
    | (go_at_call 76; refine (TE _).mono ?_; rintro e w1 ⟨t, rfl, ht, b1⟩; have k1 := drew_kept b1; obtain ⟨_, x1, x2, _, _, _, y1, z1⟩ := cell_kept k1)
    | (go_at_call 75; refine (MU _ _ _ (HX.out.below y1) ht).mono ?_; rintro e w2 ⟨t2, rfl, ht2, f2, b2⟩; clear x1 x2; have k2 := k1.trans (b2.mono k1.size); obtain ⟨_, x1, x2, _, _, _, y2, z2⟩ := cell_kept k2; obtain ⟨a2, l2, c2, rfl⟩ := amt_form ht2)
    | (go_at_call 74; refine (SH _ _ (ht2)).mono ?_; rintro e w3 ⟨t3, rfl, ht3, b3⟩; clear x1 x2; have k3 := k2.trans (b3.mono k2.size); obtain ⟨_, x1, x2, _, _, _, y3, z3⟩ := cell_kept k3; obtain ⟨a3, l3, c3, rfl⟩ := amt_form ht3)
    | (go_at_call 97; refine (CM _ _ _ (HV.out.below y3) (ht3)).mono ?_; rintro e w4 ⟨rfl, b4⟩))
  go_ret
  exact ⟨rfl, y3.trans (b4.mono y3.size)⟩

theorem ag_mm (va : Option Addr) (vl vc : Nat) (xa : Option Addr) (xl xc c M s p : Nat) (z : Bool) (w : World) (hv : IsAmt w (.slice va vl vc) c) (hx : IsAmt w (.slice xa xl xc) M) (hc : c < 2 ^ 100) (hM : M < 2 ^ 100) (hs : s ≤ 400) (hp : p ≤ 1200) (hs0 : 1 ≤ s) (hp0 : 1 ≤ p) :
    Calls Tryz.prog 73 #[.slice va vl vc, .int .i64 (-(s : Int)), .agg #[.bool z, .slice xa xl xc, .int .i64 (-(p : Int))]] w fun e w' => e = .returned (.int .i64 (cmpN (c * 2 ^ p) (M * 10 ^ s))) ∧ Below w.heap.size w w' := by
  have h10 := ten_two s
  have hms : M * 10 ^ s < 2 ^ (100 + (4 * s + 1)) := by rw [Nat.pow_add]; exact Nat.mul_lt_mul'' hM h10
  have TE := fun w => ten_any s (by omega) w
  have hb1 := ten_big (show s ≤ 1200 by omega)
  have hb2 : M < BIG := big_of hM (by omega)
  have MU : ∀ v t w1, IsAmt w1 v M → IsAmt w1 t (10 ^ s) → Calls Tryz.prog 75 #[v, t] w1 fun e w' => ∃ v, e = .returned v ∧ IsAmt w' v (M * 10 ^ s) ∧ (∀ g, v.ownBlock = some g → w1.heap.size ≤ g) ∧ Below w1.heap.size w1 w' := fun v t w1 h1 h2 => mulD_any v t M (10 ^ s) w1 h1 h2 hb2 hb1
  have hb3 : c < BIG := big_of hc (by omega)
  have hb4 : c * 65536 < BIG := big_of (a := 100 + 16) (mul_pow_lt (k := 16) hc) (by omega)
  have SH : ∀ v w1, IsAmt w1 v (c) → Calls Tryz.prog 74 #[v, .int .i64 (p : Int)] w1 fun e w' => ∃ v, e = .returned v ∧ IsAmt w' v (c * 2 ^ p) ∧ Below w1.heap.size w1 w' := fun v w1 h => shl_any v _ p w1 h hb3 hb4 (by omega)
  have CM : ∀ a b w1, IsAmt w1 a (c * 2 ^ p) → IsAmt w1 b (M * 10 ^ s) → Calls Tryz.prog 97 #[a, b] w1 fun e w' => e = .returned (.int .i64 (cmpN (c * 2 ^ p) (M * 10 ^ s))) ∧ Below w1.heap.size w1 w' := fun a b w1 h1 h2 => cmpD_any a b _ _ w1 h1 h2
  obtain ⟨R, eR⟩ : ∃ R, cmpN (c * 2 ^ p) (M * 10 ^ s) = R := ⟨_, rfl⟩
  rw [eR] at CM ⊢
  obtain ⟨N2, e2⟩ : ∃ R, c * 2 ^ p = R := ⟨_, rfl⟩
  rw [e2] at SH CM
  obtain ⟨N1, e1⟩ : ∃ R, M * 10 ^ s = R := ⟨_, rfl⟩
  rw [e1] at MU CM
  obtain ⟨T, eT⟩ : ∃ R, 10 ^ s = R := ⟨_, rfl⟩
  rw [eT] at TE MU
  have HV := hide hv
  have HX := hide hx
  clear hb1 hb2 hb3 hb4 hms h10 eR e2 e1 eT hc hM hv hx
  go_enter Tryz.func73, Tryz.ntmps73
  go_wp2
  go_region_with fail
  go_wp2_with (first
    | (go_at_call 76; refine (TE _).mono ?_; rintro e w1 ⟨t, rfl, ht, b1⟩; have k1 := drew_kept b1; obtain ⟨_, x1, x2, _, _, _, y1, z1⟩ := cell_kept k1)
    | (go_at_call 75; refine (MU _ _ _ (HX.out.below y1) ht).mono ?_; rintro e w2 ⟨t2, rfl, ht2, f2, b2⟩; clear x1 x2; have k2 := k1.trans (b2.mono k1.size); obtain ⟨_, x1, x2, _, _, _, y2, z2⟩ := cell_kept k2; obtain ⟨a2, l2, c2, rfl⟩ := amt_form ht2)
    | (go_at_call 74; refine (SH _ _ (HV.out.below y2)).mono ?_; rintro e w3 ⟨t3, rfl, ht3, b3⟩; clear x1 x2; have k3 := k2.trans (b3.mono k2.size); obtain ⟨_, x1, x2, _, _, _, y3, z3⟩ := cell_kept k3; obtain ⟨a3, l3, c3, rfl⟩ := amt_form ht3)
    | (go_at_call 97; refine (CM _ _ _ (ht3) (ht2.below b3)).mono ?_; rintro e w4 ⟨rfl, b4⟩))
  go_ret
  exact ⟨rfl, y3.trans (b4.mono y3.size)⟩


/-- A decimal against an exact amount: both as whole numbers. -/
theorem against_any (v : Value) (xa : Option Addr) (xl xc c M : Nat) (s P : Int) (z : Bool) (w : World) (hv : IsAmt w v c) (hx : IsAmt w (.slice xa xl xc) M) (hc : c < 2 ^ 100) (hM : M < 2 ^ 100) (hs : -400 ≤ s ∧ s ≤ 400) (hp : -1200 ≤ P ∧ P ≤ 1200) :
    Calls Tryz.prog 73 #[v, .int .i64 s, .agg #[.bool z, .slice xa xl xc, .int .i64 P]] w fun e w' => e = .returned (.int .i64 (cmpN (c * 10 ^ s.toNat * 2 ^ (-P).toNat) (M * 10 ^ (-s).toNat * 2 ^ P.toNat))) ∧ Below w.heap.size w w' := by
  obtain ⟨va, vl, vc, rfl⟩ := amt_form hv
  rcases Int.lt_or_le s 0 with h | h <;> rcases Int.lt_or_le P 0 with k | k
  · obtain ⟨a, ea⟩ : ∃ a : Nat, s = -(a : Int) := ⟨(-s).toNat, by omega⟩
    obtain ⟨b, eb⟩ : ∃ a : Nat, P = -(a : Int) := ⟨(-P).toNat, by omega⟩
    subst ea eb
    have e1 : (-(a : Int)).toNat = 0 := by omega
    have e2 : (-(b : Int)).toNat = 0 := by omega
    have e3 : (- -(a : Int)).toNat = a := by omega
    have e4 : (- -(b : Int)).toNat = b := by omega
    simp only [e1, e2, e3, e4, Nat.pow_zero, Nat.mul_one]
    exact ag_mm va vl vc xa xl xc c M a b z w hv hx hc hM (by omega) (by omega) (by omega) (by omega)
  · obtain ⟨a, ea⟩ : ∃ a : Nat, s = -(a : Int) := ⟨(-s).toNat, by omega⟩
    obtain ⟨b, eb⟩ : ∃ a : Nat, P = (a : Int) := ⟨P.toNat, by omega⟩
    subst ea eb
    have e1 : (-(a : Int)).toNat = 0 := by omega
    have e2 : (-(b : Int)).toNat = 0 := by omega
    have e3 : (- -(a : Int)).toNat = a := by omega
    have e4 : ((b : Int)).toNat = b := by omega
    simp only [e1, e2, e3, e4, Nat.pow_zero, Nat.mul_one]
    exact ag_mp va vl vc xa xl xc c M a b z w hv hx hc hM (by omega) (by omega) (by omega)
  · obtain ⟨a, ea⟩ : ∃ a : Nat, s = (a : Int) := ⟨s.toNat, by omega⟩
    obtain ⟨b, eb⟩ : ∃ a : Nat, P = -(a : Int) := ⟨(-P).toNat, by omega⟩
    subst ea eb
    have e1 : ((a : Int)).toNat = a := by omega
    have e2 : (-(b : Int)).toNat = 0 := by omega
    have e3 : (-(a : Int)).toNat = 0 := by omega
    have e4 : (- -(b : Int)).toNat = b := by omega
    simp only [e1, e2, e3, e4, Nat.pow_zero, Nat.mul_one]
    exact ag_pm va vl vc xa xl xc c M a b z w hv hx hc hM (by omega) (by omega) (by omega)
  · obtain ⟨a, ea⟩ : ∃ a : Nat, s = (a : Int) := ⟨s.toNat, by omega⟩
    obtain ⟨b, eb⟩ : ∃ a : Nat, P = (a : Int) := ⟨P.toNat, by omega⟩
    subst ea eb
    have e1 : ((a : Int)).toNat = a := by omega
    have e2 : (-(b : Int)).toNat = 0 := by omega
    have e3 : (-(a : Int)).toNat = 0 := by omega
    have e4 : ((b : Int)).toNat = b := by omega
    simp only [e1, e2, e3, e4, Nat.pow_zero, Nat.mul_one]
    exact ag_pp va vl vc xa xl xc c M a b z w hv hx hc hM (by omega) (by omega)
end Go.Proofs.YtbengmceiaejeaaGreatDoor
