/- The document's side: the greatest whole number of a place. -/
import Derived.Test.YtbengmceiaejeaaGreatDoorFtR3
namespace Go.Proofs.YtbengmceiaejeaaGreatDoor
open Go.ChangeShapes Go.WideShapes Go.ChangeAt Go.RowKit

theorem one_at (w : World) (o : Obj) (t : TypeId) : IsAmt ((w.alloc o).alloc (.cells #[.int .u16 1] t)) (.slice (some ⟨w.heap.size + 1, 0, none⟩) 1 1) 1 := by
  have h := amt_one (w.alloc o) t
  rwa [show (w.alloc o).heap.size = w.heap.size + 1 by simp] at h

theorem one_below (w : World) (o : Obj) (t : TypeId) : Below w.heap.size w ((w.alloc o).alloc (.cells #[.int .u16 1] t)) :=
  ((Below.refl _ _).alloc (Nat.le_refl _) _).alloc (by simp) _

theorem one_kept {w w1 : World} {o : Obj} {t : TypeId} (b : Below ((w.alloc o).alloc (.cells #[.int .u16 1] t)).heap.size ((w.alloc o).alloc (.cells #[.int .u16 1] t)) w1) :
    IsAmt w1 (.slice (some ⟨w.heap.size + 1, 0, none⟩) 1 1) 1 ∧ Below (w.alloc o).heap.size (w.alloc o) w1 :=
  ⟨(one_at w o t).below b, ((Below.refl _ _).alloc (Nat.le_refl _) _).trans (b.mono (by simp))⟩

theorem cut_pp (xa : Option Addr) (xl xc M s p : Nat) (z : Bool) (w : World) (hx : IsAmt w (.slice xa xl xc) M) (hM : M < 2 ^ 100) (hs : s ≤ 400) (hp : p ≤ 1200) :
    Calls Tryz.prog 48 #[.agg #[.bool z, .slice xa xl xc, .int .i64 (p : Int)], .int .i64 (s : Int)] w fun e w' => ∃ v, e = .returned v ∧ IsAmt w' v (M * 2 ^ p / (1 * 10 ^ s)) ∧ Below w.heap.size w w' := by
  have h10 := ten_two s
  have h1 : 1 < 2 ^ 100 := by decide
  have hsh : M * 2 ^ p < 2 ^ (100 + p) := mul_pow_lt hM
  have hml : (1) * 10 ^ s < 2 ^ (100 + (4 * s + 1)) := by rw [Nat.pow_add 2 (100)]; exact Nat.mul_lt_mul'' h1 h10
  have TE := fun w => ten_any s (by omega) w
  have hb1 := ten_big (show s ≤ 1200 by omega)
  have hb2 : 1 < BIG := big_of h1 (by omega)
  have hb3 : M < BIG := big_of hM (by omega)
  have hb4 : M * 65536 < BIG := big_of (a := 100 + 16) (mul_pow_lt (k := 16) hM) (by omega)
  have hb5 : (1) * 10 ^ s < BIG := big_of hml (by omega)
  have hb6 : M * 2 ^ p < BIG := big_of hsh (by omega)
  have hpos : 0 < 1 * 10 ^ s := by
    have e1 : 0 < 10 ^ s := Nat.pow_pos (by omega)
    have e2 : 0 < 2 ^ p := Nat.pow_pos (by omega)
    first | exact Nat.one_pos | exact Nat.mul_pos Nat.one_pos e1 | exact Nat.mul_pos Nat.one_pos e2 | exact Nat.mul_pos (Nat.mul_pos Nat.one_pos e2) e1
  have SH : ∀ v w1, IsAmt w1 v M → Calls Tryz.prog 74 #[v, .int .i64 (p : Int)] w1 fun e w' => ∃ v, e = .returned v ∧ IsAmt w' v (M * 2 ^ p) ∧ Below w1.heap.size w1 w' := fun v w1 h => shl_any v _ p w1 h hb3 hb4 (by omega)
  have MU : ∀ v t w1, IsAmt w1 v (1) → IsAmt w1 t (10 ^ s) → Calls Tryz.prog 75 #[v, t] w1 fun e w' => ∃ v, e = .returned v ∧ IsAmt w' v ((1) * 10 ^ s) ∧ (∀ g, v.ownBlock = some g → w1.heap.size ≤ g) ∧ Below w1.heap.size w1 w' := fun v t w1 h1 h2 => mulD_any v t (1) (10 ^ s) w1 h1 h2 hb2 hb1
  have DV : ∀ a t w1, IsAmt w1 a (M * 2 ^ p) → IsAmt w1 t (1 * 10 ^ s) → Calls Tryz.prog 52 #[a, t] w1 fun e w' => ∃ v r, e = .returned (.tuple #[v, r]) ∧ IsAmt w' v (M * 2 ^ p / (1 * 10 ^ s)) ∧ IsAmt w' r ((M * 2 ^ p) % (1 * 10 ^ s)) ∧ Below w1.heap.size w1 w' := fun a t w1 h1 h2 => divD_any a t _ _ w1 h1 h2 hb6 hb5 hpos
  obtain ⟨K, eK⟩ : ∃ R, M * 2 ^ p / (1 * 10 ^ s) = R := ⟨_, rfl⟩
  obtain ⟨K2, eK2⟩ : ∃ R, (M * 2 ^ p) % (1 * 10 ^ s) = R := ⟨_, rfl⟩
  rw [eK, eK2] at DV
  rw [eK]
  obtain ⟨N2, e2⟩ : ∃ R, (1) * 10 ^ s = R := ⟨_, rfl⟩
  rw [e2] at MU DV
  obtain ⟨N1, e1⟩ : ∃ R, M * 2 ^ p = R := ⟨_, rfl⟩
  rw [e1] at SH DV
  obtain ⟨T, eT⟩ : ∃ R, 10 ^ s = R := ⟨_, rfl⟩
  rw [eT] at TE MU
  have HX := hide hx
  clear hb1 hb2 hb3 hb4 hb5 hb6 hml hsh h10 hpos eT e1 e2 eK eK2 hM hx h1
  go_enter Tryz.func48, Tryz.ntmps48
  go_wp2_with (first
    | (go_at_call 74; refine (SH _ _ (HX.out.below (one_below w _ _))).mono ?_; rintro e w1 ⟨t1, rfl, ht1, b1⟩; obtain ⟨O1, k1⟩ := one_kept b1; obtain ⟨_, x1, x2, _, _, _, y1, z1⟩ := cell_kept k1; obtain ⟨a1, l1, c1, rfl⟩ := amt_form ht1)
    | (go_at_call 76; refine (TE _).mono ?_; rintro e w2 ⟨t, rfl, ht, b2⟩; clear x1 x2; have k2 := k1.trans (b2.mono k1.size); obtain ⟨_, x1, x2, _, _, _, y2, z2⟩ := cell_kept k2)
    | (go_at_call 75; refine (MU _ _ _ (O1.below b2) ht).mono ?_; rintro e w3 ⟨t3, rfl, ht3, f3, b3⟩; clear x1 x2; have k3 := k2.trans (b3.mono k2.size); obtain ⟨_, x1, x2, _, _, _, y3, z3⟩ := cell_kept k3; obtain ⟨a3, l3, c3, rfl⟩ := amt_form ht3)
    | (go_at_call 52; refine (DV _ _ _ (ht1.below (b2.trans (b3.mono b2.size))) (ht3)).mono ?_; rintro e w4 ⟨vq, vr, rfl, hq, hr, b4⟩))
  go_ret
  exact ⟨_, rfl, hq, y3.trans (b4.mono y3.size)⟩

theorem cut_pm (xa : Option Addr) (xl xc M s p : Nat) (z : Bool) (w : World) (hx : IsAmt w (.slice xa xl xc) M) (hM : M < 2 ^ 100) (hs : s ≤ 400) (hp : p ≤ 1200) (hp0 : 1 ≤ p) :
    Calls Tryz.prog 48 #[.agg #[.bool z, .slice xa xl xc, .int .i64 (-(p : Int))], .int .i64 (s : Int)] w fun e w' => ∃ v, e = .returned v ∧ IsAmt w' v (M / (1 * 2 ^ p * 10 ^ s)) ∧ Below w.heap.size w w' := by
  have h10 := ten_two s
  have h1 : 1 < 2 ^ 100 := by decide
  have hsh : 1 * 2 ^ p < 2 ^ (100 + p) := mul_pow_lt h1
  have hml : (1 * 2 ^ p) * 10 ^ s < 2 ^ (100 + p + (4 * s + 1)) := by rw [Nat.pow_add 2 (100 + p)]; exact Nat.mul_lt_mul'' hsh h10
  have TE := fun w => ten_any s (by omega) w
  have hb1 := ten_big (show s ≤ 1200 by omega)
  have hb2 : 1 * 2 ^ p < BIG := big_of hsh (by omega)
  have hb3 : 1 < BIG := big_of h1 (by omega)
  have hb4 : 1 * 65536 < BIG := big_of (a := 100 + 16) (mul_pow_lt (k := 16) h1) (by omega)
  have hb5 : (1 * 2 ^ p) * 10 ^ s < BIG := big_of hml (by omega)
  have hb6 : M < BIG := big_of hM (by omega)
  have hpos : 0 < 1 * 2 ^ p * 10 ^ s := by
    have e1 : 0 < 10 ^ s := Nat.pow_pos (by omega)
    have e2 : 0 < 2 ^ p := Nat.pow_pos (by omega)
    first | exact Nat.one_pos | exact Nat.mul_pos Nat.one_pos e1 | exact Nat.mul_pos Nat.one_pos e2 | exact Nat.mul_pos (Nat.mul_pos Nat.one_pos e2) e1
  have SH : ∀ v w1, IsAmt w1 v 1 → Calls Tryz.prog 74 #[v, .int .i64 (p : Int)] w1 fun e w' => ∃ v, e = .returned v ∧ IsAmt w' v (1 * 2 ^ p) ∧ Below w1.heap.size w1 w' := fun v w1 h => shl_any v _ p w1 h hb3 hb4 (by omega)
  have MU : ∀ v t w1, IsAmt w1 v (1 * 2 ^ p) → IsAmt w1 t (10 ^ s) → Calls Tryz.prog 75 #[v, t] w1 fun e w' => ∃ v, e = .returned v ∧ IsAmt w' v ((1 * 2 ^ p) * 10 ^ s) ∧ (∀ g, v.ownBlock = some g → w1.heap.size ≤ g) ∧ Below w1.heap.size w1 w' := fun v t w1 h1 h2 => mulD_any v t (1 * 2 ^ p) (10 ^ s) w1 h1 h2 hb2 hb1
  have DV : ∀ a t w1, IsAmt w1 a (M) → IsAmt w1 t (1 * 2 ^ p * 10 ^ s) → Calls Tryz.prog 52 #[a, t] w1 fun e w' => ∃ v r, e = .returned (.tuple #[v, r]) ∧ IsAmt w' v (M / (1 * 2 ^ p * 10 ^ s)) ∧ IsAmt w' r ((M) % (1 * 2 ^ p * 10 ^ s)) ∧ Below w1.heap.size w1 w' := fun a t w1 h1 h2 => divD_any a t _ _ w1 h1 h2 hb6 hb5 hpos
  obtain ⟨K, eK⟩ : ∃ R, M / (1 * 2 ^ p * 10 ^ s) = R := ⟨_, rfl⟩
  obtain ⟨K2, eK2⟩ : ∃ R, (M) % (1 * 2 ^ p * 10 ^ s) = R := ⟨_, rfl⟩
  rw [eK, eK2] at DV
  rw [eK]
  obtain ⟨N2, e2⟩ : ∃ R, (1 * 2 ^ p) * 10 ^ s = R := ⟨_, rfl⟩
  rw [e2] at MU DV
  obtain ⟨N1, e1⟩ : ∃ R, 1 * 2 ^ p = R := ⟨_, rfl⟩
  rw [e1] at SH MU
  obtain ⟨T, eT⟩ : ∃ R, 10 ^ s = R := ⟨_, rfl⟩
  rw [eT] at TE MU
  have HX := hide hx
  clear hb1 hb2 hb3 hb4 hb5 hb6 hml hsh h10 hpos eT e1 e2 eK eK2 hM hx h1
  go_enter Tryz.func48, Tryz.ntmps48
  go_wp2_with (first
    | (go_at_call 74; refine (SH _ _ (one_at w _ _)).mono ?_; rintro e w1 ⟨t1, rfl, ht1, b1⟩; obtain ⟨O1, k1⟩ := one_kept b1; obtain ⟨_, x1, x2, _, _, _, y1, z1⟩ := cell_kept k1; obtain ⟨a1, l1, c1, rfl⟩ := amt_form ht1)
    | (go_at_call 76; refine (TE _).mono ?_; rintro e w2 ⟨t, rfl, ht, b2⟩; clear x1 x2; have k2 := k1.trans (b2.mono k1.size); obtain ⟨_, x1, x2, _, _, _, y2, z2⟩ := cell_kept k2)
    | (go_at_call 75; refine (MU _ _ _ (ht1.below b2) ht).mono ?_; rintro e w3 ⟨t3, rfl, ht3, f3, b3⟩; clear x1 x2; have k3 := k2.trans (b3.mono k2.size); obtain ⟨_, x1, x2, _, _, _, y3, z3⟩ := cell_kept k3; obtain ⟨a3, l3, c3, rfl⟩ := amt_form ht3)
    | (go_at_call 52; refine (DV _ _ _ (HX.out.below y3) (ht3)).mono ?_; rintro e w4 ⟨vq, vr, rfl, hq, hr, b4⟩))
  go_ret
  exact ⟨_, rfl, hq, y3.trans (b4.mono y3.size)⟩

theorem cut_mp (xa : Option Addr) (xl xc M s p : Nat) (z : Bool) (w : World) (hx : IsAmt w (.slice xa xl xc) M) (hM : M < 2 ^ 100) (hs : s ≤ 400) (hp : p ≤ 1200) (hs0 : 1 ≤ s) :
    Calls Tryz.prog 48 #[.agg #[.bool z, .slice xa xl xc, .int .i64 (p : Int)], .int .i64 (-(s : Int))] w fun e w' => ∃ v, e = .returned v ∧ IsAmt w' v (M * 2 ^ p * 10 ^ s / (1)) ∧ Below w.heap.size w w' := by
  have h10 := ten_two s
  have h1 : 1 < 2 ^ 100 := by decide
  have hsh : M * 2 ^ p < 2 ^ (100 + p) := mul_pow_lt hM
  have hml : (M * 2 ^ p) * 10 ^ s < 2 ^ (100 + p + (4 * s + 1)) := by rw [Nat.pow_add 2 (100 + p)]; exact Nat.mul_lt_mul'' hsh h10
  have TE := fun w => ten_any s (by omega) w
  have hb1 := ten_big (show s ≤ 1200 by omega)
  have hb2 : M * 2 ^ p < BIG := big_of hsh (by omega)
  have hb3 : M < BIG := big_of hM (by omega)
  have hb4 : M * 65536 < BIG := big_of (a := 100 + 16) (mul_pow_lt (k := 16) hM) (by omega)
  have hb5 : (M * 2 ^ p) * 10 ^ s < BIG := big_of hml (by omega)
  have hb6 : 1 < BIG := big_of h1 (by omega)
  have hpos : 0 < 1 := by
    have e1 : 0 < 10 ^ s := Nat.pow_pos (by omega)
    have e2 : 0 < 2 ^ p := Nat.pow_pos (by omega)
    first | exact Nat.one_pos | exact Nat.mul_pos Nat.one_pos e1 | exact Nat.mul_pos Nat.one_pos e2 | exact Nat.mul_pos (Nat.mul_pos Nat.one_pos e2) e1
  have SH : ∀ v w1, IsAmt w1 v M → Calls Tryz.prog 74 #[v, .int .i64 (p : Int)] w1 fun e w' => ∃ v, e = .returned v ∧ IsAmt w' v (M * 2 ^ p) ∧ Below w1.heap.size w1 w' := fun v w1 h => shl_any v _ p w1 h hb3 hb4 (by omega)
  have MU : ∀ v t w1, IsAmt w1 v (M * 2 ^ p) → IsAmt w1 t (10 ^ s) → Calls Tryz.prog 75 #[v, t] w1 fun e w' => ∃ v, e = .returned v ∧ IsAmt w' v ((M * 2 ^ p) * 10 ^ s) ∧ (∀ g, v.ownBlock = some g → w1.heap.size ≤ g) ∧ Below w1.heap.size w1 w' := fun v t w1 h1 h2 => mulD_any v t (M * 2 ^ p) (10 ^ s) w1 h1 h2 hb2 hb1
  have DV : ∀ a t w1, IsAmt w1 a (M * 2 ^ p * 10 ^ s) → IsAmt w1 t (1) → Calls Tryz.prog 52 #[a, t] w1 fun e w' => ∃ v r, e = .returned (.tuple #[v, r]) ∧ IsAmt w' v (M * 2 ^ p * 10 ^ s / (1)) ∧ IsAmt w' r ((M * 2 ^ p * 10 ^ s) % (1)) ∧ Below w1.heap.size w1 w' := fun a t w1 h1 h2 => divD_any a t _ _ w1 h1 h2 hb5 hb6 hpos
  obtain ⟨K, eK⟩ : ∃ R, M * 2 ^ p * 10 ^ s / (1) = R := ⟨_, rfl⟩
  obtain ⟨K2, eK2⟩ : ∃ R, (M * 2 ^ p * 10 ^ s) % (1) = R := ⟨_, rfl⟩
  rw [eK, eK2] at DV
  rw [eK]
  obtain ⟨N2, e2⟩ : ∃ R, (M * 2 ^ p) * 10 ^ s = R := ⟨_, rfl⟩
  rw [e2] at MU DV
  obtain ⟨N1, e1⟩ : ∃ R, M * 2 ^ p = R := ⟨_, rfl⟩
  rw [e1] at SH MU
  obtain ⟨T, eT⟩ : ∃ R, 10 ^ s = R := ⟨_, rfl⟩
  rw [eT] at TE MU
  have HX := hide hx
  clear hb1 hb2 hb3 hb4 hb5 hb6 hml hsh h10 hpos eT e1 e2 eK eK2 hM hx h1
  go_enter Tryz.func48, Tryz.ntmps48
  go_wp2_with (first
    | (go_at_call 74; refine (SH _ _ (HX.out.below (one_below w _ _))).mono ?_; rintro e w1 ⟨t1, rfl, ht1, b1⟩; obtain ⟨O1, k1⟩ := one_kept b1; obtain ⟨_, x1, x2, _, _, _, y1, z1⟩ := cell_kept k1; obtain ⟨a1, l1, c1, rfl⟩ := amt_form ht1)
    | (go_at_call 76; refine (TE _).mono ?_; rintro e w2 ⟨t, rfl, ht, b2⟩; clear x1 x2; have k2 := k1.trans (b2.mono k1.size); obtain ⟨_, x1, x2, _, _, _, y2, z2⟩ := cell_kept k2)
    | (go_at_call 75; refine (MU _ _ _ (ht1.below b2) ht).mono ?_; rintro e w3 ⟨t3, rfl, ht3, f3, b3⟩; clear x1 x2; have k3 := k2.trans (b3.mono k2.size); obtain ⟨_, x1, x2, _, _, _, y3, z3⟩ := cell_kept k3; obtain ⟨a3, l3, c3, rfl⟩ := amt_form ht3)
    | (go_at_call 52; refine (DV _ _ _ (ht3) (O1.below (b2.trans (b3.mono b2.size)))).mono ?_; rintro e w4 ⟨vq, vr, rfl, hq, hr, b4⟩))
  go_ret
  exact ⟨_, rfl, hq, y3.trans (b4.mono y3.size)⟩

theorem cut_mm (xa : Option Addr) (xl xc M s p : Nat) (z : Bool) (w : World) (hx : IsAmt w (.slice xa xl xc) M) (hM : M < 2 ^ 100) (hs : s ≤ 400) (hp : p ≤ 1200) (hs0 : 1 ≤ s) (hp0 : 1 ≤ p) :
    Calls Tryz.prog 48 #[.agg #[.bool z, .slice xa xl xc, .int .i64 (-(p : Int))], .int .i64 (-(s : Int))] w fun e w' => ∃ v, e = .returned v ∧ IsAmt w' v (M * 10 ^ s / (1 * 2 ^ p)) ∧ Below w.heap.size w w' := by
  have h10 := ten_two s
  have h1 : 1 < 2 ^ 100 := by decide
  have hsh : 1 * 2 ^ p < 2 ^ (100 + p) := mul_pow_lt h1
  have hml : (M) * 10 ^ s < 2 ^ (100 + (4 * s + 1)) := by rw [Nat.pow_add 2 (100)]; exact Nat.mul_lt_mul'' hM h10
  have TE := fun w => ten_any s (by omega) w
  have hb1 := ten_big (show s ≤ 1200 by omega)
  have hb2 : M < BIG := big_of hM (by omega)
  have hb3 : 1 < BIG := big_of h1 (by omega)
  have hb4 : 1 * 65536 < BIG := big_of (a := 100 + 16) (mul_pow_lt (k := 16) h1) (by omega)
  have hb5 : (M) * 10 ^ s < BIG := big_of hml (by omega)
  have hb6 : 1 * 2 ^ p < BIG := big_of hsh (by omega)
  have hpos : 0 < 1 * 2 ^ p := by
    have e1 : 0 < 10 ^ s := Nat.pow_pos (by omega)
    have e2 : 0 < 2 ^ p := Nat.pow_pos (by omega)
    first | exact Nat.one_pos | exact Nat.mul_pos Nat.one_pos e1 | exact Nat.mul_pos Nat.one_pos e2 | exact Nat.mul_pos (Nat.mul_pos Nat.one_pos e2) e1
  have SH : ∀ v w1, IsAmt w1 v 1 → Calls Tryz.prog 74 #[v, .int .i64 (p : Int)] w1 fun e w' => ∃ v, e = .returned v ∧ IsAmt w' v (1 * 2 ^ p) ∧ Below w1.heap.size w1 w' := fun v w1 h => shl_any v _ p w1 h hb3 hb4 (by omega)
  have MU : ∀ v t w1, IsAmt w1 v (M) → IsAmt w1 t (10 ^ s) → Calls Tryz.prog 75 #[v, t] w1 fun e w' => ∃ v, e = .returned v ∧ IsAmt w' v ((M) * 10 ^ s) ∧ (∀ g, v.ownBlock = some g → w1.heap.size ≤ g) ∧ Below w1.heap.size w1 w' := fun v t w1 h1 h2 => mulD_any v t (M) (10 ^ s) w1 h1 h2 hb2 hb1
  have DV : ∀ a t w1, IsAmt w1 a (M * 10 ^ s) → IsAmt w1 t (1 * 2 ^ p) → Calls Tryz.prog 52 #[a, t] w1 fun e w' => ∃ v r, e = .returned (.tuple #[v, r]) ∧ IsAmt w' v (M * 10 ^ s / (1 * 2 ^ p)) ∧ IsAmt w' r ((M * 10 ^ s) % (1 * 2 ^ p)) ∧ Below w1.heap.size w1 w' := fun a t w1 h1 h2 => divD_any a t _ _ w1 h1 h2 hb5 hb6 hpos
  obtain ⟨K, eK⟩ : ∃ R, M * 10 ^ s / (1 * 2 ^ p) = R := ⟨_, rfl⟩
  obtain ⟨K2, eK2⟩ : ∃ R, (M * 10 ^ s) % (1 * 2 ^ p) = R := ⟨_, rfl⟩
  rw [eK, eK2] at DV
  rw [eK]
  obtain ⟨N2, e2⟩ : ∃ R, (M) * 10 ^ s = R := ⟨_, rfl⟩
  rw [e2] at MU DV
  obtain ⟨N1, e1⟩ : ∃ R, 1 * 2 ^ p = R := ⟨_, rfl⟩
  rw [e1] at SH DV
  obtain ⟨T, eT⟩ : ∃ R, 10 ^ s = R := ⟨_, rfl⟩
  rw [eT] at TE MU
  have HX := hide hx
  clear hb1 hb2 hb3 hb4 hb5 hb6 hml hsh h10 hpos eT e1 e2 eK eK2 hM hx h1
  go_enter Tryz.func48, Tryz.ntmps48
  go_wp2_with (first
    | (go_at_call 74; refine (SH _ _ (one_at w _ _)).mono ?_; rintro e w1 ⟨t1, rfl, ht1, b1⟩; obtain ⟨O1, k1⟩ := one_kept b1; obtain ⟨_, x1, x2, _, _, _, y1, z1⟩ := cell_kept k1; obtain ⟨a1, l1, c1, rfl⟩ := amt_form ht1)
    | (go_at_call 76; refine (TE _).mono ?_; rintro e w2 ⟨t, rfl, ht, b2⟩; clear x1 x2; have k2 := k1.trans (b2.mono k1.size); obtain ⟨_, x1, x2, _, _, _, y2, z2⟩ := cell_kept k2)
    | (go_at_call 75; refine (MU _ _ _ (HX.out.below y2) ht).mono ?_; rintro e w3 ⟨t3, rfl, ht3, f3, b3⟩; clear x1 x2; have k3 := k2.trans (b3.mono k2.size); obtain ⟨_, x1, x2, _, _, _, y3, z3⟩ := cell_kept k3; obtain ⟨a3, l3, c3, rfl⟩ := amt_form ht3)
    | (go_at_call 52; refine (DV _ _ _ (ht3) (ht1.below (b2.trans (b3.mono b2.size)))).mono ?_; rintro e w4 ⟨vq, vr, rfl, hq, hr, b4⟩))
  go_ret
  exact ⟨_, rfl, hq, y3.trans (b4.mono y3.size)⟩


/-- What there is of a place in an exact amount, whole. -/
theorem rcut_any (xa : Option Addr) (xl xc M : Nat) (s P : Int) (z : Bool) (w : World) (hx : IsAmt w (.slice xa xl xc) M) (hM : M < 2 ^ 100) (hs : -400 ≤ s ∧ s ≤ 400) (hp : -1200 ≤ P ∧ P ≤ 1200) :
    Calls Tryz.prog 48 #[.agg #[.bool z, .slice xa xl xc, .int .i64 P], .int .i64 s] w fun e w' => ∃ v, e = .returned v ∧ IsAmt w' v (M * 2 ^ P.toNat * 10 ^ (-s).toNat / (1 * 2 ^ (-P).toNat * 10 ^ s.toNat)) ∧ Below w.heap.size w w' := by
  rcases Int.lt_or_le s 0 with h | h <;> rcases Int.lt_or_le P 0 with k | k
  · obtain ⟨a, ea⟩ : ∃ a : Nat, s = -(a : Int) := ⟨(-s).toNat, by omega⟩
    obtain ⟨b, eb⟩ : ∃ a : Nat, P = -(a : Int) := ⟨(-P).toNat, by omega⟩
    subst ea eb
    have e1 : (-(a : Int)).toNat = 0 := by omega
    have e2 : (-(b : Int)).toNat = 0 := by omega
    have e3 : (- -(a : Int)).toNat = a := by omega
    have e4 : (- -(b : Int)).toNat = b := by omega
    simp only [e1, e2, e3, e4, Nat.pow_zero, Nat.mul_one]
    exact cut_mm xa xl xc M a b z w hx hM (by omega) (by omega) (by omega) (by omega)
  · obtain ⟨a, ea⟩ : ∃ a : Nat, s = -(a : Int) := ⟨(-s).toNat, by omega⟩
    obtain ⟨b, eb⟩ : ∃ a : Nat, P = (a : Int) := ⟨P.toNat, by omega⟩
    subst ea eb
    have e1 : (-(a : Int)).toNat = 0 := by omega
    have e2 : (-(b : Int)).toNat = 0 := by omega
    have e3 : (- -(a : Int)).toNat = a := by omega
    have e4 : ((b : Int)).toNat = b := by omega
    simp only [e1, e2, e3, e4, Nat.pow_zero, Nat.mul_one]
    exact cut_mp xa xl xc M a b z w hx hM (by omega) (by omega) (by omega)
  · obtain ⟨a, ea⟩ : ∃ a : Nat, s = (a : Int) := ⟨s.toNat, by omega⟩
    obtain ⟨b, eb⟩ : ∃ a : Nat, P = -(a : Int) := ⟨(-P).toNat, by omega⟩
    subst ea eb
    have e1 : ((a : Int)).toNat = a := by omega
    have e2 : (-(b : Int)).toNat = 0 := by omega
    have e3 : (-(a : Int)).toNat = 0 := by omega
    have e4 : (- -(b : Int)).toNat = b := by omega
    simp only [e1, e2, e3, e4, Nat.pow_zero, Nat.mul_one]
    exact cut_pm xa xl xc M a b z w hx hM (by omega) (by omega) (by omega)
  · obtain ⟨a, ea⟩ : ∃ a : Nat, s = (a : Int) := ⟨s.toNat, by omega⟩
    obtain ⟨b, eb⟩ : ∃ a : Nat, P = (a : Int) := ⟨P.toNat, by omega⟩
    subst ea eb
    have e1 : ((a : Int)).toNat = a := by omega
    have e2 : (-(b : Int)).toNat = 0 := by omega
    have e3 : (-(a : Int)).toNat = 0 := by omega
    have e4 : ((b : Int)).toNat = b := by omega
    simp only [e1, e2, e3, e4, Nat.pow_zero, Nat.mul_one]
    exact cut_pp xa xl xc M a b z w hx hM (by omega) (by omega)
end Go.Proofs.YtbengmceiaejeaaGreatDoor
