/- The document's side: noughts; which of two neighbours is nearer. -/
import Derived.Test.YtbengmceiaejeaaGreatDoorFtR6
import Derived.Deep.RegionHeld3
namespace Go.Proofs.YtbengmceiaejeaaGreatDoor
open Go.ChangeShapes Go.WideShapes Go.ChangeAt Go.RowKit

theorem rep_more (j : Nat) : Lib.repeatL [48] j ++ [48] = Lib.repeatL [48] (j + 1) := by
  induction j with
  | zero => rfl
  | succ j ih => 
    show 48 :: (Lib.repeatL [48] j ++ [48]) = 48 :: Lib.repeatL [48] (j + 1)
    rw [ih]

theorem noughts_any (n : Nat) (hn : n ≤ 400) (w : World) :
    Calls Tryz.prog 22 #[.int .i64 (n : Int)] w fun e w' => e = .returned (.string ⟨(Lib.repeatL [48] n).toArray⟩) ∧ w' = w := by
  go_enter Tryz.func22, Tryz.ntmps22
  go_wp2
  go_loop [3, 4] (fun s i => ∃ (j : Nat) (b : ByteArray), j ≤ n ∧ i = .int .i64 (j : Int) ∧ s = .string b ∧ b.size = j ∧ b.data.toList = Lib.repeatL [48] j) (fun _ i => n - (intOf i).toNat)
  case atStart => exact ⟨0, _, by omega, rfl, rfl, rfl, rfl⟩
  case round =>
    obtain ⟨j, b, hj, rfl, rfl, hs, hb⟩ := hrel
    by_cases hlt : j < n
    · have hd : decide ((j : Int) < (n : Int)) = true := decide_eq_true (by omega)
      have HB := hide hb
      clear hb
      go_wp2
      go_round
      case rel => exact ⟨j + 1, _, by omega, by go_num, rfl, by rw [ByteArray.size_append, hs]; rfl, by rw [ba_cat, HB.out, ← rep_more]⟩
      case measure => simp [intOf]; omega
    · have hd : decide ((j : Int) < (n : Int)) = false := decide_eq_false (by omega)
      have HB := hide hb
      have HJ : Hid (j = n) := by show j = n; omega
      clear hb
      go_wp2
      go_ret
      exact ⟨by rw [ba_of HB.out, HJ.out]; rfl, rfl⟩

theorem amt_apart {w w1 : World} {a : Bool} {b : Option Addr} {l c : Nat} {p : Int} {t : TypeId} (h : Below (w.alloc (.cells #[.bool a, .slice b l c, .int .i64 p] t)).heap.size (w.alloc (.cells #[.bool a, .slice b l c, .int .i64 p] t)) w1) {v : Value} {m : Nat} (am : IsAmt w1 v m) (h0 : 0 < m) : ∀ g, v.ownBlock = some g → g ≠ w.heap.size := by
  obtain ⟨rb, ro, rc, rs, rfl, rr, rd, rn, rv⟩ := amt_pos am h0
  intro g hg he
  have hs : w.heap.size < (w.alloc (.cells #[.bool a, .slice b l c, .int .i64 p] t)).heap.size := by simp
  have hb : rb = w.heap.size := by
    have : some rb = some g := hg
    rw [← he]; exact Option.some.inj this
  subst hb
  have hl : 0 < rs.length := by
    rcases Nat.eq_zero_or_pos rs.length with hz | hz
    · rw [List.eq_nil_of_length_eq_zero hz] at rv
      simp [valD] at rv
      omega
    · exact hz
  rcases rr with ⟨hx, _⟩ | ⟨b2, off, cap, hx, _, _, _, hc⟩
  · cases hx
  · injection hx with hx1 _ _
    injection hx1 with hx2
    injection hx2 with hx3 hx4 _
    subst hx3 hx4
    have h1 := hc 0 hl
    rw [Nat.add_zero, h.cell (p := ⟨w.heap.size, ro, none⟩) hs] at h1
    match ro, h1 with
    | 0, h1 => simp at h1
    | 1, h1 => simp at h1
    | 2, h1 => simp at h1
    | ro + 3, h1 => simp at h1

theorem stored {w w1 : World} {a : Bool} {b0 : Option Addr} {l c : Nat} {p0 : Int} {t : TypeId} (h : Below (w.alloc (.cells #[.bool a, .slice b0 l c, .int .i64 p0] t)).heap.size (w.alloc (.cells #[.bool a, .slice b0 l c, .int .i64 p0] t)) w1) {v : Value} {m : Nat} (am : IsAmt w1 v m) (h0 : 0 < m) (b p : Value) :
    IsAmt (((w1.setCell ⟨w.heap.size, 0, none⟩ b).setCell ⟨w.heap.size, 1, none⟩ v).setCell ⟨w.heap.size, 2, none⟩ p) v m ∧
    Below w.heap.size w (((w1.setCell ⟨w.heap.size, 0, none⟩ b).setCell ⟨w.heap.size, 1, none⟩ v).setCell ⟨w.heap.size, 2, none⟩ p) ∧
    (((w1.setCell ⟨w.heap.size, 0, none⟩ b).setCell ⟨w.heap.size, 1, none⟩ v).setCell ⟨w.heap.size, 2, none⟩ p).cell? ⟨w.heap.size, 0, none⟩ = some b ∧
    (((w1.setCell ⟨w.heap.size, 0, none⟩ b).setCell ⟨w.heap.size, 1, none⟩ v).setCell ⟨w.heap.size, 2, none⟩ p).cell? ⟨w.heap.size, 1, none⟩ = some v ∧
    (((w1.setCell ⟨w.heap.size, 0, none⟩ b).setCell ⟨w.heap.size, 1, none⟩ v).setCell ⟨w.heap.size, 2, none⟩ p).cell? ⟨w.heap.size, 2, none⟩ = some p := by
  have hs : w.heap.size < (w.alloc (.cells #[.bool a, .slice b0 l c, .int .i64 p0] t)).heap.size := by simp
  have hq := amt_apart h am h0
  have h0' : w1.heap[w.heap.size]? = some (.cells #[.bool a, .slice b0 l c, .int .i64 p0] t (0, 0)) := by rw [h.block _ hs, heap_alloc_new]
  have h1 := heap_setCell_same w1 w.heap.size 0 _ t b h0'
  have h2 := heap_setCell_same _ w.heap.size 1 _ t v h1
  have h3 := heap_setCell_same _ w.heap.size 2 _ t p h2
  have b0' : Below w.heap.size w w1 := ((Below.refl _ _).alloc (Nat.le_refl _) _).trans (h.mono (by omega))
  refine ⟨((am.setCell hq).setCell hq).setCell hq, ((b0'.setCell (Nat.le_refl _) _).setCell (Nat.le_refl _) _).setCell (Nat.le_refl _) _, ?_, ?_, ?_⟩
  all_goals (rw [World.cell?, h3]; simp)

def nearC (k M : Nat) (s P : Int) : Int := cmpN ((k + (k + 1)) * 10 ^ s.toNat * 2 ^ (-P).toNat) (M * 2 ^ 1 * 10 ^ (-s).toNat * 2 ^ P.toNat)

set_option maxHeartbeats 4000000 in
theorem nearer_any (va : Option Addr) (vl vc : Nat) (xa : Option Addr) (xl xc k M : Nat) (s P : Int) (z : Bool) (w : World) (hv : IsAmt w (.slice va vl vc) k) (hx : IsAmt w (.slice xa xl xc) M) (hk : k < 2 ^ 60) (hM0 : 0 < M) (hM : M < 2 ^ 60) (hs : -400 ≤ s ∧ s ≤ 400) (hp : -1200 ≤ P ∧ P ≤ 1200) :
    Calls Tryz.prog 51 #[.slice va vl vc, .int .i64 s, .agg #[.bool z, .slice xa xl xc, .int .i64 P]] w fun e w' => ∃ v, e = .returned v ∧ IsAmt w' v (if 0 < nearC k M s P ∨ (nearC k M s P = 0 ∧ k % 2 = 0) then k else k + 1) ∧ Below w.heap.size w w' := by
  have hb1 : k < BIG := big_of hk (by omega)
  have hb2 : 1 < BIG := big_of (a := 1) (by decide) (by omega)
  have hb3 : k + 1 < BIG := big_of (a := 61) (by omega) (by omega)
  have hb4 : M < BIG := big_of hM (by omega)
  have hb5 : M * 65536 < BIG := big_of (a := 60 + 16) (mul_pow_lt (k := 16) hM) (by omega)
  have AD : ∀ a b w1, IsAmt w1 a k → IsAmt w1 b 1 → Calls Tryz.prog 49 #[a, b] w1 fun e w' => ∃ v, e = .returned v ∧ IsAmt w' v (k + 1) ∧ Below w1.heap.size w1 w' := fun a b w1 h1 h2 => (addD_any a b k 1 w1 h1 h2 hb1 hb2).mono fun _ _ ⟨v, e1, e2, _, e3⟩ => ⟨v, e1, e2, e3⟩
  have AD2 : ∀ a b w1, IsAmt w1 a k → IsAmt w1 b (k + 1) → Calls Tryz.prog 49 #[a, b] w1 fun e w' => ∃ v, e = .returned v ∧ IsAmt w' v (k + (k + 1)) ∧ Below w1.heap.size w1 w' := fun a b w1 h1 h2 => (addD_any a b k (k + 1) w1 h1 h2 hb1 hb3).mono fun _ _ ⟨v, e1, e2, _, e3⟩ => ⟨v, e1, e2, e3⟩
  have SH : ∀ w1, IsAmt w1 (.slice xa xl xc) M → Calls Tryz.prog 74 #[.slice xa xl xc, .int .i64 1] w1 fun e w' => ∃ v, e = .returned v ∧ IsAmt w' v (M * 2 ^ 1) ∧ Below w1.heap.size w1 w' := fun w1 h => shl_any _ M 1 w1 h hb4 hb5 (by omega)
  have AG : ∀ v a l c w1, IsAmt w1 v (k + (k + 1)) → IsAmt w1 (.slice a l c) (M * 2 ^ 1) → Calls Tryz.prog 73 #[v, .int .i64 s, .agg #[.bool false, .slice a l c, .int .i64 P]] w1 fun e w' => e = .returned (.int .i64 (nearC k M s P)) ∧ Below w1.heap.size w1 w' := fun v a l c w1 h1 h2 => against_any v a l c _ _ s P false w1 h1 h2 (by omega) (by omega) hs hp
  have VA : ∀ w1, IsAmt w1 (.slice va vl vc) k → Calls Tryz.prog 53 #[.slice va vl vc] w1 fun e w' => e = .returned (.int .u64 ((k : Nat) : Int)) ∧ w' = w1 := fun w1 h => value_any _ _ w1 h (by omega)
  obtain ⟨C, eC⟩ : ∃ C, nearC k M s P = C := ⟨_, rfl⟩
  rw [eC] at AG ⊢
  obtain ⟨k1, ek1⟩ : ∃ C, k + 1 = C := ⟨_, rfl⟩
  rw [ek1] at AD AD2 AG ⊢
  obtain ⟨k2, ek2⟩ : ∃ C, k + k1 = C := ⟨_, rfl⟩
  rw [ek2] at AD2 AG
  obtain ⟨M2, eM2⟩ : ∃ C, M * 2 ^ 1 = C := ⟨_, rfl⟩
  rw [eM2] at SH AG
  have hM2 : 0 < M2 := by omega
  have HV := hide hv
  have HX := hide hx
  have hC : C = -1 ∨ C = 0 ∨ C = 1 := by rw [← eC]; unfold nearC cmpN; split <;> (try split) <;> omega
  have HK : Hid (k < 18446744073709551616) := by show k < _; omega
  clear hb1 hb2 hb3 hb4 hb5 hk hM hv hx eC ek1 ek2 eM2
  rcases hC with hC | hC | hC <;> subst hC
  · rw [if_neg (by omega)]
    go_enter Tryz.func51, Tryz.ntmps51
    go_wp2_with (first
      | (go_at_call 49; refine (AD _ _ _ (HV.out.below (one_below w _ _)) (one_at w _ _)).mono ?_; rintro e w1 ⟨t1, rfl, ht1, b1⟩; clear AD; obtain ⟨O1, kk1⟩ := one_kept b1; obtain ⟨_, x1, x2, _, _, _, y1, z1⟩ := cell_kept kk1; obtain ⟨a1, l1, c1, rfl⟩ := amt_form ht1)
      | (go_at_call 49; refine (AD2 _ _ _ (HV.out.below y1) ht1).mono ?_; rintro e w2 ⟨t2, rfl, ht2, b2⟩; clear x1 x2 AD2; have kk2 := kk1.trans (b2.mono kk1.size); obtain ⟨_, x1, x2, _, _, _, y2, z2⟩ := cell_kept kk2; obtain ⟨a2, l2, c2, rfl⟩ := amt_form ht2))
    go_region_held3 (fun w' => w'.cell? ⟨w.heap.size, 1, none⟩ = some (.slice xa xl xc) ∧ w'.cell? ⟨w.heap.size, 2, none⟩ = some (.int .i64 P)) (go_keep) (first
        | (go_at_call 74; refine (SH _ (HX.out.below ((y2.alloc (Nat.le_of_lt z2) _).drew))).mono ?_; rintro e w3 ⟨t3, rfl, ht3, b3⟩
           have N3 := drew_kept b3
           obtain ⟨n0, n1, n2, f0, f1, f2, q3, z4⟩ := cell_kept N3
           clear x1 x2
           have kk3 := kk2.trans (q3.mono kk2.size)
           obtain ⟨_, x1, x2, _, _, _, y3, z3⟩ := cell_kept kk3
           obtain ⟨a3, l3, c3, rfl⟩ := amt_form ht3
           obtain ⟨g5, q5, p0, p1, p2⟩ := stored N3 ht3 hM2 (.bool false) (.int .i64 P)
           have kk5 := kk2.trans (q5.mono kk2.size)
           obtain ⟨_, s1, s2, _, _, _, y5, z5⟩ := cell_kept kk5)
        | (go_at_call 74; refine (SH _ (HX.out.below y2.drew)).mono ?_; rintro e w3 ⟨t3, rfl, ht3, b3⟩
           have q3 := drew_kept b3
           clear x1 x2
           have kk3 := kk2.trans (q3.mono kk2.size)
           obtain ⟨_, x1, x2, _, _, _, y3, z3⟩ := cell_kept kk3
           obtain ⟨a3, l3, c3, rfl⟩ := amt_form ht3)
        | fail)
    all_goals go_wp2_with (first
      | (go_at_call 73; refine (AG _ _ _ _ _ (ht2.below q5) g5).mono ?_; rintro e w4 ⟨rfl, b4⟩; have qq := q5; have y4 : Below w.heap.size w w4 := y5.trans (b4.mono y5.size))
      | (go_at_call 73; refine (AG _ _ _ _ _ ((ht2.below q3).below ((Below.refl _ _).alloc (Nat.le_refl _) _)) (ht3.below ((Below.refl _ _).alloc (Nat.le_refl _) _))).mono ?_; rintro e w4 ⟨rfl, b4⟩; have qq := q3.alloc q3.size (.cells #[.bool false, .slice a3 l3 c3, .int .i64 P] 72); have y6 := y3.alloc y3.size (.cells #[.bool false, .slice a3 l3 c3, .int .i64 P] 72); have y4 : Below w.heap.size w w4 := y6.trans (b4.mono y6.size)))
    all_goals go_ret
    all_goals exact ⟨_, rfl, (((ht1.below b2).below qq).below b4), y4⟩

  · rcases Nat.mod_two_eq_zero_or_one k with hp2 | hp2
    · have hq2 : (k : Int) % 2 = 0 := by omega
      rw [if_pos (Or.inr ⟨rfl, hp2⟩)]
      go_enter Tryz.func51, Tryz.ntmps51
      go_wp2_with (first
        | (go_at_call 49; refine (AD _ _ _ (HV.out.below (one_below w _ _)) (one_at w _ _)).mono ?_; rintro e w1 ⟨t1, rfl, ht1, b1⟩; clear AD; obtain ⟨O1, kk1⟩ := one_kept b1; obtain ⟨_, x1, x2, _, _, _, y1, z1⟩ := cell_kept kk1; obtain ⟨a1, l1, c1, rfl⟩ := amt_form ht1)
        | (go_at_call 49; refine (AD2 _ _ _ (HV.out.below y1) ht1).mono ?_; rintro e w2 ⟨t2, rfl, ht2, b2⟩; clear x1 x2 AD2; have kk2 := kk1.trans (b2.mono kk1.size); obtain ⟨_, x1, x2, _, _, _, y2, z2⟩ := cell_kept kk2; obtain ⟨a2, l2, c2, rfl⟩ := amt_form ht2))
      go_region_held3 (fun w' => w'.cell? ⟨w.heap.size, 1, none⟩ = some (.slice xa xl xc) ∧ w'.cell? ⟨w.heap.size, 2, none⟩ = some (.int .i64 P)) (go_keep) (first
          | (go_at_call 74; refine (SH _ (HX.out.below ((y2.alloc (Nat.le_of_lt z2) _).drew))).mono ?_; rintro e w3 ⟨t3, rfl, ht3, b3⟩
             have N3 := drew_kept b3
             obtain ⟨n0, n1, n2, f0, f1, f2, q3, z4⟩ := cell_kept N3
             clear x1 x2
             have kk3 := kk2.trans (q3.mono kk2.size)
             obtain ⟨_, x1, x2, _, _, _, y3, z3⟩ := cell_kept kk3
             obtain ⟨a3, l3, c3, rfl⟩ := amt_form ht3
             obtain ⟨g5, q5, p0, p1, p2⟩ := stored N3 ht3 hM2 (.bool false) (.int .i64 P)
             have kk5 := kk2.trans (q5.mono kk2.size)
             obtain ⟨_, s1, s2, _, _, _, y5, z5⟩ := cell_kept kk5)
          | (go_at_call 74; refine (SH _ (HX.out.below y2.drew)).mono ?_; rintro e w3 ⟨t3, rfl, ht3, b3⟩
             have q3 := drew_kept b3
             clear x1 x2
             have kk3 := kk2.trans (q3.mono kk2.size)
             obtain ⟨_, x1, x2, _, _, _, y3, z3⟩ := cell_kept kk3
             obtain ⟨a3, l3, c3, rfl⟩ := amt_form ht3)
          | fail)
      all_goals go_wp2_with (first
        | (go_at_call 73; refine (AG _ _ _ _ _ (ht2.below q5) g5).mono ?_; rintro e w4 ⟨rfl, b4⟩; have qq := q5; have y4 : Below w.heap.size w w4 := y5.trans (b4.mono y5.size))
        | (go_at_call 73; refine (AG _ _ _ _ _ ((ht2.below q3).below ((Below.refl _ _).alloc (Nat.le_refl _) _)) (ht3.below ((Below.refl _ _).alloc (Nat.le_refl _) _))).mono ?_; rintro e w4 ⟨rfl, b4⟩; have qq := q3.alloc q3.size (.cells #[.bool false, .slice a3 l3 c3, .int .i64 P] 72); have y6 := y3.alloc y3.size (.cells #[.bool false, .slice a3 l3 c3, .int .i64 P] 72); have y4 : Below w.heap.size w w4 := y6.trans (b4.mono y6.size))
        | (go_at_call 53; refine (VA _ (HV.out.below y4)).mono ?_; rintro e w6 ⟨rfl, hw⟩; replace hw := hw.symm; subst hw))
      all_goals go_ret
      all_goals exact ⟨_, rfl, HV.out.below y4, y4⟩

    · have hq2 : (k : Int) % 2 = 1 := by omega
      rw [if_neg (by omega)]
      go_enter Tryz.func51, Tryz.ntmps51
      go_wp2_with (first
        | (go_at_call 49; refine (AD _ _ _ (HV.out.below (one_below w _ _)) (one_at w _ _)).mono ?_; rintro e w1 ⟨t1, rfl, ht1, b1⟩; clear AD; obtain ⟨O1, kk1⟩ := one_kept b1; obtain ⟨_, x1, x2, _, _, _, y1, z1⟩ := cell_kept kk1; obtain ⟨a1, l1, c1, rfl⟩ := amt_form ht1)
        | (go_at_call 49; refine (AD2 _ _ _ (HV.out.below y1) ht1).mono ?_; rintro e w2 ⟨t2, rfl, ht2, b2⟩; clear x1 x2 AD2; have kk2 := kk1.trans (b2.mono kk1.size); obtain ⟨_, x1, x2, _, _, _, y2, z2⟩ := cell_kept kk2; obtain ⟨a2, l2, c2, rfl⟩ := amt_form ht2))
      go_region_held3 (fun w' => w'.cell? ⟨w.heap.size, 1, none⟩ = some (.slice xa xl xc) ∧ w'.cell? ⟨w.heap.size, 2, none⟩ = some (.int .i64 P)) (go_keep) (first
          | (go_at_call 74; refine (SH _ (HX.out.below ((y2.alloc (Nat.le_of_lt z2) _).drew))).mono ?_; rintro e w3 ⟨t3, rfl, ht3, b3⟩
             have N3 := drew_kept b3
             obtain ⟨n0, n1, n2, f0, f1, f2, q3, z4⟩ := cell_kept N3
             clear x1 x2
             have kk3 := kk2.trans (q3.mono kk2.size)
             obtain ⟨_, x1, x2, _, _, _, y3, z3⟩ := cell_kept kk3
             obtain ⟨a3, l3, c3, rfl⟩ := amt_form ht3
             obtain ⟨g5, q5, p0, p1, p2⟩ := stored N3 ht3 hM2 (.bool false) (.int .i64 P)
             have kk5 := kk2.trans (q5.mono kk2.size)
             obtain ⟨_, s1, s2, _, _, _, y5, z5⟩ := cell_kept kk5)
          | (go_at_call 74; refine (SH _ (HX.out.below y2.drew)).mono ?_; rintro e w3 ⟨t3, rfl, ht3, b3⟩
             have q3 := drew_kept b3
             clear x1 x2
             have kk3 := kk2.trans (q3.mono kk2.size)
             obtain ⟨_, x1, x2, _, _, _, y3, z3⟩ := cell_kept kk3
             obtain ⟨a3, l3, c3, rfl⟩ := amt_form ht3)
          | fail)
      all_goals go_wp2_with (first
        | (go_at_call 73; refine (AG _ _ _ _ _ (ht2.below q5) g5).mono ?_; rintro e w4 ⟨rfl, b4⟩; have qq := q5; have y4 : Below w.heap.size w w4 := y5.trans (b4.mono y5.size))
        | (go_at_call 73; refine (AG _ _ _ _ _ ((ht2.below q3).below ((Below.refl _ _).alloc (Nat.le_refl _) _)) (ht3.below ((Below.refl _ _).alloc (Nat.le_refl _) _))).mono ?_; rintro e w4 ⟨rfl, b4⟩; have qq := q3.alloc q3.size (.cells #[.bool false, .slice a3 l3 c3, .int .i64 P] 72); have y6 := y3.alloc y3.size (.cells #[.bool false, .slice a3 l3 c3, .int .i64 P] 72); have y4 : Below w.heap.size w w4 := y6.trans (b4.mono y6.size))
        | (go_at_call 53; refine (VA _ (HV.out.below y4)).mono ?_; rintro e w6 ⟨rfl, hw⟩; replace hw := hw.symm; subst hw))
      all_goals go_ret
      all_goals exact ⟨_, rfl, (((ht1.below b2).below qq).below b4), y4⟩

  · rw [if_pos (Or.inl (by decide))]
    go_enter Tryz.func51, Tryz.ntmps51
    go_wp2_with (first
      | (go_at_call 49; refine (AD _ _ _ (HV.out.below (one_below w _ _)) (one_at w _ _)).mono ?_; rintro e w1 ⟨t1, rfl, ht1, b1⟩; clear AD; obtain ⟨O1, kk1⟩ := one_kept b1; obtain ⟨_, x1, x2, _, _, _, y1, z1⟩ := cell_kept kk1; obtain ⟨a1, l1, c1, rfl⟩ := amt_form ht1)
      | (go_at_call 49; refine (AD2 _ _ _ (HV.out.below y1) ht1).mono ?_; rintro e w2 ⟨t2, rfl, ht2, b2⟩; clear x1 x2 AD2; have kk2 := kk1.trans (b2.mono kk1.size); obtain ⟨_, x1, x2, _, _, _, y2, z2⟩ := cell_kept kk2; obtain ⟨a2, l2, c2, rfl⟩ := amt_form ht2))
    go_region_held3 (fun w' => w'.cell? ⟨w.heap.size, 1, none⟩ = some (.slice xa xl xc) ∧ w'.cell? ⟨w.heap.size, 2, none⟩ = some (.int .i64 P)) (go_keep) (first
        | (go_at_call 74; refine (SH _ (HX.out.below ((y2.alloc (Nat.le_of_lt z2) _).drew))).mono ?_; rintro e w3 ⟨t3, rfl, ht3, b3⟩
           have N3 := drew_kept b3
           obtain ⟨n0, n1, n2, f0, f1, f2, q3, z4⟩ := cell_kept N3
           clear x1 x2
           have kk3 := kk2.trans (q3.mono kk2.size)
           obtain ⟨_, x1, x2, _, _, _, y3, z3⟩ := cell_kept kk3
           obtain ⟨a3, l3, c3, rfl⟩ := amt_form ht3
           obtain ⟨g5, q5, p0, p1, p2⟩ := stored N3 ht3 hM2 (.bool false) (.int .i64 P)
           have kk5 := kk2.trans (q5.mono kk2.size)
           obtain ⟨_, s1, s2, _, _, _, y5, z5⟩ := cell_kept kk5)
        | (go_at_call 74; refine (SH _ (HX.out.below y2.drew)).mono ?_; rintro e w3 ⟨t3, rfl, ht3, b3⟩
           have q3 := drew_kept b3
           clear x1 x2
           have kk3 := kk2.trans (q3.mono kk2.size)
           obtain ⟨_, x1, x2, _, _, _, y3, z3⟩ := cell_kept kk3
           obtain ⟨a3, l3, c3, rfl⟩ := amt_form ht3)
        | fail)
    all_goals go_wp2_with (first
      | (go_at_call 73; refine (AG _ _ _ _ _ (ht2.below q5) g5).mono ?_; rintro e w4 ⟨rfl, b4⟩; have qq := q5; have y4 : Below w.heap.size w w4 := y5.trans (b4.mono y5.size))
      | (go_at_call 73; refine (AG _ _ _ _ _ ((ht2.below q3).below ((Below.refl _ _).alloc (Nat.le_refl _) _)) (ht3.below ((Below.refl _ _).alloc (Nat.le_refl _) _))).mono ?_; rintro e w4 ⟨rfl, b4⟩; have qq := q3.alloc q3.size (.cells #[.bool false, .slice a3 l3 c3, .int .i64 P] 72); have y6 := y3.alloc y3.size (.cells #[.bool false, .slice a3 l3 c3, .int .i64 P] 72); have y4 : Below w.heap.size w w4 := y6.trans (b4.mono y6.size)))
    all_goals go_ret
    all_goals exact ⟨_, rfl, HV.out.below y4, y4⟩
end Go.Proofs.YtbengmceiaejeaaGreatDoor
