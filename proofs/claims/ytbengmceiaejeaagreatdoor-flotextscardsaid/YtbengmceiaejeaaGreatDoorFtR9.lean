/- The document's Text. -/
import Derived.Test.YtbengmceiaejeaaGreatDoorFtR8
namespace Go.Proofs.YtbengmceiaejeaaGreatDoor
open Go.ChangeShapes Go.WideShapes Go.ChangeAt Go.RowKit

/-- Of 0 and infinity. -/
theorem rtext_zero (w : World) : Calls Tryz.prog 7 #[.int .u64 0] w fun x w' => x = .returned (.string ⟨#[48, 46, 48]⟩) ∧ Below w.heap.size w w' := by
  have NN := fun w => rIsNaN_any 0 (by decide) w
  have II := fun w => rIsInf_any 0 (by decide) w
  have h1 : nanB 0 = false := by decide
  have h2 : infB 0 = false := by decide
  have h3 : bits .and .u64 (0 : Int) 9223372036854775808 = 0 := by decide
  rw [h1] at NN
  rw [h2] at II
  go_enter Tryz.func7, Tryz.ntmps7
  go_wp2_with (first
    | (go_at_call 10; refine (NN _).mono ?_; rintro e w' ⟨rfl, hw⟩; replace hw := hw.symm; subst hw)
    | (go_at_call 11; refine (II _).mono ?_; rintro e w' ⟨rfl, hw⟩; replace hw := hw.symm; subst hw))
  go_ret
  exact ⟨rfl, Below.refl _ _⟩

theorem rtext_nan (u : Nat) (hu : u < 18446744073709551616) (hn : nanB u = true) (w : World) : Calls Tryz.prog 7 #[.int .u64 (u : Int)] w fun x w' => x = .returned (.string ⟨#[110, 97, 110]⟩) ∧ Below w.heap.size w w' := by
  have NN := fun w => rIsNaN_any u hu w
  rw [hn] at NN
  go_enter Tryz.func7, Tryz.ntmps7
  go_wp2_with (first
    | (go_at_call 10; refine (NN _).mono ?_; rintro e w' ⟨rfl, hw⟩; replace hw := hw.symm; subst hw))
  go_ret
  exact ⟨rfl, Below.refl _ _⟩

theorem and_low (u : Nat) (hu : u < 9223372036854775808) : bits .and .u64 (u : Int) 9223372036854775808 = 0 := by
  have h := u64_and_sign u (by omega)
  have e : sgnB u = false := by
    unfold sgnB
    have : u / 9223372036854775808 = 0 := by omega
    rw [this]; rfl
  rw [h, e]
  rfl

theorem rtext_inf (w : World) : Calls Tryz.prog 7 #[.int .u64 9218868437227405312] w fun x w' => x = .returned (.string ⟨#[105, 110, 102]⟩) ∧ Below w.heap.size w w' := by
  have NN := fun w => rIsNaN_any 9218868437227405312 (by decide) w
  have II := fun w => rIsInf_any 9218868437227405312 (by decide) w
  have h1 : nanB 9218868437227405312 = false := by decide
  have h2 : infB 9218868437227405312 = true := by decide
  have h3 : bits .and .u64 (9218868437227405312 : Int) 9223372036854775808 = 0 := by decide
  rw [h1] at NN
  rw [h2] at II
  go_enter Tryz.func7, Tryz.ntmps7
  go_wp2_with (first
    | (go_at_call 10; refine (NN _).mono ?_; rintro e w' ⟨rfl, hw⟩; replace hw := hw.symm; subst hw)
    | (go_at_call 11; refine (II _).mono ?_; rintro e w' ⟨rfl, hw⟩; replace hw := hw.symm; subst hw))
  go_ret
  exact ⟨rfl, Below.refl _ _⟩

/-- Of a real below 0: a mark ahead. -/
theorem rtext_neg (u : Nat) (hu : u < 18446744073709551616) (hn : nanB u = false) (hs : sgnB u = true) (A : ByteArray) (hA : A.size ≤ 4000) (w : World)
    (TX : ∀ w, Calls Tryz.prog 7 #[.int .u64 ((rung u : Nat) : Int)] w fun x w' => x = .returned (.string A) ∧ Below w.heap.size w w') :
    Calls Tryz.prog 7 #[.int .u64 (u : Int)] w fun x w' => x = .returned (.string (⟨#[126]⟩ ++ A)) ∧ Below w.heap.size w w' := by
  have NN := fun w => rIsNaN_any u hu w
  rw [hn] at NN
  have hx := u64_xor_sign u hu
  have hf : flip u = rung u := by unfold flip; rw [hs, if_pos rfl]; rcases sgn_cases u hu with ⟨h1, h2, h3⟩ | ⟨h1, h2, h3⟩; omega; rw [hs] at h1; cases h1
  rw [hf] at hx
  have ha : bits .and .u64 (u : Int) 9223372036854775808 = 9223372036854775808 := by rw [u64_and_sign u hu, hs]; rfl
  obtain ⟨r, er⟩ : ∃ r, rung u = r := ⟨_, rfl⟩
  rw [er] at hx TX
  clear hf er hs hn
  go_enter Tryz.func7, Tryz.ntmps7
  go_wp2_with (first
    | (go_at_call 10; refine (NN _).mono ?_; rintro e w' ⟨rfl, hw⟩; replace hw := hw.symm; subst hw)
    | (go_at_call 7; refine (TX _).mono ?_; rintro e w1 ⟨rfl, b1⟩))
  go_ret
  exact ⟨rfl, b1⟩

theorem rtext_low (u : Nat) (h0 : 0 < u) (hu : u < 9223372036854775808) (hn : nanB u = false) (hi : infB u = false) (A : ByteArray) (e : Int) (hA : A.size ≤ 400) (he : -3 ≤ e ∧ e ≤ 0) (w : World)
    (RS : Calls Tryz.prog 21 #[.int .u64 (u : Int)] w fun x w' => x = .returned (.tuple #[.string A, .int .i64 e]) ∧ Below w.heap.size w w') :
    Calls Tryz.prog 7 #[.int .u64 (u : Int)] w fun x w' => x = .returned (.string (⟨#[48, 46]⟩ ++ ⟨(Lib.repeatL [48] (-e).toNat).toArray⟩ ++ A)) ∧ Below w.heap.size w w' := by
  have NN := fun w => rIsNaN_any u (by omega) w
  have II := fun w => rIsInf_any u (by omega) w
  rw [hn] at NN
  rw [hi] at II
  have ha := and_low u hu
  have hz : ((u : Int) == 0) = false := by simp; omega
  obtain ⟨k, ek⟩ : ∃ k : Nat, -e = (k : Int) := ⟨(-e).toNat, by omega⟩
  have hk : k ≤ 3 := by omega
  have NO := fun w => noughts_any k (by omega) w
  rw [ek, Int.toNat_natCast]
  obtain ⟨Z, eZ⟩ : ∃ Z, (⟨(Lib.repeatL [48] k).toArray⟩ : ByteArray) = Z := ⟨_, rfl⟩
  have hZ : Z.size = k := by rw [← eZ]; show (Lib.repeatL [48] k).toArray.size = k; simp [Lib.repeatL_length]
  rw [eZ] at NO ⊢
  obtain ⟨p, ep⟩ : ∃ p, A.size = p := ⟨_, rfl⟩
  rw [ep] at hA
  clear hn hi eZ
  go_enter Tryz.func7, Tryz.ntmps7
  go_wp2_with (first
    | (go_at_call 10; refine (NN _).mono ?_; rintro e w' ⟨rfl, hw⟩; replace hw := hw.symm; subst hw)
    | (go_at_call 11; refine (II _).mono ?_; rintro e w' ⟨rfl, hw⟩; replace hw := hw.symm; subst hw)
    | (go_at_call 21; refine RS.mono ?_; rintro x w1 ⟨rfl, b1⟩)
    | (go_at_call 22; refine (NO _).mono ?_; rintro x w2 ⟨rfl, hw⟩; replace hw := hw.symm; subst hw))
  go_ret
  exact ⟨rfl, b1⟩

theorem rtext_mid (u : Nat) (h0 : 0 < u) (hu : u < 9223372036854775808) (hn : nanB u = false) (hi : infB u = false) (A : ByteArray) (e : Nat) (hA : A.size ≤ 400) (he : 0 < e ∧ e ≤ 15) (w : World)
    (RS : Calls Tryz.prog 21 #[.int .u64 (u : Int)] w fun x w' => x = .returned (.tuple #[.string A, .int .i64 (e : Int)]) ∧ Below w.heap.size w w') :
    Calls Tryz.prog 7 #[.int .u64 (u : Int)] w fun x w' => x = .returned (.string ⟨(wpL A.data.toList e).toArray⟩) ∧ Below w.heap.size w w' := by
  have NN := fun w => rIsNaN_any u (by omega) w
  have II := fun w => rIsInf_any u (by omega) w
  rw [hn] at NN
  rw [hi] at II
  have ha := and_low u hu
  have hz : ((u : Int) == 0) = false := by simp; omega
  obtain ⟨p, ep⟩ : ∃ p, A.size = p := ⟨_, rfl⟩
  rw [ep] at hA
  have hl : A.data.toList.length = p := by rw [Array.length_toList]; exact ep
  clear hn hi
  by_cases hpe : p ≤ e
  · obtain ⟨k, ek⟩ : ∃ k : Nat, e - p = k := ⟨_, rfl⟩
    have ekI : (e : Int) - (p : Int) = (k : Int) := by omega
    have NO := fun w => noughts_any k (by omega) w
    obtain ⟨Z, eZ⟩ : ∃ Z, (⟨(Lib.repeatL [48] k).toArray⟩ : ByteArray) = Z := ⟨_, rfl⟩
    have hZ : Z.size = k := by rw [← eZ]; show (Lib.repeatL [48] k).toArray.size = k; simp [Lib.repeatL_length]
    rw [eZ] at NO
    have HF : Hid ((⟨(wpL A.data.toList e).toArray⟩ : ByteArray) = A ++ Z ++ ⟨#[46, 48]⟩) := by
      refine Eq.symm (ba_of ?_)
      rw [ba_cat, ba_cat, wpL, if_pos (by omega), hl, ek, ← eZ]
    clear eZ hl ek
    go_enter Tryz.func7, Tryz.ntmps7
    go_wp2_with (first
    | (go_at_call 10; refine (NN _).mono ?_; rintro e w' ⟨rfl, hw⟩; replace hw := hw.symm; subst hw)
    | (go_at_call 11; refine (II _).mono ?_; rintro e w' ⟨rfl, hw⟩; replace hw := hw.symm; subst hw)
    | (go_at_call 21; refine RS.mono ?_; rintro x w1 ⟨rfl, b1⟩)
    | (go_at_call 22; refine (NO _).mono ?_; rintro x w2 ⟨rfl, hw⟩; replace hw := hw.symm; subst hw))
    go_ret
    exact ⟨by rw [HF.out]; rfl, b1⟩
  · obtain ⟨B, hB⟩ : ∃ B : ByteArray, A.extract 0 e = B := ⟨_, rfl⟩
    obtain ⟨C, hC⟩ : ∃ C : ByteArray, A.extract e p = C := ⟨_, rfl⟩
    have lB : B.size = e := by rw [← hB, ByteArray.size_extract]; omega
    have lC : C.size ≤ 400 := by rw [← hC, ByteArray.size_extract]; omega
    obtain ⟨q, eq⟩ : ∃ q, C.size = q := ⟨_, rfl⟩
    rw [eq] at lC
    have HF : Hid ((⟨(wpL A.data.toList e).toArray⟩ : ByteArray) = B ++ ⟨#[46]⟩ ++ C) := by
      refine Eq.symm (ba_of ?_)
      rw [ba_cat, ba_cat, ← hB, ← hC, ba_cut, ba_cut, wpL, if_neg (by omega), List.take_of_length_le (by omega : A.data.toList.length ≤ p)]
      rfl
    have hSl1 : ∀ W : World, (Instr.slice 9 (.string A) none (some (.int .i64 (e : Int))) none).run Tryz.prog W = .ok (.string B) W := by
      intro W
      rw [run_slice_string_to_if W 9 A .i64 e (by kernel_rfl), if_pos (by omega), Int.toNat_natCast, hB]
    have hSl2 : ∀ W : World, (Instr.slice 9 (.string A) (some (.int .i64 (e : Int))) none none).run Tryz.prog W = .ok (.string C) W := by
      intro W
      rw [run_slice_string_from_if W 9 A .i64 e (by kernel_rfl), if_pos (by omega), Int.toNat_natCast, ep, hC]
    clear hB hC hl
    go_enter Tryz.func7, Tryz.ntmps7
    go_wp2_with (first
    | (go_at_call 10; refine (NN _).mono ?_; rintro e w' ⟨rfl, hw⟩; replace hw := hw.symm; subst hw)
    | (go_at_call 11; refine (II _).mono ?_; rintro e w' ⟨rfl, hw⟩; replace hw := hw.symm; subst hw)
    | (go_at_call 21; refine RS.mono ?_; rintro x w1 ⟨rfl, b1⟩))
    first
      | (go_ret; exact ⟨by rw [HF.out]; rfl, b1⟩)
      | (go_region_with fail
         go_wp2
         go_ret
         exact ⟨by rw [HF.out]; rfl, b1.trans (below_drewN _ _ 1)⟩)

theorem nil_no {C : ByteArray} {q : Nat} (h : C.size = q) (hq : ¬ q = 0) : C.toList.isEmpty = false := by
  have e : C.toList = C.data.toList := by first | exact Lib.toList_data C | exact ByteArray.toList_eq C
  rw [e]
  cases hl : C.data.toList with
  | nil => exfalso; rw [ba_size, hl] at h; exact hq h.symm
  | cons _ _ => rfl

set_option maxHeartbeats 4000000 in
theorem rtext_big (u : Nat) (h0 : 0 < u) (hu : u < 9223372036854775808) (hn : nanB u = false) (hi : infB u = false) (A : ByteArray) (e : Int) (hA1 : 1 ≤ A.size) (hA : A.size ≤ 400) (he : e < -3 ∨ 15 < e) (heb : -400 ≤ e ∧ e ≤ 400) (w : World)
    (RS : Calls Tryz.prog 21 #[.int .u64 (u : Int)] w fun x w' => x = .returned (.tuple #[.string A, .int .i64 e]) ∧ Below w.heap.size w w') :
    Calls Tryz.prog 7 #[.int .u64 (u : Int)] w fun x w' => x = .returned (.string ⟨(wpL A.data.toList 1 ++ [69] ++ wtB (e - 1)).toArray⟩) ∧ Below w.heap.size w w' := by
  have NN := fun w => rIsNaN_any u (by omega) w
  have II := fun w => rIsInf_any u (by omega) w
  rw [hn] at NN
  rw [hi] at II
  have ha := and_low u hu
  have hz : ((u : Int) == 0) = false := by simp; omega
  obtain ⟨p, ep⟩ : ∃ p, A.size = p := ⟨_, rfl⟩
  rw [ep] at hA hA1
  have hl : A.data.toList.length = p := by rw [Array.length_toList]; exact ep
  obtain ⟨B, hB⟩ : ∃ B : ByteArray, A.extract 0 1 = B := ⟨_, rfl⟩
  obtain ⟨C, hC⟩ : ∃ C : ByteArray, A.extract 1 p = C := ⟨_, rfl⟩
  have lB : B.size = 1 := by rw [← hB, ByteArray.size_extract]; omega
  have lC : C.size = p - 1 := by rw [← hC, ByteArray.size_extract]; omega
  obtain ⟨q, eq⟩ : ∃ q, p - 1 = q := ⟨_, rfl⟩
  rw [eq] at lC
  obtain ⟨x, ex⟩ : ∃ x, (e - 1).natAbs = x := ⟨_, rfl⟩
  have hx0 : 0 < x := by omega
  have hx1 : x < 1000 := by omega
  have SM := fun w => small_any x (by omega) w
  have DG := fun v w (h : IsAmt w v x) => digits_any v x w h hx0 (by omega)
  obtain ⟨D, eD⟩ : ∃ D, (⟨(Lib.decDigits x).toArray⟩ : ByteArray) = D := ⟨_, rfl⟩
  have lD : D.size ≤ 4 := by
    rw [← eD]
    have h := itoa_len (E := (x : Int)) (by omega)
    unfold Lib.itoa at h
    rw [if_neg (by omega), Int.toNat_natCast] at h
    show (Lib.decDigits x).toArray.size ≤ 4
    simpa using h
  simp only [eD] at DG
  obtain ⟨d, ed⟩ : ∃ d, D.size = d := ⟨_, rfl⟩
  rw [ed] at lD
  have hSl1 : ∀ W : World, (Instr.slice 9 (.string A) none (some (.int .i64 1)) none).run Tryz.prog W = .ok (.string B) W := by
    intro W
    rw [run_slice_string_to_if W 9 A .i64 1 (by kernel_rfl), if_pos (by omega), ← hB]
    rfl
  have hSl2 : ∀ W : World, (Instr.slice 9 (.string A) (some (.int .i64 1)) none none).run Tryz.prog W = .ok (.string C) W := by
    intro W
    rw [run_slice_string_from_if W 9 A .i64 1 (by kernel_rfl), if_pos (by omega), ep, ← hC]
    rfl
  have hwp : wpL A.data.toList 1 = B.data.toList ++ [46] ++ (if q = 0 then [48] else C.data.toList) := by
    rw [← hB, ← hC, ba_cut, ba_cut, wpL, hl]
    by_cases h1 : p ≤ 1
    · rw [if_pos h1, if_pos (by omega), (by omega : 1 - p = 0), List.take_of_length_le (by omega)]
      simp [Lib.repeatL]
    · rw [if_neg h1, if_neg (by omega), List.take_of_length_le (by omega : A.data.toList.length ≤ p)]
      rfl
  have hq4 : q ≤ 400 := by omega
  by_cases hq : q = 0
  · rcases he with he | he
    · have HF : Hid ((⟨(wpL A.data.toList 1 ++ [69] ++ wtB (e - 1)).toArray⟩ : ByteArray) = B ++ ⟨#[46]⟩ ++ ⟨#[48]⟩ ++ ⟨#[69, 126]⟩ ++ D) := by
        refine Eq.symm (ba_of ?_)
        rw [ba_cat, ba_cat, ba_cat, ba_cat, hwp, if_pos hq, wtB, if_pos (by omega), ex, ← eD]
        first | done | simp
      have hC0 : C = ⟨#[]⟩ := ba_of (l := []) (List.eq_nil_of_length_eq_zero (by rw [← ba_size]; omega))
      rw [hC0] at hSl2
      clear hC0 lC hC
      have he1 : decide (e < 1) = true := decide_eq_true (by omega)
      have hcv : (1 : Int) - e = (x : Int) := by omega
      have hcv2 : IntKind.u64.wrap (x : Int) = (x : Int) := by rw [IntKind.wrap_u64]; omega
      have hcv3 : IntKind.i64.wrap (x : Int) = (x : Int) := by rw [IntKind.wrap_i64]; omega
      clear hwp hB eD ex hl hn hi eq
      go_enter Tryz.func7, Tryz.ntmps7
      go_wp2_with (first
      | (go_at_call 10; refine (NN _).mono ?_; rintro e w' ⟨rfl, hw⟩; replace hw := hw.symm; subst hw)
      | (go_at_call 11; refine (II _).mono ?_; rintro e w' ⟨rfl, hw⟩; replace hw := hw.symm; subst hw)
      | (go_at_call 21; refine RS.mono ?_; rintro x w1 ⟨rfl, b1⟩)
      | fail)
      go_region_with (first
      | (go_at_call 24; refine (SM _).mono ?_; rintro e w2 ⟨v, rfl, h2, b2, _⟩; have b12 : Below w.heap.size w w2 := b1.trans ((drew_kept b2).mono b1.size))
      | (go_at_call 23; refine (DG _ _ h2).mono ?_; rintro e w3 ⟨rfl, b3⟩; have b13 : Below w.heap.size w w3 := b12.trans (b3.mono b12.size)))
      all_goals go_wp2
      all_goals go_ret
      all_goals exact ⟨by rw [HF.out]; rfl, b13⟩
    · have HF : Hid ((⟨(wpL A.data.toList 1 ++ [69] ++ wtB (e - 1)).toArray⟩ : ByteArray) = B ++ ⟨#[46]⟩ ++ ⟨#[48]⟩ ++ ⟨#[69]⟩ ++ D) := by
        refine Eq.symm (ba_of ?_)
        rw [ba_cat, ba_cat, ba_cat, ba_cat, hwp, if_pos hq, wtB, if_neg (by omega), ex, ← eD]
        first | done | simp
      have hC0 : C = ⟨#[]⟩ := ba_of (l := []) (List.eq_nil_of_length_eq_zero (by rw [← ba_size]; omega))
      rw [hC0] at hSl2
      clear hC0 lC hC
      have he1 : decide (e < 1) = false := decide_eq_false (by omega)
      have hcv : e - 1 = (x : Int) := by omega
      have hcv2 : IntKind.u64.wrap (x : Int) = (x : Int) := by rw [IntKind.wrap_u64]; omega
      have hcv3 : IntKind.i64.wrap (x : Int) = (x : Int) := by rw [IntKind.wrap_i64]; omega
      clear hwp hB eD ex hl hn hi eq
      go_enter Tryz.func7, Tryz.ntmps7
      go_wp2_with (first
      | (go_at_call 10; refine (NN _).mono ?_; rintro e w' ⟨rfl, hw⟩; replace hw := hw.symm; subst hw)
      | (go_at_call 11; refine (II _).mono ?_; rintro e w' ⟨rfl, hw⟩; replace hw := hw.symm; subst hw)
      | (go_at_call 21; refine RS.mono ?_; rintro x w1 ⟨rfl, b1⟩)
      | fail)
      go_region_with (first
      | (go_at_call 24; refine (SM _).mono ?_; rintro e w2 ⟨v, rfl, h2, b2, _⟩; have b12 : Below w.heap.size w w2 := b1.trans ((drew_kept b2).mono b1.size))
      | (go_at_call 23; refine (DG _ _ h2).mono ?_; rintro e w3 ⟨rfl, b3⟩; have b13 : Below w.heap.size w w3 := b12.trans (b3.mono b12.size)))
      all_goals go_wp2
      all_goals go_ret
      all_goals exact ⟨by rw [HF.out]; rfl, b13⟩
  · rcases he with he | he
    · have HF : Hid ((⟨(wpL A.data.toList 1 ++ [69] ++ wtB (e - 1)).toArray⟩ : ByteArray) = B ++ ⟨#[46]⟩ ++ C ++ ⟨#[69, 126]⟩ ++ D) := by
        refine Eq.symm (ba_of ?_)
        rw [ba_cat, ba_cat, ba_cat, ba_cat, hwp, if_neg hq, wtB, if_pos (by omega), ex, ← eD]
        first | done | simp
      have hne : C.toList.isEmpty = false := nil_no lC hq
      clear hC
      have he1 : decide (e < 1) = true := decide_eq_true (by omega)
      have hcv : (1 : Int) - e = (x : Int) := by omega
      have hcv2 : IntKind.u64.wrap (x : Int) = (x : Int) := by rw [IntKind.wrap_u64]; omega
      have hcv3 : IntKind.i64.wrap (x : Int) = (x : Int) := by rw [IntKind.wrap_i64]; omega
      clear hwp hB eD ex hl hn hi eq
      go_enter Tryz.func7, Tryz.ntmps7
      go_wp2_with (first
      | (go_at_call 10; refine (NN _).mono ?_; rintro e w' ⟨rfl, hw⟩; replace hw := hw.symm; subst hw)
      | (go_at_call 11; refine (II _).mono ?_; rintro e w' ⟨rfl, hw⟩; replace hw := hw.symm; subst hw)
      | (go_at_call 21; refine RS.mono ?_; rintro x w1 ⟨rfl, b1⟩)
      | fail)
      go_region_with (first
      | (go_at_call 24; refine (SM _).mono ?_; rintro e w2 ⟨v, rfl, h2, b2, _⟩; have b12 : Below w.heap.size w w2 := b1.trans ((drew_kept b2).mono b1.size))
      | (go_at_call 23; refine (DG _ _ h2).mono ?_; rintro e w3 ⟨rfl, b3⟩; have b13 : Below w.heap.size w w3 := b12.trans (b3.mono b12.size)))
      all_goals go_wp2
      all_goals go_ret
      all_goals exact ⟨by rw [HF.out]; rfl, b13⟩
    · have HF : Hid ((⟨(wpL A.data.toList 1 ++ [69] ++ wtB (e - 1)).toArray⟩ : ByteArray) = B ++ ⟨#[46]⟩ ++ C ++ ⟨#[69]⟩ ++ D) := by
        refine Eq.symm (ba_of ?_)
        rw [ba_cat, ba_cat, ba_cat, ba_cat, hwp, if_neg hq, wtB, if_neg (by omega), ex, ← eD]
        first | done | simp
      have hne : C.toList.isEmpty = false := nil_no lC hq
      clear hC
      have he1 : decide (e < 1) = false := decide_eq_false (by omega)
      have hcv : e - 1 = (x : Int) := by omega
      have hcv2 : IntKind.u64.wrap (x : Int) = (x : Int) := by rw [IntKind.wrap_u64]; omega
      have hcv3 : IntKind.i64.wrap (x : Int) = (x : Int) := by rw [IntKind.wrap_i64]; omega
      clear hwp hB eD ex hl hn hi eq
      go_enter Tryz.func7, Tryz.ntmps7
      go_wp2_with (first
      | (go_at_call 10; refine (NN _).mono ?_; rintro e w' ⟨rfl, hw⟩; replace hw := hw.symm; subst hw)
      | (go_at_call 11; refine (II _).mono ?_; rintro e w' ⟨rfl, hw⟩; replace hw := hw.symm; subst hw)
      | (go_at_call 21; refine RS.mono ?_; rintro x w1 ⟨rfl, b1⟩)
      | fail)
      go_region_with (first
      | (go_at_call 24; refine (SM _).mono ?_; rintro e w2 ⟨v, rfl, h2, b2, _⟩; have b12 : Below w.heap.size w w2 := b1.trans ((drew_kept b2).mono b1.size))
      | (go_at_call 23; refine (DG _ _ h2).mono ?_; rintro e w3 ⟨rfl, b3⟩; have b13 : Below w.heap.size w w3 := b12.trans (b3.mono b12.size)))
      all_goals go_wp2
      all_goals go_ret
      all_goals exact ⟨by rw [HF.out]; rfl, b13⟩
end Go.Proofs.YtbengmceiaejeaaGreatDoor
