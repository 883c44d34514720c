/- The program's Text. -/
import Derived.Test.YtbengmceiaejeaaGreatDoorFtX6
namespace Go.Proofs.YtbengmceiaejeaaGreatDoor
open Go.ChangeShapes Go.WideShapes Go.ChangeAt Go.RowKit

def bodyL (l : List UInt8) (e : Int) : List UInt8 :=
  if e < -3 ∨ 15 < e then wpL l 1 ++ [69] ++ wtB (e - 1)
  else if 0 < e then wpL l e.toNat
  else [48, 46] ++ Lib.repeatL [48] (-e).toNat ++ l

def sgL (b : Bool) : List UInt8 := if b then [126] else []

theorem wp_size (l : List UInt8) (n : Nat) (hn : n ≤ 400) (hl : l.length ≤ 400) : (wpL l n).length ≤ 802 := by
  unfold wpL
  split
  · simp [Lib.repeatL_length]; omega
  · simp; omega

theorem wt_size {E : Int} (hE : E.natAbs < 1000) : (wtB E).length ≤ 4 := by
  have h := itoa_len hE
  unfold Lib.itoa at h
  unfold wtB
  split
  · rename_i h0
    rw [if_pos h0] at h
    simpa using h
  · rename_i h0
    rw [if_neg h0, (by omega : E.toNat = E.natAbs)] at h
    exact h

/-- What Text makes of the digits, by what it calls. -/
theorem ptext_big (w : World) (u r : Nat) (hu : u < 18446744073709551616) (b : Bool) (hb : sgnB u = b) (er : rung u = r) (S P W : ByteArray) (e : Int) (he : e < -3 ∨ 15 < e) (he4 : -400 ≤ e ∧ e ≤ 400) (hP : P.size ≤ 802) (hW : W.size ≤ 4)
    (hc : classV u = 3 ∨ classV u = 4)
    (SH : ∀ w, RdyX w → Calls Tryz.prog 15 #[.float .f64 r] w fun x w' => x = .returned (.tuple #[.string S, .int .i64 e]) ∧ Below w.heap.size w w')
    (WP : ∀ w, Calls Tryz.prog 17 #[.string S, .int .i64 1] w fun x w' => x = .returned (.string P) ∧ Below w.heap.size w w')
    (WT : ∀ w, RdyX w → Calls Tryz.prog 18 #[.int .i64 (e - 1)] w fun x w' => x = .returned (.string W) ∧ Below w.heap.size w w') (R : RdyX w) :
    Calls Tryz.prog 5 #[.float .f64 u] w fun x w' => x = .returned (.string (⟨(sgL b).toArray⟩ ++ P ++ ⟨#[69]⟩ ++ W)) ∧ Below w.heap.size w w' := by
  obtain ⟨c, ec⟩ : ∃ c, classV u = c := ⟨_, rfl⟩
  have CL := fun w => class_any u hu w
  have SG := fun w => mSignbit_any u hu w
  have AB := fun w => mAbs_any u hu w
  rw [ec] at CL hc
  rw [hb] at SG
  rw [er] at AB
  obtain ⟨E, eE⟩ : ∃ E, e - 1 = E := ⟨_, rfl⟩
  rw [eE] at WT
  obtain ⟨p, ep⟩ : ∃ p, P.size = p := ⟨_, rfl⟩
  obtain ⟨q, eq⟩ : ∃ q, W.size = q := ⟨_, rfl⟩
  rw [ep] at hP
  rw [eq] at hW
  clear ec hb er
  rcases he with he | he <;> rcases hc with hc | hc <;> subst hc <;> cases b
  all_goals go_enter Tryz.func5, Tryz.ntmps5
  all_goals go_wp2_with (first
    | (go_at_call 13; refine (CL _).mono ?_; rintro x w1 ⟨rfl, hw⟩; replace hw := hw.symm; subst hw)
    | (go_at_call 14; refine (SG _).mono ?_; rintro x w1 ⟨rfl, hw⟩; replace hw := hw.symm; subst hw)
    | (go_at_call 16; refine (AB _).mono ?_; rintro x w1 ⟨rfl, hw⟩; replace hw := hw.symm; subst hw)
    | (go_at_call 15; refine (SH _ R).mono ?_; rintro x w1 ⟨rfl, b1⟩)
    | (go_at_call 17; refine (WP _).mono ?_; rintro x w2 ⟨rfl, b2⟩; have b12 : Below w.heap.size w w2 := b1.trans (b2.mono b1.size))
    | (go_at_call 18; refine (WT _ (R.below b12)).mono ?_; rintro x w3 ⟨rfl, b3⟩; have b13 : Below w.heap.size w w3 := b12.trans (b3.mono b12.size)))
  all_goals go_ret
  all_goals exact ⟨rfl, b13⟩

theorem ptext_mid (w : World) (u r : Nat) (hu : u < 18446744073709551616) (b : Bool) (hb : sgnB u = b) (er : rung u = r) (S P : ByteArray) (e : Int) (he : 0 < e) (he4 : e ≤ 15) (hP : P.size ≤ 802)
    (hc : classV u = 3 ∨ classV u = 4)
    (SH : ∀ w, RdyX w → Calls Tryz.prog 15 #[.float .f64 r] w fun x w' => x = .returned (.tuple #[.string S, .int .i64 e]) ∧ Below w.heap.size w w')
    (WP : ∀ w, Calls Tryz.prog 17 #[.string S, .int .i64 e] w fun x w' => x = .returned (.string P) ∧ Below w.heap.size w w') (R : RdyX w) :
    Calls Tryz.prog 5 #[.float .f64 u] w fun x w' => x = .returned (.string (⟨(sgL b).toArray⟩ ++ P)) ∧ Below w.heap.size w w' := by
  obtain ⟨c, ec⟩ : ∃ c, classV u = c := ⟨_, rfl⟩
  have CL := fun w => class_any u hu w
  have SG := fun w => mSignbit_any u hu w
  have AB := fun w => mAbs_any u hu w
  rw [ec] at CL hc
  rw [hb] at SG
  rw [er] at AB
  obtain ⟨p, ep⟩ : ∃ p, P.size = p := ⟨_, rfl⟩
  rw [ep] at hP
  clear ec hb er
  rcases hc with hc | hc <;> subst hc <;> cases b
  all_goals go_enter Tryz.func5, Tryz.ntmps5
  all_goals go_wp2_with (first
    | (go_at_call 13; refine (CL _).mono ?_; rintro x w1 ⟨rfl, hw⟩; replace hw := hw.symm; subst hw)
    | (go_at_call 14; refine (SG _).mono ?_; rintro x w1 ⟨rfl, hw⟩; replace hw := hw.symm; subst hw)
    | (go_at_call 16; refine (AB _).mono ?_; rintro x w1 ⟨rfl, hw⟩; replace hw := hw.symm; subst hw)
    | (go_at_call 15; refine (SH _ R).mono ?_; rintro x w1 ⟨rfl, b1⟩)
    | (go_at_call 17; refine (WP _).mono ?_; rintro x w2 ⟨rfl, b2⟩; have b12 : Below w.heap.size w w2 := b1.trans (b2.mono b1.size)))
  all_goals go_ret
  all_goals exact ⟨rfl, b12⟩

theorem ptext_low (w : World) (u r : Nat) (hu : u < 18446744073709551616) (b : Bool) (hb : sgnB u = b) (er : rung u = r) (S : ByteArray) (e : Int) (he : -3 ≤ e) (he4 : e ≤ 0) (hS : S.size ≤ 400)
    (hc : classV u = 3 ∨ classV u = 4)
    (SH : ∀ w, RdyX w → Calls Tryz.prog 15 #[.float .f64 r] w fun x w' => x = .returned (.tuple #[.string S, .int .i64 e]) ∧ Below w.heap.size w w') (R : RdyX w) :
    Calls Tryz.prog 5 #[.float .f64 u] w fun x w' => x = .returned (.string (⟨(sgL b).toArray⟩ ++ ⟨#[48, 46]⟩ ++ ⟨(Lib.repeatL [48] (-e).toNat).toArray⟩ ++ S)) ∧ Below w.heap.size w w' := by
  obtain ⟨c, ec⟩ : ∃ c, classV u = c := ⟨_, rfl⟩
  have CL := fun w => class_any u hu w
  have SG := fun w => mSignbit_any u hu w
  have AB := fun w => mAbs_any u hu w
  obtain ⟨k, ek⟩ : ∃ k : Nat, -e = (k : Int) := ⟨(-e).toNat, by omega⟩
  have hk : k ≤ 3 := by omega
  have RE := fun w => rep_any w k (by omega)
  rw [ec] at CL hc
  rw [hb] at SG
  rw [er] at AB
  rw [ek, Int.toNat_natCast]
  obtain ⟨p, ep⟩ : ∃ p, S.size = p := ⟨_, rfl⟩
  rw [ep] at hS
  obtain ⟨Z, eZ⟩ : ∃ Z, (⟨(Lib.repeatL [48] k).toArray⟩ : ByteArray) = Z := ⟨_, rfl⟩
  have HZ : Hid (∀ z : ByteArray, z.data.toList = Lib.repeatL [48] k → z = Z) := fun z hz => (ba_of hz).trans eZ
  rw [eZ]
  clear ec hb er eZ
  rcases hc with hc | hc <;> subst hc <;> cases b
  all_goals go_enter Tryz.func5, Tryz.ntmps5
  all_goals go_wp2_with (first
    | (go_at_call 13; refine (CL _).mono ?_; rintro x w1 ⟨rfl, hw⟩; replace hw := hw.symm; subst hw)
    | (go_at_call 14; refine (SG _).mono ?_; rintro x w1 ⟨rfl, hw⟩; replace hw := hw.symm; subst hw)
    | (go_at_call 16; refine (AB _).mono ?_; rintro x w1 ⟨rfl, hw⟩; replace hw := hw.symm; subst hw)
    | (go_at_call 15; refine (SH _ R).mono ?_; rintro x w1 ⟨rfl, b1⟩)
    | (go_at_call 19; refine (RE _).mono ?_; rintro x w2 ⟨⟨z, rfl, hz, zs⟩, b2⟩; have b12 : Below w.heap.size w w2 := b1.trans (b2.mono b1.size)))
  all_goals go_ret
  all_goals exact ⟨by rw [← HZ.out z hz]; rfl, b12⟩

theorem ptext_odd (w : World) (u : Nat) (hu : u < 18446744073709551616) (b : Bool) (hb : sgnB u = b) (hc : classV u = 0 ∨ classV u = 1 ∨ classV u = 2) :
    Calls Tryz.prog 5 #[.float .f64 u] w fun x w' => x = .returned (.string (if classV u = 0 then ⟨#[110, 97, 110]⟩ else if classV u = 1 then ⟨(sgL b).toArray⟩ ++ ⟨#[105, 110, 102]⟩ else ⟨(sgL b).toArray⟩ ++ ⟨#[48, 46, 48]⟩)) ∧ Below w.heap.size w w' := by
  obtain ⟨c, ec⟩ : ∃ c, classV u = c := ⟨_, rfl⟩
  have CL := fun w => class_any u hu w
  have SG := fun w => mSignbit_any u hu w
  rw [ec] at CL hc ⊢
  rw [hb] at SG
  clear ec hb
  rcases hc with hc | hc | hc <;> subst hc <;> cases b
  all_goals go_enter Tryz.func5, Tryz.ntmps5
  all_goals go_wp2_with (first
    | (go_at_call 13; refine (CL _).mono ?_; rintro x w1 ⟨rfl, hw⟩; replace hw := hw.symm; subst hw)
    | (go_at_call 14; refine (SG _).mono ?_; rintro x w1 ⟨rfl, hw⟩; replace hw := hw.symm; subst hw))
  all_goals go_ret
  all_goals exact ⟨rfl, Below.refl _ _⟩

/-- A word's amount as the library reads it. -/
theorem word_split {r : Nat} (h0 : 0 < r) (h1 : r < 9218868437227405312) : ∃ m Q, r = Q * 4503599627370496 + m ∧ 0 < m ∧ m < 9007199254740992 ∧ Q ≤ 2045 ∧ (Q = 0 ∨ 4503599627370496 ≤ m) := by
  by_cases h : r < 4503599627370496
  · exact ⟨r, 0, by omega, h0, by omega, by omega, Or.inl rfl⟩
  · exact ⟨4503599627370496 + r % 4503599627370496, r / 4503599627370496 - 1, by omega, by omega, by omega, by omega, Or.inr (by omega)⟩

theorem digs_len (d n r : Nat) : (digsB d n r).length = r + 1 := by simp [digsB]

/-- The program's text of any real that is neither 0 nor infinite, by what the shortest way shows. -/
theorem ptext_any (w : World) (R : RdyX w) (u : Nat) (hu : u < 18446744073709551616) {m Q : Nat} (eu : rung u = Q * 4503599627370496 + m) (hm0 : 0 < m) (hm : m < 9007199254740992) (hQ : Q ≤ 2045) (hsub : Q = 0 ∨ 4503599627370496 ≤ m) (hc : classV u = 3 ∨ classV u = 4) {d n i g r : Nat} {T dp : Int} (sh : Shows m Q d n i g r T dp) :
    Calls Tryz.prog 5 #[.float .f64 u] w fun x w' => x = .returned (.string ⟨(sgL (sgnB u) ++ bodyL (digsB d n r) dp).toArray⟩) ∧ Below w.heap.size w w' := by
  obtain ⟨s1, s2, s3, s4, s5⟩ := shows_small hm0 hm hQ hsub sh
  have hr20 : r ≤ 20 := by have := sh.hr; omega
  have hl := digs_len d n r
  have SH : ∀ w, RdyX w → Calls Tryz.prog 15 #[.float .f64 (Q * 4503599627370496 + m)] w fun x w' => x = .returned (.tuple #[.string ⟨(digsB d n r).toArray⟩, .int .i64 dp]) ∧ Below w.heap.size w w' :=
    fun w R => pshort_any w R.t hm0 hm hQ hsub sh
  have hS : (⟨(digsB d n r).toArray⟩ : ByteArray).size = r + 1 := by show (digsB d n r).toArray.size = _; simp [hl]
  have hSl : (⟨(digsB d n r).toArray⟩ : ByteArray).data.toList = digsB d n r := by simp
  by_cases h1 : dp < -3 ∨ 15 < dp
  · have WP := fun w => wp_any ⟨(digsB d n r).toArray⟩ 1 (by omega) (by omega) w
    have WT := fun w R => wt_any w R (dp - 1) (by omega)
    have z1 := wp_size (digsB d n r) 1 (by omega) (by omega)
    have z2 := wt_size (E := dp - 1) (by omega)
    rw [hSl] at WP
    refine (ptext_big w u _ hu (sgnB u) rfl eu ⟨(digsB d n r).toArray⟩ ⟨(wpL (digsB d n r) 1).toArray⟩ ⟨(wtB (dp - 1)).toArray⟩ dp h1 (by omega) (by show (wpL (digsB d n r) 1).toArray.size ≤ _; simpa using z1) (by show (wtB (dp - 1)).toArray.size ≤ _; simpa using z2) hc SH WP WT R).mono ?_
    rintro x w' ⟨rfl, b⟩
    refine ⟨?_, b⟩
    rw [ba_of (s := _ ++ _ ++ _ ++ _) (l := sgL (sgnB u) ++ bodyL (digsB d n r) dp) (by
      rw [ba_cat, ba_cat, ba_cat, bodyL, if_pos h1]
      simp)]
  · by_cases h2 : 0 < dp
    · obtain ⟨k, ek⟩ : ∃ k : Nat, dp = (k : Int) := ⟨dp.toNat, by omega⟩
      have WP := fun w => wp_any ⟨(digsB d n r).toArray⟩ k (by omega) (by omega) w
      have z1 := wp_size (digsB d n r) k (by omega) (by omega)
      rw [hSl, ← ek] at WP
      refine (ptext_mid w u _ hu (sgnB u) rfl eu ⟨(digsB d n r).toArray⟩ ⟨(wpL (digsB d n r) k).toArray⟩ dp h2 (by omega) (by show (wpL (digsB d n r) k).toArray.size ≤ _; simpa using z1) hc SH WP R).mono ?_
      rintro x w' ⟨rfl, b⟩
      refine ⟨?_, b⟩
      rw [ba_of (s := _ ++ _) (l := sgL (sgnB u) ++ bodyL (digsB d n r) dp) (by
        rw [ba_cat, bodyL, if_neg h1, if_pos h2, (by omega : dp.toNat = k)])]
    · refine (ptext_low w u _ hu (sgnB u) rfl eu ⟨(digsB d n r).toArray⟩ dp (by omega) (by omega) (by omega) hc SH R).mono ?_
      rintro x w' ⟨rfl, b⟩
      refine ⟨?_, b⟩
      rw [ba_of (s := _ ++ _ ++ _ ++ _) (l := sgL (sgnB u) ++ bodyL (digsB d n r) dp) (by
        rw [ba_cat, ba_cat, ba_cat, bodyL, if_neg h1, if_neg h2]
        simp)]
end Go.Proofs.YtbengmceiaejeaaGreatDoor
