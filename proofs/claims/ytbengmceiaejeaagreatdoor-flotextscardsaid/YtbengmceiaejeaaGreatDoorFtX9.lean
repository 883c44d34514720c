/- The document's Text of any real. -/
import Derived.Test.YtbengmceiaejeaaGreatDoorFtR9
import Derived.Test.YtbengmceiaejeaaGreatDoorFtX8
namespace Go.Proofs.YtbengmceiaejeaaGreatDoor
open Go.ChangeShapes Go.WideShapes Go.ChangeAt Go.RowKit

theorem rbody_any (w : World) {m Q d n i g r : Nat} {T dp : Int} (hm0 : 0 < m) (hm : m < 9007199254740992) (hQ : Q ≤ 2045) (hsub : Q = 0 ∨ 4503599627370496 ≤ m) (hf : Q * 4503599627370496 + m < 9218868437227405312) (sh : Shows m Q d n i g r T dp) :
    Calls Tryz.prog 7 #[.int .u64 ((Q * 4503599627370496 + m : Nat) : Int)] w fun x w' => x = .returned (.string ⟨(bodyL (digsB d n r) dp).toArray⟩) ∧ Below w.heap.size w w' := by
  obtain ⟨s1, s2, s3, s4, s5⟩ := shows_small hm0 hm hQ hsub sh
  have hr20 : r ≤ 20 := by have := sh.hr; omega
  have RS := rshort_word w hm0 hm hQ hsub hf sh
  have hl := digs_len d n r
  have hu0 : 0 < Q * 4503599627370496 + m := by omega
  obtain ⟨u, eu⟩ : ∃ u, Q * 4503599627370496 + m = u := ⟨_, rfl⟩
  rw [eu] at RS hf hu0 ⊢
  clear sh eu
  have hr : rung u = u := by unfold rung; omega
  have hn : nanB u = false := by unfold nanB; rw [hr]; exact decide_eq_false (by omega)
  have hi : infB u = false := by unfold infB; rw [hr]; exact decide_eq_false (by omega)
  have hS : (⟨(digsB d n r).toArray⟩ : ByteArray).size = r + 1 := by show (digsB d n r).toArray.size = _; simp [hl]
  have hSl : (⟨(digsB d n r).toArray⟩ : ByteArray).data.toList = digsB d n r := by simp
  by_cases h1 : dp < -3 ∨ 15 < dp
  · refine (rtext_big u hu0 (by omega) hn hi ⟨(digsB d n r).toArray⟩ dp (by omega) (by omega) h1 (by omega) w RS).mono ?_
    rintro x w' ⟨rfl, b⟩
    refine ⟨?_, b⟩
    rw [hSl, bodyL, if_pos h1]
  · by_cases h2 : 0 < dp
    · obtain ⟨k, rfl⟩ : ∃ k : Nat, dp = (k : Int) := ⟨dp.toNat, by omega⟩
      refine (rtext_mid u hu0 (by omega) hn hi ⟨(digsB d n r).toArray⟩ k (by omega) (by omega) w RS).mono ?_
      rintro x w' ⟨rfl, b⟩
      refine ⟨?_, b⟩
      rw [hSl, bodyL, if_neg h1, if_pos h2, Int.toNat_natCast]
    · refine (rtext_low u hu0 (by omega) hn hi ⟨(digsB d n r).toArray⟩ dp (by omega) (by omega) w RS).mono ?_
      rintro x w' ⟨rfl, b⟩
      refine ⟨?_, b⟩
      rw [ba_of (s := _ ++ _ ++ _) (l := bodyL (digsB d n r) dp) (by
        rw [ba_cat, ba_cat, bodyL, if_neg h1, if_neg h2])]

theorem body_size (d n r : Nat) (dp : Int) (hr : r ≤ 20) (hd : -341 ≤ dp ∧ dp ≤ 360) : (bodyL (digsB d n r) dp).length ≤ 1000 := by
  have hl := digs_len d n r
  unfold bodyL
  split
  · have z1 := wp_size (digsB d n r) 1 (by omega) (by omega)
    have z2 := wt_size (E := dp - 1) (by omega)
    simp only [List.length_append, List.length_cons, List.length_nil]
    omega
  · split
    · have z1 := wp_size (digsB d n r) dp.toNat (by omega) (by omega)
      omega
    · simp only [List.length_append, List.length_cons, List.length_nil, Lib.repeatL_length, hl]
      omega

/-- The document's text of any real that is neither 0 nor infinite. -/
theorem rtext_any (w : World) (u : Nat) (hu : u < 18446744073709551616) {m Q : Nat} (eu : rung u = Q * 4503599627370496 + m) (hm0 : 0 < m) (hm : m < 9007199254740992) (hQ : Q ≤ 2045) (hsub : Q = 0 ∨ 4503599627370496 ≤ m) (hf : rung u < 9218868437227405312) {d n i g r : Nat} {T dp : Int} (sh : Shows m Q d n i g r T dp) :
    Calls Tryz.prog 7 #[.int .u64 (u : Int)] w fun x w' => x = .returned (.string ⟨(sgL (sgnB u) ++ bodyL (digsB d n r) dp).toArray⟩) ∧ Below w.heap.size w w' := by
  obtain ⟨s1, s2, s3, s4, s5⟩ := shows_small hm0 hm hQ hsub sh
  have hr20 : r ≤ 20 := by have := sh.hr; omega
  have TX := fun w => rbody_any w hm0 hm hQ hsub (by rw [← eu]; exact hf) sh
  rw [← eu] at TX
  have hn : nanB u = false := by unfold nanB; exact decide_eq_false (by omega)
  have hb := body_size d n r dp hr20 s5
  rcases sgn_cases u hu with ⟨h1, h2, h3⟩ | ⟨h1, h2, h3⟩
  · refine (rtext_neg u hu hn h1 ⟨(bodyL (digsB d n r) dp).toArray⟩ (by show (bodyL (digsB d n r) dp).toArray.size ≤ _; simp; omega) w TX).mono ?_
    rintro x w' ⟨rfl, b⟩
    refine ⟨?_, b⟩
    rw [ba_of (s := _ ++ _) (l := sgL (sgnB u) ++ bodyL (digsB d n r) dp) (by rw [ba_cat, h1]; rfl)]
  · rw [← h2] at TX
    refine (TX w).mono ?_
    rintro x w' ⟨rfl, b⟩
    refine ⟨?_, b⟩
    rw [h1]; rfl

/-- The document's text of the others. -/
theorem rtext_odd (w : World) (u : Nat) (hu : u < 18446744073709551616) (hc : classV u = 0 ∨ classV u = 1 ∨ classV u = 2) :
    Calls Tryz.prog 7 #[.int .u64 (u : Int)] w fun x w' => x = .returned (.string (if classV u = 0 then ⟨#[110, 97, 110]⟩ else if classV u = 1 then ⟨(sgL (sgnB u)).toArray⟩ ++ ⟨#[105, 110, 102]⟩ else ⟨(sgL (sgnB u)).toArray⟩ ++ ⟨#[48, 46, 48]⟩)) ∧ Below w.heap.size w w' := by
  cases hn : nanB u with
  | true =>
    have e : classV u = 0 := by unfold classV; rw [hn, if_pos rfl]
    rw [if_pos e]
    exact rtext_nan u hu hn w
  | false =>
    cases hi : infB u with
    | true =>
      have e : classV u = 1 := by unfold classV; rw [hn, hi]; rfl
      have er : rung u = 9218868437227405312 := of_decide_eq_true hi
      rw [e, if_neg (by decide), if_pos rfl]
      rcases sgn_cases u hu with ⟨h1, h2, h3⟩ | ⟨h1, h2, h3⟩
      · rw [h1]
        exact rtext_neg u hu hn h1 ⟨#[105, 110, 102]⟩ (by decide) w (fun w => by rw [er]; exact rtext_inf w)
      · rw [h1, h2, er]
        exact rtext_inf w
    | false =>
      have hz : zeroB u = true := by
        cases hz : zeroB u with
        | true => rfl
        | false =>
          exfalso
          unfold classV at hc
          rw [hn, hi, hz] at hc
          simp only [Bool.false_eq_true, if_false] at hc
          split at hc <;> omega
      have e : classV u = 2 := by unfold classV; rw [hn, hi, hz]; rfl
      have er : rung u = 0 := by unfold zeroB at hz; exact of_decide_eq_true hz
      rw [e, if_neg (by decide), if_neg (by decide)]
      rcases sgn_cases u hu with ⟨h1, h2, h3⟩ | ⟨h1, h2, h3⟩
      · rw [h1]
        exact rtext_neg u hu hn h1 ⟨#[48, 46, 48]⟩ (by decide) w (fun w => by rw [er]; exact rtext_zero w)
      · rw [h1, h2, er]
        exact rtext_zero w
end Go.Proofs.YtbengmceiaejeaaGreatDoor
