/- Plain facts: what is written is read as the same number. -/
import Derived.Test.YtjlogbpnehbbbabDoorText
import Derived.Test.YtjlogbpnehbbbabDoorScan
import Derived.Test.YtjlogbpnehbbbabDoorConst3
namespace Go.Proofs.YtjlogbpnehbbbabDoor
open Go.ChangeShapes Go.WideShapes Go.ChangeAt Go.RowKit

theorem digit_val (m : Nat) (h : m < 10) : digI ((UInt8.ofNat (48 + m)).toNat : Int) = m := by
  have e : (UInt8.ofNat (48 + m)).toNat = 48 + m := by rw [UInt8.toNat_ofNat']; omega
  rw [e]
  unfold digI
  rw [if_pos (by omega)]
  omega
theorem val_snoc (base : Int) (l : List UInt8) (c : UInt8) : ∀ n : Int, valGo base n (l ++ [c]) = valGo base n l * base + digI c.toNat := by
  induction l with
  | nil => intro n; rfl
  | cons d r ih => intro n; exact ih _
theorem val_dec (m : Nat) : valGo 10 0 (Lib.decDigits m) = m := by
  induction m using Nat.strongRecOn with
  | _ m ih =>
    by_cases h : m < 10
    · rw [Lib.decDigits_one h]
      show 0 * 10 + digI _ = _
      rw [digit_val m h]; omega
    · rw [Lib.decDigits, dif_neg h, val_snoc, ih (m / 10) (by omega), digit_val (m % 10) (by omega)]
      omega
theorem digs_append (base : Int) (l r : List UInt8) : digsB base (l ++ r) = (digsB base l && digsB base r) := by
  unfold digsB; rw [List.all_append]
theorem dec_digs (m : Nat) : digsB 10 (Lib.decDigits m) = true := by
  induction m using Nat.strongRecOn with
  | _ m ih =>
    by_cases h : m < 10
    · rw [Lib.decDigits_one h]
      have := digit_val m h
      simp only [digsB, List.all_cons, List.all_nil, Bool.and_true, decide_eq_true_eq]
      omega
    · rw [Lib.decDigits, dif_neg h, digs_append, ih (m / 10) (by omega)]
      have := digit_val (m % 10) (by omega)
      simp only [digsB, List.all_cons, List.all_nil, Bool.and_true, Bool.true_and, decide_eq_true_eq]
      omega
theorem dec_pos (m : Nat) : 0 < (Lib.decDigits m).length := by
  rw [Lib.decDigits_length]
  rw [Lib.nDigits]; split <;> omega
theorem num_dec (m : Nat) (h : m ≤ 4611686018427387904) : numGo 10 0 (Lib.decDigits m) = m := by
  have hn := num_all (base := 10) (by omega) (Lib.decDigits m) 0 (by omega) (by omega)
  rw [val_dec] at hn
  omega
theorem dec_cons (m : Nat) : ∃ c r, Lib.decDigits m = c :: r ∧ (48 ≤ (c.toNat : Int) ∧ (c.toNat : Int) ≤ 57) := by
  match h : Lib.decDigits m with
  | [] => have := dec_pos m; rw [h] at this; simp at this
  | c :: r =>
    refine ⟨c, r, rfl, ?_⟩
    have hd := dec_digs m
    rw [h] at hd
    unfold digsB at hd
    rw [List.all_cons, Bool.and_eq_true] at hd
    have h1 : digI (c.toNat : Int) < 10 := by simpa using hd.1
    exact (digI_lt _).mp h1

/-- The number back: with its sign. -/
theorem sgn_abs (a : Int) : sgn (a.natAbs : Int) (decide (a < 0)) = a := by
  unfold sgn
  by_cases h : a < 0
  · simp [h]; omega
  · simp [h]; omega
theorem numV_dec (a : Int) (h : rightB a = true) : numV 10 (Lib.decDigits a.natAbs) (decide (a < 0)) = a ∧ numE 10 (Lib.decDigits a.natAbs) (decide (a < 0)) = 0 := by
  have hb := right_iff.mp h
  unfold numV numE
  rw [num_dec a.natAbs (by omega), sgn_abs, ansV_yes h, ansE_yes h]
  exact ⟨rfl, rfl⟩

/-- Digits in front of what is none. -/
theorem dOf_append (l r : List UInt8) (h : digsB 10 l = true) (g : r = [] ∨ ∃ c t, r = c :: t ∧ ¬ (48 ≤ (c.toNat : Int) ∧ (c.toNat : Int) ≤ 57)) : dOf (l ++ r) = l := by
  induction l with
  | nil =>
    rcases g with rfl | ⟨c, t, rfl, hc⟩
    · rfl
    · exact dOf_cons_no (by rw [digI_lt]; exact hc)
  | cons c l ih =>
    unfold digsB at h
    rw [List.all_cons, Bool.and_eq_true] at h
    have h1 : digI (c.toNat : Int) < 10 := by simpa using h.1
    rw [List.cons_append, dOf_cons_yes h1, ih h.2]

/-- What Scan tells of two blanks, a number's text and what follows. -/
theorem scan_back (a : Int) (h : rightB a = true) (r : List UInt8) (g : r = [] ∨ ∃ c t, r = c :: t ∧ ¬ (48 ≤ (c.toNat : Int) ∧ (c.toNat : Int) ≤ 57)) :
    scan3 (32 :: 9 :: (textL a ++ r)) = (a, (textL a).length + 2, 0) := by
  obtain ⟨c, t, hct, hc⟩ := dec_cons a.natAbs
  have hd := dec_digs a.natAbs
  have hp := dec_pos a.natAbs
  have hn := numV_dec a h
  have b0 : behind (32 :: 9 :: (textL a ++ r)) = behind (textL a ++ r) := by
    rw [behind_yes (by decide), behind_yes (by decide)]
  by_cases hs : a < 0
  · have ht : textL a = 126 :: Lib.decDigits a.natAbs := by simp [textL, hs]
    have b1 : behind (32 :: 9 :: (textL a ++ r)) = 126 :: (Lib.decDigits a.natAbs ++ r) := by
      rw [b0, ht, List.cons_append, behind_no (by decide)]
    have s1 : signN (126 :: (Lib.decDigits a.natAbs ++ r)) = 1 := by simp [signN]
    have s2 : signB (126 :: (Lib.decDigits a.natAbs ++ r)) = true := by simp [signB]
    unfold scan3
    rw [b1, s1, s2, List.drop_succ_cons, List.drop_zero, dOf_append _ _ hd g, if_neg (by omega)]
    rw [decide_eq_true hs] at hn
    rw [hn.1, hn.2, ht]
    simp only [List.length_cons, List.length_append, Prod.mk.injEq, true_and, and_true]
    omega
  · have ht : textL a = Lib.decDigits a.natAbs := by simp [textL, hs]
    have b1 : behind (32 :: 9 :: (textL a ++ r)) = Lib.decDigits a.natAbs ++ r := by
      rw [b0, ht, hct, List.cons_append, behind_no (by unfold blankI; rw [decide_eq_false_iff_not]; omega)]
    have s1 : signN (Lib.decDigits a.natAbs ++ r) = 0 := by
      rw [hct, List.cons_append]; show (if _ then _ else _) = _; rw [if_neg (by omega)]
    have s2 : signB (Lib.decDigits a.natAbs ++ r) = false := by
      rw [hct, List.cons_append]; show decide _ = _; rw [decide_eq_false_iff_not]; omega
    unfold scan3
    rw [b1, s1, s2, List.drop_zero, dOf_append _ _ hd g, if_neg (by omega)]
    rw [decide_eq_false hs] at hn
    rw [hn.1, hn.2, ht]
    simp only [List.length_cons, List.length_append, Prod.mk.injEq, true_and, and_true]
    omega

/-- Constant of a number's text is that number. -/
theorem const_back (a : Int) (h : rightB a = true) (w : World) :
    Calls Tryd.prog 7 #[.string (textB a)] w fun x w' => x = .returned (.tuple #[.int .i64 a, .int .i64 0]) ∧ ∃ t p, w' = w.iter t p := by
  obtain ⟨c, t, hct, hc⟩ := dec_cons a.natAbs
  have hn := numV_dec a h
  have hB : textB a = ⟨(textL a).toArray⟩ := by simp [textB, h]
  have e2 : hpB (textB a) ⟨#[126]⟩ = decide (a < 0) := by
    unfold hpB
    rw [lit1, siz1, Lib.toList_data, Lib.extract_data, hB]
    have hsz : (⟨(textL a).toArray⟩ : ByteArray).size = (textL a).length := rfl
    rw [hsz]
    by_cases hs : a < 0
    · have ht : textL a = 126 :: Lib.decDigits a.natAbs := by simp [textL, hs]
      rw [ht, decide_eq_true hs]
      simp
    · have ht : textL a = Lib.decDigits a.natAbs := by simp [textL, hs]
      rw [ht, hct, decide_eq_false hs]
      have : ¬ c = 126 := by rintro rfl; revert hc; decide
      simp [this]
  obtain ⟨s1, e1, hs1⟩ : ∃ s1, cutS (textB a) ⟨#[126]⟩ = s1 ∧ s1.data.toList = Lib.decDigits a.natAbs := by
    refine ⟨_, rfl, ?_⟩
    unfold cutS
    rw [e2]
    by_cases hs : a < 0
    · have ht : textL a = 126 :: Lib.decDigits a.natAbs := by simp [textL, hs]
      rw [decide_eq_true hs, if_pos rfl, siz1, Lib.extract_to_end, hB, ht]
      rfl
    · have ht : textL a = Lib.decDigits a.natAbs := by simp [textL, hs]
      rw [decide_eq_false hs, if_neg (by simp), hB, ht]
  have e4 : hpB s1 ⟨#[48, 120]⟩ = false := by
    cases hx : hpB s1 ⟨#[48, 120]⟩
    · rfl
    · have h10 := hex_not_dec s1 (hp2 s1 hx).2
      unfold allB at h10
      rw [hs1, dec_digs] at h10
      have hz : ¬ s1.size = 0 := by rw [Lib.size_eq, hs1]; have := dec_pos a.natAbs; omega
      simp [hz] at h10
  have e3 : cutS s1 ⟨#[48, 120]⟩ = s1 := by unfold cutS; rw [e4]; rfl
  have ha : allB 10 s1 = true := by
    unfold allB
    have hz : ¬ s1.size = 0 := by rw [Lib.size_eq, hs1]; have := dec_pos a.natAbs; omega
    rw [hs1, dec_digs]; simp [hz]
  refine (fgood (textB a) s1 s1 (decide (a < 0)) false 10 e1 e2 e3 e4 rfl ha w).mono ?_
  rintro e w' ⟨rfl, g⟩
  exact ⟨ret_two (by rw [hs1]; exact hn.1) (by rw [hs1]; exact hn.2), g⟩
end Go.Proofs.YtjlogbpnehbbbabDoor
