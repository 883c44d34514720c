/- Digits: the library's and the document's. -/
import Derived.Test.YtbengmceiaejeaaGreatDoorFtM4
import Derived.Test.YtbengmceiaejeaaGreatDoorFtX7
namespace Go.Proofs.YtbengmceiaejeaaGreatDoor

theorem strip_unique : ∀ {i j g p : Nat}, g % 10 ≠ 0 → p % 10 ≠ 0 → g * 10 ^ i = p * 10 ^ j → i = j ∧ g = p
  | 0, 0, g, p, _, _, h => by simpa using h
  | 0, j + 1, g, p, hg, _, h => by
    rw [Nat.pow_zero, Nat.mul_one, Nat.pow_succ, ← Nat.mul_assoc] at h
    omega
  | i + 1, 0, g, p, _, hp, h => by
    rw [Nat.pow_zero, Nat.mul_one, Nat.pow_succ, ← Nat.mul_assoc] at h
    omega
  | i + 1, j + 1, g, p, hg, hp, h => by
    rw [Nat.pow_succ, Nat.pow_succ, ← Nat.mul_assoc, ← Nat.mul_assoc] at h
    have := strip_unique (i := i) (j := j) hg hp (by omega)
    omega

theorem dec_digs (g : Nat) : Lib.decDigits g = (List.range (Lib.nDigits g)).map fun t => UInt8.ofNat (48 + g / 10 ^ (Lib.nDigits g - 1 - t) % 10) := by
  induction g using Nat.strongRecOn with
  | _ g ih =>
    rw [Lib.decDigits, Lib.nDigits]
    split
    · rename_i h
      have e9 : g % 10 = g := by omega
      simp [e9]
    · rename_i h
      have e := ih (g / 10) (by omega)
      rw [e, List.range_succ, List.map_append]
      congr 1
      · apply List.map_congr_left
        intro t ht
        rw [List.mem_range] at ht
        congr 2
        rw [Nat.div_div_eq_div_mul, Nat.mul_comm 10, ← Nat.pow_succ]
        congr 3
        omega
      · simp

theorem digs_dec {d n i g r : Nat} (hd : d = g * 10 ^ i) (hn : n = Lib.nDigits d) (hg : 0 < g) (hr : r + 1 + i = n) : digsB d n r = Lib.decDigits g := by
  have h1 := nd_strip (i := i) hg
  rw [← hd, ← hn] at h1
  rw [dec_digs, (by omega : Lib.nDigits g = r + 1)]
  unfold digsB
  apply List.map_congr_left
  intro t ht
  rw [List.mem_range] at ht
  unfold dB dgN
  have e : d / 10 ^ (n - 1 - t) = g / 10 ^ (r + 1 - 1 - t) := by
    rw [hd, (by omega : n - 1 - t = (r + 1 - 1 - t) + i), Nat.pow_add, Nat.mul_div_mul_right _ _ (Nat.pow_pos (by decide))]
  rw [e]

theorem pow_nd {k : Nat} (hk : 0 < k) : 10 ^ (Lib.nDigits k - 1) ≤ k := by
  induction k using Nat.strongRecOn with
  | _ k ih =>
    rw [Lib.nDigits]
    split
    · simp; omega
    · have h := ih (k / 10) (by omega) (by omega)
      have h1 : 1 ≤ Lib.nDigits (k / 10) := by rw [Lib.nDigits]; split <;> omega
      rw [Nat.add_sub_cancel]
      obtain ⟨a, ea⟩ : ∃ a, Lib.nDigits (k / 10) = a + 1 := ⟨Lib.nDigits (k / 10) - 1, by omega⟩
      rw [ea] at h ⊢
      rw [Nat.add_sub_cancel] at h
      rw [Nat.pow_succ]
      omega

theorem k_bounds {m Q : Nat} (hm0 : 0 < m) (hm : m < 9007199254740992) (hQ : Q ≤ 2045) : 1 ≤ kOf m Q ∧ kOf m Q < 10 ^ 17 := by
  have hM : 0 < mOf m Q := den_pos _ _
  unfold kOf
  have hw := wid_cases (m := m) hQ
  generalize aOf m Q = A at *
  generalize mOf m Q = M at *
  have h1 : A ≤ m * A := Nat.le_mul_of_pos_left A hm0
  have h2 : m * A ≤ 9007199254740992 * A := Nat.mul_le_mul_right A (by omega)
  constructor
  · rw [Nat.le_div_iff_mul_le hM]
    rcases hw with ⟨_, _, w1, w2⟩ | ⟨_, w1, w2⟩ <;> omega
  · rw [Nat.div_lt_iff_lt_mul hM]
    rcases hw with ⟨e, _, w1, w2⟩ | ⟨_, w1, w2⟩
    · subst e; omega
    · omega

theorem told_facts {m Q d n i g r J j p : Nat} {T dp : Int} (hj : j < J) (sh : Shows m Q d n i g r T dp) (hG : p * 10 ^ j = shortG m Q (zOf m))
    (hpick : (p % 10 ≠ 0 ∧ p < 10 ^ (J - j) ∧ 10 ^ (J - j - 1) ≤ p) ∨ (j = J - 1 ∧ p = 10)) :
    toldD p (J - j) = digsB d n r ∧ toldE p (J - j) (unitK m Q + J) = dp := by
  obtain ⟨sd, st, sn, sg, sg10, sr, sdp⟩ := sh
  have hg0 : 0 < g := by omega
  have hdd := digs_dec sg sn hg0 sr
  have hnd := nd_strip (i := i) hg0
  rw [← sg, ← sn] at hnd
  obtain ⟨i', hi', hdp⟩ : ∃ i' : Nat, g * 10 ^ i' = p * 10 ^ j ∧ dp = (Lib.nDigits g : Int) + (i' : Int) + unitK m Q := by
    rcases shortD_units m Q (zOf m) with ⟨h1, h2⟩ | ⟨h1, h2⟩
    · refine ⟨i, ?_, ?_⟩
      · rw [hG, ← h2, ← sd, sg]
      · rw [sdp, st, h1]; omega
    · refine ⟨i + 1, ?_, ?_⟩
      · rw [hG, ← h2, ← sd, sg, Nat.pow_succ, Nat.mul_assoc]
      · rw [sdp, st, h1]; omega
  unfold toldD toldE
  rw [hdd]
  rcases hpick with ⟨h1, h2, h3⟩ | ⟨h1, h2⟩
  · obtain ⟨e1, e2⟩ := strip_unique sg10 h1 hi'
    have hnp : Lib.nDigits p = J - j := by
      have := Lib.nDigits_unique (J - j - 1) p h3 (by rw [(by omega : J - j - 1 + 1 = J - j)]; exact h2)
      omega
    have hlen : (Lib.decDigits p).length = J - j := by rw [Lib.decDigits_length]; exact hnp
    rw [if_neg (by omega), if_neg (by omega), e2]
    rw [e2, hnp] at hdp
    exact ⟨rfl, by omega⟩
  · subst h2
    have hi2 : g * 10 ^ i' = 1 * 10 ^ (j + 1) := by rw [hi', Nat.pow_succ]; omega
    obtain ⟨e1, e2⟩ := strip_unique sg10 (by decide) hi2
    have d10 : Lib.decDigits 10 = [49, 48] := by rw [Lib.decDigits]; rw [dif_neg (by decide)]; rw [Lib.decDigits]; rfl
    have d1 : Lib.decDigits 1 = [49] := by rw [Lib.decDigits]; rfl
    have n1 : Lib.nDigits 1 = 1 := by rw [Lib.nDigits]; rfl
    rw [e2, n1] at hdp
    rw [d10, e2, d1, if_pos (by show J - j < 2; omega), if_pos (by show J - j < 2; omega)]
    exact ⟨rfl, by omega⟩

/-- What the document's shortest digits want: first place, what is taken there, and that it is what the library shows. -/
theorem places {m Q d n i g r : Nat} {T dp : Int} (hm0 : 0 < m) (hm : m < 9007199254740992) (hQ : Q ≤ 2045) (hsub : Q = 0 ∨ 4503599627370496 ≤ m) (hf : Q * 4503599627370496 + m < 9218868437227405312) (sh : Shows m Q d n i g r T dp) :
    ∃ N : Nat, ∃ E : Int, (1 ≤ N ∧ N ≤ 17) ∧ (-370 ≤ E ∧ E ≤ 370) ∧
      ((∀ e, e < E → upT e ((Q : Int) - 1074) ≤ upM m e ((Q : Int) - 1074)) ∧ upM m E ((Q : Int) - 1074) < upT E ((Q : Int) - 1074) ∧ e0Of (((blen m : Nat) : Int) + ((Q : Int) - 1074)) ≤ E ∧ -390 ≤ e0Of (((blen m : Nat) : Int) + ((Q : Int) - 1074))) ∧
      (∀ n : Nat, 1 ≤ n → n ≤ N → kAt m ((Q : Int) - 1074) (E - n) < 2 ^ 60) ∧
      (∀ n : Nat, 1 ≤ n → n < N → decR (kAt m ((Q : Int) - 1074) (E - n)) (E - n) ≠ Q * 4503599627370496 + m ∧ decR (kAt m ((Q : Int) - 1074) (E - n) + 1) (E - n) ≠ Q * 4503599627370496 + m) ∧
      (decR (kAt m ((Q : Int) - 1074) (E - N)) (E - N) = Q * 4503599627370496 + m ∨ decR (kAt m ((Q : Int) - 1074) (E - N) + 1) (E - N) = Q * 4503599627370496 + m) ∧
      0 < takeP (Q * 4503599627370496 + m) m ((Q : Int) - 1074) (E - N) ∧
      toldD (takeP (Q * 4503599627370496 + m) m ((Q : Int) - 1074) (E - N)) N = digsB d n r ∧ toldE (takeP (Q * 4503599627370496 + m) m ((Q : Int) - 1074) (E - N)) N E = dp := by
  obtain ⟨z1, z2, z3, z4, z5, z6, z7, hx⟩ := z_facts hm0 hm
  obtain ⟨kb1, kb2⟩ := k_bounds hm0 hm hQ
  obtain ⟨J, eJ⟩ : ∃ J, Lib.nDigits (kOf m Q) = J := ⟨_, rfl⟩
  have hJ1 : 1 ≤ J := by rw [← eJ, Lib.nDigits]; split <;> omega
  have hk1 : 10 ^ (J - 1) ≤ kOf m Q := by rw [← eJ]; exact pow_nd kb1
  have hk2 : kOf m Q < 10 ^ J := by rw [← eJ]; exact Lib.lt_pow_nDigits _
  have hJ17 : J ≤ 17 := by
    rcases Nat.lt_or_ge 17 J with h | h
    · have := Nat.pow_le_pow_right (n := 10) (by decide) (show 17 ≤ J - 1 by omega)
      omega
    · exact h
  have hub := unit_bound (m := m) hQ
  have pf := power_facts hm0 hm hQ hJ1 hk1 hk2
  obtain ⟨up, eup⟩ : ∃ up : Nat → Bool, up = fun (j : Nat) => decide (nearP (kOf m Q / 10 ^ j) m (unitK m Q + j) ((Q : Int) - 1074) = kOf m Q / 10 ^ j + 1) := ⟨_, rfl⟩
  have hup : up 0 = upper (mOf m Q) (4 * (m * aOf m Q % mOf m Q)) (m * aOf m Q / mOf m Q) := by
    have h := near_upper m Q
    rw [eup]
    show decide (nearP (kOf m Q / 10 ^ 0) m (unitK m Q + ((0 : Nat) : Int)) ((Q : Int) - 1074) = kOf m Q / 10 ^ 0 + 1) = _
    rw [Nat.pow_zero, Nat.div_one, show unitK m Q + ((0 : Nat) : Int) = unitK m Q by omega, h]
    change decide ((if upper (mOf m Q) (4 * (m * aOf m Q % mOf m Q)) (kOf m Q) then kOf m Q + 1 else kOf m Q) = _) = upper (mOf m Q) (4 * (m * aOf m Q % mOf m Q)) (kOf m Q)
    cases upper (mOf m Q) (4 * (m * aOf m Q % mOf m Q)) (kOf m Q) <;> simp
  obtain ⟨j, hj, hyes, hno, hG, hpick⟩ := short_main hm0 hm hQ hsub z1 hx hJ1 hk1 hk2 up hup
  have ek : m * aOf m Q / mOf m Q = kOf m Q := rfl
  rw [ek] at hyes hG hpick
  simp only [ek] at hno
  have HD : ∀ (c t : Nat), decR c (unitK m Q + t) = Q * 4503599627370496 + m ↔ inI m Q (aOf m Q) (mOf m Q) (c * 10 ^ t) = true := fun c t => dec_in hm0 hm hsub hf
  have HK : ∀ t : Nat, kAt m ((Q : Int) - 1074) (unitK m Q + t) = kOf m Q / 10 ^ t := fun t => k_units m Q t (unitK m Q)
  have HE : ∀ n' : Nat, n' ≤ J → unitK m Q + (J : Int) - (n' : Int) = unitK m Q + ((J - n' : Nat) : Int) := fun n' h => by omega
  have HN : unitK m Q + (J : Int) - ((J - j : Nat) : Int) = unitK m Q + (j : Int) := by omega
  have hyes' : inI m Q (aOf m Q) (mOf m Q) (kOf m Q / 10 ^ j * 10 ^ j) = true ∨ inI m Q (aOf m Q) (mOf m Q) ((kOf m Q / 10 ^ j + 1) * 10 ^ j) = true := by rw [Bool.or_eq_true] at hyes; exact hyes
  have hT : takeP (Q * 4503599627370496 + m) m ((Q : Int) - 1074) (unitK m Q + (j : Int)) = pickJ (inI m Q (aOf m Q) (mOf m Q)) (kOf m Q) j (up j) := by
    unfold takeP pickJ
    rw [HK]
    simp only [HD, Bool.and_eq_true]
    have hnp : nearP (kOf m Q / 10 ^ j) m (unitK m Q + j) ((Q : Int) - 1074) = if up j then kOf m Q / 10 ^ j + 1 else kOf m Q / 10 ^ j := by
      rw [eup]
      simp only [decide_eq_true_eq]
      split
      · assumption
      · rename_i hh
        unfold nearP at hh ⊢
        split
        · rfl
        · rename_i h2
          rw [if_neg h2] at hh
          exact absurd rfl hh
    rw [hnp]
  refine ⟨J - j, unitK m Q + J, by omega, by omega, pf, ?_, ?_, ?_, ?_, ?_, ?_⟩
  · intro n' h1 h2
    rw [HE n' (by omega), HK]
    have := Nat.div_le_self (kOf m Q) (10 ^ (J - n'))
    omega
  · intro n' h1 h2
    rw [HE n' (by omega), HK]
    have h := hno (J - n') (by omega) (by omega)
    rw [Bool.or_eq_false_iff] at h
    constructor
    · intro e
      have := (HD _ _).1 e
      rw [h.1] at this
      cases this
    · intro e
      have := (HD _ _).1 e
      rw [h.2] at this
      cases this
  · rw [HN, HK]
    rcases hyes' with h | h
    · exact Or.inl ((HD _ _).2 h)
    · exact Or.inr ((HD _ _).2 h)
  all_goals rw [HN, hT]
  all_goals clear HD HK HE HN hyes' hT hno hyes hup eup pf
  all_goals generalize pickJ (inI m Q (aOf m Q) (mOf m Q)) (kOf m Q) j (up j) = p at *
  · rcases hpick with ⟨h, _⟩ | ⟨_, h⟩ <;> omega
  · exact (told_facts hj sh hG hpick).1
  · exact (told_facts hj sh hG hpick).2
end Go.Proofs.YtbengmceiaejeaaGreatDoor
