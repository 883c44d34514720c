/- The nearest real of a decimal, by its borders. -/
import Derived.Test.YtbengmceiaejeaaGreatDoorFtR8
import Derived.Test.YtbengmceiaejeaaGreatDoorFtI
namespace Go.Proofs.YtbengmceiaejeaaGreatDoor

theorem low_pos {m Q : Nat} (hm0 : 0 < m) : 0 < lowY m Q := by unfold lowY; split <;> omega

theorem inW_zero {m Q B : Nat} (hm0 : 0 < m) (hB : 0 < B) : ¬ InW m Q B 0 := by
  rintro ⟨⟨h, _⟩, _⟩
  have := Nat.mul_pos (low_pos (Q := Q) hm0) hB
  omega

theorem near_at (A k Z : Nat) (P : Int) (hZ : Z = 1074) (h : P = (Z : Int) - 1074 - (k : Int)) : nearR A P = rungOf (A * 2 ^ Z) k := by
  subst hZ
  rw [h]
  exact near_rungOf (mag := A)

theorem inW_scale {m Q B A4 t : Nat} (ht : 0 < t) : InW m Q (B * t) (A4 * t) ↔ InW m Q B A4 := by
  unfold InW
  rw [← Nat.mul_assoc, ← Nat.mul_assoc, Nat.mul_le_mul_right_iff ht, Nat.mul_le_mul_right_iff ht]
  have e1 : lowY m Q * B * t = A4 * t ↔ lowY m Q * B = A4 := Nat.mul_right_cancel_iff ht
  have e2 : A4 * t = (4 * m + 2) * B * t ↔ A4 = (4 * m + 2) * B := Nat.mul_right_cancel_iff ht
  rw [Ne, Ne, e1, e2]

/-- A quotient that is no whole number, against a border. -/
theorem sticky_le {y q r t K Z : Nat} (hy : y < 2 ^ 56) (hq : 2 ^ 60 ≤ q) (hr0 : 0 < r) (hr : r < t) :
    (y * 2 ^ (K + 2) ≤ 4 * ((q * 2 ^ 2 + 1) * 2 ^ Z) ↔ y * 2 ^ K * t ≤ 4 * ((q * t + r) * 2 ^ Z)) ∧ y * 2 ^ (K + 2) ≠ 4 * ((q * 2 ^ 2 + 1) * 2 ^ Z) ∧ y * 2 ^ K * t ≠ 4 * ((q * t + r) * 2 ^ Z) := by
  have hE : 0 < 2 ^ Z := Nat.two_pow_pos Z
  have r1 : 4 * ((q * 2 ^ 2 + 1) * 2 ^ Z) = (4 * (4 * q + 1)) * 2 ^ Z := by
    rw [← Nat.mul_assoc]; congr 1; omega
  have r2 : 4 * ((q * t + r) * 2 ^ Z) = (4 * (q * t + r)) * 2 ^ Z := by rw [← Nat.mul_assoc]
  rw [r1, r2]
  by_cases hK : Z + 2 ≤ K
  · obtain ⟨d, rfl⟩ : ∃ d, K = Z + 2 + d := ⟨K - (Z + 2), by omega⟩
    obtain ⟨X, eX⟩ : ∃ X, y * 2 ^ d = X := ⟨_, rfl⟩
    have l1 : y * 2 ^ (Z + 2 + d + 2) = (16 * X) * 2 ^ Z := by
      rw [← eX, show Z + 2 + d + 2 = d + 4 + Z by omega, Nat.pow_add 2 (d + 4), Nat.pow_add 2 d 4, ← Nat.mul_assoc, ← Nat.mul_assoc]
      congr 1
      omega
    have l2 : y * 2 ^ (Z + 2 + d) * t = (4 * (X * t)) * 2 ^ Z := by
      rw [← eX, show Z + 2 + d = d + 2 + Z by omega, Nat.pow_add 2 (d + 2), Nat.pow_add 2 d 2]
      generalize 2 ^ d = D
      generalize 2 ^ Z = E
      show y * (D * 4 * E) * t = 4 * (y * D * t) * E
      ac_rfl
    rw [l1, l2, Nat.mul_le_mul_right_iff hE, Nat.mul_le_mul_right_iff hE]
    have n1 : (16 * X) * 2 ^ Z = (4 * (4 * q + 1)) * 2 ^ Z ↔ 16 * X = 4 * (4 * q + 1) := Nat.mul_right_cancel_iff hE
    have n2 : (4 * (X * t)) * 2 ^ Z = (4 * (q * t + r)) * 2 ^ Z ↔ 4 * (X * t) = 4 * (q * t + r) := Nat.mul_right_cancel_iff hE
    rw [Ne, Ne, n1, n2]
    have key : X * t ≤ q * t + r ↔ X ≤ q := by
      constructor
      · intro h
        rcases Nat.lt_or_ge q X with hc | hc
        · have := Nat.mul_le_mul_right t (show q + 1 ≤ X from hc)
          rw [Nat.add_mul, Nat.one_mul] at this
          omega
        · exact hc
      · intro h
        have := Nat.mul_le_mul_right t h
        omega
    refine ⟨⟨fun h => ?_, fun h => ?_⟩, by omega, fun h => ?_⟩
    · have := key.2 (by omega); omega
    · have := key.1 (by omega); omega
    · have h1 : X * t = q * t + r := by omega
      have h2 := key.1 (by omega)
      have h3 : X < q ∨ X = q := by omega
      rcases h3 with h3 | h3
      · have := Nat.mul_le_mul_right t (show X + 1 ≤ q from h3)
        rw [Nat.add_mul, Nat.one_mul] at this
        omega
      · rw [h3] at h1; omega
  · have hKp : 2 ^ K ≤ 2 ^ (Z + 1) := Nat.pow_le_pow_right (by omega) (by omega)
    have e1 : 2 ^ (Z + 1) = 2 * 2 ^ Z := by rw [Nat.pow_succ]; omega
    have e2 : 2 ^ (K + 2) = 4 * 2 ^ K := by rw [Nat.pow_add]; omega
    rw [e1] at hKp
    rw [e2]
    generalize 2 ^ K = k at *
    generalize 2 ^ Z = E at *
    have a1 : y * (4 * k) ≤ y * (8 * E) := Nat.mul_le_mul_left y (by omega)
    have a2 : y * (8 * E) ≤ 2 ^ 56 * (8 * E) := Nat.mul_le_mul_right _ (Nat.le_of_lt hy)
    have a3 : (2 ^ 60 * 16) * E ≤ (4 * (4 * q + 1)) * E := Nat.mul_le_mul_right E (by omega)
    have b1 : y * k * t ≤ (2 ^ 56 * (2 * E)) * t := Nat.mul_le_mul_right t (Nat.mul_le_mul (Nat.le_of_lt hy) hKp)
    have b2 : (4 * (2 ^ 60 * t)) * E ≤ (4 * (q * t + r)) * E := Nat.mul_le_mul_right E (by have := Nat.mul_le_mul_right t hq; omega)
    have b3 : (2 ^ 56 * (2 * E)) * t = (2 ^ 57) * (E * t) := by
      rw [show (2 : Nat) ^ 57 = 2 ^ 56 * 2 by decide]; ac_rfl
    have b4 : (4 * (2 ^ 60 * t)) * E = 2 ^ 62 * (E * t) := by
      rw [show (2 : Nat) ^ 62 = 4 * 2 ^ 60 by decide]; ac_rfl
    have hEt : 0 < E * t := Nat.mul_pos hE (by omega)
    rw [b3] at b1
    rw [b4] at b2
    generalize E * t = W at *
    generalize y * k * t = L2 at *
    generalize (4 * (q * t + r)) * E = R2 at *
    generalize y * (4 * k) = L1 at *
    generalize (4 * (4 * q + 1)) * E = R1 at *
    have c1 : L1 < R1 := by omega
    have c2 : L2 < R2 := by omega
    exact ⟨⟨fun _ => Nat.le_of_lt c2, fun _ => Nat.le_of_lt c1⟩, Nat.ne_of_lt c1, Nat.ne_of_lt c2⟩

theorem inW_sticky {m Q q r t K Z : Nat} (hm0 : 0 < m) (hm : m < 9007199254740992) (hq : 2 ^ 60 ≤ q) (hr0 : 0 < r) (hr : r < t) :
    InW m Q (2 ^ (K + 2)) (4 * ((q * 2 ^ 2 + 1) * 2 ^ Z)) ↔ InW m Q (2 ^ K * t) (4 * ((q * t + r) * 2 ^ Z)) := by
  have hl : lowY m Q < 2 ^ 56 := by unfold lowY; split <;> omega
  obtain ⟨a1, a2, a3⟩ := sticky_le (y := lowY m Q) (K := K) (Z := Z) hl hq hr0 hr
  obtain ⟨b1, b2, b3⟩ := sticky_le (y := 4 * m + 2) (K := K) (Z := Z) (by omega) hq hr0 hr
  unfold InW
  rw [show lowY m Q * (2 ^ K * t) = lowY m Q * 2 ^ K * t from (Nat.mul_assoc _ _ _).symm, show (4 * m + 2) * (2 ^ K * t) = (4 * m + 2) * 2 ^ K * t from (Nat.mul_assoc _ _ _).symm]
  generalize lowY m Q * 2 ^ (K + 2) = p1 at *
  generalize lowY m Q * 2 ^ K * t = p2 at *
  generalize (4 * m + 2) * 2 ^ (K + 2) = p3 at *
  generalize (4 * m + 2) * 2 ^ K * t = p4 at *
  generalize 4 * ((q * 2 ^ 2 + 1) * 2 ^ Z) = R1 at *
  generalize 4 * ((q * t + r) * 2 ^ Z) = R2 at *
  constructor
  · rintro ⟨⟨h1, h2⟩, _⟩
    have h3 : ¬ p3 ≤ R1 := fun h => b2 (Nat.le_antisymm h h2)
    have h4 : ¬ p4 ≤ R2 := fun h => h3 (b1.2 h)
    exact ⟨⟨a1.1 h1, by omega⟩, fun _ => ⟨a3, by omega⟩⟩
  · rintro ⟨⟨h1, h2⟩, _⟩
    have h3 : ¬ p4 ≤ R2 := fun h => b3 (Nat.le_antisymm h h2)
    have h4 : ¬ p3 ≤ R1 := fun h => h3 (b1.1 h)
    exact ⟨⟨a1.2 h1, by omega⟩, fun _ => ⟨a2, by omega⟩⟩

theorem down_iff {c m Q Z t : Nat} (hZ : Z = 1074) (hm0 : 0 < m) (hm : m < 9007199254740992) (hQ : Q = 0 ∨ 4503599627370496 ≤ m) (hf : Q * 4503599627370496 + m < 9218868437227405312) (ht : 0 < t) :
    downR c t (blen t + 128) = Q * 4503599627370496 + m ↔ InW m Q (2 ^ Q * t) (4 * (c * 2 ^ Z)) := by
  have hbl := lt_blen t
  obtain ⟨b, eb⟩ : ∃ b, blen t = b := ⟨_, rfl⟩
  rw [eb] at hbl ⊢
  obtain ⟨k, ek⟩ : ∃ k, b + 128 = k := ⟨_, rfl⟩
  rw [ek]
  have hdm := Nat.div_add_mod (c * 2 ^ k) t
  have hmod := Nat.mod_lt (c * 2 ^ k) ht
  obtain ⟨q, eq⟩ : ∃ q, c * 2 ^ k / t = q := ⟨_, rfl⟩
  obtain ⟨r, er⟩ : ∃ q, c * 2 ^ k % t = q := ⟨_, rfl⟩
  have hS : InW m Q (2 ^ Q * t) (4 * (c * 2 ^ Z)) ↔ InW m Q (2 ^ (Q + k) * t) (4 * ((q * t + r) * 2 ^ Z)) := by
    rw [← inW_scale (t := 2 ^ k) (Nat.two_pow_pos k)]
    have e1 : 2 ^ Q * t * 2 ^ k = 2 ^ (Q + k) * t := by rw [Nat.pow_add]; ac_rfl
    have e2 : 4 * (c * 2 ^ Z) * 2 ^ k = 4 * ((q * t + r) * 2 ^ Z) := by
      rw [← er, ← eq, Nat.mul_comm (c * 2 ^ k / t) t, hdm]; ac_rfl
    rw [e1, e2]
  rw [hS]
  unfold downR
  rw [eq, er]
  rw [er] at hmod
  by_cases hr : r = 0
  · rw [if_pos hr, hr, Nat.add_zero, near_at q k Z _ hZ (by omega)]
    have e3 : 4 * (q * t * 2 ^ Z) = 4 * (q * 2 ^ Z) * t := by ac_rfl
    rw [e3, inW_scale ht]
    rcases Nat.eq_zero_or_pos q with h0 | h0
    · rw [h0, Nat.zero_mul, Nat.mul_zero]
      constructor
      · intro e
        exfalso
        have e2 := near_at 0 k Z (-(k : Int)) hZ (by omega)
        rw [nearR_zero, Nat.zero_mul] at e2
        rw [← e2] at e
        omega
      · intro e
        exact absurd e (inW_zero hm0 (Nat.two_pow_pos _))
    · exact rungOf_iff (Nat.pos_iff_ne_zero.1 (Nat.mul_pos h0 (Nat.two_pow_pos _))) hm0 hm hQ hf
  · rw [if_neg hr, near_at (q * 2 ^ 2 + 1) (k + 2) Z _ hZ (by omega)]
    have hq60 : 2 ^ 60 ≤ q := by
      have hc0 : 0 < c := by
        rcases Nat.eq_zero_or_pos c with h | h
        · rw [h, Nat.zero_mul, Nat.zero_mod] at er
          exact absurd er.symm hr
        · exact h
      rw [← eq, Nat.le_div_iff_mul_le ht]
      have e1 : 2 ^ 60 * 2 ^ b ≤ 2 ^ k := by rw [← Nat.pow_add]; exact Nat.pow_le_pow_right (by omega) (by omega)
      have e2 : 2 ^ 60 * t ≤ 2 ^ 60 * 2 ^ b := Nat.mul_le_mul_left _ (Nat.le_of_lt hbl)
      have e3 : 2 ^ k ≤ c * 2 ^ k := Nat.le_mul_of_pos_left _ hc0
      exact Nat.le_trans e2 (Nat.le_trans e1 e3)
    rw [rungOf_iff (Nat.pos_iff_ne_zero.1 (Nat.mul_pos (by omega) (Nat.two_pow_pos _))) hm0 hm hQ hf]
    exact inW_sticky hm0 hm hq60 (by omega) hmod

theorem dec_iff {c m Q Z : Nat} {s : Int} (hZ : Z = 1074) (hm0 : 0 < m) (hm : m < 9007199254740992) (hQ : Q = 0 ∨ 4503599627370496 ≤ m) (hf : Q * 4503599627370496 + m < 9218868437227405312) :
    decR c s = Q * 4503599627370496 + m ↔ InW m Q (2 ^ Q * 10 ^ (-s).toNat) (4 * (c * 10 ^ s.toNat * 2 ^ Z)) := by
  unfold decR
  by_cases h : 0 ≤ s
  · rw [if_pos h, (by omega : (-s).toNat = 0), Nat.pow_zero, Nat.mul_one, near_at _ 0 Z 0 hZ (by omega)]
    rcases Nat.eq_zero_or_pos (c * 10 ^ s.toNat) with h0 | h0
    · rw [h0, Nat.zero_mul, Nat.mul_zero]
      constructor
      · intro e
        exfalso
        have e2 := near_at 0 0 Z 0 hZ (by omega)
        rw [nearR_zero, Nat.zero_mul] at e2
        rw [← e2] at e
        omega
      · intro e
        exact absurd e (inW_zero hm0 (Nat.two_pow_pos Q))
    · exact rungOf_iff (Nat.pos_iff_ne_zero.1 (Nat.mul_pos h0 (Nat.two_pow_pos _))) hm0 hm hQ hf
  · rw [if_neg h, (by omega : s.toNat = 0), Nat.pow_zero, Nat.mul_one]
    exact down_iff hZ hm0 hm hQ hf (Nat.pow_pos (by omega))
end Go.Proofs.YtbengmceiaejeaaGreatDoor
