/- The document's shortest digits of a real, by places. -/
import Derived.Test.YtbengmceiaejeaaGreatDoorFtM3
import Derived.Test.YtbengmceiaejeaaGreatDoorFtX3
namespace Go.Proofs.YtbengmceiaejeaaGreatDoor
open Go.ChangeShapes Go.WideShapes Go.ChangeAt Go.RowKit

/-- The whole units of a real. -/
def kOf (m Q : Nat) : Nat := m * aOf m Q / mOf m Q

theorem power_facts {m Q J : Nat} (hm0 : 0 < m) (hm : m < 9007199254740992) (hQ : Q ≤ 2045) (hJ : 1 ≤ J) (hk1 : 10 ^ (J - 1) ≤ kOf m Q) (hk2 : kOf m Q < 10 ^ J) :
    (∀ e, e < unitK m Q + J → upT e ((Q : Int) - 1074) ≤ upM m e ((Q : Int) - 1074)) ∧ upM m (unitK m Q + J) ((Q : Int) - 1074) < upT (unitK m Q + J) ((Q : Int) - 1074) ∧ e0Of (((blen m : Nat) : Int) + ((Q : Int) - 1074)) ≤ unitK m Q + J ∧ -390 ≤ e0Of (((blen m : Nat) : Int) + ((Q : Int) - 1074)) := by
  have hM : 0 < mOf m Q := den_pos _ _
  have h1 : 10 ^ (J - 1) * mOf m Q ≤ m * aOf m Q := (Nat.le_div_iff_mul_le hM).1 hk1
  have h2 : m * aOf m Q < 10 ^ J * mOf m Q := (Nat.div_lt_iff_lt_mul hM).1 hk2
  have a1 : upT (unitK m Q + ((J - 1 : Nat) : Int)) ((Q : Int) - 1074) ≤ upM m (unitK m Q + ((J - 1 : Nat) : Int)) ((Q : Int) - 1074) := (up_units m Q (J - 1) (unitK m Q)).2 h1
  have a2 : ¬ upT (unitK m Q + (J : Int)) ((Q : Int) - 1074) ≤ upM m (unitK m Q + (J : Int)) ((Q : Int) - 1074) := fun h => by
    have h3 : 10 ^ J * mOf m Q ≤ m * aOf m Q := (up_units m Q J (unitK m Q)).1 h
    omega
  have hb : blen m ≤ 60 := Nat.le_trans (blen_le (a := 53) (by omega)) (by omega)
  obtain ⟨s1, s2⟩ := start_le (P := (Q : Int) - 1074) hm0 hb (by omega)
  refine ⟨fun e he => up_mono (by omega) a1, Nat.lt_of_not_le a2, ?_, s2⟩
  rcases Int.lt_or_le (unitK m Q + (J : Int)) (e0Of (((blen m : Nat) : Int) + ((Q : Int) - 1074))) with h | h
  · exact absurd (up_mono (Int.le_of_lt h) s1) a2
  · exact h

theorem cmp_scale {m n x : Nat} (hx : 0 < x) : cmpN (m * x) (n * x) = cmpN m n := by
  unfold cmpN
  have e1 : m * x < n * x ↔ m < n := Nat.mul_lt_mul_right hx
  have e2 : m * x = n * x ↔ m = n := Nat.mul_right_cancel_iff hx
  simp only [e1, e2]

theorem near_upper (m Q : Nat) : (nearP (kOf m Q) m (unitK m Q) ((Q : Int) - 1074) = if upper (mOf m Q) (4 * (m * aOf m Q % mOf m Q)) (kOf m Q) then kOf m Q + 1 else kOf m Q) := by
  have hM : 0 < mOf m Q := den_pos _ _
  have hdm := Nat.div_add_mod (m * aOf m Q) (mOf m Q)
  have hmod := Nat.mod_lt (m * aOf m Q) hM
  have u := unit_frac ((Q : Int) - 1074) (unitK m Q)
  change aOf m Q * _ = mOf m Q * _ at u
  unfold kOf at *
  have key : nearC (m * aOf m Q / mOf m Q) m (unitK m Q) ((Q : Int) - 1074) = cmpN ((2 * (m * aOf m Q / mOf m Q) + 1) * mOf m Q) (2 * (m * aOf m Q)) := by
    unfold nearC
    have p : 0 < 10 ^ (unitK m Q).toNat * 2 ^ (-((Q : Int) - 1074)).toNat := Nat.mul_pos (Nat.pow_pos (by decide)) (Nat.two_pow_pos _)
    rw [← cmp_scale hM, ← cmp_scale (m := (2 * (m * aOf m Q / mOf m Q) + 1) * mOf m Q) p]
    generalize m * aOf m Q / mOf m Q = k at *
    generalize aOf m Q = A at *
    generalize mOf m Q = M at *
    generalize 2 ^ ((Q : Int) - 1074).toNat = f at *
    generalize 2 ^ (-((Q : Int) - 1074)).toNat = g at *
    generalize (10 : Nat) ^ (unitK m Q).toNat = b at *
    generalize (10 : Nat) ^ (-(unitK m Q)).toNat = d at *
    have x1 : (k + (k + 1)) * b * g * M = (2 * k + 1) * M * (b * g) := by
      rw [show k + (k + 1) = 2 * k + 1 by omega]; ac_rfl
    have x2 : m * 2 ^ 1 * d * f * M = 2 * (m * A) * (b * g) := by
      have r1 : m * 2 ^ 1 * d * f * M = 2 * m * (M * (d * f)) := by rw [show (2 : Nat) ^ 1 = 2 from rfl]; ac_rfl
      have r2 : 2 * (m * A) * (b * g) = 2 * m * (A * (b * g)) := by ac_rfl
      rw [r1, r2, u]
    rw [x1, x2]
  generalize m * aOf m Q / mOf m Q = k at *
  generalize m * aOf m Q % mOf m Q = r at *
  have e1 : (2 * k + 1) * mOf m Q = 2 * (mOf m Q * k) + mOf m Q := by rw [Nat.add_mul, Nat.one_mul, Nat.mul_assoc, Nat.mul_comm k]
  unfold nearP upper
  rw [key, e1, ← hdm]
  generalize mOf m Q * k = w at *
  generalize mOf m Q = M at *
  unfold cmpN
  by_cases c1 : 2 * w + M < 2 * (w + r)
  · rw [if_pos c1, if_neg (by omega), if_pos (by simp; omega)]
  · by_cases c2 : 2 * w + M = 2 * (w + r)
    · rw [if_neg c1, if_pos c2]
      rcases Nat.mod_two_eq_zero_or_one k with hk | hk
      · rw [if_pos (Or.inr ⟨rfl, hk⟩), if_neg (by simp; omega)]
      · rw [if_neg (by omega), if_pos (by simp; omega)]
    · rw [if_neg c1, if_neg c2, if_pos (Or.inl (by decide)), if_neg (by simp; omega)]
end Go.Proofs.YtbengmceiaejeaaGreatDoor
