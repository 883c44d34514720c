/- The document's numbers in units of a power of ten. -/
import Derived.Test.YtbengmceiaejeaaGreatDoorFtM1
namespace Go.Proofs.YtbengmceiaejeaaGreatDoor

theorem two_five (n : Nat) : (10 : Nat) ^ n = 5 ^ n * 2 ^ n := by rw [← Nat.mul_pow]

theorem unit_frac (q K : Int) : numA q K * (10 ^ K.toNat * 2 ^ (-q).toNat) = denM q K * (10 ^ (-K).toNat * 2 ^ q.toNat) := by
  unfold numA denM
  rw [two_five, two_five]
  have e : (q - K).toNat + (K.toNat + (-q).toNat) = (K - q).toNat + ((-K).toNat + q.toNat) := by omega
  have e2 : 2 ^ (q - K).toNat * (2 ^ K.toNat * 2 ^ (-q).toNat) = 2 ^ (K - q).toNat * (2 ^ (-K).toNat * 2 ^ q.toNat) := by
    rw [← Nat.pow_add, ← Nat.pow_add, ← Nat.pow_add, ← Nat.pow_add, e]
  generalize 2 ^ (q - K).toNat = a at *
  generalize 2 ^ (K - q).toNat = b at *
  generalize 2 ^ K.toNat = c at *
  generalize 2 ^ (-K).toNat = d at *
  generalize 2 ^ q.toNat = f at *
  generalize 2 ^ (-q).toNat = g at *
  generalize 5 ^ K.toNat = h
  generalize 5 ^ (-K).toNat = i
  have l : i * a * (h * c * g) = i * h * (a * (c * g)) := by ac_rfl
  have r : h * b * (i * d * f) = i * h * (b * (d * f)) := by ac_rfl
  rw [l, r, e2]

theorem pow_two_split {Q Z : Nat} (hZ : Z = 1074) : 2 ^ Z * 2 ^ ((Q : Int) - 1074).toNat = 2 ^ Q * 2 ^ (-((Q : Int) - 1074)).toNat := by
  rw [← Nat.pow_add, ← Nat.pow_add]
  congr 1
  omega

/-- In units: is c times 10^j nearest to the real? -/
theorem dec_in {c m Q j : Nat} {K : Int} (hm0 : 0 < m) (hm : m < 9007199254740992) (hQ : Q = 0 ∨ 4503599627370496 ≤ m) (hf : Q * 4503599627370496 + m < 9218868437227405312) :
    decR c (K + j) = Q * 4503599627370496 + m ↔ inI m Q (numA ((Q : Int) - 1074) K) (denM ((Q : Int) - 1074) K) (c * 10 ^ j) = true := by
  obtain ⟨Z, hZ⟩ : ∃ Z : Nat, Z = 1074 := ⟨_, rfl⟩
  rw [dec_iff hZ hm0 hm hQ hf, inI_iff]
  show _ ↔ InW m Q _ _
  have u := unit_frac ((Q : Int) - 1074) K
  have v := pow_two_split (Q := Q) hZ
  have e : (10 : Nat) ^ j * (10 ^ K.toNat * 10 ^ (-(K + (j : Int))).toNat) = 10 ^ (K + (j : Int)).toNat * 10 ^ (-K).toNat := by
    rw [← Nat.pow_add, ← Nat.pow_add, ← Nat.pow_add]
    congr 1
    omega
  have p1 : 0 < denM ((Q : Int) - 1074) K * 10 ^ (-K).toNat * 2 ^ ((Q : Int) - 1074).toNat := Nat.mul_pos (Nat.mul_pos (den_pos _ _) (Nat.pow_pos (by decide))) (Nat.two_pow_pos _)
  have p2 : 0 < 10 ^ K.toNat * 2 ^ (-((Q : Int) - 1074)).toNat * (2 ^ Q * 10 ^ (-(K + (j : Int))).toNat) := Nat.mul_pos (Nat.mul_pos (Nat.pow_pos (by decide)) (Nat.two_pow_pos _)) (Nat.mul_pos (Nat.two_pow_pos _) (Nat.pow_pos (by decide)))
  rw [← inW_scale p1, ← inW_scale (A4 := 4 * denM ((Q : Int) - 1074) K * (c * 10 ^ j)) p2]
  generalize numA ((Q : Int) - 1074) K = A at *
  generalize denM ((Q : Int) - 1074) K = M at *
  generalize 2 ^ Z = z at *
  generalize 2 ^ ((Q : Int) - 1074).toNat = f at *
  generalize 2 ^ (-((Q : Int) - 1074)).toNat = g at *
  generalize 2 ^ Q = t at *
  generalize (10 : Nat) ^ j = a at *
  generalize (10 : Nat) ^ K.toNat = b at *
  generalize (10 : Nat) ^ (-K).toNat = d at *
  generalize (10 : Nat) ^ (-(K + (j : Int))).toNat = x at *
  generalize (10 : Nat) ^ (K + (j : Int)).toNat = y at *
  have e1 : t * x * (M * d * f) = A * (b * g * (t * x)) := by
    have l : t * x * (M * d * f) = t * x * (M * (d * f)) := by ac_rfl
    have r : A * (b * g * (t * x)) = t * x * (A * (b * g)) := by ac_rfl
    rw [l, r, u]
  have e2 : 4 * (c * y * z) * (M * d * f) = 4 * M * (c * a) * (b * g * (t * x)) := by
    have l : 4 * (c * y * z) * (M * d * f) = 4 * M * c * ((y * d) * (z * f)) := by ac_rfl
    have r : 4 * M * (c * a) * (b * g * (t * x)) = 4 * M * c * ((a * (b * x)) * (t * g)) := by ac_rfl
    rw [l, r, e, v]
  rw [e1, e2]

theorem frac_div {m a b c d : Nat} (hc : 0 < c) (hd : 0 < d) (h : a * d = b * c) : m * a / c = m * b / d := by
  rw [← Nat.mul_div_mul_right (m * a) c hd, Nat.mul_assoc, h, ← Nat.mul_assoc, Nat.mul_comm c d, Nat.mul_div_mul_right _ _ hc]

theorem k_units (m Q j : Nat) (K : Int) : kAt m ((Q : Int) - 1074) (K + j) = m * numA ((Q : Int) - 1074) K / denM ((Q : Int) - 1074) K / 10 ^ j := by
  rw [Nat.div_div_eq_div_mul]
  unfold kAt
  rw [Nat.mul_assoc m]
  refine frac_div (Nat.mul_pos (Nat.mul_pos Nat.one_pos (Nat.two_pow_pos _)) (Nat.pow_pos (by decide))) (Nat.mul_pos (den_pos _ _) (Nat.pow_pos (by decide))) ?_
  have u := unit_frac ((Q : Int) - 1074) K
  have e : (10 : Nat) ^ j * (10 ^ K.toNat * 10 ^ (-(K + (j : Int))).toNat) = 10 ^ (K + (j : Int)).toNat * 10 ^ (-K).toNat := by
    rw [← Nat.pow_add, ← Nat.pow_add, ← Nat.pow_add]
    congr 1
    omega
  have p : 0 < (10 : Nat) ^ K.toNat * 10 ^ (-K).toNat := Nat.mul_pos (Nat.pow_pos (by decide)) (Nat.pow_pos (by decide))
  apply Nat.eq_of_mul_eq_mul_right p
  generalize numA ((Q : Int) - 1074) K = A at *
  generalize denM ((Q : Int) - 1074) K = M at *
  generalize 2 ^ ((Q : Int) - 1074).toNat = f at *
  generalize 2 ^ (-((Q : Int) - 1074)).toNat = g at *
  generalize (10 : Nat) ^ j = a at *
  generalize (10 : Nat) ^ K.toNat = b at *
  generalize (10 : Nat) ^ (-K).toNat = d at *
  generalize (10 : Nat) ^ (-(K + (j : Int))).toNat = x at *
  generalize (10 : Nat) ^ (K + (j : Int)).toNat = y at *
  have l : f * x * (M * a) * (b * d) = (M * (d * f)) * (a * (b * x)) := by ac_rfl
  have r : A * (1 * g * y) * (b * d) = (A * (b * g)) * (y * d) := by rw [Nat.one_mul]; ac_rfl
  rw [l, r, u, e]
end Go.Proofs.YtbengmceiaejeaaGreatDoor
