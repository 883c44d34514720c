/- The document's power of 10 above an amount. -/
import Derived.Test.YtbengmceiaejeaaGreatDoorFtM2
namespace Go.Proofs.YtbengmceiaejeaaGreatDoor

theorem up_units (m Q j : Nat) (K : Int) : upT (K + j) ((Q : Int) - 1074) ≤ upM m (K + j) ((Q : Int) - 1074) ↔ 10 ^ j * denM ((Q : Int) - 1074) K ≤ m * numA ((Q : Int) - 1074) K := by
  unfold upT upM
  have u := unit_frac ((Q : Int) - 1074) K
  have e : (10 : Nat) ^ j * (10 ^ K.toNat * 10 ^ (-(K + (j : Int))).toNat) = 10 ^ (K + (j : Int)).toNat * 10 ^ (-K).toNat := by
    rw [← Nat.pow_add, ← Nat.pow_add, ← Nat.pow_add]
    congr 1
    omega
  have p1 : 0 < denM ((Q : Int) - 1074) K * 10 ^ j * ((10 : Nat) ^ K.toNat * 10 ^ (-K).toNat) := Nat.mul_pos (Nat.mul_pos (den_pos _ _) (Nat.pow_pos (by decide))) (Nat.mul_pos (Nat.pow_pos (by decide)) (Nat.pow_pos (by decide)))
  have p2 : 0 < 10 ^ (K + (j : Int)).toNat * 2 ^ (-((Q : Int) - 1074)).toNat * ((10 : Nat) ^ K.toNat * 10 ^ (-K).toNat) := Nat.mul_pos (Nat.mul_pos (Nat.pow_pos (by decide)) (Nat.two_pow_pos _)) (Nat.mul_pos (Nat.pow_pos (by decide)) (Nat.pow_pos (by decide)))
  have q2 : 10 ^ j * denM ((Q : Int) - 1074) K ≤ m * numA ((Q : Int) - 1074) K ↔ 10 ^ j * denM ((Q : Int) - 1074) K * (10 ^ (K + (j : Int)).toNat * 2 ^ (-((Q : Int) - 1074)).toNat * ((10 : Nat) ^ K.toNat * 10 ^ (-K).toNat)) ≤ m * numA ((Q : Int) - 1074) K * (10 ^ (K + (j : Int)).toNat * 2 ^ (-((Q : Int) - 1074)).toNat * ((10 : Nat) ^ K.toNat * 10 ^ (-K).toNat)) := (Nat.mul_le_mul_right_iff p2).symm
  rw [← Nat.mul_le_mul_right_iff p1, q2]
  clear q2
  generalize numA ((Q : Int) - 1074) K = A at *
  generalize denM ((Q : Int) - 1074) K = M at *
  generalize 2 ^ ((Q : Int) - 1074).toNat = f at *
  generalize 2 ^ (-((Q : Int) - 1074)).toNat = g at *
  generalize (10 : Nat) ^ j = a at *
  generalize (10 : Nat) ^ K.toNat = b at *
  generalize (10 : Nat) ^ (-K).toNat = d at *
  generalize (10 : Nat) ^ (-(K + (j : Int))).toNat = x at *
  generalize (10 : Nat) ^ (K + (j : Int)).toNat = y at *
  have l : 1 * y * g * (M * a * (b * d)) = a * M * (y * g * (b * d)) := by rw [Nat.one_mul]; ac_rfl
  have r : m * x * f * (M * a * (b * d)) = m * A * (y * g * (b * d)) := by
    have r1 : m * x * f * (M * a * (b * d)) = m * ((M * (d * f)) * (a * (b * x))) := by ac_rfl
    have r2 : m * A * (y * g * (b * d)) = m * ((A * (b * g)) * (y * d)) := by ac_rfl
    rw [r1, r2, u, e]
  rw [l, r]

/-- What is below a power of 10 is above every lower one. -/
theorem up_mono {m : Nat} {e e' P : Int} (h : e ≤ e') (h2 : upT e' P ≤ upM m e' P) : upT e P ≤ upM m e P := by
  unfold upT upM at *
  have k : (10 : Nat) ^ e.toNat * 10 ^ (-e').toNat ≤ 10 ^ e'.toNat * 10 ^ (-e).toNat := by
    rw [← Nat.pow_add, ← Nat.pow_add]
    exact Nat.pow_le_pow_right (by decide) (by omega)
  have p : 0 < (10 : Nat) ^ (-e').toNat := Nat.pow_pos (by decide)
  have p2 : 0 < (10 : Nat) ^ (-e).toNat := Nat.pow_pos (by decide)
  apply Nat.le_of_mul_le_mul_right _ p
  have s1 : 1 * 10 ^ e.toNat * 2 ^ (-P).toNat * 10 ^ (-e').toNat = (10 ^ e.toNat * 10 ^ (-e').toNat) * 2 ^ (-P).toNat := by rw [Nat.one_mul]; ac_rfl
  have s2 : m * 10 ^ (-e).toNat * 2 ^ P.toNat * 10 ^ (-e').toNat = (m * 10 ^ (-e').toNat * 2 ^ P.toNat) * 10 ^ (-e).toNat := by ac_rfl
  rw [s1, s2]
  have s3 := Nat.mul_le_mul_right (2 ^ (-P).toNat) k
  have s4 := Nat.mul_le_mul_right (10 ^ (-e).toNat) h2
  have s5 : 10 ^ e'.toNat * 10 ^ (-e).toNat * 2 ^ (-P).toNat = 1 * 10 ^ e'.toNat * 2 ^ (-P).toNat * 10 ^ (-e).toNat := by rw [Nat.one_mul]; ac_rfl
  rw [s5] at s3
  exact Nat.le_trans s3 s4

/-- Where the document begins to look for it. -/
def e0Of (L : Int) : Int := Int.tdiv (L * 30103) 100000 - 2
def startOK (L : Int) : Bool := decide (10 ^ (e0Of L).toNat * 2 ^ (1 - L).toNat ≤ 2 ^ (L - 1).toNat * 10 ^ (-(e0Of L)).toNat) && decide (-390 ≤ e0Of L)

theorem start_all : (List.range 2180).all (fun i => startOK ((i : Int) - 1075)) = true := by decide +kernel

theorem start_of (L : Int) (h1 : -1075 ≤ L) (h2 : L ≤ 1104) : startOK L = true := by
  have := List.all_eq_true.1 start_all (L + 1075).toNat (List.mem_range.2 (by omega))
  rw [show (((L + 1075).toNat : Nat) : Int) - 1075 = L by omega] at this
  exact this

theorem blen_ge2 {m : Nat} (h : 0 < m) : 2 ^ (blen m - 1) ≤ m := by
  unfold blen
  rw [if_neg (by omega), Nat.add_sub_cancel]
  exact Nat.log2_self_le (by omega)

/-- At the start the power is not above the amount. -/
theorem start_le {m : Nat} {P : Int} (hm0 : 0 < m) (hb : blen m ≤ 60) (hP : -1074 ≤ P ∧ P ≤ 971) : upT (e0Of (((blen m : Nat) : Int) + P)) P ≤ upM m (e0Of (((blen m : Nat) : Int) + P)) P ∧ -390 ≤ e0Of (((blen m : Nat) : Int) + P) := by
  have hb1 : 1 ≤ blen m := by unfold blen; rw [if_neg (by omega)]; omega
  have hs := start_of (((blen m : Nat) : Int) + P) (by omega) (by omega)
  unfold startOK at hs
  rw [Bool.and_eq_true, decide_eq_true_eq, decide_eq_true_eq] at hs
  obtain ⟨h1, h2⟩ := hs
  refine ⟨?_, h2⟩
  have hg := blen_ge2 hm0
  obtain ⟨B, eB⟩ : ∃ B, blen m = B := ⟨_, rfl⟩
  rw [eB] at hb hb1 h1 h2 hg ⊢
  obtain ⟨e, ee⟩ : ∃ e, e0Of ((B : Int) + P) = e := ⟨_, rfl⟩
  rw [ee] at h1 h2 ⊢
  unfold upT upM
  have k : 2 ^ (B - 1) * 2 ^ P.toNat * 2 ^ (1 - ((B : Int) + P)).toNat = 2 ^ ((B : Int) + P - 1).toNat * 2 ^ (-P).toNat := by
    rw [← Nat.pow_add, ← Nat.pow_add, ← Nat.pow_add]
    congr 1
    omega
  apply Nat.le_of_mul_le_mul_right _ (Nat.two_pow_pos (1 - ((B : Int) + P)).toNat)
  have a1 := Nat.mul_le_mul_right (2 ^ (-P).toNat) h1
  have a2 := Nat.mul_le_mul_right (2 ^ P.toNat * 2 ^ (1 - ((B : Int) + P)).toNat * 10 ^ (-e).toNat) hg
  have a3 : 2 ^ ((B : Int) + P - 1).toNat * 10 ^ (-e).toNat * 2 ^ (-P).toNat = 2 ^ (B - 1) * (2 ^ P.toNat * 2 ^ (1 - ((B : Int) + P)).toNat * 10 ^ (-e).toNat) := by
    have q1 : 2 ^ ((B : Int) + P - 1).toNat * 10 ^ (-e).toNat * 2 ^ (-P).toNat = (2 ^ ((B : Int) + P - 1).toNat * 2 ^ (-P).toNat) * 10 ^ (-e).toNat := by ac_rfl
    rw [q1, ← k]
    ac_rfl
  rw [a3] at a1
  have a4 : 1 * 10 ^ e.toNat * 2 ^ (-P).toNat * 2 ^ (1 - ((B : Int) + P)).toNat = 10 ^ e.toNat * 2 ^ (1 - ((B : Int) + P)).toNat * 2 ^ (-P).toNat := by rw [Nat.one_mul]; ac_rfl
  have a5 : m * 10 ^ (-e).toNat * 2 ^ P.toNat * 2 ^ (1 - ((B : Int) + P)).toNat = m * (2 ^ P.toNat * 2 ^ (1 - ((B : Int) + P)).toNat * 10 ^ (-e).toNat) := by ac_rfl
  rw [a4, a5]
  exact Nat.le_trans a1 a2
end Go.Proofs.YtbengmceiaejeaaGreatDoor
