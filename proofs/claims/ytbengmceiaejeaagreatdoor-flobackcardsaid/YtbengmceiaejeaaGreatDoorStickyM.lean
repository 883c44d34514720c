/- Rounding looks at no more than the digits down to the half and at whether anything is left. -/
import Derived.Test.YtbengmceiaejeaaGreatDoorNear3
namespace Go.Proofs.YtbengmceiaejeaaGreatDoor
open Ieee

theorem mod_unit (N e x d : Nat) (hx : x < 2 ^ e) : (N * 2 ^ e + x) / 2 ^ (d + e) = N / 2 ^ d ∧ (N * 2 ^ e + x) % 2 ^ (d + e) = N % 2 ^ d * 2 ^ e + x := by
  have hp := Nat.two_pow_pos e
  have e1 : (N * 2 ^ e + x) / 2 ^ e = N := by rw [Nat.add_comm, Nat.add_mul_div_right _ _ hp, Nat.div_eq_of_lt hx, Nat.zero_add]
  have e2 : (N * 2 ^ e + x) % 2 ^ e = x := by rw [Nat.add_comm, Nat.add_mul_mod_self_right, Nat.mod_eq_of_lt hx]
  have h1 : (N * 2 ^ e + x) / 2 ^ (d + e) = N / 2 ^ d := by
    rw [Nat.add_comm d e, Nat.pow_add, ← Nat.div_div_eq_div_mul, e1]
  refine ⟨h1, ?_⟩
  have h2 : (N * 2 ^ e + x) % 2 ^ (e + d) = x + 2 ^ e * (N % 2 ^ d) := by
    rw [Nat.pow_add, Nat.mod_mul, e1, e2]
  rw [Nat.add_comm d e, h2, Nat.mul_comm (2 ^ e), Nat.add_comm]

theorem rnd_sticky {N e x y d : Nat} (hd : 1 ≤ d) (hx0 : 0 < x) (hx : x < 2 ^ e) (hy0 : 0 < y) (hy : y < 2 ^ e) : rndE (N * 2 ^ e + x) (2 ^ (d + e)) = rndE (N * 2 ^ e + y) (2 ^ (d + e)) := by
  obtain ⟨a1, a2⟩ := mod_unit N e x d hx
  obtain ⟨b1, b2⟩ := mod_unit N e y d hy
  unfold rndE
  rw [a1, a2, b1, b2]
  congr 2
  unfold moreW
  obtain ⟨c, rfl⟩ : ∃ c, d = c + 1 := ⟨d - 1, by omega⟩
  have hg : 2 ^ (c + 1 + e) = 2 * (2 ^ c * 2 ^ e) := by rw [Nat.pow_add, Nat.pow_succ, Nat.mul_right_comm, Nat.mul_comm]
  rw [hg]
  obtain ⟨r, er⟩ : ∃ r, N % 2 ^ (c + 1) = r := ⟨_, rfl⟩
  rw [er]
  obtain ⟨G, eG⟩ : ∃ G, 2 ^ e = G := ⟨_, rfl⟩
  obtain ⟨H, eH⟩ : ∃ H, 2 ^ c = H := ⟨_, rfl⟩
  rw [eG] at hx hy ⊢
  rw [eH]
  clear a1 a2 b1 b2 hg er eG eH
  have key : ∀ z, 0 < z → z < G → (2 * (H * G) < 2 * (r * G + z) ↔ H ≤ r) ∧ 2 * (H * G) ≠ 2 * (r * G + z) := by
    intro z h0 h1
    rcases Nat.lt_or_ge r H with h | h
    · have := Nat.mul_le_mul_right G (show r + 1 ≤ H by omega)
      rw [Nat.add_mul, Nat.one_mul] at this
      exact ⟨⟨fun _ => by omega, fun _ => by omega⟩, by omega⟩
    · have := Nat.mul_le_mul_right G h
      exact ⟨⟨fun _ => h, fun _ => by omega⟩, by omega⟩
  obtain ⟨kx, nx⟩ := key x hx0 hx
  obtain ⟨ky, ny⟩ := key y hy0 hy
  have e1 : (2 * (H * G) == 2 * (r * G + x)) = false := beq_eq_false_iff_ne.2 nx
  have e2 : (2 * (H * G) == 2 * (r * G + y)) = false := beq_eq_false_iff_ne.2 ny
  simp only [e1, e2, Bool.false_and, Bool.or_false]
  exact decide_eq_decide.2 (kx.trans ky.symm)

theorem log2_unit {N e x : Nat} (hN : N ≠ 0) (hx : x < 2 ^ e) : (N * 2 ^ e + x).log2 = N.log2 + e := by
  refine log2_iff ?_ ?_
  · rw [Nat.pow_add]
    have := Nat.mul_le_mul_right (2 ^ e) (log2_lo hN)
    omega
  · have := Nat.mul_le_mul_right (2 ^ e) (show N + 1 ≤ 2 ^ (N.log2 + 1) from log2_hi hN)
    rw [Nat.add_mul, Nat.one_mul, ← Nat.pow_add] at this
    rw [show N.log2 + e + 1 = N.log2 + 1 + e by omega]
    omega

/-- Two numbers that part only below the half of the last digit that is kept, with something left in both. -/
theorem near_sticky {N e x y : Nat} (P : Int) (hN : 9007199254740992 ≤ N) (hx0 : 0 < x) (hx : x < 2 ^ e) (hy0 : 0 < y) (hy : y < 2 ^ e) : nearR (N * 2 ^ e + x) P = nearR (N * 2 ^ e + y) P := by
  have hN0 : N ≠ 0 := by omega
  have lx := log2_unit hN0 hx
  have ly := log2_unit hN0 hy
  have h53 : 53 ≤ N.log2 := (Nat.le_log2 hN0).2 (by omega)
  have hX : N * 2 ^ e + x ≠ 0 := by omega
  have hY : N * 2 ^ e + y ≠ 0 := by omega
  rw [near_pack hX, near_pack hY]
  have el : lastP (N * 2 ^ e + x) P = lastP (N * 2 ^ e + y) P := by unfold lastP; rw [lx, ly]
  have ek : keptN (N * 2 ^ e + x) P = keptN (N * 2 ^ e + y) P := by
    unfold keptN
    rw [el]
    have hl : P + (N.log2 : Int) + e - 52 ≤ lastP (N * 2 ^ e + y) P := by unfold lastP; rw [ly]; omega
    have e1 : (P - lastP (N * 2 ^ e + y) P).toNat = 0 := by omega
    obtain ⟨d, ed⟩ : ∃ d, (lastP (N * 2 ^ e + y) P - P).toNat = d + e := ⟨(lastP (N * 2 ^ e + y) P - P).toNat - e, by omega⟩
    rw [e1, ed, Nat.pow_zero, Nat.mul_one, Nat.mul_one]
    exact rnd_sticky (by omega) hx0 hx hy0 hy
  rw [el, ek]

/-- A number and its place may be moved. -/
theorem near_shift (M k : Nat) (P : Int) : nearR (M * 2 ^ k) P = nearR M (P + k) := by
  by_cases h0 : M = 0
  · rw [h0, Nat.zero_mul, nearR_zero, nearR_zero]
  · have h1 : M * 2 ^ k ≠ 0 := Nat.mul_ne_zero h0 (Nat.ne_of_gt (Nat.two_pow_pos k))
    rw [near_pack h1, near_pack h0]
    have hl := log2_mul_pow h0 k
    have el : lastP (M * 2 ^ k) P = lastP M (P + k) := by unfold lastP; rw [hl]; congr 1; omega
    have ek : keptN (M * 2 ^ k) P = keptN M (P + k) := by
      unfold keptN
      rw [el]
      obtain ⟨q, eq⟩ : ∃ q, lastP M (P + k) = q := ⟨_, rfl⟩
      rw [eq]
      rcases Int.le_total q P with h | h
      · have e1 : (q - P).toNat = 0 := by omega
        have e2 : (q - (P + (k : Int))).toNat = 0 := by omega
        have e3 : (P + (k : Int) - q).toNat = k + (P - q).toNat := by omega
        rw [e1, e2, e3, Nat.pow_add, Nat.mul_assoc]
      · rcases Int.le_total q (P + k) with h2 | h2
        · have e1 : (P - q).toNat = 0 := by omega
          have e2 : (q - (P + (k : Int))).toNat = 0 := by omega
          obtain ⟨a, ea⟩ : ∃ a, (P + (k : Int) - q).toNat = a := ⟨_, rfl⟩
          obtain ⟨b, eb⟩ : ∃ b, (q - P).toNat = b := ⟨_, rfl⟩
          rw [e1, e2, ea, eb, show k = a + b by omega, Nat.pow_zero, Nat.mul_one]
          have := rndE_mul (M * 2 ^ a) (2 ^ 0) (2 ^ b) (Nat.two_pow_pos b)
          rw [Nat.pow_zero, Nat.one_mul, Nat.mul_assoc, ← Nat.pow_add] at this
          exact this
        · have e1 : (P - q).toNat = 0 := by omega
          have e2 : (P + (k : Int) - q).toNat = 0 := by omega
          obtain ⟨a, ea⟩ : ∃ a, (q - (P + (k : Int))).toNat = a := ⟨_, rfl⟩
          rw [e1, e2, ea, show (q - P).toNat = a + k by omega, Nat.pow_zero, Nat.mul_one, Nat.mul_one, Nat.pow_add]
          exact rndE_mul M (2 ^ a) (2 ^ k) (Nat.two_pow_pos k)
    rw [el, ek]

/-- The two ways to a quotient's nearest word: few digits with one that tells of a rest, or many. -/
theorem near_quotient {m n a : Nat} (c : Int) (hm : m ≠ 0) (hn : 0 < n) (ha : 54 + n.log2 ≤ a + m.log2) (hb : a ≤ 128) :
    nearR (2 * (m * 2 ^ a / n) + (m * 2 ^ a % n != 0).toNat) (c - a - 1) =
    if m * 2 ^ 128 % n = 0 then nearR (m * 2 ^ 128 / n) (c - 128) else nearR (4 * (m * 2 ^ 128 / n) + 1) (c - 128 - 2) := by
  obtain ⟨f, ef⟩ : ∃ f, 128 = a + f := ⟨128 - a, by omega⟩
  have hp := Nat.two_pow_pos f
  have hQ : m * 2 ^ 128 / n / 2 ^ f = m * 2 ^ a / n := by
    rw [ef, Nat.pow_add, ← Nat.mul_assoc, Nat.div_div_eq_div_mul, Nat.mul_comm n, ← Nat.div_div_eq_div_mul, Nat.mul_div_cancel _ hp]
  have hD := Nat.div_add_mod (m * 2 ^ 128) n
  have hd := Nat.div_add_mod (m * 2 ^ a) n
  have hM : m * 2 ^ 128 = m * 2 ^ a * 2 ^ f := by rw [ef, Nat.pow_add, Nat.mul_assoc]
  have hq : 9007199254740992 ≤ m * 2 ^ a / n := by
    rw [Nat.le_div_iff_mul_le hn]
    have h1 := log2_hi (Nat.ne_of_gt hn)
    have h2 := Nat.mul_le_mul_right (2 ^ a) (log2_lo hm)
    rw [← Nat.pow_add] at h2
    have h3 : 2 ^ 53 * 2 ^ (n.log2 + 1) ≤ 2 ^ (m.log2 + a) := by
      rw [← Nat.pow_add]
      exact Nat.pow_le_pow_right (by decide) (by omega)
    have h4 : 2 ^ 53 * n ≤ 2 ^ 53 * 2 ^ (n.log2 + 1) := Nat.mul_le_mul_left _ (by omega)
    have h5 : (9007199254740992 : Nat) = 2 ^ 53 := by decide
    rw [h5]
    omega
  have hs := Nat.div_add_mod (m * 2 ^ 128 / n) (2 ^ f)
  rw [hQ] at hs
  have hlt : m * 2 ^ 128 / n % 2 ^ f < 2 ^ f := Nat.mod_lt _ hp
  obtain ⟨Q, eQ⟩ : ∃ Q, m * 2 ^ 128 / n = Q := ⟨_, rfl⟩
  obtain ⟨q, eq⟩ : ∃ q, m * 2 ^ a / n = q := ⟨_, rfl⟩
  obtain ⟨s, es⟩ : ∃ s, Q % 2 ^ f = s := ⟨_, rfl⟩
  rw [eQ] at hs hlt hD
  rw [eq] at hs hq hd
  rw [es] at hs hlt
  rw [eQ, eq]
  have c1 : c - 128 = c - 130 + ((2 : Nat) : Int) := by omega
  have c2 : c - 128 - 2 = c - 130 := by omega
  have c3 : c - (a : Int) - 1 = c - 130 + ((f + 1 : Nat) : Int) := by omega
  have p1 : 2 ^ (f + 2) = 4 * 2 ^ f := by rw [Nat.pow_add, Nat.mul_comm]
  have p2 : 2 ^ (f + 1) = 2 * 2 ^ f := by rw [Nat.pow_succ, Nat.mul_comm]
  rw [c2, c1, c3, ← near_shift, ← near_shift]
  by_cases h0 : m * 2 ^ a % n = 0
  · have hR : m * 2 ^ 128 % n = 0 := by
      rw [hM]
      exact Nat.mod_eq_zero_of_dvd (Nat.dvd_mul_right_of_dvd (Nat.dvd_of_mod_eq_zero h0) _)
    rw [if_pos hR, h0]
    have hs0 : s = 0 := by
      have h6 : n * Q = n * (q * 2 ^ f) := by rw [hR, Nat.add_zero] at hD; rw [h0, Nat.add_zero] at hd; rw [hD, hM, ← hd, Nat.mul_assoc]
      have h7 := Nat.eq_of_mul_eq_mul_left hn h6
      have h8 : 2 ^ f * q = q * 2 ^ f := Nat.mul_comm _ _
      omega
    have e1 : (2 * q + ((0 : Nat) != 0).toNat) * 2 ^ (f + 1) = Q * 2 ^ 2 := by
      have z : ((0 : Nat) != 0).toNat = 0 := rfl
      rw [z, Nat.add_zero, p2, ← hs, hs0, Nat.add_zero, Nat.mul_comm (2 ^ f) q, Nat.mul_mul_mul_comm, Nat.mul_comm (2 * 2)]
    rw [e1]
  · have z : (m * 2 ^ a % n != 0).toNat = 1 := by
      have : (m * 2 ^ a % n != 0) = true := bne_iff_ne.2 h0
      rw [this]; rfl
    rw [z]
    have e1 : (2 * q + 1) * 2 ^ (f + 1) = q * 2 ^ (f + 2) + 2 ^ (f + 1) := by
      rw [Nat.add_mul, Nat.one_mul, Nat.mul_comm 2 q, Nat.mul_assoc, ← Nat.pow_succ']
    have l1 : 2 ^ (f + 1) < 2 ^ (f + 2) := Nat.pow_lt_pow_right (by decide) (by omega)
    have l0 : 0 < 2 ^ (f + 1) := Nat.two_pow_pos _
    rw [e1]
    by_cases hR : m * 2 ^ 128 % n = 0
    · rw [if_pos hR]
      have hs0 : s ≠ 0 := by
        intro hs0
        apply h0
        rw [hs0, Nat.add_zero] at hs
        rw [hR, Nat.add_zero, hM, ← hs, Nat.mul_comm (2 ^ f) q, ← Nat.mul_assoc] at hD
        have := Nat.eq_of_mul_eq_mul_right hp hD
        rw [← this]
        exact Nat.mul_mod_right _ _
      have e2 : Q * 2 ^ 2 = q * 2 ^ (f + 2) + 4 * s := by
        rw [← hs, Nat.add_mul, Nat.pow_add, Nat.mul_comm (2 ^ f) q, Nat.mul_assoc, Nat.mul_comm s]
      rw [e2]
      exact near_sticky _ hq l0 l1 (by omega) (by omega)
    · rw [if_neg hR]
      have e2 : 4 * Q + 1 = q * 2 ^ (f + 2) + (4 * s + 1) := by
        rw [← hs, Nat.mul_add, p1, Nat.mul_comm (2 ^ f) q, Nat.mul_left_comm]
        omega
      rw [e2]
      exact near_sticky _ hq l0 l1 (by omega) (by omega)
end Go.Proofs.YtbengmceiaejeaaGreatDoor
