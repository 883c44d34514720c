/- Rounding rises with the number: plain facts. -/
import Derived.Test.YtbengmceiaejeaaGreatDoorWhole
namespace Go.Proofs.YtbengmceiaejeaaGreatDoor
open Ieee

/-- Half to even: n over 2^d. -/
def rndE (n g : Nat) : Nat := n / g + (moreW .even false (n / g) (n % g) g).toNat

/-- Rounding over one gap rises. -/
theorem rndE_mono {a b g : Nat} (h : a ≤ b) : rndE a g ≤ rndE b g := by
  have hq : a / g ≤ b / g := Nat.div_le_div_right h
  rcases Nat.lt_or_ge (a / g) (b / g) with hl | hge
  · have h1 : rndE a g ≤ a / g + 1 := by
      unfold rndE
      cases moreW .even false (a / g) (a % g) g <;> simp
    have h2 : b / g ≤ rndE b g := by unfold rndE; omega
    omega
  · have he : a / g = b / g := by omega
    have ha := Nat.div_add_mod a g
    have hb := Nat.div_add_mod b g
    have hm : a % g ≤ b % g := by rw [he] at ha; omega
    unfold rndE moreW
    rw [he]
    refine Nat.add_le_add_left ?_ _
    cases h1 : (decide (g < 2 * (a % g)) || (g == 2 * (a % g) && b / g % 2 == 1))
    · simp
    · have : (decide (g < 2 * (b % g)) || (g == 2 * (b % g) && b / g % 2 == 1)) = true := by
        simp at h1 ⊢
        rcases h1 with h1 | ⟨h1, h2⟩
        · left; omega
        · by_cases h3 : g < 2 * (b % g)
          · left; exact h3
          · right; exact ⟨by omega, h2⟩
      rw [this]
      exact Nat.le_refl 1

/-- Between whole multiples rounding stays. -/
theorem rndE_between {n g lo hi : Nat} (hg : 0 < g) (h1 : lo * g ≤ n) (h2 : n ≤ hi * g) : lo ≤ rndE n g ∧ rndE n g ≤ hi := by
  have e : ∀ k, rndE (k * g) g = k := by
    intro k
    unfold rndE
    rw [Nat.mul_div_cancel _ hg, Nat.mul_mod_left]
    have h3 : ¬ g < 2 * 0 := by omega
    have h4 : (g == 2 * 0) = false := by simp; omega
    simp only [moreW, decide_eq_false h3, h4, Bool.false_or, Bool.false_and, Bool.toNat_false, Nat.add_zero]
  have a := rndE_mono (g := g) h1
  have b := rndE_mono (g := g) h2
  rw [e] at a b
  exact ⟨a, b⟩

/-- The nearest word's rung of A units of 2^-(1074+D): the place of its last digit over 2^-1074. -/
def lastQ (A D : Nat) : Nat := A.log2 - (52 + D)

theorem shl_cut (m a b : Nat) : Toward.even.cut false (m <<< a) b = rndE (m * 2 ^ a) (2 ^ b) := by
  rw [cut_whole, Nat.shiftLeft_eq]
  rfl

theorem rndE_mul (n g c : Nat) (hc : 0 < c) : rndE (n * c) (g * c) = rndE n g := by
  unfold rndE moreW
  rw [Nat.mul_div_mul_right _ _ hc, Nat.mul_mod_mul_right]
  have c1 : decide (g * c < 2 * (n % g * c)) = decide (g < 2 * (n % g)) := by
    refine decide_eq_decide.2 ?_
    rw [← Nat.mul_assoc]
    exact ⟨fun h => Nat.lt_of_mul_lt_mul_right h, fun h => Nat.mul_lt_mul_of_pos_right h hc⟩
  have c2 : (g * c == 2 * (n % g * c)) = (g == 2 * (n % g)) := by
    rw [← Nat.mul_assoc]
    by_cases hg : g = 2 * (n % g)
    · rw [← hg, beq_self_eq_true, beq_self_eq_true]
    · have : ¬ g * c = 2 * (n % g) * c := fun h => hg (Nat.eq_of_mul_eq_mul_right hc h)
      rw [beq_eq_false_iff_ne.2 hg, beq_eq_false_iff_ne.2 this]
  simp only [c1, c2]

/-- The rung of mag * 2^place, spelt over a common unit: A = mag * 2^k units, place = k - 1074 - D. -/
theorem near_units {mag k D : Nat} (h0 : mag ≠ 0) : nearR mag ((k : Int) - 1074 - (D : Int)) = min (lastQ (mag * 2 ^ k) D * 4503599627370496 + rndE (mag * 2 ^ k) (2 ^ (lastQ (mag * 2 ^ k) D + D))) 9218868437227405312 := by
  rw [near_form mag h0, shl_cut]
  have hl := log2_mul_pow h0 k
  unfold lastQ
  rw [hl]
  obtain ⟨l, el⟩ : ∃ l, mag.log2 = l := ⟨_, rfl⟩
  rw [el]
  obtain ⟨q, eq⟩ : ∃ q, l + k - (52 + D) = q := ⟨_, rfl⟩
  rw [eq]
  have e1 : max ((k : Int) - 1074 - (D : Int) + l - 52) (-1074) = (q : Int) - 1074 := by omega
  rw [e1]
  have e2 : ((q : Int) - 1074 + 1074).toNat = q := by omega
  rw [e2]
  congr 2
  rcases Nat.le_total (q + D) k with h | h
  · have e3 : ((k : Int) - 1074 - (D : Int) - ((q : Int) - 1074)).toNat = k - (q + D) := by omega
    have e4 : ((q : Int) - 1074 - ((k : Int) - 1074 - (D : Int))).toNat = 0 := by omega
    rw [e3, e4]
    have e5 : 2 ^ k = 2 ^ (k - (q + D)) * 2 ^ (q + D) := by rw [← Nat.pow_add, Nat.sub_add_cancel h]
    have e6 := rndE_mul (mag * 2 ^ (k - (q + D))) (2 ^ 0) (2 ^ (q + D)) (Nat.two_pow_pos _)
    rw [Nat.pow_zero, Nat.one_mul, Nat.mul_assoc, ← e5] at e6
    rw [Nat.pow_zero]
    exact e6.symm
  · have e3 : ((k : Int) - 1074 - (D : Int) - ((q : Int) - 1074)).toNat = 0 := by omega
    have e4 : ((q : Int) - 1074 - ((k : Int) - 1074 - (D : Int))).toNat = q + D - k := by omega
    rw [e3, e4, Nat.pow_zero, Nat.mul_one]
    have e5 : 2 ^ (q + D) = 2 ^ (q + D - k) * 2 ^ k := by rw [← Nat.pow_add, Nat.sub_add_cancel h]
    rw [e5, rndE_mul _ _ _ (Nat.two_pow_pos _)]

/-- The rung as a function of the amount over a unit. -/
def rungOf (A D : Nat) : Nat := min (lastQ A D * 4503599627370496 + rndE A (2 ^ (lastQ A D + D))) 9218868437227405312

theorem rungOf_raw_mono {A B D : Nat} (hA : A ≠ 0) (h : A ≤ B) : lastQ A D * 4503599627370496 + rndE A (2 ^ (lastQ A D + D)) ≤ lastQ B D * 4503599627370496 + rndE B (2 ^ (lastQ B D + D)) := by
  have hB : B ≠ 0 := by omega
  have hl : A.log2 ≤ B.log2 := by
    rcases Nat.lt_or_ge B.log2 A.log2 with hc | hc
    · exfalso
      have h1 := log2_lo hA
      have h2 := log2_hi hB
      have h3 : 2 ^ (B.log2 + 1) ≤ 2 ^ A.log2 := Nat.pow_le_pow_right (by decide) (by omega)
      omega
    · exact hc
  have hq : lastQ A D ≤ lastQ B D := by unfold lastQ; omega
  rcases Nat.lt_or_ge (lastQ A D) (lastQ B D) with hlt | hge
  · -- A is below the binade of B
    have hAl : A.log2 < B.log2 := by unfold lastQ at hlt; omega
    have hBq : lastQ B D + (52 + D) = B.log2 := by unfold lastQ at *; omega
    have up : rndE A (2 ^ (lastQ A D + D)) ≤ 9007199254740992 := by
      refine (rndE_between (lo := 0) (Nat.two_pow_pos _) (by omega) ?_).2
      have h1 := log2_hi hA
      have h2 : (9007199254740992 : Nat) = 2 ^ 53 := by decide
      have h3 : 2 ^ (A.log2 + 1) ≤ 2 ^ 53 * 2 ^ (lastQ A D + D) := by
        rw [← Nat.pow_add]
        exact Nat.pow_le_pow_right (by decide) (by unfold lastQ; omega)
      rw [h2]
      omega
    have lo : 4503599627370496 ≤ rndE B (2 ^ (lastQ B D + D)) := by
      refine (rndE_between (hi := B) (Nat.two_pow_pos _) ?_ ?_).1
      · have h1 := log2_lo hB
        have h2 : (4503599627370496 : Nat) = 2 ^ 52 := by decide
        rw [h2, ← Nat.pow_add, show 52 + (lastQ B D + D) = B.log2 by omega]
        exact h1
      · exact Nat.le_mul_of_pos_right _ (Nat.two_pow_pos _)
    omega
  · have e : lastQ A D = lastQ B D := by omega
    rw [e]
    have := rndE_mono (g := 2 ^ (lastQ B D + D)) h
    omega

theorem rungOf_mono {A B D : Nat} (h : A ≤ B) : rungOf A D ≤ rungOf B D := by
  by_cases hA : A = 0
  · rw [hA]
    have : rungOf 0 D = 0 := by
      unfold rungOf lastQ rndE
      simp [moreW]
    rw [this]
    exact Nat.zero_le _
  · have := rungOf_raw_mono (D := D) hA h
    unfold rungOf
    omega

theorem near_rungOf {mag k D : Nat} : nearR mag ((k : Int) - 1074 - (D : Int)) = rungOf (mag * 2 ^ k) D := by
  by_cases h0 : mag = 0
  · rw [h0, nearR_zero, Nat.zero_mul]
    unfold rungOf lastQ rndE
    simp [moreW]
  · exact near_units h0
end Go.Proofs.YtbengmceiaejeaaGreatDoor
