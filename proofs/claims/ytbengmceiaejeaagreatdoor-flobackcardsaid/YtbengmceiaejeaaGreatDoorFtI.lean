/- Which numbers have a word as their nearest one. -/
import Derived.Test.YtbengmceiaejeaaGreatDoorNear5
import Derived.Test.YtbengmceiaejeaaGreatDoorFtF
namespace Go.Proofs.YtbengmceiaejeaaGreatDoor
open Ieee

/-- Twice n lies within g of twice c g; on the borders only if c is even. -/
def InR (n g c : Nat) : Prop := (2 * (c * g) ≤ 2 * n + g ∧ 2 * n ≤ 2 * (c * g) + g) ∧ (c % 2 = 1 → 2 * (c * g) ≠ 2 * n + g ∧ 2 * n ≠ 2 * (c * g) + g)

theorem rndE_inR {n g : Nat} (hg : 0 < g) : InR n g (rndE n g) := by
  have hdm := Nat.div_add_mod n g
  have hmod := Nat.mod_lt n hg
  have hc := rndE_cases n g
  obtain ⟨k, ek⟩ : ∃ k, n / g = k := ⟨_, rfl⟩
  obtain ⟨r, er⟩ : ∃ r, n % g = r := ⟨_, rfl⟩
  rw [ek, er] at hdm hc
  rw [er] at hmod
  rw [Nat.mul_comm] at hdm
  have e1 : (k + 1) * g = k * g + g := by rw [Nat.add_mul, Nat.one_mul]
  unfold InR
  rcases hc with ⟨h1, h2⟩ | ⟨h1, h3, h2⟩ | ⟨h1, h3, h2⟩ | ⟨h1, h2⟩
  · have : g < r * 2 ^ 1 := by
      rcases Nat.lt_trichotomy (r * 2 ^ 1) g with h | h | h
      · rw [cmpN_lt h] at h1; cases h1
      · rw [cmpN_eq h] at h1; cases h1
      · exact h
    rw [h2, e1]
    omega
  · have : r * 2 ^ 1 = g := by
      rcases Nat.lt_trichotomy (r * 2 ^ 1) g with h | h | h
      · rw [cmpN_lt h] at h1; cases h1
      · exact h
      · rw [cmpN_gt h] at h1; cases h1
    rw [h2, e1]
    omega
  · have : r * 2 ^ 1 = g := by
      rcases Nat.lt_trichotomy (r * 2 ^ 1) g with h | h | h
      · rw [cmpN_lt h] at h1; cases h1
      · exact h
      · rw [cmpN_gt h] at h1; cases h1
    rw [h2]
    omega
  · have : r * 2 ^ 1 < g := by
      rcases Nat.lt_trichotomy (r * 2 ^ 1) g with h | h | h
      · exact h
      · rw [cmpN_eq h] at h1; cases h1
      · rw [cmpN_gt h] at h1; cases h1
    rw [h2]
    omega

theorem inR_one {n g a b : Nat} (hg : 0 < g) (ha : InR n g a) (hb : InR n g b) : a = b := by
  have key : ∀ x y, InR n g x → InR n g y → ¬ x < y := by
    intro x y hx hy hlt
    obtain ⟨⟨x1, x2⟩, x3⟩ := hx
    obtain ⟨⟨y1, y2⟩, y3⟩ := hy
    have h1 : (x + 1) * g ≤ y * g := Nat.mul_le_mul_right _ hlt
    have e1 : (x + 1) * g = x * g + g := by rw [Nat.add_mul, Nat.one_mul]
    rcases Nat.lt_or_ge (x + 1) y with h2 | h2
    · have h3 : (x + 2) * g ≤ y * g := Nat.mul_le_mul_right _ h2
      have e2 : (x + 2) * g = x * g + 2 * g := by rw [Nat.add_mul]
      omega
    · have e : y = x + 1 := by omega
      subst e
      rcases Nat.mod_two_eq_zero_or_one x with h4 | h4
      · have := y3 (by omega)
        omega
      · have := x3 h4
        omega
  have := key a b ha hb
  have := key b a hb ha
  omega

theorem rndE_iff {n g c : Nat} (hg : 0 < g) : rndE n g = c ↔ InR n g c :=
  ⟨fun h => h ▸ rndE_inR hg, fun h => inR_one hg (rndE_inR hg) h⟩

/-- Four times the lower border, in units of the last place. -/
def lowY (m Q : Nat) : Nat := if m = 4503599627370496 ∧ 0 < Q then 4 * m - 1 else 4 * m - 2

/-- Is A over B, times four, within the borders of m? -/
def InW (m Q B A4 : Nat) : Prop := (lowY m Q * B ≤ A4 ∧ A4 ≤ (4 * m + 2) * B) ∧ (m % 2 = 1 → lowY m Q * B ≠ A4 ∧ A4 ≠ (4 * m + 2) * B)


/-- Below the binade: only the least number of the binade can be meant, and from just below it. -/
theorem rung_skew {A b : Nat} (hA : A < 4503599627370496 * (2 * b)) (hb : 0 < b) : rndE A b = 9007199254740992 ↔ 18014398509481983 * (2 * b) ≤ 4 * A := by
  rw [rndE_iff hb]
  unfold InR
  constructor
  · rintro ⟨⟨h1, _⟩, _⟩
    omega
  · intro h
    exact ⟨⟨by omega, by omega⟩, fun ho => by simp at ho⟩

theorem inW_skew {Q B A : Nat} (hQ : 0 < Q) (hA : A < 4503599627370496 * B) : InW 4503599627370496 Q B (4 * A) ↔ 18014398509481983 * B ≤ 4 * A := by
  have hlow : lowY 4503599627370496 Q = 18014398509481983 := by unfold lowY; rw [if_pos ⟨rfl, hQ⟩]
  unfold InW
  rw [hlow]
  constructor
  · rintro ⟨⟨h1, _⟩, _⟩
    exact h1
  · intro h
    exact ⟨⟨h, by omega⟩, fun ho => by simp at ho⟩

theorem log_q {A D l : Nat} (el : A.log2 = l) : lastQ A D = l - (52 + D) := by unfold lastQ; rw [el]

theorem rung_raw {A D Q m R x : Nat} (e : rungOf A D = min (R * 4503599627370496 + x) 9218868437227405312) (hf : Q * 4503599627370496 + m < 9218868437227405312) : rungOf A D = Q * 4503599627370496 + m ↔ R * 4503599627370496 + x = Q * 4503599627370496 + m := by
  rw [e]
  constructor <;> intro h <;> omega

theorem rung_above {A D Q m : Nat} (hA : A ≠ 0) (hm : m < 9007199254740992) (hf : Q * 4503599627370496 + m < 9218868437227405312) (hgt : Q < lastQ A D) : rungOf A D ≠ Q * 4503599627370496 + m ∧ ¬ InW m Q (2 ^ (Q + D)) (4 * A) := by
  have hl1 := log2_lo hA
  obtain ⟨l, el⟩ : ∃ l, A.log2 = l := ⟨_, rfl⟩
  rw [el] at hl1
  rw [log_q el] at hgt
  have h52 : (4503599627370496 : Nat) = 2 ^ 52 := by decide
  have h53 : (9007199254740992 : Nat) = 2 ^ 53 := by decide
  constructor
  · intro h
    have e : rungOf A D = min ((l - (52 + D)) * 4503599627370496 + rndE A (2 ^ (l - (52 + D) + D))) 9218868437227405312 := by unfold rungOf; rw [log_q el]
    have h2 := (rung_raw e hf).1 h
    have hrb : 4503599627370496 ≤ rndE A (2 ^ (l - (52 + D) + D)) := by
      refine (rndE_between (hi := A) (Nat.two_pow_pos _) ?_ (Nat.le_mul_of_pos_right _ (Nat.two_pow_pos _))).1
      rw [h52, ← Nat.pow_add]
      have : 2 ^ (52 + (l - (52 + D) + D)) ≤ 2 ^ l := Nat.pow_le_pow_right (by decide) (by omega)
      omega
    generalize rndE A (2 ^ (l - (52 + D) + D)) = x at h2 hrb
    generalize l - (52 + D) = R at h2 hgt
    clear hl1 e h el
    omega
  · intro h
    have hA53 : 9007199254740992 * 2 ^ (Q + D) ≤ A := by
      rw [h53, ← Nat.pow_add]
      have : 2 ^ (53 + (Q + D)) ≤ 2 ^ l := Nat.pow_le_pow_right (by decide) (by omega)
      omega
    obtain ⟨⟨_, h2⟩, _⟩ := h
    generalize 2 ^ (Q + D) = B at hA53 h2
    have hB : 0 < B ∨ B = 0 := by omega
    have e4 : (4 * m + 2) * B = 4 * (m * B) + 2 * B := by rw [Nat.add_mul, Nat.mul_assoc]
    have hmB2 : m * B + B ≤ 9007199254740992 * B := by
      have := Nat.mul_le_mul_right B (show m + 1 ≤ 9007199254740992 from hm)
      rw [Nat.add_mul, Nat.one_mul] at this
      exact this
    rcases hB with hB | hB
    · rw [e4] at h2
      generalize m * B = mB at h2 hmB2
      omega
    · subst hB
      simp at h2
      omega

theorem rung_at {A D Q m : Nat} (hA : A ≠ 0) (hf : Q * 4503599627370496 + m < 9218868437227405312) (hm0 : 0 < m) (heq : lastQ A D = Q) : rungOf A D = Q * 4503599627370496 + m ↔ InW m Q (2 ^ (Q + D)) (4 * A) := by
  have hl1 := log2_lo hA
  obtain ⟨l, el⟩ : ∃ l, A.log2 = l := ⟨_, rfl⟩
  rw [el] at hl1
  have hB : 0 < 2 ^ (Q + D) := Nat.two_pow_pos _
  have e : rungOf A D = min (Q * 4503599627370496 + rndE A (2 ^ (Q + D))) 9218868437227405312 := by unfold rungOf; rw [heq]
  rw [log_q el] at heq
  have h52 : (4503599627370496 : Nat) = 2 ^ 52 := by decide
  have hAB : 0 < Q → 4503599627370496 * 2 ^ (Q + D) ≤ A := by
    intro hQ
    rw [h52, ← Nat.pow_add]
    have : 2 ^ (52 + (Q + D)) ≤ 2 ^ l := Nat.pow_le_pow_right (by decide) (by omega)
    omega
  have hr : rungOf A D = Q * 4503599627370496 + m ↔ rndE A (2 ^ (Q + D)) = m := by
    rw [rung_raw e hf]
    constructor <;> intro h <;> omega
  rw [hr, rndE_iff hB]
  clear hr e heq hl1 el hf
  generalize 2 ^ (Q + D) = B at hB hAB
  have e4 : (4 * m + 2) * B = 4 * (m * B) + 2 * B := by rw [Nat.add_mul, Nat.mul_assoc]
  have e42 : (4 * m - 2) * B = 4 * (m * B) - 2 * B := by rw [Nat.sub_mul, Nat.mul_assoc]
  have e41 : (4 * m - 1) * B = 4 * (m * B) - B := by rw [Nat.sub_mul, Nat.mul_assoc, Nat.one_mul]
  have hmB : B ≤ m * B := Nat.le_mul_of_pos_left _ hm0
  unfold InR InW
  by_cases hs : m = 4503599627370496 ∧ 0 < Q
  · have hlow : lowY m Q = 4 * m - 1 := by unfold lowY; rw [if_pos hs]
    have hAB2 := hAB hs.2
    have hodd : ¬ m % 2 = 1 := by rw [hs.1]; decide
    rw [hlow, e4, e41]
    rw [← hs.1] at hAB2
    generalize m * B = mB at hAB2 hmB
    clear hs hlow e4 e42 e41 hAB h52
    constructor
    · rintro ⟨⟨h1, h2⟩, _⟩
      exact ⟨⟨by omega, by omega⟩, fun ho => absurd ho hodd⟩
    · rintro ⟨⟨h1, h2⟩, _⟩
      exact ⟨⟨by omega, by omega⟩, fun ho => absurd ho hodd⟩
  · have hlow : lowY m Q = 4 * m - 2 := by unfold lowY; rw [if_neg hs]
    rw [hlow, e4, e42]
    generalize m * B = mB at hmB
    clear hs hlow e4 e42 e41 hAB h52
    constructor
    · rintro ⟨⟨h1, h2⟩, h3⟩
      refine ⟨⟨by omega, by omega⟩, fun ho => ?_⟩
      obtain ⟨h4, h5⟩ := h3 ho
      exact ⟨by omega, by omega⟩
    · rintro ⟨⟨h1, h2⟩, h3⟩
      refine ⟨⟨by omega, by omega⟩, fun ho => ?_⟩
      obtain ⟨h4, h5⟩ := h3 ho
      exact ⟨by omega, by omega⟩

theorem rung_below {A D Q m : Nat} (hA : A ≠ 0) (hmq : 4503599627370496 ≤ m) (hf : Q * 4503599627370496 + m < 9218868437227405312) (hlt : lastQ A D < Q) : rungOf A D = Q * 4503599627370496 + m ↔ InW m Q (2 ^ (Q + D)) (4 * A) := by
  have hl2 := log2_hi hA
  obtain ⟨l, el⟩ : ∃ l, A.log2 = l := ⟨_, rfl⟩
  rw [el] at hl2
  have hq := log_q (D := D) el
  have e : rungOf A D = min (lastQ A D * 4503599627370496 + rndE A (2 ^ (lastQ A D + D))) 9218868437227405312 := rfl
  obtain ⟨R, eR⟩ : ∃ R, lastQ A D = R := ⟨_, rfl⟩
  rw [eR] at e hlt hq
  have h52 : (4503599627370496 : Nat) = 2 ^ 52 := by decide
  have h53 : (9007199254740992 : Nat) = 2 ^ 53 := by decide
  have hA52 : A < 4503599627370496 * 2 ^ (Q + D) := by
    rw [h52, ← Nat.pow_add]
    exact Nat.lt_of_lt_of_le hl2 (Nat.pow_le_pow_right (by decide) (by omega))
  have hrb : rndE A (2 ^ (R + D)) ≤ 9007199254740992 := by
    refine (rndE_between (lo := 0) (Nat.two_pow_pos _) (by omega) ?_).2
    rw [h53, ← Nat.pow_add]
    have : 2 ^ (l + 1) ≤ 2 ^ (53 + (R + D)) := Nat.pow_le_pow_right (by decide) (by omega)
    omega
  rw [rung_raw e hf]
  by_cases hs : m = 4503599627370496
  · subst hs
    rw [inW_skew (by omega) hA52]
    by_cases hRQ : R + 1 = Q
    · have hBb : 2 ^ (Q + D) = 2 * 2 ^ (R + D) := by rw [show Q + D = (R + D) + 1 by omega, Nat.pow_succ, Nat.mul_comm]
      rw [hBb] at hA52 ⊢
      rw [← rung_skew hA52 (Nat.two_pow_pos _)]
      generalize rndE A (2 ^ (R + D)) = x at hrb
      clear hl2 el hq e eR hA52 hBb hA
      subst hRQ
      constructor <;> intro h <;> omega
    · constructor
      · intro h
        exfalso
        generalize rndE A (2 ^ (R + D)) = x at hrb h
        clear hl2 el hq e eR hA52 hA
        omega
      · intro h
        exfalso
        have hA51 : 2 * A < 4503599627370496 * 2 ^ (Q + D) := by
          have h1 : 2 * A < 2 ^ (l + 2) := by rw [Nat.pow_succ, Nat.mul_comm]; omega
          rw [h52, ← Nat.pow_add]
          exact Nat.lt_of_lt_of_le h1 (Nat.pow_le_pow_right (by decide) (by omega))
        have hB := Nat.two_pow_pos (Q + D)
        generalize 2 ^ (Q + D) = B at h hA51 hB
        clear hl2 el hq e eR hA52 hrb hA
        omega
  · constructor
    · intro h
      exfalso
      generalize rndE A (2 ^ (R + D)) = x at hrb h
      clear hl2 el hq e eR hA52 hA
      omega
    · rintro ⟨⟨h1, _⟩, _⟩
      exfalso
      have hlow : lowY m Q = 4 * m - 2 := by unfold lowY; rw [if_neg (fun h => hs h.1)]
      rw [hlow, Nat.sub_mul, Nat.mul_assoc] at h1
      have hB := Nat.two_pow_pos (Q + D)
      generalize 2 ^ (Q + D) = B at h1 hA52 hB
      have hmB2 : 4503599627370497 * B ≤ m * B := Nat.mul_le_mul_right _ (by omega)
      generalize m * B = mB at h1 hmB2
      clear hl2 el hq e eR hrb hlow
      omega

theorem rungOf_iff {A D Q m : Nat} (hA : A ≠ 0) (hm0 : 0 < m) (hm : m < 9007199254740992) (hQ : Q = 0 ∨ 4503599627370496 ≤ m) (hf : Q * 4503599627370496 + m < 9218868437227405312) :
    rungOf A D = Q * 4503599627370496 + m ↔ InW m Q (2 ^ (Q + D)) (4 * A) := by
  rcases Nat.lt_trichotomy (lastQ A D) Q with hlt | heq | hgt
  · exact rung_below hA (by rcases hQ with h | h <;> omega) hf hlt
  · exact rung_at hA hf hm0 heq
  · have h := rung_above hA hm hf hgt
    exact ⟨fun h1 => absurd h1 h.1, fun h1 => absurd h1 h.2⟩
end Go.Proofs.YtbengmceiaejeaaGreatDoor
/- The numbers that are read as one real, in units of a power of ten. -/
namespace Go.Proofs.YtbengmceiaejeaaGreatDoor

def widOK (q : Int) : Bool :=
  denM q (l10 q) ≤ numA q (l10 q) && numA q (l10 q) < 10 * denM q (l10 q) && 4 * denM q (skw q) ≤ 3 * numA q (skw q) && 3 * numA q (skw q) < 40 * denM q (skw q)

theorem wid_all : (List.range 2046).all (fun i => widOK ((i : Int) - 1074)) = true := by decide +kernel

theorem wid_of (q : Int) (h1 : -1074 ≤ q) (h2 : q ≤ 971) : widOK q = true := by
  have := List.all_eq_true.1 wid_all (q + 1074).toNat (List.mem_range.2 (by omega))
  rw [show (((q + 1074).toNat : Nat) : Int) - 1074 = q by omega] at this
  exact this

theorem wid_least : (49 * denM (((0 : Nat) : Int) - 1074) (l10 (((0 : Nat) : Int) - 1074)) ≤ 10 * numA (((0 : Nat) : Int) - 1074) (l10 (((0 : Nat) : Int) - 1074)) && 10 * numA (((0 : Nat) : Int) - 1074) (l10 (((0 : Nat) : Int) - 1074)) < 50 * denM (((0 : Nat) : Int) - 1074) (l10 (((0 : Nat) : Int) - 1074))) = true := by decide +kernel

theorem den_pos (q K : Int) : 0 < denM q K := by
  unfold denM
  exact Nat.mul_pos (Nat.pow_pos (by decide)) (Nat.two_pow_pos _)

theorem num_pos (q K : Int) : 0 < numA q K := by
  unfold numA
  exact Nat.mul_pos (Nat.pow_pos (by decide)) (Nat.two_pow_pos _)

/-- Is d units read as the real? -/
def inI (m Q A M d : Nat) : Bool := decide (lowY m Q * A ≤ 4 * M * d) && decide (4 * M * d ≤ (4 * m + 2) * A) && (m % 2 == 0 || (lowY m Q * A != 4 * M * d && 4 * M * d != (4 * m + 2) * A))

theorem inI_iff (m Q A M d : Nat) : inI m Q A M d = true ↔ (lowY m Q * A ≤ 4 * M * d ∧ 4 * M * d ≤ (4 * m + 2) * A) ∧ (m % 2 = 1 → lowY m Q * A ≠ 4 * M * d ∧ 4 * M * d ≠ (4 * m + 2) * A) := by
  unfold inI
  simp only [Bool.and_eq_true, Bool.or_eq_true, decide_eq_true_eq, beq_iff_eq, bne_iff_ne]
  constructor
  · rintro ⟨h1, h2⟩
    refine ⟨h1, fun ho => ?_⟩
    rcases h2 with h2 | h2
    · omega
    · exact h2
  · rintro ⟨h1, h2⟩
    refine ⟨h1, ?_⟩
    rcases Nat.mod_two_eq_zero_or_one m with h | h
    · exact Or.inl h
    · exact Or.inr (h2 h)

theorem inI_false {m Q A M d : Nat} (h : inI m Q A M d = false) : 4 * M * d ≤ lowY m Q * A ∨ (4 * m + 2) * A ≤ 4 * M * d := by
  rcases Nat.lt_or_ge (lowY m Q * A) (4 * M * d) with h1 | h1
  · rcases Nat.lt_or_ge (4 * M * d) ((4 * m + 2) * A) with h2 | h2
    · exfalso
      have : inI m Q A M d = true := (inI_iff m Q A M d).2 ⟨⟨by omega, by omega⟩, fun _ => ⟨by omega, by omega⟩⟩
      rw [h] at this
      cases this
    · exact Or.inr h2
  · exact Or.inl h1

/-- The power of ten that is the unit. -/
def unitK (m Q : Nat) : Int := if m = 4503599627370496 ∧ 0 < Q then skw ((Q : Int) - 1074) else l10 ((Q : Int) - 1074)
def aOf (m Q : Nat) : Nat := numA ((Q : Int) - 1074) (unitK m Q)
def mOf (m Q : Nat) : Nat := denM ((Q : Int) - 1074) (unitK m Q)

theorem low_cases (m Q : Nat) (hm : 0 < m) : (m = 4503599627370496 ∧ 0 < Q ∧ lowY m Q + 1 = 4 * m) ∨ (¬ (m = 4503599627370496 ∧ 0 < Q) ∧ lowY m Q + 2 = 4 * m) := by
  unfold lowY
  by_cases h : m = 4503599627370496 ∧ 0 < Q
  · left; rw [if_pos h]; exact ⟨h.1, h.2, by omega⟩
  · right; rw [if_neg h]; exact ⟨h, by omega⟩

theorem wid_cases {m Q : Nat} (hQ : Q ≤ 2045) : (m = 4503599627370496 ∧ 0 < Q ∧ 4 * mOf m Q ≤ 3 * aOf m Q ∧ 3 * aOf m Q < 40 * mOf m Q) ∨ (¬ (m = 4503599627370496 ∧ 0 < Q) ∧ mOf m Q ≤ aOf m Q ∧ aOf m Q < 10 * mOf m Q) := by
  have h := wid_of ((Q : Int) - 1074) (by omega) (by omega)
  unfold widOK at h
  simp only [Bool.and_eq_true, decide_eq_true_eq] at h
  unfold mOf aOf unitK
  by_cases hs : m = 4503599627370496 ∧ 0 < Q
  · left; rw [if_pos hs]; exact ⟨hs.1, hs.2, h.1.2, h.2⟩
  · right; rw [if_neg hs]; exact ⟨hs, h.1.1.1, h.1.1.2⟩

theorem span_of {m Q : Nat} (hm0 : 0 < m) (hQ : Q ≤ 2045) (hsub : Q = 0 ∨ 4503599627370496 ≤ m) :
    Span (aOf m Q) (mOf m Q) m (lowY m Q) (m * aOf m Q / mOf m Q) (4 * (m * aOf m Q % mOf m Q)) (inI m Q (aOf m Q) (mOf m Q)) := by
  have hM : 0 < mOf m Q := den_pos _ _
  have hA : 0 < aOf m Q := num_pos _ _
  have hw := wid_cases (m := m) hQ
  have hl := low_cases m Q hm0
  have htiny : m < 10 → 49 * mOf m Q ≤ 10 * aOf m Q ∧ 10 * aOf m Q < 50 * mOf m Q := by
    intro hm
    have hQ0 : Q = 0 := by omega
    subst hQ0
    have h1 := wid_least
    rw [Bool.and_eq_true, decide_eq_true_eq, decide_eq_true_eq] at h1
    unfold mOf aOf unitK
    rw [if_neg (by omega)]
    exact h1
  obtain ⟨A, eA⟩ : ∃ A, aOf m Q = A := ⟨_, rfl⟩
  obtain ⟨M, eM⟩ : ∃ M, mOf m Q = M := ⟨_, rfl⟩
  rw [eA, eM] at hw htiny ⊢
  rw [eA] at hA
  rw [eM] at hM
  obtain ⟨y, ey⟩ : ∃ y, lowY m Q = y := ⟨_, rfl⟩
  rw [ey] at hl
  have hdm := Nat.div_add_mod (m * A) M
  have hmod := Nat.mod_lt (m * A) hM
  obtain ⟨k, ek⟩ : ∃ k, m * A / M = k := ⟨_, rfl⟩
  obtain ⟨t, et⟩ : ∃ t, m * A % M = t := ⟨_, rfl⟩
  rw [ek, et] at hdm
  rw [et] at hmod
  rw [ek, et]
  have e4 : 4 * m * A = 4 * (m * A) := Nat.mul_assoc _ _ _
  have e2 : (4 * m + 2) * A = 4 * (m * A) + 2 * A := by rw [Nat.add_mul, e4]
  have eM4 : ∀ d, 4 * M * d = 4 * (M * d) := fun d => Nat.mul_assoc _ _ _
  have hy1 : y * A + A ≤ 4 * (m * A) := by
    have := Nat.mul_le_mul_right A (show y + 1 ≤ 4 * m by omega)
    rw [Nat.add_mul, Nat.one_mul, e4] at this
    exact this
  have hy2 : 4 * (m * A) ≤ y * A + 2 * A := by
    have := Nat.mul_le_mul_right A (show 4 * m ≤ y + 2 by omega)
    rw [Nat.add_mul, e4] at this
    exact this
  have hyc : (m = 4503599627370496 ∧ 0 < Q ∧ y * A + A = 4 * (m * A)) ∨ (¬ (m = 4503599627370496 ∧ 0 < Q) ∧ y * A + 2 * A = 4 * (m * A)) := by
    rcases hl with ⟨h1, h2, h3⟩ | ⟨h1, h3⟩
    · left; refine ⟨h1, h2, ?_⟩
      rw [← e4, ← h3, Nat.add_mul, Nat.one_mul]
    · right; refine ⟨h1, ?_⟩
      rw [← e4, ← h3, Nat.add_mul]
  have hmA : A ≤ m * A := Nat.le_mul_of_pos_left _ hm0
  have hMk1 : M * (k + 1) = M * k + M := by rw [Nat.mul_add, Nat.mul_one]
  refine ⟨hM, by omega, by omega, ?_, ?_, ?_, ?_, ?_, ?_, ?_, by omega, ?_, ?_⟩
  · rw [ey]
    rcases hyc with ⟨_, _, h⟩ | ⟨_, h⟩ <;> omega
  · rw [ey, e2]
    rcases hyc with ⟨h1, h2, h⟩ | ⟨h1, h⟩
    · rcases hw with ⟨_, _, h3, h4⟩ | ⟨h3, _⟩
      · omega
      · exact absurd ⟨h1, h2⟩ h3
    · rcases hw with ⟨h3, h4, _⟩ | ⟨_, h3, h4⟩
      · exact absurd ⟨h3, h4⟩ h1
      · omega
  · intro d hd
    exact ((inI_iff _ _ _ _ _).1 hd).1.1
  · intro d hd
    exact ((inI_iff _ _ _ _ _).1 hd).1.2
  · intro d hd
    exact inI_false hd
  · intro a b c ha hc hab hbc
    obtain ⟨⟨a1, a2⟩, a3⟩ := (inI_iff _ _ _ _ _).1 ha
    obtain ⟨⟨c1, c2⟩, c3⟩ := (inI_iff _ _ _ _ _).1 hc
    have h1 := Nat.mul_le_mul_left (4 * M) hab
    have h2 := Nat.mul_le_mul_left (4 * M) hbc
    refine (inI_iff _ _ _ _ _).2 ⟨⟨by omega, by omega⟩, fun ho => ⟨?_, ?_⟩⟩
    · have := (a3 ho).1
      omega
    · have := (c3 ho).2
      omega
  · rw [e4, eM4]
    omega
  · -- one of the two neighbours
    by_cases hk : inI m Q A M k = true
    · exact Or.inl hk
    · right
      have hk' : inI m Q A M k = false := by simpa using hk
      by_cases hk1 : inI m Q A M (k + 1) = true
      · exact hk1
      · exfalso
        have hk1' : inI m Q A M (k + 1) = false := by simpa using hk1
        have o1 := inI_false hk'
        have o2 := inI_false hk1'
        rw [ey, e2, eM4] at o1
        rw [ey, e2, eM4, hMk1] at o2
        rcases hyc with ⟨h1, h2, h⟩ | ⟨h1, h⟩
        · rcases hw with ⟨_, _, h3, h4⟩ | ⟨h3, _⟩
          · -- an even number: the borders belong to it
            apply hk
            refine (inI_iff _ _ _ _ _).2 ⟨⟨?_, ?_⟩, fun ho => ?_⟩
            · rw [ey, eM4]; omega
            · rw [e2, eM4]; omega
            · rw [h1] at ho; simp at ho
          · exact absurd ⟨h1, h2⟩ h3
        · rcases hw with ⟨h3, h4, _⟩ | ⟨_, h3, h4⟩
          · exact absurd ⟨h3, h4⟩ h1
          · -- M = A, and a half is no whole number
            have hMA : M = A := by omega
            subst hMA
            have : 4 * (M * k) = 4 * (m * M) - 2 * M := by omega
            have h5 : 2 * (2 * k + 1) * M = 2 * (2 * m) * M := by
              rw [Nat.mul_assoc, Nat.mul_assoc, Nat.add_mul, Nat.one_mul, Nat.mul_assoc, Nat.mul_assoc, Nat.mul_comm k M]
              omega
            have h6 := Nat.eq_of_mul_eq_mul_right hM h5
            omega
  · intro hk10 h10
    have hin := ((inI_iff _ _ _ _ _).1 h10).1.2
    rw [e2, eM4] at hin
    have hMk : M * k + M ≤ M * 10 := by
      have := Nat.mul_le_mul_left M (show k + 1 ≤ 10 from hk10)
      rw [Nat.mul_add, Nat.mul_one] at this
      exact this
    have hMA : 3 * M ≤ 3 * A := by rcases hw with h | h <;> omega
    have hm9 : m < 10 := by
      rcases Nat.lt_or_ge m 10 with h | h
      · exact h
      · have := Nat.mul_le_mul_right A h
        omega
    obtain ⟨t1, t2⟩ := htiny hm9
    have hm2 : m ≤ 2 := by
      rcases Nat.lt_or_ge 2 m with h | h
      · have := Nat.mul_le_mul_right A (show 3 ≤ m from h)
        omega
      · exact h
    have hme : m = 2 := by
      rcases Nat.lt_or_ge m 2 with h | h
      · have : m = 1 := by omega
        subst this
        omega
      · omega
    subst hme
    have hk9 : k = 9 := by
      rcases Nat.lt_or_ge k 9 with h | h
      · have := Nat.mul_le_mul_left M (show k + 1 ≤ 9 from h)
        rw [Nat.mul_add, Nat.mul_one] at this
        omega
      · omega
    subst hk9
    exact ⟨rfl, by omega⟩
end Go.Proofs.YtbengmceiaejeaaGreatDoor
/- The library's three scalings, and what it makes of them. -/
namespace Go.Proofs.YtbengmceiaejeaaGreatDoor

theorem good_unit {m Q : Nat} (hQ : Q ≤ 2045) : goodRow ((Q : Int) - 1074) (unitK m Q) (rowOf (unitK m Q)) = true := by
  unfold unitK
  split
  · exact good_skw _ (by omega) (by omega)
  · exact good_l10 _ (by omega) (by omega)

theorem mul_right_le {a b c : Nat} (h : a ≤ b) : c * a ≤ c * b := Nat.mul_le_mul_left c h

/-- How far the product is moved. -/
def shiftN (m Q z : Nat) : Nat := (shf ((Q : Int) - 1074) (unitK m Q)).toNat + (z - 11)

theorem us_of {m Q z y : Nat} (hQ : Q ≤ 2045) (hz : 11 ≤ z) (hy : 0 < y) (hY : y < Ymax) (hx : y * 2 ^ (z - 2) < 18446744073709551616) :
    usF (y * 2 ^ (z - 2)) (rowOf (unitK m Q)).1 (rowOf (unitK m Q)).2 (shiftN m Q z) = unr (y * aOf m Q) (mOf m Q) := by
  have hg := good_unit (m := m) hQ
  unfold goodRow at hg
  simp only [Bool.and_eq_true, decide_eq_true_eq] at hg
  obtain ⟨⟨⟨⟨⟨⟨⟨⟨⟨g1, g2⟩, g3⟩, g4⟩, g5⟩, g6⟩, g7⟩, g8⟩, g9⟩, g10⟩ := hg
  have eA : numA ((Q : Int) - 1074) (unitK m Q) = aOf m Q := rfl
  have eM : denM ((Q : Int) - 1074) (unitK m Q) = mOf m Q := rfl
  rw [eA, eM] at g8 g9 g10
  unfold shiftN
  obtain ⟨s0, es⟩ : ∃ s, (shf ((Q : Int) - 1074) (unitK m Q)).toNat = s := ⟨_, rfl⟩
  rw [es] at g8 g9 g10 ⊢
  obtain ⟨hi, ehi⟩ : ∃ h, (rowOf (unitK m Q)).1 = h := ⟨_, rfl⟩
  obtain ⟨lo, elo⟩ : ∃ h, (rowOf (unitK m Q)).2 = h := ⟨_, rfl⟩
  rw [ehi, elo] at g7 g8 g9 ⊢
  rw [elo] at g6
  obtain ⟨A, hA⟩ : ∃ A, aOf m Q = A := ⟨_, rfl⟩
  obtain ⟨M, hM⟩ : ∃ M, mOf m Q = M := ⟨_, rfl⟩
  have hM0 : 0 < mOf m Q := den_pos _ _
  rw [hA, hM] at g8 g9 g10
  rw [hM] at hM0
  rw [hA, hM]
  obtain ⟨v, rfl⟩ : ∃ v, z = v + 11 := ⟨z - 11, by omega⟩
  have e1 : v + 11 - 2 = 9 + v := by omega
  have e2 : v + 11 - 11 = v := by omega
  rw [e1] at hx ⊢
  rw [e2]
  have e3 : y * 2 ^ (9 + v) = 512 * (y * 2 ^ v) := by rw [Nat.pow_add, Nat.mul_left_comm]
  have e4 : y * A * 2 ^ (128 + (s0 + v)) = (y * 2 ^ v) * (A * 2 ^ (128 + s0)) := by
    rw [show 128 + (s0 + v) = (128 + s0) + v by omega, Nat.pow_add _ (128 + s0) v]
    generalize 2 ^ (128 + s0) = P
    generalize 2 ^ v = V
    ac_rfl
  refine usF_unr hx g6 g7 hM0 ?_ ?_ ?_
  · rw [e3, e4]
    have := Nat.mul_le_mul_left (y * 2 ^ v) g8
    refine Nat.le_trans (Nat.le_of_eq ?_) this
    generalize hi * 18446744073709551616 - lo - 1 = P
    generalize y * 2 ^ v = V
    ac_rfl
  · rw [e3, e4]
    have := Nat.mul_le_mul_left (y * 2 ^ v) g9
    refine Nat.le_trans this (Nat.le_of_eq ?_)
    generalize hi * 18446744073709551616 - lo = P
    generalize y * 2 ^ v = V
    ac_rfl
  · intro n
    have hG : 2 ^ (63 + s0) ≤ 2 ^ (63 + (s0 + v)) := Nat.pow_le_pow_right (by decide) (by omega)
    have := sep_of (n := n) g10 hy hY
    rw [Nat.mul_comm A y] at this
    rcases this with h | ⟨h1, h2⟩ | ⟨h1, h2⟩
    · exact Or.inl h
    · exact Or.inr (Or.inl ⟨h1, Nat.lt_of_lt_of_le h2 (Nat.mul_le_mul_right _ hG)⟩)
    · exact Or.inr (Or.inr ⟨h1, Nat.lt_of_lt_of_le h2 (Nat.mul_le_mul_right _ hG)⟩)

/-- The least and the greatest number of units that is read as the real. -/
def dMin (m u : Nat) : Nat := (u + m % 2 + 3) / 4
def dMax (m u : Nat) : Nat := (u - m % 2) / 4

theorem inI_between {m Q A M : Nat} (hM : 0 < M) (hA : 0 < A) (hm : 0 < m) (d : Nat) :
    inI m Q A M d = true ↔ dMin m (unr (lowY m Q * A) M) ≤ d ∧ d ≤ dMax m (unr ((4 * m + 2) * A) M) := by
  have hN : 0 < (4 * m + 2) * A := Nat.mul_pos (by omega) hA
  rw [inI_iff]
  unfold dMin dMax
  rcases Nat.mod_two_eq_zero_or_one m with h | h
  · rw [h, Nat.add_zero, Nat.sub_zero, ceil_le hM, le_floor hM]
    constructor
    · rintro ⟨h1, _⟩; exact h1
    · intro h1; exact ⟨h1, fun ho => by omega⟩
  · rw [h, over_le hM, le_under hM hN]
    constructor
    · rintro ⟨⟨h1, h2⟩, h3⟩
      obtain ⟨h4, h5⟩ := h3 rfl
      exact ⟨by omega, by omega⟩
    · rintro ⟨h1, h2⟩
      exact ⟨⟨by omega, by omega⟩, fun _ => ⟨by omega, by omega⟩⟩

/-- The library's way, in whole numbers: the units of the answer. -/
def shortG (m Q z : Nat) : Nat :=
  let r := rowOf (unitK m Q)
  let s := shiftN m Q z
  let u0 := usF (lowY m Q * 2 ^ (z - 2)) r.1 r.2 s
  let u1 := usF ((4 * m + 2) * 2 ^ (z - 2)) r.1 r.2 s
  let u2 := usF (4 * m * 2 ^ (z - 2)) r.1 r.2 s
  goRes (dMin m u0) (dMax m u1) (rnd4 u2)

/-- The document's way and the library's. -/
theorem short_main {m Q z J : Nat} (hm0 : 0 < m) (hm : m < 9007199254740992) (hQ : Q ≤ 2045) (hsub : Q = 0 ∨ 4503599627370496 ≤ m) (hz : 11 ≤ z) (hx : (4 * m + 2) * 2 ^ (z - 2) < 18446744073709551616)
    (hJ : 1 ≤ J) (hk1 : 10 ^ (J - 1) ≤ m * aOf m Q / mOf m Q) (hk2 : m * aOf m Q / mOf m Q < 10 ^ J) (up : Nat → Bool)
    (hup : up 0 = upper (mOf m Q) (4 * (m * aOf m Q % mOf m Q)) (m * aOf m Q / mOf m Q)) :
    let I := inI m Q (aOf m Q) (mOf m Q)
    let k := m * aOf m Q / mOf m Q
    ∃ j, j < J ∧ (I (k / 10 ^ j * 10 ^ j) || I ((k / 10 ^ j + 1) * 10 ^ j)) = true ∧ (∀ i, j < i → i < J → (I (k / 10 ^ i * 10 ^ i) || I ((k / 10 ^ i + 1) * 10 ^ i)) = false) ∧
      pickJ I k j (up j) * 10 ^ j = shortG m Q z ∧
      ((pickJ I k j (up j) % 10 ≠ 0 ∧ pickJ I k j (up j) < 10 ^ (J - j) ∧ 10 ^ (J - j - 1) ≤ pickJ I k j (up j)) ∨ (j = J - 1 ∧ pickJ I k j (up j) = 10)) := by
  intro I k
  have hM : 0 < mOf m Q := den_pos _ _
  have hA : 0 < aOf m Q := num_pos _ _
  have hl := low_cases m Q hm0
  have hY : 4 * m + 2 < Ymax := by unfold Ymax; omega
  have p2 : ∀ y, y ≤ 4 * m + 2 → y * 2 ^ (z - 2) < 18446744073709551616 := fun y hy => Nat.lt_of_le_of_lt (Nat.mul_le_mul_right _ hy) hx
  have u0 := us_of (m := m) hQ hz (y := lowY m Q) (by omega) (by omega) (p2 _ (by omega))
  have u1 := us_of (m := m) hQ hz (y := 4 * m + 2) (by omega) hY hx
  have u2 := us_of (m := m) hQ hz (y := 4 * m) (by omega) (by omega) (p2 _ (by omega))
  have sp := span_of hm0 hQ hsub
  have hI := inI_between (m := m) (Q := Q) hM hA hm0
  have hmain := sp.main hI hJ hk1 hk2 up hup
  have hr := rnd_upper hM sp.val sp.rho
  have e : shortG m Q z = goRes (dMin m (unr (lowY m Q * aOf m Q) (mOf m Q))) (dMax m (unr ((4 * m + 2) * aOf m Q) (mOf m Q))) (if upper (mOf m Q) (4 * (m * aOf m Q % mOf m Q)) (m * aOf m Q / mOf m Q) then m * aOf m Q / mOf m Q + 1 else m * aOf m Q / mOf m Q) := by
    show goRes (dMin m (usF (lowY m Q * 2 ^ (z - 2)) (rowOf (unitK m Q)).1 (rowOf (unitK m Q)).2 (shiftN m Q z))) (dMax m (usF ((4 * m + 2) * 2 ^ (z - 2)) (rowOf (unitK m Q)).1 (rowOf (unitK m Q)).2 (shiftN m Q z))) (rnd4 (usF (4 * m * 2 ^ (z - 2)) (rowOf (unitK m Q)).1 (rowOf (unitK m Q)).2 (shiftN m Q z))) = _
    rw [u0, u1, u2, hr]
  rw [e]
  exact hmain
end Go.Proofs.YtbengmceiaejeaaGreatDoor
