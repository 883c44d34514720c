/- Amounts in base 2^16: plain facts on lists of digits. -/
import Derived.Test.YtbengmceiaejeaaGreatDoorNum
namespace Go.Proofs.YtbengmceiaejeaaGreatDoor

def valD : List Nat → Nat
  | [] => 0
  | d :: ds => d + 65536 * valD ds

def DigsOk (ds : List Nat) : Prop := ∀ d ∈ ds, d < 65536
/-- No noughts on top. -/
def Norm (ds : List Nat) : Prop := ∀ k, ds.length = k + 1 → ds.getD k 0 ≠ 0

theorem digs_nil : DigsOk [] := fun _ h => by cases h

theorem valD_append (a b : List Nat) : valD (a ++ b) = valD a + 65536 ^ a.length * valD b := by
  induction a with
  | nil => simp [valD]
  | cons d a ih =>
    simp only [List.cons_append, valD, ih, List.length_cons, Nat.pow_succ]
    rw [Nat.mul_add, Nat.add_assoc, Nat.mul_comm (65536 ^ a.length) 65536, Nat.mul_assoc]

theorem valD_lt {ds : List Nat} (h : DigsOk ds) : valD ds < 65536 ^ ds.length := by
  induction ds with
  | nil => simp [valD]
  | cons d ds ih =>
    have h1 := h d (by simp)
    have h2 := ih (fun x hx => h x (by simp [hx]))
    simp only [valD, List.length_cons, Nat.pow_succ]
    have : 65536 ^ ds.length * 65536 = 65536 * 65536 ^ ds.length := Nat.mul_comm _ _
    omega

theorem take_snoc (ds : List Nat) (k : Nat) (h : k < ds.length) : ds.take (k + 1) = ds.take k ++ [ds.getD k 0] := by
  rw [List.take_add_one, List.getElem?_eq_getElem h]
  simp [List.getD, h]

theorem valD_take_snoc (ds : List Nat) (k : Nat) (h : k < ds.length) : valD (ds.take (k + 1)) = valD (ds.take k) + 65536 ^ k * ds.getD k 0 := by
  rw [take_snoc ds k h, valD_append, List.length_take, Nat.min_eq_left (by omega)]
  simp [valD]

theorem DigsOk.take {ds : List Nat} (h : DigsOk ds) (k : Nat) : DigsOk (ds.take k) := fun d hd => h d (List.mem_of_mem_take hd)
theorem DigsOk.getD {ds : List Nat} (h : DigsOk ds) (k : Nat) : ds.getD k 0 < 65536 := by
  by_cases hk : k < ds.length
  · rw [List.getD_eq_getElem?_getD, List.getElem?_eq_getElem hk]
    exact h _ (List.getElem_mem hk)
  · rw [List.getD_eq_getElem?_getD, List.getElem?_eq_none (by omega)]
    decide
theorem DigsOk.snoc {ds : List Nat} {d : Nat} (h : DigsOk ds) (hd : d < 65536) : DigsOk (ds ++ [d]) := by
  intro x hx
  simp at hx
  rcases hx with hx | rfl
  · exact h x hx
  · exact hd

/-- A number without noughts on top has at least as many digits' worth. -/
theorem norm_low {ds : List Nat} (h : Norm ds) {k : Nat} (hk : ds.length = k + 1) : 65536 ^ k ≤ valD ds := by
  have h1 := valD_take_snoc ds k (by omega)
  rw [List.take_of_length_le (by omega)] at h1
  have h2 := h k hk
  have : 65536 ^ k * 1 ≤ 65536 ^ k * ds.getD k 0 := Nat.mul_le_mul_left _ (by omega)
  omega

/-- How two such compare by their lengths. -/
theorem len_lt {a b : List Nat} (ha : DigsOk a) (hb : Norm b) (h : a.length < b.length) : valD a < valD b := by
  obtain ⟨k, hk⟩ : ∃ k, b.length = k + 1 := ⟨b.length - 1, by omega⟩
  have h1 := valD_lt ha
  have h2 := norm_low hb hk
  have h3 : 65536 ^ a.length ≤ 65536 ^ k := Nat.pow_le_pow_right (by decide) (by omega)
  omega

/-- The bound that all amounts here keep. -/
def K0 : Nat := 4000
theorem K0_eq : K0 = 4000 := rfl
def BIG : Nat := 65536 ^ K0

theorem len_big {ds : List Nat} (h : Norm ds) (hv : valD ds < BIG) : ds.length ≤ 4000 := by
  rcases Nat.lt_or_ge 4000 ds.length with h1 | h1
  · exfalso
    obtain ⟨k, hk⟩ : ∃ k, ds.length = k + 1 := ⟨ds.length - 1, by omega⟩
    have h2 := norm_low h hk
    have h3 : 65536 ^ K0 ≤ 65536 ^ k := Nat.pow_le_pow_right (by decide) (by rw [K0_eq]; omega)
    unfold BIG at hv
    omega
  · exact h1

/-- How two rows of digits compare from the top: they agree from k on. -/
theorem cmp_top {a b : List Nat} (ha : DigsOk a) (hl : a.length = b.length) {k : Nat} (hk : k < a.length) (he : ∀ j, k < j → a.getD j 0 = b.getD j 0) (h : a.getD k 0 < b.getD k 0) : valD a < valD b := by
  have key : ∀ n, k < n → n ≤ a.length → valD (a.take n) < valD (b.take n) := by
    intro n hn hn2
    induction n with
    | zero => omega
    | succ n ih =>
      rw [valD_take_snoc a n (by omega), valD_take_snoc b n (by omega)]
      by_cases hkn : k = n
      · subst hkn
        have h1 := valD_lt (ha.take k)
        rw [List.length_take, Nat.min_eq_left (by omega)] at h1
        have h2 : 65536 ^ k * (a.getD k 0 + 1) ≤ 65536 ^ k * b.getD k 0 := Nat.mul_le_mul_left _ (by omega)
        rw [Nat.mul_add, Nat.mul_one] at h2
        omega
      · have := ih (by omega) (by omega)
        rw [he n (by omega)]
        omega
  have := key a.length hk (Nat.le_refl _)
  rw [List.take_length, hl, List.take_length] at this
  exact this

theorem same_digits {a b : List Nat} (hl : a.length = b.length) (he : ∀ j, a.getD j 0 = b.getD j 0) : a = b := by
  apply List.ext_getElem hl
  intro i h1 h2
  have := he i
  simpa [List.getD, h1, h2] using this

def cmpN (m n : Nat) : Int := if m < n then -1 else if m = n then 0 else 1
theorem cmpN_lt {m n : Nat} (h : m < n) : cmpN m n = -1 := by unfold cmpN; rw [if_pos h]
theorem cmpN_gt {m n : Nat} (h : n < m) : cmpN m n = 1 := by unfold cmpN; rw [if_neg (by omega), if_neg (by omega)]
theorem cmpN_eq {m n : Nat} (h : m = n) : cmpN m n = 0 := by unfold cmpN; rw [if_neg (by omega), if_pos h]
end Go.Proofs.YtbengmceiaejeaaGreatDoor
