/- Two neighbouring fractions keep all others with small denominators away; and a check of that, for the kernel. -/
import GoSem.PinnedTables
namespace Go.Proofs.YtbengmceiaejeaaGreatDoor

theorem int_pos_mul {u a : Int} (hu : 1 ≤ u) (ha : 0 ≤ a) : a ≤ u * a := by
  have := Int.mul_le_mul_of_nonneg_right hu ha
  omega

theorem farey_int {A M a b c d y n : Int} (det : a * d - b * c = 1) (h1 : 0 < A * a - M * b) (h2 : 0 < M * d - A * c) (ha : 0 ≤ a) (hc : 0 ≤ c) (hy : 0 < y) (hY : y < a + c) :
    A * a - M * b ≤ A * y - M * n ∨ M * d - A * c ≤ M * n - A * y := by
  obtain ⟨u, eu⟩ : ∃ u, u = y * d - n * c := ⟨_, rfl⟩
  obtain ⟨v, ev⟩ : ∃ v, v = n * a - y * b := ⟨_, rfl⟩
  obtain ⟨r1, e1⟩ : ∃ r, r = A * a - M * b := ⟨_, rfl⟩
  obtain ⟨r2, e2⟩ : ∃ r, r = M * d - A * c := ⟨_, rfl⟩
  have ey : u * a + v * c = y := by
    have : u * a + v * c = y * (a * d - b * c) := by
      subst eu ev
      simp only [Int.mul_sub, Int.mul_comm, Int.mul_left_comm]
      omega
    rw [this, det, Int.mul_one]
  have ev2 : u * r1 - v * r2 = A * y - M * n := by
    have : u * r1 - v * r2 = (A * y - M * n) * (a * d - b * c) := by
      subst eu ev e1 e2
      simp only [Int.mul_sub, Int.mul_comm, Int.mul_left_comm]
      omega
    rw [this, det, Int.mul_one]
  rw [← e1] at h1 ⊢
  rw [← e2] at h2 ⊢
  by_cases hu : 1 ≤ u
  · by_cases hv : 1 ≤ v
    · exfalso
      have k1 := int_pos_mul hu ha
      have k2 := int_pos_mul hv hc
      omega
    · left
      have k1 := int_pos_mul hu (Int.le_of_lt h1)
      have k2 : v * r2 ≤ 0 := Int.mul_nonpos_of_nonpos_of_nonneg (by omega) (by omega)
      omega
  · right
    have k0 : u * a ≤ 0 := Int.mul_nonpos_of_nonpos_of_nonneg (by omega) ha
    have k1 : u * r1 ≤ 0 := Int.mul_nonpos_of_nonpos_of_nonneg (by omega) (by omega)
    have hv : 1 ≤ v := by
      rcases Int.lt_or_le v 1 with h | h
      · exfalso
        have : v * c ≤ 0 := Int.mul_nonpos_of_nonpos_of_nonneg (by omega) hc
        omega
      · exact h
    have k2 := int_pos_mul hv (Int.le_of_lt h2)
    omega

theorem farey {A M a b c d y n : Nat} (det : a * d = b * c + 1) (h1 : M * b < A * a) (h2 : A * c < M * d) (hy : 0 < y) (hY : y < a + c) :
    M * n + (A * a - M * b) ≤ A * y ∨ A * y + (M * d - A * c) ≤ M * n := by
  have := farey_int (A := A) (M := M) (a := a) (b := b) (c := c) (d := d) (y := y) (n := n)
    (by have := congrArg (Nat.cast (R := Int)) det; simp only [Int.natCast_mul, Int.natCast_add, Int.natCast_one] at this; omega)
    (by rw [← Int.natCast_mul, ← Int.natCast_mul]; omega) (by rw [← Int.natCast_mul, ← Int.natCast_mul]; omega) (by omega) (by omega) (by omega) (by omega)
  rw [← Int.natCast_mul, ← Int.natCast_mul, ← Int.natCast_mul, ← Int.natCast_mul, ← Int.natCast_mul, ← Int.natCast_mul] at this
  omega

/-- How many there may be. -/
def Ymax : Nat := 36028797018963971

/-- The neighbours, by Euclid's way: lower b / a, upper d / c; r1 = A a - M b, r2 = M d - A c. -/
def nbrs : Nat → Nat → Nat → Nat → Nat → Nat → Nat → Nat × Nat × Nat × Nat
  | 0, a, b, c, d, _, _ => (a, b, c, d)
  | f + 1, a, b, c, d, r1, r2 =>
    if Ymax ≤ a + c then (a, b, c, d)
    else if r2 ≤ r1 then
      let k := min ((r1 - 1) / r2) ((Ymax - a - c) / c + 1)
      nbrs f (a + k * c) (b + k * d) c d (r1 - k * r2) r2
    else
      let k := min ((r2 - 1) / r1) ((Ymax - a - c) / a + 1)
      nbrs f a b (c + k * a) (d + k * b) r1 (r2 - k * r1)

/-- Is A y / M, for all y below Ymax, a whole number or farther than 1 / G from all of them? -/
def sepOK (A M G : Nat) : Bool :=
  if M < G then true
  else match nbrs 64 1 0 0 1 (A % M) M with
    | (a, b, c, d) => a * d == b * c + 1 && M * b < A % M * a && A % M * c < M * d && Ymax ≤ a + c && M < G * (A % M * a - M * b) && M < G * (M * d - A % M * c)

theorem sep_of {A M G y n : Nat} (h : sepOK A M G = true) (hy : 0 < y) (hY : y < Ymax) : A * y = M * n ∨ (M * n < A * y ∧ M < G * (A * y - M * n)) ∨ (A * y < M * n ∧ M < G * (M * n - A * y)) := by
  have hd : A * y = M * (A / M * y) + A % M * y := by
    conv => lhs; rw [← Nat.div_add_mod A M]
    rw [Nat.add_mul, Nat.mul_assoc]
  unfold sepOK at h
  split at h
  · rename_i hG
    rcases Nat.lt_trichotomy (M * n) (A * y) with hl | he | hl
    · right; left
      refine ⟨hl, Nat.lt_of_lt_of_le hG (Nat.le_mul_of_pos_right _ (by omega))⟩
    · left; exact he.symm
    · right; right
      refine ⟨hl, Nat.lt_of_lt_of_le hG (Nat.le_mul_of_pos_right _ (by omega))⟩
  · split at h
    rename_i a b c d _
    simp only [Bool.and_eq_true, decide_eq_true_eq, beq_iff_eq] at h
    obtain ⟨⟨⟨⟨⟨k1, k2⟩, k3⟩, k4⟩, k5⟩, k6⟩ := h
    obtain ⟨R, eR⟩ : ∃ R, A % M = R := ⟨_, rfl⟩
    rw [eR] at k2 k3 k5 k6 hd
    obtain ⟨t, et⟩ : ∃ t, A / M * y = t := ⟨_, rfl⟩
    rw [et] at hd
    rcases Nat.lt_or_ge n t with hn | hn
    · -- below: the distance is even greater
      have h0 := farey (n := 0) k1 k2 k3 hy (Nat.lt_of_lt_of_le hY k4)
      rcases h0 with h0 | h0
      · right; left
        have e : M * t = M * n + M * (t - n) := by rw [← Nat.mul_add]; congr 1; omega
        have hle : R * a - M * b ≤ A * y - M * n := by omega
        have hpos : 0 < R * a - M * b := by omega
        exact ⟨by omega, Nat.lt_of_lt_of_le k5 (Nat.mul_le_mul_left _ hle)⟩
      · omega
    · obtain ⟨m, em⟩ : ∃ m, n = t + m := ⟨n - t, by omega⟩
      subst em
      rw [Nat.mul_add]
      have h0 := farey (n := m) k1 k2 k3 hy (Nat.lt_of_lt_of_le hY k4)
      rcases h0 with h0 | h0
      · right; left
        have hle : R * a - M * b ≤ A * y - (M * t + M * m) := by omega
        exact ⟨by omega, Nat.lt_of_lt_of_le k5 (Nat.mul_le_mul_left _ hle)⟩
      · right; right
        have hle : M * d - R * c ≤ M * t + M * m - A * y := by omega
        exact ⟨by omega, Nat.lt_of_lt_of_le k6 (Nat.mul_le_mul_left _ hle)⟩
end Go.Proofs.YtbengmceiaejeaaGreatDoor
/- The library's table of powers of ten, row by row: near enough, and nothing that is asked lies too near a whole number. -/
namespace Go.Proofs.YtbengmceiaejeaaGreatDoor

def l10 (q : Int) : Int := q * 78913 / 262144
def l2 (p : Int) : Int := p * 108853 / 32768
def skw (q : Int) : Int := (q * 631305 - 261663) / 2097152

/-- How far a product is moved to the right, where two binary digits are asked behind the point and nine noughts stand in its factor. -/
def shf (q K : Int) : Int := 8 - q - l2 (-K)
/-- 2^q / 10^K, as a fraction. -/
def numA (q K : Int) : Nat := 5 ^ (-K).toNat * 2 ^ (q - K).toNat
def denM (q K : Int) : Nat := 5 ^ K.toNat * 2 ^ (K - q).toNat

def rowOf (K : Int) : Nat × Nat := Go.Pinned.pow10Rows.getD (348 - K).toNat (0, 0)

def goodRow (q K : Int) (r : Nat × Nat) : Bool :=
  let s := (shf q K).toNat
  let PM := r.1 * 18446744073709551616 - r.2
  1 ≤ shf q K && -348 ≤ K && K ≤ 347 && shf q K ≤ 12 && r.1 < 18446744073709551616 && r.2 < 18446744073709551616 && r.2 < r.1 * 18446744073709551616 &&
  512 * (PM - 1) * denM q K ≤ numA q K * 2 ^ (128 + s) && numA q K * 2 ^ (128 + s) ≤ 512 * PM * denM q K && sepOK (numA q K) (denM q K) (2 ^ (63 + s))

theorem good_all : (List.range 2046).all (fun i => goodRow ((i : Int) - 1074) (l10 ((i : Int) - 1074)) (rowOf (l10 ((i : Int) - 1074)))) = true := by decide +kernel
theorem good_skew : (List.range 2046).all (fun i => goodRow ((i : Int) - 1074) (skw ((i : Int) - 1074)) (rowOf (skw ((i : Int) - 1074)))) = true := by decide +kernel

theorem good_l10 (q : Int) (h1 : -1074 ≤ q) (h2 : q ≤ 971) : goodRow q (l10 q) (rowOf (l10 q)) = true := by
  have := List.all_eq_true.1 good_all (q + 1074).toNat (List.mem_range.2 (by omega))
  rw [show (((q + 1074).toNat : Nat) : Int) - 1074 = q by omega] at this
  exact this
theorem good_skw (q : Int) (h1 : -1074 ≤ q) (h2 : q ≤ 971) : goodRow q (skw q) (rowOf (skw q)) = true := by
  have := List.all_eq_true.1 good_skew (q + 1074).toNat (List.mem_range.2 (by omega))
  rw [show (((q + 1074).toNat : Nat) : Int) - 1074 = q by omega] at this
  exact this
end Go.Proofs.YtbengmceiaejeaaGreatDoor
/- Unrounded scaling: what the library's uscale makes of a word is a number's floor, and whether something is left. -/
namespace Go.Proofs.YtbengmceiaejeaaGreatDoor

/-- The library's way, in whole numbers. -/
def usF (x hi lo s : Nat) : Nat :=
  let P := x * hi
  let h := P / 18446744073709551616
  let mid := P % 18446744073709551616
  if h / 2 ^ s * 2 ^ s ≠ h then h / 2 ^ s ||| 1
  else
    let mid2 := x * lo / 18446744073709551616
    if mid < mid2 then (h - 1) / 2 ^ s ||| 1
    else if 1 < mid - mid2 then h / 2 ^ s ||| 1
    else h / 2 ^ s

/-- A fraction's floor, with one more digit set if something is left. -/
def unr (N D : Nat) : Nat := N / D ||| (if N % D = 0 then 0 else 1)

theorem unr_exact {N D n : Nat} (hD : 0 < D) (h : N = D * n) : unr N D = n := by
  subst h
  unfold unr
  rw [Nat.mul_div_cancel_left _ hD, Nat.mul_mod_right, if_pos rfl, Nat.or_zero]

theorem unr_more {N D n : Nat} (h1 : D * n < N) (h2 : N < D * (n + 1)) : unr N D = n ||| 1 := by
  have e : N / D = n := by
    refine Nat.div_eq_of_lt_le ?_ ?_
    · rw [Nat.mul_comm]; omega
    · rw [Nat.mul_comm]; exact h2
  unfold unr
  rw [e, if_neg]
  intro h
  have := Nat.div_add_mod N D
  rw [e, h] at this
  omega

theorem usF_unr {x hi lo s N D : Nat} (hx : x < 18446744073709551616) (hlo : lo < 18446744073709551616) (hl : lo < hi * 18446744073709551616) (hD : 0 < D) 
    (L : D * (x * (hi * 18446744073709551616 - lo - 1)) ≤ N * 2 ^ (128 + s)) (U : N * 2 ^ (128 + s) ≤ D * (x * (hi * 18446744073709551616 - lo)))
    (sep : ∀ n, N = D * n ∨ (D * n < N ∧ D < 2 ^ (63 + s) * (N - D * n)) ∨ (N < D * n ∧ D < 2 ^ (63 + s) * (D * n - N))) :
    usF x hi lo s = unr N D := by
  obtain ⟨W, eW⟩ : ∃ W : Nat, W = 18446744073709551616 := ⟨_, rfl⟩
  obtain ⟨S, eS⟩ : ∃ S : Nat, S = 2 ^ s := ⟨_, rfl⟩
  have hS : 0 < S := by rw [eS]; exact Nat.two_pow_pos s
  have hW : W * W * S = 2 ^ (128 + s) := by rw [eW, eS, Nat.pow_add]
  have hG : 2 ^ (63 + s) * (2 * W) = W * W * S := by rw [hW, eW, show 128 + s = (63 + s) + 65 by omega, Nat.pow_add 2 (63 + s) 65]
  rw [← eW] at hx hlo hl L U
  rw [← hW] at L U
  obtain ⟨G, eG⟩ : ∃ G, 2 ^ (63 + s) = G := ⟨_, rfl⟩
  rw [eG] at hG sep
  unfold usF
  rw [← eW, ← eS]
  -- the product's parts
  obtain ⟨h, eh⟩ : ∃ h, x * hi / W = h := ⟨_, rfl⟩
  obtain ⟨mid, em⟩ : ∃ m, x * hi % W = m := ⟨_, rfl⟩
  obtain ⟨mid2, em2⟩ : ∃ m, x * lo / W = m := ⟨_, rfl⟩
  obtain ⟨low, elow⟩ : ∃ m, x * lo % W = m := ⟨_, rfl⟩
  have d1 : W * h + mid = x * hi := by rw [← eh, ← em]; exact Nat.div_add_mod _ _
  have d2 : W * mid2 + low = x * lo := by rw [← em2, ← elow]; exact Nat.div_add_mod _ _
  have hW0 : 0 < W := by omega
  have m1 : mid < W := by rw [← em]; exact Nat.mod_lt _ hW0
  have m2 : low < W := by rw [← elow]; exact Nat.mod_lt _ hW0
  simp only [eh, em, em2]
  obtain ⟨a, ea⟩ : ∃ a, a = W * W := ⟨_, rfl⟩
  rw [← ea] at L U hG
  -- the bounds, with few letters
  have eC : x * hi * W = a * h + W * mid := by rw [← d1, ea, Nat.add_mul]; rw [Nat.mul_right_comm, Nat.mul_comm mid W]
  have hB : x * lo + x ≤ x * W := by
    have : x * (lo + 1) ≤ x * W := Nat.mul_le_mul_left _ (by omega)
    rw [Nat.mul_add, Nat.mul_one] at this
    exact this
  have hxW : x * W < a := by rw [ea]; exact Nat.mul_lt_mul_of_pos_right hx hW0
  have hBC : x * lo ≤ x * hi * W := by rw [Nat.mul_assoc]; exact Nat.mul_le_mul_left _ (by omega)
  have e1 : x * (hi * W - lo) = x * hi * W - x * lo := by rw [Nat.mul_sub, Nat.mul_assoc]
  have e2 : x * (hi * W - lo - 1) = x * hi * W - x * lo - x := by rw [Nat.mul_sub, Nat.mul_one, e1]
  rw [e1, eC] at U
  rw [e2, eC] at L
  rw [eC] at hBC
  rw [← d2] at hB hBC L U
  have hmW : W * mid < a := by rw [ea]; exact Nat.mul_lt_mul_of_pos_left m1 hW0
  have hdm := Nat.div_add_mod h S
  have hmod := Nat.mod_lt h hS
  obtain ⟨k, ek⟩ : ∃ k, h / S = k := ⟨_, rfl⟩
  obtain ⟨r, er⟩ : ∃ r, h % S = r := ⟨_, rfl⟩
  rw [ek, er] at hdm
  rw [er] at hmod
  rw [ek]
  have eh2 : a * h = a * (S * k) + a * r := by rw [← hdm, Nat.mul_add]
  have up : a * h + a ≤ a * (S * (k + 1)) := by
    have : h + 1 ≤ S * (k + 1) := by rw [Nat.mul_add, Nat.mul_one]; omega
    have := Nat.mul_le_mul_left a this
    rw [Nat.mul_add, Nat.mul_one] at this
    exact this
  -- from the bounds to the number
  have low_of : ∀ n, a * (S * n) + 1 ≤ a * h + W * mid - (W * mid2 + low) - x → D * n < N := by
    intro n hn
    have h1 : D * (a * (S * n) + 1) ≤ N * (a * S) := Nat.le_trans (Nat.mul_le_mul_left _ hn) L
    rw [Nat.mul_add, Nat.mul_one] at h1
    refine Nat.lt_of_mul_lt_mul_right (a := a * S) ?_
    rw [show D * n * (a * S) = D * (a * (S * n)) by rw [Nat.mul_assoc]; congr 1; rw [Nat.mul_comm n, Nat.mul_assoc]]
    omega
  have up_of : ∀ n, a * h + W * mid - (W * mid2 + low) < a * (S * n) → N < D * n := by
    intro n hn
    have h1 : N * (a * S) < D * (a * (S * n)) := Nat.lt_of_le_of_lt U (Nat.mul_lt_mul_of_pos_left hn hD)
    refine Nat.lt_of_mul_lt_mul_right (a := a * S) ?_
    rw [show D * n * (a * S) = D * (a * (S * n)) by rw [Nat.mul_assoc]; congr 1; rw [Nat.mul_comm n, Nat.mul_assoc]]
    exact h1
  have hup : a * h + W * mid - (W * mid2 + low) < a * (S * (k + 1)) := by omega
  by_cases hr : r = 0
  · subst hr
    have hhk : h = S * k := by omega
    have hk : k * S = h := by rw [Nat.mul_comm]; omega
    rw [Nat.mul_zero, Nat.add_zero] at eh2
    rw [if_neg (by simpa using hk)]
    rcases Nat.lt_or_ge mid mid2 with hm | hm
    · rw [if_pos hm]
      have hWm : W * mid + W ≤ W * mid2 := by
        have := Nat.mul_le_mul_left W (show mid + 1 ≤ mid2 from hm)
        rw [Nat.mul_add, Nat.mul_one] at this
        exact this
      have hk0 : k ≠ 0 := by
        rintro rfl
        simp only [Nat.mul_zero] at eh2
        omega
      obtain ⟨j, rfl⟩ : ∃ j, k = j + 1 := ⟨k - 1, by omega⟩
      have hh : (h - 1) / S = j := by
        rw [hhk, Nat.mul_add, Nat.mul_one]
        refine Nat.div_eq_of_lt_le ?_ ?_
        · rw [Nat.mul_comm]; omega
        · rw [Nat.add_mul, Nat.one_mul, Nat.mul_comm j S]; omega
      rw [hh]
      have hSj : a * (S * j) + a ≤ a * (S * (j + 1)) := by
        have : S * j + 1 ≤ S * (j + 1) := by rw [Nat.mul_add, Nat.mul_one]; omega
        have := Nat.mul_le_mul_left a this
        rw [Nat.mul_add, Nat.mul_one] at this
        exact this
      refine (unr_more (low_of j ?_) (up_of (j + 1) ?_)).symm
      · omega
      · omega
    · rw [if_neg (by omega)]
      by_cases hm1 : 1 < mid - mid2
      · rw [if_pos hm1]
        have hWm : W * mid2 + 2 * W ≤ W * mid := by
          have := Nat.mul_le_mul_left W (show mid2 + 2 ≤ mid by omega)
          rw [Nat.mul_add, Nat.mul_comm W 2] at this
          exact this
        refine (unr_more (low_of k ?_) (up_of (k + 1) hup)).symm
        omega
      · rw [if_neg hm1]
        have hWm1 : W * mid ≤ W * mid2 + W := by
          have := Nat.mul_le_mul_left W (show mid ≤ mid2 + 1 by omega)
          rw [Nat.mul_add, Nat.mul_one] at this
          exact this
        have hWm2 : W * mid2 ≤ W * mid := Nat.mul_le_mul_left W hm
        refine (unr_exact hD ?_).symm
        rcases sep k with h0 | ⟨h0, h1⟩ | ⟨h0, h1⟩
        · exact h0
        · exfalso
          have t1 : N * (a * S) ≤ D * (a * (S * k) + W) := Nat.le_trans U (Nat.mul_le_mul_left _ (by omega))
          rw [Nat.mul_add] at t1
          have t2 : D * (2 * W) < G * (N - D * k) * (2 * W) := Nat.mul_lt_mul_of_pos_right h1 (by omega)
          rw [Nat.mul_right_comm, hG, Nat.mul_sub] at t2
          rw [show a * S * (D * k) = D * (a * (S * k)) by rw [Nat.mul_left_comm, Nat.mul_assoc], Nat.mul_comm (a * S) N] at t2
          have t3 : D * (2 * W) = D * W + D * W := by rw [Nat.two_mul, Nat.mul_add]
          omega
        · exfalso
          have t1 : D * (a * (S * k) - (2 * W - 1)) ≤ N * (a * S) := Nat.le_trans (Nat.mul_le_mul_left _ (by omega)) L
          rw [Nat.mul_sub] at t1
          have t2 : D * (2 * W) < G * (D * k - N) * (2 * W) := Nat.mul_lt_mul_of_pos_right h1 (by omega)
          rw [Nat.mul_right_comm, hG, Nat.mul_sub] at t2
          rw [show a * S * (D * k) = D * (a * (S * k)) by rw [Nat.mul_left_comm, Nat.mul_assoc], Nat.mul_comm (a * S) N] at t2
          have t3 : D * (2 * W - 1) ≤ D * (2 * W) := Nat.mul_le_mul_left _ (by omega)
          omega
  · have hne : k * S ≠ h := by
      intro he
      rw [Nat.mul_comm] at he
      omega
    rw [if_pos hne]
    have har : a ≤ a * r := Nat.le_mul_of_pos_right _ (by omega)
    refine (unr_more (low_of k ?_) (up_of (k + 1) hup)).symm
    omega
end Go.Proofs.YtbengmceiaejeaaGreatDoor
/- What is asked of an unrounded number; and that the library's way to the fewest digits is the document's. -/
namespace Go.Proofs.YtbengmceiaejeaaGreatDoor

theorem or_one (f : Nat) : f ||| 1 = 2 * (f / 2) + 1 := by
  have h : 2 ^ 1 * (f / 2) + 1 = 2 ^ 1 * (f / 2) ||| 1 := Nat.two_pow_add_eq_or_of_lt (by decide) (f / 2)
  have e : f = 2 * (f / 2) + f % 2 := by omega
  rw [Nat.pow_one] at h
  rcases Nat.mod_two_eq_zero_or_one f with h0 | h0
  · conv => lhs; rw [e, h0, Nat.add_zero]
    exact h.symm
  · have e2 : f = 2 * (f / 2) ||| 1 := by rw [← h]; omega
    conv => lhs; rw [e2, Nat.or_assoc, Nat.or_self]
    exact h.symm

/-- The number is k and ρ more, of 4 D; the unrounded one says so in four parts. -/
theorem unr_parts {N D : Nat} (hD : 0 < D) : ∃ k r ρ, N = 4 * D * k + ρ ∧ ρ < 4 * D ∧ unr N D = 4 * k + r ∧
    ((r = 0 ∧ ρ = 0) ∨ (r = 1 ∧ 0 < ρ ∧ ρ < 2 * D) ∨ (r = 2 ∧ ρ = 2 * D) ∨ (r = 3 ∧ 2 * D < ρ)) := by
  have hdm := Nat.div_add_mod N D
  have hmod := Nat.mod_lt N hD
  obtain ⟨f, ef⟩ : ∃ f, N / D = f := ⟨_, rfl⟩
  obtain ⟨g, eg⟩ : ∃ g, N % D = g := ⟨_, rfl⟩
  rw [ef, eg] at hdm
  rw [eg] at hmod
  have hf : f = 4 * (f / 4) + f % 4 := by omega
  have e1 : D * f = 4 * D * (f / 4) + D * (f % 4) := by
    conv => lhs; rw [hf]
    rw [Nat.mul_add, Nat.mul_comm 4 D, Nat.mul_assoc]
  unfold unr
  rw [ef, eg]
  have h4 : f % 4 = 0 ∨ f % 4 = 1 ∨ f % 4 = 2 ∨ f % 4 = 3 := by omega
  by_cases hg : g = 0
  · subst hg
    rw [if_pos rfl, Nat.or_zero]
    refine ⟨f / 4, if f % 4 = 3 then 3 else f % 4, D * (f % 4), by omega, ?_, ?_, ?_⟩
    · rcases h4 with h | h | h | h <;> rw [h] <;> omega
    · rcases h4 with h | h | h | h <;> rw [h] <;> simp <;> omega
    · rcases h4 with h | h | h | h <;> rw [h] <;> simp <;> omega
  · rw [if_neg hg, or_one]
    refine ⟨f / 4, if f % 4 < 2 then 1 else 3, D * (f % 4) + g, by omega, ?_, ?_, ?_⟩
    · rcases h4 with h | h | h | h <;> rw [h] <;> omega
    · rcases h4 with h | h | h | h <;> rw [h] <;> simp <;> omega
    · rcases h4 with h | h | h | h <;> rw [h] <;> simp <;> omega

/-- From here on: up and down, with the borders or without. -/
theorem ceil_le {N D : Nat} (hD : 0 < D) (d : Nat) : (unr N D + 3) / 4 ≤ d ↔ N ≤ 4 * D * d := by
  obtain ⟨k, r, ρ, e1, e2, e3, e4⟩ := unr_parts (N := N) hD
  rw [e3]
  constructor
  · intro h
    rcases Nat.lt_or_ge d (k + 1) with hd | hd
    · have hdk : d = k ∧ r = 0 := by omega
      rw [hdk.1]; omega
    · have := Nat.mul_le_mul_left (4 * D) hd
      rw [Nat.mul_add, Nat.mul_one] at this
      omega
  · intro h
    rcases Nat.lt_or_ge d (k + 1) with hd | hd
    · rcases Nat.lt_or_ge d k with hk | hk
      · exfalso
        have := Nat.mul_le_mul_left (4 * D) (show d + 1 ≤ k from hk)
        rw [Nat.mul_add, Nat.mul_one] at this
        omega
      · have : d = k := by omega
        subst this
        have : ρ = 0 := by omega
        omega
    · omega

theorem over_le {N D : Nat} (hD : 0 < D) (d : Nat) : (unr N D + 1 + 3) / 4 ≤ d ↔ N < 4 * D * d := by
  obtain ⟨k, r, ρ, e1, e2, e3, e4⟩ := unr_parts (N := N) hD
  rw [e3]
  constructor
  · intro h
    have := Nat.mul_le_mul_left (4 * D) (show k + 1 ≤ d by omega)
    rw [Nat.mul_add, Nat.mul_one] at this
    omega
  · intro h
    rcases Nat.lt_or_ge k d with hk | hk
    · omega
    · exfalso
      have := Nat.mul_le_mul_left (4 * D) hk
      omega

theorem le_floor {N D : Nat} (hD : 0 < D) (d : Nat) : d ≤ unr N D / 4 ↔ 4 * D * d ≤ N := by
  obtain ⟨k, r, ρ, e1, e2, e3, e4⟩ := unr_parts (N := N) hD
  rw [e3]
  constructor
  · intro h
    have := Nat.mul_le_mul_left (4 * D) (show d ≤ k by omega)
    omega
  · intro h
    rcases Nat.lt_or_ge k d with hk | hk
    · exfalso
      have := Nat.mul_le_mul_left (4 * D) (show k + 1 ≤ d from hk)
      rw [Nat.mul_add, Nat.mul_one] at this
      omega
    · omega

theorem le_under {N D : Nat} (hD : 0 < D) (hN : 0 < N) (d : Nat) : d ≤ (unr N D - 1) / 4 ↔ 4 * D * d < N := by
  obtain ⟨k, r, ρ, e1, e2, e3, e4⟩ := unr_parts (N := N) hD
  rw [e3]
  by_cases hr : r = 0
  · subst hr
    have hρ : ρ = 0 := by omega
    subst hρ
    have hk : k ≠ 0 := by rintro rfl; simp at e1; omega
    constructor
    · intro h
      have := Nat.mul_le_mul_left (4 * D) (show d + 1 ≤ k by omega)
      rw [Nat.mul_add, Nat.mul_one] at this
      omega
    · intro h
      rcases Nat.lt_or_ge d k with hd | hd
      · omega
      · exfalso
        have := Nat.mul_le_mul_left (4 * D) hd
        omega
  · constructor
    · intro h
      have := Nat.mul_le_mul_left (4 * D) (show d ≤ k by omega)
      omega
    · intro h
      rcases Nat.lt_or_ge k d with hk | hk
      · exfalso
        have := Nat.mul_le_mul_left (4 * D) (show k + 1 ≤ d from hk)
        rw [Nat.mul_add, Nat.mul_one] at this
        omega
      · omega

/-- The nearest whole number: which of k and k + 1 it is. -/
def rnd4 (u : Nat) : Nat := (u + 1 + u / 4 % 2) / 4

theorem rnd4_is {N D k ρ : Nat} (hD : 0 < D) (h : N = 4 * D * k + ρ) (hρ : ρ < 4 * D) :
    rnd4 (unr N D) = if ρ < 2 * D then k else if 2 * D < ρ then k + 1 else if k % 2 = 0 then k else k + 1 := by
  obtain ⟨k', r, ρ', e1, e2, e3, e4⟩ := unr_parts (N := N) hD
  have hk : k' = k := by
    rcases Nat.lt_trichotomy k' k with h' | h' | h'
    · exfalso
      have := Nat.mul_le_mul_left (4 * D) (show k' + 1 ≤ k from h')
      rw [Nat.mul_add, Nat.mul_one] at this
      omega
    · exact h'
    · exfalso
      have := Nat.mul_le_mul_left (4 * D) (show k + 1 ≤ k' from h')
      rw [Nat.mul_add, Nat.mul_one] at this
      omega
  subst hk
  have hρ' : ρ' = ρ := by omega
  subst hρ'
  unfold rnd4
  rw [e3]
  have e5 : (4 * k' + r) / 4 = k' := by omega
  rw [e5]
  have hp : k' % 2 = 0 ∨ k' % 2 = 1 := by omega
  rcases e4 with ⟨h1, h2⟩ | ⟨h1, h2, h3⟩ | ⟨h1, h2⟩ | ⟨h1, h2⟩ <;> subst h1 <;> rcases hp with hp | hp <;> rw [hp]
  · rw [if_pos (by omega)]; omega
  · rw [if_pos (by omega)]; omega
  · rw [if_pos (by omega)]; omega
  · rw [if_pos (by omega)]; omega
  · rw [if_neg (by omega), if_neg (by omega), if_pos rfl]; omega
  · rw [if_neg (by omega), if_neg (by omega), if_neg (by omega)]; omega
  · rw [if_neg (by omega), if_pos (by omega)]; omega
  · rw [if_neg (by omega), if_pos (by omega)]; omega
end Go.Proofs.YtbengmceiaejeaaGreatDoor
/- The fewest digits: the library's choice is the document's. -/
namespace Go.Proofs.YtbengmceiaejeaaGreatDoor

/-- What is known of the numbers that are read as one real: I tells which they are, in units; the real is mant A / M units, k and a part ρ / 4 M. -/
structure Span (A M mant ylo k ρ : Nat) (I : Nat → Bool) : Prop where
  hM : 0 < M
  lo1 : ylo < 4 * mant
  lo2 : 4 * mant ≤ ylo + 2
  ylo0 : 0 < ylo * A
  width : (4 * mant + 2) * A < ylo * A + 40 * M
  inL : ∀ d, I d = true → ylo * A ≤ 4 * M * d
  inU : ∀ d, I d = true → 4 * M * d ≤ (4 * mant + 2) * A
  out : ∀ d, I d = false → 4 * M * d ≤ ylo * A ∨ (4 * mant + 2) * A ≤ 4 * M * d
  conv : ∀ a b c, I a = true → I c = true → a ≤ b → b ≤ c → I b = true
  val : 4 * mant * A = 4 * M * k + ρ
  rho : ρ < 4 * M
  near : I k = true ∨ I (k + 1) = true
  /-- where there is one digit alone -/
  tiny : k < 10 → I 10 = true → k = 9 ∧ 2 * M < ρ

theorem Span.pos {A M mant ylo k ρ : Nat} {I : Nat → Bool} (h : Span A M mant ylo k ρ I) {d : Nat} (hd : I d = true) : 0 < d := by
  rcases Nat.eq_zero_or_pos d with rfl | h0
  · have := h.inL 0 hd
    have := h.ylo0
    omega
  · exact h0

/-- Of multiples of ten there is one at most. -/
theorem Span.one {A M mant ylo k ρ : Nat} {I : Nat → Bool} (h : Span A M mant ylo k ρ I) {a b : Nat} (ha : I (10 * a) = true) (hb : I (10 * b) = true) : a = b := by
  have key : ∀ x y, I (10 * x) = true → I (10 * y) = true → ¬ x < y := by
    intro x y hx hy hlt
    have h1 := h.inL _ hx
    have h2 := h.inU _ hy
    have h3 := h.width
    have h4 := Nat.mul_le_mul_left (4 * M) (show 10 * x + 10 ≤ 10 * y by omega)
    rw [Nat.mul_add] at h4
    have h5 : 4 * M * 10 = 40 * M := by omega
    omega
  have := key a b ha hb
  have := key b a hb ha
  omega

def goRes (dmin dmax rnd : Nat) : Nat := if dmin ≤ dmax / 10 * 10 then dmax / 10 * 10 else if dmin < dmax then rnd else dmin

/-- What the document's way takes of the two neighbours at a place. -/
def pickJ (I : Nat → Bool) (k j : Nat) (up : Bool) : Nat :=
  if I (k / 10 ^ j * 10 ^ j) && I ((k / 10 ^ j + 1) * 10 ^ j) then (if up then k / 10 ^ j + 1 else k / 10 ^ j)
  else if I ((k / 10 ^ j + 1) * 10 ^ j) then k / 10 ^ j + 1 else k / 10 ^ j

/-- Which of k and k + 1 is nearer: the upper one? -/
def upper (M ρ k : Nat) : Bool := decide (2 * M < ρ) || (ρ == 2 * M && k % 2 == 1)

theorem rnd_upper {N D k ρ : Nat} (hD : 0 < D) (h : N = 4 * D * k + ρ) (hρ : ρ < 4 * D) : rnd4 (unr N D) = if upper D ρ k then k + 1 else k := by
  rw [rnd4_is hD h hρ]
  unfold upper
  by_cases h1 : ρ < 2 * D
  · rw [if_pos h1, if_neg]
    simp
    omega
  · rw [if_neg h1]
    by_cases h2 : 2 * D < ρ
    · rw [if_pos h2, if_pos]
      simp [h2]
    · rw [if_neg h2]
      have h3 : ρ = 2 * D := by omega
      rcases Nat.mod_two_eq_zero_or_one k with h4 | h4
      · rw [if_pos h4, if_neg]
        simp [h4]; omega
      · rw [if_neg (by omega), if_pos]
        simp [h4, h3]

theorem Span.low_top {A M mant ylo k ρ : Nat} {I : Nat → Bool} {dmin dmax : Nat} (h : Span A M mant ylo k ρ I) (hI : ∀ d, I d = true ↔ dmin ≤ d ∧ d ≤ dmax) : dmin ≤ dmax := by
  rcases h.near with h1 | h1 <;> have := (hI _).1 h1 <;> omega

/-- The nearest one is one of them, unless there is one alone. -/
theorem Span.rnd_in {A M mant ylo k ρ : Nat} {I : Nat → Bool} {dmin dmax : Nat} (h : Span A M mant ylo k ρ I) (hI : ∀ d, I d = true ↔ dmin ≤ d ∧ d ≤ dmax) (hlt : dmin < dmax) : I (if upper M ρ k then k + 1 else k) = true ∧ (I k = true → I (k + 1) = false → upper M ρ k = false) ∧ (I k = false → upper M ρ k = true) := by
  have hval := h.val
  have hrho := h.rho
  have l2 := h.lo2
  have l1 := h.lo1
  have e2 : (4 * mant + 2) * A = 4 * mant * A + 2 * A := by rw [Nat.add_mul]
  have a1 : I k = true → I (k + 1) = false → upper M ρ k = false := by
    intro hk hk1
    have t1 := (hI k).1 hk
    have t2 : ¬ (k + 1 ≤ dmax) := fun hh => by
      have := (hI (k + 1)).2 ⟨by omega, hh⟩
      rw [hk1] at this
      cases this
    have hd : dmin ≤ k - 1 ∧ 1 ≤ k := by omega
    have u1 := h.inL (k - 1) ((hI _).2 ⟨hd.1, by omega⟩)
    have u2 := h.out (k + 1) hk1
    rw [Nat.mul_add, Nat.mul_one] at u2
    have u3 : 4 * M * k = 4 * M * (k - 1) + 4 * M := by rw [← Nat.mul_succ]; congr 1; omega
    have u4 := h.inL k hk
    have e3 : 4 * mant * A ≤ ylo * A + 2 * A := by rw [← Nat.add_mul]; exact Nat.mul_le_mul_right _ l2
    unfold upper
    simp
    omega
  have a2 : I k = false → upper M ρ k = true := by
    intro hk
    have hk1 : I (k + 1) = true := by
      rcases h.near with h1 | h1
      · rw [hk] at h1; cases h1
      · exact h1
    have t1 := (hI (k + 1)).1 hk1
    have t2 : ¬ (dmin ≤ k) := fun hh => by
      have := (hI k).2 ⟨hh, by omega⟩
      rw [hk] at this
      cases this
    have u1 := h.inU (k + 2) ((hI _).2 ⟨by omega, by omega⟩)
    have u2 := h.out k hk
    rw [show k + 2 = k + 1 + 1 from rfl, Nat.mul_add, Nat.mul_add, Nat.mul_one] at u1
    have u4 := h.inU (k + 1) hk1
    rw [Nat.mul_add, Nat.mul_one] at u4
    have e3 : ylo * A + A ≤ 4 * mant * A := by
      have := Nat.mul_le_mul_right A (show ylo + 1 ≤ 4 * mant by omega)
      rw [Nat.add_mul, Nat.one_mul] at this
      exact this
    unfold upper
    have : 2 * M < ρ := by omega
    simp [this]
  refine ⟨?_, a1, a2⟩
  by_cases hk : I k = true
  · by_cases hk1 : I (k + 1) = true
    · split <;> assumption
    · rw [a1 hk (by simpa using hk1)]
      exact hk
  · rw [a2 (by simpa using hk)]
    rcases h.near with h1 | h1
    · exact absurd h1 hk
    · exact h1

theorem Span.res_in {A M mant ylo k ρ : Nat} {I : Nat → Bool} {dmin dmax : Nat} (h : Span A M mant ylo k ρ I) (hI : ∀ d, I d = true ↔ dmin ≤ d ∧ d ≤ dmax) : I (goRes dmin dmax (if upper M ρ k then k + 1 else k)) = true := by
  have hlt := h.low_top hI
  unfold goRes
  split
  · exact (hI _).2 ⟨by assumption, by omega⟩
  · split
    · rename_i h2
      exact (h.rnd_in hI h2).1
    · exact (hI _).2 ⟨Nat.le_refl _, hlt⟩

/-- A multiple of ten is the answer, where there is one. -/
theorem Span.ten {A M mant ylo k ρ : Nat} {I : Nat → Bool} {dmin dmax : Nat} (h : Span A M mant ylo k ρ I) (hI : ∀ d, I d = true ↔ dmin ≤ d ∧ d ≤ dmax) {c : Nat} (hc : I (10 * c) = true) : goRes dmin dmax (if upper M ρ k then k + 1 else k) = 10 * c := by
  have hb := (hI _).1 hc
  have : dmin ≤ dmax / 10 * 10 := by omega
  unfold goRes
  rw [if_pos this]
  have h2 : I (10 * (dmax / 10)) = true := (hI _).2 ⟨by omega, by omega⟩
  have := h.one hc h2
  omega

theorem Span.not_ten {A M mant ylo k ρ : Nat} {I : Nat → Bool} {dmin dmax : Nat} (h : Span A M mant ylo k ρ I) (hI : ∀ d, I d = true ↔ dmin ≤ d ∧ d ≤ dmax) (hg : goRes dmin dmax (if upper M ρ k then k + 1 else k) % 10 ≠ 0) : pickJ I k 0 (upper M ρ k) = goRes dmin dmax (if upper M ρ k then k + 1 else k) := by
  have hlt := h.low_top hI
  have hb : ¬ dmin ≤ dmax / 10 * 10 := by
    intro hh
    apply hg
    unfold goRes
    rw [if_pos hh]
    omega
  unfold pickJ goRes
  rw [if_neg hb]
  simp only [Nat.pow_zero, Nat.div_one, Nat.mul_one]
  by_cases h2 : dmin < dmax
  · rw [if_pos h2]
    obtain ⟨_, r1, r2⟩ := h.rnd_in hI h2
    by_cases hk : I k = true
    · by_cases hk1 : I (k + 1) = true
      · rw [hk, hk1]; simp
      · have hk1' : I (k + 1) = false := by simpa using hk1
        rw [hk, hk1', r1 hk hk1']; simp
    · have hk' : I k = false := by simpa using hk
      rw [hk', r2 hk']
      rcases h.near with h1 | h1
      · exact absurd h1 hk
      · rw [h1]; simp
  · rw [if_neg h2]
    by_cases hk : I k = true
    · have t1 := (hI k).1 hk
      have hk1 : I (k + 1) = false := by
        rw [Bool.eq_false_iff]
        intro hh
        have := (hI _).1 hh
        omega
      rw [hk, hk1]; simp
      omega
    · have hk' : I k = false := by simpa using hk
      have h1 : I (k + 1) = true := by
        rcases h.near with h1 | h1
        · exact absurd h1 hk
        · exact h1
      have t1 := (hI _).1 h1
      rw [hk', h1]; simp
      omega

/-- At a place at which there is one, one of the neighbours is. -/
theorem Span.nbr {A M mant ylo k ρ : Nat} {I : Nat → Bool} (h : Span A M mant ylo k ρ I) {c j : Nat} (hc : I (c * 10 ^ j) = true) : I (k / 10 ^ j * 10 ^ j) = true ∨ I ((k / 10 ^ j + 1) * 10 ^ j) = true := by
  have hT : 0 < 10 ^ j := Nat.pow_pos (by decide)
  have hdm := Nat.div_add_mod k (10 ^ j)
  have hmod := Nat.mod_lt k hT
  obtain ⟨T, eT⟩ : ∃ T, 10 ^ j = T := ⟨_, rfl⟩
  rw [eT] at hT hdm hmod hc ⊢
  obtain ⟨q, eq⟩ : ∃ q, k / T = q := ⟨_, rfl⟩
  rw [eq] at hdm ⊢
  have e1 : q * T = T * q := Nat.mul_comm _ _
  have e2 : (q + 1) * T = T * q + T := by rw [Nat.add_mul, Nat.one_mul, e1]
  rcases Nat.lt_or_ge k (c * T) with hlt | hge
  · right
    have hk1 : I (k + 1) = true := by
      rcases h.near with h1 | h1
      · exact h.conv k (k + 1) (c * T) h1 hc (by omega) hlt
      · exact h1
    have hcq : q + 1 ≤ c := by
      rcases Nat.lt_or_ge q c with hh | hh
      · exact hh
      · have := Nat.mul_le_mul_right T hh
        omega
    have := Nat.mul_le_mul_right T hcq
    exact h.conv (k + 1) _ (c * T) hk1 hc (by omega) this
  · left
    have hk0 : I k = true := by
      rcases h.near with h1 | h1
      · exact h1
      · exact h.conv (c * T) k (k + 1) hc h1 hge (by omega)
    have hcq : c ≤ q := by
      rcases Nat.lt_or_ge q c with hh | hh
      · have := Nat.mul_le_mul_right T (show q + 1 ≤ c from hh)
        omega
      · exact hh
    have := Nat.mul_le_mul_right T hcq
    exact h.conv (c * T) _ k hc hk0 this (by omega)

/-- At a place with noughts behind it what is taken is the answer. -/
theorem Span.pick_ten {A M mant ylo k ρ : Nat} {I : Nat → Bool} {dmin dmax : Nat} (h : Span A M mant ylo k ρ I) (hI : ∀ d, I d = true ↔ dmin ≤ d ∧ d ≤ dmax) {c j : Nat} (hj : 1 ≤ j) (hc : I (c * 10 ^ j) = true) (up : Bool) :
    (I (k / 10 ^ j * 10 ^ j) || I ((k / 10 ^ j + 1) * 10 ^ j)) = true ∧ pickJ I k j up * 10 ^ j = goRes dmin dmax (if upper M ρ k then k + 1 else k) := by
  obtain ⟨i, rfl⟩ : ∃ i, j = i + 1 := ⟨j - 1, by omega⟩
  have hT : 0 < 10 ^ i := Nat.pow_pos (by decide)
  have ten : ∀ c, I (c * 10 ^ (i + 1)) = true → goRes dmin dmax (if upper M ρ k then k + 1 else k) = c * 10 ^ (i + 1) := by
    intro c hc
    have e : c * 10 ^ (i + 1) = 10 * (c * 10 ^ i) := by rw [Nat.pow_succ, ← Nat.mul_assoc, Nat.mul_comm]
    rw [e] at hc ⊢
    exact h.ten hI hc
  have hn := h.nbr hc
  unfold pickJ
  by_cases ha : I (k / 10 ^ (i + 1) * 10 ^ (i + 1)) = true
  · by_cases hb : I ((k / 10 ^ (i + 1) + 1) * 10 ^ (i + 1)) = true
    · exfalso
      have t1 := ten _ ha
      have t2 := ten _ hb
      rw [t1, Nat.add_mul, Nat.one_mul] at t2
      have : 0 < 10 ^ (i + 1) := Nat.pow_pos (by decide)
      omega
    · have hb' : I ((k / 10 ^ (i + 1) + 1) * 10 ^ (i + 1)) = false := by simpa using hb
      rw [ha, hb']
      simp
      exact (ten _ ha).symm
  · have ha' : I (k / 10 ^ (i + 1) * 10 ^ (i + 1)) = false := by simpa using ha
    rcases hn with h1 | h1
    · exact absurd h1 ha
    · rw [ha', h1]
      simp
      exact (ten _ h1).symm
end Go.Proofs.YtbengmceiaejeaaGreatDoor
/- At which place the document's way stops, and with what. -/
namespace Go.Proofs.YtbengmceiaejeaaGreatDoor

theorem strip {g : Nat} (hg : 0 < g) : ∃ i g', g = g' * 10 ^ i ∧ g' % 10 ≠ 0 := by
  induction g using Nat.strongRecOn with
  | _ g ih =>
    by_cases h : g % 10 = 0
    · obtain ⟨i, g', e, h'⟩ := ih (g / 10) (by omega) (by omega)
      refine ⟨i + 1, g', ?_, h'⟩
      rw [Nat.pow_succ, ← Nat.mul_assoc, ← e]
      omega
    · exact ⟨0, g, by simp, h⟩

theorem pick_or (I : Nat → Bool) (k j : Nat) (up : Bool) : pickJ I k j up = k / 10 ^ j ∨ pickJ I k j up = k / 10 ^ j + 1 := by
  unfold pickJ
  split
  · split <;> simp
  · split <;> simp

theorem Span.main {A M mant ylo k ρ : Nat} {I : Nat → Bool} {dmin dmax J : Nat} (h : Span A M mant ylo k ρ I) (hI : ∀ d, I d = true ↔ dmin ≤ d ∧ d ≤ dmax)
    (hJ : 1 ≤ J) (hk1 : 10 ^ (J - 1) ≤ k) (hk2 : k < 10 ^ J) (up : Nat → Bool) (hup : up 0 = upper M ρ k) :
    ∃ j, j < J ∧ (I (k / 10 ^ j * 10 ^ j) || I ((k / 10 ^ j + 1) * 10 ^ j)) = true ∧ (∀ i, j < i → i < J → (I (k / 10 ^ i * 10 ^ i) || I ((k / 10 ^ i + 1) * 10 ^ i)) = false) ∧
      pickJ I k j (up j) * 10 ^ j = goRes dmin dmax (if upper M ρ k then k + 1 else k) ∧
      ((pickJ I k j (up j) % 10 ≠ 0 ∧ pickJ I k j (up j) < 10 ^ (J - j) ∧ 10 ^ (J - j - 1) ≤ pickJ I k j (up j)) ∨ (j = J - 1 ∧ pickJ I k j (up j) = 10)) := by
  obtain ⟨g, eg⟩ : ∃ g, goRes dmin dmax (if upper M ρ k then k + 1 else k) = g := ⟨_, rfl⟩
  have hg : I g = true := by rw [← eg]; exact h.res_in hI
  obtain ⟨i, g', e, h'⟩ := strip (h.pos hg)
  have ten : ∀ c j, 1 ≤ j → I (c * 10 ^ j) = true → g = c * 10 ^ j := by
    intro c j hj hc
    obtain ⟨n, rfl⟩ : ∃ n, j = n + 1 := ⟨j - 1, by omega⟩
    have e : c * 10 ^ (n + 1) = 10 * (c * 10 ^ n) := by rw [Nat.pow_succ, ← Nat.mul_assoc, Nat.mul_comm]
    rw [e] at hc ⊢
    rw [← eg]
    exact h.ten hI hc
  rw [eg]
  rcases Nat.lt_or_ge i J with hi | hi
  · have hpick : (I (k / 10 ^ i * 10 ^ i) || I ((k / 10 ^ i + 1) * 10 ^ i)) = true ∧ pickJ I k i (up i) * 10 ^ i = g := by
      rcases Nat.eq_zero_or_pos i with h0 | h0
      · subst h0
        rw [hup]
        have hne : goRes dmin dmax (if upper M ρ k then k + 1 else k) % 10 ≠ 0 := by rw [eg, e]; simpa using h'
        have := h.not_ten hI hne
        rw [this, eg]
        refine ⟨?_, by simp⟩
        simp only [Nat.pow_zero, Nat.div_one, Nat.mul_one]
        rcases h.near with h1 | h1 <;> simp [h1]
      · have := h.pick_ten hI h0 (c := g') (by rw [← e]; exact hg) (up i)
        rw [eg] at this
        exact this
    have hT : 0 < 10 ^ i := Nat.pow_pos (by decide)
    have hp : pickJ I k i (up i) = g' := Nat.eq_of_mul_eq_mul_right hT (by rw [hpick.2, e])
    refine ⟨i, hi, hpick.1, ?_, hpick.2, Or.inl ⟨by rw [hp]; exact h', ?_, ?_⟩⟩
    · intro n hn hn2
      rw [Bool.eq_false_iff]
      intro hh
      have hc : ∃ c, I (c * 10 ^ n) = true := by
        rw [Bool.or_eq_true] at hh
        rcases hh with hh | hh
        · exact ⟨_, hh⟩
        · exact ⟨_, hh⟩
      obtain ⟨c, hc⟩ := hc
      have t := ten c n (by omega) hc
      obtain ⟨m, rfl⟩ : ∃ m, n = m + 1 + i := ⟨n - i - 1, by omega⟩
      rw [e, Nat.pow_add, ← Nat.mul_assoc] at t
      have t2 := Nat.eq_of_mul_eq_mul_right hT t
      rw [Nat.pow_succ, ← Nat.mul_assoc] at t2
      omega
    · have hkJ : k / 10 ^ i < 10 ^ (J - i) := by
        rw [Nat.div_lt_iff_lt_mul hT, ← Nat.pow_add]
        rw [show J - i + i = J by omega]
        exact hk2
      have := pick_or I k i (up i)
      rcases Nat.lt_or_ge (pickJ I k i (up i)) (10 ^ (J - i)) with hl | hl
      · exact hl
      · exfalso
        have he : pickJ I k i (up i) = 10 ^ (J - i) := by omega
        rw [hp] at he
        rw [show J - i = (J - i - 1) + 1 by omega, Nat.pow_succ] at he
        omega
    · have hkJ : 10 ^ (J - i - 1) ≤ k / 10 ^ i := by
        rw [Nat.le_div_iff_mul_le hT, ← Nat.pow_add]
        rw [show J - i - 1 + i = J - 1 by omega]
        exact hk1
      have := pick_or I k i (up i)
      omega
  · rcases Nat.lt_or_ge 1 J with hJ2 | hJ2
    · obtain ⟨n, rfl⟩ : ∃ n, J = n + 1 := ⟨J - 1, by omega⟩
      have hgc : g = (g' * 10 ^ (i - n)) * 10 ^ n := by
        rw [Nat.mul_assoc, ← Nat.pow_add, show i - n + n = i by omega]
        exact e
      have := h.pick_ten hI (j := n) (by omega) (c := g' * 10 ^ (i - n)) (by rw [← hgc]; exact hg) (up n)
      rw [eg] at this
      have hT : 0 < 10 ^ n := Nat.pow_pos (by decide)
      refine ⟨n, by omega, this.1, fun _ _ _ => by omega, this.2, Or.inr ⟨by omega, ?_⟩⟩
      have hp : pickJ I k n (up n) = g' * 10 ^ (i - n) := Nat.eq_of_mul_eq_mul_right hT (by rw [this.2]; exact hgc)
      have hkJ : k / 10 ^ n < 10 := by
        rw [Nat.div_lt_iff_lt_mul hT]
        rw [Nat.pow_succ, Nat.mul_comm] at hk2
        exact hk2
      have h2 := pick_or I k n (up n)
      have hg0 : 0 < g' := by omega
      have h3 : 10 ≤ g' * 10 ^ (i - n) := by
        rw [show i - n = (i - n - 1) + 1 by omega, Nat.pow_succ]
        have : 0 < g' * 10 ^ (i - n - 1) := Nat.mul_pos hg0 (Nat.pow_pos (by decide))
        rw [← Nat.mul_assoc]
        omega
      omega
    · have hJe : J = 1 := by omega
      subst hJe
      have hk10 : k < 10 := by simpa using hk2
      have hg10 : g = 10 * (g / 10) := by
        rw [e, show i = (i - 1) + 1 by omega, Nat.pow_succ, ← Nat.mul_assoc]
        omega
      have hg0 := h.pos hg
      have h10 : I 10 = true := by
        rcases h.near with h1 | h1
        · exact h.conv k 10 g h1 hg (by omega) (by omega)
        · exact h.conv (k + 1) 10 g h1 hg (by omega) (by omega)
      obtain ⟨rfl, hρ⟩ := h.tiny hk10 h10
      have hgt : g = 10 := by
        have := ten 1 1 (by omega) (by simpa using h10)
        simpa using this
      have hu : up 0 = true := by rw [hup]; unfold upper; simp [hρ]
      have hpk : pickJ I 9 0 (up 0) = 10 := by
        unfold pickJ
        simp only [Nat.pow_zero, Nat.div_one, Nat.mul_one, h10, hu]
        simp
      refine ⟨0, by omega, ?_, fun _ _ _ => by omega, ?_, Or.inr ⟨rfl, hpk⟩⟩
      · simp [h10]
      · rw [hpk, hgt]
end Go.Proofs.YtbengmceiaejeaaGreatDoor
