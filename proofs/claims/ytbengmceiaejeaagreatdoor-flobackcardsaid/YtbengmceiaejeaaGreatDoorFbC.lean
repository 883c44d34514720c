/- Separation for what is read: numbers of at most 57 binary digits; and the table's rows for them. -/
import Derived.Test.YtbengmceiaejeaaGreatDoorFtF
import Derived.Test.YtbengmceiaejeaaGreatDoorFtI
namespace Go.Proofs.YtbengmceiaejeaaGreatDoor

/-- The neighbours, as in nbrs, for a bound of one's own. -/
def nbrsY (Y : Nat) : Nat → Nat → Nat → Nat → Nat → Nat → Nat → Nat × Nat × Nat × Nat
  | 0, a, b, c, d, _, _ => (a, b, c, d)
  | f + 1, a, b, c, d, r1, r2 =>
    if Y ≤ a + c then (a, b, c, d)
    else if r2 ≤ r1 then
      let k := min ((r1 - 1) / r2) ((Y - a - c) / c + 1)
      nbrsY Y f (a + k * c) (b + k * d) c d (r1 - k * r2) r2
    else
      let k := min ((r2 - 1) / r1) ((Y - a - c) / a + 1)
      nbrsY Y f a b (c + k * a) (d + k * b) r1 (r2 - k * r1)

/-- Is A y / M, for all y below Y, a whole number or farther than 1 / G from all of them? -/
def sepY (Y A M G : Nat) : Bool :=
  if M < G then true
  else match nbrsY Y 64 1 0 0 1 (A % M) M with
    | (a, b, c, d) => a * d == b * c + 1 && M * b < A % M * a && A % M * c < M * d && Y ≤ a + c && M < G * (A % M * a - M * b) && M < G * (M * d - A % M * c)

theorem sepY_of {Y A M G y n : Nat} (h : sepY Y A M G = true) (hy : 0 < y) (hY : y < Y) : A * y = M * n ∨ (M * n < A * y ∧ M < G * (A * y - M * n)) ∨ (A * y < M * n ∧ M < G * (M * n - A * y)) := by
  have hd : A * y = M * (A / M * y) + A % M * y := by
    conv => lhs; rw [← Nat.div_add_mod A M]
    rw [Nat.add_mul, Nat.mul_assoc]
  unfold sepY at h
  split at h
  · rename_i hG
    rcases Nat.lt_trichotomy (M * n) (A * y) with hl | he | hl
    · right; left
      refine ⟨hl, Nat.lt_of_lt_of_le hG (Nat.le_mul_of_pos_right _ (by omega))⟩
    · left; exact he.symm
    · right; right
      refine ⟨hl, Nat.lt_of_lt_of_le hG (Nat.le_mul_of_pos_right _ (by omega))⟩
  · split at h
    rename_i a b c d _
    simp only [Bool.and_eq_true, decide_eq_true_eq, beq_iff_eq] at h
    obtain ⟨⟨⟨⟨⟨k1, k2⟩, k3⟩, k4⟩, k5⟩, k6⟩ := h
    obtain ⟨R, eR⟩ : ∃ R, A % M = R := ⟨_, rfl⟩
    rw [eR] at k2 k3 k5 k6 hd
    obtain ⟨t, et⟩ : ∃ t, A / M * y = t := ⟨_, rfl⟩
    rw [et] at hd
    rcases Nat.lt_or_ge n t with hn | hn
    · have h0 := farey (n := 0) k1 k2 k3 hy (Nat.lt_of_lt_of_le hY k4)
      rcases h0 with h0 | h0
      · right; left
        have e : M * t = M * n + M * (t - n) := by rw [← Nat.mul_add]; congr 1; omega
        have hle : R * a - M * b ≤ A * y - M * n := by omega
        have hpos : 0 < R * a - M * b := by omega
        exact ⟨by omega, Nat.lt_of_lt_of_le k5 (Nat.mul_le_mul_left _ hle)⟩
      · omega
    · obtain ⟨m, em⟩ : ∃ m, n = t + m := ⟨n - t, by omega⟩
      subst em
      rw [Nat.mul_add]
      have h0 := farey (n := m) k1 k2 k3 hy (Nat.lt_of_lt_of_le hY k4)
      rcases h0 with h0 | h0
      · right; left
        have hle : R * a - M * b ≤ A * y - (M * t + M * m) := by omega
        exact ⟨by omega, Nat.lt_of_lt_of_le k5 (Nat.mul_le_mul_left _ hle)⟩
      · right; right
        have hle : M * d - R * c ≤ M * t + M * m - A * y := by omega
        exact ⟨by omega, Nat.lt_of_lt_of_le k6 (Nat.mul_le_mul_left _ hle)⟩

/-- 10^p / 2^(l2 p + 2), as a fraction. -/
def rdA (p : Int) : Nat := 5 ^ p.toNat * 2 ^ (p - 2 - l2 p).toNat
def rdM (p : Int) : Nat := 5 ^ (-p).toNat * 2 ^ (2 + l2 p - p).toNat
def rowP (p : Int) : Nat × Nat := Go.Pinned.pow10Rows.getD (p + 348).toNat (0, 0)

def goodP (p : Int) (r : Nat × Nat) : Bool :=
  let PM := r.1 * 18446744073709551616 - r.2
  r.1 < 18446744073709551616 && r.2 < 18446744073709551616 && r.2 < r.1 * 18446744073709551616 &&
  128 * (PM - 1) * rdM p ≤ rdA p * 2 ^ 136 && rdA p * 2 ^ 136 ≤ 128 * PM * rdM p && rdM p ≤ 4 * rdA p && 2048 * rdA p ≤ 1023 * rdM p && sepY (2 ^ 57) (rdA p) (rdM p) (2 ^ 71)

theorem goodP_all : (List.range 656).all (fun i => goodP ((i : Int) - 345) (rowP ((i : Int) - 345))) = true := by decide +kernel

theorem good_p (p : Int) (h1 : -345 ≤ p) (h2 : p ≤ 310) : goodP p (rowP p) = true := by
  have := List.all_eq_true.1 goodP_all (p + 345).toNat (List.mem_range.2 (by omega))
  rw [show (((p + 345).toNat : Nat) : Int) - 345 = p by omega] at this
  exact this

/-- The least shift where the number has few digits. -/
def sbS (p : Int) : Nat := (max 8 (-(1070 + l2 p))).toNat
def sbA (p : Int) : Nat := 2 ^ (p + 1076).toNat
def sbM (p : Int) : Nat := 5 ^ (-p).toNat

def goodS (p : Int) (r : Nat × Nat) : Bool :=
  let PM := r.1 * 18446744073709551616 - r.2
  sbM p * (PM - 1) ≤ sbA p * 2 ^ (-949 - l2 p).toNat && sbA p * 2 ^ (-949 - l2 p).toNat ≤ sbM p * PM && sbA p * 2 ^ 80 ≤ sbM p * 2 ^ (1147 + l2 p).toNat * 1023 && sepY (2 ^ 57) (sbA p) (sbM p) (2 ^ (63 + sbS p))

theorem goodS_all : (List.range 38).all (fun i => goodS ((i : Int) - 345) (rowP ((i : Int) - 345))) = true := by decide +kernel

theorem good_s (p : Int) (h1 : -345 ≤ p) (h2 : p ≤ -308) : goodS p (rowP p) = true := by
  have := List.all_eq_true.1 goodS_all (p + 345).toNat (List.mem_range.2 (by omega))
  rw [show (((p + 345).toNat : Nat) : Int) - 345 = p by omega] at this
  exact this

theorem good_l2 (p : Int) (h1 : -345 ≤ p) (h2 : p ≤ 310) : -1147 ≤ l2 p ∧ l2 p ≤ 1030 := by unfold l2; omega
end Go.Proofs.YtbengmceiaejeaaGreatDoor
/- Reading by unrounded scaling: what the library's way makes of d * 10^p. -/
namespace Go.Proofs.YtbengmceiaejeaaGreatDoor

theorem rdM_pos (p : Int) : 0 < rdM p := Nat.mul_pos (Nat.pow_pos (by decide)) (Nat.two_pow_pos _)
theorem sbM_pos (p : Int) : 0 < sbM p := Nat.pow_pos (by decide)

theorem rd_of {d b : Nat} {p : Int} (h1 : -345 ≤ p) (h2 : p ≤ 310) (hd : 0 < d) (hb : d < 2 ^ b) (hb57 : b ≤ 57) :
    usF (d * 2 ^ (64 - b)) (rowP p).1 (rowP p).2 8 = unr (d * 2 ^ (57 - b) * rdA p) (rdM p) := by
  have hg := good_p p h1 h2
  unfold goodP at hg
  simp only [Bool.and_eq_true, decide_eq_true_eq] at hg
  obtain ⟨⟨⟨⟨⟨⟨⟨g1, g2⟩, g3⟩, g4⟩, g5⟩, g6⟩, g7⟩, g8⟩ := hg
  have hM0 := rdM_pos p
  obtain ⟨hi, ehi⟩ : ∃ h, (rowP p).1 = h := ⟨_, rfl⟩
  obtain ⟨lo, elo⟩ : ∃ h, (rowP p).2 = h := ⟨_, rfl⟩
  rw [ehi, elo] at g3 g4 g5 ⊢
  rw [ehi] at g1
  rw [elo] at g2
  obtain ⟨A, hA⟩ : ∃ A, rdA p = A := ⟨_, rfl⟩
  obtain ⟨M, hM⟩ : ∃ M, rdM p = M := ⟨_, rfl⟩
  rw [hA, hM] at g4 g5 g8
  rw [hM] at hM0
  rw [hA, hM]
  obtain ⟨v, ev⟩ : ∃ v, 57 - b = v := ⟨_, rfl⟩
  have e0 : 64 - b = 7 + v := by omega
  rw [e0, ev]
  have hy : d * 2 ^ v < 2 ^ 57 := by
    have : 2 ^ b * 2 ^ v = 2 ^ 57 := by rw [← Nat.pow_add]; congr 1; omega
    rw [← this]
    exact Nat.mul_lt_mul_of_pos_right hb (Nat.two_pow_pos v)
  have hy0 : 0 < d * 2 ^ v := Nat.mul_pos hd (Nat.two_pow_pos v)
  have e3 : d * 2 ^ (7 + v) = 128 * (d * 2 ^ v) := by rw [Nat.pow_add, Nat.mul_left_comm]
  obtain ⟨y, ey⟩ : ∃ y, d * 2 ^ v = y := ⟨_, rfl⟩
  rw [ey] at hy hy0 e3 ⊢
  rw [e3]
  refine usF_unr (by omega) g2 g3 hM0 ?_ ?_ ?_
  · have := Nat.mul_le_mul_left y g4
    refine Nat.le_trans (Nat.le_of_eq ?_) (Nat.le_trans this (Nat.le_of_eq ?_))
    · generalize hi * 18446744073709551616 - lo - 1 = P
      ac_rfl
    · rw [show 128 + 8 = 136 by decide, Nat.mul_assoc]
  · have := Nat.mul_le_mul_left y g5
    refine Nat.le_trans (Nat.le_of_eq ?_) (Nat.le_trans this (Nat.le_of_eq ?_))
    · rw [show 128 + 8 = 136 by decide, Nat.mul_assoc]
    · generalize hi * 18446744073709551616 - lo = P
      ac_rfl
  · intro n
    have := sepY_of (n := n) g8 hy0 hy
    rw [Nat.mul_comm A y] at this
    rw [show 63 + 8 = 71 by decide]
    exact this

theorem sb_of {d b s : Nat} {p : Int} (h1 : -345 ≤ p) (h2 : p ≤ -308) (hd : 0 < d) (hb : d < 2 ^ b) (hb57 : b ≤ 57) (hs : (s : Int) = -(1013 + b + l2 p)) (h8 : 8 ≤ s) :
    usF (d * 2 ^ (64 - b)) (rowP p).1 (rowP p).2 s = unr (d * sbA p) (sbM p) := by
  have hg0 := good_p p h1 (by omega)
  unfold goodP at hg0
  simp only [Bool.and_eq_true, decide_eq_true_eq] at hg0
  obtain ⟨⟨⟨⟨⟨⟨⟨_, g2⟩, g3⟩, _⟩, _⟩, _⟩, _⟩, _⟩ := hg0
  have hg := good_s p h1 h2
  unfold goodS at hg
  simp only [Bool.and_eq_true, decide_eq_true_eq] at hg
  obtain ⟨⟨⟨g4, g5⟩, _⟩, g8⟩ := hg
  have hM0 := sbM_pos p
  obtain ⟨hi, ehi⟩ : ∃ h, (rowP p).1 = h := ⟨_, rfl⟩
  obtain ⟨lo, elo⟩ : ∃ h, (rowP p).2 = h := ⟨_, rfl⟩
  rw [ehi, elo] at g3 g4 g5 ⊢
  rw [elo] at g2
  have hsb : sbS p ≤ s := by unfold sbS; omega
  have et : (-949 - l2 p).toNat = 64 + b + s := by omega
  rw [et] at g4 g5
  obtain ⟨A, hA⟩ : ∃ A, sbA p = A := ⟨_, rfl⟩
  obtain ⟨M, hM⟩ : ∃ M, sbM p = M := ⟨_, rfl⟩
  rw [hA, hM] at g4 g5 g8
  rw [hM] at hM0
  rw [hA, hM]
  have hx : d * 2 ^ (64 - b) < 18446744073709551616 := by
    have : 2 ^ b * 2 ^ (64 - b) = 2 ^ 64 := by rw [← Nat.pow_add]; congr 1; omega
    have h := Nat.mul_lt_mul_of_pos_right hb (Nat.two_pow_pos (64 - b))
    rw [this] at h
    exact h
  have e2 : 2 ^ (128 + s) = 2 ^ (64 - b) * 2 ^ (64 + b + s) := by rw [← Nat.pow_add]; congr 1; omega
  have hd57 : d < 2 ^ 57 := Nat.lt_of_lt_of_le hb (Nat.pow_le_pow_right (by decide) hb57)
  refine usF_unr hx g2 g3 hM0 ?_ ?_ ?_
  · have := Nat.mul_le_mul_left (d * 2 ^ (64 - b)) g4
    rw [e2]
    refine Nat.le_trans (Nat.le_of_eq ?_) (Nat.le_trans this (Nat.le_of_eq ?_))
    · generalize hi * 18446744073709551616 - lo - 1 = P
      generalize 2 ^ (64 - b) = V
      ac_rfl
    · generalize 2 ^ (64 - b) = V
      generalize 2 ^ (64 + b + s) = U
      ac_rfl
  · have := Nat.mul_le_mul_left (d * 2 ^ (64 - b)) g5
    rw [e2]
    refine Nat.le_trans (Nat.le_of_eq ?_) (Nat.le_trans this (Nat.le_of_eq ?_))
    · generalize 2 ^ (64 - b) = V
      generalize 2 ^ (64 + b + s) = U
      ac_rfl
    · generalize hi * 18446744073709551616 - lo = P
      generalize 2 ^ (64 - b) = V
      ac_rfl
  · intro n
    have hG : 2 ^ (63 + sbS p) ≤ 2 ^ (63 + s) := Nat.pow_le_pow_right (by decide) (by omega)
    have := sepY_of (n := n) g8 hd hd57
    rw [Nat.mul_comm A d] at this
    rcases this with h | ⟨h1, h2⟩ | ⟨h1, h2⟩
    · exact Or.inl h
    · exact Or.inr (Or.inl ⟨h1, Nat.lt_of_lt_of_le h2 (Nat.mul_le_mul_right _ hG)⟩)
    · exact Or.inr (Or.inr ⟨h1, Nat.lt_of_lt_of_le h2 (Nat.mul_le_mul_right _ hG)⟩)

theorem or_self_mod (u : Nat) : u ||| u % 2 = u := by
  rcases Nat.mod_two_eq_zero_or_one u with h | h
  · rw [h, Nat.or_zero]
  · rw [h, or_one]; omega

theorem unr_half {N D : Nat} (hD : 0 < D) : unr N (2 * D) = unr N D / 2 ||| unr N D % 2 := by
  have hdd : N / (2 * D) = N / D / 2 := by rw [Nat.div_div_eq_div_mul, Nat.mul_comm]
  have hdm := Nat.div_add_mod N D
  obtain ⟨f, ef⟩ : ∃ f, N / D = f := ⟨_, rfl⟩
  have h2 : N % (2 * D) = 0 ↔ N % D = 0 ∧ f % 2 = 0 := by
    have hdm2 := Nat.div_add_mod N (2 * D)
    rw [hdd, ef] at hdm2
    rw [ef] at hdm
    constructor
    · intro h
      rw [h, Nat.add_zero] at hdm2
      have e : 2 * D * (f / 2) = D * (2 * (f / 2)) := by ac_rfl
      rw [e] at hdm2
      have hm := Nat.mod_lt N hD
      have hf : 2 * (f / 2) ≤ f := by omega
      have hle := Nat.mul_le_mul_left D hf
      have hr : N % D = 0 := by omega
      refine ⟨hr, ?_⟩
      have : D * (2 * (f / 2)) = D * f := by omega
      have := Nat.eq_of_mul_eq_mul_left hD this
      omega
    · rintro ⟨h, hf⟩
      rw [h, Nat.add_zero] at hdm
      have e : 2 * D * (f / 2) = D * (2 * (f / 2)) := by ac_rfl
      rw [e, show 2 * (f / 2) = f by omega] at hdm2
      omega
  unfold unr
  rw [hdd, ef]
  by_cases h : N % D = 0
  · rw [if_pos h, Nat.or_zero]
    rcases Nat.mod_two_eq_zero_or_one f with hf | hf
    · rw [if_pos (h2.2 ⟨h, hf⟩), hf]
    · rw [if_neg (fun hc => by have := (h2.1 hc).2; omega), hf]
  · rw [if_neg h, if_neg (fun hc => h (h2.1 hc).1), or_one f]
    rw [show (2 * (f / 2) + 1) / 2 = f / 2 by omega, show (2 * (f / 2) + 1) % 2 = 1 by omega]

theorem rnd4_near {N D m : Nat} (hD : 0 < D) (hm : rnd4 (unr N D) = m) :
    4 * m * D ≤ N + 2 * D ∧ N ≤ 4 * m * D + 2 * D ∧ (m % 2 = 1 → 4 * m * D ≠ N + 2 * D ∧ N ≠ 4 * m * D + 2 * D) := by
  have hdm := Nat.div_add_mod N (4 * D)
  have hlt := Nat.mod_lt N (show 0 < 4 * D by omega)
  obtain ⟨k, ek⟩ : ∃ k, N / (4 * D) = k := ⟨_, rfl⟩
  obtain ⟨ρ, er⟩ : ∃ ρ, N % (4 * D) = ρ := ⟨_, rfl⟩
  rw [ek, er] at hdm
  rw [er] at hlt
  have h := rnd4_is hD hdm.symm hlt
  rw [hm] at h
  have e0 : 4 * k * D = 4 * D * k := by ac_rfl
  have e1 : 4 * (k + 1) * D = 4 * D * k + 4 * D := by rw [Nat.mul_add, Nat.add_mul, e0]
  split at h
  · subst h; rw [e0]; omega
  · split at h
    · subst h; rw [e1]; omega
    · split at h
      · subst h; rw [e0]; omega
      · subst h; rw [e1]; omega
end Go.Proofs.YtbengmceiaejeaaGreatDoor
/- The word that is packed out of an unrounded number, and its borders. -/
namespace Go.Proofs.YtbengmceiaejeaaGreatDoor

theorem lowY_le (m Q : Nat) (hm : 0 < m) : lowY m Q ≤ 4 * m - 1 ∧ 4 * m - 2 ≤ lowY m Q := by unfold lowY; split <;> omega

theorem pack_in {N D E u s m : Nat} (hD : 0 < D) (hE : E = 0 ∨ 18014398509481984 * D ≤ N) (hN2 : 1024 * N < 1023 * (72057594037927936 * D)) (hu : u = unr N D) (hs : s = if 36028797018963966 ≤ u then 1 else 0) (hm : m = rnd4 (u / 2 ^ s ||| u % 2)) :
    m < 9007199254740992 ∧ (E + s = 0 ∨ 4503599627370496 ≤ m) ∧ (0 < m → InW m (E + s) (D * 2 ^ s) N) ∧ (m = 0 → N ≤ 2 * D) := by
  have hdm := Nat.div_add_mod N D
  have hml := Nat.mod_lt N hD
  by_cases h : 36028797018963966 ≤ u
  · rw [if_pos h] at hs
    subst hs
    have hf : 36028797018963966 ≤ N / D := by
      rcases Nat.lt_or_ge (N / D) 36028797018963966 with hc | hc
      · exfalso
        rw [hu] at h
        unfold unr at h
        split at h
        · rw [Nat.or_zero] at h; omega
        · rw [or_one] at h; omega
      · exact hc
    have hN1 : 36028797018963966 * D ≤ N := by
      have := Nat.mul_le_mul_left D hf
      rw [Nat.mul_comm D 36028797018963966] at this
      omega
    rw [hu, Nat.pow_one, ← unr_half hD] at hm
    obtain ⟨r1, r2, r3⟩ := rnd4_near (show 0 < 2 * D by omega) hm.symm
    have e1 : 4 * m * (2 * D) = 8 * (m * D) := by rw [show 4 * m * (2 * D) = (4 * 2) * (m * D) by ac_rfl]
    rw [e1] at r1 r2 r3
    have hlo : 4503599627370496 ≤ m := by
      rcases Nat.lt_or_ge m 4503599627370496 with hc | hc
      · exfalso
        have := Nat.mul_le_mul_right D (show m ≤ 4503599627370495 by omega)
        omega
      · exact hc
    have hhi : m < 9007199254740992 := by
      rcases Nat.lt_or_ge m 9007199254740992 with hc | hc
      · exact hc
      · exfalso
        have := Nat.mul_le_mul_right D hc
        omega
    refine ⟨hhi, Or.inr hlo, fun _ => ?_, fun h0 => by omega⟩
    have eD : D * 2 ^ 1 = 2 * D := by rw [Nat.pow_one, Nat.mul_comm]
    rw [eD]
    unfold InW
    have eU : (4 * m + 2) * (2 * D) = 8 * (m * D) + 4 * D := by rw [Nat.add_mul, e1]; omega
    rw [eU]
    by_cases hsk : m = 4503599627370496
    · have hl : lowY m (E + 1) = 18014398509481983 := by unfold lowY; rw [if_pos ⟨hsk, by omega⟩, hsk]
      rw [hl]
      subst hsk
      exact ⟨⟨by omega, by omega⟩, fun ho => by simp at ho⟩
    · have hl : lowY m (E + 1) = 4 * m - 2 := by unfold lowY; rw [if_neg (fun hc => hsk hc.1)]
      have eL : (4 * m - 2) * (2 * D) = 8 * (m * D) - 4 * D := by rw [Nat.sub_mul, e1]; omega
      have h8 : 4 * D ≤ 8 * (m * D) := by
        have := Nat.mul_le_mul_right D (show 1 ≤ m by omega)
        omega
      rw [hl, eL]
      refine ⟨⟨by omega, by omega⟩, fun ho => ?_⟩
      have := r3 ho
      omega
  · rw [if_neg h] at hs
    subst hs
    rw [Nat.pow_zero, Nat.div_one, or_self_mod, hu] at hm
    have hf : N / D ≤ 36028797018963965 := by
      have := Nat.left_le_or (n := N / D) (m := if N % D = 0 then 0 else 1)
      have h2 : N / D ≤ u := by rw [hu]; exact this
      omega
    have hN1 : N < 36028797018963966 * D := by
      have := Nat.mul_le_mul_left D hf
      rw [Nat.mul_comm D 36028797018963965] at this
      omega
    obtain ⟨r1, r2, r3⟩ := rnd4_near hD hm.symm
    have e1 : 4 * m * D = 4 * (m * D) := Nat.mul_assoc _ _ _
    rw [e1] at r1 r2 r3
    have hhi : m < 9007199254740992 := by
      rcases Nat.lt_or_ge m 9007199254740992 with hc | hc
      · exact hc
      · exfalso
        have := Nat.mul_le_mul_right D hc
        omega
    have hlo : E = 0 ∨ 4503599627370496 ≤ m := by
      rcases hE with hE | hE
      · exact Or.inl hE
      · right
        rcases Nat.lt_or_ge m 4503599627370496 with hc | hc
        · exfalso
          have := Nat.mul_le_mul_right D (show m ≤ 4503599627370495 by omega)
          omega
        · exact hc
    refine ⟨hhi, by omega, fun h0 => ?_, fun h0 => by subst h0; omega⟩
    rw [Nat.pow_zero, Nat.mul_one, Nat.add_zero]
    unfold InW
    have eU : (4 * m + 2) * D = 4 * (m * D) + 2 * D := by rw [Nat.add_mul, e1]
    rw [eU]
    by_cases hsk : m = 4503599627370496 ∧ 0 < E
    · have hl : lowY m E = 18014398509481983 := by unfold lowY; rw [if_pos hsk, hsk.1]
      rw [hl]
      obtain ⟨hsk, hE0⟩ := hsk
      subst hsk
      exact ⟨⟨by omega, by omega⟩, fun ho => by simp at ho⟩
    · have hl : lowY m E = 4 * m - 2 := by unfold lowY; rw [if_neg hsk]
      have eL : (4 * m - 2) * D = 4 * (m * D) - 2 * D := by rw [Nat.sub_mul, e1]
      have h8 : 2 * D ≤ 4 * (m * D) := by
        have := Nat.mul_le_mul_right D (show 1 ≤ m by omega)
        omega
      rw [hl, eL]
      refine ⟨⟨by omega, by omega⟩, fun ho => ?_⟩
      have := r3 ho
      omega
end Go.Proofs.YtbengmceiaejeaaGreatDoor
