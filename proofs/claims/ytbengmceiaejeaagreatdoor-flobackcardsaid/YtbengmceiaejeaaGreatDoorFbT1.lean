/- What is read of d * 10^p is the document's word. -/
import Derived.Test.YtbengmceiaejeaaGreatDoorFbC
import Derived.Test.YtbengmceiaejeaaGreatDoorFtM1
import Derived.Test.YtbengmceiaejeaaGreatDoorFtM5
namespace Go.Proofs.YtbengmceiaejeaaGreatDoor

theorem inW_ratio {m Q B A4 D N : Nat} (hB : 0 < B) (hD : 0 < D) (h : N * B = A4 * D) (hi : InW m Q D N) : InW m Q B A4 := by
  rw [← inW_scale (t := B) hB, h, Nat.mul_comm D B] at hi
  exact (inW_scale hD).1 hi

theorem inW_more {m Q T A4 : Nat} (hm0 : 0 < m) (hT : 0 < T) (hQ : Q = 0 ∨ 4503599627370496 ≤ m) (h : InW m Q (2 ^ Q * T) A4) : 2 * T < A4 := by
  obtain ⟨⟨h1, h2⟩, h3⟩ := h
  have hp := Nat.two_pow_pos Q
  rcases hQ with hQ | hQ
  · subst hQ
    have hl : lowY m 0 = 4 * m - 2 := by unfold lowY; rw [if_neg (by omega)]
    rw [hl, Nat.pow_zero, Nat.one_mul] at h1 h3
    by_cases h0 : m = 1
    · subst h0
      have := (h3 (by decide)).1
      simp only [Nat.mul_one] at h1 this
      omega
    · have := Nat.mul_le_mul_right T (show 6 ≤ 4 * m - 2 by omega)
      omega
  · have hl := (lowY_le m Q hm0).2
    have hT2 : T ≤ 2 ^ Q * T := Nat.le_mul_of_pos_left _ hp
    have := Nat.mul_le_mul_right (2 ^ Q * T) (show 3 ≤ lowY m Q by omega)
    omega

theorem inW_finite {m Q m' E T A4 K : Nat} (hK : Q ≤ K) (hT : 0 < T) (hm : m < 9007199254740992) (hm' : 4503599627370496 ≤ m') (hE0 : 0 < E) (h : InW m Q (2 ^ Q * T) A4) (h' : InW m' E (2 ^ E * T) A4) : E ≤ K := by
  rcases Nat.lt_or_ge K E with hc | hc
  · exfalso
    obtain ⟨⟨_, h2⟩, h3⟩ := h
    obtain ⟨⟨h1', _⟩, _⟩ := h'
    have hl : 18014398509481983 ≤ lowY m' E := by
      unfold lowY
      split
      · omega
      · omega
    have hE : 2 * (2 ^ K * T) ≤ 2 ^ E * T := by
      have : 2 ^ (K + 1) ≤ 2 ^ E := Nat.pow_le_pow_right (by decide) hc
      rw [Nat.pow_succ, Nat.mul_comm (2 ^ K) 2] at this
      have := Nat.mul_le_mul_right T this
      rw [Nat.mul_assoc] at this
      exact this
    have hQ : 2 ^ Q * T ≤ 2 ^ K * T := Nat.mul_le_mul_right T (Nat.pow_le_pow_right (by decide) hK)
    have hP : 0 < 2 ^ K * T := Nat.mul_pos (Nat.two_pow_pos K) hT
    generalize 2 ^ K * T = P at hE hQ hP
    generalize 2 ^ Q * T = B at hQ h2 h3
    generalize 2 ^ E * T = C at hE h1'
    have t1 : 18014398509481983 * (2 * P) ≤ A4 := Nat.le_trans (Nat.le_trans (Nat.mul_le_mul_left _ hE) (Nat.mul_le_mul_right _ hl)) h1'
    by_cases h0 : m = 9007199254740991
    · subst h0
      have := (h3 (by decide)).2
      have t2 : (4 * 9007199254740991 + 2) * B ≤ (4 * 9007199254740991 + 2) * P := Nat.mul_le_mul_left _ hQ
      omega
    · have t2 : (4 * m + 2) * B ≤ (4 * m + 2) * P := Nat.mul_le_mul_left _ hQ
      have t3 : (4 * m + 2) * P ≤ 36028797018963962 * P := Nat.mul_le_mul_right _ (by omega)
      omega
  · exact hc

theorem pow_split (x : Int) : (5 : Nat) ^ x.toNat * 2 ^ x.toNat = 10 ^ x.toNat := by rw [← Nat.mul_pow]

/-- The ratio, where the number has all its digits. -/
theorem rd_ratio {d b E Z : Nat} {p : Int} (hZ : Z = 1074) (hb57 : b ≤ 57) (hE : (E : Int) = 1021 + b + l2 p) :
    d * 2 ^ (57 - b) * rdA p * (2 ^ E * 10 ^ (-p).toNat) = 4 * (d * 10 ^ p.toNat * 2 ^ Z) * rdM p := by
  unfold rdA rdM
  rw [← pow_split p, ← pow_split (-p)]
  have e : 2 ^ (57 - b) * 2 ^ (p - 2 - l2 p).toNat * 2 ^ E * 2 ^ (-p).toNat = 4 * 2 ^ p.toNat * 2 ^ Z * 2 ^ (2 + l2 p - p).toNat := by
    rw [show (4 : Nat) = 2 ^ 2 by decide, ← Nat.pow_add, ← Nat.pow_add, ← Nat.pow_add, ← Nat.pow_add, ← Nat.pow_add, ← Nat.pow_add]
    congr 1
    omega
  generalize 2 ^ (57 - b) = a1 at e ⊢
  generalize 2 ^ (p - 2 - l2 p).toNat = a2 at e ⊢
  generalize 2 ^ E = a3 at e ⊢
  generalize 2 ^ (-p).toNat = a4 at e ⊢
  generalize 2 ^ p.toNat = a5 at e ⊢
  generalize 2 ^ Z = a6 at e ⊢
  generalize 2 ^ (2 + l2 p - p).toNat = a7 at e ⊢
  generalize 5 ^ p.toNat = f1
  generalize 5 ^ (-p).toNat = f2
  have e1 : d * a1 * (f1 * a2) * (a3 * (f2 * a4)) = (d * f1 * f2) * (a1 * a2 * a3 * a4) := by ac_rfl
  rw [e1, e]
  ac_rfl

/-- The ratio, below. -/
theorem sb_ratio {d Z : Nat} {p : Int} (hZ : Z = 1074) (h1 : -345 ≤ p) (h2 : p ≤ -308) :
    d * sbA p * (2 ^ 0 * 10 ^ (-p).toNat) = 4 * (d * 10 ^ p.toNat * 2 ^ Z) * sbM p := by
  unfold sbA sbM
  rw [← pow_split (-p), (by omega : p.toNat = 0)]
  have e : 2 ^ (p + 1076).toNat * 2 ^ (-p).toNat = 4 * 2 ^ Z := by
    rw [show (4 : Nat) = 2 ^ 2 by decide, ← Nat.pow_add, ← Nat.pow_add]
    congr 1
    omega
  simp only [Nat.pow_zero, Nat.one_mul, Nat.mul_one]
  generalize 2 ^ (p + 1076).toNat = a1 at e ⊢
  generalize 2 ^ (-p).toNat = a2 at e ⊢
  generalize 2 ^ Z = a3 at e ⊢
  generalize 5 ^ (-p).toNat = f
  have e1 : d * a1 * (f * a2) = (d * f) * (a1 * a2) := by ac_rfl
  rw [e1, e]
  ac_rfl

theorem fin_word {q m : Nat} (h : q ≤ 2045) (hm : m < 9007199254740992) : q * 4503599627370496 + m < 9218868437227405312 := by omega
theorem word_inj {q m' Q m : Nat} (h : Q * 4503599627370496 + m = q * 4503599627370496 + m') (k1 : m' < 9007199254740992) (k2 : q = 0 ∨ 4503599627370496 ≤ m') (hm : m < 9007199254740992) (hsub : Q = 0 ∨ 4503599627370496 ≤ m) : m' = m ∧ q = Q := by
  rcases k2 with h | h <;> rcases hsub with h2 | h2 <;> omega

/-- What is packed, by its borders, is the word that the document reads. -/
theorem pack_word {d N D E u s m' m Q T A4 : Nat} {p : Int} (hD : 0 < D) (hT : 0 < T) (eT : T = 10 ^ (-p).toNat) (eA : A4 = 4 * (d * 10 ^ p.toNat * 2 ^ 1074)) (hm0 : 0 < m) (hm : m < 9007199254740992) (hQ : Q ≤ 2045) (hsub : Q = 0 ∨ 4503599627370496 ≤ m) (hf : Q * 4503599627370496 + m < 9218868437227405312) (hw : decR d p = Q * 4503599627370496 + m)
    (hr : N * (2 ^ E * T) = A4 * D) (hE : E = 0 ∨ 18014398509481984 * D ≤ N) (hN2 : 1024 * N < 1023 * (72057594037927936 * D)) (hu : u = unr N D) (hs : s = if 36028797018963966 ≤ u then 1 else 0) (hm' : m' = rnd4 (u / 2 ^ s ||| u % 2)) :
    m' = m ∧ E + s = Q := by
  obtain ⟨k1, k2, k3, k4⟩ := pack_in hD hE hN2 hu hs hm'
  obtain ⟨Z, hZ⟩ : ∃ Z : Nat, Z = 1074 := ⟨_, rfl⟩
  rw [← hZ] at eA
  have hi := (dec_iff hZ hm0 hm hsub hf).1 hw
  rw [← eT, ← eA] at hi
  have hmore := inW_more hm0 hT hsub hi
  have hB : ∀ x, 0 < 2 ^ x * T := fun x => Nat.mul_pos (Nat.two_pow_pos x) hT
  have h0 : 0 < m' := by
    rcases Nat.eq_zero_or_pos m' with hc | hc
    · exfalso
      have hN := k4 hc
      have hE0 : E = 0 := by
        rcases k2 with h | h
        · omega
        · omega
      rw [hE0, Nat.pow_zero, Nat.one_mul] at hr
      have h1 := Nat.mul_le_mul_right T hN
      have h2 := Nat.mul_lt_mul_of_pos_right hmore hD
      have e1 : 2 * D * T = 2 * T * D := by ac_rfl
      omega
    · exact hc
  have hs1 : s ≤ 1 := by rw [hs]; split <;> omega
  have hr' : N * (2 ^ (E + s) * T) = A4 * (D * 2 ^ s) := by
    rw [Nat.pow_add, show N * (2 ^ E * 2 ^ s * T) = N * (2 ^ E * T) * 2 ^ s by ac_rfl, hr, Nat.mul_assoc]
  have hi' := inW_ratio (hB (E + s)) (Nat.mul_pos hD (Nat.two_pow_pos s)) hr' (k3 h0)
  have hfin : E + s ≤ 2045 := by
    rcases k2 with h | h
    · omega
    · rcases Nat.eq_zero_or_pos (E + s) with h2 | h2
      · omega
      · exact inW_finite hQ hT hm h h2 hi hi'
  have hf' : (E + s) * 4503599627370496 + m' < 9218868437227405312 := fin_word hfin k1
  rw [eT, eA] at hi'
  have hw' := (dec_iff hZ h0 k1 k2 hf').2 hi'
  rw [hw] at hw'
  exact word_inj hw' k1 k2 hm hsub
end Go.Proofs.YtbengmceiaejeaaGreatDoor
/- The library's parseFloat64 in whole numbers: the document's word. -/
namespace Go.Proofs.YtbengmceiaejeaaGreatDoor

/-- How far what is read is moved; by e binary digits ahead of the point it is asked for. -/
def rdE (b : Nat) (p : Int) : Int := min 1074 (53 - (b : Int) - l2 p)
def rdS (b : Nat) (p : Int) : Int := -(rdE b p - (64 - (b : Int)) + l2 p + 3)

theorem shift_lt {X M : Nat} (h : X * 2 ^ 80 < 2 ^ 126 * 1023 * M) : 1024 * X < 1023 * (72057594037927936 * M) := by
  rw [show (2 : Nat) ^ 80 = 1024 * 2 ^ 70 by decide, show (2 : Nat) ^ 126 = 72057594037927936 * 2 ^ 70 by decide] at h
  generalize (2 : Nat) ^ 70 = G at h
  refine Nat.lt_of_mul_lt_mul_right (a := G) ?_
  have e1 : X * (1024 * G) = 1024 * X * G := by ac_rfl
  have e2 : 72057594037927936 * G * 1023 * M = 1023 * (72057594037927936 * M) * G := by ac_rfl
  rw [← e1, ← e2]
  exact h

theorem shift_lt2 {X M : Nat} (h : X * 2 ^ 80 < 2 ^ 70 * 1023 * M) : X < 2 * M := by
  rw [show (2 : Nat) ^ 80 = 1024 * 2 ^ 70 by decide] at h
  generalize (2 : Nat) ^ 70 = G at h
  have h2 : 1024 * X < 1023 * M := by
    refine Nat.lt_of_mul_lt_mul_right (a := G) ?_
    have e1 : X * (1024 * G) = 1024 * X * G := by ac_rfl
    have e2 : G * 1023 * M = 1023 * M * G := by ac_rfl
    rw [← e1, ← e2]
    exact h
  omega

theorem l2_small {p : Int} (h : l2 p ≤ -1022) : p ≤ -308 := by unfold l2 at h; omega

theorem parse_word {d b m Q : Nat} {p : Int} (h1 : -345 ≤ p) (h2 : p ≤ 310) (hb0 : 1 ≤ b) (hb57 : b ≤ 57) (hb1 : 2 ^ (b - 1) ≤ d) (hb : d < 2 ^ b) (hm0 : 0 < m) (hm : m < 9007199254740992) (hQ : Q ≤ 2045) (hsub : Q = 0 ∨ 4503599627370496 ≤ m) (hf : Q * 4503599627370496 + m < 9218868437227405312) (hw : decR d p = Q * 4503599627370496 + m) :
    ∃ s0 u s : Nat, (s0 : Int) = rdS b p ∧ s0 < 64 ∧ u = usF (d * 2 ^ (64 - b)) (rowP p).1 (rowP p).2 s0 ∧ u < 144115188075855872 ∧ s = (if 36028797018963966 ≤ u then 1 else 0) ∧ rnd4 (u / 2 ^ s ||| u % 2) = m ∧ rdE b p - (s : Int) = 1074 - (Q : Int) := by
  have hd : 0 < d := Nat.lt_of_lt_of_le (Nat.two_pow_pos _) hb1
  obtain ⟨T, eT⟩ : ∃ T : Nat, T = 10 ^ (-p).toNat := ⟨_, rfl⟩
  have hT : 0 < T := by rw [eT]; exact Nat.pow_pos (by decide)
  obtain ⟨Z, hZ⟩ : ∃ Z : Nat, Z = 1074 := ⟨_, rfl⟩
  obtain ⟨A4, eA⟩ : ∃ A4, A4 = 4 * (d * 10 ^ p.toNat * 2 ^ Z) := ⟨_, rfl⟩
  by_cases hn : 53 - (b : Int) - l2 p < 1074
  · have hE : rdE b p = 53 - (b : Int) - l2 p := by unfold rdE; omega
    obtain ⟨E, eE⟩ : ∃ E : Nat, (E : Int) = 1021 + b + l2 p := ⟨(1021 + b + l2 p).toNat, by omega⟩
    have hS : rdS b p = 8 := by unfold rdS; rw [hE]; omega
    have hus := rd_of h1 h2 hd hb hb57
    have hratio := rd_ratio (d := d) hZ hb57 eE
    rw [← eT, ← eA] at hratio
    have hg := good_p p h1 h2
    unfold goodP at hg
    simp only [Bool.and_eq_true, decide_eq_true_eq] at hg
    obtain ⟨⟨⟨_, g6⟩, g7⟩, _⟩ := hg
    have hD := rdM_pos p
    have hy1 : 2 ^ 56 ≤ d * 2 ^ (57 - b) := by
      have : 2 ^ (b - 1) * 2 ^ (57 - b) = 2 ^ 56 := by rw [← Nat.pow_add]; congr 1; omega
      rw [← this]
      exact Nat.mul_le_mul_right _ hb1
    have hy2 : d * 2 ^ (57 - b) < 2 ^ 57 := by
      have : 2 ^ b * 2 ^ (57 - b) = 2 ^ 57 := by rw [← Nat.pow_add]; congr 1; omega
      rw [← this]
      exact Nat.mul_lt_mul_of_pos_right hb (Nat.two_pow_pos _)
    obtain ⟨y, ey⟩ : ∃ y, d * 2 ^ (57 - b) = y := ⟨_, rfl⟩
    rw [ey] at hy1 hy2 hus hratio
    obtain ⟨A, hA⟩ : ∃ A, rdA p = A := ⟨_, rfl⟩
    obtain ⟨M, hM⟩ : ∃ M, rdM p = M := ⟨_, rfl⟩
    rw [hA, hM] at g6 g7 hus hratio
    rw [hM] at hD
    have hlo : 18014398509481984 * M ≤ y * A := by
      have t1 := Nat.mul_le_mul_left (2 ^ 56) g6
      have t2 := Nat.mul_le_mul_right A hy1
      omega
    have hN2 : 1024 * (y * A) < 1023 * (72057594037927936 * M) := by
      have t1 := Nat.mul_le_mul_left y g7
      have t2 := Nat.mul_lt_mul_of_pos_right hy2 (show 0 < 1023 * M by omega)
      have e1 : y * (2048 * A) = 2048 * (y * A) := by ac_rfl
      omega
    have hq : y * A / M < 72057594037927936 := by
      refine (Nat.div_lt_iff_lt_mul hD).2 ?_
      omega
    refine ⟨8, unr (y * A) M, _, hS.symm, by decide, hus.symm, ?_, rfl, ?_⟩
    · have : unr (y * A) M ≤ y * A / M + 1 := by
        unfold unr
        split
        · rw [Nat.or_zero]; omega
        · rw [or_one]; omega
      omega
    · obtain ⟨r1, r2⟩ := pack_word hD hT eT (by rw [eA, hZ]) hm0 hm hQ hsub hf hw hratio (Or.inr hlo) hN2 rfl rfl rfl
      exact ⟨r1, by rw [hE]; omega⟩
  · have hE : rdE b p = 1074 := by unfold rdE; omega
    have hp := l2_small (p := p) (by omega)
    have hS : rdS b p = -(1013 + b + l2 p) := by unfold rdS; rw [hE]; omega
    obtain ⟨s0, es0⟩ : ∃ s0 : Nat, (s0 : Int) = -(1013 + b + l2 p) := ⟨(-(1013 + b + l2 p)).toNat, by omega⟩
    have hus := sb_of h1 hp hd hb hb57 es0 (by omega)
    have hratio := sb_ratio (d := d) hZ h1 hp
    rw [← eT, ← eA] at hratio
    have hg := good_s p h1 hp
    unfold goodS at hg
    simp only [Bool.and_eq_true, decide_eq_true_eq] at hg
    obtain ⟨⟨_, g7⟩, _⟩ := hg
    have hD := sbM_pos p
    have hl2 := good_l2 p h1 h2
    obtain ⟨t, et⟩ : ∃ t : Nat, (1147 + l2 p).toNat = t := ⟨_, rfl⟩
    rw [et] at g7
    obtain ⟨A, hA⟩ : ∃ A, sbA p = A := ⟨_, rfl⟩
    obtain ⟨M, hM⟩ : ∃ M, sbM p = M := ⟨_, rfl⟩
    rw [hA, hM] at g7 hus hratio
    rw [hM] at hD
    have hdA : d * A * 2 ^ 80 < 2 ^ (b + t) * 1023 * M := by
      have t1 := Nat.mul_le_mul_left d g7
      have t2 := Nat.mul_lt_mul_of_pos_right hb (show 0 < M * 2 ^ t * 1023 from Nat.mul_pos (Nat.mul_pos hD (Nat.two_pow_pos t)) (by decide))
      rw [Nat.pow_add]
      have e1 : d * A * 2 ^ 80 = d * (A * 2 ^ 80) := Nat.mul_assoc _ _ _
      have e2 : 2 ^ b * (M * 2 ^ t * 1023) = 2 ^ b * 2 ^ t * 1023 * M := by
        generalize 2 ^ b = u
        generalize 2 ^ t = v
        ac_rfl
      rw [e1, ← e2]
      exact Nat.lt_of_le_of_lt t1 t2
    have hN2 : 1024 * (d * A) < 1023 * (72057594037927936 * M) := by
      have : 2 ^ (b + t) ≤ 2 ^ 126 := Nat.pow_le_pow_right (by decide) (by omega)
      exact shift_lt (Nat.lt_of_lt_of_le hdA (Nat.mul_le_mul_right M (Nat.mul_le_mul_right 1023 this)))
    have hs64 : s0 < 64 := by
      rcases Nat.lt_or_ge s0 64 with hc | hc
      · exact hc
      · exfalso
        have : 2 ^ (b + t) ≤ 2 ^ 70 := Nat.pow_le_pow_right (by decide) (by omega)
        have hN : d * A < 2 * M := shift_lt2 (Nat.lt_of_lt_of_le hdA (Nat.mul_le_mul_right M (Nat.mul_le_mul_right 1023 this)))
        have hi := (dec_iff hZ hm0 hm hsub hf).1 hw
        rw [← eT, ← eA] at hi
        have hmore := inW_more hm0 hT hsub hi
        rw [Nat.pow_zero, Nat.one_mul] at hratio
        have t1 := Nat.mul_lt_mul_of_pos_right hN hT
        have t2 := Nat.mul_lt_mul_of_pos_right hmore hD
        have e1 : 2 * M * T = 2 * T * M := by ac_rfl
        omega
    have hq : d * A / M < 72057594037927936 := by
      refine (Nat.div_lt_iff_lt_mul hD).2 ?_
      omega
    refine ⟨s0, unr (d * A) M, _, by rw [hS]; exact es0, hs64, hus.symm, ?_, rfl, ?_⟩
    · have : unr (d * A) M ≤ d * A / M + 1 := by
        unfold unr
        split
        · rw [Nat.or_zero]; omega
        · rw [or_one]; omega
      omega
    · obtain ⟨r1, r2⟩ := pack_word hD hT eT (by rw [eA, hZ]) hm0 hm hQ hsub hf hw hratio (Or.inl rfl) hN2 rfl rfl rfl
      exact ⟨r1, by rw [hE]; omega⟩
end Go.Proofs.YtbengmceiaejeaaGreatDoor
/- What the fewest digits are read as: the real itself. -/
namespace Go.Proofs.YtbengmceiaejeaaGreatDoor

theorem pick_in {I : Nat → Bool} {k j : Nat} {up : Bool} (h : (I (k / 10 ^ j * 10 ^ j) || I ((k / 10 ^ j + 1) * 10 ^ j)) = true) : I (pickJ I k j up * 10 ^ j) = true := by
  unfold pickJ
  cases h1 : I (k / 10 ^ j * 10 ^ j) <;> cases h2 : I ((k / 10 ^ j + 1) * 10 ^ j) <;> rw [h1, h2] at h
  · simp at h
  · simpa using h2
  · simpa using h1
  · simp only [Bool.and_self, if_true]
    cases up
    · simpa using h1
    · simpa using h2

theorem short_reads {m Q d n i g r : Nat} {T dp : Int} (hm0 : 0 < m) (hm : m < 9007199254740992) (hQ : Q ≤ 2045) (hsub : Q = 0 ∨ 4503599627370496 ≤ m) (hf : Q * 4503599627370496 + m < 9218868437227405312) (sh : Shows m Q d n i g r T dp) :
    decR d T = Q * 4503599627370496 + m := by
  obtain ⟨z1, z2, z3, z4, z5, z6, z7, hx⟩ := z_facts hm0 hm
  obtain ⟨kb1, kb2⟩ := k_bounds hm0 hm hQ
  obtain ⟨J, eJ⟩ : ∃ J, Lib.nDigits (kOf m Q) = J := ⟨_, rfl⟩
  have hJ1 : 1 ≤ J := by rw [← eJ, Lib.nDigits]; split <;> omega
  have hk1 : 10 ^ (J - 1) ≤ kOf m Q := by rw [← eJ]; exact pow_nd kb1
  have hk2 : kOf m Q < 10 ^ J := by rw [← eJ]; exact Lib.lt_pow_nDigits _
  obtain ⟨j, hj, hyes, hno, hG, hpick⟩ := short_main hm0 hm hQ hsub z1 hx hJ1 hk1 hk2 (fun _ => upper (mOf m Q) (4 * (m * aOf m Q % mOf m Q)) (m * aOf m Q / mOf m Q)) rfl
  have hin := pick_in (up := upper (mOf m Q) (4 * (m * aOf m Q % mOf m Q)) (m * aOf m Q / mOf m Q)) hyes
  rw [hG] at hin
  have HD : ∀ (c t : Nat), decR c (unitK m Q + t) = Q * 4503599627370496 + m ↔ inI m Q (aOf m Q) (mOf m Q) (c * 10 ^ t) = true := fun c t => dec_in hm0 hm hsub hf
  rw [sh.hd, sh.ht]
  rcases shortD_units m Q (zOf m) with ⟨h1, h2⟩ | ⟨h1, h2⟩
  · have := (HD (shortD m Q (zOf m)) 0).2 (by rw [Nat.pow_zero, Nat.mul_one, h2]; exact hin)
    rw [h1]
    have e : unitK m Q + ((0 : Nat) : Int) = unitK m Q := by omega
    rw [e] at this
    exact this
  · have := (HD (shortD m Q (zOf m)) 1).2 (by rw [Nat.pow_one, h2]; exact hin)
    rw [h1]
    exact this

/-- One number, written otherwise, is read as the same. -/
theorem dec_same {c c' m Q : Nat} {s s' : Int} (hm0 : 0 < m) (hm : m < 9007199254740992) (hsub : Q = 0 ∨ 4503599627370496 ≤ m) (hf : Q * 4503599627370496 + m < 9218868437227405312)
    (h : c * 10 ^ s.toNat * 10 ^ (-s').toNat = c' * 10 ^ s'.toNat * 10 ^ (-s).toNat) (hw : decR c s = Q * 4503599627370496 + m) : decR c' s' = Q * 4503599627370496 + m := by
  obtain ⟨Z, hZ⟩ : ∃ Z : Nat, Z = 1074 := ⟨_, rfl⟩
  have hi := (dec_iff hZ hm0 hm hsub hf).1 hw
  refine (dec_iff hZ hm0 hm hsub hf).2 (inW_ratio (Nat.mul_pos (Nat.two_pow_pos Q) (Nat.pow_pos (by decide))) (Nat.mul_pos (Nat.two_pow_pos Q) (Nat.pow_pos (by decide))) ?_ hi)
  generalize (2 : Nat) ^ Z = e
  generalize (2 : Nat) ^ Q = q
  have e1 : 4 * (c * 10 ^ s.toNat * e) * (q * 10 ^ (-s').toNat) = 4 * e * q * (c * 10 ^ s.toNat * 10 ^ (-s').toNat) := by ac_rfl
  rw [e1, h]
  ac_rfl

/-- Noughts behind are left out, or put there. -/
theorem dec_shift {c m Q k : Nat} {s : Int} (hm0 : 0 < m) (hm : m < 9007199254740992) (hsub : Q = 0 ∨ 4503599627370496 ≤ m) (hf : Q * 4503599627370496 + m < 9218868437227405312) :
    decR (c * 10 ^ k) s = Q * 4503599627370496 + m ↔ decR c (s + k) = Q * 4503599627370496 + m := by
  have key : c * 10 ^ k * 10 ^ s.toNat * 10 ^ (-(s + k)).toNat = c * 10 ^ (s + k).toNat * 10 ^ (-s).toNat := by
    have e : 10 ^ k * 10 ^ s.toNat * 10 ^ (-(s + k)).toNat = 10 ^ (s + k).toNat * 10 ^ (-s).toNat := by
      rw [← Nat.pow_add, ← Nat.pow_add, ← Nat.pow_add]
      congr 1
      omega
    rw [Nat.mul_assoc c, Nat.mul_assoc c, e, Nat.mul_assoc c]
  exact ⟨fun h => dec_same hm0 hm hsub hf key h, fun h => dec_same hm0 hm hsub hf key.symm h⟩

/-- The digits without the noughts behind. -/
theorem g_reads {m Q d n i g r : Nat} {T dp : Int} (hm0 : 0 < m) (hm : m < 9007199254740992) (hQ : Q ≤ 2045) (hsub : Q = 0 ∨ 4503599627370496 ≤ m) (hf : Q * 4503599627370496 + m < 9218868437227405312) (sh : Shows m Q d n i g r T dp) :
    decR g (dp - (r + 1)) = Q * 4503599627370496 + m ∧ digsB d n r = Lib.decDigits g ∧ 0 < g ∧ Lib.nDigits g = r + 1 ∧ g < 100000000000000000 := by
  have h := short_reads hm0 hm hQ hsub hf sh
  obtain ⟨s1, s2, s3, s4, s5⟩ := shows_small hm0 hm hQ hsub sh
  have hg0 : 0 < g := by have := sh.hg10; omega
  have hd := sh.hg
  rw [hd] at h
  have h2 := (dec_shift hm0 hm hsub hf).1 h
  have e : T + (i : Int) = dp - (r + 1) := by have := sh.hdp; have := sh.hr; omega
  rw [e] at h2
  have hdd := digs_dec sh.hg sh.hn hg0 sh.hr
  have hl : (digsB d n r).length = r + 1 := digs_len d n r
  rw [hdd, Lib.decDigits_length] at hl
  have hgd : g ≤ d := by rw [hd]; exact Nat.le_mul_of_pos_right _ (Nat.pow_pos (by decide))
  exact ⟨h2, hdd, hg0, hl, by omega⟩
end Go.Proofs.YtbengmceiaejeaaGreatDoor
