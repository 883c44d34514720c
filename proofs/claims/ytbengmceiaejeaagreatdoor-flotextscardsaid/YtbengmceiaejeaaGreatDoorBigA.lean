/- The reference's Nearest, both ways and of nothing. -/
import Derived.Test.YtbengmceiaejeaaGreatDoorNear4
import Derived.Test.YtbengmceiaejeaaGreatDoorNear5
import Derived.Test.YtbengmceiaejeaaGreatDoorNear3
import Derived.Test.YtbengmceiaejeaaGreatDoorBig4
namespace Go.Proofs.YtbengmceiaejeaaGreatDoor
open Go.ChangeShapes Go.WideShapes Go.ChangeAt Go.RowKit
open Ieee

theorem nearest_zero (b : Bool) (v : Value) (P : Int) (w : World) (ha : IsAmt w v 0) :
    Calls Tryz.prog 77 #[.agg #[.bool b, v, .int .i64 P], .bool false] w fun e w' => e = .returned (.int .u64 ((wordD b (nearR 0 P) : Nat) : Int)) ∧ Below w.heap.size w w' := by
  obtain ⟨ds, rr, rd, rn, rv⟩ := ha
  have hnil : ds.length = 0 := by
    rcases Nat.eq_zero_or_pos ds.length with h | h
    · exact h
    · obtain ⟨k, hk⟩ : ∃ k, ds.length = k + 1 := ⟨ds.length - 1, by omega⟩
      have := norm_low rn hk
      have h2 : 0 < 65536 ^ k := Nat.pow_pos (by decide)
      omega
  obtain ⟨ao, c, rfl⟩ := rr.form
  rw [hnil, nearR_zero]
  have S := signed_any b 0 (by decide)
  obtain ⟨W, eW⟩ : ∃ W, wordD b 0 = W := ⟨_, rfl⟩
  rw [eW] at S ⊢
  clear rr rd rn rv hnil eW
  go_enter Tryz.func77, Tryz.ntmps77
  go_wp2_with (go_at_call 99; refine (S _).mono ?_; rintro e w' ⟨rfl, rfl⟩)
  go_ret
  exact ⟨rfl, (Below.refl _ _).alloc (Nat.le_refl _) _⟩

theorem nearest_any (b : Bool) (v : Value) (M : Nat) (P : Int) (w : World) (ha : IsAmt w v M) (hl : M.log2 ≤ 5000) (hP : -6000 ≤ P ∧ P ≤ 6000) :
    Calls Tryz.prog 77 #[.agg #[.bool b, v, .int .i64 P], .bool false] w fun e w' => e = .returned (.int .u64 ((wordD b (nearR M P) : Nat) : Int)) ∧ Below w.heap.size w w' := by
  rcases Nat.eq_zero_or_pos M with rfl | h
  · exact nearest_zero b v P w ha
  · by_cases hw : lastP M P ≤ P - 2
    · exact nearest_up b v M P w ha h hl hP hw
    · exact nearest_down b v M P w ha h hl hP (by omega)
end Go.Proofs.YtbengmceiaejeaaGreatDoor
/- Rounding looks at no more than the digits down to the half and at whether anything is left. -/
namespace Go.Proofs.YtbengmceiaejeaaGreatDoor
open Ieee

theorem mod_unit (N e x d : Nat) (hx : x < 2 ^ e) : (N * 2 ^ e + x) / 2 ^ (d + e) = N / 2 ^ d ∧ (N * 2 ^ e + x) % 2 ^ (d + e) = N % 2 ^ d * 2 ^ e + x := by
  have hp := Nat.two_pow_pos e
  have e1 : (N * 2 ^ e + x) / 2 ^ e = N := by rw [Nat.add_comm, Nat.add_mul_div_right _ _ hp, Nat.div_eq_of_lt hx, Nat.zero_add]
  have e2 : (N * 2 ^ e + x) % 2 ^ e = x := by rw [Nat.add_comm, Nat.add_mul_mod_self_right, Nat.mod_eq_of_lt hx]
  have h1 : (N * 2 ^ e + x) / 2 ^ (d + e) = N / 2 ^ d := by
    rw [Nat.add_comm d e, Nat.pow_add, ← Nat.div_div_eq_div_mul, e1]
  refine ⟨h1, ?_⟩
  have h2 : (N * 2 ^ e + x) % 2 ^ (e + d) = x + 2 ^ e * (N % 2 ^ d) := by
    rw [Nat.pow_add, Nat.mod_mul, e1, e2]
  rw [Nat.add_comm d e, h2, Nat.mul_comm (2 ^ e), Nat.add_comm]

theorem rnd_sticky {N e x y d : Nat} (hd : 1 ≤ d) (hx0 : 0 < x) (hx : x < 2 ^ e) (hy0 : 0 < y) (hy : y < 2 ^ e) : rndE (N * 2 ^ e + x) (2 ^ (d + e)) = rndE (N * 2 ^ e + y) (2 ^ (d + e)) := by
  obtain ⟨a1, a2⟩ := mod_unit N e x d hx
  obtain ⟨b1, b2⟩ := mod_unit N e y d hy
  unfold rndE
  rw [a1, a2, b1, b2]
  congr 2
  unfold moreW
  obtain ⟨c, rfl⟩ : ∃ c, d = c + 1 := ⟨d - 1, by omega⟩
  have hg : 2 ^ (c + 1 + e) = 2 * (2 ^ c * 2 ^ e) := by rw [Nat.pow_add, Nat.pow_succ, Nat.mul_right_comm, Nat.mul_comm]
  rw [hg]
  obtain ⟨r, er⟩ : ∃ r, N % 2 ^ (c + 1) = r := ⟨_, rfl⟩
  rw [er]
  obtain ⟨G, eG⟩ : ∃ G, 2 ^ e = G := ⟨_, rfl⟩
  obtain ⟨H, eH⟩ : ∃ H, 2 ^ c = H := ⟨_, rfl⟩
  rw [eG] at hx hy ⊢
  rw [eH]
  clear a1 a2 b1 b2 hg er eG eH
  have key : ∀ z, 0 < z → z < G → (2 * (H * G) < 2 * (r * G + z) ↔ H ≤ r) ∧ 2 * (H * G) ≠ 2 * (r * G + z) := by
    intro z h0 h1
    rcases Nat.lt_or_ge r H with h | h
    · have := Nat.mul_le_mul_right G (show r + 1 ≤ H by omega)
      rw [Nat.add_mul, Nat.one_mul] at this
      exact ⟨⟨fun _ => by omega, fun _ => by omega⟩, by omega⟩
    · have := Nat.mul_le_mul_right G h
      exact ⟨⟨fun _ => h, fun _ => by omega⟩, by omega⟩
  obtain ⟨kx, nx⟩ := key x hx0 hx
  obtain ⟨ky, ny⟩ := key y hy0 hy
  have e1 : (2 * (H * G) == 2 * (r * G + x)) = false := beq_eq_false_iff_ne.2 nx
  have e2 : (2 * (H * G) == 2 * (r * G + y)) = false := beq_eq_false_iff_ne.2 ny
  simp only [e1, e2, Bool.false_and, Bool.or_false]
  exact decide_eq_decide.2 (kx.trans ky.symm)

theorem log2_unit {N e x : Nat} (hN : N ≠ 0) (hx : x < 2 ^ e) : (N * 2 ^ e + x).log2 = N.log2 + e := by
  refine log2_iff ?_ ?_
  · rw [Nat.pow_add]
    have := Nat.mul_le_mul_right (2 ^ e) (log2_lo hN)
    omega
  · have := Nat.mul_le_mul_right (2 ^ e) (show N + 1 ≤ 2 ^ (N.log2 + 1) from log2_hi hN)
    rw [Nat.add_mul, Nat.one_mul, ← Nat.pow_add] at this
    rw [show N.log2 + e + 1 = N.log2 + 1 + e by omega]
    omega

/-- Two numbers that part only below the half of the last digit that is kept, with something left in both. -/
theorem near_sticky {N e x y : Nat} (P : Int) (hN : 9007199254740992 ≤ N) (hx0 : 0 < x) (hx : x < 2 ^ e) (hy0 : 0 < y) (hy : y < 2 ^ e) : nearR (N * 2 ^ e + x) P = nearR (N * 2 ^ e + y) P := by
  have hN0 : N ≠ 0 := by omega
  have lx := log2_unit hN0 hx
  have ly := log2_unit hN0 hy
  have h53 : 53 ≤ N.log2 := (Nat.le_log2 hN0).2 (by omega)
  have hX : N * 2 ^ e + x ≠ 0 := by omega
  have hY : N * 2 ^ e + y ≠ 0 := by omega
  rw [near_pack hX, near_pack hY]
  have el : lastP (N * 2 ^ e + x) P = lastP (N * 2 ^ e + y) P := by unfold lastP; rw [lx, ly]
  have ek : keptN (N * 2 ^ e + x) P = keptN (N * 2 ^ e + y) P := by
    unfold keptN
    rw [el]
    have hl : P + (N.log2 : Int) + e - 52 ≤ lastP (N * 2 ^ e + y) P := by unfold lastP; rw [ly]; omega
    have e1 : (P - lastP (N * 2 ^ e + y) P).toNat = 0 := by omega
    obtain ⟨d, ed⟩ : ∃ d, (lastP (N * 2 ^ e + y) P - P).toNat = d + e := ⟨(lastP (N * 2 ^ e + y) P - P).toNat - e, by omega⟩
    rw [e1, ed, Nat.pow_zero, Nat.mul_one, Nat.mul_one]
    exact rnd_sticky (by omega) hx0 hx hy0 hy
  rw [el, ek]

/-- A number and its place may be moved. -/
theorem near_shift (M k : Nat) (P : Int) : nearR (M * 2 ^ k) P = nearR M (P + k) := by
  by_cases h0 : M = 0
  · rw [h0, Nat.zero_mul, nearR_zero, nearR_zero]
  · have h1 : M * 2 ^ k ≠ 0 := Nat.mul_ne_zero h0 (Nat.ne_of_gt (Nat.two_pow_pos k))
    rw [near_pack h1, near_pack h0]
    have hl := log2_mul_pow h0 k
    have el : lastP (M * 2 ^ k) P = lastP M (P + k) := by unfold lastP; rw [hl]; congr 1; omega
    have ek : keptN (M * 2 ^ k) P = keptN M (P + k) := by
      unfold keptN
      rw [el]
      obtain ⟨q, eq⟩ : ∃ q, lastP M (P + k) = q := ⟨_, rfl⟩
      rw [eq]
      rcases Int.le_total q P with h | h
      · have e1 : (q - P).toNat = 0 := by omega
        have e2 : (q - (P + (k : Int))).toNat = 0 := by omega
        have e3 : (P + (k : Int) - q).toNat = k + (P - q).toNat := by omega
        rw [e1, e2, e3, Nat.pow_add, Nat.mul_assoc]
      · rcases Int.le_total q (P + k) with h2 | h2
        · have e1 : (P - q).toNat = 0 := by omega
          have e2 : (q - (P + (k : Int))).toNat = 0 := by omega
          obtain ⟨a, ea⟩ : ∃ a, (P + (k : Int) - q).toNat = a := ⟨_, rfl⟩
          obtain ⟨b, eb⟩ : ∃ b, (q - P).toNat = b := ⟨_, rfl⟩
          rw [e1, e2, ea, eb, show k = a + b by omega, Nat.pow_zero, Nat.mul_one]
          have := rndE_mul (M * 2 ^ a) (2 ^ 0) (2 ^ b) (Nat.two_pow_pos b)
          rw [Nat.pow_zero, Nat.one_mul, Nat.mul_assoc, ← Nat.pow_add] at this
          exact this
        · have e1 : (P - q).toNat = 0 := by omega
          have e2 : (P + (k : Int) - q).toNat = 0 := by omega
          obtain ⟨a, ea⟩ : ∃ a, (q - (P + (k : Int))).toNat = a := ⟨_, rfl⟩
          rw [e1, e2, ea, show (q - P).toNat = a + k by omega, Nat.pow_zero, Nat.mul_one, Nat.mul_one, Nat.pow_add]
          exact rndE_mul M (2 ^ a) (2 ^ k) (Nat.two_pow_pos k)
    rw [el, ek]

/-- The two ways to a quotient's nearest word: few digits with one that tells of a rest, or many. -/
theorem near_quotient {m n a : Nat} (c : Int) (hm : m ≠ 0) (hn : 0 < n) (ha : 54 + n.log2 ≤ a + m.log2) (hb : a ≤ 128) :
    nearR (2 * (m * 2 ^ a / n) + (m * 2 ^ a % n != 0).toNat) (c - a - 1) =
    if m * 2 ^ 128 % n = 0 then nearR (m * 2 ^ 128 / n) (c - 128) else nearR (4 * (m * 2 ^ 128 / n) + 1) (c - 128 - 2) := by
  obtain ⟨f, ef⟩ : ∃ f, 128 = a + f := ⟨128 - a, by omega⟩
  have hp := Nat.two_pow_pos f
  have hQ : m * 2 ^ 128 / n / 2 ^ f = m * 2 ^ a / n := by
    rw [ef, Nat.pow_add, ← Nat.mul_assoc, Nat.div_div_eq_div_mul, Nat.mul_comm n, ← Nat.div_div_eq_div_mul, Nat.mul_div_cancel _ hp]
  have hD := Nat.div_add_mod (m * 2 ^ 128) n
  have hd := Nat.div_add_mod (m * 2 ^ a) n
  have hM : m * 2 ^ 128 = m * 2 ^ a * 2 ^ f := by rw [ef, Nat.pow_add, Nat.mul_assoc]
  have hq : 9007199254740992 ≤ m * 2 ^ a / n := by
    rw [Nat.le_div_iff_mul_le hn]
    have h1 := log2_hi (Nat.ne_of_gt hn)
    have h2 := Nat.mul_le_mul_right (2 ^ a) (log2_lo hm)
    rw [← Nat.pow_add] at h2
    have h3 : 2 ^ 53 * 2 ^ (n.log2 + 1) ≤ 2 ^ (m.log2 + a) := by
      rw [← Nat.pow_add]
      exact Nat.pow_le_pow_right (by decide) (by omega)
    have h4 : 2 ^ 53 * n ≤ 2 ^ 53 * 2 ^ (n.log2 + 1) := Nat.mul_le_mul_left _ (by omega)
    have h5 : (9007199254740992 : Nat) = 2 ^ 53 := by decide
    rw [h5]
    omega
  have hs := Nat.div_add_mod (m * 2 ^ 128 / n) (2 ^ f)
  rw [hQ] at hs
  have hlt : m * 2 ^ 128 / n % 2 ^ f < 2 ^ f := Nat.mod_lt _ hp
  obtain ⟨Q, eQ⟩ : ∃ Q, m * 2 ^ 128 / n = Q := ⟨_, rfl⟩
  obtain ⟨q, eq⟩ : ∃ q, m * 2 ^ a / n = q := ⟨_, rfl⟩
  obtain ⟨s, es⟩ : ∃ s, Q % 2 ^ f = s := ⟨_, rfl⟩
  rw [eQ] at hs hlt hD
  rw [eq] at hs hq hd
  rw [es] at hs hlt
  rw [eQ, eq]
  have c1 : c - 128 = c - 130 + ((2 : Nat) : Int) := by omega
  have c2 : c - 128 - 2 = c - 130 := by omega
  have c3 : c - (a : Int) - 1 = c - 130 + ((f + 1 : Nat) : Int) := by omega
  have p1 : 2 ^ (f + 2) = 4 * 2 ^ f := by rw [Nat.pow_add, Nat.mul_comm]
  have p2 : 2 ^ (f + 1) = 2 * 2 ^ f := by rw [Nat.pow_succ, Nat.mul_comm]
  rw [c2, c1, c3, ← near_shift, ← near_shift]
  by_cases h0 : m * 2 ^ a % n = 0
  · have hR : m * 2 ^ 128 % n = 0 := by
      rw [hM]
      exact Nat.mod_eq_zero_of_dvd (Nat.dvd_mul_right_of_dvd (Nat.dvd_of_mod_eq_zero h0) _)
    rw [if_pos hR, h0]
    have hs0 : s = 0 := by
      have h6 : n * Q = n * (q * 2 ^ f) := by rw [hR, Nat.add_zero] at hD; rw [h0, Nat.add_zero] at hd; rw [hD, hM, ← hd, Nat.mul_assoc]
      have h7 := Nat.eq_of_mul_eq_mul_left hn h6
      have h8 : 2 ^ f * q = q * 2 ^ f := Nat.mul_comm _ _
      omega
    have e1 : (2 * q + ((0 : Nat) != 0).toNat) * 2 ^ (f + 1) = Q * 2 ^ 2 := by
      have z : ((0 : Nat) != 0).toNat = 0 := rfl
      rw [z, Nat.add_zero, p2, ← hs, hs0, Nat.add_zero, Nat.mul_comm (2 ^ f) q, Nat.mul_mul_mul_comm, Nat.mul_comm (2 * 2)]
    rw [e1]
  · have z : (m * 2 ^ a % n != 0).toNat = 1 := by
      have : (m * 2 ^ a % n != 0) = true := bne_iff_ne.2 h0
      rw [this]; rfl
    rw [z]
    have e1 : (2 * q + 1) * 2 ^ (f + 1) = q * 2 ^ (f + 2) + 2 ^ (f + 1) := by
      rw [Nat.add_mul, Nat.one_mul, Nat.mul_comm 2 q, Nat.mul_assoc, ← Nat.pow_succ']
    have l1 : 2 ^ (f + 1) < 2 ^ (f + 2) := Nat.pow_lt_pow_right (by decide) (by omega)
    have l0 : 0 < 2 ^ (f + 1) := Nat.two_pow_pos _
    rw [e1]
    by_cases hR : m * 2 ^ 128 % n = 0
    · rw [if_pos hR]
      have hs0 : s ≠ 0 := by
        intro hs0
        apply h0
        rw [hs0, Nat.add_zero] at hs
        rw [hR, Nat.add_zero, hM, ← hs, Nat.mul_comm (2 ^ f) q, ← Nat.mul_assoc] at hD
        have := Nat.eq_of_mul_eq_mul_right hp hD
        rw [← this]
        exact Nat.mul_mod_right _ _
      have e2 : Q * 2 ^ 2 = q * 2 ^ (f + 2) + 4 * s := by
        rw [← hs, Nat.add_mul, Nat.pow_add, Nat.mul_comm (2 ^ f) q, Nat.mul_assoc, Nat.mul_comm s]
      rw [e2]
      exact near_sticky _ hq l0 l1 (by omega) (by omega)
    · rw [if_neg hR]
      have e2 : 4 * Q + 1 = q * 2 ^ (f + 2) + (4 * s + 1) := by
        rw [← hs, Nat.mul_add, p1, Nat.mul_comm (2 ^ f) q, Nat.mul_left_comm]
        omega
      rw [e2]
      exact near_sticky _ hq l0 l1 (by omega) (by omega)
end Go.Proofs.YtbengmceiaejeaaGreatDoor
/- Amounts: addD. -/
namespace Go.Proofs.YtbengmceiaejeaaGreatDoor
open Go.ChangeShapes Go.WideShapes Go.ChangeAt Go.RowKit

theorem norm_of_ge {ds : List Nat} (hd : DigsOk ds) {k : Nat} (hk : ds.length = k + 1) (h : 65536 ^ k ≤ valD ds) : Norm ds := by
  intro j hj h0
  have hjk : j = k := by omega
  subst hjk
  have h1 := valD_take_snoc ds j (by omega)
  rw [List.take_of_length_le (by omega), h0, Nat.mul_zero, Nat.add_zero] at h1
  have h2 := valD_lt (hd.take j)
  rw [List.length_take, Nat.min_eq_left (by omega)] at h2
  omega

theorem add_norm {xs ys outs : List Nat} (na : Norm xs) (nb : Norm ys) (hd : DigsOk outs) (hv : valD outs = valD xs + valD ys) (hl : outs.length = max xs.length ys.length ∨ (outs.length = max xs.length ys.length + 1 ∧ 65536 ^ max xs.length ys.length ≤ valD xs + valD ys)) : Norm outs := by
  rcases hl with hl | ⟨hl, hg⟩
  · cases hk : outs.length with
    | zero => intro j hj; omega
    | succ k =>
      refine norm_of_ge hd hk ?_
      rw [hv]
      rcases Nat.le_total xs.length ys.length with h | h
      · have := norm_low nb (k := k) (by omega)
        omega
      · have := norm_low na (k := k) (by omega)
        omega
  · exact norm_of_ge hd hl (by rw [hv]; exact hg)

theorem add_step {X Y O p x y cy d cy' : Nat} (h : O + p * cy = X + Y) (hd : d + 65536 * cy' = cy + x + y) : O + p * d + p * 65536 * cy' = X + p * x + (Y + p * y) := by
  have h1 : p * (d + 65536 * cy') = p * (cy + x + y) := by rw [hd]
  rw [Nat.mul_add, Nat.mul_add, Nat.mul_add, ← Nat.mul_assoc p 65536] at h1
  omega

set_option maxHeartbeats 8000000 in
theorem addD_any (a b : Value) (m n : Nat) (w : World) (ha : IsAmt w a m) (hb : IsAmt w b n) (hm : m < BIG) (hn : n < BIG) : Calls Tryz.prog 49 #[a, b] w fun e w' => ∃ v, e = .returned v ∧ IsAmt w' v (m + n) ∧ (∀ g, v.ownBlock = some g → w.heap.size ≤ g) ∧ Below w.heap.size w w' := by
  obtain ⟨xs, ra, da, na, rfl⟩ := ha
  obtain ⟨ys, rb, db, nb, rfl⟩ := hb
  have hl1 := len_big na hm
  have hl2 := len_big nb hn
  obtain ⟨i, hi, hz0, hz1, hz2⟩ := info_parts info16
  have RA := hide ra
  have RB := hide rb
  obtain ⟨ao, cap, rfl⟩ := ra.form
  obtain ⟨bo, cap2, rfl⟩ := rb.form
  have NO := hide (fun outs => add_norm (outs := outs) na nb)
  clear hm hn na ra rb nb
  obtain ⟨L, eL⟩ : ∃ L, xs.length = L := ⟨_, rfl⟩
  obtain ⟨M, eM⟩ : ∃ M, ys.length = M := ⟨_, rfl⟩
  have HL := hide eL
  have HM := hide eM
  rw [eL] at RA hl1 NO
  rw [eM] at RB hl2 NO
  rw [eL, eM]
  clear eL eM
  go_enter Tryz.func49, Tryz.ntmps49
  go_wp2
  go_loopw [5, 6, 7] (fun out c k wr => ∃ (j cy : Nat) (outs : List Nat), (j ≤ max L M ∨ (j = max L M + 1 ∧ cy = 0 ∧ 65536 ^ max L M ≤ valD xs + valD ys)) ∧ k = .int .i64 (j : Int) ∧ c = .int .u32 (cy : Int) ∧ cy ≤ 1 ∧ outs.length = j ∧ wr.ownsRow w.heap.size 77 1 out outs.length (dv outs) ∧ DigsOk outs ∧ valD outs + 65536 ^ j * cy = valD (xs.take j) + valD (ys.take j) ∧ Below w.heap.size w wr) (fun _ _ k _ => max L M + 2 - (intOf k).toNat)
  case atStart => exact ⟨0, 0, [], Or.inl (Nat.zero_le _), rfl, rfl, by omega, rfl, World.ownsRow_nil _ _ _ _, digs_nil, by simp [valD], Below.refl _ _⟩
  case round =>
    obtain ⟨j, cy, outs, hj, rfl, rfl, hcy, ho, hown, hdo, hval, bw⟩ := hrel
    have HJ := hide hj
    have HV := hide hval
    have HO := hide ho
    have HW := hide hown
    have HD := hide hdo
    have hj2 : j ≤ 4001 := by omega
    clear hval ho hown hdo hj
    have hsz := bw.size
    have hol : outs.length ≤ 4001 := by have := HO.out; omega
    have hx := da.getD j
    have hy := db.getD j
    have tx := valD_take_all xs j
    have ty := valD_take_all ys j
    obtain ⟨x, ex⟩ : ∃ x, xs.getD j 0 = x := ⟨_, rfl⟩
    obtain ⟨y, ey⟩ : ∃ y, ys.getD j 0 = y := ⟨_, rfl⟩
    rw [ex] at hx tx
    rw [ey] at hy ty
    have HX := hide tx
    have HY := hide ty
    have EX := hide ex
    have EY := hide ey
    have rel : ∀ (d cy' : Nat), d < 65536 → cy' ≤ 1 → d + 65536 * cy' = cy + x + y → (j < max L M ∨ (j = max L M ∧ cy' = 0 ∧ 65536 ^ max L M ≤ valD xs + valD ys)) → ∀ (v' : Value) (w2 : World), w2.ownsRow w.heap.size 77 1 v' (outs ++ [d]).length (dv (outs ++ [d])) → Below w.heap.size w w2 → ∃ (j' cy'' : Nat) (outs' : List Nat), (j' ≤ max L M ∨ (j' = max L M + 1 ∧ cy'' = 0 ∧ 65536 ^ max L M ≤ valD xs + valD ys)) ∧ (.int .i64 ((j : Int) + 1) : Value) = .int .i64 (j' : Int) ∧ (.int .u32 (cy' : Int) : Value) = .int .u32 (cy'' : Int) ∧ cy'' ≤ 1 ∧ outs'.length = j' ∧ w2.ownsRow w.heap.size 77 1 v' outs'.length (dv outs') ∧ DigsOk outs' ∧ valD outs' + 65536 ^ j' * cy'' = valD (xs.take j') + valD (ys.take j') ∧ Below w.heap.size w w2 := by
      intro d cy' hd hcy' hxy hjj v' w2 o2 b2
      refine ⟨j + 1, cy', outs ++ [d], by omega, by go_num, rfl, hcy', by simp [HO.out], o2, HD.out.snoc hd, ?_, b2⟩
      rw [HX.out, HY.out, valD_append, HO.out, show valD [d] = d by simp [valD], Nat.pow_succ]
      exact add_step HV.out hxy
    have REL := hide rel
    clear tx ty rel ex ey
    have fin : max L M ≤ j → cy = 1 → j = max L M ∧ 65536 ^ max L M ≤ valD xs + valD ys := by
      intro h1 h2
      have h3 : j = max L M := by have := HJ.out; omega
      refine ⟨h3, ?_⟩
      have hv := HV.out
      rw [List.take_of_length_le (by have := HL.out; omega), List.take_of_length_le (by have := HM.out; omega), h2, Nat.mul_one, h3] at hv
      omega
    have FIN := hide fin
    clear fin
    have x0 : ¬ j < L → x = 0 := fun h => by rw [← EX.out, List.getD_eq_getElem?_getD, List.getElem?_eq_none (by have := HL.out; omega)]; rfl
    have y0 : ¬ j < M → y = 0 := fun h => by rw [← EY.out, List.getD_eq_getElem?_getD, List.getElem?_eq_none (by have := HM.out; omega)]; rfl
    have cA : j < L → ∃ b1 off1, ao = some ⟨b1, off1, none⟩ ∧ (∀ wr, Below w.heap.size w wr → wr.cell? ⟨b1, off1 + j, none⟩ = some (.int .u16 (x : Int))) := by
      intro h
      obtain ⟨b1, off1, hbs1, h1, hcell1⟩ := RA.out.at HL.out (by omega)
      have hc1 := hcell1 j (by have := HL.out; omega)
      rw [EX.out] at hc1
      exact ⟨b1, off1, h1, fun wr hb => (hb.cell (p := ⟨b1, off1 + j, none⟩) hbs1).trans hc1⟩
    have cB : j < M → ∃ b1 off1, bo = some ⟨b1, off1, none⟩ ∧ (∀ wr, Below w.heap.size w wr → wr.cell? ⟨b1, off1 + j, none⟩ = some (.int .u16 (y : Int))) := by
      intro h
      obtain ⟨b1, off1, hbs1, h1, hcell1⟩ := RB.out.at HM.out (by omega)
      have hc1 := hcell1 j (by have := HM.out; omega)
      rw [EY.out] at hc1
      exact ⟨b1, off1, h1, fun wr hb => (hb.cell (p := ⟨b1, off1 + j, none⟩) hbs1).trans hc1⟩
    have CA := hide cA
    have CB := hide cB
    clear cA cB
    by_cases hL : j < L
    · obtain ⟨b1, off1, rfl, hc1⟩ := CA.out hL
      have hc1 := hc1 _ bw
      by_cases hM : j < M
      · obtain ⟨b2, off2, rfl, hc2⟩ := CB.out hM
        have hc2 := hc2 _ bw
        clear CA CB x0 y0 FIN
        go_wp2_with (at_builtin; refine wpList_append_own _ rfl _ _ 42 rfl w.heap.size 77 i (.int .u16 0) 1 2 Tryz.underlying42 hi hz0 hz1 hz2 rfl (by decide) _ _ _ rfl (HW.out.alloc _) ⟨_, 0, none⟩ 1 1 [.int .u16 _] rfl rfl (cell_one_new _ _ _) (by simp [Value.oneCell']) (by unfold maxLen; omega) (by omega) (by simp; omega) ?_; intro v' w2 o2 g2 _)
        go_roundw
        case rel =>
          have hz : IntKind.u16.wrap ((cy : Int) + x + y) = (((cy + x + y) % 65536 : Nat) : Int) := by rw [IntKind.wrap_u16]; omega
          have hc : ((cy : Int) + x + y) / 65536 = (((cy + x + y) / 65536 : Nat) : Int) := by omega
          rw [hc]
          exact REL.out ((cy + x + y) % 65536) ((cy + x + y) / 65536) (by omega) (by omega) (by omega) (Or.inl (by omega)) _ _ (sub_row hz o2) ((bw.alloc (by omega) _).grown g2 (by simp; omega) (fun k hk => (HW.out.lt k hk).1))
        case measure => simp [intOf]; omega
      · have hy0 := y0 hM
        subst hy0
        clear CA CB x0 y0 FIN
        go_wp2_with (at_builtin; refine wpList_append_own _ rfl _ _ 42 rfl w.heap.size 77 i (.int .u16 0) 1 2 Tryz.underlying42 hi hz0 hz1 hz2 rfl (by decide) _ _ _ rfl (HW.out.alloc _) ⟨_, 0, none⟩ 1 1 [.int .u16 _] rfl rfl (cell_one_new _ _ _) (by simp [Value.oneCell']) (by unfold maxLen; omega) (by omega) (by simp; omega) ?_; intro v' w2 o2 g2 _)
        go_roundw
        case rel =>
          have hz : IntKind.u16.wrap ((cy : Int) + x) = (((cy + x) % 65536 : Nat) : Int) := by rw [IntKind.wrap_u16]; omega
          have hc : ((cy : Int) + x) / 65536 = (((cy + x) / 65536 : Nat) : Int) := by omega
          rw [hc]
          exact REL.out ((cy + x) % 65536) ((cy + x) / 65536) (by omega) (by omega) (by omega) (Or.inl (by omega)) _ _ (sub_row hz o2) ((bw.alloc (by omega) _).grown g2 (by simp; omega) (fun k hk => (HW.out.lt k hk).1))
        case measure => simp [intOf]; omega
    · have hx0 := x0 hL
      subst hx0
      by_cases hM : j < M
      · obtain ⟨b2, off2, rfl, hc2⟩ := CB.out hM
        have hc2 := hc2 _ bw
        clear CA CB x0 y0 FIN
        go_wp2_with (at_builtin; refine wpList_append_own _ rfl _ _ 42 rfl w.heap.size 77 i (.int .u16 0) 1 2 Tryz.underlying42 hi hz0 hz1 hz2 rfl (by decide) _ _ _ rfl (HW.out.alloc _) ⟨_, 0, none⟩ 1 1 [.int .u16 _] rfl rfl (cell_one_new _ _ _) (by simp [Value.oneCell']) (by unfold maxLen; omega) (by omega) (by simp; omega) ?_; intro v' w2 o2 g2 _)
        go_roundw
        case rel =>
          have hz : IntKind.u16.wrap ((cy : Int) + y) = (((cy + y) % 65536 : Nat) : Int) := by rw [IntKind.wrap_u16]; omega
          have hc : ((cy : Int) + y) / 65536 = (((cy + y) / 65536 : Nat) : Int) := by omega
          rw [hc]
          exact REL.out ((cy + y) % 65536) ((cy + y) / 65536) (by omega) (by omega) (by omega) (Or.inl (by omega)) _ _ (sub_row hz o2) ((bw.alloc (by omega) _).grown g2 (by simp; omega) (fun k hk => (HW.out.lt k hk).1))
        case measure => simp [intOf]; omega
      · have hy0 := y0 hM
        subst hy0
        clear CA CB x0 y0
        rcases (show cy = 1 ∨ cy = 0 by omega) with rfl | rfl
        · have F := hide (FIN.out (by omega) rfl)
          go_wp2_with (at_builtin; refine wpList_append_own _ rfl _ _ 42 rfl w.heap.size 77 i (.int .u16 0) 1 2 Tryz.underlying42 hi hz0 hz1 hz2 rfl (by decide) _ _ _ rfl (HW.out.alloc _) ⟨_, 0, none⟩ 1 1 [.int .u16 _] rfl rfl (cell_one_new _ _ _) (by simp [Value.oneCell']) (by unfold maxLen; omega) (by omega) (by simp; omega) ?_; intro v' w2 o2 g2 _)
          go_roundw
          case rel => exact REL.out 1 0 (by omega) (by omega) (by omega) (Or.inr ⟨F.out.1, rfl, F.out.2⟩) _ _ (times_row2 o2) ((bw.alloc (by omega) _).grown g2 (by simp; omega) (fun k hk => (HW.out.lt k hk).1))
          case measure => have := F.out.1; simp [intOf]; omega
        · go_wp2
          go_ret
          have hv := HV.out
          rw [List.take_of_length_le (by have := HL.out; omega), List.take_of_length_le (by have := HM.out; omega), Nat.mul_zero, Nat.add_zero] at hv
          refine ⟨_, rfl, ⟨outs, row_of_owns HW.out, HD.out, NO.out outs HD.out hv ?_, hv⟩, fun g hg => (HW.out.lt g hg).1, bw⟩
          have h1 := HJ.out
          have h2 := HO.out
          rcases h1 with h1 | ⟨h1, _, h3⟩
          · left; omega
          · right; exact ⟨by omega, h3⟩
end Go.Proofs.YtbengmceiaejeaaGreatDoor
