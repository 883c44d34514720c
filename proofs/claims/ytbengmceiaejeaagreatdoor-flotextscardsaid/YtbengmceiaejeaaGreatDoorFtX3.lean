/- Digits with an exponent, as bytes: cut at the letter, the exponent read, the point taken out. -/
import Derived.Test.YtbengmceiaejeaaGreatDoorFtX1
import Derived.Lib.Replace
namespace Go.Proofs.YtbengmceiaejeaaGreatDoor
open Go.ChangeShapes Go.WideShapes Go.ChangeAt Go.RowKit

def dB (d j : Nat) : UInt8 := UInt8.ofNat (dgN d j)

theorem dgN_lt (d j : Nat) : 48 ≤ dgN d j ∧ dgN d j < 58 := by
  have : d / 10 ^ j % 10 < 10 := Nat.mod_lt _ (by decide)
  unfold dgN
  omega

theorem ofNat_toNat {k : Nat} (h : k < 256) : (UInt8.ofNat k).toNat = k := by rw [UInt8.toNat_ofNat']; omega

theorem dB_nat (d j : Nat) : (dB d j).toNat = dgN d j := ofNat_toNat (by have := dgN_lt d j; omega)

/-- The first r + 1 of n digits. -/
def digsB (d n r : Nat) : List UInt8 := (List.range (r + 1)).map fun j => dB d (n - 1 - j)
def tailB (d n r : Nat) : List UInt8 := (List.range r).map fun j => dB d (n - 1 - (j + 1))
def preB (d n r : Nat) : List UInt8 := if r = 0 then [dB d (n - 1)] else [dB d (n - 1)] ++ [46] ++ tailB d n r
def expB (X : Nat) : List UInt8 :=
  if X < 10 then [48, UInt8.ofNat (X + 48)]
  else if X < 100 then [UInt8.ofNat (X / 10 + 48), UInt8.ofNat (X % 10 + 48)]
  else [UInt8.ofNat (X / 100 + 48), UInt8.ofNat (X / 10 % 10 + 48), UInt8.ofNat (X % 10 + 48)]
def sgB (E : Int) : UInt8 := if E < 0 then 45 else 43
def eB (d n r : Nat) (E : Int) : List UInt8 := preB d n r ++ [101] ++ [sgB E] ++ expB E.natAbs

def asV (l : List UInt8) : List Value := l.map fun b => .int .u8 ((b.toNat : Nat) : Int)

theorem digsB_cons (d n r : Nat) : digsB d n r = dB d (n - 1) :: tailB d n r := by
  unfold digsB tailB
  rw [List.range_succ_eq_map, List.map_cons, List.map_map]
  rfl

theorem asV_tail (d n r : Nat) : asV (tailB d n r) = tailV (fun j => ((dgN d (n - 1 - j) : Nat) : Int)) r := by
  unfold asV tailB tailV
  rw [List.map_map]
  refine List.map_congr_left fun j _ => ?_
  simp only [Function.comp, dB_nat]

theorem asV_pre (d n r : Nat) : asV (preB d n r) = preV (fun j => ((dgN d (n - 1 - j) : Nat) : Int)) r := by
  unfold preB preV
  split
  · simp [asV, dB_nat]
  · rw [← asV_tail]
    simp [asV, dB_nat]

theorem asV_exp {X : Nat} (hX : X < 400) : asV (expB X) = expV X := by
  unfold expB expV
  split
  · simp [asV]; omega
  · split
    · simp [asV]; omega
    · simp [asV]; omega

theorem asV_e (d n r : Nat) {E : Int} (hE : E.natAbs < 400) : asV (eB d n r E) = eRow (preV (fun j => ((dgN d (n - 1 - j) : Nat) : Int)) r) (sgV E) E.natAbs := by
  have h1 := asV_pre d n r
  have h2 := asV_exp hE
  have h3 : asV [sgB E] = [.int .u8 (sgV E)] := by
    unfold sgB sgV
    split <;> rfl
  unfold eB eRow
  have app : ∀ a b, asV (a ++ b) = asV a ++ asV b := fun a b => List.map_append
  rw [app, app, app, h1, h2, h3]
  rfl

/-- Where a byte stands that is not ahead. -/
theorem index_app (c : UInt8) : ∀ (a b : List UInt8), c ∉ a → Lib.index (a ++ c :: b) [c] = (a.length : Int)
  | [], b, _ => by simp [Lib.index]
  | x :: a, b, h => by
    have hx : x ≠ c := fun e => h (by simp [e])
    have ha : c ∉ a := fun e => h (by simp [e])
    have ih := index_app c a b ha
    rw [List.cons_append, Lib.index, ih]
    have : ([c].isPrefixOf (x :: (a ++ c :: b))) = false := by simp [List.isPrefixOf]; exact fun e => hx e.symm
    rw [this]
    have h2 : ((a.length : Int) == -1) = false := by simp
    simp only [h2, Bool.false_eq_true, if_false, List.length_cons]
    omega

theorem dB_ne (d j : Nat) {c : UInt8} (hc : c.toNat < 48 ∨ 58 ≤ c.toNat) : c ≠ dB d j := by
  intro e
  have h1 := dgN_lt d j
  rw [e, dB_nat] at hc
  omega

theorem tail_no (d n r : Nat) {c : UInt8} (hc : c.toNat < 48 ∨ 58 ≤ c.toNat) : c ∉ tailB d n r := by
  unfold tailB
  intro h
  obtain ⟨j, _, e⟩ := List.mem_map.1 h
  exact dB_ne d _ hc e.symm

theorem pre_no (d n r : Nat) : (101 : UInt8) ∉ preB d n r := by
  have h1 : (101 : UInt8) ≠ dB d (n - 1) := dB_ne d _ (by decide)
  have h2 : (101 : UInt8) ∉ tailB d n r := tail_no d n r (by decide)
  unfold preB
  split
  · simpa using h1
  · simp only [List.mem_append, List.mem_singleton, not_or]
    exact ⟨⟨h1, by decide⟩, h2⟩

theorem cut_e (d n r : Nat) (E : Int) : Lib.cut (eB d n r E) [101] = (preB d n r, sgB E :: expB E.natAbs, true) := by
  have e : eB d n r E = preB d n r ++ 101 :: (sgB E :: expB E.natAbs) := by unfold eB; simp
  have h := index_app 101 (preB d n r) (sgB E :: expB E.natAbs) (pre_no d n r)
  unfold Lib.cut
  rw [e, h, if_pos (by omega)]
  simp

theorem dec_two (a b : Nat) (ha : a < 10) (hb : b < 10) : Lib.decNat [UInt8.ofNat (a + 48), UInt8.ofNat (b + 48)] = some (a * 10 + b) := by
  have h1 : Lib.digitVal (UInt8.ofNat (a + 48)) = some a := by unfold Lib.digitVal; rw [ofNat_toNat (by omega), if_pos (by omega)]; simp
  have h2 : Lib.digitVal (UInt8.ofNat (b + 48)) = some b := by unfold Lib.digitVal; rw [ofNat_toNat (by omega), if_pos (by omega)]; simp
  generalize UInt8.ofNat (a + 48) = x at h1 ⊢
  generalize UInt8.ofNat (b + 48) = y at h2 ⊢
  simp [Lib.decNat, Lib.decFrom, h1, h2]

theorem dec_three (a b c : Nat) (ha : a < 10) (hb : b < 10) (hc : c < 10) : Lib.decNat [UInt8.ofNat (a + 48), UInt8.ofNat (b + 48), UInt8.ofNat (c + 48)] = some ((a * 10 + b) * 10 + c) := by
  have h1 : Lib.digitVal (UInt8.ofNat (a + 48)) = some a := by unfold Lib.digitVal; rw [ofNat_toNat (by omega), if_pos (by omega)]; simp
  have h2 : Lib.digitVal (UInt8.ofNat (b + 48)) = some b := by unfold Lib.digitVal; rw [ofNat_toNat (by omega), if_pos (by omega)]; simp
  have h3 : Lib.digitVal (UInt8.ofNat (c + 48)) = some c := by unfold Lib.digitVal; rw [ofNat_toNat (by omega), if_pos (by omega)]; simp
  generalize UInt8.ofNat (a + 48) = x at h1 ⊢
  generalize UInt8.ofNat (b + 48) = y at h2 ⊢
  generalize UInt8.ofNat (c + 48) = z at h3 ⊢
  simp [Lib.decNat, Lib.decFrom, h1, h2, h3]

theorem dec_exp {X : Nat} (hX : X < 400) : Lib.decNat (expB X) = some X := by
  unfold expB
  split
  · have := dec_two 0 X (by omega) (by omega)
    simpa using this
  · split
    · rw [dec_two _ _ (by omega) (by omega)]
      congr 1
      omega
    · rw [dec_three _ _ _ (by omega) (by omega) (by omega)]
      congr 1
      omega

theorem atoi_exp {E : Int} (hE : E.natAbs < 400) : Lib.atoi (sgB E :: expB E.natAbs) = some E := by
  have hd := dec_exp hE
  by_cases h : E < 0
  · have e : sgB E = 45 := by unfold sgB; rw [if_pos h]
    rw [e]
    show (Lib.decNat (expB E.natAbs)).map (fun (m : Nat) => -(m : Int)) = some E
    rw [hd, Option.map_some]
    congr 1
    omega
  · have e : sgB E = 43 := by unfold sgB; rw [if_neg h]
    rw [e]
    show (Lib.decNat (expB E.natAbs)).map (fun (m : Nat) => (m : Int)) = some E
    rw [hd, Option.map_some]
    congr 1
    omega

theorem exp_size {X : Nat} : (expB X).length ≤ 3 := by
  unfold expB
  split
  · simp
  · split <;> simp

theorem count_no {s : List UInt8} (h : (46 : UInt8) ∉ s) : Lib.index s [46] = -1 := by
  refine Lib.index_none fun j hj => ?_
  unfold Lib.occAt
  rw [Bool.eq_false_iff]
  intro hp
  obtain ⟨t, ht⟩ := List.isPrefixOf_iff_prefix.1 hp
  apply h
  have : (46 : UInt8) ∈ s.drop j := by rw [← ht]; simp
  exact List.mem_of_mem_drop this

theorem replace_pre (d n r : Nat) : Lib.replace (preB d n r) [46] [] 1 = digsB d n r := by
  have hne : (([46] : List UInt8) == []) = false := by decide
  have h0 : (46 : UInt8) ≠ dB d (n - 1) := dB_ne d _ (by decide)
  have ht : (46 : UInt8) ∉ tailB d n r := tail_no d n r (by decide)
  unfold Lib.replace
  rw [hne]
  simp only [Bool.false_eq_true, if_false]
  rw [digsB_cons]
  unfold preB
  by_cases hr : r = 0
  · subst hr
    rw [if_pos rfl]
    have hi : Lib.index [dB d (n - 1)] [46] = -1 := count_no (by simpa using h0)
    have hc : Lib.count [dB d (n - 1)] [46] = 0 := by
      unfold Lib.count Lib.countFrom
      rw [hi]; rfl
    unfold Lib.replaceNum
    rw [hc]
    simp [Lib.replaceK, tailB]
  · rw [if_neg hr]
    have e : [dB d (n - 1)] ++ [46] ++ tailB d n r = [dB d (n - 1)] ++ 46 :: tailB d n r := by simp
    rw [e]
    have hi : Lib.index ([dB d (n - 1)] ++ 46 :: tailB d n r) [46] = ((1 : Nat) : Int) := index_app 46 [dB d (n - 1)] (tailB d n r) (by simpa using h0)
    have hcp : 1 ≤ Lib.count ([dB d (n - 1)] ++ 46 :: tailB d n r) [46] := by
      unfold Lib.count Lib.countFrom
      rw [hi]
      simp
    have hrn : Lib.replaceNum ([dB d (n - 1)] ++ 46 :: tailB d n r) [46] 1 = 1 := by
      unfold Lib.replaceNum
      split
      · rename_i h
        omega
      · rfl
    rw [hrn, Lib.replaceK_hit [46] [] 0 _ 1 hi]
    simp [Lib.replaceK]
end Go.Proofs.YtbengmceiaejeaaGreatDoor
/- The library's text of any number above 0, with an exponent. -/
namespace Go.Proofs.YtbengmceiaejeaaGreatDoor
open Go.ChangeShapes Go.WideShapes Go.ChangeAt Go.RowKit

/-- How far a number is moved so that its first digit stands at the top. -/
def zOf (m : Nat) : Nat := 64 - Lib.bitLen m

theorem z_facts {m : Nat} (hm0 : 0 < m) (hm : m < 9007199254740992) : 11 ≤ zOf m ∧ zOf m < 64 ∧ 9223372036854775808 ≤ m * 2 ^ zOf m ∧ m * 2 ^ zOf m < 18446744073709551616 ∧ (4503599627370496 ≤ m → zOf m = 11) ∧ (m < 4503599627370496 → 12 ≤ zOf m) ∧ Lib.bitLen m ≤ 53 ∧ (4 * m + 2) * 2 ^ (zOf m - 2) < 18446744073709551616 := by
  obtain ⟨b1, b2, b3⟩ := Lib.bitLenAux_bounds 64 m (by omega) (by omega)
  have e : Lib.bitLenAux 64 m = Lib.bitLen m := rfl
  rw [e] at b1 b2 b3
  have hb53 : Lib.bitLen m ≤ 53 := by
    rcases Nat.lt_or_ge 53 (Lib.bitLen m) with h | h
    · have : 2 ^ 53 ≤ 2 ^ (Lib.bitLen m - 1) := Nat.pow_le_pow_right (by decide) (by omega)
      omega
    · exact h
  unfold zOf
  obtain ⟨b, eb⟩ : ∃ b, Lib.bitLen m = b := ⟨_, rfl⟩
  rw [eb] at b1 b2 b3 hb53 ⊢
  have p1 : 2 ^ (b - 1) * 2 ^ (64 - b) = 2 ^ 63 := by rw [← Nat.pow_add]; congr 1; omega
  have p2 : 2 ^ b * 2 ^ (64 - b) = 2 ^ 64 := by rw [← Nat.pow_add]; congr 1; omega
  have q1 := Nat.mul_le_mul_right (2 ^ (64 - b)) b2
  have q2 := Nat.mul_le_mul_right (2 ^ (64 - b)) (show m + 1 ≤ 2 ^ b from b3)
  rw [p1] at q1
  rw [p2, Nat.add_mul, Nat.one_mul] at q2
  have hT : 0 < 2 ^ (64 - b) := Nat.two_pow_pos _
  have h4 : 2 ^ (64 - b) = 4 * 2 ^ (64 - b - 2) := by
    rw [show (4 : Nat) = 2 ^ 2 from rfl, ← Nat.pow_add]
    congr 1
    omega
  refine ⟨by omega, by omega, by omega, by omega, ?_, ?_, hb53, ?_⟩
  · intro h
    have : ¬ b ≤ 52 := fun hb => by
      have : 2 ^ b ≤ 2 ^ 52 := Nat.pow_le_pow_right (by decide) hb
      omega
    omega
  · intro h
    have : ¬ 53 ≤ b := fun hb => by
      have : 2 ^ 52 ≤ 2 ^ (b - 1) := Nat.pow_le_pow_right (by decide) (by omega)
      omega
    omega
  · rw [h4] at q2 hT
    obtain ⟨T, eT⟩ : ∃ T, 2 ^ (64 - b - 2) = T := ⟨_, rfl⟩
    rw [eT] at q2 hT ⊢
    have e1 : (4 * m + 2) * T = 4 * (m * T) + 2 * T := by rw [Nat.add_mul, Nat.mul_assoc]
    have e2 : m * (4 * T) = 4 * (m * T) := Nat.mul_left_comm _ _ _
    rw [e1]
    rw [e2] at q2
    omega

theorem short_bound {m Q : Nat} (hm0 : 0 < m) (hm : m < 9007199254740992) (hQ : Q ≤ 2045) (hsub : Q = 0 ∨ 4503599627370496 ≤ m) :
    inI m Q (aOf m Q) (mOf m Q) (shortG m Q (zOf m)) = true ∧ 1 ≤ shortD m Q (zOf m) ∧ shortD m Q (zOf m) < 100000000000000000 ∧ (shortT m Q (zOf m) = unitK m Q ∨ shortT m Q (zOf m) = unitK m Q + 1) := by
  obtain ⟨z1, z2, z3, z4, z5, z6, z7, hx⟩ := z_facts hm0 hm
  have hM : 0 < mOf m Q := den_pos _ _
  have hA : 0 < aOf m Q := num_pos _ _
  have hl := low_cases m Q hm0
  have hY : 4 * m + 2 < Ymax := by unfold Ymax; omega
  have p2 : ∀ y, y ≤ 4 * m + 2 → y * 2 ^ (zOf m - 2) < 18446744073709551616 := fun y hy => Nat.lt_of_le_of_lt (Nat.mul_le_mul_right _ hy) hx
  have u0 := us_of (m := m) hQ z1 (y := lowY m Q) (by omega) (by omega) (p2 _ (by omega))
  have u1 := us_of (m := m) hQ z1 (y := 4 * m + 2) (by omega) hY hx
  have u2 := us_of (m := m) hQ z1 (y := 4 * m) (by omega) (by omega) (p2 _ (by omega))
  have sp := span_of hm0 hQ hsub
  have hI := inI_between (m := m) (Q := Q) hM hA hm0
  have hr := rnd_upper hM sp.val sp.rho
  have e : shortG m Q (zOf m) = goRes (dMin m (unr (lowY m Q * aOf m Q) (mOf m Q))) (dMax m (unr ((4 * m + 2) * aOf m Q) (mOf m Q))) (if upper (mOf m Q) (4 * (m * aOf m Q % mOf m Q)) (m * aOf m Q / mOf m Q) then m * aOf m Q / mOf m Q + 1 else m * aOf m Q / mOf m Q) := by
    show goRes (dMin m (usF (lowY m Q * 2 ^ (zOf m - 2)) (rowOf (unitK m Q)).1 (rowOf (unitK m Q)).2 (shiftN m Q (zOf m)))) (dMax m (usF ((4 * m + 2) * 2 ^ (zOf m - 2)) (rowOf (unitK m Q)).1 (rowOf (unitK m Q)).2 (shiftN m Q (zOf m)))) (rnd4 (usF (4 * m * 2 ^ (zOf m - 2)) (rowOf (unitK m Q)).1 (rowOf (unitK m Q)).2 (shiftN m Q (zOf m)))) = _
    rw [u0, u1, u2, hr]
  have hin := sp.res_in hI
  rw [← e] at hin
  have hpos := sp.pos hin
  have hle := sp.inU _ hin
  have hw := wid_cases (m := m) hQ
  have hlt : shortG m Q (zOf m) < 100000000000000000 := by
    obtain ⟨A, eA⟩ : ∃ A, aOf m Q = A := ⟨_, rfl⟩
    obtain ⟨M, eM⟩ : ∃ M, mOf m Q = M := ⟨_, rfl⟩
    obtain ⟨g, eg⟩ : ∃ g, shortG m Q (zOf m) = g := ⟨_, rfl⟩
    rw [eA, eM] at hw hle
    rw [eg] at hle ⊢
    rw [eM] at hM
    rcases Nat.lt_or_ge g 100000000000000000 with h | h
    · exact h
    · exfalso
      have h1 := Nat.mul_le_mul_left (4 * M) h
      rcases hw with ⟨hm2, _, _, h4⟩ | ⟨_, _, h4⟩
      · have h5 : (4 * m + 2) * A = 18014398509481986 * A := by rw [hm2]
        omega
      · have h5 := Nat.mul_le_mul_right A (show 4 * m + 2 ≤ 36028797018963970 by omega)
        omega
  refine ⟨hin, ?_⟩
  rcases shortD_units m Q (zOf m) with ⟨h1, h2⟩ | ⟨h1, h2⟩
  · exact ⟨by omega, by omega, Or.inl h1⟩
  · exact ⟨by omega, by omega, Or.inr h1⟩

theorem unit_bound {m Q : Nat} (hQ : Q ≤ 2045) : -340 ≤ unitK m Q ∧ unitK m Q ≤ 340 := by
  unfold unitK
  split
  · unfold skw; omega
  · unfold l10; omega

theorem strip_at {d i g : Nat} (e : d = g * 10 ^ i) (hg : g % 10 ≠ 0) : (∀ t, t < i → d / 10 ^ t % 10 = 0) ∧ d / 10 ^ i % 10 ≠ 0 := by
  subst e
  constructor
  · intro t ht
    have h1 : 10 ^ i = 10 ^ (i - t - 1) * 10 * 10 ^ t := by
      rw [← Nat.pow_succ, ← Nat.pow_add]
      congr 1
      omega
    rw [h1, ← Nat.mul_assoc, Nat.mul_div_cancel _ (Nat.pow_pos (by decide)), ← Nat.mul_assoc]
    exact Nat.mul_mod_left _ _
  · rw [Nat.mul_div_cancel _ (Nat.pow_pos (by decide))]
    exact hg

/-- The number of digits without the noughts behind them. -/
theorem nd_strip {g i : Nat} (hg : 0 < g) : Lib.nDigits (g * 10 ^ i) = Lib.nDigits g + i := by
  induction i with
  | zero => simp
  | succ i ih =>
    rw [Nat.pow_succ, ← Nat.mul_assoc, Lib.nDigits]
    have h10 : 0 < g * 10 ^ i := Nat.mul_pos hg (Nat.pow_pos (by decide))
    rw [dif_neg (by omega), Nat.mul_div_cancel _ (by decide), ih]
    omega
end Go.Proofs.YtbengmceiaejeaaGreatDoor
