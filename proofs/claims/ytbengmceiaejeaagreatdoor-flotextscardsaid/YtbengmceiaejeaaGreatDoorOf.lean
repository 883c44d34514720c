/- Amounts: shl, value, lenB, small. -/
import Derived.Test.YtbengmceiaejeaaGreatDoorBig4
import Derived.Test.YtbengmceiaejeaaGreatDoorBigM
import Derived.Laws.Rows
namespace Go.Proofs.YtbengmceiaejeaaGreatDoor
open Go.ChangeShapes Go.WideShapes Go.ChangeAt Go.RowKit

/-- Below the bound, said so that no tool reckons it. -/
structure Kept (m : Nat) : Prop where
  out : m < BIG

theorem row_len {w : World} {ao : Option Addr} {l c : Nat} {ds : List Nat} (h : Row w (.slice ao l c) ds) : ds.length = l := by
  obtain ⟨_, _, e⟩ := h.form
  injection e with _ e2 _
  exact e2.symm

theorem valD_zeros (k : Nat) (rs : List Nat) : valD (List.replicate k 0 ++ rs) = 65536 ^ k * valD rs := by
  have hz : valD (List.replicate k 0) = 0 := by
    induction k with
    | zero => rfl
    | succ k ih => rw [List.replicate_succ]; simp [valD, ih]
  rw [valD_append, hz, List.length_replicate, Nat.zero_add]

theorem shl_pow (m n : Nat) : 65536 ^ (n / 16) * (m * 2 ^ (n % 16)) = m * 2 ^ n := by
  have e : (65536 : Nat) = 2 ^ 16 := by decide
  rw [e, ← Nat.pow_mul, Nat.mul_comm, Nat.mul_assoc, ← Nat.pow_add]
  congr 2
  omega

theorem amt_pos {w : World} {v : Value} {n : Nat} (h : IsAmt w v n) (hn : 0 < n) : ∃ b off cap rs, v = .slice (some ⟨b, off, none⟩) rs.length cap ∧ Row w (.slice (some ⟨b, off, none⟩) rs.length cap) rs ∧ DigsOk rs ∧ Norm rs ∧ valD rs = n := by
  obtain ⟨ds, rr, rd, rn, rv⟩ := h
  rcases rr with ⟨_, rfl⟩ | ⟨b, off, cap, e, h1⟩
  · rw [← rv] at hn; simp [valD] at hn
  · exact ⟨b, off, cap, ds, e, Or.inr ⟨b, off, cap, rfl, h1⟩, rd, rn, rv⟩

theorem made_zero {w : World} {B e q : Nat} {v : Value} (o : w.ownsRow B e 1 v q (madeCells (Value.int IntKind.u16 0).cells (q * 1)).toList) : w.ownsRow B e 1 v q (dv (List.replicate q 0)) := by
  have h : (madeCells (Value.int IntKind.u16 0).cells (q * 1)).toList = dv (List.replicate q 0) := by
    rw [Nat.mul_one]
    exact (toList_madeCells_one (.int .u16 0) q).trans (by simp [dv])
  rw [h] at o
  exact o

theorem shl_row {w : World} {B e q : Nat} {v : Value} {rs : List Nat} (o : w.ownsRow B e 1 v (q + rs.length) (dv (List.replicate q 0) ++ dv rs)) : w.ownsRow B e 1 v (List.replicate q 0 ++ rs).length (dv (List.replicate q 0 ++ rs)) := by
  rw [dv_append, List.length_append, List.length_replicate]
  exact o

theorem digs_zeros {q : Nat} {rs : List Nat} (h : DigsOk rs) : DigsOk (List.replicate q 0 ++ rs) := by
  intro d hd
  rw [List.mem_append, List.mem_replicate] at hd
  rcases hd with hd | hd
  · omega
  · exact h d hd

set_option maxHeartbeats 4000000 in
theorem shl_any (a : Value) (m n : Nat) (w : World) (ha : IsAmt w a m) (hm : m < BIG) (hb : m * 65536 < BIG) (hn : n ≤ 60000) : Calls Tryz.prog 74 #[a, .int .i64 (n : Int)] w fun e w' => ∃ v, e = .returned v ∧ IsAmt w' v (m * 2 ^ n) ∧ Below w.heap.size w w' := by
  have HA := hide ha
  have HM : Kept m := ⟨hm⟩
  have HBB : Kept (m * 65536) := ⟨hb⟩
  obtain ⟨xs, ra, da, na, hv⟩ := ha
  clear hm hb
  obtain ⟨i, hi, hz0, hz1, hz2⟩ := info_parts info16
  obtain ⟨ao, cap, rfl⟩ := ra.form
  cases hx : xs.length with
  | zero =>
    have : xs = [] := List.eq_nil_of_length_eq_zero hx
    subst this
    have hm0 : m = 0 := by rw [← hv]; rfl
    subst hm0
    clear HA ra hv
    go_enter Tryz.func74, Tryz.ntmps74
    go_wp2
    go_ret
    exact ⟨_, rfl, ⟨[], Or.inl ⟨rfl, rfl⟩, digs_nil, norm_nil, by simp [valD]⟩, Below.refl _ _⟩
  | succ l =>
    have hm1 : 0 < m := by
      have := norm_low na hx
      have h2 : 0 < 65536 ^ l := Nat.pow_pos (by decide)
      omega
    obtain ⟨M, eM⟩ : ∃ M, l + 1 = M := ⟨_, rfl⟩
    rw [hx, eM] at HA
    rw [eM]
    have hM0 : ((M : Int) == 0) = false := by simp; omega
    clear ra da na hv hx eM
    have hq : (n : Int).tdiv 16 = ((n / 16 : Nat) : Int) := by rw [Int.tdiv_eq_ediv_of_nonneg (by omega)]; omega
    have hr : (n : Int).tmod 16 = ((n % 16 : Nat) : Int) := by rw [Int.tmod_eq_emod_of_nonneg (by omega)]; omega
    obtain ⟨q, eq⟩ : ∃ q, n / 16 = q := ⟨_, rfl⟩
    obtain ⟨k, ek⟩ : ∃ k, n % 16 = k := ⟨_, rfl⟩
    have hk : k < 16 := by omega
    have hq2 : q ≤ 3750 := by omega
    rw [eq] at hq
    rw [ek] at hr
    have EQ := hide eq
    have EK := hide ek
    have hqe : (n : Int) / 16 = (q : Int) := by omega
    have hre : (n : Int) % 16 = (k : Int) := by omega
    clear eq ek
    obtain ⟨pk, epk⟩ : ∃ p, 2 ^ k = p := ⟨_, rfl⟩
    have hpk : pk ≤ 32768 := by
      rw [← epk]
      exact Nat.le_trans (Nat.pow_le_pow_right (by decide) (show k ≤ 15 by omega)) (by decide)
    have hpk0 : 0 < pk := by rw [← epk]; exact Nat.two_pow_pos k
    have hp : (2 : Int) ^ k % 4294967296 = (pk : Int) := by
      have : (2 : Int) ^ k = (pk : Int) := by rw [← epk]; simp
      rw [this]
      omega
    have HPK := hide epk
    have hmp : 0 < m * pk := Nat.mul_pos hm1 hpk0
    have HKP : Kept (m * pk) := ⟨Nat.lt_of_le_of_lt (Nat.mul_le_mul_left m (by omega : pk ≤ 65536)) HBB.out⟩
    have T := fun wt (hb : Below w.heap.size w wt) => timesD_any _ m pk wt (HA.out.below hb) HM.out (by omega)
    clear epk hpk0 hm1
    go_enter Tryz.func74, Tryz.ntmps74
    go_wp2_with (first
      | (at_make; refine wpList_make_full _ rfl _ _ 42 rfl w.heap.size 77 i _ 1 Tryz.underlying42 hi hz0 hz1 _ _ _ _ q rfl rfl (by first | rfl | omega) (by first | rfl | omega) (by rw [hz2]; omega) (by unfold maxLen; omega) (Nat.le_refl _) ?_; intro w1 o1 g1; have b1 : Below w.heap.size w w1 := (Below.refl _ _).grown g1 (Nat.le_refl _) (fun k e => by cases e))
      | (go_at_call 98; refine (T _ b1).mono ?_; rintro e w2 ⟨v, rfl, hv, fv, b2⟩
         obtain ⟨rb, ro, rc, rs, rfl, rr, rd, rn, rv⟩ := amt_pos hv hmp
         have hrl := len_big rn (by rw [rv]; exact HKP.out)
         have OW := own_kept2 (made_zero o1) b2
         have NW := rr.news
         have bs2 := b2.size
         have bs1 := b1.size)
      | (at_builtin; refine wpList_append_own _ rfl _ _ 42 rfl w.heap.size 77 i (.int .u16 0) 1 2 Tryz.underlying42 hi hz0 hz1 hz2 rfl (by decide) _ _ _ rfl OW ⟨rb, ro, none⟩ rs.length rc (dv rs) rfl (by rw [dv_length, Nat.mul_one]) NW (dv_ones rs) (by unfold maxLen; omega) (by omega) (by omega) ?_; intro v' w3 o3 g3 _
         have TR := trim_any v' (List.replicate q 0 ++ rs) w3 (row_of_owns (shl_row o3)) (digs_zeros rd)
         have b3 : Below w.heap.size w w3 := (b1.trans (b2.mono b1.size)).grown g3 (by omega) (fun k hk => by have h7 : some w.heap.size = some k := hk; have := Option.some.inj h7; omega))
      | (go_at_call 54; refine TR.mono ?_; rintro e w' ⟨v4, rfl, h4, f4, rfl⟩))
    go_ret
    refine ⟨_, rfl, ?_, b3⟩
    rw [valD_zeros, rv] at h4
    have e := shl_pow m n
    rw [EQ.out, EK.out, HPK.out] at e
    rw [← e]
    exact h4
end Go.Proofs.YtbengmceiaejeaaGreatDoor
/- Amounts: value, lenB, small. -/
namespace Go.Proofs.YtbengmceiaejeaaGreatDoor
open Go.ChangeShapes Go.WideShapes Go.ChangeAt Go.RowKit

theorem or_digit (A d : Nat) (hA : A < 281474976710656) (hd : d < 65536) : bits .or .u64 ((A : Int) * 65536) (d : Int) = ((d + 65536 * A : Nat) : Int) := by
  have h := u64_or (A * 65536) d (by omega) (by omega)
  rw [show ((A * 65536 : Nat) : Int) = (A : Int) * 65536 by simp] at h
  rw [h]
  have h1 : 2 ^ 16 * A + d = 2 ^ 16 * A ||| d := Nat.two_pow_add_eq_or_of_lt hd A
  congr 1
  rw [show A * 65536 = 2 ^ 16 * A by omega, ← h1]
  omega

theorem drop_le (ds : List Nat) (k : Nat) : valD (ds.drop k) ≤ valD ds := by
  have h := valD_append (ds.take k) (ds.drop k)
  rw [List.take_append_drop] at h
  have h1 : 1 * valD (ds.drop k) ≤ 65536 ^ (ds.take k).length * valD (ds.drop k) := Nat.mul_le_mul_right _ (Nat.pow_pos (by decide))
  omega

set_option maxHeartbeats 4000000 in
theorem value_any (a : Value) (m : Nat) (w : World) (ha : IsAmt w a m) (hm : m < 18446744073709551616) : Calls Tryz.prog 53 #[a] w fun e w' => e = .returned (.int .u64 (m : Int)) ∧ w' = w := by
  obtain ⟨xs, ra, da, na, hv⟩ := ha
  have hlen : xs.length ≤ 4 := by
    rcases Nat.lt_or_ge 4 xs.length with h | h
    · obtain ⟨k, hk⟩ : ∃ k, xs.length = k + 1 := ⟨xs.length - 1, by omega⟩
      have h2 := norm_low na hk
      have h3 : 65536 ^ 4 ≤ 65536 ^ k := Nat.pow_le_pow_right (by decide) (by omega)
      have h4 : (65536 : Nat) ^ 4 = 18446744073709551616 := by decide
      omega
    · exact h
  have RA := hide ra
  obtain ⟨ao, cap, rfl⟩ := ra.form
  have HVV := hide hv
  clear na ra hv
  obtain ⟨L, eL⟩ : ∃ L, xs.length = L := ⟨_, rfl⟩
  have HL := hide eL
  rw [eL] at RA hlen ⊢
  clear eL
  go_enter Tryz.func53, Tryz.ntmps53
  go_wp2
  go_loop [3, 4] (fun x ix => ∃ k : Nat, k ≤ L ∧ ix = .int .i64 ((k : Int) - 1) ∧ x = .int .u64 ((valD (xs.drop k) : Nat) : Int)) (fun _ ix => (intOf ix + 1).toNat)
  case atStart => exact ⟨L, Nat.le_refl _, by go_num, by rw [List.drop_of_length_le (by have := HL.out; omega)]; rfl⟩
  case round =>
    obtain ⟨k, hk, rfl, rfl⟩ := hrel
    cases k with
    | zero =>
      rw [List.drop_zero, HVV.out]
      go_wp2
      go_ret
      exact ⟨rfl, rfl⟩
    | succ k =>
      obtain ⟨b, off, hbs, rfl, hcell⟩ := RA.out.at HL.out (by omega)
      have hc := hcell k (by have := HL.out; omega)
      have hx := da.getD k
      have hdr := valD_drop xs k (by have := HL.out; omega)
      have hle := drop_le xs k
      rw [HVV.out] at hle
      obtain ⟨x, ex⟩ : ∃ x, xs.getD k 0 = x := ⟨_, rfl⟩
      rw [ex] at hc hx hdr
      have hix : ((k + 1 : Nat) : Int) - 1 = (k : Int) := by omega
      have hkL : k < L := by omega
      obtain ⟨A, eA⟩ : ∃ A, valD (xs.drop (k + 1)) = A := ⟨_, rfl⟩
      rw [eA] at hdr ⊢
      have hA : A < 281474976710656 := by omega
      have ho := or_digit A x hA hx
      have HDR := hide hdr
      clear hcell ex eA hdr hle
      go_wp2
      go_round
      case rel => exact ⟨k, by omega, by go_num, by rw [HDR.out]; simp⟩
      case measure => simp [intOf]

/-- How many binary digits. -/
def blen (m : Nat) : Nat := if m = 0 then 0 else m.log2 + 1

theorem blen_half {t : Nat} (h : 0 < t) : blen t = blen (t / 2) + 1 := by
  unfold blen
  rw [if_neg (by omega)]
  rw [Nat.log2_def]
  by_cases h2 : 2 ≤ t
  · rw [if_pos h2, if_neg (by omega)]
  · rw [if_neg h2, if_pos (by omega)]

theorem blen_top {low t k : Nat} (hl : low < 65536 ^ k) (ht : 0 < t) : blen (low + 65536 ^ k * t) = 16 * k + blen t := by
  have e : (65536 : Nat) ^ k = 2 ^ (16 * k) := by rw [show (65536 : Nat) = 2 ^ 16 by decide, ← Nat.pow_mul]
  rw [e] at hl ⊢
  have p := Nat.two_pow_pos (16 * k)
  obtain ⟨P, eP⟩ : ∃ P, 2 ^ (16 * k) = P := ⟨_, rfl⟩
  have h0 : t ≠ 0 := by omega
  have lo := (Nat.log2_eq_iff h0).1 rfl
  unfold blen
  have hne : low + 2 ^ (16 * k) * t ≠ 0 := by
    rw [eP] at p ⊢
    have := Nat.mul_pos p ht
    omega
  rw [if_neg hne, if_neg h0]
  have : (low + 2 ^ (16 * k) * t).log2 = 16 * k + t.log2 := by
    refine (Nat.log2_eq_iff hne).2 ⟨?_, ?_⟩
    · rw [Nat.pow_add]
      have := Nat.mul_le_mul_left (2 ^ (16 * k)) lo.1
      omega
    · rw [Nat.add_assoc, Nat.pow_add]
      have := Nat.mul_le_mul_left (2 ^ (16 * k)) (show t + 1 ≤ 2 ^ (t.log2 + 1) by omega)
      rw [Nat.mul_add, Nat.mul_one] at this
      omega
  omega

set_option maxHeartbeats 4000000 in
theorem lenB_any (a : Value) (m : Nat) (w : World) (ha : IsAmt w a m) (hm : m < BIG) : Calls Tryz.prog 72 #[a] w fun e w' => e = .returned (.int .i64 ((blen m : Nat) : Int)) ∧ w' = w := by
  obtain ⟨xs, ra, da, na, hv⟩ := ha
  have hlen := len_big na (by rw [hv]; exact hm)
  clear hm
  obtain ⟨ao, cap, rfl⟩ := ra.form
  cases hx : xs.length with
  | zero =>
    have : xs = [] := List.eq_nil_of_length_eq_zero hx
    subst this
    have hm0 : m = 0 := by rw [← hv]; rfl
    subst hm0
    clear ra hv
    go_enter Tryz.func72, Tryz.ntmps72
    go_wp2
    go_ret
    exact ⟨rfl, rfl⟩
  | succ l =>
    rw [hx] at ra
    obtain ⟨b, off, hbs, rfl, hcell⟩ := ra.at hx (by omega)
    have hc := hcell l (by omega)
    have ht := na l hx
    have hd := da.getD l
    have hs := valD_take_snoc xs l (by omega)
    rw [List.take_of_length_le (by omega), hv] at hs
    have hlow := valD_lt (da.take l)
    rw [List.length_take, Nat.min_eq_left (by omega)] at hlow
    obtain ⟨t, et⟩ : ∃ t, xs.getD l 0 = t := ⟨_, rfl⟩
    rw [et] at hc ht hd hs
    have HB : Hid (blen m = 16 * l + blen t) := hide (by rw [hs]; exact blen_top hlow (by omega))
    obtain ⟨M, eM⟩ : ∃ M, l + 1 = M := ⟨_, rfl⟩
    rw [eM]
    have hM0 : ((M : Int) == 0) = false := by simp; omega
    have hM1 : (M : Int) - 1 = (l : Int) := by omega
    have hM2 : l < M := by omega
    have hl4 : l ≤ 4000 := by omega
    clear ra da na hv hx hcell ht et eM hs hlow hlen
    go_enter Tryz.func72, Tryz.ntmps72
    go_wp2
    go_loop [3, 4] (fun n v => ∃ (s c : Nat), v = .int .u16 (s : Int) ∧ n = .int .i64 ((16 * l + c : Nat) : Int) ∧ s < 65536 ∧ c ≤ 100 ∧ blen s + c = blen t) (fun _ v => (intOf v).toNat)
    case atStart => exact ⟨t, 0, rfl, by go_num, hd, by omega, by omega⟩
    case round =>
      obtain ⟨s, c, rfl, rfl, hs, hc100, hbl⟩ := hrel
      have HBL := hide hbl
      clear hbl
      by_cases h0 : s = 0
      · subst h0
        go_wp2
        go_ret
        refine ⟨ret_int ?_, rfl⟩
        have h1 := HBL.out
        have h2 : blen 0 = 0 := rfl
        rw [HB.out]
        omega
      · have h1 := blen_half (t := s) (by omega)
        have hb16 : blen s + c = blen t := HBL.out
        have hbt : blen t ≤ 16 := by
          unfold blen
          by_cases ht0 : t = 0
          · rw [if_pos ht0]; omega
          · rw [if_neg ht0]
            have := (Nat.log2_lt ht0).2 (show t < 2 ^ 16 by omega)
            omega
        have HH := hide h1
        have hcc : c ≤ 16 := by omega
        clear h1 hb16 hbt
        go_wp2
        go_round
        case rel => exact ⟨s / 2, c + 1, by go_num, by go_num, by omega, by omega, by have := HH.out; have := HBL.out; omega⟩
        case measure => simp [intOf]; omega

theorem small_digits (x : Nat) (hx : x < 18446744073709551616) : valD [x % 65536, x / 65536 % 65536, x / 4294967296 % 65536, x / 281474976710656 % 65536] = x := by
  simp only [valD]
  omega

theorem small_any (x : Nat) (hx : x < 18446744073709551616) (w : World) : Calls Tryz.prog 24 #[.int .u64 (x : Int)] w fun e w' => ∃ v, e = .returned v ∧ IsAmt w' v x ∧ Below w.heap.size w w' ∧ (∀ g, v.ownBlock = some g → w.heap.size ≤ g) := by
  have w0 : IntKind.u16.wrap (x : Int) = ((x % 65536 : Nat) : Int) := by rw [IntKind.wrap_u16]; omega
  have w1 : IntKind.u16.wrap ((x : Int) / 65536) = ((x / 65536 % 65536 : Nat) : Int) := by rw [IntKind.wrap_u16]; omega
  have w2 : IntKind.u16.wrap ((x : Int) / 4294967296) = ((x / 4294967296 % 65536 : Nat) : Int) := by rw [IntKind.wrap_u16]; omega
  have w3 : IntKind.u16.wrap ((x : Int) / 281474976710656) = ((x / 281474976710656 % 65536 : Nat) : Int) := by rw [IntKind.wrap_u16]; omega
  have HS := hide (small_digits x hx)
  have h0 : x % 65536 < 65536 := by omega
  have h1 : x / 65536 % 65536 < 65536 := by omega
  have h2 : x / 4294967296 % 65536 < 65536 := by omega
  have h3 : x / 281474976710656 % 65536 < 65536 := by omega
  obtain ⟨d0, e0⟩ : ∃ d, x % 65536 = d := ⟨_, rfl⟩
  obtain ⟨d1, e1⟩ : ∃ d, x / 65536 % 65536 = d := ⟨_, rfl⟩
  obtain ⟨d2, e2⟩ : ∃ d, x / 4294967296 % 65536 = d := ⟨_, rfl⟩
  obtain ⟨d3, e3⟩ : ∃ d, x / 281474976710656 % 65536 = d := ⟨_, rfl⟩
  rw [e0] at w0 h0 HS
  rw [e1] at w1 h1 HS
  rw [e2] at w2 h2 HS
  rw [e3] at w3 h3 HS
  clear e0 e1 e2 e3
  have RW : Row (w.alloc (.cells #[.int .u16 (d0 : Int), .int .u16 (d1 : Int), .int .u16 (d2 : Int), .int .u16 (d3 : Int)] 77)) (.slice (some ⟨w.heap.size, 0, none⟩) 4 4) [d0, d1, d2, d3] := by
    refine Or.inr ⟨w.heap.size, 0, 4, rfl, by simp, Nat.le_refl _, by decide, fun j hj => ?_⟩
    have : j = 0 ∨ j = 1 ∨ j = 2 ∨ j = 3 := by simp at hj; omega
    rcases this with rfl | rfl | rfl | rfl <;> simp
  have TR := trim_any _ [d0, d1, d2, d3] _ RW (by intro d hd; simp at hd; rcases hd with rfl | rfl | rfl | rfl <;> assumption)
  have HR := hide RW
  clear RW
  go_enter Tryz.func24, Tryz.ntmps24
  go_wp2_with (go_at_call 54; refine TR.mono ?_; rintro e w' ⟨v4, rfl, h4, f4, rfl⟩)
  go_ret
  refine ⟨_, rfl, ?_, (Below.refl _ _).alloc (Nat.le_refl _) _, fun g hg => by have h7 : some w.heap.size = some g := f4 g hg; have := Option.some.inj h7; omega⟩
  rw [HS.out] at h4
  exact h4
end Go.Proofs.YtbengmceiaejeaaGreatDoor
/- Amounts: small facts that several walks share. -/
namespace Go.Proofs.YtbengmceiaejeaaGreatDoor
open Go.ChangeShapes Go.WideShapes Go.ChangeAt Go.RowKit

theorem big_of {M a : Nat} (h : M < 2 ^ a) (ha : a ≤ 64000) : M < BIG := by
  have e : BIG = 2 ^ (16 * K0) := by unfold BIG; rw [show (65536 : Nat) = 2 ^ 16 by decide, ← Nat.pow_mul]
  rw [e]
  exact Nat.lt_of_lt_of_le h (Nat.pow_le_pow_right (by decide) (by rw [K0_eq]; omega))

theorem mul_pow_lt {M l k : Nat} (h : M < 2 ^ l) : M * 2 ^ k < 2 ^ (l + k) := by
  rw [Nat.pow_add]
  exact Nat.mul_lt_mul_of_pos_right h (Nat.two_pow_pos k)

theorem row_digit (w : World) (t : TypeId) (d : Nat) : Row (w.alloc (.cells #[.int .u16 (d : Int)] t)) (.slice (some ⟨w.heap.size, 0, none⟩) 1 1) [d] := by
  refine Or.inr ⟨w.heap.size, 0, 1, rfl, by simp, Nat.le_refl _, by decide, fun j hj => ?_⟩
  have : j = 0 := by simp at hj; omega
  subst this
  simp

theorem amt_one (w : World) (t : TypeId) : IsAmt (w.alloc (.cells #[.int .u16 1] t)) (.slice (some ⟨w.heap.size, 0, none⟩) 1 1) 1 :=
  ⟨[1], row_digit w t 1, by intro d hd; simp at hd; omega, by intro k hk; simp at hk; subst hk; simp, by simp [valD]⟩
end Go.Proofs.YtbengmceiaejeaaGreatDoor
/- The reference's Of: a finite real's number. -/
namespace Go.Proofs.YtbengmceiaejeaaGreatDoor
open Go.ChangeShapes Go.WideShapes Go.ChangeAt Go.RowKit
open Ieee

theorem mask11' (a : Nat) (ha : a < 18446744073709551616) : bits .and .u64 (a : Int) 2047 = ((a % 2048 : Nat) : Int) := by
  have h := u64_and a 2047 ha (by decide)
  rw [show ((2047 : Nat) : Int) = 2047 from rfl] at h
  rw [h, show (2047 : Nat) = 2 ^ 11 - 1 by decide, Nat.and_two_pow_sub_one_eq_mod]
theorem mask52' (a : Nat) (ha : a < 18446744073709551616) : bits .and .u64 (a : Int) 4503599627370495 = ((a % 4503599627370496 : Nat) : Int) := by
  have h := u64_and a 4503599627370495 ha (by decide)
  rw [show ((4503599627370495 : Nat) : Int) = 4503599627370495 from rfl] at h
  rw [h, show (4503599627370495 : Nat) = 2 ^ 52 - 1 by decide, Nat.and_two_pow_sub_one_eq_mod]
theorem or52' (m : Nat) (h : m < 4503599627370496) : bits .or .u64 (m : Int) 4503599627370496 = ((m + 4503599627370496 : Nat) : Int) := by
  have h1 := u64_or m 4503599627370496 (by omega) (by decide)
  rw [show ((4503599627370496 : Nat) : Int) = 4503599627370496 from rfl] at h1
  rw [h1]
  have h2 : 2 ^ 52 * 1 + m = 2 ^ 52 * 1 ||| m := Nat.two_pow_add_eq_or_of_lt h 1
  rw [Nat.mul_one] at h2
  have e : (4503599627370496 : Nat) = 2 ^ 52 := by decide
  rw [e, Nat.or_comm, ← h2, Nat.add_comm]

theorem amt_form {w : World} {v : Value} {n : Nat} (h : IsAmt w v n) : ∃ ao l c, v = .slice ao l c := by
  obtain ⟨ds, rr, _⟩ := h
  obtain ⟨ao, c, e⟩ := rr.form
  exact ⟨ao, _, c, e⟩

theorem cell_kept {w w1 : World} {c0 c1 c2 : Value} {t : TypeId} (h : Below (w.alloc (.cells #[c0, c1, c2] t)).heap.size (w.alloc (.cells #[c0, c1, c2] t)) w1) : w1.cell? ⟨w.heap.size, 0, none⟩ = some c0 ∧ w1.cell? ⟨w.heap.size, 1, none⟩ = some c1 ∧ w1.cell? ⟨w.heap.size, 2, none⟩ = some c2 ∧ w1.frozen? ⟨w.heap.size, 0, none⟩ = false ∧ w1.frozen? ⟨w.heap.size, 1, none⟩ = false ∧ w1.frozen? ⟨w.heap.size, 2, none⟩ = false ∧ Below w.heap.size w w1 ∧ w.heap.size < w1.heap.size := by
  have hs : w.heap.size < (w.alloc (.cells #[c0, c1, c2] t)).heap.size := by simp
  refine ⟨?_, ?_, ?_, ?_, ?_, ?_, ((Below.refl _ _).alloc (Nat.le_refl _) _).trans (h.mono (by omega)), Nat.lt_of_lt_of_le hs h.size⟩
  · rw [h.cell (p := ⟨w.heap.size, 0, none⟩) hs]; simp
  · rw [h.cell (p := ⟨w.heap.size, 1, none⟩) hs]; simp
  · rw [h.cell (p := ⟨w.heap.size, 2, none⟩) hs]; simp
  · rw [h.frozen (p := ⟨w.heap.size, 0, none⟩) hs]; simp
  · rw [h.frozen (p := ⟨w.heap.size, 1, none⟩) hs]; simp
  · rw [h.frozen (p := ⟨w.heap.size, 2, none⟩) hs]; simp

/-- The struct that is handed back, once its three cells are written. -/
theorem of_end {w w1 : World} {c0 c1 c2 : Value} {t : TypeId} (h : Below (w.alloc (.cells #[c0, c1, c2] t)).heap.size (w.alloc (.cells #[c0, c1, c2] t)) w1) {v : Value} {m : Nat} (am : IsAmt w1 v m) (fr : ∀ g, v.ownBlock = some g → (w.alloc (.cells #[c0, c1, c2] t)).heap.size ≤ g) (b p : Value) :
    (((w1.setCell ⟨w.heap.size, 0, none⟩ b).setCell ⟨w.heap.size, 1, none⟩ v).setCell ⟨w.heap.size, 2, none⟩ p).heap[w.heap.size]? = some (.cells #[b, v, p] t (0, 0)) ∧
    IsAmt (((w1.setCell ⟨w.heap.size, 0, none⟩ b).setCell ⟨w.heap.size, 1, none⟩ v).setCell ⟨w.heap.size, 2, none⟩ p) v m ∧
    Below w.heap.size w (((w1.setCell ⟨w.heap.size, 0, none⟩ b).setCell ⟨w.heap.size, 1, none⟩ v).setCell ⟨w.heap.size, 2, none⟩ p) := by
  have hs : w.heap.size < (w.alloc (.cells #[c0, c1, c2] t)).heap.size := by simp
  have hq : ∀ g, v.ownBlock = some g → g ≠ w.heap.size := fun g hg => by have := fr g hg; omega
  have h0 : w1.heap[w.heap.size]? = some (.cells #[c0, c1, c2] t (0, 0)) := by rw [h.block _ hs, heap_alloc_new]
  have h1 := heap_setCell_same w1 w.heap.size 0 _ t b h0
  have h2 := heap_setCell_same _ w.heap.size 1 _ t v h1
  have h3 := heap_setCell_same _ w.heap.size 2 _ t p h2
  refine ⟨h3.trans (by simp), ((am.setCell hq).setCell hq).setCell hq, ?_⟩
  have b0 : Below w.heap.size w w1 := ((Below.refl _ _).alloc (Nat.le_refl _) _).trans (h.mono (by omega))
  exact ((b0.setCell (Nat.le_refl _) _).setCell (Nat.le_refl _) _).setCell (Nat.le_refl _) _

/-- A finite real's number: m times 2^(k - 1074). -/
theorem of_read (u : Nat) (hu : u < 18446744073709551616) (hf : rung u < 9218868437227405312) (w : World) : Calls Tryz.prog 46 #[.int .u64 (u : Int)] w fun e w' => ∃ ao l c m k, e = .returned (.agg #[.bool (sgnB u), .slice ao l c, .int .i64 ((k : Nat) - 1074 : Int)]) ∧ IsAmt w' (.slice ao l c) m ∧ m * 2 ^ k = amt (rung u) ∧ m < 9007199254740992 ∧ k ≤ 2045 ∧ (k = 0 ∨ 4503599627370496 ≤ m) ∧ Below w.heap.size w w' := by
  have f1 : u / 4503599627370496 % 2048 = rung u / 4503599627370496 := by unfold rung; omega
  have f2 : u % 4503599627370496 = rung u % 4503599627370496 := by unfold rung; omega
  have b1 : bits .and .u64 ((u : Int) / 4503599627370496) 2047 = ((rung u / 4503599627370496 : Nat) : Int) := by
    have := mask11' (u / 4503599627370496) (by omega)
    rw [f1] at this
    rw [← this]
    rfl
  have b2 : bits .and .u64 (u : Int) 4503599627370495 = ((rung u % 4503599627370496 : Nat) : Int) := by rw [mask52' u hu, f2]
  have b3 := u64_and_sign u hu
  have hamt := hide (rfl : amt (rung u) = amt (rung u))
  obtain ⟨ρ, eρ⟩ : ∃ ρ, rung u = ρ := ⟨_, rfl⟩
  rw [eρ] at b1 b2 hf ⊢
  clear f1 f2 eρ hamt
  rcases Nat.lt_or_ge ρ 4503599627370496 with hs | hb
  · have d0 : ρ / 4503599627370496 = 0 := by omega
    have d1 : ρ % 4503599627370496 = ρ := by omega
    rw [d0] at b1
    rw [d1] at b2
    have SM := small_any ρ (by omega)
    have HA : Hid (ρ * 2 ^ 0 = amt ρ) := hide (by rw [amt_small hs, Nat.pow_zero, Nat.mul_one])
    clear d0 d1
    cases sg : sgnB u
    · rw [sg, if_neg (by simp)] at b3
      go_enter Tryz.func46, Tryz.ntmps46
      go_wp2_with (go_at_call 24; refine (SM _).mono ?_; rintro e w1 ⟨v, rfl, h1, b4, fr⟩; obtain ⟨ao, l1, c1, rfl⟩ := amt_form h1; obtain ⟨q0, q1, q2, r0, r1, r2, BW, z1⟩ := cell_kept b4; have XE := hide (of_end b4 h1 fr); clear b4 fr)
      obtain ⟨y1, y2, y3⟩ := XE.out (.bool false) (.int .i64 (-1074))
      refine bodyPost_ret (results_cell_row rfl _ _ w.heap.size _ _ _ _ rfl y1 Tryz.underlying72 rfl (by kernel_rfl)) rfl ?_
      exact ⟨ao, l1, c1, ρ, 0, rfl, y2, HA.out, by omega, by omega, Or.inl rfl, y3⟩
    · rw [sg, if_pos rfl] at b3
      go_enter Tryz.func46, Tryz.ntmps46
      go_wp2_with (go_at_call 24; refine (SM _).mono ?_; rintro e w1 ⟨v, rfl, h1, b4, fr⟩; obtain ⟨ao, l1, c1, rfl⟩ := amt_form h1; obtain ⟨q0, q1, q2, r0, r1, r2, BW, z1⟩ := cell_kept b4; have XE := hide (of_end b4 h1 fr); clear b4 fr)
      obtain ⟨y1, y2, y3⟩ := XE.out (.bool true) (.int .i64 (-1074))
      refine bodyPost_ret (results_cell_row rfl _ _ w.heap.size _ _ _ _ rfl y1 Tryz.underlying72 rfl (by kernel_rfl)) rfl ?_
      exact ⟨ao, l1, c1, ρ, 0, rfl, y2, HA.out, by omega, by omega, Or.inl rfl, y3⟩
  · have HA : Hid ((ρ % 4503599627370496 + 4503599627370496) * 2 ^ (ρ / 4503599627370496 - 1) = amt ρ) := by
      have e : ρ = (ρ / 4503599627370496 - 1) * 4503599627370496 + (ρ % 4503599627370496 + 4503599627370496) := by omega
      exact ((congrArg amt e).trans (amt_of _ _ (by omega) (by omega))).symm
    have b5 := or52' (ρ % 4503599627370496) (by omega)
    have hM : ρ % 4503599627370496 + 4503599627370496 < 9007199254740992 := by omega
    have hk1 : ρ / 4503599627370496 < 2047 := by omega
    have hk0 : 1 ≤ ρ / 4503599627370496 := by omega
    obtain ⟨e, ee⟩ : ∃ e, ρ / 4503599627370496 = e := ⟨_, rfl⟩
    obtain ⟨d, ed⟩ : ∃ d, ρ % 4503599627370496 = d := ⟨_, rfl⟩
    rw [ee] at b1 HA hk1 hk0
    rw [ed] at b2 b5 HA hM
    obtain ⟨m, em⟩ : ∃ m, d + 4503599627370496 = m := ⟨_, rfl⟩
    rw [em] at b5 HA hM
    have SM := small_any m (by omega)
    have e0 : ((e : Int) == 0) = false := by simp; omega
    have we : IntKind.i64.wrap (e : Int) = (e : Int) := by rw [IntKind.wrap_i64]; omega
    have we2 : IntKind.i64.wrap ((e : Int) - 1075) = (e : Int) - 1075 := by rw [IntKind.wrap_i64]; omega
    have HE : Hid ((e : Int) - 1075 = ((e - 1 : Nat) : Int) - 1074) := hide (by omega)
    have HK : Hid (e - 1 ≤ 2045) := hide (by omega)
    have HP : Hid (4503599627370496 ≤ m) := hide (by omega)
    clear ee ed em hf hb hk0
    cases sg : sgnB u
    · rw [sg, if_neg (by simp)] at b3
      go_enter Tryz.func46, Tryz.ntmps46
      go_wp2_with (go_at_call 24; refine (SM _).mono ?_; rintro e w1 ⟨v, rfl, h1, b4, fr⟩; obtain ⟨ao, l1, c1, rfl⟩ := amt_form h1; obtain ⟨q0, q1, q2, r0, r1, r2, BW, z1⟩ := cell_kept b4; have XE := hide (of_end b4 h1 fr); clear b4 fr)
      obtain ⟨y1, y2, y3⟩ := XE.out (.bool false) (.int .i64 ((e : Int) - 1075))
      refine bodyPost_ret (results_cell_row rfl _ _ w.heap.size _ _ _ _ rfl y1 Tryz.underlying72 rfl (by kernel_rfl)) rfl ?_
      exact ⟨ao, l1, c1, m, e - 1, by rw [← HE.out], y2, HA.out, hM, HK.out, Or.inr HP.out, y3⟩
    · rw [sg, if_pos rfl] at b3
      go_enter Tryz.func46, Tryz.ntmps46
      go_wp2_with (go_at_call 24; refine (SM _).mono ?_; rintro e w1 ⟨v, rfl, h1, b4, fr⟩; obtain ⟨ao, l1, c1, rfl⟩ := amt_form h1; obtain ⟨q0, q1, q2, r0, r1, r2, BW, z1⟩ := cell_kept b4; have XE := hide (of_end b4 h1 fr); clear b4 fr)
      obtain ⟨y1, y2, y3⟩ := XE.out (.bool true) (.int .i64 ((e : Int) - 1075))
      refine bodyPost_ret (results_cell_row rfl _ _ w.heap.size _ _ _ _ rfl y1 Tryz.underlying72 rfl (by kernel_rfl)) rfl ?_
      exact ⟨ao, l1, c1, m, e - 1, by rw [← HE.out], y2, HA.out, hM, HK.out, Or.inr HP.out, y3⟩
end Go.Proofs.YtbengmceiaejeaaGreatDoor
