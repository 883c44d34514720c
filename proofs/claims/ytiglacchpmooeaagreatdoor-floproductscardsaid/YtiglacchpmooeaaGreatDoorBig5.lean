/- Amounts: shl, value, lenB, small. -/
import Derived.Test.YtiglacchpmooeaaGreatDoorBig4
namespace Go.Proofs.YtiglacchpmooeaaGreatDoor
open Go.ChangeShapes Go.WideShapes Go.ChangeAt Go.RowKit

/-- Below the bound, said so that no tool reckons it. -/
structure Kept (m : Nat) : Prop where
  out : m < BIG

theorem row_len {w : World} {ao : Option Addr} {l c : Nat} {ds : List Nat} (h : Row w (.slice ao l c) ds) : ds.length = l := by
  obtain ⟨_, _, e⟩ := h.form
  injection e with _ e2 _
  exact e2.symm

theorem valD_zeros (k : Nat) (rs : List Nat) : valD (List.replicate k 0 ++ rs) = 65536 ^ k * valD rs := by
  have hz : valD (List.replicate k 0) = 0 := by
    induction k with
    | zero => rfl
    | succ k ih => rw [List.replicate_succ]; simp [valD, ih]
  rw [valD_append, hz, List.length_replicate, Nat.zero_add]

theorem shl_pow (m n : Nat) : 65536 ^ (n / 16) * (m * 2 ^ (n % 16)) = m * 2 ^ n := by
  have e : (65536 : Nat) = 2 ^ 16 := by decide
  rw [e, ← Nat.pow_mul, Nat.mul_comm, Nat.mul_assoc, ← Nat.pow_add]
  congr 2
  omega

theorem amt_pos {w : World} {v : Value} {n : Nat} (h : IsAmt w v n) (hn : 0 < n) : ∃ b off cap rs, v = .slice (some ⟨b, off, none⟩) rs.length cap ∧ Row w (.slice (some ⟨b, off, none⟩) rs.length cap) rs ∧ DigsOk rs ∧ Norm rs ∧ valD rs = n := by
  obtain ⟨ds, rr, rd, rn, rv⟩ := h
  rcases rr with ⟨_, rfl⟩ | ⟨b, off, cap, e, h1⟩
  · rw [← rv] at hn; simp [valD] at hn
  · exact ⟨b, off, cap, ds, e, Or.inr ⟨b, off, cap, rfl, h1⟩, rd, rn, rv⟩

theorem made_zero {w : World} {B e q : Nat} {v : Value} (o : w.ownsRow B e 1 v q (madeCells (Value.int IntKind.u16 0).cells (q * 1)).toList) : w.ownsRow B e 1 v q (dv (List.replicate q 0)) := by
  have h : (madeCells (Value.int IntKind.u16 0).cells (q * 1)).toList = dv (List.replicate q 0) := by
    rw [Nat.mul_one]
    exact (toList_madeCells_one (.int .u16 0) q).trans (by simp [dv])
  rw [h] at o
  exact o

theorem shl_row {w : World} {B e q : Nat} {v : Value} {rs : List Nat} (o : w.ownsRow B e 1 v (q + rs.length) (dv (List.replicate q 0) ++ dv rs)) : w.ownsRow B e 1 v (List.replicate q 0 ++ rs).length (dv (List.replicate q 0 ++ rs)) := by
  rw [dv_append, List.length_append, List.length_replicate]
  exact o

theorem digs_zeros {q : Nat} {rs : List Nat} (h : DigsOk rs) : DigsOk (List.replicate q 0 ++ rs) := by
  intro d hd
  rw [List.mem_append, List.mem_replicate] at hd
  rcases hd with hd | hd
  · omega
  · exact h d hd

set_option maxHeartbeats 4000000 in
theorem shl_any (a : Value) (m n : Nat) (w : World) (ha : IsAmt w a m) (hm : m < BIG) (hb : m * 65536 < BIG) (hn : n ≤ 60000) : Calls Tryz.prog 36 #[a, .int .i64 (n : Int)] w fun e w' => ∃ v, e = .returned v ∧ IsAmt w' v (m * 2 ^ n) ∧ Below w.heap.size w w' := by
  have HA := hide ha
  have HM : Kept m := ⟨hm⟩
  have HBB : Kept (m * 65536) := ⟨hb⟩
  obtain ⟨xs, ra, da, na, hv⟩ := ha
  clear hm hb
  obtain ⟨i, hi, hz0, hz1, hz2⟩ := info_parts info16
  obtain ⟨ao, cap, rfl⟩ := ra.form
  cases hx : xs.length with
  | zero =>
    have : xs = [] := List.eq_nil_of_length_eq_zero hx
    subst this
    have hm0 : m = 0 := by rw [← hv]; rfl
    subst hm0
    clear HA ra hv
    go_enter Tryz.func36, Tryz.ntmps36
    go_wp2
    go_ret
    exact ⟨_, rfl, ⟨[], Or.inl ⟨rfl, rfl⟩, digs_nil, norm_nil, by simp [valD]⟩, Below.refl _ _⟩
  | succ l =>
    have hm1 : 0 < m := by
      have := norm_low na hx
      have h2 : 0 < 65536 ^ l := Nat.pow_pos (by decide)
      omega
    obtain ⟨M, eM⟩ : ∃ M, l + 1 = M := ⟨_, rfl⟩
    rw [hx, eM] at HA
    rw [eM]
    have hM0 : ((M : Int) == 0) = false := by simp; omega
    clear ra da na hv hx eM
    have hq : (n : Int).tdiv 16 = ((n / 16 : Nat) : Int) := by rw [Int.tdiv_eq_ediv_of_nonneg (by omega)]; omega
    have hr : (n : Int).tmod 16 = ((n % 16 : Nat) : Int) := by rw [Int.tmod_eq_emod_of_nonneg (by omega)]; omega
    obtain ⟨q, eq⟩ : ∃ q, n / 16 = q := ⟨_, rfl⟩
    obtain ⟨k, ek⟩ : ∃ k, n % 16 = k := ⟨_, rfl⟩
    have hk : k < 16 := by omega
    have hq2 : q ≤ 3750 := by omega
    rw [eq] at hq
    rw [ek] at hr
    have EQ := hide eq
    have EK := hide ek
    have hqe : (n : Int) / 16 = (q : Int) := by omega
    have hre : (n : Int) % 16 = (k : Int) := by omega
    clear eq ek
    obtain ⟨pk, epk⟩ : ∃ p, 2 ^ k = p := ⟨_, rfl⟩
    have hpk : pk ≤ 32768 := by
      rw [← epk]
      exact Nat.le_trans (Nat.pow_le_pow_right (by decide) (show k ≤ 15 by omega)) (by decide)
    have hpk0 : 0 < pk := by rw [← epk]; exact Nat.two_pow_pos k
    have hp : (2 : Int) ^ k % 4294967296 = (pk : Int) := by
      have : (2 : Int) ^ k = (pk : Int) := by rw [← epk]; simp
      rw [this]
      omega
    have HPK := hide epk
    have hmp : 0 < m * pk := Nat.mul_pos hm1 hpk0
    have HKP : Kept (m * pk) := ⟨Nat.lt_of_le_of_lt (Nat.mul_le_mul_left m (by omega : pk ≤ 65536)) HBB.out⟩
    have T := fun wt (hb : Below w.heap.size w wt) => timesD_any _ m pk wt (HA.out.below hb) HM.out (by omega)
    clear epk hpk0 hm1
    go_enter Tryz.func36, Tryz.ntmps36
    go_wp2_with (first
      | (at_make; refine wpList_make_full _ rfl _ _ 39 rfl w.heap.size 54 i _ 1 Tryz.underlying39 hi hz0 hz1 _ _ _ _ q rfl rfl (by first | rfl | omega) (by first | rfl | omega) (by rw [hz2]; omega) (by unfold maxLen; omega) (Nat.le_refl _) ?_; intro w1 o1 g1; have b1 : Below w.heap.size w w1 := (Below.refl _ _).grown g1 (Nat.le_refl _) (fun k e => by cases e))
      | (go_at_call 62; refine (T _ b1).mono ?_; rintro e w2 ⟨v, rfl, hv, fv, b2⟩
         obtain ⟨rb, ro, rc, rs, rfl, rr, rd, rn, rv⟩ := amt_pos hv hmp
         have hrl := len_big rn (by rw [rv]; exact HKP.out)
         have OW := own_kept2 (made_zero o1) b2
         have NW := rr.news
         have bs2 := b2.size
         have bs1 := b1.size)
      | (at_builtin; refine wpList_append_own _ rfl _ _ 39 rfl w.heap.size 54 i (.int .u16 0) 1 2 Tryz.underlying39 hi hz0 hz1 hz2 rfl (by decide) _ _ _ rfl OW ⟨rb, ro, none⟩ rs.length rc (dv rs) rfl (by rw [dv_length, Nat.mul_one]) NW (dv_ones rs) (by unfold maxLen; omega) (by omega) (by omega) ?_; intro v' w3 o3 g3 _
         have TR := trim_any v' (List.replicate q 0 ++ rs) w3 (row_of_owns (shl_row o3)) (digs_zeros rd)
         have b3 : Below w.heap.size w w3 := (b1.trans (b2.mono b1.size)).grown g3 (by omega) (fun k hk => by have h7 : some w.heap.size = some k := hk; have := Option.some.inj h7; omega))
      | (go_at_call 60; refine TR.mono ?_; rintro e w' ⟨v4, rfl, h4, f4, rfl⟩))
    go_ret
    refine ⟨_, rfl, ?_, b3⟩
    rw [valD_zeros, rv] at h4
    have e := shl_pow m n
    rw [EQ.out, EK.out, HPK.out] at e
    rw [← e]
    exact h4
end Go.Proofs.YtiglacchpmooeaaGreatDoor
