/- Amounts: mulD. -/
import Derived.Test.YtiglacchpmooeaaGreatDoorBigK
import Derived.Test.YtiglacchpmooeaaGreatDoorBigA
namespace Go.Proofs.YtiglacchpmooeaaGreatDoor
open Go.ChangeShapes Go.WideShapes Go.ChangeAt Go.RowKit

theorem valD_set (qs : List Nat) (j d : Nat) (h : j < qs.length) : valD (qs.set j d) + 65536 ^ j * qs.getD j 0 = valD qs + 65536 ^ j * d := by
  induction qs generalizing j with
  | nil => simp at h
  | cons x qs ih =>
    cases j with
    | zero => simp [valD, List.getD]; omega
    | succ j =>
      have := ih j (by simpa using h)
      simp only [List.set_cons_succ, valD, List.getD_cons_succ, Nat.pow_succ]
      rw [Nat.mul_comm (65536 ^ j) 65536, Nat.mul_assoc, Nat.mul_assoc]
      omega

theorem digs_set {qs : List Nat} (h : DigsOk qs) (j d : Nat) (hd : d < 65536) : DigsOk (qs.set j d) := by
  intro x hx
  rcases List.mem_or_eq_of_mem_set hx with h1 | h1
  · exact h x h1
  · omega

theorem getD_set_ne (qs : List Nat) (j k d : Nat) (h : j ≠ k) : (qs.set j d).getD k 0 = qs.getD k 0 := by
  rw [List.getD_eq_getElem?_getD, List.getElem?_set_ne h, ← List.getD_eq_getElem?_getD]

/-- One digit of a product, in the books: p = 65536^i, q = 65536^k, T = 65536^(i + k). -/
theorem mul_step {V V' P p q T x Y y o c c' d : Nat} (hT : T = p * q) (h : V + T * c = P + p * x * Y) (hs : V' + T * o = V + T * d) (hd : d + 65536 * c' = c + o + x * y) : V' + T * 65536 * c' = P + p * x * (Y + q * y) := by
  have h1 : T * (d + 65536 * c') = T * (c + o + x * y) := by rw [hd]
  rw [Nat.mul_add, Nat.mul_add, Nat.mul_add, ← Nat.mul_assoc T 65536] at h1
  have h2 : p * x * (Y + q * y) = p * x * Y + T * (x * y) := by
    rw [Nat.mul_add, hT]
    congr 1
    rw [Nat.mul_assoc, Nat.mul_assoc, Nat.mul_left_comm x q y]
  omega

theorem digit_bound {c o x y : Nat} (hc : c ≤ 65535) (ho : o < 65536) (hx : x < 65536) (hy : y < 65536) : c + o + x * y ≤ 4294967295 := by
  have : x * y ≤ 65535 * 65535 := Nat.mul_le_mul (by omega) (by omega)
  omega

set_option maxHeartbeats 8000000 in
theorem mulD_any (a b : Value) (m n : Nat) (w : World) (ha : IsAmt w a m) (hb : IsAmt w b n) (hm : m < BIG) (hn : n < BIG) : Calls Tryz.prog 34 #[a, b] w fun e w' => ∃ v, e = .returned v ∧ IsAmt w' v (m * n) ∧ (∀ g, v.ownBlock = some g → w.heap.size ≤ g) ∧ Below w.heap.size w w' := by
  obtain ⟨xs, ra, da, na, rfl⟩ := ha
  obtain ⟨ys, rb, db, nb, rfl⟩ := hb
  have hl1 := len_big na hm
  have hl2 := len_big nb hn
  obtain ⟨i, hi, hz0, hz1, hz2⟩ := info_parts info16
  have RA := hide ra
  have RB := hide rb
  obtain ⟨ao, cap, rfl⟩ := ra.form
  obtain ⟨bo, cap2, rfl⟩ := rb.form
  clear hm hn na ra rb nb
  obtain ⟨L, eL⟩ : ∃ L, xs.length = L := ⟨_, rfl⟩
  obtain ⟨M, eM⟩ : ∃ M, ys.length = M := ⟨_, rfl⟩
  have HL := hide eL
  have HM := hide eM
  rw [eL] at RA hl1
  rw [eM] at RB hl2
  rw [eL, eM]
  clear eL eM
  obtain ⟨N, eN⟩ : ∃ N, L + M = N := ⟨_, rfl⟩
  have hN : (L : Int) + (M : Int) = (N : Int) := by omega
  have hN2 : N ≤ 8000 := by omega
  go_enter Tryz.func34, Tryz.ntmps34
  go_wp2_with (at_make; refine wpList_make_full _ rfl _ _ 39 rfl w.heap.size 54 i _ 1 Tryz.underlying39 hi hz0 hz1 _ _ _ _ N rfl rfl (by first | rfl | omega) (by first | rfl | omega) (by rw [hz2]; omega) (by unfold maxLen; omega) (Nat.le_refl _) ?_; intro w1 o1 g1)
  have HO1 := hide (made_zero o1)
  have b1 : Below w.heap.size w w1 := (Below.refl _ _).grown g1 (Nat.le_refl _) (fun k e => by cases e)
  clear o1 g1
  go_loopw [6] (fun ix wr => ∃ (j : Nat) (qs : List Nat), j ≤ L ∧ ix = .int .i64 (j : Int) ∧ wr.ownsRow w.heap.size 54 1 (.slice (some ⟨w.heap.size, 0, none⟩) N N) N (dv qs) ∧ qs.length = N ∧ DigsOk qs ∧ valD qs = valD (xs.take j) * valD ys ∧ (∀ t, j + M ≤ t → qs.getD t 0 = 0) ∧ Below w.heap.size w wr) (fun ix _ => L - (intOf ix).toNat)
  case atStart =>
    refine ⟨0, List.replicate N 0, Nat.zero_le _, rfl, HO1.out, by simp, ?_, ?_, ?_, b1⟩
    · intro d hd
      rw [List.mem_replicate] at hd
      omega
    · have := valD_zeros N []
      rw [List.append_nil] at this
      rw [this]
      simp [valD]
    · intro t _
      by_cases ht : t < N
      · simp [List.getD, ht]
      · rw [List.getD_eq_getElem?_getD, List.getElem?_eq_none (by simp; omega)]
        rfl
  case round =>
    obtain ⟨j, qs, hj, rfl, hown, hql, hqd, hqv, hqz, bw⟩ := hrel
    have HW := hide hown
    have HQL := hide hql
    have HQD := hide hqd
    have HQV := hide hqv
    have HQZ := hide hqz
    clear hown hql hqd hqv hqz
    by_cases hlt : j < L
    · obtain ⟨b1', off1, hbs1, rfl, hcell1⟩ := RA.out.at HL.out (by omega)
      have hc1 := hcell1 j (by have := HL.out; omega)
      have hx := da.getD j
      have tx := valD_take_snoc xs j (by have := HL.out; omega)
      obtain ⟨x, ex⟩ : ∃ x, xs.getD j 0 = x := ⟨_, rfl⟩
      rw [ex] at hc1 hx tx
      have HX := hide tx
      have CA : Hid (∀ wr, Below w.heap.size w wr → wr.cell? ⟨b1', off1 + j, none⟩ = some (.int .u16 (x : Int))) := hide fun wr hb => (hb.cell (p := ⟨b1', off1 + j, none⟩) hbs1).trans hc1
      clear tx ex hcell1 hc1
      go_wp2
      go_loopw [7, 8] (fun c kx wr2 => ∃ (k cy : Nat) (rs : List Nat), k ≤ M ∧ kx = .int .i64 (k : Int) ∧ c = .int .u32 (cy : Int) ∧ cy ≤ 65535 ∧ wr2.ownsRow w.heap.size 54 1 (.slice (some ⟨w.heap.size, 0, none⟩) N N) N (dv rs) ∧ rs.length = N ∧ DigsOk rs ∧ valD rs + 65536 ^ (j + k) * cy = valD qs + 65536 ^ j * x * valD (ys.take k) ∧ (∀ t, j + M ≤ t → rs.getD t 0 = 0) ∧ Below w.heap.size w wr2) (fun _ kx _ => M - (intOf kx).toNat)
      case atStart => exact ⟨0, 0, qs, Nat.zero_le _, rfl, rfl, by omega, HW.out, HQL.out, HQD.out, by simp [valD], HQZ.out, bw⟩
      case round =>
        obtain ⟨k, cy, rs, hk, rfl, rfl, hcy, hown, hrl, hrd, hrv, hrz, bw2⟩ := hrel
        have HW2 := hide hown
        have HRL := hide hrl
        have HRD := hide hrd
        have HRV := hide hrv
        have HRZ := hide hrz
        clear hown hrl hrd hrv hrz
        by_cases hkM : k < M
        · obtain ⟨b2', off2, hbs2, rfl, hcell2⟩ := RB.out.at HM.out (by omega)
          have hc2 := hcell2 k (by have := HM.out; omega)
          rw [← bw2.cell (p := ⟨b2', off2 + k, none⟩) hbs2] at hc2
          have hc1 := CA.out _ bw2
          have hy := db.getD k
          have ty := valD_take_snoc ys k (by have := HM.out; omega)
          obtain ⟨y, ey⟩ : ∃ y, ys.getD k 0 = y := ⟨_, rfl⟩
          rw [ey] at hc2 hy ty
          obtain ⟨t, et⟩ : ∃ t, j + k = t := ⟨_, rfl⟩
          have hik : (j : Int) + (k : Int) = (t : Int) := by omega
          have htN : t < N := by omega
          have htN2 : (t : Int) < (N : Int) := by omega
          have hc3 := (HW2.out.cellAt t (by omega)).trans (dv_at rs t (by have := HRL.out; omega))
          have ho := HRD.out.getD t
          have HS := hide (fun d => valD_set rs t d (by have := HRL.out; omega))
          have hbd := digit_bound hcy ho hx hy
          obtain ⟨o, eo⟩ : ∃ o, rs.getD t 0 = o := ⟨_, rfl⟩
          rw [eo] at hc3 ho HS hbd
          obtain ⟨P, eP⟩ : ∃ P, x * y = P := ⟨_, rfl⟩
          have hmul : (x : Int) * (y : Int) = (P : Int) := by rw [← eP]; simp
          have HP := hide eP
          rw [eP] at hbd
          have hw32 : IntKind.u32.wrap ((cy : Int) + (o : Int) + (P : Int)) = (cy : Int) + (o : Int) + (P : Int) := by rw [IntKind.wrap_u32]; omega
          have HY := hide ty
          have SF := HW2.out.frozenAt t
          have HRV2 := HRV.out
          rw [et] at HRV2
          have HRV3 := hide HRV2
          have ET := hide et
          clear ey eo eP ty hcell2 et HRV HRV2
          obtain ⟨D, eD⟩ : ∃ D, (cy + o + P) % 65536 = D := ⟨_, rfl⟩
          obtain ⟨C, eC⟩ : ∃ C, (cy + o + P) / 65536 = C := ⟨_, rfl⟩
          have hw16 : IntKind.u16.wrap ((cy : Int) + (o : Int) + (P : Int)) = (D : Int) := by rw [IntKind.wrap_u16]; omega
          have hsh : ((cy : Int) + (o : Int) + (P : Int)) / 65536 = (C : Int) := by omega
          have hD : D < 65536 := by omega
          have hC : C ≤ 65535 := by omega
          have hDC : Hid (D + 65536 * C = cy + o + P) := hide (by omega)
          have ST := hide (fun nq => own_kept2 HW2.out (below_drew wr.heap.size wr nq))
          clear eD eC
          go_wp2
          go_quiet (fail)
          go_wp2
          go_roundw
          case rel =>
            refine ⟨k + 1, C, rs.set t D, by omega, by go_num, rfl, hC, (by rw [← dv_set]; exact ((ST.out _).stored t (.int .u16 (D : Int))).1), by simp [HRL.out], digs_set HRD.out t D hD, ?_, ?_, (bw2.trans (below_drew _ _ _)).setCell (Nat.le_refl _) _⟩
            · rw [HY.out, show j + (k + 1) = t + 1 by have := ET.out; omega, Nat.pow_succ]
              exact mul_step (by rw [← ET.out, Nat.pow_add]) HRV3.out (HS.out D) (by rw [HP.out]; exact hDC.out)
            · intro t' ht'
              rw [getD_set_ne _ _ _ _ (by have := ET.out; omega)]
              exact HRZ.out t' ht'
          case measure => simp [intOf]; omega
        · have hkM' : k = M := by omega
          subst hkM'
          obtain ⟨t, et⟩ : ∃ t, j + k = t := ⟨_, rfl⟩
          have hik : (j : Int) + (k : Int) = (t : Int) := by omega
          have htN : t < N := by omega
          have htN2 : (t : Int) < (N : Int) := by omega
          have hc3 := (HW2.out.cellAt t (by omega)).trans (dv_at rs t (by have := HRL.out; omega))
          have SF := HW2.out.frozenAt t
          have hw16 : IntKind.u16.wrap (cy : Int) = (cy : Int) := by rw [IntKind.wrap_u16]; omega
          have HS := hide (valD_set rs t cy (by have := HRL.out; omega))
          have ET := hide et
          clear et
          go_wp2
          go_roundw
          case rel =>
            refine ⟨j + 1, rs.set t cy, by omega, by go_num, (by rw [← dv_set]; exact (HW2.out.stored t (.int .u16 (cy : Int))).1), by simp [HRL.out], digs_set HRD.out t cy (by omega), ?_, ?_, bw2.setCell (Nat.le_refl _) _⟩
            · have h1 := HS.out
              have h2 := HRV.out
              have h3 := HQV.out
              have h4 := HRZ.out t (by have := ET.out; omega)
              rw [h4, Nat.mul_zero, Nat.add_zero] at h1
              rw [ET.out, List.take_of_length_le (by have := HM.out; omega), h3] at h2
              rw [h1, h2, HX.out, Nat.add_mul]
            · intro t' ht'
              rw [getD_set_ne _ _ _ _ (by have := ET.out; omega)]
              exact HRZ.out t' (by omega)
          case measure => simp [intOf]; omega
    · have hjL : j = L := by omega
      subst hjL
      have TR := trim_any _ qs wr (row_of_owns (ds := qs) (by rw [HQL.out]; exact HW.out)) HQD.out
      have hown := hide (fun g hg => (HW.out.lt g hg).1)
      go_wp2_with (go_at_call 60; refine TR.mono ?_; rintro e w' ⟨v3, rfl, h3, f3, rfl⟩)
      go_ret
      have hv := HQV.out
      rw [List.take_of_length_le (by have := HL.out; omega)] at hv
      rw [hv] at h3
      exact ⟨_, rfl, h3, fun g hg => hown.out g (f3 g hg), bw⟩
end Go.Proofs.YtiglacchpmooeaaGreatDoor
