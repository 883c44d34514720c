/- Amounts: mulD. -/
import Derived.Test.YtbengmceiaejeaaGreatDoorOf
import Derived.Test.YtbengmceiaejeaaGreatDoorBigA
import GoSem.PinnedTables
namespace Go.Proofs.YtbengmceiaejeaaGreatDoor
open Go.ChangeShapes Go.WideShapes Go.ChangeAt Go.RowKit

theorem valD_set (qs : List Nat) (j d : Nat) (h : j < qs.length) : valD (qs.set j d) + 65536 ^ j * qs.getD j 0 = valD qs + 65536 ^ j * d := by
  induction qs generalizing j with
  | nil => simp at h
  | cons x qs ih =>
    cases j with
    | zero => simp [valD, List.getD]; omega
    | succ j =>
      have := ih j (by simpa using h)
      simp only [List.set_cons_succ, valD, List.getD_cons_succ, Nat.pow_succ]
      rw [Nat.mul_comm (65536 ^ j) 65536, Nat.mul_assoc, Nat.mul_assoc]
      omega

theorem digs_set {qs : List Nat} (h : DigsOk qs) (j d : Nat) (hd : d < 65536) : DigsOk (qs.set j d) := by
  intro x hx
  rcases List.mem_or_eq_of_mem_set hx with h1 | h1
  · exact h x h1
  · omega

theorem getD_set_ne (qs : List Nat) (j k d : Nat) (h : j ≠ k) : (qs.set j d).getD k 0 = qs.getD k 0 := by
  rw [List.getD_eq_getElem?_getD, List.getElem?_set_ne h, ← List.getD_eq_getElem?_getD]

/-- One digit of a product, in the books: p = 65536^i, q = 65536^k, T = 65536^(i + k). -/
theorem mul_step {V V' P p q T x Y y o c c' d : Nat} (hT : T = p * q) (h : V + T * c = P + p * x * Y) (hs : V' + T * o = V + T * d) (hd : d + 65536 * c' = c + o + x * y) : V' + T * 65536 * c' = P + p * x * (Y + q * y) := by
  have h1 : T * (d + 65536 * c') = T * (c + o + x * y) := by rw [hd]
  rw [Nat.mul_add, Nat.mul_add, Nat.mul_add, ← Nat.mul_assoc T 65536] at h1
  have h2 : p * x * (Y + q * y) = p * x * Y + T * (x * y) := by
    rw [Nat.mul_add, hT]
    congr 1
    rw [Nat.mul_assoc, Nat.mul_assoc, Nat.mul_left_comm x q y]
  omega

theorem digit_bound {c o x y : Nat} (hc : c ≤ 65535) (ho : o < 65536) (hx : x < 65536) (hy : y < 65536) : c + o + x * y ≤ 4294967295 := by
  have : x * y ≤ 65535 * 65535 := Nat.mul_le_mul (by omega) (by omega)
  omega

set_option maxHeartbeats 8000000 in
theorem mulD_any (a b : Value) (m n : Nat) (w : World) (ha : IsAmt w a m) (hb : IsAmt w b n) (hm : m < BIG) (hn : n < BIG) : Calls Tryz.prog 75 #[a, b] w fun e w' => ∃ v, e = .returned v ∧ IsAmt w' v (m * n) ∧ (∀ g, v.ownBlock = some g → w.heap.size ≤ g) ∧ Below w.heap.size w w' := by
  obtain ⟨xs, ra, da, na, rfl⟩ := ha
  obtain ⟨ys, rb, db, nb, rfl⟩ := hb
  have hl1 := len_big na hm
  have hl2 := len_big nb hn
  obtain ⟨i, hi, hz0, hz1, hz2⟩ := info_parts info16
  have RA := hide ra
  have RB := hide rb
  obtain ⟨ao, cap, rfl⟩ := ra.form
  obtain ⟨bo, cap2, rfl⟩ := rb.form
  clear hm hn na ra rb nb
  obtain ⟨L, eL⟩ : ∃ L, xs.length = L := ⟨_, rfl⟩
  obtain ⟨M, eM⟩ : ∃ M, ys.length = M := ⟨_, rfl⟩
  have HL := hide eL
  have HM := hide eM
  rw [eL] at RA hl1
  rw [eM] at RB hl2
  rw [eL, eM]
  clear eL eM
  obtain ⟨N, eN⟩ : ∃ N, L + M = N := ⟨_, rfl⟩
  have hN : (L : Int) + (M : Int) = (N : Int) := by omega
  have hN2 : N ≤ 8000 := by omega
  go_enter Tryz.func75, Tryz.ntmps75
  go_wp2_with (at_make; refine wpList_make_full _ rfl _ _ 42 rfl w.heap.size 77 i _ 1 Tryz.underlying42 hi hz0 hz1 _ _ _ _ N rfl rfl (by first | rfl | omega) (by first | rfl | omega) (by rw [hz2]; omega) (by unfold maxLen; omega) (Nat.le_refl _) ?_; intro w1 o1 g1)
  have HO1 := hide (made_zero o1)
  have b1 : Below w.heap.size w w1 := (Below.refl _ _).grown g1 (Nat.le_refl _) (fun k e => by cases e)
  clear o1 g1
  go_loopw [6] (fun ix wr => ∃ (j : Nat) (qs : List Nat), j ≤ L ∧ ix = .int .i64 (j : Int) ∧ wr.ownsRow w.heap.size 77 1 (.slice (some ⟨w.heap.size, 0, none⟩) N N) N (dv qs) ∧ qs.length = N ∧ DigsOk qs ∧ valD qs = valD (xs.take j) * valD ys ∧ (∀ t, j + M ≤ t → qs.getD t 0 = 0) ∧ Below w.heap.size w wr) (fun ix _ => L - (intOf ix).toNat)
  case atStart =>
    refine ⟨0, List.replicate N 0, Nat.zero_le _, rfl, HO1.out, by simp, ?_, ?_, ?_, b1⟩
    · intro d hd
      rw [List.mem_replicate] at hd
      omega
    · have := valD_zeros N []
      rw [List.append_nil] at this
      rw [this]
      simp [valD]
    · intro t _
      by_cases ht : t < N
      · simp [List.getD, ht]
      · rw [List.getD_eq_getElem?_getD, List.getElem?_eq_none (by simp; omega)]
        rfl
  case round =>
    obtain ⟨j, qs, hj, rfl, hown, hql, hqd, hqv, hqz, bw⟩ := hrel
    have HW := hide hown
    have HQL := hide hql
    have HQD := hide hqd
    have HQV := hide hqv
    have HQZ := hide hqz
    clear hown hql hqd hqv hqz
    by_cases hlt : j < L
    · obtain ⟨b1', off1, hbs1, rfl, hcell1⟩ := RA.out.at HL.out (by omega)
      have hc1 := hcell1 j (by have := HL.out; omega)
      have hx := da.getD j
      have tx := valD_take_snoc xs j (by have := HL.out; omega)
      obtain ⟨x, ex⟩ : ∃ x, xs.getD j 0 = x := ⟨_, rfl⟩
      rw [ex] at hc1 hx tx
      have HX := hide tx
      have CA : Hid (∀ wr, Below w.heap.size w wr → wr.cell? ⟨b1', off1 + j, none⟩ = some (.int .u16 (x : Int))) := hide fun wr hb => (hb.cell (p := ⟨b1', off1 + j, none⟩) hbs1).trans hc1
      clear tx ex hcell1 hc1
      go_wp2
      go_loopw [7, 8] (fun c kx wr2 => ∃ (k cy : Nat) (rs : List Nat), k ≤ M ∧ kx = .int .i64 (k : Int) ∧ c = .int .u32 (cy : Int) ∧ cy ≤ 65535 ∧ wr2.ownsRow w.heap.size 77 1 (.slice (some ⟨w.heap.size, 0, none⟩) N N) N (dv rs) ∧ rs.length = N ∧ DigsOk rs ∧ valD rs + 65536 ^ (j + k) * cy = valD qs + 65536 ^ j * x * valD (ys.take k) ∧ (∀ t, j + M ≤ t → rs.getD t 0 = 0) ∧ Below w.heap.size w wr2) (fun _ kx _ => M - (intOf kx).toNat)
      case atStart => exact ⟨0, 0, qs, Nat.zero_le _, rfl, rfl, by omega, HW.out, HQL.out, HQD.out, by simp [valD], HQZ.out, bw⟩
      case round =>
        obtain ⟨k, cy, rs, hk, rfl, rfl, hcy, hown, hrl, hrd, hrv, hrz, bw2⟩ := hrel
        have HW2 := hide hown
        have HRL := hide hrl
        have HRD := hide hrd
        have HRV := hide hrv
        have HRZ := hide hrz
        clear hown hrl hrd hrv hrz
        by_cases hkM : k < M
        · obtain ⟨b2', off2, hbs2, rfl, hcell2⟩ := RB.out.at HM.out (by omega)
          have hc2 := hcell2 k (by have := HM.out; omega)
          rw [← bw2.cell (p := ⟨b2', off2 + k, none⟩) hbs2] at hc2
          have hc1 := CA.out _ bw2
          have hy := db.getD k
          have ty := valD_take_snoc ys k (by have := HM.out; omega)
          obtain ⟨y, ey⟩ : ∃ y, ys.getD k 0 = y := ⟨_, rfl⟩
          rw [ey] at hc2 hy ty
          obtain ⟨t, et⟩ : ∃ t, j + k = t := ⟨_, rfl⟩
          have hik : (j : Int) + (k : Int) = (t : Int) := by omega
          have htN : t < N := by omega
          have htN2 : (t : Int) < (N : Int) := by omega
          have hc3 := (HW2.out.cellAt t (by omega)).trans (dv_at rs t (by have := HRL.out; omega))
          have ho := HRD.out.getD t
          have HS := hide (fun d => valD_set rs t d (by have := HRL.out; omega))
          have hbd := digit_bound hcy ho hx hy
          obtain ⟨o, eo⟩ : ∃ o, rs.getD t 0 = o := ⟨_, rfl⟩
          rw [eo] at hc3 ho HS hbd
          obtain ⟨P, eP⟩ : ∃ P, x * y = P := ⟨_, rfl⟩
          have hmul : (x : Int) * (y : Int) = (P : Int) := by rw [← eP]; simp
          have HP := hide eP
          rw [eP] at hbd
          have hw32 : IntKind.u32.wrap ((cy : Int) + (o : Int) + (P : Int)) = (cy : Int) + (o : Int) + (P : Int) := by rw [IntKind.wrap_u32]; omega
          have HY := hide ty
          have SF := HW2.out.frozenAt t
          have HRV2 := HRV.out
          rw [et] at HRV2
          have HRV3 := hide HRV2
          have ET := hide et
          clear ey eo eP ty hcell2 et HRV HRV2
          obtain ⟨D, eD⟩ : ∃ D, (cy + o + P) % 65536 = D := ⟨_, rfl⟩
          obtain ⟨C, eC⟩ : ∃ C, (cy + o + P) / 65536 = C := ⟨_, rfl⟩
          have hw16 : IntKind.u16.wrap ((cy : Int) + (o : Int) + (P : Int)) = (D : Int) := by rw [IntKind.wrap_u16]; omega
          have hsh : ((cy : Int) + (o : Int) + (P : Int)) / 65536 = (C : Int) := by omega
          have hD : D < 65536 := by omega
          have hC : C ≤ 65535 := by omega
          have hDC : Hid (D + 65536 * C = cy + o + P) := hide (by omega)
          have ST := hide (fun nq => own_kept2 HW2.out (below_drew wr.heap.size wr nq))
          clear eD eC
          go_wp2
          go_quiet (fail)
          go_wp2
          go_roundw
          case rel =>
            refine ⟨k + 1, C, rs.set t D, by omega, by go_num, rfl, hC, (by rw [← dv_set]; exact ((ST.out _).stored t (.int .u16 (D : Int))).1), by simp [HRL.out], digs_set HRD.out t D hD, ?_, ?_, (bw2.trans (below_drew _ _ _)).setCell (Nat.le_refl _) _⟩
            · rw [HY.out, show j + (k + 1) = t + 1 by have := ET.out; omega, Nat.pow_succ]
              exact mul_step (by rw [← ET.out, Nat.pow_add]) HRV3.out (HS.out D) (by rw [HP.out]; exact hDC.out)
            · intro t' ht'
              rw [getD_set_ne _ _ _ _ (by have := ET.out; omega)]
              exact HRZ.out t' ht'
          case measure => simp [intOf]; omega
        · have hkM' : k = M := by omega
          subst hkM'
          obtain ⟨t, et⟩ : ∃ t, j + k = t := ⟨_, rfl⟩
          have hik : (j : Int) + (k : Int) = (t : Int) := by omega
          have htN : t < N := by omega
          have htN2 : (t : Int) < (N : Int) := by omega
          have hc3 := (HW2.out.cellAt t (by omega)).trans (dv_at rs t (by have := HRL.out; omega))
          have SF := HW2.out.frozenAt t
          have hw16 : IntKind.u16.wrap (cy : Int) = (cy : Int) := by rw [IntKind.wrap_u16]; omega
          have HS := hide (valD_set rs t cy (by have := HRL.out; omega))
          have ET := hide et
          clear et
          go_wp2
          go_roundw
          case rel =>
            refine ⟨j + 1, rs.set t cy, by omega, by go_num, (by rw [← dv_set]; exact (HW2.out.stored t (.int .u16 (cy : Int))).1), by simp [HRL.out], digs_set HRD.out t cy (by omega), ?_, ?_, bw2.setCell (Nat.le_refl _) _⟩
            · have h1 := HS.out
              have h2 := HRV.out
              have h3 := HQV.out
              have h4 := HRZ.out t (by have := ET.out; omega)
              rw [h4, Nat.mul_zero, Nat.add_zero] at h1
              rw [ET.out, List.take_of_length_le (by have := HM.out; omega), h3] at h2
              rw [h1, h2, HX.out, Nat.add_mul]
            · intro t' ht'
              rw [getD_set_ne _ _ _ _ (by have := ET.out; omega)]
              exact HRZ.out t' (by omega)
          case measure => simp [intOf]; omega
    · have hjL : j = L := by omega
      subst hjL
      have TR := trim_any _ qs wr (row_of_owns (ds := qs) (by rw [HQL.out]; exact HW.out)) HQD.out
      have hown := hide (fun g hg => (HW.out.lt g hg).1)
      go_wp2_with (go_at_call 54; refine TR.mono ?_; rintro e w' ⟨v3, rfl, h3, f3, rfl⟩)
      go_ret
      have hv := HQV.out
      rw [List.take_of_length_le (by have := HL.out; omega)] at hv
      rw [hv] at h3
      exact ⟨_, rfl, h3, fun g hg => hown.out g (f3 g hg), bw⟩
end Go.Proofs.YtbengmceiaejeaaGreatDoor
/- Two neighbouring fractions keep all others with small denominators away; and a check of that, for the kernel. -/
namespace Go.Proofs.YtbengmceiaejeaaGreatDoor

theorem int_pos_mul {u a : Int} (hu : 1 ≤ u) (ha : 0 ≤ a) : a ≤ u * a := by
  have := Int.mul_le_mul_of_nonneg_right hu ha
  omega

theorem farey_int {A M a b c d y n : Int} (det : a * d - b * c = 1) (h1 : 0 < A * a - M * b) (h2 : 0 < M * d - A * c) (ha : 0 ≤ a) (hc : 0 ≤ c) (hy : 0 < y) (hY : y < a + c) :
    A * a - M * b ≤ A * y - M * n ∨ M * d - A * c ≤ M * n - A * y := by
  obtain ⟨u, eu⟩ : ∃ u, u = y * d - n * c := ⟨_, rfl⟩
  obtain ⟨v, ev⟩ : ∃ v, v = n * a - y * b := ⟨_, rfl⟩
  obtain ⟨r1, e1⟩ : ∃ r, r = A * a - M * b := ⟨_, rfl⟩
  obtain ⟨r2, e2⟩ : ∃ r, r = M * d - A * c := ⟨_, rfl⟩
  have ey : u * a + v * c = y := by
    have : u * a + v * c = y * (a * d - b * c) := by
      subst eu ev
      simp only [Int.mul_sub, Int.mul_comm, Int.mul_left_comm]
      omega
    rw [this, det, Int.mul_one]
  have ev2 : u * r1 - v * r2 = A * y - M * n := by
    have : u * r1 - v * r2 = (A * y - M * n) * (a * d - b * c) := by
      subst eu ev e1 e2
      simp only [Int.mul_sub, Int.mul_comm, Int.mul_left_comm]
      omega
    rw [this, det, Int.mul_one]
  rw [← e1] at h1 ⊢
  rw [← e2] at h2 ⊢
  by_cases hu : 1 ≤ u
  · by_cases hv : 1 ≤ v
    · exfalso
      have k1 := int_pos_mul hu ha
      have k2 := int_pos_mul hv hc
      omega
    · left
      have k1 := int_pos_mul hu (Int.le_of_lt h1)
      have k2 : v * r2 ≤ 0 := Int.mul_nonpos_of_nonpos_of_nonneg (by omega) (by omega)
      omega
  · right
    have k0 : u * a ≤ 0 := Int.mul_nonpos_of_nonpos_of_nonneg (by omega) ha
    have k1 : u * r1 ≤ 0 := Int.mul_nonpos_of_nonpos_of_nonneg (by omega) (by omega)
    have hv : 1 ≤ v := by
      rcases Int.lt_or_le v 1 with h | h
      · exfalso
        have : v * c ≤ 0 := Int.mul_nonpos_of_nonpos_of_nonneg (by omega) hc
        omega
      · exact h
    have k2 := int_pos_mul hv (Int.le_of_lt h2)
    omega

theorem farey {A M a b c d y n : Nat} (det : a * d = b * c + 1) (h1 : M * b < A * a) (h2 : A * c < M * d) (hy : 0 < y) (hY : y < a + c) :
    M * n + (A * a - M * b) ≤ A * y ∨ A * y + (M * d - A * c) ≤ M * n := by
  have := farey_int (A := A) (M := M) (a := a) (b := b) (c := c) (d := d) (y := y) (n := n)
    (by have := congrArg (Nat.cast (R := Int)) det; simp only [Int.natCast_mul, Int.natCast_add, Int.natCast_one] at this; omega)
    (by rw [← Int.natCast_mul, ← Int.natCast_mul]; omega) (by rw [← Int.natCast_mul, ← Int.natCast_mul]; omega) (by omega) (by omega) (by omega) (by omega)
  rw [← Int.natCast_mul, ← Int.natCast_mul, ← Int.natCast_mul, ← Int.natCast_mul, ← Int.natCast_mul, ← Int.natCast_mul] at this
  omega

/-- How many there may be. -/
def Ymax : Nat := 36028797018963971

/-- The neighbours, by Euclid's way: lower b / a, upper d / c; r1 = A a - M b, r2 = M d - A c. -/
def nbrs : Nat → Nat → Nat → Nat → Nat → Nat → Nat → Nat × Nat × Nat × Nat
  | 0, a, b, c, d, _, _ => (a, b, c, d)
  | f + 1, a, b, c, d, r1, r2 =>
    if Ymax ≤ a + c then (a, b, c, d)
    else if r2 ≤ r1 then
      let k := min ((r1 - 1) / r2) ((Ymax - a - c) / c + 1)
      nbrs f (a + k * c) (b + k * d) c d (r1 - k * r2) r2
    else
      let k := min ((r2 - 1) / r1) ((Ymax - a - c) / a + 1)
      nbrs f a b (c + k * a) (d + k * b) r1 (r2 - k * r1)

/-- Is A y / M, for all y below Ymax, a whole number or farther than 1 / G from all of them? -/
def sepOK (A M G : Nat) : Bool :=
  if M < G then true
  else match nbrs 64 1 0 0 1 (A % M) M with
    | (a, b, c, d) => a * d == b * c + 1 && M * b < A % M * a && A % M * c < M * d && Ymax ≤ a + c && M < G * (A % M * a - M * b) && M < G * (M * d - A % M * c)

theorem sep_of {A M G y n : Nat} (h : sepOK A M G = true) (hy : 0 < y) (hY : y < Ymax) : A * y = M * n ∨ (M * n < A * y ∧ M < G * (A * y - M * n)) ∨ (A * y < M * n ∧ M < G * (M * n - A * y)) := by
  have hd : A * y = M * (A / M * y) + A % M * y := by
    conv => lhs; rw [← Nat.div_add_mod A M]
    rw [Nat.add_mul, Nat.mul_assoc]
  unfold sepOK at h
  split at h
  · rename_i hG
    rcases Nat.lt_trichotomy (M * n) (A * y) with hl | he | hl
    · right; left
      refine ⟨hl, Nat.lt_of_lt_of_le hG (Nat.le_mul_of_pos_right _ (by omega))⟩
    · left; exact he.symm
    · right; right
      refine ⟨hl, Nat.lt_of_lt_of_le hG (Nat.le_mul_of_pos_right _ (by omega))⟩
  · split at h
    rename_i a b c d _
    simp only [Bool.and_eq_true, decide_eq_true_eq, beq_iff_eq] at h
    obtain ⟨⟨⟨⟨⟨k1, k2⟩, k3⟩, k4⟩, k5⟩, k6⟩ := h
    obtain ⟨R, eR⟩ : ∃ R, A % M = R := ⟨_, rfl⟩
    rw [eR] at k2 k3 k5 k6 hd
    obtain ⟨t, et⟩ : ∃ t, A / M * y = t := ⟨_, rfl⟩
    rw [et] at hd
    rcases Nat.lt_or_ge n t with hn | hn
    · -- below: the distance is even greater
      have h0 := farey (n := 0) k1 k2 k3 hy (Nat.lt_of_lt_of_le hY k4)
      rcases h0 with h0 | h0
      · right; left
        have e : M * t = M * n + M * (t - n) := by rw [← Nat.mul_add]; congr 1; omega
        have hle : R * a - M * b ≤ A * y - M * n := by omega
        have hpos : 0 < R * a - M * b := by omega
        exact ⟨by omega, Nat.lt_of_lt_of_le k5 (Nat.mul_le_mul_left _ hle)⟩
      · omega
    · obtain ⟨m, em⟩ : ∃ m, n = t + m := ⟨n - t, by omega⟩
      subst em
      rw [Nat.mul_add]
      have h0 := farey (n := m) k1 k2 k3 hy (Nat.lt_of_lt_of_le hY k4)
      rcases h0 with h0 | h0
      · right; left
        have hle : R * a - M * b ≤ A * y - (M * t + M * m) := by omega
        exact ⟨by omega, Nat.lt_of_lt_of_le k5 (Nat.mul_le_mul_left _ hle)⟩
      · right; right
        have hle : M * d - R * c ≤ M * t + M * m - A * y := by omega
        exact ⟨by omega, Nat.lt_of_lt_of_le k6 (Nat.mul_le_mul_left _ hle)⟩
end Go.Proofs.YtbengmceiaejeaaGreatDoor
