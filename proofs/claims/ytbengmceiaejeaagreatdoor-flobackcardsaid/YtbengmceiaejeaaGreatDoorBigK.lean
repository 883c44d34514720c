/- Amounts: digit. -/
import Derived.Test.YtbengmceiaejeaaGreatDoorBig2
namespace Go.Proofs.YtbengmceiaejeaaGreatDoor
open Go.ChangeShapes Go.WideShapes Go.ChangeAt Go.RowKit

set_option maxHeartbeats 4000000 in
theorem digit_any (a b : Value) (m n : Nat) (w : World) (ha : IsAmt w a m) (hb : IsAmt w b n) (hm : m < BIG) (hn : n < BIG) (hmn : m < 65536 * n) :
    Calls Tryz.prog 78 #[a, b] w fun e w' => ∃ v, e = .returned (.tuple #[.int .u16 ((m / n : Nat) : Int), v]) ∧ IsAmt w' v (m % n) ∧ (∀ g, v.ownBlock = some g → w.heap.size ≤ g) ∧ Below w.heap.size w w' := by
  have HA := hide ha
  have HB := hide hb
  have HM := hide hm
  have HN := hide hn
  have HMN := hide hmn
  clear ha hb hm hn hmn
  go_enter Tryz.func78, Tryz.ntmps78
  go_wp2
  go_loopw [6, 7] (fun l h wr => ∃ (lo hi : Nat), l = .int .u32 (lo : Int) ∧ h = .int .u32 (hi : Int) ∧ lo ≤ hi ∧ hi ≤ 65535 ∧ lo * n ≤ m ∧ m < (hi + 1) * n ∧ Below w.heap.size w wr) (fun l h _ => (intOf h - intOf l).toNat)
  case atStart => exact ⟨0, 65535, rfl, rfl, by omega, by omega, by omega, HMN.out, Below.refl _ _⟩
  case round =>
    obtain ⟨lo, hi, rfl, rfl, h1, h2, h3, h4, bw⟩ := hrel
    have H3 := hide h3
    have H4 := hide h4
    clear h3 h4
    by_cases hlt : lo < hi
    · obtain ⟨mid, em⟩ : ∃ mid, (lo + hi + 1) / 2 = mid := ⟨_, rfl⟩
      have hmid : ((lo : Int) + (hi : Int) + 1) / 2 = (mid : Int) := by omega
      have hmb : lo < mid ∧ mid ≤ hi := by omega
      have T := timesD_any b n mid wr (HB.out.below bw) HN.out (by omega)
      have HC : Hid (∀ v wt, IsAmt wt v (n * mid) → Below wr.heap.size wr wt → Calls Tryz.prog 97 #[v, a] wt fun e w' => e = .returned (.int .i64 (cmpN (n * mid) m)) ∧ Below wt.heap.size wt w') := fun v wt hv hb => cmpD_any v a (n * mid) m wt hv ((HA.out.below bw).below hb)
      have EM := hide em
      clear em
      by_cases hle : n * mid ≤ m
      · have hcm : (decide (cmpN (n * mid) m ≤ 0)) = true := decide_eq_true (by unfold cmpN; split <;> (try split) <;> omega)
        obtain ⟨c, ec⟩ : ∃ c, cmpN (n * mid) m = c := ⟨_, rfl⟩
        rw [ec] at HC hcm
        have HLE := hide hle
        clear ec hle
        go_wp2_with (first
          | (go_at_call 98; refine T.mono ?_; rintro e wt ⟨v, rfl, hv, _, bt⟩; have CC := HC.out v wt hv bt)
          | (go_at_call 97; refine CC.mono ?_; rintro e wc ⟨rfl, bc⟩))
        go_roundw
        case rel => exact ⟨mid, hi, by go_num, rfl, by omega, h2, by rw [Nat.mul_comm]; exact HLE.out, H4.out, (bw.trans (bt.mono bw.size)).trans (bc.mono (Nat.le_trans bw.size bt.size))⟩
        case measure => simp [intOf]; omega
      · have hcm : (decide (cmpN (n * mid) m ≤ 0)) = false := decide_eq_false (by unfold cmpN; split <;> (try split) <;> omega)
        obtain ⟨c, ec⟩ : ∃ c, cmpN (n * mid) m = c := ⟨_, rfl⟩
        rw [ec] at HC hcm
        have HLE := hide hle
        clear ec hle
        go_wp2_with (first
          | (go_at_call 98; refine T.mono ?_; rintro e wt ⟨v, rfl, hv, _, bt⟩; have CC := HC.out v wt hv bt)
          | (go_at_call 97; refine CC.mono ?_; rintro e wc ⟨rfl, bc⟩))
        go_roundw
        case rel =>
          refine ⟨lo, mid - 1, rfl, ?_, by omega, by omega, H3.out, ?_, (bw.trans (bt.mono bw.size)).trans (bc.mono (Nat.le_trans bw.size bt.size))⟩
          · go_num
          · have h5 := HLE.out
            rw [show mid - 1 + 1 = mid by omega, Nat.mul_comm]
            omega
        case measure => simp [intOf]; omega
    · have hlh : lo = hi := by omega
      subst hlh
      have hn0 : 0 < n := by
        rcases Nat.eq_zero_or_pos n with h | h
        · have := H4.out; rw [h] at this; omega
        · exact h
      have hq : m / n = lo := by
        have h5 := H3.out
        have h6 := H4.out
        exact Nat.div_eq_of_lt_le h5 h6
      have hr : m - n * lo = m % n := by
        have := Nat.div_add_mod m n
        rw [hq] at this
        omega
      have hle : n * lo ≤ m := by rw [Nat.mul_comm]; exact H3.out
      have HLE := hide hle
      have HQ := hide hq
      have HR := hide hr
      clear hq hr hle hn0
      have T := timesD_any b n lo wr (HB.out.below bw) HN.out (by omega)
      have HS : Hid (∀ v wt, IsAmt wt v (n * lo) → Below wr.heap.size wr wt → Calls Tryz.prog 101 #[a, v] wt fun e w' => ∃ v', e = .returned v' ∧ IsAmt w' v' (m - n * lo) ∧ (∀ g, v'.ownBlock = some g → wt.heap.size ≤ g) ∧ Below wt.heap.size wt w') := fun v wt hv hb => subD_any a v m (n * lo) wt ((HA.out.below bw).below hb) hv HLE.out HM.out
      go_wp2_with (first
        | (go_at_call 98; refine T.mono ?_; rintro e wt ⟨v, rfl, hv, _, bt⟩; have CC := HS.out v wt hv bt)
        | (go_at_call 101; refine CC.mono ?_; rintro e wc ⟨v4, rfl, h4, f4, bc⟩))
      go_ret2
      refine ⟨_, by rw [HQ.out]; rfl, by rw [← HR.out]; exact h4, fun g hg => Nat.le_trans (Nat.le_trans bw.size bt.size) (f4 g hg), (bw.trans (bt.mono bw.size)).trans (bc.mono (Nat.le_trans bw.size bt.size))⟩
end Go.Proofs.YtbengmceiaejeaaGreatDoor
/- Amounts: divD. -/
namespace Go.Proofs.YtbengmceiaejeaaGreatDoor
open Go.ChangeShapes Go.WideShapes Go.ChangeAt Go.RowKit

theorem valD_drop (ds : List Nat) (k : Nat) (h : k < ds.length) : valD (ds.drop k) = ds.getD k 0 + 65536 * valD (ds.drop (k + 1)) := by
  rw [List.drop_eq_getElem_cons h]
  simp [valD, List.getD, h]

theorem div_step {A n x : Nat} (hn : 0 < n) : (x + 65536 * A) / n = (x + 65536 * (A % n)) / n + 65536 * (A / n) ∧ (x + 65536 * A) % n = (x + 65536 * (A % n)) % n := by
  have h := Nat.div_add_mod A n
  have e : x + 65536 * A = (x + 65536 * (A % n)) + n * (65536 * (A / n)) := by
    have : n * (65536 * (A / n)) = 65536 * (n * (A / n)) := by rw [← Nat.mul_assoc, Nat.mul_comm n, Nat.mul_assoc]
    omega
  rw [e, Nat.add_mul_div_left _ _ hn, Nat.add_mul_mod_self_left]
  exact ⟨rfl, rfl⟩

theorem valD_set_drop (qs : List Nat) (k d : Nat) (h : k < qs.length) : valD ((qs.set k d).drop k) = d + 65536 * valD (qs.drop (k + 1)) := by
  rw [valD_drop _ k (by simpa using h)]
  congr 1
  · simp [List.getD, h]
  · rw [List.drop_set_of_lt (by omega)]

theorem own_one {w : World} {x : Value} {e : TypeId} (h1 : 1 ≤ maxLen) : (w.alloc (.cells #[x] e)).ownsRow w.heap.size e 1 (.slice (some ⟨w.heap.size, 0, none⟩) 1 1) 1 [x] :=
  ⟨by simp, .inr ⟨w.heap.size, 1, #[x], rfl, Nat.le_refl _, heap_alloc_new w _, Nat.le_refl _, h1, rfl, by simp⟩⟩

theorem dv_set (qs : List Nat) (k d : Nat) : (dv qs).set k (.int .u16 (d : Int)) = dv (qs.set k d) := by
  simp [dv, List.map_set]

theorem Row.alloc {w : World} {v : Value} {ds : List Nat} (h : Row w v ds) (o : Obj) : Row (w.alloc o) v ds :=
  h.below ((Below.refl _ _).alloc (Nat.le_refl _) o)

theorem Row.news {w : World} {b off cap : Nat} {ds : List Nat} (h : Row w (.slice (some ⟨b, off, none⟩) ds.length cap) ds) : ∀ j u, (dv ds)[j]? = some u → w.cell? ((⟨b, off, none⟩ : Addr).add j) = some u := by
  intro j u hu
  have hj : j < ds.length := by
    have := (List.getElem?_eq_some_iff.1 hu).1
    rwa [dv_length] at this
  obtain ⟨b', off', _, e, hc⟩ := h.at rfl (by omega)
  cases e
  rw [Addr.add_lit, hc j hj, ← hu]
  simp [dv, List.getD, hj]

theorem dv_ones (ds : List Nat) : ∀ u ∈ dv ds, u.oneCell' = true := by
  intro u hu
  obtain ⟨_, _, rfl⟩ := List.mem_map.1 hu
  rfl

/-- A store elsewhere leaves a row as it is. -/
theorem Row.setCell {w : World} {v : Value} {ds : List Nat} (h : Row w v ds) {Q k : Nat} {u : Value} (hQ : ∀ g, v.ownBlock = some g → g ≠ Q) : Row (w.setCell ⟨Q, k, none⟩ u) v ds := by
  rcases h with h | ⟨b, off, cap, h1, h2, h3, h4, h5⟩
  · exact Or.inl h
  · refine Or.inr ⟨b, off, cap, h1, by simpa [World.setCell] using h2, h3, h4, fun j hj => ?_⟩
    have hne : b ≠ Q := hQ b (by rw [h1]; rfl)
    rw [World.cell?_of_block (w := w) (Below.heap_setCell w ⟨Q, k, none⟩ u b hne)]
    exact h5 j hj

theorem IsAmt.setCell {w : World} {v : Value} {n : Nat} (h : IsAmt w v n) {Q k : Nat} {u : Value} (hQ : ∀ g, v.ownBlock = some g → g ≠ Q) : IsAmt (w.setCell ⟨Q, k, none⟩ u) v n := by
  obtain ⟨ds, h1, h2⟩ := h
  exact ⟨ds, h1.setCell hQ, h2⟩

theorem own_kept2 {W W' : World} {B e size n : Nat} {v : Value} {xs : List Value} (h : W.ownsRow B e size v n xs) (hb : Below W.heap.size W W') : W'.ownsRow B e size v n xs :=
  h.kept (row := none) ⟨hb.os, hb.tape, hb.output, hb.size, fun k hk _ => hb.block k hk⟩ (Classical.em _)

theorem set_size (w : World) (a : Addr) (u : Value) : (w.setCell a u).heap.size = w.heap.size := by simp [World.setCell]

theorem dv_at (qs : List Nat) (k : Nat) (h : k < qs.length) : (dv qs)[k]? = some (.int .u16 ((qs.getD k 0 : Nat) : Int)) := by
  simp [dv, List.getD, h]

theorem app_row {w : World} {B e : Nat} {v : Value} {x : Nat} {rs : List Nat} (o : w.ownsRow B e 1 v (1 + rs.length) ([Value.int .u16 (x : Int)] ++ dv rs)) : w.ownsRow B e 1 v (x :: rs).length (dv (x :: rs)) := by
  rw [Nat.add_comm] at o
  exact o

set_option maxHeartbeats 8000000 in
theorem divD_any (a b : Value) (m n : Nat) (w : World) (ha : IsAmt w a m) (hb : IsAmt w b n) (hm : m < BIG) (hn : n < BIG) (hn0 : 0 < n) :
    Calls Tryz.prog 52 #[a, b] w fun e w' => ∃ v r, e = .returned (.tuple #[v, r]) ∧ IsAmt w' v (m / n) ∧ IsAmt w' r (m % n) ∧ Below w.heap.size w w' := by
  obtain ⟨xs, ra, da, na, rfl⟩ := ha
  have hlen := len_big na hm
  have HX : Hid (∀ k, valD (xs.drop k) < BIG) := by
    refine hide fun k => Nat.lt_of_le_of_lt ?_ hm
    have h := valD_append (xs.take k) (xs.drop k)
    rw [List.take_append_drop] at h
    have h1 : 1 * valD (xs.drop k) ≤ 65536 ^ (xs.take k).length * valD (xs.drop k) := Nat.mul_le_mul_right _ (Nat.pow_pos (by decide))
    omega
  obtain ⟨i, hi, hz0, hz1, hz2⟩ := info_parts info16
  have HB := hide hb
  have HN := hide hn
  have RA := hide ra
  obtain ⟨ao, cap, rfl⟩ := ra.form
  clear hm na ra hb hn
  obtain ⟨L, eL⟩ : ∃ L, xs.length = L := ⟨_, rfl⟩
  have HL := hide eL
  rw [eL] at RA hlen ⊢
  clear eL
  go_enter Tryz.func52, Tryz.ntmps52
  go_wp2_with (at_make; refine wpList_make_full _ rfl _ _ 42 rfl w.heap.size 77 i _ 1 Tryz.underlying42 hi hz0 hz1 _ _ _ _ L rfl rfl rfl rfl (by rw [hz2]; omega) (by unfold maxLen; omega) (Nat.le_refl _) ?_; intro w1 o1 g1)
  have o1' : w1.ownsRow w.heap.size 77 1 (.slice (some ⟨w.heap.size, 0, none⟩) L L) L (dv (List.replicate L 0)) := by
    have e : (madeCells (Value.int IntKind.u16 0).cells (L * 1)).toList = dv (List.replicate L 0) := by
      rw [Nat.mul_one]
      exact (toList_madeCells_one (.int .u16 0) L).trans (by simp [dv])
    rw [e] at o1
    exact o1
  have b1 : Below w.heap.size w w1 := (Below.refl _ _).grown g1 (Nat.le_refl _) (fun k e => by cases e)
  clear o1 g1
  have HO1 := hide o1'
  clear o1'
  go_loopw [7, 8] (fun rest ix wr => ∃ (k : Nat) (qs : List Nat), k ≤ L ∧ ix = .int .i64 ((k : Int) - 1) ∧ IsAmt wr rest (valD (xs.drop k) % n) ∧ (∀ g, rest.ownBlock = some g → g ≠ w.heap.size) ∧ wr.ownsRow w.heap.size 77 1 (.slice (some ⟨w.heap.size, 0, none⟩) L L) L (dv qs) ∧ qs.length = L ∧ DigsOk qs ∧ valD (qs.drop k) = valD (xs.drop k) / n ∧ (∀ j, j < k → qs.getD j 0 = 0) ∧ Below w.heap.size w wr ∧ w.heap.size < wr.heap.size) (fun _ ix _ => (intOf ix + 1).toNat)
  case atStart =>
    have hl := HL.out
    refine ⟨L, List.replicate L 0, Nat.le_refl _, by go_num, ?_, (fun g h => by cases h), HO1.out, by simp, ?_, ?_, ?_, b1, (HO1.out.lt _ rfl).2⟩
    · rw [List.drop_of_length_le (by omega)]
      exact ⟨[], Or.inl ⟨rfl, rfl⟩, digs_nil, norm_nil, by simp [valD]⟩
    · intro d hd
      rw [List.mem_replicate] at hd
      omega
    · have d1 : xs.drop L = [] := List.drop_of_length_le (by omega)
      have d2 : (List.replicate L 0).drop L = [] := by simp
      rw [d1, d2]
      simp [valD]
    · intro j hj
      simp [List.getD, hj]
  case round =>
    obtain ⟨k, qs, hk, rfl, hrest, hfr, hown, hql, hqd, hqv, hqz, bw, hQ⟩ := hrel
    have HW := hide hown
    have HQL := hide hql
    have HQD := hide hqd
    have HQV := hide hqv
    have HQZ := hide hqz
    have HFR := hide hfr
    have HRE := hide hrest
    clear hown hql hqd hqv hqz hrest hfr
    cases k with
    | zero =>
      have TR := trim_any _ qs wr (row_of_owns (ds := qs) (by rw [HQL.out]; exact HW.out)) HQD.out
      go_wp2_with (go_at_call 54; refine TR.mono ?_; rintro e w' ⟨v3, rfl, h3, f3, rfl⟩)
      go_ret2
      have hv := HQV.out
      rw [List.drop_zero, List.drop_zero] at hv
      rw [hv] at h3
      have hr := HRE.out
      rw [List.drop_zero] at hr
      exact ⟨_, _, rfl, h3, hr, bw⟩
    | succ k =>
      obtain ⟨b1', off, hbs, rfl, hcell⟩ := RA.out.at HL.out (by omega)
      have hc := hcell k (by have := HL.out; omega)
      rw [← bw.cell (p := ⟨b1', off + k, none⟩) hbs] at hc
      have hx := da.getD k
      have hdr := valD_drop xs k (by have := HL.out; omega)
      have hbig := HX.out k
      obtain ⟨x, ex⟩ : ∃ x, xs.getD k 0 = x := ⟨_, rfl⟩
      rw [ex] at hc hx hdr
      have hix : ((k + 1 : Nat) : Int) - 1 = (k : Int) := by omega
      have hkL : k < L := by omega
      obtain ⟨A, eA⟩ : ∃ A, valD (xs.drop (k + 1)) = A := ⟨_, rfl⟩
      rw [eA] at HRE HQV hdr
      have HDR := hide hdr
      have st := div_step (A := A) (x := x) hn0
      have HST := hide st
      rw [hdr] at hbig
      have hRl : x + 65536 * (A % n) ≤ x + 65536 * A := by have := Nat.mod_le A n; omega
      have hRn : x + 65536 * (A % n) < 65536 * n := by have := Nat.mod_lt A hn0; omega
      obtain ⟨R, eR⟩ : ∃ R, x + 65536 * (A % n) = R := ⟨_, rfl⟩
      rw [eR] at hRl hRn HST
      have HRB : Hid (R < BIG) := hide (by omega)
      obtain ⟨rs, rr, rd, rn, rv⟩ := HRE.out
      have hrl := len_big rn (by rw [rv]; have := Nat.mod_le A n; omega)
      have HRR := hide rr
      have HRV : Hid (valD (x :: rs) = R) := hide (by simp only [valD]; rw [rv]; exact eR)
      have HRD : Hid (DigsOk (x :: rs)) := hide (by intro d hd; simp at hd; rcases hd with rfl | hd; exact hx; exact rd d hd)
      have hw1 := IntKind.wrap_u16 (x : Int)
      clear hcell ex eA hdr st hbig eR rr rd rn rv
      rcases HRR.out with ⟨e0, e1⟩ | ⟨rb, ro, rc, e0, hrb, hrc, hrm, hrcell⟩
      · subst e0
        subst e1
        have OO := own_one (w := wr) (x := .int .u16 (x : Int)) (e := 77) (by decide)
        have hap : ∀ ty, (Builtin.append_ #[42, 42] ty #[.slice (some ⟨wr.heap.size, 0, none⟩) 1 1, .slice none 0 0]).run Tryz.prog (wr.alloc (.cells #[.int .u16 (x : Int)] 77)) = .ok (.slice (some ⟨wr.heap.size, 0, none⟩) 1 1) (wr.alloc (.cells #[.int .u16 (x : Int)] 77)) := fun ty => run_append_owned_none _ wr.heap.size 42 ty 77 i 1 Tryz.underlying42 hi _ 1 _ OO
        have TR := trim_any _ [x] _ (row_of_owns (ds := [x]) OO) HRD.out
        have BT : Below w.heap.size w (wr.alloc (.cells #[.int .u16 (x : Int)] 77)) := bw.alloc (by omega) _
        have OT := HW.out.alloc (.cells #[.int .u16 (x : Int)] 77)
        have HQ2 : w.heap.size < (wr.alloc (.cells #[.int .u16 (x : Int)] 77)).heap.size := by simp; omega
        go_wp2_with (first
          | (go_at_call 54; refine TR.mono ?_; rintro e wt ⟨v3, rfl, h3, f3, rfl⟩; rw [HRV.out] at h3; have DG := digit_any v3 b R n _ h3 (HB.out.below BT) HRB.out HN.out hRn)
          | (go_at_call 78; refine DG.mono ?_; rintro e w4 ⟨v4, rfl, h4, f4, b4⟩
             have OW := (own_kept2 OT b4)
             have SC := (OW.cellAt k (by omega)).trans (dv_at qs k (by have := HQL.out; omega))
             have SF := OW.frozenAt k
             have SW := OW.stored k (.int .u16 ((R / n : Nat) : Int))
             have SB : Below w.heap.size w (w4.setCell ⟨w.heap.size, k, none⟩ (.int .u16 ((R / n : Nat) : Int))) := (BT.trans (b4.mono BT.size)).setCell (Nat.le_refl _) _
             have SQ : w.heap.size < (w4.setCell ⟨w.heap.size, k, none⟩ (.int .u16 ((R / n : Nat) : Int))).heap.size := by rw [set_size]; exact Nat.lt_of_lt_of_le HQ2 b4.size))
        go_roundw
        case rel =>
          refine ⟨k, qs.set k (R / n), by omega, by go_num, ?_, ?_, (by rw [← dv_set]; exact SW.1), by simp [HQL.out], ?_, ?_, ?_, SB, SQ⟩
          · rw [HDR.out, HST.out.2]
            exact h4.setCell fun g hg => by have := f4 g hg; omega
          · intro g hg
            have := f4 g hg
            omega
          · intro d hd
            rcases List.mem_or_eq_of_mem_set hd with h | h
            · exact HQD.out d h
            · rw [h]; exact (Nat.div_lt_iff_lt_mul hn0).2 hRn
          · rw [valD_set_drop qs k _ (by have := HQL.out; omega), HQV.out, HDR.out, HST.out.1]
          · intro j hj
            rw [List.getD_eq_getElem?_getD, List.getElem?_set_ne (by omega), ← List.getD_eq_getElem?_getD]
            exact HQZ.out j (by omega)
        case measure => simp [intOf]
      · have OO := own_one (w := wr) (x := .int .u16 (x : Int)) (e := 77) (by decide)
        have HNW := hide (Row.news ((e0 ▸ HRR.out).alloc (.cells #[.int .u16 (x : Int)] 77)))
        subst e0
        clear hrcell
        go_wp2_with (first
          | (at_builtin; refine wpList_append_own _ rfl _ _ 42 rfl wr.heap.size 77 i (.int .u16 0) 1 2 Tryz.underlying42 hi hz0 hz1 hz2 rfl (by decide) _ _ _ rfl OO ⟨rb, ro, none⟩ rs.length rc (dv rs) rfl (by rw [dv_length, Nat.mul_one]) HNW.out (dv_ones rs) (by unfold maxLen; omega) (by omega) (by simp) ?_; intro v' w2 o2 g2 _
             have TR := trim_any v' (x :: rs) w2 (row_of_owns (app_row o2)) HRD.out
             have BT : Below w.heap.size w w2 := (bw.alloc (by omega) _).grown g2 (by simp; omega) (fun k hk => by have h7 : some wr.heap.size = some k := hk; have := Option.some.inj h7; omega)
             have OT := (HW.out.alloc (.cells #[.int .u16 (x : Int)] 77)).kept g2 (Or.inr (fun e => by have h7 : some w.heap.size = some wr.heap.size := e; have := Option.some.inj h7; omega))
             have HQ2 : w.heap.size < w2.heap.size := by have := g2.size; simp at this; omega)
          | (go_at_call 54; refine TR.mono ?_; rintro e wt ⟨v3, rfl, h3, f3, rfl⟩; rw [HRV.out] at h3; have DG := digit_any v3 b R n _ h3 (HB.out.below BT) HRB.out HN.out hRn)
          | (go_at_call 78; refine DG.mono ?_; rintro e w4 ⟨v4, rfl, h4, f4, b4⟩
             have OW := (own_kept2 OT b4)
             have SC := (OW.cellAt k (by omega)).trans (dv_at qs k (by have := HQL.out; omega))
             have SF := OW.frozenAt k
             have SW := OW.stored k (.int .u16 ((R / n : Nat) : Int))
             have SB : Below w.heap.size w (w4.setCell ⟨w.heap.size, k, none⟩ (.int .u16 ((R / n : Nat) : Int))) := (BT.trans (b4.mono BT.size)).setCell (Nat.le_refl _) _
             have SQ : w.heap.size < (w4.setCell ⟨w.heap.size, k, none⟩ (.int .u16 ((R / n : Nat) : Int))).heap.size := by rw [set_size]; exact Nat.lt_of_lt_of_le HQ2 b4.size))
        go_roundw
        case rel =>
          refine ⟨k, qs.set k (R / n), by omega, by go_num, ?_, ?_, (by rw [← dv_set]; exact SW.1), by simp [HQL.out], ?_, ?_, ?_, SB, SQ⟩
          · rw [HDR.out, HST.out.2]
            exact h4.setCell fun g hg => by have := f4 g hg; omega
          · intro g hg
            have := f4 g hg
            omega
          · intro d hd
            rcases List.mem_or_eq_of_mem_set hd with h | h
            · exact HQD.out d h
            · rw [h]; exact (Nat.div_lt_iff_lt_mul hn0).2 hRn
          · rw [valD_set_drop qs k _ (by have := HQL.out; omega), HQV.out, HDR.out, HST.out.1]
          · intro j hj
            rw [List.getD_eq_getElem?_getD, List.getElem?_set_ne (by omega), ← List.getD_eq_getElem?_getD]
            exact HQZ.out j (by omega)
        case measure => simp [intOf]
end Go.Proofs.YtbengmceiaejeaaGreatDoor
/- Amounts: shl, value, lenB, small. -/
namespace Go.Proofs.YtbengmceiaejeaaGreatDoor
open Go.ChangeShapes Go.WideShapes Go.ChangeAt Go.RowKit

/-- Below the bound, said so that no tool reckons it. -/
structure Kept (m : Nat) : Prop where
  out : m < BIG

theorem row_len {w : World} {ao : Option Addr} {l c : Nat} {ds : List Nat} (h : Row w (.slice ao l c) ds) : ds.length = l := by
  obtain ⟨_, _, e⟩ := h.form
  injection e with _ e2 _
  exact e2.symm

theorem valD_zeros (k : Nat) (rs : List Nat) : valD (List.replicate k 0 ++ rs) = 65536 ^ k * valD rs := by
  have hz : valD (List.replicate k 0) = 0 := by
    induction k with
    | zero => rfl
    | succ k ih => rw [List.replicate_succ]; simp [valD, ih]
  rw [valD_append, hz, List.length_replicate, Nat.zero_add]

theorem shl_pow (m n : Nat) : 65536 ^ (n / 16) * (m * 2 ^ (n % 16)) = m * 2 ^ n := by
  have e : (65536 : Nat) = 2 ^ 16 := by decide
  rw [e, ← Nat.pow_mul, Nat.mul_comm, Nat.mul_assoc, ← Nat.pow_add]
  congr 2
  omega

theorem amt_pos {w : World} {v : Value} {n : Nat} (h : IsAmt w v n) (hn : 0 < n) : ∃ b off cap rs, v = .slice (some ⟨b, off, none⟩) rs.length cap ∧ Row w (.slice (some ⟨b, off, none⟩) rs.length cap) rs ∧ DigsOk rs ∧ Norm rs ∧ valD rs = n := by
  obtain ⟨ds, rr, rd, rn, rv⟩ := h
  rcases rr with ⟨_, rfl⟩ | ⟨b, off, cap, e, h1⟩
  · rw [← rv] at hn; simp [valD] at hn
  · exact ⟨b, off, cap, ds, e, Or.inr ⟨b, off, cap, rfl, h1⟩, rd, rn, rv⟩

theorem made_zero {w : World} {B e q : Nat} {v : Value} (o : w.ownsRow B e 1 v q (madeCells (Value.int IntKind.u16 0).cells (q * 1)).toList) : w.ownsRow B e 1 v q (dv (List.replicate q 0)) := by
  have h : (madeCells (Value.int IntKind.u16 0).cells (q * 1)).toList = dv (List.replicate q 0) := by
    rw [Nat.mul_one]
    exact (toList_madeCells_one (.int .u16 0) q).trans (by simp [dv])
  rw [h] at o
  exact o

theorem shl_row {w : World} {B e q : Nat} {v : Value} {rs : List Nat} (o : w.ownsRow B e 1 v (q + rs.length) (dv (List.replicate q 0) ++ dv rs)) : w.ownsRow B e 1 v (List.replicate q 0 ++ rs).length (dv (List.replicate q 0 ++ rs)) := by
  rw [dv_append, List.length_append, List.length_replicate]
  exact o

theorem digs_zeros {q : Nat} {rs : List Nat} (h : DigsOk rs) : DigsOk (List.replicate q 0 ++ rs) := by
  intro d hd
  rw [List.mem_append, List.mem_replicate] at hd
  rcases hd with hd | hd
  · omega
  · exact h d hd

set_option maxHeartbeats 4000000 in
theorem shl_any (a : Value) (m n : Nat) (w : World) (ha : IsAmt w a m) (hm : m < BIG) (hb : m * 65536 < BIG) (hn : n ≤ 60000) : Calls Tryz.prog 74 #[a, .int .i64 (n : Int)] w fun e w' => ∃ v, e = .returned v ∧ IsAmt w' v (m * 2 ^ n) ∧ Below w.heap.size w w' := by
  have HA := hide ha
  have HM : Kept m := ⟨hm⟩
  have HBB : Kept (m * 65536) := ⟨hb⟩
  obtain ⟨xs, ra, da, na, hv⟩ := ha
  clear hm hb
  obtain ⟨i, hi, hz0, hz1, hz2⟩ := info_parts info16
  obtain ⟨ao, cap, rfl⟩ := ra.form
  cases hx : xs.length with
  | zero =>
    have : xs = [] := List.eq_nil_of_length_eq_zero hx
    subst this
    have hm0 : m = 0 := by rw [← hv]; rfl
    subst hm0
    clear HA ra hv
    go_enter Tryz.func74, Tryz.ntmps74
    go_wp2
    go_ret
    exact ⟨_, rfl, ⟨[], Or.inl ⟨rfl, rfl⟩, digs_nil, norm_nil, by simp [valD]⟩, Below.refl _ _⟩
  | succ l =>
    have hm1 : 0 < m := by
      have := norm_low na hx
      have h2 : 0 < 65536 ^ l := Nat.pow_pos (by decide)
      omega
    obtain ⟨M, eM⟩ : ∃ M, l + 1 = M := ⟨_, rfl⟩
    rw [hx, eM] at HA
    rw [eM]
    have hM0 : ((M : Int) == 0) = false := by simp; omega
    clear ra da na hv hx eM
    have hq : (n : Int).tdiv 16 = ((n / 16 : Nat) : Int) := by rw [Int.tdiv_eq_ediv_of_nonneg (by omega)]; omega
    have hr : (n : Int).tmod 16 = ((n % 16 : Nat) : Int) := by rw [Int.tmod_eq_emod_of_nonneg (by omega)]; omega
    obtain ⟨q, eq⟩ : ∃ q, n / 16 = q := ⟨_, rfl⟩
    obtain ⟨k, ek⟩ : ∃ k, n % 16 = k := ⟨_, rfl⟩
    have hk : k < 16 := by omega
    have hq2 : q ≤ 3750 := by omega
    rw [eq] at hq
    rw [ek] at hr
    have EQ := hide eq
    have EK := hide ek
    have hqe : (n : Int) / 16 = (q : Int) := by omega
    have hre : (n : Int) % 16 = (k : Int) := by omega
    clear eq ek
    obtain ⟨pk, epk⟩ : ∃ p, 2 ^ k = p := ⟨_, rfl⟩
    have hpk : pk ≤ 32768 := by
      rw [← epk]
      exact Nat.le_trans (Nat.pow_le_pow_right (by decide) (show k ≤ 15 by omega)) (by decide)
    have hpk0 : 0 < pk := by rw [← epk]; exact Nat.two_pow_pos k
    have hp : (2 : Int) ^ k % 4294967296 = (pk : Int) := by
      have : (2 : Int) ^ k = (pk : Int) := by rw [← epk]; simp
      rw [this]
      omega
    have HPK := hide epk
    have hmp : 0 < m * pk := Nat.mul_pos hm1 hpk0
    have HKP : Kept (m * pk) := ⟨Nat.lt_of_le_of_lt (Nat.mul_le_mul_left m (by omega : pk ≤ 65536)) HBB.out⟩
    have T := fun wt (hb : Below w.heap.size w wt) => timesD_any _ m pk wt (HA.out.below hb) HM.out (by omega)
    clear epk hpk0 hm1
    go_enter Tryz.func74, Tryz.ntmps74
    go_wp2_with (first
      | (at_make; refine wpList_make_full _ rfl _ _ 42 rfl w.heap.size 77 i _ 1 Tryz.underlying42 hi hz0 hz1 _ _ _ _ q rfl rfl (by first | rfl | omega) (by first | rfl | omega) (by rw [hz2]; omega) (by unfold maxLen; omega) (Nat.le_refl _) ?_; intro w1 o1 g1; have b1 : Below w.heap.size w w1 := (Below.refl _ _).grown g1 (Nat.le_refl _) (fun k e => by cases e))
      | (go_at_call 98; refine (T _ b1).mono ?_; rintro e w2 ⟨v, rfl, hv, fv, b2⟩
         obtain ⟨rb, ro, rc, rs, rfl, rr, rd, rn, rv⟩ := amt_pos hv hmp
         have hrl := len_big rn (by rw [rv]; exact HKP.out)
         have OW := own_kept2 (made_zero o1) b2
         have NW := rr.news
         have bs2 := b2.size
         have bs1 := b1.size)
      | (at_builtin; refine wpList_append_own _ rfl _ _ 42 rfl w.heap.size 77 i (.int .u16 0) 1 2 Tryz.underlying42 hi hz0 hz1 hz2 rfl (by decide) _ _ _ rfl OW ⟨rb, ro, none⟩ rs.length rc (dv rs) rfl (by rw [dv_length, Nat.mul_one]) NW (dv_ones rs) (by unfold maxLen; omega) (by omega) (by omega) ?_; intro v' w3 o3 g3 _
         have TR := trim_any v' (List.replicate q 0 ++ rs) w3 (row_of_owns (shl_row o3)) (digs_zeros rd)
         have b3 : Below w.heap.size w w3 := (b1.trans (b2.mono b1.size)).grown g3 (by omega) (fun k hk => by have h7 : some w.heap.size = some k := hk; have := Option.some.inj h7; omega))
      | (go_at_call 54; refine TR.mono ?_; rintro e w' ⟨v4, rfl, h4, f4, rfl⟩))
    go_ret
    refine ⟨_, rfl, ?_, b3⟩
    rw [valD_zeros, rv] at h4
    have e := shl_pow m n
    rw [EQ.out, EK.out, HPK.out] at e
    rw [← e]
    exact h4
end Go.Proofs.YtbengmceiaejeaaGreatDoor
/- Amounts: value, lenB, small. -/
namespace Go.Proofs.YtbengmceiaejeaaGreatDoor
open Go.ChangeShapes Go.WideShapes Go.ChangeAt Go.RowKit

theorem or_digit (A d : Nat) (hA : A < 281474976710656) (hd : d < 65536) : bits .or .u64 ((A : Int) * 65536) (d : Int) = ((d + 65536 * A : Nat) : Int) := by
  have h := u64_or (A * 65536) d (by omega) (by omega)
  rw [show ((A * 65536 : Nat) : Int) = (A : Int) * 65536 by simp] at h
  rw [h]
  have h1 : 2 ^ 16 * A + d = 2 ^ 16 * A ||| d := Nat.two_pow_add_eq_or_of_lt hd A
  congr 1
  rw [show A * 65536 = 2 ^ 16 * A by omega, ← h1]
  omega

theorem drop_le (ds : List Nat) (k : Nat) : valD (ds.drop k) ≤ valD ds := by
  have h := valD_append (ds.take k) (ds.drop k)
  rw [List.take_append_drop] at h
  have h1 : 1 * valD (ds.drop k) ≤ 65536 ^ (ds.take k).length * valD (ds.drop k) := Nat.mul_le_mul_right _ (Nat.pow_pos (by decide))
  omega

set_option maxHeartbeats 4000000 in
theorem value_any (a : Value) (m : Nat) (w : World) (ha : IsAmt w a m) (hm : m < 18446744073709551616) : Calls Tryz.prog 53 #[a] w fun e w' => e = .returned (.int .u64 (m : Int)) ∧ w' = w := by
  obtain ⟨xs, ra, da, na, hv⟩ := ha
  have hlen : xs.length ≤ 4 := by
    rcases Nat.lt_or_ge 4 xs.length with h | h
    · obtain ⟨k, hk⟩ : ∃ k, xs.length = k + 1 := ⟨xs.length - 1, by omega⟩
      have h2 := norm_low na hk
      have h3 : 65536 ^ 4 ≤ 65536 ^ k := Nat.pow_le_pow_right (by decide) (by omega)
      have h4 : (65536 : Nat) ^ 4 = 18446744073709551616 := by decide
      omega
    · exact h
  have RA := hide ra
  obtain ⟨ao, cap, rfl⟩ := ra.form
  have HVV := hide hv
  clear na ra hv
  obtain ⟨L, eL⟩ : ∃ L, xs.length = L := ⟨_, rfl⟩
  have HL := hide eL
  rw [eL] at RA hlen ⊢
  clear eL
  go_enter Tryz.func53, Tryz.ntmps53
  go_wp2
  go_loop [3, 4] (fun x ix => ∃ k : Nat, k ≤ L ∧ ix = .int .i64 ((k : Int) - 1) ∧ x = .int .u64 ((valD (xs.drop k) : Nat) : Int)) (fun _ ix => (intOf ix + 1).toNat)
  case atStart => exact ⟨L, Nat.le_refl _, by go_num, by rw [List.drop_of_length_le (by have := HL.out; omega)]; rfl⟩
  case round =>
    obtain ⟨k, hk, rfl, rfl⟩ := hrel
    cases k with
    | zero =>
      rw [List.drop_zero, HVV.out]
      go_wp2
      go_ret
      exact ⟨rfl, rfl⟩
    | succ k =>
      obtain ⟨b, off, hbs, rfl, hcell⟩ := RA.out.at HL.out (by omega)
      have hc := hcell k (by have := HL.out; omega)
      have hx := da.getD k
      have hdr := valD_drop xs k (by have := HL.out; omega)
      have hle := drop_le xs k
      rw [HVV.out] at hle
      obtain ⟨x, ex⟩ : ∃ x, xs.getD k 0 = x := ⟨_, rfl⟩
      rw [ex] at hc hx hdr
      have hix : ((k + 1 : Nat) : Int) - 1 = (k : Int) := by omega
      have hkL : k < L := by omega
      obtain ⟨A, eA⟩ : ∃ A, valD (xs.drop (k + 1)) = A := ⟨_, rfl⟩
      rw [eA] at hdr ⊢
      have hA : A < 281474976710656 := by omega
      have ho := or_digit A x hA hx
      have HDR := hide hdr
      clear hcell ex eA hdr hle
      go_wp2
      go_round
      case rel => exact ⟨k, by omega, by go_num, by rw [HDR.out]; simp⟩
      case measure => simp [intOf]

/-- How many binary digits. -/
def blen (m : Nat) : Nat := if m = 0 then 0 else m.log2 + 1

theorem blen_half {t : Nat} (h : 0 < t) : blen t = blen (t / 2) + 1 := by
  unfold blen
  rw [if_neg (by omega)]
  rw [Nat.log2_def]
  by_cases h2 : 2 ≤ t
  · rw [if_pos h2, if_neg (by omega)]
  · rw [if_neg h2, if_pos (by omega)]

theorem blen_top {low t k : Nat} (hl : low < 65536 ^ k) (ht : 0 < t) : blen (low + 65536 ^ k * t) = 16 * k + blen t := by
  have e : (65536 : Nat) ^ k = 2 ^ (16 * k) := by rw [show (65536 : Nat) = 2 ^ 16 by decide, ← Nat.pow_mul]
  rw [e] at hl ⊢
  have p := Nat.two_pow_pos (16 * k)
  obtain ⟨P, eP⟩ : ∃ P, 2 ^ (16 * k) = P := ⟨_, rfl⟩
  have h0 : t ≠ 0 := by omega
  have lo := (Nat.log2_eq_iff h0).1 rfl
  unfold blen
  have hne : low + 2 ^ (16 * k) * t ≠ 0 := by
    rw [eP] at p ⊢
    have := Nat.mul_pos p ht
    omega
  rw [if_neg hne, if_neg h0]
  have : (low + 2 ^ (16 * k) * t).log2 = 16 * k + t.log2 := by
    refine (Nat.log2_eq_iff hne).2 ⟨?_, ?_⟩
    · rw [Nat.pow_add]
      have := Nat.mul_le_mul_left (2 ^ (16 * k)) lo.1
      omega
    · rw [Nat.add_assoc, Nat.pow_add]
      have := Nat.mul_le_mul_left (2 ^ (16 * k)) (show t + 1 ≤ 2 ^ (t.log2 + 1) by omega)
      rw [Nat.mul_add, Nat.mul_one] at this
      omega
  omega

set_option maxHeartbeats 4000000 in
theorem lenB_any (a : Value) (m : Nat) (w : World) (ha : IsAmt w a m) (hm : m < BIG) : Calls Tryz.prog 72 #[a] w fun e w' => e = .returned (.int .i64 ((blen m : Nat) : Int)) ∧ w' = w := by
  obtain ⟨xs, ra, da, na, hv⟩ := ha
  have hlen := len_big na (by rw [hv]; exact hm)
  clear hm
  obtain ⟨ao, cap, rfl⟩ := ra.form
  cases hx : xs.length with
  | zero =>
    have : xs = [] := List.eq_nil_of_length_eq_zero hx
    subst this
    have hm0 : m = 0 := by rw [← hv]; rfl
    subst hm0
    clear ra hv
    go_enter Tryz.func72, Tryz.ntmps72
    go_wp2
    go_ret
    exact ⟨rfl, rfl⟩
  | succ l =>
    rw [hx] at ra
    obtain ⟨b, off, hbs, rfl, hcell⟩ := ra.at hx (by omega)
    have hc := hcell l (by omega)
    have ht := na l hx
    have hd := da.getD l
    have hs := valD_take_snoc xs l (by omega)
    rw [List.take_of_length_le (by omega), hv] at hs
    have hlow := valD_lt (da.take l)
    rw [List.length_take, Nat.min_eq_left (by omega)] at hlow
    obtain ⟨t, et⟩ : ∃ t, xs.getD l 0 = t := ⟨_, rfl⟩
    rw [et] at hc ht hd hs
    have HB : Hid (blen m = 16 * l + blen t) := hide (by rw [hs]; exact blen_top hlow (by omega))
    obtain ⟨M, eM⟩ : ∃ M, l + 1 = M := ⟨_, rfl⟩
    rw [eM]
    have hM0 : ((M : Int) == 0) = false := by simp; omega
    have hM1 : (M : Int) - 1 = (l : Int) := by omega
    have hM2 : l < M := by omega
    have hl4 : l ≤ 4000 := by omega
    clear ra da na hv hx hcell ht et eM hs hlow hlen
    go_enter Tryz.func72, Tryz.ntmps72
    go_wp2
    go_loop [3, 4] (fun n v => ∃ (s c : Nat), v = .int .u16 (s : Int) ∧ n = .int .i64 ((16 * l + c : Nat) : Int) ∧ s < 65536 ∧ c ≤ 100 ∧ blen s + c = blen t) (fun _ v => (intOf v).toNat)
    case atStart => exact ⟨t, 0, rfl, by go_num, hd, by omega, by omega⟩
    case round =>
      obtain ⟨s, c, rfl, rfl, hs, hc100, hbl⟩ := hrel
      have HBL := hide hbl
      clear hbl
      by_cases h0 : s = 0
      · subst h0
        go_wp2
        go_ret
        refine ⟨ret_int ?_, rfl⟩
        have h1 := HBL.out
        have h2 : blen 0 = 0 := rfl
        rw [HB.out]
        omega
      · have h1 := blen_half (t := s) (by omega)
        have hb16 : blen s + c = blen t := HBL.out
        have hbt : blen t ≤ 16 := by
          unfold blen
          by_cases ht0 : t = 0
          · rw [if_pos ht0]; omega
          · rw [if_neg ht0]
            have := (Nat.log2_lt ht0).2 (show t < 2 ^ 16 by omega)
            omega
        have HH := hide h1
        have hcc : c ≤ 16 := by omega
        clear h1 hb16 hbt
        go_wp2
        go_round
        case rel => exact ⟨s / 2, c + 1, by go_num, by go_num, by omega, by omega, by have := HH.out; have := HBL.out; omega⟩
        case measure => simp [intOf]; omega

theorem small_digits (x : Nat) (hx : x < 18446744073709551616) : valD [x % 65536, x / 65536 % 65536, x / 4294967296 % 65536, x / 281474976710656 % 65536] = x := by
  simp only [valD]
  omega

theorem small_any (x : Nat) (hx : x < 18446744073709551616) (w : World) : Calls Tryz.prog 24 #[.int .u64 (x : Int)] w fun e w' => ∃ v, e = .returned v ∧ IsAmt w' v x ∧ Below w.heap.size w w' ∧ (∀ g, v.ownBlock = some g → w.heap.size ≤ g) := by
  have w0 : IntKind.u16.wrap (x : Int) = ((x % 65536 : Nat) : Int) := by rw [IntKind.wrap_u16]; omega
  have w1 : IntKind.u16.wrap ((x : Int) / 65536) = ((x / 65536 % 65536 : Nat) : Int) := by rw [IntKind.wrap_u16]; omega
  have w2 : IntKind.u16.wrap ((x : Int) / 4294967296) = ((x / 4294967296 % 65536 : Nat) : Int) := by rw [IntKind.wrap_u16]; omega
  have w3 : IntKind.u16.wrap ((x : Int) / 281474976710656) = ((x / 281474976710656 % 65536 : Nat) : Int) := by rw [IntKind.wrap_u16]; omega
  have HS := hide (small_digits x hx)
  have h0 : x % 65536 < 65536 := by omega
  have h1 : x / 65536 % 65536 < 65536 := by omega
  have h2 : x / 4294967296 % 65536 < 65536 := by omega
  have h3 : x / 281474976710656 % 65536 < 65536 := by omega
  obtain ⟨d0, e0⟩ : ∃ d, x % 65536 = d := ⟨_, rfl⟩
  obtain ⟨d1, e1⟩ : ∃ d, x / 65536 % 65536 = d := ⟨_, rfl⟩
  obtain ⟨d2, e2⟩ : ∃ d, x / 4294967296 % 65536 = d := ⟨_, rfl⟩
  obtain ⟨d3, e3⟩ : ∃ d, x / 281474976710656 % 65536 = d := ⟨_, rfl⟩
  rw [e0] at w0 h0 HS
  rw [e1] at w1 h1 HS
  rw [e2] at w2 h2 HS
  rw [e3] at w3 h3 HS
  clear e0 e1 e2 e3
  have RW : Row (w.alloc (.cells #[.int .u16 (d0 : Int), .int .u16 (d1 : Int), .int .u16 (d2 : Int), .int .u16 (d3 : Int)] 77)) (.slice (some ⟨w.heap.size, 0, none⟩) 4 4) [d0, d1, d2, d3] := by
    refine Or.inr ⟨w.heap.size, 0, 4, rfl, by simp, Nat.le_refl _, by decide, fun j hj => ?_⟩
    have : j = 0 ∨ j = 1 ∨ j = 2 ∨ j = 3 := by simp at hj; omega
    rcases this with rfl | rfl | rfl | rfl <;> simp
  have TR := trim_any _ [d0, d1, d2, d3] _ RW (by intro d hd; simp at hd; rcases hd with rfl | rfl | rfl | rfl <;> assumption)
  have HR := hide RW
  clear RW
  go_enter Tryz.func24, Tryz.ntmps24
  go_wp2_with (go_at_call 54; refine TR.mono ?_; rintro e w' ⟨v4, rfl, h4, f4, rfl⟩)
  go_ret
  refine ⟨_, rfl, ?_, (Below.refl _ _).alloc (Nat.le_refl _) _, fun g hg => by have h7 : some w.heap.size = some g := f4 g hg; have := Option.some.inj h7; omega⟩
  rw [HS.out] at h4
  exact h4
end Go.Proofs.YtbengmceiaejeaaGreatDoor
/- Amounts: small facts that several walks share. -/
namespace Go.Proofs.YtbengmceiaejeaaGreatDoor
open Go.ChangeShapes Go.WideShapes Go.ChangeAt Go.RowKit

theorem big_of {M a : Nat} (h : M < 2 ^ a) (ha : a ≤ 64000) : M < BIG := by
  have e : BIG = 2 ^ (16 * K0) := by unfold BIG; rw [show (65536 : Nat) = 2 ^ 16 by decide, ← Nat.pow_mul]
  rw [e]
  exact Nat.lt_of_lt_of_le h (Nat.pow_le_pow_right (by decide) (by rw [K0_eq]; omega))

theorem mul_pow_lt {M l k : Nat} (h : M < 2 ^ l) : M * 2 ^ k < 2 ^ (l + k) := by
  rw [Nat.pow_add]
  exact Nat.mul_lt_mul_of_pos_right h (Nat.two_pow_pos k)

theorem row_digit (w : World) (t : TypeId) (d : Nat) : Row (w.alloc (.cells #[.int .u16 (d : Int)] t)) (.slice (some ⟨w.heap.size, 0, none⟩) 1 1) [d] := by
  refine Or.inr ⟨w.heap.size, 0, 1, rfl, by simp, Nat.le_refl _, by decide, fun j hj => ?_⟩
  have : j = 0 := by simp at hj; omega
  subst this
  simp

theorem amt_one (w : World) (t : TypeId) : IsAmt (w.alloc (.cells #[.int .u16 1] t)) (.slice (some ⟨w.heap.size, 0, none⟩) 1 1) 1 :=
  ⟨[1], row_digit w t 1, by intro d hd; simp at hd; omega, by intro k hk; simp at hk; subst hk; simp, by simp [valD]⟩
end Go.Proofs.YtbengmceiaejeaaGreatDoor
