/- Amounts: divD. -/
import Derived.Test.YtiglacchpmooeaaGreatDoorBig3
namespace Go.Proofs.YtiglacchpmooeaaGreatDoor
open Go.ChangeShapes Go.WideShapes Go.ChangeAt Go.RowKit

theorem valD_drop (ds : List Nat) (k : Nat) (h : k < ds.length) : valD (ds.drop k) = ds.getD k 0 + 65536 * valD (ds.drop (k + 1)) := by
  rw [List.drop_eq_getElem_cons h]
  simp [valD, List.getD, h]

theorem div_step {A n x : Nat} (hn : 0 < n) : (x + 65536 * A) / n = (x + 65536 * (A % n)) / n + 65536 * (A / n) ∧ (x + 65536 * A) % n = (x + 65536 * (A % n)) % n := by
  have h := Nat.div_add_mod A n
  have e : x + 65536 * A = (x + 65536 * (A % n)) + n * (65536 * (A / n)) := by
    have : n * (65536 * (A / n)) = 65536 * (n * (A / n)) := by rw [← Nat.mul_assoc, Nat.mul_comm n, Nat.mul_assoc]
    omega
  rw [e, Nat.add_mul_div_left _ _ hn, Nat.add_mul_mod_self_left]
  exact ⟨rfl, rfl⟩

theorem valD_set_drop (qs : List Nat) (k d : Nat) (h : k < qs.length) : valD ((qs.set k d).drop k) = d + 65536 * valD (qs.drop (k + 1)) := by
  rw [valD_drop _ k (by simpa using h)]
  congr 1
  · simp [List.getD, h]
  · rw [List.drop_set_of_lt (by omega)]

theorem own_one {w : World} {x : Value} {e : TypeId} (h1 : 1 ≤ maxLen) : (w.alloc (.cells #[x] e)).ownsRow w.heap.size e 1 (.slice (some ⟨w.heap.size, 0, none⟩) 1 1) 1 [x] :=
  ⟨by simp, .inr ⟨w.heap.size, 1, #[x], rfl, Nat.le_refl _, heap_alloc_new w _, Nat.le_refl _, h1, rfl, by simp⟩⟩

theorem dv_set (qs : List Nat) (k d : Nat) : (dv qs).set k (.int .u16 (d : Int)) = dv (qs.set k d) := by
  simp [dv, List.map_set]

theorem Row.alloc {w : World} {v : Value} {ds : List Nat} (h : Row w v ds) (o : Obj) : Row (w.alloc o) v ds :=
  h.below ((Below.refl _ _).alloc (Nat.le_refl _) o)

theorem Row.news {w : World} {b off cap : Nat} {ds : List Nat} (h : Row w (.slice (some ⟨b, off, none⟩) ds.length cap) ds) : ∀ j u, (dv ds)[j]? = some u → w.cell? ((⟨b, off, none⟩ : Addr).add j) = some u := by
  intro j u hu
  have hj : j < ds.length := by
    have := (List.getElem?_eq_some_iff.1 hu).1
    rwa [dv_length] at this
  obtain ⟨b', off', _, e, hc⟩ := h.at rfl (by omega)
  cases e
  rw [Addr.add_lit, hc j hj, ← hu]
  simp [dv, List.getD, hj]

theorem dv_ones (ds : List Nat) : ∀ u ∈ dv ds, u.oneCell' = true := by
  intro u hu
  obtain ⟨_, _, rfl⟩ := List.mem_map.1 hu
  rfl

/-- A store elsewhere leaves a row as it is. -/
theorem Row.setCell {w : World} {v : Value} {ds : List Nat} (h : Row w v ds) {Q k : Nat} {u : Value} (hQ : ∀ g, v.ownBlock = some g → g ≠ Q) : Row (w.setCell ⟨Q, k, none⟩ u) v ds := by
  rcases h with h | ⟨b, off, cap, h1, h2, h3, h4, h5⟩
  · exact Or.inl h
  · refine Or.inr ⟨b, off, cap, h1, by simpa [World.setCell] using h2, h3, h4, fun j hj => ?_⟩
    have hne : b ≠ Q := hQ b (by rw [h1]; rfl)
    rw [World.cell?_of_block (w := w) (Below.heap_setCell w ⟨Q, k, none⟩ u b hne)]
    exact h5 j hj

theorem IsAmt.setCell {w : World} {v : Value} {n : Nat} (h : IsAmt w v n) {Q k : Nat} {u : Value} (hQ : ∀ g, v.ownBlock = some g → g ≠ Q) : IsAmt (w.setCell ⟨Q, k, none⟩ u) v n := by
  obtain ⟨ds, h1, h2⟩ := h
  exact ⟨ds, h1.setCell hQ, h2⟩

theorem own_kept2 {W W' : World} {B e size n : Nat} {v : Value} {xs : List Value} (h : W.ownsRow B e size v n xs) (hb : Below W.heap.size W W') : W'.ownsRow B e size v n xs :=
  h.kept (row := none) ⟨hb.os, hb.tape, hb.output, hb.size, fun k hk _ => hb.block k hk⟩ (Classical.em _)

theorem set_size (w : World) (a : Addr) (u : Value) : (w.setCell a u).heap.size = w.heap.size := by simp [World.setCell]

theorem dv_at (qs : List Nat) (k : Nat) (h : k < qs.length) : (dv qs)[k]? = some (.int .u16 ((qs.getD k 0 : Nat) : Int)) := by
  simp [dv, List.getD, h]

theorem app_row {w : World} {B e : Nat} {v : Value} {x : Nat} {rs : List Nat} (o : w.ownsRow B e 1 v (1 + rs.length) ([Value.int .u16 (x : Int)] ++ dv rs)) : w.ownsRow B e 1 v (x :: rs).length (dv (x :: rs)) := by
  rw [Nat.add_comm] at o
  exact o

set_option maxHeartbeats 8000000 in
theorem divD_any (a b : Value) (m n : Nat) (w : World) (ha : IsAmt w a m) (hb : IsAmt w b n) (hm : m < BIG) (hn : n < BIG) (hn0 : 0 < n) :
    Calls Tryz.prog 35 #[a, b] w fun e w' => ∃ v r, e = .returned (.tuple #[v, r]) ∧ IsAmt w' v (m / n) ∧ IsAmt w' r (m % n) ∧ Below w.heap.size w w' := by
  obtain ⟨xs, ra, da, na, rfl⟩ := ha
  have hlen := len_big na hm
  have HX : Hid (∀ k, valD (xs.drop k) < BIG) := by
    refine hide fun k => Nat.lt_of_le_of_lt ?_ hm
    have h := valD_append (xs.take k) (xs.drop k)
    rw [List.take_append_drop] at h
    have h1 : 1 * valD (xs.drop k) ≤ 65536 ^ (xs.take k).length * valD (xs.drop k) := Nat.mul_le_mul_right _ (Nat.pow_pos (by decide))
    omega
  obtain ⟨i, hi, hz0, hz1, hz2⟩ := info_parts info16
  have HB := hide hb
  have HN := hide hn
  have RA := hide ra
  obtain ⟨ao, cap, rfl⟩ := ra.form
  clear hm na ra hb hn
  obtain ⟨L, eL⟩ : ∃ L, xs.length = L := ⟨_, rfl⟩
  have HL := hide eL
  rw [eL] at RA hlen ⊢
  clear eL
  go_enter Tryz.func35, Tryz.ntmps35
  go_wp2_with (at_make; refine wpList_make_full _ rfl _ _ 39 rfl w.heap.size 54 i _ 1 Tryz.underlying39 hi hz0 hz1 _ _ _ _ L rfl rfl rfl rfl (by rw [hz2]; omega) (by unfold maxLen; omega) (Nat.le_refl _) ?_; intro w1 o1 g1)
  have o1' : w1.ownsRow w.heap.size 54 1 (.slice (some ⟨w.heap.size, 0, none⟩) L L) L (dv (List.replicate L 0)) := by
    have e : (madeCells (Value.int IntKind.u16 0).cells (L * 1)).toList = dv (List.replicate L 0) := by
      rw [Nat.mul_one]
      exact (toList_madeCells_one (.int .u16 0) L).trans (by simp [dv])
    rw [e] at o1
    exact o1
  have b1 : Below w.heap.size w w1 := (Below.refl _ _).grown g1 (Nat.le_refl _) (fun k e => by cases e)
  clear o1 g1
  have HO1 := hide o1'
  clear o1'
  go_loopw [7, 8] (fun rest ix wr => ∃ (k : Nat) (qs : List Nat), k ≤ L ∧ ix = .int .i64 ((k : Int) - 1) ∧ IsAmt wr rest (valD (xs.drop k) % n) ∧ (∀ g, rest.ownBlock = some g → g ≠ w.heap.size) ∧ wr.ownsRow w.heap.size 54 1 (.slice (some ⟨w.heap.size, 0, none⟩) L L) L (dv qs) ∧ qs.length = L ∧ DigsOk qs ∧ valD (qs.drop k) = valD (xs.drop k) / n ∧ (∀ j, j < k → qs.getD j 0 = 0) ∧ Below w.heap.size w wr ∧ w.heap.size < wr.heap.size) (fun _ ix _ => (intOf ix + 1).toNat)
  case atStart =>
    have hl := HL.out
    refine ⟨L, List.replicate L 0, Nat.le_refl _, by go_num, ?_, (fun g h => by cases h), HO1.out, by simp, ?_, ?_, ?_, b1, (HO1.out.lt _ rfl).2⟩
    · rw [List.drop_of_length_le (by omega)]
      exact ⟨[], Or.inl ⟨rfl, rfl⟩, digs_nil, norm_nil, by simp [valD]⟩
    · intro d hd
      rw [List.mem_replicate] at hd
      omega
    · have d1 : xs.drop L = [] := List.drop_of_length_le (by omega)
      have d2 : (List.replicate L 0).drop L = [] := by simp
      rw [d1, d2]
      simp [valD]
    · intro j hj
      simp [List.getD, hj]
  case round =>
    obtain ⟨k, qs, hk, rfl, hrest, hfr, hown, hql, hqd, hqv, hqz, bw, hQ⟩ := hrel
    have HW := hide hown
    have HQL := hide hql
    have HQD := hide hqd
    have HQV := hide hqv
    have HQZ := hide hqz
    have HFR := hide hfr
    have HRE := hide hrest
    clear hown hql hqd hqv hqz hrest hfr
    cases k with
    | zero =>
      have TR := trim_any _ qs wr (row_of_owns (ds := qs) (by rw [HQL.out]; exact HW.out)) HQD.out
      go_wp2_with (go_at_call 60; refine TR.mono ?_; rintro e w' ⟨v3, rfl, h3, f3, rfl⟩)
      go_ret2
      have hv := HQV.out
      rw [List.drop_zero, List.drop_zero] at hv
      rw [hv] at h3
      have hr := HRE.out
      rw [List.drop_zero] at hr
      exact ⟨_, _, rfl, h3, hr, bw⟩
    | succ k =>
      obtain ⟨b1', off, hbs, rfl, hcell⟩ := RA.out.at HL.out (by omega)
      have hc := hcell k (by have := HL.out; omega)
      rw [← bw.cell (p := ⟨b1', off + k, none⟩) hbs] at hc
      have hx := da.getD k
      have hdr := valD_drop xs k (by have := HL.out; omega)
      have hbig := HX.out k
      obtain ⟨x, ex⟩ : ∃ x, xs.getD k 0 = x := ⟨_, rfl⟩
      rw [ex] at hc hx hdr
      have hix : ((k + 1 : Nat) : Int) - 1 = (k : Int) := by omega
      have hkL : k < L := by omega
      obtain ⟨A, eA⟩ : ∃ A, valD (xs.drop (k + 1)) = A := ⟨_, rfl⟩
      rw [eA] at HRE HQV hdr
      have HDR := hide hdr
      have st := div_step (A := A) (x := x) hn0
      have HST := hide st
      rw [hdr] at hbig
      have hRl : x + 65536 * (A % n) ≤ x + 65536 * A := by have := Nat.mod_le A n; omega
      have hRn : x + 65536 * (A % n) < 65536 * n := by have := Nat.mod_lt A hn0; omega
      obtain ⟨R, eR⟩ : ∃ R, x + 65536 * (A % n) = R := ⟨_, rfl⟩
      rw [eR] at hRl hRn HST
      have HRB : Hid (R < BIG) := hide (by omega)
      obtain ⟨rs, rr, rd, rn, rv⟩ := HRE.out
      have hrl := len_big rn (by rw [rv]; have := Nat.mod_le A n; omega)
      have HRR := hide rr
      have HRV : Hid (valD (x :: rs) = R) := hide (by simp only [valD]; rw [rv]; exact eR)
      have HRD : Hid (DigsOk (x :: rs)) := hide (by intro d hd; simp at hd; rcases hd with rfl | hd; exact hx; exact rd d hd)
      have hw1 := IntKind.wrap_u16 (x : Int)
      clear hcell ex eA hdr st hbig eR rr rd rn rv
      rcases HRR.out with ⟨e0, e1⟩ | ⟨rb, ro, rc, e0, hrb, hrc, hrm, hrcell⟩
      · subst e0
        subst e1
        have OO := own_one (w := wr) (x := .int .u16 (x : Int)) (e := 54) (by decide)
        have hap : ∀ ty, (Builtin.append_ #[39, 39] ty #[.slice (some ⟨wr.heap.size, 0, none⟩) 1 1, .slice none 0 0]).run Tryz.prog (wr.alloc (.cells #[.int .u16 (x : Int)] 54)) = .ok (.slice (some ⟨wr.heap.size, 0, none⟩) 1 1) (wr.alloc (.cells #[.int .u16 (x : Int)] 54)) := fun ty => run_append_owned_none _ wr.heap.size 39 ty 54 i 1 Tryz.underlying39 hi _ 1 _ OO
        have TR := trim_any _ [x] _ (row_of_owns (ds := [x]) OO) HRD.out
        have BT : Below w.heap.size w (wr.alloc (.cells #[.int .u16 (x : Int)] 54)) := bw.alloc (by omega) _
        have OT := HW.out.alloc (.cells #[.int .u16 (x : Int)] 54)
        have HQ2 : w.heap.size < (wr.alloc (.cells #[.int .u16 (x : Int)] 54)).heap.size := by simp; omega
        go_wp2_with (first
          | (go_at_call 60; refine TR.mono ?_; rintro e wt ⟨v3, rfl, h3, f3, rfl⟩; rw [HRV.out] at h3; have DG := digit_any v3 b R n _ h3 (HB.out.below BT) HRB.out HN.out hRn)
          | (go_at_call 61; refine DG.mono ?_; rintro e w4 ⟨v4, rfl, h4, f4, b4⟩
             have OW := (own_kept2 OT b4)
             have SC := (OW.cellAt k (by omega)).trans (dv_at qs k (by have := HQL.out; omega))
             have SF := OW.frozenAt k
             have SW := OW.stored k (.int .u16 ((R / n : Nat) : Int))
             have SB : Below w.heap.size w (w4.setCell ⟨w.heap.size, k, none⟩ (.int .u16 ((R / n : Nat) : Int))) := (BT.trans (b4.mono BT.size)).setCell (Nat.le_refl _) _
             have SQ : w.heap.size < (w4.setCell ⟨w.heap.size, k, none⟩ (.int .u16 ((R / n : Nat) : Int))).heap.size := by rw [set_size]; exact Nat.lt_of_lt_of_le HQ2 b4.size))
        go_roundw
        case rel =>
          refine ⟨k, qs.set k (R / n), by omega, by go_num, ?_, ?_, (by rw [← dv_set]; exact SW.1), by simp [HQL.out], ?_, ?_, ?_, SB, SQ⟩
          · rw [HDR.out, HST.out.2]
            exact h4.setCell fun g hg => by have := f4 g hg; omega
          · intro g hg
            have := f4 g hg
            omega
          · intro d hd
            rcases List.mem_or_eq_of_mem_set hd with h | h
            · exact HQD.out d h
            · rw [h]; exact (Nat.div_lt_iff_lt_mul hn0).2 hRn
          · rw [valD_set_drop qs k _ (by have := HQL.out; omega), HQV.out, HDR.out, HST.out.1]
          · intro j hj
            rw [List.getD_eq_getElem?_getD, List.getElem?_set_ne (by omega), ← List.getD_eq_getElem?_getD]
            exact HQZ.out j (by omega)
        case measure => simp [intOf]
      · have OO := own_one (w := wr) (x := .int .u16 (x : Int)) (e := 54) (by decide)
        have HNW := hide (Row.news ((e0 ▸ HRR.out).alloc (.cells #[.int .u16 (x : Int)] 54)))
        subst e0
        clear hrcell
        go_wp2_with (first
          | (at_builtin; refine wpList_append_own _ rfl _ _ 39 rfl wr.heap.size 54 i (.int .u16 0) 1 2 Tryz.underlying39 hi hz0 hz1 hz2 rfl (by decide) _ _ _ rfl OO ⟨rb, ro, none⟩ rs.length rc (dv rs) rfl (by rw [dv_length, Nat.mul_one]) HNW.out (dv_ones rs) (by unfold maxLen; omega) (by omega) (by simp) ?_; intro v' w2 o2 g2 _
             have TR := trim_any v' (x :: rs) w2 (row_of_owns (app_row o2)) HRD.out
             have BT : Below w.heap.size w w2 := (bw.alloc (by omega) _).grown g2 (by simp; omega) (fun k hk => by have h7 : some wr.heap.size = some k := hk; have := Option.some.inj h7; omega)
             have OT := (HW.out.alloc (.cells #[.int .u16 (x : Int)] 54)).kept g2 (Or.inr (fun e => by have h7 : some w.heap.size = some wr.heap.size := e; have := Option.some.inj h7; omega))
             have HQ2 : w.heap.size < w2.heap.size := by have := g2.size; simp at this; omega)
          | (go_at_call 60; refine TR.mono ?_; rintro e wt ⟨v3, rfl, h3, f3, rfl⟩; rw [HRV.out] at h3; have DG := digit_any v3 b R n _ h3 (HB.out.below BT) HRB.out HN.out hRn)
          | (go_at_call 61; refine DG.mono ?_; rintro e w4 ⟨v4, rfl, h4, f4, b4⟩
             have OW := (own_kept2 OT b4)
             have SC := (OW.cellAt k (by omega)).trans (dv_at qs k (by have := HQL.out; omega))
             have SF := OW.frozenAt k
             have SW := OW.stored k (.int .u16 ((R / n : Nat) : Int))
             have SB : Below w.heap.size w (w4.setCell ⟨w.heap.size, k, none⟩ (.int .u16 ((R / n : Nat) : Int))) := (BT.trans (b4.mono BT.size)).setCell (Nat.le_refl _) _
             have SQ : w.heap.size < (w4.setCell ⟨w.heap.size, k, none⟩ (.int .u16 ((R / n : Nat) : Int))).heap.size := by rw [set_size]; exact Nat.lt_of_lt_of_le HQ2 b4.size))
        go_roundw
        case rel =>
          refine ⟨k, qs.set k (R / n), by omega, by go_num, ?_, ?_, (by rw [← dv_set]; exact SW.1), by simp [HQL.out], ?_, ?_, ?_, SB, SQ⟩
          · rw [HDR.out, HST.out.2]
            exact h4.setCell fun g hg => by have := f4 g hg; omega
          · intro g hg
            have := f4 g hg
            omega
          · intro d hd
            rcases List.mem_or_eq_of_mem_set hd with h | h
            · exact HQD.out d h
            · rw [h]; exact (Nat.div_lt_iff_lt_mul hn0).2 hRn
          · rw [valD_set_drop qs k _ (by have := HQL.out; omega), HQV.out, HDR.out, HST.out.1]
          · intro j hj
            rw [List.getD_eq_getElem?_getD, List.getElem?_set_ne (by omega), ← List.getD_eq_getElem?_getD]
            exact HQZ.out j (by omega)
        case measure => simp [intOf]
end Go.Proofs.YtiglacchpmooeaaGreatDoor
