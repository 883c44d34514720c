/- Amounts: addD. -/
import Derived.Test.YtbengmceiaejeaaGreatDoorBig2
namespace Go.Proofs.YtbengmceiaejeaaGreatDoor
open Go.ChangeShapes Go.WideShapes Go.ChangeAt Go.RowKit

theorem norm_of_ge {ds : List Nat} (hd : DigsOk ds) {k : Nat} (hk : ds.length = k + 1) (h : 65536 ^ k ≤ valD ds) : Norm ds := by
  intro j hj h0
  have hjk : j = k := by omega
  subst hjk
  have h1 := valD_take_snoc ds j (by omega)
  rw [List.take_of_length_le (by omega), h0, Nat.mul_zero, Nat.add_zero] at h1
  have h2 := valD_lt (hd.take j)
  rw [List.length_take, Nat.min_eq_left (by omega)] at h2
  omega

theorem add_norm {xs ys outs : List Nat} (na : Norm xs) (nb : Norm ys) (hd : DigsOk outs) (hv : valD outs = valD xs + valD ys) (hl : outs.length = max xs.length ys.length ∨ (outs.length = max xs.length ys.length + 1 ∧ 65536 ^ max xs.length ys.length ≤ valD xs + valD ys)) : Norm outs := by
  rcases hl with hl | ⟨hl, hg⟩
  · cases hk : outs.length with
    | zero => intro j hj; omega
    | succ k =>
      refine norm_of_ge hd hk ?_
      rw [hv]
      rcases Nat.le_total xs.length ys.length with h | h
      · have := norm_low nb (k := k) (by omega)
        omega
      · have := norm_low na (k := k) (by omega)
        omega
  · exact norm_of_ge hd hl (by rw [hv]; exact hg)

theorem add_step {X Y O p x y cy d cy' : Nat} (h : O + p * cy = X + Y) (hd : d + 65536 * cy' = cy + x + y) : O + p * d + p * 65536 * cy' = X + p * x + (Y + p * y) := by
  have h1 : p * (d + 65536 * cy') = p * (cy + x + y) := by rw [hd]
  rw [Nat.mul_add, Nat.mul_add, Nat.mul_add, ← Nat.mul_assoc p 65536] at h1
  omega

set_option maxHeartbeats 8000000 in
theorem addD_any (a b : Value) (m n : Nat) (w : World) (ha : IsAmt w a m) (hb : IsAmt w b n) (hm : m < BIG) (hn : n < BIG) : Calls Tryz.prog 49 #[a, b] w fun e w' => ∃ v, e = .returned v ∧ IsAmt w' v (m + n) ∧ (∀ g, v.ownBlock = some g → w.heap.size ≤ g) ∧ Below w.heap.size w w' := by
  obtain ⟨xs, ra, da, na, rfl⟩ := ha
  obtain ⟨ys, rb, db, nb, rfl⟩ := hb
  have hl1 := len_big na hm
  have hl2 := len_big nb hn
  obtain ⟨i, hi, hz0, hz1, hz2⟩ := info_parts info16
  have RA := hide ra
  have RB := hide rb
  obtain ⟨ao, cap, rfl⟩ := ra.form
  obtain ⟨bo, cap2, rfl⟩ := rb.form
  have NO := hide (fun outs => add_norm (outs := outs) na nb)
  clear hm hn na ra rb nb
  obtain ⟨L, eL⟩ : ∃ L, xs.length = L := ⟨_, rfl⟩
  obtain ⟨M, eM⟩ : ∃ M, ys.length = M := ⟨_, rfl⟩
  have HL := hide eL
  have HM := hide eM
  rw [eL] at RA hl1 NO
  rw [eM] at RB hl2 NO
  rw [eL, eM]
  clear eL eM
  go_enter Tryz.func49, Tryz.ntmps49
  go_wp2
  go_loopw [5, 6, 7] (fun out c k wr => ∃ (j cy : Nat) (outs : List Nat), (j ≤ max L M ∨ (j = max L M + 1 ∧ cy = 0 ∧ 65536 ^ max L M ≤ valD xs + valD ys)) ∧ k = .int .i64 (j : Int) ∧ c = .int .u32 (cy : Int) ∧ cy ≤ 1 ∧ outs.length = j ∧ wr.ownsRow w.heap.size 77 1 out outs.length (dv outs) ∧ DigsOk outs ∧ valD outs + 65536 ^ j * cy = valD (xs.take j) + valD (ys.take j) ∧ Below w.heap.size w wr) (fun _ _ k _ => max L M + 2 - (intOf k).toNat)
  case atStart => exact ⟨0, 0, [], Or.inl (Nat.zero_le _), rfl, rfl, by omega, rfl, World.ownsRow_nil _ _ _ _, digs_nil, by simp [valD], Below.refl _ _⟩
  case round =>
    obtain ⟨j, cy, outs, hj, rfl, rfl, hcy, ho, hown, hdo, hval, bw⟩ := hrel
    have HJ := hide hj
    have HV := hide hval
    have HO := hide ho
    have HW := hide hown
    have HD := hide hdo
    have hj2 : j ≤ 4001 := by omega
    clear hval ho hown hdo hj
    have hsz := bw.size
    have hol : outs.length ≤ 4001 := by have := HO.out; omega
    have hx := da.getD j
    have hy := db.getD j
    have tx := valD_take_all xs j
    have ty := valD_take_all ys j
    obtain ⟨x, ex⟩ : ∃ x, xs.getD j 0 = x := ⟨_, rfl⟩
    obtain ⟨y, ey⟩ : ∃ y, ys.getD j 0 = y := ⟨_, rfl⟩
    rw [ex] at hx tx
    rw [ey] at hy ty
    have HX := hide tx
    have HY := hide ty
    have EX := hide ex
    have EY := hide ey
    have rel : ∀ (d cy' : Nat), d < 65536 → cy' ≤ 1 → d + 65536 * cy' = cy + x + y → (j < max L M ∨ (j = max L M ∧ cy' = 0 ∧ 65536 ^ max L M ≤ valD xs + valD ys)) → ∀ (v' : Value) (w2 : World), w2.ownsRow w.heap.size 77 1 v' (outs ++ [d]).length (dv (outs ++ [d])) → Below w.heap.size w w2 → ∃ (j' cy'' : Nat) (outs' : List Nat), (j' ≤ max L M ∨ (j' = max L M + 1 ∧ cy'' = 0 ∧ 65536 ^ max L M ≤ valD xs + valD ys)) ∧ (.int .i64 ((j : Int) + 1) : Value) = .int .i64 (j' : Int) ∧ (.int .u32 (cy' : Int) : Value) = .int .u32 (cy'' : Int) ∧ cy'' ≤ 1 ∧ outs'.length = j' ∧ w2.ownsRow w.heap.size 77 1 v' outs'.length (dv outs') ∧ DigsOk outs' ∧ valD outs' + 65536 ^ j' * cy'' = valD (xs.take j') + valD (ys.take j') ∧ Below w.heap.size w w2 := by
      intro d cy' hd hcy' hxy hjj v' w2 o2 b2
      refine ⟨j + 1, cy', outs ++ [d], by omega, by go_num, rfl, hcy', by simp [HO.out], o2, HD.out.snoc hd, ?_, b2⟩
      rw [HX.out, HY.out, valD_append, HO.out, show valD [d] = d by simp [valD], Nat.pow_succ]
      exact add_step HV.out hxy
    have REL := hide rel
    clear tx ty rel ex ey
    have fin : max L M ≤ j → cy = 1 → j = max L M ∧ 65536 ^ max L M ≤ valD xs + valD ys := by
      intro h1 h2
      have h3 : j = max L M := by have := HJ.out; omega
      refine ⟨h3, ?_⟩
      have hv := HV.out
      rw [List.take_of_length_le (by have := HL.out; omega), List.take_of_length_le (by have := HM.out; omega), h2, Nat.mul_one, h3] at hv
      omega
    have FIN := hide fin
    clear fin
    have x0 : ¬ j < L → x = 0 := fun h => by rw [← EX.out, List.getD_eq_getElem?_getD, List.getElem?_eq_none (by have := HL.out; omega)]; rfl
    have y0 : ¬ j < M → y = 0 := fun h => by rw [← EY.out, List.getD_eq_getElem?_getD, List.getElem?_eq_none (by have := HM.out; omega)]; rfl
    have cA : j < L → ∃ b1 off1, ao = some ⟨b1, off1, none⟩ ∧ (∀ wr, Below w.heap.size w wr → wr.cell? ⟨b1, off1 + j, none⟩ = some (.int .u16 (x : Int))) := by
      intro h
      obtain ⟨b1, off1, hbs1, h1, hcell1⟩ := RA.out.at HL.out (by omega)
      have hc1 := hcell1 j (by have := HL.out; omega)
      rw [EX.out] at hc1
      exact ⟨b1, off1, h1, fun wr hb => (hb.cell (p := ⟨b1, off1 + j, none⟩) hbs1).trans hc1⟩
    have cB : j < M → ∃ b1 off1, bo = some ⟨b1, off1, none⟩ ∧ (∀ wr, Below w.heap.size w wr → wr.cell? ⟨b1, off1 + j, none⟩ = some (.int .u16 (y : Int))) := by
      intro h
      obtain ⟨b1, off1, hbs1, h1, hcell1⟩ := RB.out.at HM.out (by omega)
      have hc1 := hcell1 j (by have := HM.out; omega)
      rw [EY.out] at hc1
      exact ⟨b1, off1, h1, fun wr hb => (hb.cell (p := ⟨b1, off1 + j, none⟩) hbs1).trans hc1⟩
    have CA := hide cA
    have CB := hide cB
    clear cA cB
    by_cases hL : j < L
    · obtain ⟨b1, off1, rfl, hc1⟩ := CA.out hL
      have hc1 := hc1 _ bw
      by_cases hM : j < M
      · obtain ⟨b2, off2, rfl, hc2⟩ := CB.out hM
        have hc2 := hc2 _ bw
        clear CA CB x0 y0 FIN
        go_wp2_with (at_builtin; refine wpList_append_own _ rfl _ _ 42 rfl w.heap.size 77 i (.int .u16 0) 1 2 Tryz.underlying42 hi hz0 hz1 hz2 rfl (by decide) _ _ _ rfl (HW.out.alloc _) ⟨_, 0, none⟩ 1 1 [.int .u16 _] rfl rfl (cell_one_new _ _ _) (by simp [Value.oneCell']) (by unfold maxLen; omega) (by omega) (by simp; omega) ?_; intro v' w2 o2 g2 _)
        go_roundw
        case rel =>
          have hz : IntKind.u16.wrap ((cy : Int) + x + y) = (((cy + x + y) % 65536 : Nat) : Int) := by rw [IntKind.wrap_u16]; omega
          have hc : ((cy : Int) + x + y) / 65536 = (((cy + x + y) / 65536 : Nat) : Int) := by omega
          rw [hc]
          exact REL.out ((cy + x + y) % 65536) ((cy + x + y) / 65536) (by omega) (by omega) (by omega) (Or.inl (by omega)) _ _ (sub_row hz o2) ((bw.alloc (by omega) _).grown g2 (by simp; omega) (fun k hk => (HW.out.lt k hk).1))
        case measure => simp [intOf]; omega
      · have hy0 := y0 hM
        subst hy0
        clear CA CB x0 y0 FIN
        go_wp2_with (at_builtin; refine wpList_append_own _ rfl _ _ 42 rfl w.heap.size 77 i (.int .u16 0) 1 2 Tryz.underlying42 hi hz0 hz1 hz2 rfl (by decide) _ _ _ rfl (HW.out.alloc _) ⟨_, 0, none⟩ 1 1 [.int .u16 _] rfl rfl (cell_one_new _ _ _) (by simp [Value.oneCell']) (by unfold maxLen; omega) (by omega) (by simp; omega) ?_; intro v' w2 o2 g2 _)
        go_roundw
        case rel =>
          have hz : IntKind.u16.wrap ((cy : Int) + x) = (((cy + x) % 65536 : Nat) : Int) := by rw [IntKind.wrap_u16]; omega
          have hc : ((cy : Int) + x) / 65536 = (((cy + x) / 65536 : Nat) : Int) := by omega
          rw [hc]
          exact REL.out ((cy + x) % 65536) ((cy + x) / 65536) (by omega) (by omega) (by omega) (Or.inl (by omega)) _ _ (sub_row hz o2) ((bw.alloc (by omega) _).grown g2 (by simp; omega) (fun k hk => (HW.out.lt k hk).1))
        case measure => simp [intOf]; omega
    · have hx0 := x0 hL
      subst hx0
      by_cases hM : j < M
      · obtain ⟨b2, off2, rfl, hc2⟩ := CB.out hM
        have hc2 := hc2 _ bw
        clear CA CB x0 y0 FIN
        go_wp2_with (at_builtin; refine wpList_append_own _ rfl _ _ 42 rfl w.heap.size 77 i (.int .u16 0) 1 2 Tryz.underlying42 hi hz0 hz1 hz2 rfl (by decide) _ _ _ rfl (HW.out.alloc _) ⟨_, 0, none⟩ 1 1 [.int .u16 _] rfl rfl (cell_one_new _ _ _) (by simp [Value.oneCell']) (by unfold maxLen; omega) (by omega) (by simp; omega) ?_; intro v' w2 o2 g2 _)
        go_roundw
        case rel =>
          have hz : IntKind.u16.wrap ((cy : Int) + y) = (((cy + y) % 65536 : Nat) : Int) := by rw [IntKind.wrap_u16]; omega
          have hc : ((cy : Int) + y) / 65536 = (((cy + y) / 65536 : Nat) : Int) := by omega
          rw [hc]
          exact REL.out ((cy + y) % 65536) ((cy + y) / 65536) (by omega) (by omega) (by omega) (Or.inl (by omega)) _ _ (sub_row hz o2) ((bw.alloc (by omega) _).grown g2 (by simp; omega) (fun k hk => (HW.out.lt k hk).1))
        case measure => simp [intOf]; omega
      · have hy0 := y0 hM
        subst hy0
        clear CA CB x0 y0
        rcases (show cy = 1 ∨ cy = 0 by omega) with rfl | rfl
        · have F := hide (FIN.out (by omega) rfl)
          go_wp2_with (at_builtin; refine wpList_append_own _ rfl _ _ 42 rfl w.heap.size 77 i (.int .u16 0) 1 2 Tryz.underlying42 hi hz0 hz1 hz2 rfl (by decide) _ _ _ rfl (HW.out.alloc _) ⟨_, 0, none⟩ 1 1 [.int .u16 _] rfl rfl (cell_one_new _ _ _) (by simp [Value.oneCell']) (by unfold maxLen; omega) (by omega) (by simp; omega) ?_; intro v' w2 o2 g2 _)
          go_roundw
          case rel => exact REL.out 1 0 (by omega) (by omega) (by omega) (Or.inr ⟨F.out.1, rfl, F.out.2⟩) _ _ (times_row2 o2) ((bw.alloc (by omega) _).grown g2 (by simp; omega) (fun k hk => (HW.out.lt k hk).1))
          case measure => have := F.out.1; simp [intOf]; omega
        · go_wp2
          go_ret
          have hv := HV.out
          rw [List.take_of_length_le (by have := HL.out; omega), List.take_of_length_le (by have := HM.out; omega), Nat.mul_zero, Nat.add_zero] at hv
          refine ⟨_, rfl, ⟨outs, row_of_owns HW.out, HD.out, NO.out outs HD.out hv ?_, hv⟩, fun g hg => (HW.out.lt g hg).1, bw⟩
          have h1 := HJ.out
          have h2 := HO.out
          rcases h1 with h1 | ⟨h1, _, h3⟩
          · left; omega
          · right; exact ⟨by omega, h3⟩
end Go.Proofs.YtbengmceiaejeaaGreatDoor
