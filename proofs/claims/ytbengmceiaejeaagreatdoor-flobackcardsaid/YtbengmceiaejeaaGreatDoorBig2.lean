/- Amounts: timesD and subD. -/
import Derived.Test.YtbengmceiaejeaaGreatDoorBig1
import Derived.OwnWalk
import Derived.WalkSmall
import Derived.Maps.AppendAt
namespace Go.Proofs.YtbengmceiaejeaaGreatDoor
open Go.ChangeShapes Go.WideShapes Go.ChangeAt Go.RowKit

theorem info16 : (Tryz.prog.info? 77).map (fun i => (i.zero, i.size, i.bytes)) = some (some (.int .u16 0), 1, 2) := by kernel_rfl

/-- Digits as values. -/
def dv (ds : List Nat) : List Value := ds.map fun (d : Nat) => Value.int .u16 (d : Int)

theorem dv_append (a b : List Nat) : dv (a ++ b) = dv a ++ dv b := List.map_append
theorem dv_length (a : List Nat) : (dv a).length = a.length := List.length_map _
theorem dv_one (d : Nat) : ∀ u ∈ dv [d], u.oneCell' = true := by
  intro u hu
  simp [dv] at hu
  subst hu
  rfl

/-- Where the digits of a row that has some lie. -/
theorem Row.at {w : World} {ao : Option Addr} {L cap : Nat} {ds : List Nat} (h : Row w (.slice ao L cap) ds) (hl : ds.length = L) (h0 : 0 < L) : ∃ b off, b < w.heap.size ∧ ao = some ⟨b, off, none⟩ ∧ ∀ j, j < ds.length → w.cell? ⟨b, off + j, none⟩ = some (.int .u16 ((ds.getD j 0 : Nat) : Int)) := by
  rcases h with ⟨_, rfl⟩ | ⟨b, off, c, e, h1, _, _, h4⟩
  · simp at hl; omega
  · injection e with e1 e2 e3
    exact ⟨b, off, h1, e1, h4⟩

theorem row_of_owns {w : World} {base e : Nat} {v : Value} {ds : List Nat} (h : w.ownsRow base e 1 v ds.length (dv ds)) : Row w v ds := by
  rcases h.2 with ⟨rfl, h0⟩ | ⟨g, cap, cur, rfl, h1, h2, h3, h4, h5, h6⟩
  · exact Or.inl ⟨rfl, List.eq_nil_of_length_eq_zero h0⟩
  · have hlt := (h.lt g rfl).2
    refine Or.inr ⟨g, 0, cap, rfl, hlt, h3, h4, fun j hj => ?_⟩
    have := h.cellAt j (by omega)
    rw [Nat.zero_add, this]
    simp [dv, List.getD, hj]

theorem own_grow {w w' : World} {base e : Nat} {v : Value} {n : Nat} {xs : List Value} {B : Nat} (hb : base ≤ w.heap.size) (h : w.ownsRow base e 1 v n xs) (hg : w.grownBy w' v.ownBlock) (hB : B ≤ base) : Below B w w' :=
  (Below.refl B w).grown hg (Nat.le_trans hB hb) (fun k hk => Nat.le_trans hB (h.lt k hk).1)

theorem times_row {w : World} {B e : Nat} {v : Value} {outs : List Nat} {cy : Nat} (hc : cy ≤ 65535) (o : w.ownsRow B e 1 v (outs.length + 1) (dv outs ++ [Value.int .u16 (IntKind.u16.wrap (cy : Int))])) : w.ownsRow B e 1 v (outs ++ [cy]).length (dv (outs ++ [cy])) := by
  have hw16 : IntKind.u16.wrap (cy : Int) = (cy : Int) := by rw [IntKind.wrap_u16]; omega
  rw [hw16] at o
  rw [List.length_append, dv_append]
  exact o

theorem times_row2 {w : World} {B e : Nat} {v : Value} {outs : List Nat} {cy : Nat} (o : w.ownsRow B e 1 v (outs.length + 1) (dv outs ++ [Value.int .u16 (cy : Int)])) : w.ownsRow B e 1 v (outs ++ [cy]).length (dv (outs ++ [cy])) := by
  rw [List.length_append, dv_append]
  exact o

set_option maxHeartbeats 4000000 in
theorem timesD_any (a : Value) (m n : Nat) (w : World) (ha : IsAmt w a m) (hm : m < BIG) (hn : n ≤ 65536) : Calls Tryz.prog 98 #[a, .int .u32 (n : Int)] w fun e w' => ∃ v, e = .returned v ∧ IsAmt w' v (m * n) ∧ (∀ g, v.ownBlock = some g → w.heap.size ≤ g) ∧ Below w.heap.size w w' := by
  obtain ⟨xs, ra, da, na, rfl⟩ := ha
  have hlen := len_big na hm
  obtain ⟨i, hi, hz0, hz1, hz2⟩ := info_parts info16
  have RA := hide ra
  obtain ⟨ao, cap, rfl⟩ := ra.form
  clear hm na ra
  obtain ⟨L, eL⟩ : ∃ L, xs.length = L := ⟨_, rfl⟩
  have HL := hide eL
  rw [eL] at RA hlen ⊢
  clear eL
  go_enter Tryz.func98, Tryz.ntmps98
  go_wp2
  go_loopw [5, 6, 7] (fun out c k wr => ∃ (j cy : Nat) (outs : List Nat), j ≤ L ∧ k = .int .i64 (j : Int) ∧ c = .int .u32 (cy : Int) ∧ cy ≤ 65535 ∧ outs.length = j ∧ wr.ownsRow w.heap.size 77 1 out outs.length (dv outs) ∧ DigsOk outs ∧ valD outs + 65536 ^ j * cy = valD (xs.take j) * n ∧ Below w.heap.size w wr) (fun _ _ k _ => L - (intOf k).toNat)
  case atStart => exact ⟨0, 0, [], Nat.zero_le _, rfl, rfl, by omega, rfl, World.ownsRow_nil _ _ _ _, digs_nil, by simp [valD], Below.refl _ _⟩
  case round =>
    obtain ⟨j, cy, outs, hj, rfl, rfl, hcy, ho, hown, hdo, hval, bw⟩ := hrel
    have HV := hide hval
    have HO := hide ho
    have HW := hide hown
    have HD := hide hdo
    clear hval ho hown hdo
    by_cases hlt : j < L
    · obtain ⟨b, off, hbs, rfl, hcell⟩ := RA.out.at HL.out (by omega)
      have hc := hcell j (by have := HL.out; omega)
      rw [← bw.cell (p := ⟨b, off + j, none⟩) hbs] at hc
      have hx := da.getD j
      obtain ⟨x, ex⟩ : ∃ x, xs.getD j 0 = x := ⟨_, rfl⟩
      have EX := hide ex
      rw [ex] at hc hx
      have hP : x * n ≤ 4294901760 := Nat.le_trans (Nat.mul_le_mul (by omega : x ≤ 65535) hn) (by decide)
      obtain ⟨P, eP⟩ : ∃ P, x * n = P := ⟨_, rfl⟩
      have EP := hide eP
      rw [eP] at hP
      have hmul : (x : Int) * (n : Int) = (P : Int) := by rw [← eP]; simp
      have hsz := bw.size
      have hol : outs.length ≤ 4000 := by have := HO.out; omega
      clear ex eP hcell
      go_wp2_with (at_builtin; refine wpList_append_own _ rfl _ _ 42 rfl w.heap.size 77 i (.int .u16 0) 1 2 Tryz.underlying42 hi hz0 hz1 hz2 rfl (by decide) _ _ _ rfl (HW.out.alloc _) ⟨_, 0, none⟩ 1 1 [.int .u16 _] rfl rfl (cell_one_new _ _ _) (by simp [Value.oneCell']) (by unfold maxLen; omega) (by omega) (by simp; omega) ?_; intro v' w2 o2 g2 _)
      go_roundw
      case rel =>
        have hw16 : IntKind.u16.wrap ((cy : Int) + (P : Int)) = (((cy + P) % 65536 : Nat) : Int) := by rw [IntKind.wrap_u16]; omega
        rw [hw16, show dv outs ++ [Value.int .u16 (((cy + P) % 65536 : Nat) : Int)] = dv (outs ++ [(cy + P) % 65536]) from by rw [dv_append]; rfl, show outs.length + 1 = (outs ++ [(cy + P) % 65536]).length by simp] at o2
        refine ⟨j + 1, (cy + P) / 65536, outs ++ [(cy + P) % 65536], by omega, by go_num, by go_num, by omega, by simp [HO.out], o2, HD.out.snoc (by omega), ?_, (bw.alloc (by omega) _).grown g2 (by simp; omega) (fun k hk => (HW.out.lt k hk).1)⟩
        rw [valD_append, HO.out, valD_take_snoc xs j (by have := HL.out; omega), EX.out, Nat.add_mul, ← HV.out]
        have e1 : valD [(cy + P) % 65536] = (cy + P) % 65536 := by simp [valD]
        rw [e1, Nat.pow_succ, Nat.mul_assoc (65536 ^ j) x n, EP.out, Nat.mul_assoc]
        have e2 : 65536 ^ j * ((cy + P) % 65536) + 65536 ^ j * (65536 * ((cy + P) / 65536)) = 65536 ^ j * cy + 65536 ^ j * P := by
          rw [← Nat.mul_add, ← Nat.mul_add, Nat.mod_add_div]
        omega
      case measure => simp [intOf]; omega
    · have hjL : j = L := by omega
      subst hjL
      have hsz := bw.size
      have hol : outs.length ≤ 4000 := by have := HO.out; omega
      go_wp2_with (first
        | (at_builtin; refine wpList_append_own _ rfl _ _ 42 rfl w.heap.size 77 i (.int .u16 0) 1 2 Tryz.underlying42 hi hz0 hz1 hz2 rfl (by decide) _ _ _ rfl (HW.out.alloc _) ⟨_, 0, none⟩ 1 1 [.int .u16 _] rfl rfl (cell_one_new _ _ _) (by simp [Value.oneCell']) (by unfold maxLen; omega) (by omega) (by simp; omega) ?_; intro v' w2 o2 g2 _; have TR := trim_any v' (outs ++ [cy]) w2 (row_of_owns (by first | exact times_row hcy o2 | exact times_row2 o2)) (HD.out.snoc (by omega)))
        | (go_at_call 54; refine TR.mono ?_; rintro e w' ⟨v3, rfl, h3, f3, rfl⟩))
      go_ret
      refine ⟨_, rfl, ?_, fun g hg => (o2.lt g (f3 g hg)).1, (bw.alloc (by omega) _).grown g2 (by simp; omega) (fun k hk => (HW.out.lt k hk).1)⟩
      have hv := HV.out
      rw [List.take_of_length_le (by have := HL.out; omega)] at hv
      rw [valD_append, HO.out, show valD [cy] = cy by simp [valD], hv] at h3
      exact h3

theorem valD_take_all (ds : List Nat) (k : Nat) : valD (ds.take (k + 1)) = valD (ds.take k) + 65536 ^ k * ds.getD k 0 := by
  by_cases h : k < ds.length
  · exact valD_take_snoc ds k h
  · rw [List.take_of_length_le (by omega), List.take_of_length_le (by omega), List.getD_eq_getElem?_getD, List.getElem?_eq_none (by omega)]
    simp

/-- One digit of a difference, in the books. -/
theorem sub_step {X Y O p x y bo bo' d : Nat} (h : X + p * bo = O + Y) (hd : x + 65536 * bo' = d + y + bo) : X + p * x + p * 65536 * bo' = O + p * d + (Y + p * y) := by
  have h1 : p * (x + 65536 * bo') = p * (d + y + bo) := by rw [hd]
  rw [Nat.mul_add, Nat.mul_add, Nat.mul_add, ← Nat.mul_assoc p 65536] at h1
  omega

theorem sub_row {w : World} {B e : Nat} {v : Value} {outs : List Nat} {z : Int} {d : Nat} (hz : z = (d : Int)) (o : w.ownsRow B e 1 v (outs.length + 1) (dv outs ++ [Value.int .u16 z])) : w.ownsRow B e 1 v (outs ++ [d]).length (dv (outs ++ [d])) := by
  rw [hz] at o
  exact times_row2 o

set_option maxHeartbeats 8000000 in
theorem subD_any (a b : Value) (m n : Nat) (w : World) (ha : IsAmt w a m) (hb : IsAmt w b n) (hmn : n ≤ m) (hm : m < BIG) : Calls Tryz.prog 101 #[a, b] w fun e w' => ∃ v, e = .returned v ∧ IsAmt w' v (m - n) ∧ (∀ g, v.ownBlock = some g → w.heap.size ≤ g) ∧ Below w.heap.size w w' := by
  obtain ⟨xs, ra, da, na, rfl⟩ := ha
  obtain ⟨ys, rb, db, nb, rfl⟩ := hb
  have hlen := len_big na hm
  have hle : ys.length ≤ xs.length := by
    rcases Nat.lt_or_ge xs.length ys.length with h | h
    · have := len_lt da nb h; omega
    · exact h
  obtain ⟨i, hi, hz0, hz1, hz2⟩ := info_parts info16
  have RA := hide ra
  have RB := hide rb
  obtain ⟨ao, cap, rfl⟩ := ra.form
  obtain ⟨bo, cap2, rfl⟩ := rb.form
  have HMN := hide hmn
  clear hm na ra rb nb hmn
  obtain ⟨L, eL⟩ : ∃ L, xs.length = L := ⟨_, rfl⟩
  obtain ⟨M, eM⟩ : ∃ M, ys.length = M := ⟨_, rfl⟩
  have HL := hide eL
  have HM := hide eM
  rw [eL] at RA hlen
  rw [eM] at RB
  rw [eL, eM] at hle
  rw [eL, eM]
  clear eL eM
  go_enter Tryz.func101, Tryz.ntmps101
  go_wp2
  go_loopw [5, 6, 7] (fun out c k wr => ∃ (j cy : Nat) (outs : List Nat), j ≤ L ∧ k = .int .i64 (j : Int) ∧ c = .int .i32 (cy : Int) ∧ cy ≤ 1 ∧ outs.length = j ∧ wr.ownsRow w.heap.size 77 1 out outs.length (dv outs) ∧ DigsOk outs ∧ valD (xs.take j) + 65536 ^ j * cy = valD outs + valD (ys.take j) ∧ Below w.heap.size w wr) (fun _ _ k _ => L - (intOf k).toNat)
  case atStart => exact ⟨0, 0, [], Nat.zero_le _, rfl, rfl, by omega, rfl, World.ownsRow_nil _ _ _ _, digs_nil, by simp [valD], Below.refl _ _⟩
  case round =>
    obtain ⟨j, cy, outs, hj, rfl, rfl, hcy, ho, hown, hdo, hval, bw⟩ := hrel
    have HV := hide hval
    have HO := hide ho
    have HW := hide hown
    have HD := hide hdo
    clear hval ho hown hdo
    have hsz := bw.size
    have hol : outs.length ≤ 4000 := by have := HO.out; omega
    by_cases hlt : j < L
    · obtain ⟨b1, off1, hbs1, rfl, hcell1⟩ := RA.out.at HL.out (by omega)
      have hc1 := hcell1 j (by have := HL.out; omega)
      rw [← bw.cell (p := ⟨b1, off1 + j, none⟩) hbs1] at hc1
      have hx := da.getD j
      have hy := db.getD j
      have tx := valD_take_all xs j
      have ty := valD_take_all ys j
      obtain ⟨x, ex⟩ : ∃ x, xs.getD j 0 = x := ⟨_, rfl⟩
      obtain ⟨y, ey⟩ : ∃ y, ys.getD j 0 = y := ⟨_, rfl⟩
      rw [ex] at hc1 hx tx
      rw [ey] at hy ty
      have HX := hide tx
      have HY := hide ty
      have rel : ∀ (d bo' : Nat), d < 65536 → bo' ≤ 1 → x + 65536 * bo' = d + y + cy → ∀ (v' : Value) (w2 : World), w2.ownsRow w.heap.size 77 1 v' (outs ++ [d]).length (dv (outs ++ [d])) → Below w.heap.size w w2 → ∃ (j' cy' : Nat) (outs' : List Nat), j' ≤ L ∧ (.int .i64 ((j : Int) + 1) : Value) = .int .i64 (j' : Int) ∧ (.int .i32 (bo' : Int) : Value) = .int .i32 (cy' : Int) ∧ cy' ≤ 1 ∧ outs'.length = j' ∧ w2.ownsRow w.heap.size 77 1 v' outs'.length (dv outs') ∧ DigsOk outs' ∧ valD (xs.take j') + 65536 ^ j' * cy' = valD outs' + valD (ys.take j') ∧ Below w.heap.size w w2 := by
        intro d bo' hd hbo hxy v' w2 o2 b2
        refine ⟨j + 1, bo', outs ++ [d], by omega, by go_num, rfl, hbo, by simp [HO.out], o2, HD.out.snoc hd, ?_, b2⟩
        rw [HX.out, HY.out, valD_append, HO.out, show valD [d] = d by simp [valD], Nat.pow_succ]
        exact sub_step HV.out hxy
      have REL := hide rel
      clear tx ty rel hcell1
      by_cases hM : j < M
      · obtain ⟨b2, off2, hbs2, rfl, hcell2⟩ := RB.out.at HM.out (by omega)
        have hc2 := hcell2 j (by have := HM.out; omega)
        rw [ey, ← bw.cell (p := ⟨b2, off2 + j, none⟩) hbs2] at hc2
        clear hcell2 ex ey
        by_cases hneg : (x : Int) - cy - y < 0
        · go_wp2_with (at_builtin; refine wpList_append_own _ rfl _ _ 42 rfl w.heap.size 77 i (.int .u16 0) 1 2 Tryz.underlying42 hi hz0 hz1 hz2 rfl (by decide) _ _ _ rfl (HW.out.alloc _) ⟨_, 0, none⟩ 1 1 [.int .u16 _] rfl rfl (cell_one_new _ _ _) (by simp [Value.oneCell']) (by unfold maxLen; omega) (by omega) (by simp; omega) ?_; intro v' w2 o2 g2 _)
          go_roundw
          case rel =>
            have hz : (x : Int) - cy - y + 65536 = ((x + 65536 - cy - y : Nat) : Int) := by omega
            exact REL.out (x + 65536 - cy - y) 1 (by omega) (by omega) (by omega) _ _ (sub_row hz o2) ((bw.alloc (by omega) _).grown g2 (by simp; omega) (fun k hk => (HW.out.lt k hk).1))
          case measure => simp [intOf]; omega
        · go_wp2_with (at_builtin; refine wpList_append_own _ rfl _ _ 42 rfl w.heap.size 77 i (.int .u16 0) 1 2 Tryz.underlying42 hi hz0 hz1 hz2 rfl (by decide) _ _ _ rfl (HW.out.alloc _) ⟨_, 0, none⟩ 1 1 [.int .u16 _] rfl rfl (cell_one_new _ _ _) (by simp [Value.oneCell']) (by unfold maxLen; omega) (by omega) (by simp; omega) ?_; intro v' w2 o2 g2 _)
          go_roundw
          case rel =>
            have hz : (x : Int) - cy - y = ((x - cy - y : Nat) : Int) := by omega
            exact REL.out (x - cy - y) 0 (by omega) (by omega) (by omega) _ _ (sub_row hz o2) ((bw.alloc (by omega) _).grown g2 (by simp; omega) (fun k hk => (HW.out.lt k hk).1))
          case measure => simp [intOf]; omega
      · have hy0 : y = 0 := by rw [← ey, List.getD_eq_getElem?_getD, List.getElem?_eq_none (by have := HM.out; omega)]; rfl
        subst hy0
        clear ex ey
        by_cases hneg : (x : Int) - cy < 0
        · go_wp2_with (at_builtin; refine wpList_append_own _ rfl _ _ 42 rfl w.heap.size 77 i (.int .u16 0) 1 2 Tryz.underlying42 hi hz0 hz1 hz2 rfl (by decide) _ _ _ rfl (HW.out.alloc _) ⟨_, 0, none⟩ 1 1 [.int .u16 _] rfl rfl (cell_one_new _ _ _) (by simp [Value.oneCell']) (by unfold maxLen; omega) (by omega) (by simp; omega) ?_; intro v' w2 o2 g2 _)
          go_roundw
          case rel =>
            have hz : (x : Int) - cy + 65536 = ((x + 65536 - cy : Nat) : Int) := by omega
            exact REL.out (x + 65536 - cy) 1 (by omega) (by omega) (by omega) _ _ (sub_row hz o2) ((bw.alloc (by omega) _).grown g2 (by simp; omega) (fun k hk => (HW.out.lt k hk).1))
          case measure => simp [intOf]; omega
        · go_wp2_with (at_builtin; refine wpList_append_own _ rfl _ _ 42 rfl w.heap.size 77 i (.int .u16 0) 1 2 Tryz.underlying42 hi hz0 hz1 hz2 rfl (by decide) _ _ _ rfl (HW.out.alloc _) ⟨_, 0, none⟩ 1 1 [.int .u16 _] rfl rfl (cell_one_new _ _ _) (by simp [Value.oneCell']) (by unfold maxLen; omega) (by omega) (by simp; omega) ?_; intro v' w2 o2 g2 _)
          go_roundw
          case rel =>
            have hz : (x : Int) - cy = ((x - cy : Nat) : Int) := by omega
            exact REL.out (x - cy) 0 (by omega) (by omega) (by omega) _ _ (sub_row hz o2) ((bw.alloc (by omega) _).grown g2 (by simp; omega) (fun k hk => (HW.out.lt k hk).1))
          case measure => simp [intOf]; omega
    · have hjL : j = L := by omega
      subst hjL
      have TR := trim_any _ outs wr (row_of_owns HW.out) HD.out
      go_wp2_with (go_at_call 54; refine TR.mono ?_; rintro e w' ⟨v3, rfl, h3, f3, rfl⟩)
      go_ret
      refine ⟨_, rfl, ?_, fun g hg => (HW.out.lt g (f3 g hg)).1, bw⟩
      have hv := HV.out
      have h1 := HL.out
      have h2 := HM.out
      have h4 := HMN.out
      rw [List.take_of_length_le (by omega), List.take_of_length_le (by omega)] at hv
      have h5 := valD_lt HD.out
      rw [HO.out] at h5
      have hc0 : cy = 0 := by
        rcases Nat.lt_or_ge cy 1 with h | h
        · omega
        · have : cy = 1 := by omega
          rw [this, Nat.mul_one] at hv
          omega
      rw [hc0, Nat.mul_zero] at hv
      rw [show valD xs - valD ys = valD outs by omega]
      exact h3
end Go.Proofs.YtbengmceiaejeaaGreatDoor
