/- Amounts in memory; trim and cmpD. -/
import Derived.Test.YtbengmceiaejeaaGreatDoorBigM
import Derived.Test.YtbengmceiaejeaaGreatDoorAw1
import Derived.RegionTactic
import Derived.ChangeAlike
import Derived.BigQuiet
import Derived.OwnWalk
import Derived.WalkSmall
import Derived.Maps.AppendAt
namespace Go.Proofs.YtbengmceiaejeaaGreatDoor
open Go.ChangeShapes Go.WideShapes Go.ChangeAt Go.RowKit

/-- A slice of uint16s that reads as these digits. -/
def Row (w : World) (v : Value) (ds : List Nat) : Prop :=
  (v = .slice none 0 0 ∧ ds = []) ∨ ∃ b off cap, v = .slice (some ⟨b, off, none⟩) ds.length cap ∧ b < w.heap.size ∧ ds.length ≤ cap ∧ cap ≤ maxLen ∧ ∀ j, j < ds.length → w.cell? ⟨b, off + j, none⟩ = some (.int .u16 ((ds.getD j 0 : Nat) : Int))

theorem Row.below {w w' : World} {v : Value} {ds : List Nat} (h : Row w v ds) (hb : Below w.heap.size w w') : Row w' v ds := by
  rcases h with h | ⟨b, off, cap, h1, h2, h3, h4, h5⟩
  · exact Or.inl h
  · refine Or.inr ⟨b, off, cap, h1, Nat.lt_of_lt_of_le h2 hb.size, h3, h4, fun j hj => ?_⟩
    rw [hb.cell (p := ⟨b, off + j, none⟩) h2]
    exact h5 j hj

theorem Row.form {w : World} {v : Value} {ds : List Nat} (h : Row w v ds) : ∃ ao c, v = .slice ao ds.length c := by
  rcases h with ⟨rfl, rfl⟩ | ⟨b, off, cap, rfl, _⟩
  · exact ⟨_, _, rfl⟩
  · exact ⟨_, _, rfl⟩

/-- An amount in memory. -/
def IsAmt (w : World) (v : Value) (n : Nat) : Prop := ∃ ds, Row w v ds ∧ DigsOk ds ∧ Norm ds ∧ valD ds = n

theorem IsAmt.below {w w' : World} {v : Value} {n : Nat} (h : IsAmt w v n) (hb : Below w.heap.size w w') : IsAmt w' v n := by
  obtain ⟨ds, h1, h2⟩ := h
  exact ⟨ds, h1.below hb, h2⟩

theorem norm_nil : Norm [] := by intro k hk; cases hk

theorem trim_any (v : Value) (ds : List Nat) (w : World) (h : Row w v ds) (hd : DigsOk ds) : Calls Tryz.prog 54 #[v] w fun e w' => ∃ v', e = .returned v' ∧ IsAmt w v' (valD ds) ∧ (∀ g, v'.ownBlock = some g → v.ownBlock = some g) ∧ w' = w := by
  rcases h with ⟨rfl, rfl⟩ | ⟨b, off, cap, rfl, hb, hc, hm, hcell⟩
  · go_enter Tryz.func54, Tryz.ntmps54
    go_wp2
    go_loop [3] (fun v => v = .int .i64 0) (fun _ => 0)
    case atStart => rfl
    case round =>
      subst hrel
      go_wp2
      go_ret
      exact ⟨_, rfl, ⟨[], Or.inl ⟨rfl, rfl⟩, hd, norm_nil, rfl⟩, fun _ h => h, rfl⟩
  · unfold maxLen at hm
    have HC := hide hcell
    clear hcell
    go_enter Tryz.func54, Tryz.ntmps54
    go_wp2
    go_loop [3] (fun v => ∃ k : Nat, k ≤ ds.length ∧ v = .int .i64 (k : Int) ∧ valD (ds.take k) = valD ds) (fun v => (intOf v).toNat)
    case atStart => exact ⟨ds.length, Nat.le_refl _, rfl, by rw [List.take_length]⟩
    case round =>
      obtain ⟨k, hk, rfl, hv⟩ := hrel
      have HV := hide hv
      clear hv
      cases k with
      | zero =>
        go_wp2
        go_ret
        refine ⟨_, rfl, ⟨[], Or.inr ⟨b, off, cap, rfl, hb, Nat.zero_le _, by unfold maxLen; omega, fun j hj => by cases hj⟩, digs_nil, norm_nil, ?_⟩, fun _ h => h, rfl⟩
        have := HV.out
        rw [List.take_zero] at this
        exact this
      | succ k =>
        have hcell := HC.out k (by omega)
        obtain ⟨d, ed⟩ : ∃ d, ds.getD k 0 = d := ⟨_, rfl⟩
        have HE := hide ed
        rw [ed] at hcell
        clear ed
        have hix : ((k + 1 : Nat) : Int) - 1 = (k : Int) := by omega
        by_cases h0 : d = 0
        · subst h0
          go_wp2
          go_round
          case rel =>
            refine ⟨k, by omega, by go_num, ?_⟩
            have := valD_take_snoc ds k (by omega)
            rw [HE.out, Nat.mul_zero, Nat.add_zero] at this
            have := HV.out
            omega
          case measure => simp [intOf]
        · have hz : ((d : Int) == 0) = false := by simp; omega
          go_wp2
          go_ret
          refine ⟨_, rfl, ⟨ds.take (k + 1), Or.inr ⟨b, off, cap, ?_, hb, ?_, by unfold maxLen; omega, fun j hj => ?_⟩, hd.take _, ?_, HV.out⟩, fun _ h => h, rfl⟩
          · rw [List.length_take, Nat.min_eq_left hk]
            rfl
          · rw [List.length_take, Nat.min_eq_left hk]; omega
          · rw [List.length_take, Nat.min_eq_left hk] at hj
            rw [HC.out j (by omega)]
            congr 3
            simp [List.getD, hj]
          · intro j hj
            rw [List.length_take, Nat.min_eq_left hk] at hj
            have : j = k := by omega
            subst this
            have e : (ds.take (j + 1)).getD j 0 = d := by rw [← HE.out]; simp [List.getD]
            rw [e]
            exact h0

theorem below_drew (B : Nat) (w : World) (n : Nat) : Below B w (w.drewN n) := ⟨rfl, rfl, rfl, Nat.le_refl _, fun _ _ => rfl⟩

set_option maxHeartbeats 4000000 in
theorem cmpD_any (a b : Value) (m n : Nat) (w : World) (ha : IsAmt w a m) (hb : IsAmt w b n) : Calls Tryz.prog 97 #[a, b] w fun e w' => e = .returned (.int .i64 (cmpN m n)) ∧ Below w.heap.size w w' := by
  obtain ⟨xs, ra, da, na, rfl⟩ := ha
  obtain ⟨ys, rb, db, nb, rfl⟩ := hb
  by_cases hl : xs.length = ys.length
  · rcases ra with ⟨rfl, rfl⟩ | ⟨b1, o1, c1, rfl, hb1, hc1, hm1, cell1⟩
    · have ey : ys = [] := List.eq_nil_of_length_eq_zero (by simpa using hl.symm)
      subst ey
      have hv : Hid (cmpN (valD []) (valD []) = 0) := cmpN_eq rfl
      rcases rb with ⟨rfl, _⟩ | ⟨b2, o2, c2, rfl, _, _, _, _⟩
      all_goals
        go_enter Tryz.func97, Tryz.ntmps97
        go_wp2
        go_loop [5] (fun v => v = .int .i64 (-1)) (fun _ => 0)
        case atStart => rfl
        case round =>
          subst hrel
          go_wp2
          go_ret
          exact ⟨ret_int hv.out.symm, Below.refl _ _⟩
    · rcases rb with ⟨rfl, rfl⟩ | ⟨b2, o2, c2, rfl, hb2, hc2, hm2, cell2⟩
      · have ex : xs = [] := List.eq_nil_of_length_eq_zero (by simpa using hl)
        subst ex
        have hv : Hid (cmpN (valD []) (valD []) = 0) := cmpN_eq rfl
        go_enter Tryz.func97, Tryz.ntmps97
        go_wp2
        go_loop [5] (fun v => v = .int .i64 (-1)) (fun _ => 0)
        case atStart => rfl
        case round =>
          subst hrel
          go_wp2
          go_ret
          exact ⟨ret_int hv.out.symm, Below.refl _ _⟩
      · unfold maxLen at hm1 hm2
        have C1 := hide cell1
        have C2 := hide cell2
        have hl' := hl.symm
        rw [hl']
        rw [hl'] at hc2
        obtain ⟨L, eL⟩ : ∃ L, xs.length = L := ⟨_, rfl⟩
        have HL := hide eL
        have HL2 := hide hl
        rw [eL] at hc1 hc2 ⊢
        clear cell1 cell2 hl hl' eL
        go_enter Tryz.func97, Tryz.ntmps97
        go_wp2
        go_loopw [5] (fun v wr => ∃ k : Nat, k ≤ L ∧ v = .int .i64 ((k : Int) - 1) ∧ (∀ j, k ≤ j → xs.getD j 0 = ys.getD j 0) ∧ Below w.heap.size w wr) (fun v _ => (intOf v + 1).toNat)
        case atStart =>
          refine ⟨L, Nat.le_refl _, by go_num, fun j hj => ?_, Below.refl _ _⟩
          have h1 := HL.out
          have h2 := HL2.out
          rw [List.getD_eq_getElem?_getD, List.getD_eq_getElem?_getD, List.getElem?_eq_none (by omega), List.getElem?_eq_none (by omega)]
        case round =>
          obtain ⟨k, hk, rfl, he, bw⟩ := hrel
          have HE := hide he
          clear he
          cases k with
          | zero =>
            have hv : Hid (cmpN (valD xs) (valD ys) = 0) := cmpN_eq (by rw [same_digits HL2.out (fun j => HE.out j (Nat.zero_le _))])
            go_wp2
            go_ret
            exact ⟨ret_int hv.out.symm, bw⟩
          | succ k =>
            have h1 := C1.out k (by have := HL.out; omega)
            have h2 := C2.out k (by have := HL.out; have := HL2.out; omega)
            rw [← bw.cell (p := ⟨b1, o1 + k, none⟩) hb1] at h1
            rw [← bw.cell (p := ⟨b2, o2 + k, none⟩) hb2] at h2
            have hix : ((k + 1 : Nat) : Int) - 1 = (k : Int) := by omega
            have hkL : k < L := by omega
            obtain ⟨x, ex⟩ : ∃ x, xs.getD k 0 = x := ⟨_, rfl⟩
            obtain ⟨y, ey⟩ : ∃ y, ys.getD k 0 = y := ⟨_, rfl⟩
            have hx := da.getD k
            have hy := db.getD k
            have EX := hide ex
            have EY := hide ey
            rw [ex] at h1 hx
            rw [ey] at h2 hy
            clear ex ey
            rcases Nat.lt_trichotomy x y with hxy | hxy | hxy
            · have t1 : decide ((x : Int) < (y : Int)) = true := decide_eq_true (by omega)
              have t1' : decide (x < y) = true := decide_eq_true hxy
              have hv : Hid (cmpN (valD xs) (valD ys) = -1) := cmpN_lt (cmp_top da HL2.out (k := k) (by have := HL.out; omega) (fun j hj => HE.out j (by omega)) (by rw [EX.out, EY.out]; exact hxy))
              go_wp2
              go_quiet (fail)
              go_wp2
              go_ret
              exact ⟨ret_int hv.out.symm, bw.trans (below_drew _ _ _)⟩
            · subst hxy
              go_wp2
              go_quiet (fail)
              go_wp2
              go_quiet (fail)
              go_wp2
              go_roundw
              case rel =>
                refine ⟨k, by omega, by go_num, fun j hj => ?_, bw.trans (below_drew _ _ _)⟩
                by_cases hjk : j = k
                · rw [hjk, EX.out, EY.out]
                · exact HE.out j (by omega)
              case measure => simp [intOf]
            · have t1 : decide ((x : Int) < (y : Int)) = false := decide_eq_false (by omega)
              have t1' : decide (x < y) = false := decide_eq_false (by omega)
              have t2 : decide ((y : Int) < (x : Int)) = true := decide_eq_true (by omega)
              have t2' : decide (y < x) = true := decide_eq_true hxy
              have hv : Hid (cmpN (valD xs) (valD ys) = 1) := cmpN_gt (cmp_top db HL2.out.symm (k := k) (by have := HL.out; have := HL2.out; omega) (fun j hj => (HE.out j (by omega)).symm) (by rw [EX.out, EY.out]; exact hxy))
              go_wp2
              go_quiet (fail)
              go_wp2
              go_quiet (fail)
              go_wp2
              go_ret
              exact ⟨ret_int hv.out.symm, (bw.trans (below_drew _ _ _)).trans (below_drew _ _ _)⟩
  · obtain ⟨o1, c1, rfl⟩ := ra.form
    obtain ⟨o2, c2, rfl⟩ := rb.form
    have hv := hide (fun h => cmpN_lt (len_lt (a := xs) da nb h))
    have hv' := hide (fun h => cmpN_gt (len_lt (b := xs) db na h))
    obtain ⟨L1, e1⟩ : ∃ L, xs.length = L := ⟨_, rfl⟩
    obtain ⟨L2, e2⟩ : ∃ L, ys.length = L := ⟨_, rfl⟩
    rw [e1, e2] at hv hv' hl ⊢
    clear ra rb e1 e2
    have t0 : ((L1 : Int) != (L2 : Int)) = true := by simp; omega
    rcases Nat.lt_or_ge L1 L2 with hlt | hge
    · have t1 : decide ((L1 : Int) < (L2 : Int)) = true := decide_eq_true (by omega)
      have t2 : decide (L1 < L2) = true := decide_eq_true hlt
      have hv := hide (hv.out hlt)
      clear hv'
      go_enter Tryz.func97, Tryz.ntmps97
      go_wp2
      go_ret
      exact ⟨ret_int hv.out.symm, Below.refl _ _⟩
    · have t1 : decide ((L1 : Int) < (L2 : Int)) = false := decide_eq_false (by omega)
      have t2 : decide (L1 < L2) = false := decide_eq_false (by omega)
      have hv := hide (hv'.out (by omega))
      clear hv'
      go_enter Tryz.func97, Tryz.ntmps97
      go_wp2
      go_ret
      exact ⟨ret_int hv.out.symm, Below.refl _ _⟩
end Go.Proofs.YtbengmceiaejeaaGreatDoor
/- Amounts: timesD and subD. -/
namespace Go.Proofs.YtbengmceiaejeaaGreatDoor
open Go.ChangeShapes Go.WideShapes Go.ChangeAt Go.RowKit

theorem info16 : (Tryz.prog.info? 77).map (fun i => (i.zero, i.size, i.bytes)) = some (some (.int .u16 0), 1, 2) := by kernel_rfl

/-- Digits as values. -/
def dv (ds : List Nat) : List Value := ds.map fun (d : Nat) => Value.int .u16 (d : Int)

theorem dv_append (a b : List Nat) : dv (a ++ b) = dv a ++ dv b := List.map_append
theorem dv_length (a : List Nat) : (dv a).length = a.length := List.length_map _
theorem dv_one (d : Nat) : ∀ u ∈ dv [d], u.oneCell' = true := by
  intro u hu
  simp [dv] at hu
  subst hu
  rfl

/-- Where the digits of a row that has some lie. -/
theorem Row.at {w : World} {ao : Option Addr} {L cap : Nat} {ds : List Nat} (h : Row w (.slice ao L cap) ds) (hl : ds.length = L) (h0 : 0 < L) : ∃ b off, b < w.heap.size ∧ ao = some ⟨b, off, none⟩ ∧ ∀ j, j < ds.length → w.cell? ⟨b, off + j, none⟩ = some (.int .u16 ((ds.getD j 0 : Nat) : Int)) := by
  rcases h with ⟨_, rfl⟩ | ⟨b, off, c, e, h1, _, _, h4⟩
  · simp at hl; omega
  · injection e with e1 e2 e3
    exact ⟨b, off, h1, e1, h4⟩

theorem row_of_owns {w : World} {base e : Nat} {v : Value} {ds : List Nat} (h : w.ownsRow base e 1 v ds.length (dv ds)) : Row w v ds := by
  rcases h.2 with ⟨rfl, h0⟩ | ⟨g, cap, cur, rfl, h1, h2, h3, h4, h5, h6⟩
  · exact Or.inl ⟨rfl, List.eq_nil_of_length_eq_zero h0⟩
  · have hlt := (h.lt g rfl).2
    refine Or.inr ⟨g, 0, cap, rfl, hlt, h3, h4, fun j hj => ?_⟩
    have := h.cellAt j (by omega)
    rw [Nat.zero_add, this]
    simp [dv, List.getD, hj]

theorem own_grow {w w' : World} {base e : Nat} {v : Value} {n : Nat} {xs : List Value} {B : Nat} (hb : base ≤ w.heap.size) (h : w.ownsRow base e 1 v n xs) (hg : w.grownBy w' v.ownBlock) (hB : B ≤ base) : Below B w w' :=
  (Below.refl B w).grown hg (Nat.le_trans hB hb) (fun k hk => Nat.le_trans hB (h.lt k hk).1)

theorem times_row {w : World} {B e : Nat} {v : Value} {outs : List Nat} {cy : Nat} (hc : cy ≤ 65535) (o : w.ownsRow B e 1 v (outs.length + 1) (dv outs ++ [Value.int .u16 (IntKind.u16.wrap (cy : Int))])) : w.ownsRow B e 1 v (outs ++ [cy]).length (dv (outs ++ [cy])) := by
  have hw16 : IntKind.u16.wrap (cy : Int) = (cy : Int) := by rw [IntKind.wrap_u16]; omega
  rw [hw16] at o
  rw [List.length_append, dv_append]
  exact o

theorem times_row2 {w : World} {B e : Nat} {v : Value} {outs : List Nat} {cy : Nat} (o : w.ownsRow B e 1 v (outs.length + 1) (dv outs ++ [Value.int .u16 (cy : Int)])) : w.ownsRow B e 1 v (outs ++ [cy]).length (dv (outs ++ [cy])) := by
  rw [List.length_append, dv_append]
  exact o

set_option maxHeartbeats 4000000 in
theorem timesD_any (a : Value) (m n : Nat) (w : World) (ha : IsAmt w a m) (hm : m < BIG) (hn : n ≤ 65536) : Calls Tryz.prog 98 #[a, .int .u32 (n : Int)] w fun e w' => ∃ v, e = .returned v ∧ IsAmt w' v (m * n) ∧ (∀ g, v.ownBlock = some g → w.heap.size ≤ g) ∧ Below w.heap.size w w' := by
  obtain ⟨xs, ra, da, na, rfl⟩ := ha
  have hlen := len_big na hm
  obtain ⟨i, hi, hz0, hz1, hz2⟩ := info_parts info16
  have RA := hide ra
  obtain ⟨ao, cap, rfl⟩ := ra.form
  clear hm na ra
  obtain ⟨L, eL⟩ : ∃ L, xs.length = L := ⟨_, rfl⟩
  have HL := hide eL
  rw [eL] at RA hlen ⊢
  clear eL
  go_enter Tryz.func98, Tryz.ntmps98
  go_wp2
  go_loopw [5, 6, 7] (fun out c k wr => ∃ (j cy : Nat) (outs : List Nat), j ≤ L ∧ k = .int .i64 (j : Int) ∧ c = .int .u32 (cy : Int) ∧ cy ≤ 65535 ∧ outs.length = j ∧ wr.ownsRow w.heap.size 77 1 out outs.length (dv outs) ∧ DigsOk outs ∧ valD outs + 65536 ^ j * cy = valD (xs.take j) * n ∧ Below w.heap.size w wr) (fun _ _ k _ => L - (intOf k).toNat)
  case atStart => exact ⟨0, 0, [], Nat.zero_le _, rfl, rfl, by omega, rfl, World.ownsRow_nil _ _ _ _, digs_nil, by simp [valD], Below.refl _ _⟩
  case round =>
    obtain ⟨j, cy, outs, hj, rfl, rfl, hcy, ho, hown, hdo, hval, bw⟩ := hrel
    have HV := hide hval
    have HO := hide ho
    have HW := hide hown
    have HD := hide hdo
    clear hval ho hown hdo
    by_cases hlt : j < L
    · obtain ⟨b, off, hbs, rfl, hcell⟩ := RA.out.at HL.out (by omega)
      have hc := hcell j (by have := HL.out; omega)
      rw [← bw.cell (p := ⟨b, off + j, none⟩) hbs] at hc
      have hx := da.getD j
      obtain ⟨x, ex⟩ : ∃ x, xs.getD j 0 = x := ⟨_, rfl⟩
      have EX := hide ex
      rw [ex] at hc hx
      have hP : x * n ≤ 4294901760 := Nat.le_trans (Nat.mul_le_mul (by omega : x ≤ 65535) hn) (by decide)
      obtain ⟨P, eP⟩ : ∃ P, x * n = P := ⟨_, rfl⟩
      have EP := hide eP
      rw [eP] at hP
      have hmul : (x : Int) * (n : Int) = (P : Int) := by rw [← eP]; simp
      have hsz := bw.size
      have hol : outs.length ≤ 4000 := by have := HO.out; omega
      clear ex eP hcell
      go_wp2_with (at_builtin; refine wpList_append_own _ rfl _ _ 42 rfl w.heap.size 77 i (.int .u16 0) 1 2 Tryz.underlying42 hi hz0 hz1 hz2 rfl (by decide) _ _ _ rfl (HW.out.alloc _) ⟨_, 0, none⟩ 1 1 [.int .u16 _] rfl rfl (cell_one_new _ _ _) (by simp [Value.oneCell']) (by unfold maxLen; omega) (by omega) (by simp; omega) ?_; intro v' w2 o2 g2 _)
      go_roundw
      case rel =>
        have hw16 : IntKind.u16.wrap ((cy : Int) + (P : Int)) = (((cy + P) % 65536 : Nat) : Int) := by rw [IntKind.wrap_u16]; omega
        rw [hw16, show dv outs ++ [Value.int .u16 (((cy + P) % 65536 : Nat) : Int)] = dv (outs ++ [(cy + P) % 65536]) from by rw [dv_append]; rfl, show outs.length + 1 = (outs ++ [(cy + P) % 65536]).length by simp] at o2
        refine ⟨j + 1, (cy + P) / 65536, outs ++ [(cy + P) % 65536], by omega, by go_num, by go_num, by omega, by simp [HO.out], o2, HD.out.snoc (by omega), ?_, (bw.alloc (by omega) _).grown g2 (by simp; omega) (fun k hk => (HW.out.lt k hk).1)⟩
        rw [valD_append, HO.out, valD_take_snoc xs j (by have := HL.out; omega), EX.out, Nat.add_mul, ← HV.out]
        have e1 : valD [(cy + P) % 65536] = (cy + P) % 65536 := by simp [valD]
        rw [e1, Nat.pow_succ, Nat.mul_assoc (65536 ^ j) x n, EP.out, Nat.mul_assoc]
        have e2 : 65536 ^ j * ((cy + P) % 65536) + 65536 ^ j * (65536 * ((cy + P) / 65536)) = 65536 ^ j * cy + 65536 ^ j * P := by
          rw [← Nat.mul_add, ← Nat.mul_add, Nat.mod_add_div]
        omega
      case measure => simp [intOf]; omega
    · have hjL : j = L := by omega
      subst hjL
      have hsz := bw.size
      have hol : outs.length ≤ 4000 := by have := HO.out; omega
      go_wp2_with (first
        | (at_builtin; refine wpList_append_own _ rfl _ _ 42 rfl w.heap.size 77 i (.int .u16 0) 1 2 Tryz.underlying42 hi hz0 hz1 hz2 rfl (by decide) _ _ _ rfl (HW.out.alloc _) ⟨_, 0, none⟩ 1 1 [.int .u16 _] rfl rfl (cell_one_new _ _ _) (by simp [Value.oneCell']) (by unfold maxLen; omega) (by omega) (by simp; omega) ?_; intro v' w2 o2 g2 _; have TR := trim_any v' (outs ++ [cy]) w2 (row_of_owns (by first | exact times_row hcy o2 | exact times_row2 o2)) (HD.out.snoc (by omega)))
        | (go_at_call 54; refine TR.mono ?_; rintro e w' ⟨v3, rfl, h3, f3, rfl⟩))
      go_ret
      refine ⟨_, rfl, ?_, fun g hg => (o2.lt g (f3 g hg)).1, (bw.alloc (by omega) _).grown g2 (by simp; omega) (fun k hk => (HW.out.lt k hk).1)⟩
      have hv := HV.out
      rw [List.take_of_length_le (by have := HL.out; omega)] at hv
      rw [valD_append, HO.out, show valD [cy] = cy by simp [valD], hv] at h3
      exact h3

theorem valD_take_all (ds : List Nat) (k : Nat) : valD (ds.take (k + 1)) = valD (ds.take k) + 65536 ^ k * ds.getD k 0 := by
  by_cases h : k < ds.length
  · exact valD_take_snoc ds k h
  · rw [List.take_of_length_le (by omega), List.take_of_length_le (by omega), List.getD_eq_getElem?_getD, List.getElem?_eq_none (by omega)]
    simp

/-- One digit of a difference, in the books. -/
theorem sub_step {X Y O p x y bo bo' d : Nat} (h : X + p * bo = O + Y) (hd : x + 65536 * bo' = d + y + bo) : X + p * x + p * 65536 * bo' = O + p * d + (Y + p * y) := by
  have h1 : p * (x + 65536 * bo') = p * (d + y + bo) := by rw [hd]
  rw [Nat.mul_add, Nat.mul_add, Nat.mul_add, ← Nat.mul_assoc p 65536] at h1
  omega

theorem sub_row {w : World} {B e : Nat} {v : Value} {outs : List Nat} {z : Int} {d : Nat} (hz : z = (d : Int)) (o : w.ownsRow B e 1 v (outs.length + 1) (dv outs ++ [Value.int .u16 z])) : w.ownsRow B e 1 v (outs ++ [d]).length (dv (outs ++ [d])) := by
  rw [hz] at o
  exact times_row2 o

set_option maxHeartbeats 8000000 in
theorem subD_any (a b : Value) (m n : Nat) (w : World) (ha : IsAmt w a m) (hb : IsAmt w b n) (hmn : n ≤ m) (hm : m < BIG) : Calls Tryz.prog 101 #[a, b] w fun e w' => ∃ v, e = .returned v ∧ IsAmt w' v (m - n) ∧ (∀ g, v.ownBlock = some g → w.heap.size ≤ g) ∧ Below w.heap.size w w' := by
  obtain ⟨xs, ra, da, na, rfl⟩ := ha
  obtain ⟨ys, rb, db, nb, rfl⟩ := hb
  have hlen := len_big na hm
  have hle : ys.length ≤ xs.length := by
    rcases Nat.lt_or_ge xs.length ys.length with h | h
    · have := len_lt da nb h; omega
    · exact h
  obtain ⟨i, hi, hz0, hz1, hz2⟩ := info_parts info16
  have RA := hide ra
  have RB := hide rb
  obtain ⟨ao, cap, rfl⟩ := ra.form
  obtain ⟨bo, cap2, rfl⟩ := rb.form
  have HMN := hide hmn
  clear hm na ra rb nb hmn
  obtain ⟨L, eL⟩ : ∃ L, xs.length = L := ⟨_, rfl⟩
  obtain ⟨M, eM⟩ : ∃ M, ys.length = M := ⟨_, rfl⟩
  have HL := hide eL
  have HM := hide eM
  rw [eL] at RA hlen
  rw [eM] at RB
  rw [eL, eM] at hle
  rw [eL, eM]
  clear eL eM
  go_enter Tryz.func101, Tryz.ntmps101
  go_wp2
  go_loopw [5, 6, 7] (fun out c k wr => ∃ (j cy : Nat) (outs : List Nat), j ≤ L ∧ k = .int .i64 (j : Int) ∧ c = .int .i32 (cy : Int) ∧ cy ≤ 1 ∧ outs.length = j ∧ wr.ownsRow w.heap.size 77 1 out outs.length (dv outs) ∧ DigsOk outs ∧ valD (xs.take j) + 65536 ^ j * cy = valD outs + valD (ys.take j) ∧ Below w.heap.size w wr) (fun _ _ k _ => L - (intOf k).toNat)
  case atStart => exact ⟨0, 0, [], Nat.zero_le _, rfl, rfl, by omega, rfl, World.ownsRow_nil _ _ _ _, digs_nil, by simp [valD], Below.refl _ _⟩
  case round =>
    obtain ⟨j, cy, outs, hj, rfl, rfl, hcy, ho, hown, hdo, hval, bw⟩ := hrel
    have HV := hide hval
    have HO := hide ho
    have HW := hide hown
    have HD := hide hdo
    clear hval ho hown hdo
    have hsz := bw.size
    have hol : outs.length ≤ 4000 := by have := HO.out; omega
    by_cases hlt : j < L
    · obtain ⟨b1, off1, hbs1, rfl, hcell1⟩ := RA.out.at HL.out (by omega)
      have hc1 := hcell1 j (by have := HL.out; omega)
      rw [← bw.cell (p := ⟨b1, off1 + j, none⟩) hbs1] at hc1
      have hx := da.getD j
      have hy := db.getD j
      have tx := valD_take_all xs j
      have ty := valD_take_all ys j
      obtain ⟨x, ex⟩ : ∃ x, xs.getD j 0 = x := ⟨_, rfl⟩
      obtain ⟨y, ey⟩ : ∃ y, ys.getD j 0 = y := ⟨_, rfl⟩
      rw [ex] at hc1 hx tx
      rw [ey] at hy ty
      have HX := hide tx
      have HY := hide ty
      have rel : ∀ (d bo' : Nat), d < 65536 → bo' ≤ 1 → x + 65536 * bo' = d + y + cy → ∀ (v' : Value) (w2 : World), w2.ownsRow w.heap.size 77 1 v' (outs ++ [d]).length (dv (outs ++ [d])) → Below w.heap.size w w2 → ∃ (j' cy' : Nat) (outs' : List Nat), j' ≤ L ∧ (.int .i64 ((j : Int) + 1) : Value) = .int .i64 (j' : Int) ∧ (.int .i32 (bo' : Int) : Value) = .int .i32 (cy' : Int) ∧ cy' ≤ 1 ∧ outs'.length = j' ∧ w2.ownsRow w.heap.size 77 1 v' outs'.length (dv outs') ∧ DigsOk outs' ∧ valD (xs.take j') + 65536 ^ j' * cy' = valD outs' + valD (ys.take j') ∧ Below w.heap.size w w2 := by
        intro d bo' hd hbo hxy v' w2 o2 b2
        refine ⟨j + 1, bo', outs ++ [d], by omega, by go_num, rfl, hbo, by simp [HO.out], o2, HD.out.snoc hd, ?_, b2⟩
        rw [HX.out, HY.out, valD_append, HO.out, show valD [d] = d by simp [valD], Nat.pow_succ]
        exact sub_step HV.out hxy
      have REL := hide rel
      clear tx ty rel hcell1
      by_cases hM : j < M
      · obtain ⟨b2, off2, hbs2, rfl, hcell2⟩ := RB.out.at HM.out (by omega)
        have hc2 := hcell2 j (by have := HM.out; omega)
        rw [ey, ← bw.cell (p := ⟨b2, off2 + j, none⟩) hbs2] at hc2
        clear hcell2 ex ey
        by_cases hneg : (x : Int) - cy - y < 0
        · go_wp2_with (at_builtin; refine wpList_append_own _ rfl _ _ 42 rfl w.heap.size 77 i (.int .u16 0) 1 2 Tryz.underlying42 hi hz0 hz1 hz2 rfl (by decide) _ _ _ rfl (HW.out.alloc _) ⟨_, 0, none⟩ 1 1 [.int .u16 _] rfl rfl (cell_one_new _ _ _) (by simp [Value.oneCell']) (by unfold maxLen; omega) (by omega) (by simp; omega) ?_; intro v' w2 o2 g2 _)
          go_roundw
          case rel =>
            have hz : (x : Int) - cy - y + 65536 = ((x + 65536 - cy - y : Nat) : Int) := by omega
            exact REL.out (x + 65536 - cy - y) 1 (by omega) (by omega) (by omega) _ _ (sub_row hz o2) ((bw.alloc (by omega) _).grown g2 (by simp; omega) (fun k hk => (HW.out.lt k hk).1))
          case measure => simp [intOf]; omega
        · go_wp2_with (at_builtin; refine wpList_append_own _ rfl _ _ 42 rfl w.heap.size 77 i (.int .u16 0) 1 2 Tryz.underlying42 hi hz0 hz1 hz2 rfl (by decide) _ _ _ rfl (HW.out.alloc _) ⟨_, 0, none⟩ 1 1 [.int .u16 _] rfl rfl (cell_one_new _ _ _) (by simp [Value.oneCell']) (by unfold maxLen; omega) (by omega) (by simp; omega) ?_; intro v' w2 o2 g2 _)
          go_roundw
          case rel =>
            have hz : (x : Int) - cy - y = ((x - cy - y : Nat) : Int) := by omega
            exact REL.out (x - cy - y) 0 (by omega) (by omega) (by omega) _ _ (sub_row hz o2) ((bw.alloc (by omega) _).grown g2 (by simp; omega) (fun k hk => (HW.out.lt k hk).1))
          case measure => simp [intOf]; omega
      · have hy0 : y = 0 := by rw [← ey, List.getD_eq_getElem?_getD, List.getElem?_eq_none (by have := HM.out; omega)]; rfl
        subst hy0
        clear ex ey
        by_cases hneg : (x : Int) - cy < 0
        · go_wp2_with (at_builtin; refine wpList_append_own _ rfl _ _ 42 rfl w.heap.size 77 i (.int .u16 0) 1 2 Tryz.underlying42 hi hz0 hz1 hz2 rfl (by decide) _ _ _ rfl (HW.out.alloc _) ⟨_, 0, none⟩ 1 1 [.int .u16 _] rfl rfl (cell_one_new _ _ _) (by simp [Value.oneCell']) (by unfold maxLen; omega) (by omega) (by simp; omega) ?_; intro v' w2 o2 g2 _)
          go_roundw
          case rel =>
            have hz : (x : Int) - cy + 65536 = ((x + 65536 - cy : Nat) : Int) := by omega
            exact REL.out (x + 65536 - cy) 1 (by omega) (by omega) (by omega) _ _ (sub_row hz o2) ((bw.alloc (by omega) _).grown g2 (by simp; omega) (fun k hk => (HW.out.lt k hk).1))
          case measure => simp [intOf]; omega
        · go_wp2_with (at_builtin; refine wpList_append_own _ rfl _ _ 42 rfl w.heap.size 77 i (.int .u16 0) 1 2 Tryz.underlying42 hi hz0 hz1 hz2 rfl (by decide) _ _ _ rfl (HW.out.alloc _) ⟨_, 0, none⟩ 1 1 [.int .u16 _] rfl rfl (cell_one_new _ _ _) (by simp [Value.oneCell']) (by unfold maxLen; omega) (by omega) (by simp; omega) ?_; intro v' w2 o2 g2 _)
          go_roundw
          case rel =>
            have hz : (x : Int) - cy = ((x - cy : Nat) : Int) := by omega
            exact REL.out (x - cy) 0 (by omega) (by omega) (by omega) _ _ (sub_row hz o2) ((bw.alloc (by omega) _).grown g2 (by simp; omega) (fun k hk => (HW.out.lt k hk).1))
          case measure => simp [intOf]; omega
    · have hjL : j = L := by omega
      subst hjL
      have TR := trim_any _ outs wr (row_of_owns HW.out) HD.out
      go_wp2_with (go_at_call 54; refine TR.mono ?_; rintro e w' ⟨v3, rfl, h3, f3, rfl⟩)
      go_ret
      refine ⟨_, rfl, ?_, fun g hg => (HW.out.lt g (f3 g hg)).1, bw⟩
      have hv := HV.out
      have h1 := HL.out
      have h2 := HM.out
      have h4 := HMN.out
      rw [List.take_of_length_le (by omega), List.take_of_length_le (by omega)] at hv
      have h5 := valD_lt HD.out
      rw [HO.out] at h5
      have hc0 : cy = 0 := by
        rcases Nat.lt_or_ge cy 1 with h | h
        · omega
        · have : cy = 1 := by omega
          rw [this, Nat.mul_one] at hv
          omega
      rw [hc0, Nat.mul_zero] at hv
      rw [show valD xs - valD ys = valD outs by omega]
      exact h3
end Go.Proofs.YtbengmceiaejeaaGreatDoor
/- Amounts: digit. -/
namespace Go.Proofs.YtbengmceiaejeaaGreatDoor
open Go.ChangeShapes Go.WideShapes Go.ChangeAt Go.RowKit

set_option maxHeartbeats 4000000 in
theorem digit_any (a b : Value) (m n : Nat) (w : World) (ha : IsAmt w a m) (hb : IsAmt w b n) (hm : m < BIG) (hn : n < BIG) (hmn : m < 65536 * n) :
    Calls Tryz.prog 78 #[a, b] w fun e w' => ∃ v, e = .returned (.tuple #[.int .u16 ((m / n : Nat) : Int), v]) ∧ IsAmt w' v (m % n) ∧ (∀ g, v.ownBlock = some g → w.heap.size ≤ g) ∧ Below w.heap.size w w' := by
  have HA := hide ha
  have HB := hide hb
  have HM := hide hm
  have HN := hide hn
  have HMN := hide hmn
  clear ha hb hm hn hmn
  go_enter Tryz.func78, Tryz.ntmps78
  go_wp2
  go_loopw [6, 7] (fun l h wr => ∃ (lo hi : Nat), l = .int .u32 (lo : Int) ∧ h = .int .u32 (hi : Int) ∧ lo ≤ hi ∧ hi ≤ 65535 ∧ lo * n ≤ m ∧ m < (hi + 1) * n ∧ Below w.heap.size w wr) (fun l h _ => (intOf h - intOf l).toNat)
  case atStart => exact ⟨0, 65535, rfl, rfl, by omega, by omega, by omega, HMN.out, Below.refl _ _⟩
  case round =>
    obtain ⟨lo, hi, rfl, rfl, h1, h2, h3, h4, bw⟩ := hrel
    have H3 := hide h3
    have H4 := hide h4
    clear h3 h4
    by_cases hlt : lo < hi
    · obtain ⟨mid, em⟩ : ∃ mid, (lo + hi + 1) / 2 = mid := ⟨_, rfl⟩
      have hmid : ((lo : Int) + (hi : Int) + 1) / 2 = (mid : Int) := by omega
      have hmb : lo < mid ∧ mid ≤ hi := by omega
      have T := timesD_any b n mid wr (HB.out.below bw) HN.out (by omega)
      have HC : Hid (∀ v wt, IsAmt wt v (n * mid) → Below wr.heap.size wr wt → Calls Tryz.prog 97 #[v, a] wt fun e w' => e = .returned (.int .i64 (cmpN (n * mid) m)) ∧ Below wt.heap.size wt w') := fun v wt hv hb => cmpD_any v a (n * mid) m wt hv ((HA.out.below bw).below hb)
      have EM := hide em
      clear em
      by_cases hle : n * mid ≤ m
      · have hcm : (decide (cmpN (n * mid) m ≤ 0)) = true := decide_eq_true (by unfold cmpN; split <;> (try split) <;> omega)
        obtain ⟨c, ec⟩ : ∃ c, cmpN (n * mid) m = c := ⟨_, rfl⟩
        rw [ec] at HC hcm
        have HLE := hide hle
        clear ec hle
        go_wp2_with (first
          | (go_at_call 98; refine T.mono ?_; rintro e wt ⟨v, rfl, hv, _, bt⟩; have CC := HC.out v wt hv bt)
          | (go_at_call 97; refine CC.mono ?_; rintro e wc ⟨rfl, bc⟩))
        go_roundw
        case rel => exact ⟨mid, hi, by go_num, rfl, by omega, h2, by rw [Nat.mul_comm]; exact HLE.out, H4.out, (bw.trans (bt.mono bw.size)).trans (bc.mono (Nat.le_trans bw.size bt.size))⟩
        case measure => simp [intOf]; omega
      · have hcm : (decide (cmpN (n * mid) m ≤ 0)) = false := decide_eq_false (by unfold cmpN; split <;> (try split) <;> omega)
        obtain ⟨c, ec⟩ : ∃ c, cmpN (n * mid) m = c := ⟨_, rfl⟩
        rw [ec] at HC hcm
        have HLE := hide hle
        clear ec hle
        go_wp2_with (first
          | (go_at_call 98; refine T.mono ?_; rintro e wt ⟨v, rfl, hv, _, bt⟩; have CC := HC.out v wt hv bt)
          | (go_at_call 97; refine CC.mono ?_; rintro e wc ⟨rfl, bc⟩))
        go_roundw
        case rel =>
          refine ⟨lo, mid - 1, rfl, ?_, by omega, by omega, H3.out, ?_, (bw.trans (bt.mono bw.size)).trans (bc.mono (Nat.le_trans bw.size bt.size))⟩
          · go_num
          · have h5 := HLE.out
            rw [show mid - 1 + 1 = mid by omega, Nat.mul_comm]
            omega
        case measure => simp [intOf]; omega
    · have hlh : lo = hi := by omega
      subst hlh
      have hn0 : 0 < n := by
        rcases Nat.eq_zero_or_pos n with h | h
        · have := H4.out; rw [h] at this; omega
        · exact h
      have hq : m / n = lo := by
        have h5 := H3.out
        have h6 := H4.out
        exact Nat.div_eq_of_lt_le h5 h6
      have hr : m - n * lo = m % n := by
        have := Nat.div_add_mod m n
        rw [hq] at this
        omega
      have hle : n * lo ≤ m := by rw [Nat.mul_comm]; exact H3.out
      have HLE := hide hle
      have HQ := hide hq
      have HR := hide hr
      clear hq hr hle hn0
      have T := timesD_any b n lo wr (HB.out.below bw) HN.out (by omega)
      have HS : Hid (∀ v wt, IsAmt wt v (n * lo) → Below wr.heap.size wr wt → Calls Tryz.prog 101 #[a, v] wt fun e w' => ∃ v', e = .returned v' ∧ IsAmt w' v' (m - n * lo) ∧ (∀ g, v'.ownBlock = some g → wt.heap.size ≤ g) ∧ Below wt.heap.size wt w') := fun v wt hv hb => subD_any a v m (n * lo) wt ((HA.out.below bw).below hb) hv HLE.out HM.out
      go_wp2_with (first
        | (go_at_call 98; refine T.mono ?_; rintro e wt ⟨v, rfl, hv, _, bt⟩; have CC := HS.out v wt hv bt)
        | (go_at_call 101; refine CC.mono ?_; rintro e wc ⟨v4, rfl, h4, f4, bc⟩))
      go_ret2
      refine ⟨_, by rw [HQ.out]; rfl, by rw [← HR.out]; exact h4, fun g hg => Nat.le_trans (Nat.le_trans bw.size bt.size) (f4 g hg), (bw.trans (bt.mono bw.size)).trans (bc.mono (Nat.le_trans bw.size bt.size))⟩
end Go.Proofs.YtbengmceiaejeaaGreatDoor
/- Amounts: divD. -/
namespace Go.Proofs.YtbengmceiaejeaaGreatDoor
open Go.ChangeShapes Go.WideShapes Go.ChangeAt Go.RowKit

theorem valD_drop (ds : List Nat) (k : Nat) (h : k < ds.length) : valD (ds.drop k) = ds.getD k 0 + 65536 * valD (ds.drop (k + 1)) := by
  rw [List.drop_eq_getElem_cons h]
  simp [valD, List.getD, h]

theorem div_step {A n x : Nat} (hn : 0 < n) : (x + 65536 * A) / n = (x + 65536 * (A % n)) / n + 65536 * (A / n) ∧ (x + 65536 * A) % n = (x + 65536 * (A % n)) % n := by
  have h := Nat.div_add_mod A n
  have e : x + 65536 * A = (x + 65536 * (A % n)) + n * (65536 * (A / n)) := by
    have : n * (65536 * (A / n)) = 65536 * (n * (A / n)) := by rw [← Nat.mul_assoc, Nat.mul_comm n, Nat.mul_assoc]
    omega
  rw [e, Nat.add_mul_div_left _ _ hn, Nat.add_mul_mod_self_left]
  exact ⟨rfl, rfl⟩

theorem valD_set_drop (qs : List Nat) (k d : Nat) (h : k < qs.length) : valD ((qs.set k d).drop k) = d + 65536 * valD (qs.drop (k + 1)) := by
  rw [valD_drop _ k (by simpa using h)]
  congr 1
  · simp [List.getD, h]
  · rw [List.drop_set_of_lt (by omega)]

theorem own_one {w : World} {x : Value} {e : TypeId} (h1 : 1 ≤ maxLen) : (w.alloc (.cells #[x] e)).ownsRow w.heap.size e 1 (.slice (some ⟨w.heap.size, 0, none⟩) 1 1) 1 [x] :=
  ⟨by simp, .inr ⟨w.heap.size, 1, #[x], rfl, Nat.le_refl _, heap_alloc_new w _, Nat.le_refl _, h1, rfl, by simp⟩⟩

theorem dv_set (qs : List Nat) (k d : Nat) : (dv qs).set k (.int .u16 (d : Int)) = dv (qs.set k d) := by
  simp [dv, List.map_set]

theorem Row.alloc {w : World} {v : Value} {ds : List Nat} (h : Row w v ds) (o : Obj) : Row (w.alloc o) v ds :=
  h.below ((Below.refl _ _).alloc (Nat.le_refl _) o)

theorem Row.news {w : World} {b off cap : Nat} {ds : List Nat} (h : Row w (.slice (some ⟨b, off, none⟩) ds.length cap) ds) : ∀ j u, (dv ds)[j]? = some u → w.cell? ((⟨b, off, none⟩ : Addr).add j) = some u := by
  intro j u hu
  have hj : j < ds.length := by
    have := (List.getElem?_eq_some_iff.1 hu).1
    rwa [dv_length] at this
  obtain ⟨b', off', _, e, hc⟩ := h.at rfl (by omega)
  cases e
  rw [Addr.add_lit, hc j hj, ← hu]
  simp [dv, List.getD, hj]

theorem dv_ones (ds : List Nat) : ∀ u ∈ dv ds, u.oneCell' = true := by
  intro u hu
  obtain ⟨_, _, rfl⟩ := List.mem_map.1 hu
  rfl

/-- A store elsewhere leaves a row as it is. -/
theorem Row.setCell {w : World} {v : Value} {ds : List Nat} (h : Row w v ds) {Q k : Nat} {u : Value} (hQ : ∀ g, v.ownBlock = some g → g ≠ Q) : Row (w.setCell ⟨Q, k, none⟩ u) v ds := by
  rcases h with h | ⟨b, off, cap, h1, h2, h3, h4, h5⟩
  · exact Or.inl h
  · refine Or.inr ⟨b, off, cap, h1, by simpa [World.setCell] using h2, h3, h4, fun j hj => ?_⟩
    have hne : b ≠ Q := hQ b (by rw [h1]; rfl)
    rw [World.cell?_of_block (w := w) (Below.heap_setCell w ⟨Q, k, none⟩ u b hne)]
    exact h5 j hj

theorem IsAmt.setCell {w : World} {v : Value} {n : Nat} (h : IsAmt w v n) {Q k : Nat} {u : Value} (hQ : ∀ g, v.ownBlock = some g → g ≠ Q) : IsAmt (w.setCell ⟨Q, k, none⟩ u) v n := by
  obtain ⟨ds, h1, h2⟩ := h
  exact ⟨ds, h1.setCell hQ, h2⟩

theorem own_kept2 {W W' : World} {B e size n : Nat} {v : Value} {xs : List Value} (h : W.ownsRow B e size v n xs) (hb : Below W.heap.size W W') : W'.ownsRow B e size v n xs :=
  h.kept (row := none) ⟨hb.os, hb.tape, hb.output, hb.size, fun k hk _ => hb.block k hk⟩ (Classical.em _)

theorem set_size (w : World) (a : Addr) (u : Value) : (w.setCell a u).heap.size = w.heap.size := by simp [World.setCell]

theorem dv_at (qs : List Nat) (k : Nat) (h : k < qs.length) : (dv qs)[k]? = some (.int .u16 ((qs.getD k 0 : Nat) : Int)) := by
  simp [dv, List.getD, h]

theorem app_row {w : World} {B e : Nat} {v : Value} {x : Nat} {rs : List Nat} (o : w.ownsRow B e 1 v (1 + rs.length) ([Value.int .u16 (x : Int)] ++ dv rs)) : w.ownsRow B e 1 v (x :: rs).length (dv (x :: rs)) := by
  rw [Nat.add_comm] at o
  exact o

set_option maxHeartbeats 8000000 in
theorem divD_any (a b : Value) (m n : Nat) (w : World) (ha : IsAmt w a m) (hb : IsAmt w b n) (hm : m < BIG) (hn : n < BIG) (hn0 : 0 < n) :
    Calls Tryz.prog 52 #[a, b] w fun e w' => ∃ v r, e = .returned (.tuple #[v, r]) ∧ IsAmt w' v (m / n) ∧ IsAmt w' r (m % n) ∧ Below w.heap.size w w' := by
  obtain ⟨xs, ra, da, na, rfl⟩ := ha
  have hlen := len_big na hm
  have HX : Hid (∀ k, valD (xs.drop k) < BIG) := by
    refine hide fun k => Nat.lt_of_le_of_lt ?_ hm
    have h := valD_append (xs.take k) (xs.drop k)
    rw [List.take_append_drop] at h
    have h1 : 1 * valD (xs.drop k) ≤ 65536 ^ (xs.take k).length * valD (xs.drop k) := Nat.mul_le_mul_right _ (Nat.pow_pos (by decide))
    omega
  obtain ⟨i, hi, hz0, hz1, hz2⟩ := info_parts info16
  have HB := hide hb
  have HN := hide hn
  have RA := hide ra
  obtain ⟨ao, cap, rfl⟩ := ra.form
  clear hm na ra hb hn
  obtain ⟨L, eL⟩ : ∃ L, xs.length = L := ⟨_, rfl⟩
  have HL := hide eL
  rw [eL] at RA hlen ⊢
  clear eL
  go_enter Tryz.func52, Tryz.ntmps52
  go_wp2_with (at_make; refine wpList_make_full _ rfl _ _ 42 rfl w.heap.size 77 i _ 1 Tryz.underlying42 hi hz0 hz1 _ _ _ _ L rfl rfl rfl rfl (by rw [hz2]; omega) (by unfold maxLen; omega) (Nat.le_refl _) ?_; intro w1 o1 g1)
  have o1' : w1.ownsRow w.heap.size 77 1 (.slice (some ⟨w.heap.size, 0, none⟩) L L) L (dv (List.replicate L 0)) := by
    have e : (madeCells (Value.int IntKind.u16 0).cells (L * 1)).toList = dv (List.replicate L 0) := by
      rw [Nat.mul_one]
      exact (toList_madeCells_one (.int .u16 0) L).trans (by simp [dv])
    rw [e] at o1
    exact o1
  have b1 : Below w.heap.size w w1 := (Below.refl _ _).grown g1 (Nat.le_refl _) (fun k e => by cases e)
  clear o1 g1
  have HO1 := hide o1'
  clear o1'
  go_loopw [7, 8] (fun rest ix wr => ∃ (k : Nat) (qs : List Nat), k ≤ L ∧ ix = .int .i64 ((k : Int) - 1) ∧ IsAmt wr rest (valD (xs.drop k) % n) ∧ (∀ g, rest.ownBlock = some g → g ≠ w.heap.size) ∧ wr.ownsRow w.heap.size 77 1 (.slice (some ⟨w.heap.size, 0, none⟩) L L) L (dv qs) ∧ qs.length = L ∧ DigsOk qs ∧ valD (qs.drop k) = valD (xs.drop k) / n ∧ (∀ j, j < k → qs.getD j 0 = 0) ∧ Below w.heap.size w wr ∧ w.heap.size < wr.heap.size) (fun _ ix _ => (intOf ix + 1).toNat)
  case atStart =>
    have hl := HL.out
    refine ⟨L, List.replicate L 0, Nat.le_refl _, by go_num, ?_, (fun g h => by cases h), HO1.out, by simp, ?_, ?_, ?_, b1, (HO1.out.lt _ rfl).2⟩
    · rw [List.drop_of_length_le (by omega)]
      exact ⟨[], Or.inl ⟨rfl, rfl⟩, digs_nil, norm_nil, by simp [valD]⟩
    · intro d hd
      rw [List.mem_replicate] at hd
      omega
    · have d1 : xs.drop L = [] := List.drop_of_length_le (by omega)
      have d2 : (List.replicate L 0).drop L = [] := by simp
      rw [d1, d2]
      simp [valD]
    · intro j hj
      simp [List.getD, hj]
  case round =>
    obtain ⟨k, qs, hk, rfl, hrest, hfr, hown, hql, hqd, hqv, hqz, bw, hQ⟩ := hrel
    have HW := hide hown
    have HQL := hide hql
    have HQD := hide hqd
    have HQV := hide hqv
    have HQZ := hide hqz
    have HFR := hide hfr
    have HRE := hide hrest
    clear hown hql hqd hqv hqz hrest hfr
    cases k with
    | zero =>
      have TR := trim_any _ qs wr (row_of_owns (ds := qs) (by rw [HQL.out]; exact HW.out)) HQD.out
      go_wp2_with (go_at_call 54; refine TR.mono ?_; rintro e w' ⟨v3, rfl, h3, f3, rfl⟩)
      go_ret2
      have hv := HQV.out
      rw [List.drop_zero, List.drop_zero] at hv
      rw [hv] at h3
      have hr := HRE.out
      rw [List.drop_zero] at hr
      exact ⟨_, _, rfl, h3, hr, bw⟩
    | succ k =>
      obtain ⟨b1', off, hbs, rfl, hcell⟩ := RA.out.at HL.out (by omega)
      have hc := hcell k (by have := HL.out; omega)
      rw [← bw.cell (p := ⟨b1', off + k, none⟩) hbs] at hc
      have hx := da.getD k
      have hdr := valD_drop xs k (by have := HL.out; omega)
      have hbig := HX.out k
      obtain ⟨x, ex⟩ : ∃ x, xs.getD k 0 = x := ⟨_, rfl⟩
      rw [ex] at hc hx hdr
      have hix : ((k + 1 : Nat) : Int) - 1 = (k : Int) := by omega
      have hkL : k < L := by omega
      obtain ⟨A, eA⟩ : ∃ A, valD (xs.drop (k + 1)) = A := ⟨_, rfl⟩
      rw [eA] at HRE HQV hdr
      have HDR := hide hdr
      have st := div_step (A := A) (x := x) hn0
      have HST := hide st
      rw [hdr] at hbig
      have hRl : x + 65536 * (A % n) ≤ x + 65536 * A := by have := Nat.mod_le A n; omega
      have hRn : x + 65536 * (A % n) < 65536 * n := by have := Nat.mod_lt A hn0; omega
      obtain ⟨R, eR⟩ : ∃ R, x + 65536 * (A % n) = R := ⟨_, rfl⟩
      rw [eR] at hRl hRn HST
      have HRB : Hid (R < BIG) := hide (by omega)
      obtain ⟨rs, rr, rd, rn, rv⟩ := HRE.out
      have hrl := len_big rn (by rw [rv]; have := Nat.mod_le A n; omega)
      have HRR := hide rr
      have HRV : Hid (valD (x :: rs) = R) := hide (by simp only [valD]; rw [rv]; exact eR)
      have HRD : Hid (DigsOk (x :: rs)) := hide (by intro d hd; simp at hd; rcases hd with rfl | hd; exact hx; exact rd d hd)
      have hw1 := IntKind.wrap_u16 (x : Int)
      clear hcell ex eA hdr st hbig eR rr rd rn rv
      rcases HRR.out with ⟨e0, e1⟩ | ⟨rb, ro, rc, e0, hrb, hrc, hrm, hrcell⟩
      · subst e0
        subst e1
        have OO := own_one (w := wr) (x := .int .u16 (x : Int)) (e := 77) (by decide)
        have hap : ∀ ty, (Builtin.append_ #[42, 42] ty #[.slice (some ⟨wr.heap.size, 0, none⟩) 1 1, .slice none 0 0]).run Tryz.prog (wr.alloc (.cells #[.int .u16 (x : Int)] 77)) = .ok (.slice (some ⟨wr.heap.size, 0, none⟩) 1 1) (wr.alloc (.cells #[.int .u16 (x : Int)] 77)) := fun ty => run_append_owned_none _ wr.heap.size 42 ty 77 i 1 Tryz.underlying42 hi _ 1 _ OO
        have TR := trim_any _ [x] _ (row_of_owns (ds := [x]) OO) HRD.out
        have BT : Below w.heap.size w (wr.alloc (.cells #[.int .u16 (x : Int)] 77)) := bw.alloc (by omega) _
        have OT := HW.out.alloc (.cells #[.int .u16 (x : Int)] 77)
        have HQ2 : w.heap.size < (wr.alloc (.cells #[.int .u16 (x : Int)] 77)).heap.size := by simp; omega
        go_wp2_with (first
          | (go_at_call 54; refine TR.mono ?_; rintro e wt ⟨v3, rfl, h3, f3, rfl⟩; rw [HRV.out] at h3; have DG := digit_any v3 b R n _ h3 (HB.out.below BT) HRB.out HN.out hRn)
          | (go_at_call 78; refine DG.mono ?_; rintro e w4 ⟨v4, rfl, h4, f4, b4⟩
             have OW := (own_kept2 OT b4)
             have SC := (OW.cellAt k (by omega)).trans (dv_at qs k (by have := HQL.out; omega))
             have SF := OW.frozenAt k
             have SW := OW.stored k (.int .u16 ((R / n : Nat) : Int))
             have SB : Below w.heap.size w (w4.setCell ⟨w.heap.size, k, none⟩ (.int .u16 ((R / n : Nat) : Int))) := (BT.trans (b4.mono BT.size)).setCell (Nat.le_refl _) _
             have SQ : w.heap.size < (w4.setCell ⟨w.heap.size, k, none⟩ (.int .u16 ((R / n : Nat) : Int))).heap.size := by rw [set_size]; exact Nat.lt_of_lt_of_le HQ2 b4.size))
        go_roundw
        case rel =>
          refine ⟨k, qs.set k (R / n), by omega, by go_num, ?_, ?_, (by rw [← dv_set]; exact SW.1), by simp [HQL.out], ?_, ?_, ?_, SB, SQ⟩
          · rw [HDR.out, HST.out.2]
            exact h4.setCell fun g hg => by have := f4 g hg; omega
          · intro g hg
            have := f4 g hg
            omega
          · intro d hd
            rcases List.mem_or_eq_of_mem_set hd with h | h
            · exact HQD.out d h
            · rw [h]; exact (Nat.div_lt_iff_lt_mul hn0).2 hRn
          · rw [valD_set_drop qs k _ (by have := HQL.out; omega), HQV.out, HDR.out, HST.out.1]
          · intro j hj
            rw [List.getD_eq_getElem?_getD, List.getElem?_set_ne (by omega), ← List.getD_eq_getElem?_getD]
            exact HQZ.out j (by omega)
        case measure => simp [intOf]
      · have OO := own_one (w := wr) (x := .int .u16 (x : Int)) (e := 77) (by decide)
        have HNW := hide (Row.news ((e0 ▸ HRR.out).alloc (.cells #[.int .u16 (x : Int)] 77)))
        subst e0
        clear hrcell
        go_wp2_with (first
          | (at_builtin; refine wpList_append_own _ rfl _ _ 42 rfl wr.heap.size 77 i (.int .u16 0) 1 2 Tryz.underlying42 hi hz0 hz1 hz2 rfl (by decide) _ _ _ rfl OO ⟨rb, ro, none⟩ rs.length rc (dv rs) rfl (by rw [dv_length, Nat.mul_one]) HNW.out (dv_ones rs) (by unfold maxLen; omega) (by omega) (by simp) ?_; intro v' w2 o2 g2 _
             have TR := trim_any v' (x :: rs) w2 (row_of_owns (app_row o2)) HRD.out
             have BT : Below w.heap.size w w2 := (bw.alloc (by omega) _).grown g2 (by simp; omega) (fun k hk => by have h7 : some wr.heap.size = some k := hk; have := Option.some.inj h7; omega)
             have OT := (HW.out.alloc (.cells #[.int .u16 (x : Int)] 77)).kept g2 (Or.inr (fun e => by have h7 : some w.heap.size = some wr.heap.size := e; have := Option.some.inj h7; omega))
             have HQ2 : w.heap.size < w2.heap.size := by have := g2.size; simp at this; omega)
          | (go_at_call 54; refine TR.mono ?_; rintro e wt ⟨v3, rfl, h3, f3, rfl⟩; rw [HRV.out] at h3; have DG := digit_any v3 b R n _ h3 (HB.out.below BT) HRB.out HN.out hRn)
          | (go_at_call 78; refine DG.mono ?_; rintro e w4 ⟨v4, rfl, h4, f4, b4⟩
             have OW := (own_kept2 OT b4)
             have SC := (OW.cellAt k (by omega)).trans (dv_at qs k (by have := HQL.out; omega))
             have SF := OW.frozenAt k
             have SW := OW.stored k (.int .u16 ((R / n : Nat) : Int))
             have SB : Below w.heap.size w (w4.setCell ⟨w.heap.size, k, none⟩ (.int .u16 ((R / n : Nat) : Int))) := (BT.trans (b4.mono BT.size)).setCell (Nat.le_refl _) _
             have SQ : w.heap.size < (w4.setCell ⟨w.heap.size, k, none⟩ (.int .u16 ((R / n : Nat) : Int))).heap.size := by rw [set_size]; exact Nat.lt_of_lt_of_le HQ2 b4.size))
        go_roundw
        case rel =>
          refine ⟨k, qs.set k (R / n), by omega, by go_num, ?_, ?_, (by rw [← dv_set]; exact SW.1), by simp [HQL.out], ?_, ?_, ?_, SB, SQ⟩
          · rw [HDR.out, HST.out.2]
            exact h4.setCell fun g hg => by have := f4 g hg; omega
          · intro g hg
            have := f4 g hg
            omega
          · intro d hd
            rcases List.mem_or_eq_of_mem_set hd with h | h
            · exact HQD.out d h
            · rw [h]; exact (Nat.div_lt_iff_lt_mul hn0).2 hRn
          · rw [valD_set_drop qs k _ (by have := HQL.out; omega), HQV.out, HDR.out, HST.out.1]
          · intro j hj
            rw [List.getD_eq_getElem?_getD, List.getElem?_set_ne (by omega), ← List.getD_eq_getElem?_getD]
            exact HQZ.out j (by omega)
        case measure => simp [intOf]
end Go.Proofs.YtbengmceiaejeaaGreatDoor
