/- Amounts in memory; trim and cmpD. -/
import Derived.Test.YtbengmceiaejeaaGreatDoorBigM
import Derived.Test.YtbengmceiaejeaaGreatDoorBits
import Derived.RegionTactic
import Derived.ChangeAlike
import Derived.BigQuiet
namespace Go.Proofs.YtbengmceiaejeaaGreatDoor
open Go.ChangeShapes Go.WideShapes Go.ChangeAt Go.RowKit

/-- A slice of uint16s that reads as these digits. -/
def Row (w : World) (v : Value) (ds : List Nat) : Prop :=
  (v = .slice none 0 0 ∧ ds = []) ∨ ∃ b off cap, v = .slice (some ⟨b, off, none⟩) ds.length cap ∧ b < w.heap.size ∧ ds.length ≤ cap ∧ cap ≤ maxLen ∧ ∀ j, j < ds.length → w.cell? ⟨b, off + j, none⟩ = some (.int .u16 ((ds.getD j 0 : Nat) : Int))

theorem Row.below {w w' : World} {v : Value} {ds : List Nat} (h : Row w v ds) (hb : Below w.heap.size w w') : Row w' v ds := by
  rcases h with h | ⟨b, off, cap, h1, h2, h3, h4, h5⟩
  · exact Or.inl h
  · refine Or.inr ⟨b, off, cap, h1, Nat.lt_of_lt_of_le h2 hb.size, h3, h4, fun j hj => ?_⟩
    rw [hb.cell (p := ⟨b, off + j, none⟩) h2]
    exact h5 j hj

theorem Row.form {w : World} {v : Value} {ds : List Nat} (h : Row w v ds) : ∃ ao c, v = .slice ao ds.length c := by
  rcases h with ⟨rfl, rfl⟩ | ⟨b, off, cap, rfl, _⟩
  · exact ⟨_, _, rfl⟩
  · exact ⟨_, _, rfl⟩

/-- An amount in memory. -/
def IsAmt (w : World) (v : Value) (n : Nat) : Prop := ∃ ds, Row w v ds ∧ DigsOk ds ∧ Norm ds ∧ valD ds = n

theorem IsAmt.below {w w' : World} {v : Value} {n : Nat} (h : IsAmt w v n) (hb : Below w.heap.size w w') : IsAmt w' v n := by
  obtain ⟨ds, h1, h2⟩ := h
  exact ⟨ds, h1.below hb, h2⟩

theorem norm_nil : Norm [] := by intro k hk; cases hk

theorem trim_any (v : Value) (ds : List Nat) (w : World) (h : Row w v ds) (hd : DigsOk ds) : Calls Tryz.prog 54 #[v] w fun e w' => ∃ v', e = .returned v' ∧ IsAmt w v' (valD ds) ∧ (∀ g, v'.ownBlock = some g → v.ownBlock = some g) ∧ w' = w := by
  rcases h with ⟨rfl, rfl⟩ | ⟨b, off, cap, rfl, hb, hc, hm, hcell⟩
  · go_enter Tryz.func54, Tryz.ntmps54
    go_wp2
    go_loop [3] (fun v => v = .int .i64 0) (fun _ => 0)
    case atStart => rfl
    case round =>
      subst hrel
      go_wp2
      go_ret
      exact ⟨_, rfl, ⟨[], Or.inl ⟨rfl, rfl⟩, hd, norm_nil, rfl⟩, fun _ h => h, rfl⟩
  · unfold maxLen at hm
    have HC := hide hcell
    clear hcell
    go_enter Tryz.func54, Tryz.ntmps54
    go_wp2
    go_loop [3] (fun v => ∃ k : Nat, k ≤ ds.length ∧ v = .int .i64 (k : Int) ∧ valD (ds.take k) = valD ds) (fun v => (intOf v).toNat)
    case atStart => exact ⟨ds.length, Nat.le_refl _, rfl, by rw [List.take_length]⟩
    case round =>
      obtain ⟨k, hk, rfl, hv⟩ := hrel
      have HV := hide hv
      clear hv
      cases k with
      | zero =>
        go_wp2
        go_ret
        refine ⟨_, rfl, ⟨[], Or.inr ⟨b, off, cap, rfl, hb, Nat.zero_le _, by unfold maxLen; omega, fun j hj => by cases hj⟩, digs_nil, norm_nil, ?_⟩, fun _ h => h, rfl⟩
        have := HV.out
        rw [List.take_zero] at this
        exact this
      | succ k =>
        have hcell := HC.out k (by omega)
        obtain ⟨d, ed⟩ : ∃ d, ds.getD k 0 = d := ⟨_, rfl⟩
        have HE := hide ed
        rw [ed] at hcell
        clear ed
        have hix : ((k + 1 : Nat) : Int) - 1 = (k : Int) := by omega
        by_cases h0 : d = 0
        · subst h0
          go_wp2
          go_round
          case rel =>
            refine ⟨k, by omega, by go_num, ?_⟩
            have := valD_take_snoc ds k (by omega)
            rw [HE.out, Nat.mul_zero, Nat.add_zero] at this
            have := HV.out
            omega
          case measure => simp [intOf]
        · have hz : ((d : Int) == 0) = false := by simp; omega
          go_wp2
          go_ret
          refine ⟨_, rfl, ⟨ds.take (k + 1), Or.inr ⟨b, off, cap, ?_, hb, ?_, by unfold maxLen; omega, fun j hj => ?_⟩, hd.take _, ?_, HV.out⟩, fun _ h => h, rfl⟩
          · rw [List.length_take, Nat.min_eq_left hk]
            rfl
          · rw [List.length_take, Nat.min_eq_left hk]; omega
          · rw [List.length_take, Nat.min_eq_left hk] at hj
            rw [HC.out j (by omega)]
            congr 3
            simp [List.getD, hj]
          · intro j hj
            rw [List.length_take, Nat.min_eq_left hk] at hj
            have : j = k := by omega
            subst this
            have e : (ds.take (j + 1)).getD j 0 = d := by rw [← HE.out]; simp [List.getD]
            rw [e]
            exact h0

theorem below_drew (B : Nat) (w : World) (n : Nat) : Below B w (w.drewN n) := ⟨rfl, rfl, rfl, Nat.le_refl _, fun _ _ => rfl⟩

set_option maxHeartbeats 4000000 in
theorem cmpD_any (a b : Value) (m n : Nat) (w : World) (ha : IsAmt w a m) (hb : IsAmt w b n) : Calls Tryz.prog 97 #[a, b] w fun e w' => e = .returned (.int .i64 (cmpN m n)) ∧ Below w.heap.size w w' := by
  obtain ⟨xs, ra, da, na, rfl⟩ := ha
  obtain ⟨ys, rb, db, nb, rfl⟩ := hb
  by_cases hl : xs.length = ys.length
  · rcases ra with ⟨rfl, rfl⟩ | ⟨b1, o1, c1, rfl, hb1, hc1, hm1, cell1⟩
    · have ey : ys = [] := List.eq_nil_of_length_eq_zero (by simpa using hl.symm)
      subst ey
      have hv : Hid (cmpN (valD []) (valD []) = 0) := cmpN_eq rfl
      rcases rb with ⟨rfl, _⟩ | ⟨b2, o2, c2, rfl, _, _, _, _⟩
      all_goals
        go_enter Tryz.func97, Tryz.ntmps97
        go_wp2
        go_loop [5] (fun v => v = .int .i64 (-1)) (fun _ => 0)
        case atStart => rfl
        case round =>
          subst hrel
          go_wp2
          go_ret
          exact ⟨ret_int hv.out.symm, Below.refl _ _⟩
    · rcases rb with ⟨rfl, rfl⟩ | ⟨b2, o2, c2, rfl, hb2, hc2, hm2, cell2⟩
      · have ex : xs = [] := List.eq_nil_of_length_eq_zero (by simpa using hl)
        subst ex
        have hv : Hid (cmpN (valD []) (valD []) = 0) := cmpN_eq rfl
        go_enter Tryz.func97, Tryz.ntmps97
        go_wp2
        go_loop [5] (fun v => v = .int .i64 (-1)) (fun _ => 0)
        case atStart => rfl
        case round =>
          subst hrel
          go_wp2
          go_ret
          exact ⟨ret_int hv.out.symm, Below.refl _ _⟩
      · unfold maxLen at hm1 hm2
        have C1 := hide cell1
        have C2 := hide cell2
        have hl' := hl.symm
        rw [hl']
        rw [hl'] at hc2
        obtain ⟨L, eL⟩ : ∃ L, xs.length = L := ⟨_, rfl⟩
        have HL := hide eL
        have HL2 := hide hl
        rw [eL] at hc1 hc2 ⊢
        clear cell1 cell2 hl hl' eL
        go_enter Tryz.func97, Tryz.ntmps97
        go_wp2
        go_loopw [5] (fun v wr => ∃ k : Nat, k ≤ L ∧ v = .int .i64 ((k : Int) - 1) ∧ (∀ j, k ≤ j → xs.getD j 0 = ys.getD j 0) ∧ Below w.heap.size w wr) (fun v _ => (intOf v + 1).toNat)
        case atStart =>
          refine ⟨L, Nat.le_refl _, by go_num, fun j hj => ?_, Below.refl _ _⟩
          have h1 := HL.out
          have h2 := HL2.out
          rw [List.getD_eq_getElem?_getD, List.getD_eq_getElem?_getD, List.getElem?_eq_none (by omega), List.getElem?_eq_none (by omega)]
        case round =>
          obtain ⟨k, hk, rfl, he, bw⟩ := hrel
          have HE := hide he
          clear he
          cases k with
          | zero =>
            have hv : Hid (cmpN (valD xs) (valD ys) = 0) := cmpN_eq (by rw [same_digits HL2.out (fun j => HE.out j (Nat.zero_le _))])
            go_wp2
            go_ret
            exact ⟨ret_int hv.out.symm, bw⟩
          | succ k =>
            have h1 := C1.out k (by have := HL.out; omega)
            have h2 := C2.out k (by have := HL.out; have := HL2.out; omega)
            rw [← bw.cell (p := ⟨b1, o1 + k, none⟩) hb1] at h1
            rw [← bw.cell (p := ⟨b2, o2 + k, none⟩) hb2] at h2
            have hix : ((k + 1 : Nat) : Int) - 1 = (k : Int) := by omega
            have hkL : k < L := by omega
            obtain ⟨x, ex⟩ : ∃ x, xs.getD k 0 = x := ⟨_, rfl⟩
            obtain ⟨y, ey⟩ : ∃ y, ys.getD k 0 = y := ⟨_, rfl⟩
            have hx := da.getD k
            have hy := db.getD k
            have EX := hide ex
            have EY := hide ey
            rw [ex] at h1 hx
            rw [ey] at h2 hy
            clear ex ey
            rcases Nat.lt_trichotomy x y with hxy | hxy | hxy
            · have t1 : decide ((x : Int) < (y : Int)) = true := decide_eq_true (by omega)
              have t1' : decide (x < y) = true := decide_eq_true hxy
              have hv : Hid (cmpN (valD xs) (valD ys) = -1) := cmpN_lt (cmp_top da HL2.out (k := k) (by have := HL.out; omega) (fun j hj => HE.out j (by omega)) (by rw [EX.out, EY.out]; exact hxy))
              go_wp2
              go_quiet (fail)
              go_wp2
              go_ret
              exact ⟨ret_int hv.out.symm, bw.trans (below_drew _ _ _)⟩
            · subst hxy
              go_wp2
              go_quiet (fail)
              go_wp2
              go_quiet (fail)
              go_wp2
              go_roundw
              case rel =>
                refine ⟨k, by omega, by go_num, fun j hj => ?_, bw.trans (below_drew _ _ _)⟩
                by_cases hjk : j = k
                · rw [hjk, EX.out, EY.out]
                · exact HE.out j (by omega)
              case measure => simp [intOf]
            · have t1 : decide ((x : Int) < (y : Int)) = false := decide_eq_false (by omega)
              have t1' : decide (x < y) = false := decide_eq_false (by omega)
              have t2 : decide ((y : Int) < (x : Int)) = true := decide_eq_true (by omega)
              have t2' : decide (y < x) = true := decide_eq_true hxy
              have hv : Hid (cmpN (valD xs) (valD ys) = 1) := cmpN_gt (cmp_top db HL2.out.symm (k := k) (by have := HL.out; have := HL2.out; omega) (fun j hj => (HE.out j (by omega)).symm) (by rw [EX.out, EY.out]; exact hxy))
              go_wp2
              go_quiet (fail)
              go_wp2
              go_quiet (fail)
              go_wp2
              go_ret
              exact ⟨ret_int hv.out.symm, (bw.trans (below_drew _ _ _)).trans (below_drew _ _ _)⟩
  · obtain ⟨o1, c1, rfl⟩ := ra.form
    obtain ⟨o2, c2, rfl⟩ := rb.form
    have hv := hide (fun h => cmpN_lt (len_lt (a := xs) da nb h))
    have hv' := hide (fun h => cmpN_gt (len_lt (b := xs) db na h))
    obtain ⟨L1, e1⟩ : ∃ L, xs.length = L := ⟨_, rfl⟩
    obtain ⟨L2, e2⟩ : ∃ L, ys.length = L := ⟨_, rfl⟩
    rw [e1, e2] at hv hv' hl ⊢
    clear ra rb e1 e2
    have t0 : ((L1 : Int) != (L2 : Int)) = true := by simp; omega
    rcases Nat.lt_or_ge L1 L2 with hlt | hge
    · have t1 : decide ((L1 : Int) < (L2 : Int)) = true := decide_eq_true (by omega)
      have t2 : decide (L1 < L2) = true := decide_eq_true hlt
      have hv := hide (hv.out hlt)
      clear hv'
      go_enter Tryz.func97, Tryz.ntmps97
      go_wp2
      go_ret
      exact ⟨ret_int hv.out.symm, Below.refl _ _⟩
    · have t1 : decide ((L1 : Int) < (L2 : Int)) = false := decide_eq_false (by omega)
      have t2 : decide (L1 < L2) = false := decide_eq_false (by omega)
      have hv := hide (hv'.out (by omega))
      clear hv'
      go_enter Tryz.func97, Tryz.ntmps97
      go_wp2
      go_ret
      exact ⟨ret_int hv.out.symm, Below.refl _ _⟩
end Go.Proofs.YtbengmceiaejeaaGreatDoor
