/- readFloat at a text of digits with a point. -/
import Derived.Test.YtbengmceiaejeaaGreatDoorFbR1
import Derived.Handy
import Derived.WalkMore
namespace Go.Proofs.YtbengmceiaejeaaGreatDoor
open Go.ChangeShapes Go.WideShapes Go.ChangeAt Go.RowKit

set_option maxHeartbeats 16000000 in
set_option maxRecDepth 100000 in
theorem rf_any0 (w : World) (s : ByteArray) (l : List UInt8) (z : Nat) (hs : s.size ≤ 1100) (hv : rdV l < 100000000000000000) (T : Txt s 0 l z) (E : Int) (X : (0 + l.length = s.size ∧ E = 0) ∨ (0 < rdV l ∧ ∃ r ng dl, Exp s (0 + l.length) r ng dl ∧ E = if ng then -((rdV dl : Nat) : Int) else ((rdV dl : Nat) : Int))) :
    Calls Tryz.prog 136 #[.string s] w fun x w' => x = .returned (.tuple #[.int .u64 ((rdV l : Nat) : Int), .int .i64 (if rdV l = 0 then 0 else E - ((l.length : Int) - 1 - (z : Int))), .bool false, .bool false, .bool false, .int .i64 (s.size : Int), .bool true]) ∧ w' = w := by
  have HX := hide X
  clear X
  obtain ⟨R, eR⟩ : ∃ R : Int, (if rdV l = 0 then (0 : Int) else E - ((l.length : Int) - 1 - (z : Int))) = R := ⟨_, rfl⟩
  obtain ⟨V, eV⟩ : ∃ V, rdV l = V := ⟨_, rfl⟩
  rw [eR, eV]
  have HR := hide eR
  have HW := hide eV
  clear eR eV
  have HT := hide T
  have hz12 := T.z1
  have hz22 := T.z2
  have hfit := T.fit
  have pp0 : 0 < s.size := by omega
  have pp1 : 1 < s.size := by omega
  have a0 := T.at_ 0 0 (by omega) rfl pp0
  have d0 := T.dig 0 (by omega) (by omega)
  have a1 := T.at_ 1 1 (by omega) rfl pp1
  have d1 : 46 ≤ (l.getD 1 0).toNat ∧ (l.getD 1 0).toNat ≤ 57 := by
    by_cases h : 1 = z
    · rw [h, T.dot]; omega
    · have := T.dig 1 (by omega) h; omega
  have hlen : 0 + 3 ≤ s.size := by omega
  rw [← a0] at d0
  rw [← a1] at d1
  obtain ⟨c1, ec1⟩ : ∃ c, (s[1]'pp1).toNat = c := ⟨_, rfl⟩
  obtain ⟨c0, ec0⟩ : ∃ c, (s[0]'pp0).toNat = c := ⟨_, rfl⟩
  rw [ec1] at d1
  rw [ec0] at d0
  have LW := fun w => lower_dig c1 d1.1 d1.2 w
  have hx1 : ((c1 : Int) == 120) = false := by simp; omega
  have h43 : ((c0 : Int) == 43) = false := by simp; omega
  have h4x : ((c0 : Int) == 45) = false := by simp; omega
  have hemp : ¬ s = ByteArray.empty := fun h => by rw [h] at pp0; exact absurd pp0 (by decide)
  clear a0 a1 T hz12 hz22 hfit
  go_enter Tryz.func136, Tryz.ntmps136
  go_wp2
  go_step3
  go_upto_region 12 with fail
  go_cut [54] (fun v wx => v = .bool false ∧ wx = w)
  case first =>
    by_cases h48 : c0 = 48
    · subst h48
      go_wp2_with (go_at_call 152; refine (LW _).mono ?_; rintro e w' ⟨rfl, hw⟩; replace hw := hw.symm; subst hw)
      go_meet
      case rel => exact ⟨rfl, rfl⟩
    · have hc0 : ((c0 : Int) == 48) = false := by simp; omega
      go_wp2
      go_meet
      case rel => exact ⟨rfl, rfl⟩
  case rest =>
    obtain ⟨rfl, hw⟩ := hcut
    replace hw := hw.symm
    subst hw
    clear LW hx1 d0 d1 ec0 ec1
    go_wp2
    go_step3
    go_wp2
    go_loop [2, 5, 7, 9, 13, 14, 15, 16, 17] (fun mt tr ix un dt dg nd nm dp => ∃ (j n q : Nat) (D : Int), j ≤ l.length ∧ 0 + j = q ∧ ix = .int .i64 (q : Int) ∧ mt = .int .u64 ((rdV (l.take j) : Nat) : Int) ∧ tr = .bool false ∧ un = .bool false ∧ dt = .bool (decide (z < j)) ∧ dg = .bool (decide (0 < j)) ∧ nd = .int .i64 (n : Int) ∧ nm = .int .i64 (n : Int) ∧ dp = .int .i64 D ∧ NdOk n (rdV (l.take j)) ∧ (z < j → D = (n : Int) - ((j : Int) - 1 - (z : Int))) ∧ (-2000 + (s.size : Int) - (q : Int) ≤ D ∧ D ≤ 2000)) (fun _ _ ix _ _ _ _ _ _ => s.size - (intOf ix).toNat)
    case atStart => exact ⟨0, 0, 0, 0, Nat.zero_le _, by omega, rfl, rfl, rfl, rfl, by simp, by simp, rfl, rfl, rfl, Or.inl ⟨rfl, rfl⟩, fun h => by omega, by omega, by omega⟩
    case round =>
      obtain ⟨j, n, q, D, hj, hq, rfl, rfl, rfl, rfl, rfl, rfl, rfl, rfl, rfl, hnd, hD, hDb⟩ := hrel
      have HND := hide hnd
      have HD := hide hD
      have hle := rdV_take_le l j
      have hvj : rdV (l.take j) < 100000000000000000 := by omega
      have hn17 := hnd.le hvj
      have fit := HT.out.fit
      by_cases hjl : j < l.length
      · have hqs : q < s.size := by omega
        have hx := HT.out.at_ j q hjl hq hqs
        have HS := hide (rdV_step l j hjl)
        obtain ⟨v, ev⟩ : ∃ v, rdV (l.take j) = v := ⟨_, rfl⟩
        have HV := hide ev
        rw [ev] at hvj ⊢
        obtain ⟨f, ef⟩ : ∃ f, q + 1 = f := ⟨_, rfl⟩
        have hq1 : (q : Int) + 1 = (f : Int) := by omega
        have HF := hide ef
        clear ef
        clear hnd hD hle ev
        by_cases hz : j = z
        · have hc : (s[q]'hqs).toNat = 46 := by rw [hx, hz]; exact HT.out.dot
          have hzj : decide (z < j) = false := decide_eq_false (by omega)
          rw [hzj]
          clear hzj
          have HJ := hide hz
          clear hz hx
          go_wp2
          have ef := HF.out
          refine ⟨⟨j + 1, n, f, (n : Int), by omega, by omega, rfl, ?_, rfl, rfl, ?_, ?_, rfl, rfl, rfl, ?_, ?_, by omega, by omega⟩, ?_⟩
          · rw [HS.out, rdS1, HJ.out, if_pos HT.out.dot, ← HJ.out, HV.out]
          · have := HJ.out; rw [decide_eq_true (by omega : z < j + 1)]
          · rw [decide_eq_true (by have := HJ.out; have := HT.out.z1; omega : 0 < j), decide_eq_true (by omega : 0 < j + 1)]
          · rw [HS.out, rdS1, HJ.out, if_pos HT.out.dot, ← HJ.out]; exact HND.out
          · intro _; have := HJ.out; omega
          · show s.size - ((f : Nat) : Int).toNat < s.size - ((q : Nat) : Int).toNat; omega
        · have hdg := HT.out.dig j hjl hz
          rw [← hx] at hdg
          have HZ := hide hz
          obtain ⟨c, ec⟩ : ∃ c, (s[q]'hqs).toNat = c := ⟨_, rfl⟩
          rw [ec] at hdg
          have HST : Hid (rdS1 v (l.getD j 0) = v * 10 + (c - 48)) := by refine hide ?_; unfold rdS1; rw [← hx, ec, if_neg (by omega)]
          clear hx hz
          by_cases h0 : c = 48 ∧ n = 0
          · obtain ⟨rfl, rfl⟩ := h0
            have hv0 := HND.out.zero rfl
            rw [HV.out] at hv0
            subst hv0
            go_wp2
            have ef := HF.out
            refine ⟨⟨j + 1, 0, f, D - 1, by omega, by omega, rfl, ?_, rfl, rfl, ?_, ?_, rfl, rfl, rfl, ?_, ?_, by omega, by omega⟩, ?_⟩
            · rw [HS.out, HV.out, HST.out]
            · have := HZ.out
              by_cases h : z < j
              · rw [decide_eq_true h, decide_eq_true (by omega : z < j + 1)]
              · rw [decide_eq_false h, decide_eq_false (by omega : ¬ z < j + 1)]
            · rw [decide_eq_true (by omega : 0 < j + 1)]
            · rw [HS.out, HV.out, HST.out]; exact Or.inl ⟨rfl, rfl⟩
            · intro h; have := HZ.out; have := HD.out (by omega); omega
            · show s.size - ((f : Nat) : Int).toNat < s.size - ((q : Nat) : Int).toNat; omega
          · have hnx := HND.out.next hdg h0
            rw [HV.out] at hnx
            obtain ⟨v10, ev10⟩ : ∃ x, v * 10 = x := ⟨_, rfl⟩
            obtain ⟨c8, ec8'⟩ : ∃ x, c - 48 = x := ⟨_, rfl⟩
            obtain ⟨v1, ev1⟩ : ∃ x, v10 + c8 = x := ⟨_, rfl⟩
            obtain ⟨n1, en1⟩ : ∃ x, n + 1 = x := ⟨_, rfl⟩
            have e10 : (v : Int) * 10 = (v10 : Int) := by omega
            have ec8 : (c : Int) - 48 = (c8 : Int) := by omega
            have e11 : (v10 : Int) + (c8 : Int) = (v1 : Int) := by omega
            have hc8 : c8 ≤ 9 := by omega
            have hn1 : (n : Int) + 1 = (n1 : Int) := by omega
            have hv10 : v10 < 1000000000000000000 := by omega
            have hv1 : v1 < 1000000000000000010 := by omega
            have HST2 : Hid (rdS1 v (l.getD j 0) = v1) := by refine hide ?_; rw [HST.out, ev10, ec8', ev1]
            rw [ev10, ec8', ev1, en1] at hnx
            have HNX := hide hnx
            clear ev10 ec8' ev1 en1 HST
            clear hnx
            by_cases h48 : c = 48
            · have hn0 : ((n : Int) == 0) = false := by simp; omega
              have hc48 : ((c : Int) == 48) = true := by simp; omega
              clear h0 h48
              go_wp2
              have ef := HF.out
              refine ⟨⟨j + 1, n1, f, D, by omega, by omega, rfl, ?_, rfl, rfl, ?_, ?_, rfl, rfl, rfl, ?_, ?_, by omega, by omega⟩, ?_⟩
              · rw [HS.out, HV.out, HST2.out]
              · have := HZ.out
                by_cases h : z < j
                · rw [decide_eq_true h, decide_eq_true (by omega : z < j + 1)]
                · rw [decide_eq_false h, decide_eq_false (by omega : ¬ z < j + 1)]
              · rw [decide_eq_true (by omega : 0 < j + 1)]
              · rw [HS.out, HV.out, HST2.out]; exact HNX.out
              · intro h; have := HZ.out; have := HD.out (by omega); omega
              · show s.size - ((f : Nat) : Int).toNat < s.size - ((q : Nat) : Int).toNat; omega
            · have hc48 : ((c : Int) == 48) = false := by simp; omega
              clear h0 h48
              go_wp2
              have ef := HF.out
              refine ⟨⟨j + 1, n1, f, D, by omega, by omega, rfl, ?_, rfl, rfl, ?_, ?_, rfl, rfl, rfl, ?_, ?_, by omega, by omega⟩, ?_⟩
              · rw [HS.out, HV.out, HST2.out]
              · have := HZ.out
                by_cases h : z < j
                · rw [decide_eq_true h, decide_eq_true (by omega : z < j + 1)]
                · rw [decide_eq_false h, decide_eq_false (by omega : ¬ z < j + 1)]
              · rw [decide_eq_true (by omega : 0 < j + 1)]
              · rw [HS.out, HV.out, HST2.out]; exact HNX.out
              · intro h; have := HZ.out; have := HD.out (by omega); omega
              · show s.size - ((f : Nat) : Int).toNat < s.size - ((q : Nat) : Int).toNat; omega
      · have hjL : j = l.length := by omega
        subst hjL
        rw [List.take_length] at hvj ⊢
        have hD' := HD.out (by have := HT.out.z2; omega)
        have ht1 : decide (z < l.length) = true := decide_eq_true (by have := HT.out.z2; omega)
        have ht2 : decide (0 < l.length) = true := decide_eq_true (by have := HT.out.z2; omega)
        rw [ht1, ht2]
        clear hnd hle hD
        rw [HW.out] at hvj ⊢
        have HXX := HX.out
        rw [HW.out] at HXX
        have HRR := HR.out
        rw [HW.out] at HRR
        clear HX HR HD
        rw [hq] at HXX
        rcases HXX with ⟨hend, hE⟩ | ⟨hv0, r, ng, dl, hx, hE⟩
        · have hqe : q = s.size := by omega
          subst hqe
          by_cases hv0 : V = 0
          · rw [if_pos hv0] at HRR
            subst hv0
            subst HRR
            clear hE
            go_wp2
            go_returns
            exact ⟨rfl, rfl⟩
          · rw [if_neg hv0] at HRR
            have hvn : ((V : Int) != 0) = true := by simp; omega
            have hex : D - (n : Int) = R := by omega
            clear HRR hE hD'
            go_wp2
            go_returns
            exact ⟨rfl, rfl⟩
        · cases ng
          · have er : r = q + 1 := hx.r_
            have hfit := hx.fit
            have hone := hx.one
            have hqs : q < s.size := by omega
            obtain ⟨f1, ef1⟩ : ∃ f1, q + 1 = f1 := ⟨_, rfl⟩
            have hf1s : f1 < s.size := by omega
            have x69 := hx.e69 hqs
            have i1 : (q : Int) + 1 = (f1 : Int) := by omega
            have xd := hx.at_ 0 f1 (by omega) (by omega) hf1s
            have dd := hx.dig 0 (by omega)
            rw [← xd] at dd
            obtain ⟨c2, ec2⟩ : ∃ c, (s[f1]'hf1s).toNat = c := ⟨_, rfl⟩
            rw [ec2] at dd
            have g43 : ((c2 : Int) == 43) = false := by simp; omega
            have g45 : ((c2 : Int) == 45) = false := by simp; omega
            have HXP := hide hx
            have hvn : ((V : Int) != 0) = true := by simp; omega
            have hsm := hx.small
            have HRE : Hid (D + ((rdV dl : Nat) : Int) - (n : Int) = R) := by refine hide ?_; rw [← HRR, if_neg (by omega), hE, hD']; simp; omega
            have HER : Hid (r = f1) := by refine hide ?_; omega
            clear hx xd HRR hE hD' hone hfit er ef1 
            go_wp2_with (go_at_call 152; refine (lower_E _).mono ?_; rintro e w' ⟨rfl, hw⟩; replace hw := hw.symm; subst hw)
            go_loop [7, 9, 20] (fun ix un ev => ∃ (j p : Nat), j ≤ dl.length ∧ r + j = p ∧ ix = .int .i64 (p : Int) ∧ un = .bool false ∧ ev = .int .i64 ((rdV (dl.take j) : Nat) : Int)) (fun ix _ _ => s.size - (intOf ix).toNat)
            case atStart => exact ⟨0, f1, Nat.zero_le _, by have := HER.out; omega, rfl, rfl, rfl⟩
            case round =>
              obtain ⟨j, p, hj2, hp, rfl, rfl, rfl⟩ := hrel
              have hle2 := rdV_take_le dl j
              have hfit := HXP.out.fit
              by_cases hjd : j < dl.length
              · have hps : p < s.size := by omega
                have hy := HXP.out.at_ j p hjd hp hps
                have hyd := HXP.out.dig j hjd
                rw [← hy] at hyd
                have HS2 := hide (rdV_step dl j hjd)
                obtain ⟨c, ec⟩ : ∃ c, (s[p]'hps).toNat = c := ⟨_, rfl⟩
                obtain ⟨v, ev⟩ : ∃ v, rdV (dl.take j) = v := ⟨_, rfl⟩
                rw [ec] at hyd
                obtain ⟨v10, ev10⟩ : ∃ x, v * 10 = x := ⟨_, rfl⟩
                obtain ⟨v11, ev11⟩ : ∃ x, v10 + c = x := ⟨_, rfl⟩
                obtain ⟨v12, ev12⟩ : ∃ x, v10 + (c - 48) = x := ⟨_, rfl⟩
                obtain ⟨p', ep'⟩ : ∃ x, p + 1 = x := ⟨_, rfl⟩
                have HT2 : Hid (rdV (dl.take (j + 1)) = v12) := by refine hide ?_; rw [HS2.out, ev, rdS1, ← hy, ec, if_neg (by omega), ev10, ev12]
                rw [ev] at hle2 ⊢
                have hv3 : v < 1000 := by omega
                have e10 : (v : Int) * 10 = (v10 : Int) := by omega
                have e11 : (v10 : Int) + (c : Int) = (v11 : Int) := by omega
                have e12 : (v11 : Int) - 48 = (v12 : Int) := by omega
                have hb1 : v10 < 10000 := by omega
                have hb2 : v11 < 11000 := by omega
                have g95 : ((c : Int) == 95) = false := by simp; omega
                have p1 : (p : Int) + 1 = (p' : Int) := by omega
                have HPP := hide ep'
                clear hy hle2 hfit ev10 ev11 ev12 ep'
                go_wp2
                have ep' := HPP.out
                refine ⟨⟨j + 1, p', by omega, by omega, rfl, rfl, by rw [HT2.out]⟩, ?_⟩
                show s.size - ((p' : Nat) : Int).toNat < s.size - ((p : Nat) : Int).toNat
                omega
              · have hjd2 : j = dl.length := by omega
                subst hjd2
                rw [List.take_length]
                have hpe : p = s.size := by omega
                have hre := HRE.out
                obtain ⟨v, ev⟩ : ∃ v, rdV dl = v := ⟨_, rfl⟩
                rw [ev] at hre hsm ⊢
                clear hle2 hfit
                subst hpe
                go_wp2
                go_returns
                exact ⟨rfl, rfl⟩
          · have er : r = q + 2 := hx.r_
            have hfit := hx.fit
            have hone := hx.one
            have hqs : q < s.size := by omega
            obtain ⟨f1, ef1⟩ : ∃ f1, q + 1 = f1 := ⟨_, rfl⟩
            have hf1s : f1 < s.size := by omega
            have x69 := hx.e69 hqs
            have i1 : (q : Int) + 1 = (f1 : Int) := by omega
            have x45 : (s[f1]'hf1s).toNat = 45 := by subst ef1; exact hx.e45 rfl hf1s
            obtain ⟨f2, ef2⟩ : ∃ f2, q + 2 = f2 := ⟨_, rfl⟩
            have hf2s : f2 < s.size := by omega
            have xd := hx.at_ 0 f2 (by omega) (by omega) hf2s
            have dd := hx.dig 0 (by omega)
            rw [← xd] at dd
            obtain ⟨c2, ec2⟩ : ∃ c, (s[f2]'hf2s).toNat = c := ⟨_, rfl⟩
            rw [ec2] at dd
            have i2 : (f1 : Int) + 1 = (f2 : Int) := by omega
            have HXP := hide hx
            have hvn : ((V : Int) != 0) = true := by simp; omega
            have hsm := hx.small
            have HRE : Hid (D + -((rdV dl : Nat) : Int) - (n : Int) = R) := by refine hide ?_; rw [← HRR, if_neg (by omega), hE, hD']; simp; omega
            have HER : Hid (r = f2) := by refine hide ?_; omega
            clear hx xd HRR hE hD' hone hfit er ef1 ef2
            go_wp2_with (go_at_call 152; refine (lower_E _).mono ?_; rintro e w' ⟨rfl, hw⟩; replace hw := hw.symm; subst hw)
            go_loop [7, 9, 20] (fun ix un ev => ∃ (j p : Nat), j ≤ dl.length ∧ r + j = p ∧ ix = .int .i64 (p : Int) ∧ un = .bool false ∧ ev = .int .i64 ((rdV (dl.take j) : Nat) : Int)) (fun ix _ _ => s.size - (intOf ix).toNat)
            case atStart => exact ⟨0, f2, Nat.zero_le _, by have := HER.out; omega, rfl, rfl, rfl⟩
            case round =>
              obtain ⟨j, p, hj2, hp, rfl, rfl, rfl⟩ := hrel
              have hle2 := rdV_take_le dl j
              have hfit := HXP.out.fit
              by_cases hjd : j < dl.length
              · have hps : p < s.size := by omega
                have hy := HXP.out.at_ j p hjd hp hps
                have hyd := HXP.out.dig j hjd
                rw [← hy] at hyd
                have HS2 := hide (rdV_step dl j hjd)
                obtain ⟨c, ec⟩ : ∃ c, (s[p]'hps).toNat = c := ⟨_, rfl⟩
                obtain ⟨v, ev⟩ : ∃ v, rdV (dl.take j) = v := ⟨_, rfl⟩
                rw [ec] at hyd
                obtain ⟨v10, ev10⟩ : ∃ x, v * 10 = x := ⟨_, rfl⟩
                obtain ⟨v11, ev11⟩ : ∃ x, v10 + c = x := ⟨_, rfl⟩
                obtain ⟨v12, ev12⟩ : ∃ x, v10 + (c - 48) = x := ⟨_, rfl⟩
                obtain ⟨p', ep'⟩ : ∃ x, p + 1 = x := ⟨_, rfl⟩
                have HT2 : Hid (rdV (dl.take (j + 1)) = v12) := by refine hide ?_; rw [HS2.out, ev, rdS1, ← hy, ec, if_neg (by omega), ev10, ev12]
                rw [ev] at hle2 ⊢
                have hv3 : v < 1000 := by omega
                have e10 : (v : Int) * 10 = (v10 : Int) := by omega
                have e11 : (v10 : Int) + (c : Int) = (v11 : Int) := by omega
                have e12 : (v11 : Int) - 48 = (v12 : Int) := by omega
                have hb1 : v10 < 10000 := by omega
                have hb2 : v11 < 11000 := by omega
                have g95 : ((c : Int) == 95) = false := by simp; omega
                have p1 : (p : Int) + 1 = (p' : Int) := by omega
                have HPP := hide ep'
                clear hy hle2 hfit ev10 ev11 ev12 ep'
                go_wp2
                have ep' := HPP.out
                refine ⟨⟨.int .i64 (p' : Int), .bool false, .int .i64 (v12 : Int), ⟨j + 1, by omega, ?_, rfl, ?_⟩, rfl, rfl, rfl⟩, ?_⟩
                · congr 1
                  omega
                · rw [HT2.out]
                · show s.size - ((p' : Nat) : Int).toNat < s.size - ((p : Nat) : Int).toNat
                  omega
              · have hjd2 : j = dl.length := by omega
                subst hjd2
                rw [List.take_length]
                have hpe : p = s.size := by omega
                have hre := HRE.out
                obtain ⟨v, ev⟩ : ∃ v, rdV dl = v := ⟨_, rfl⟩
                rw [ev] at hre hsm ⊢
                clear hle2 hfit
                subst hpe
                go_wp2
                go_returns
                exact ⟨rfl, rfl⟩
end Go.Proofs.YtbengmceiaejeaaGreatDoor
/- readFloat at a text of digits with a point. -/
namespace Go.Proofs.YtbengmceiaejeaaGreatDoor
open Go.ChangeShapes Go.WideShapes Go.ChangeAt Go.RowKit

set_option maxHeartbeats 16000000 in
set_option maxRecDepth 100000 in
theorem rf_any1 (w : World) (s : ByteArray) (l : List UInt8) (z : Nat) (hs : s.size ≤ 1100) (hv : rdV l < 100000000000000000) (T : Txt s 1 l z) (E : Int) (X : (1 + l.length = s.size ∧ E = 0) ∨ (0 < rdV l ∧ ∃ r ng dl, Exp s (1 + l.length) r ng dl ∧ E = if ng then -((rdV dl : Nat) : Int) else ((rdV dl : Nat) : Int))) (h45 : ∀ h : 0 < s.size, (s[0]'h).toNat = 45) :
    Calls Tryz.prog 136 #[.string s] w fun x w' => x = .returned (.tuple #[.int .u64 ((rdV l : Nat) : Int), .int .i64 (if rdV l = 0 then 0 else E - ((l.length : Int) - 1 - (z : Int))), .bool true, .bool false, .bool false, .int .i64 (s.size : Int), .bool true]) ∧ w' = w := by
  have HX := hide X
  clear X
  obtain ⟨R, eR⟩ : ∃ R : Int, (if rdV l = 0 then (0 : Int) else E - ((l.length : Int) - 1 - (z : Int))) = R := ⟨_, rfl⟩
  obtain ⟨V, eV⟩ : ∃ V, rdV l = V := ⟨_, rfl⟩
  rw [eR, eV]
  have HR := hide eR
  have HW := hide eV
  clear eR eV
  have HT := hide T
  have hz12 := T.z1
  have hz22 := T.z2
  have hfit := T.fit
  have pp0 : 1 < s.size := by omega
  have pp1 : 2 < s.size := by omega
  have a0 := T.at_ 0 1 (by omega) rfl pp0
  have d0 := T.dig 0 (by omega) (by omega)
  have a1 := T.at_ 1 2 (by omega) rfl pp1
  have d1 : 46 ≤ (l.getD 1 0).toNat ∧ (l.getD 1 0).toNat ≤ 57 := by
    by_cases h : 1 = z
    · rw [h, T.dot]; omega
    · have := T.dig 1 (by omega) h; omega
  have hlen : 1 + 3 ≤ s.size := by omega
  rw [← a0] at d0
  rw [← a1] at d1
  obtain ⟨c1, ec1⟩ : ∃ c, (s[2]'pp1).toNat = c := ⟨_, rfl⟩
  obtain ⟨c0, ec0⟩ : ∃ c, (s[1]'pp0).toNat = c := ⟨_, rfl⟩
  rw [ec1] at d1
  rw [ec0] at d0
  have LW := fun w => lower_dig c1 d1.1 d1.2 w
  have hx1 : ((c1 : Int) == 120) = false := by simp; omega
  have h43 : ((c0 : Int) == 43) = false := by simp; omega
  have h4x : ((c0 : Int) == 45) = false := by simp; omega
  have hemp : ¬ s = ByteArray.empty := fun h => by rw [h] at pp0; exact absurd pp0 (by decide)
  clear a0 a1 T hz12 hz22 hfit
  have h45' := h45 (by omega)
  clear h45
  go_enter Tryz.func136, Tryz.ntmps136
  go_wp2
  go_step3
  go_upto_region 12 with fail
  go_cut [54] (fun v wx => v = .bool false ∧ wx = w)
  case first =>
    by_cases h48 : c0 = 48
    · subst h48
      go_wp2_with (go_at_call 152; refine (LW _).mono ?_; rintro e w' ⟨rfl, hw⟩; replace hw := hw.symm; subst hw)
      go_meet
      case rel => exact ⟨rfl, rfl⟩
    · have hc0 : ((c0 : Int) == 48) = false := by simp; omega
      go_wp2
      go_meet
      case rel => exact ⟨rfl, rfl⟩
  case rest =>
    obtain ⟨rfl, hw⟩ := hcut
    replace hw := hw.symm
    subst hw
    clear LW hx1 d0 d1 ec0 ec1
    go_wp2
    go_step3
    go_wp2
    go_loop [2, 5, 7, 9, 13, 14, 15, 16, 17] (fun mt tr ix un dt dg nd nm dp => ∃ (j n q : Nat) (D : Int), j ≤ l.length ∧ 1 + j = q ∧ ix = .int .i64 (q : Int) ∧ mt = .int .u64 ((rdV (l.take j) : Nat) : Int) ∧ tr = .bool false ∧ un = .bool false ∧ dt = .bool (decide (z < j)) ∧ dg = .bool (decide (0 < j)) ∧ nd = .int .i64 (n : Int) ∧ nm = .int .i64 (n : Int) ∧ dp = .int .i64 D ∧ NdOk n (rdV (l.take j)) ∧ (z < j → D = (n : Int) - ((j : Int) - 1 - (z : Int))) ∧ (-2000 + (s.size : Int) - (q : Int) ≤ D ∧ D ≤ 2000)) (fun _ _ ix _ _ _ _ _ _ => s.size - (intOf ix).toNat)
    case atStart => exact ⟨0, 0, 1, 0, Nat.zero_le _, by omega, rfl, rfl, rfl, rfl, by simp, by simp, rfl, rfl, rfl, Or.inl ⟨rfl, rfl⟩, fun h => by omega, by omega, by omega⟩
    case round =>
      obtain ⟨j, n, q, D, hj, hq, rfl, rfl, rfl, rfl, rfl, rfl, rfl, rfl, rfl, hnd, hD, hDb⟩ := hrel
      have HND := hide hnd
      have HD := hide hD
      have hle := rdV_take_le l j
      have hvj : rdV (l.take j) < 100000000000000000 := by omega
      have hn17 := hnd.le hvj
      have fit := HT.out.fit
      by_cases hjl : j < l.length
      · have hqs : q < s.size := by omega
        have hx := HT.out.at_ j q hjl hq hqs
        have HS := hide (rdV_step l j hjl)
        obtain ⟨v, ev⟩ : ∃ v, rdV (l.take j) = v := ⟨_, rfl⟩
        have HV := hide ev
        rw [ev] at hvj ⊢
        obtain ⟨f, ef⟩ : ∃ f, q + 1 = f := ⟨_, rfl⟩
        have hq1 : (q : Int) + 1 = (f : Int) := by omega
        have HF := hide ef
        clear ef
        clear hnd hD hle ev
        by_cases hz : j = z
        · have hc : (s[q]'hqs).toNat = 46 := by rw [hx, hz]; exact HT.out.dot
          have hzj : decide (z < j) = false := decide_eq_false (by omega)
          rw [hzj]
          clear hzj
          have HJ := hide hz
          clear hz hx
          go_wp2
          have ef := HF.out
          refine ⟨⟨j + 1, n, f, (n : Int), by omega, by omega, rfl, ?_, rfl, rfl, ?_, ?_, rfl, rfl, rfl, ?_, ?_, by omega, by omega⟩, ?_⟩
          · rw [HS.out, rdS1, HJ.out, if_pos HT.out.dot, ← HJ.out, HV.out]
          · have := HJ.out; rw [decide_eq_true (by omega : z < j + 1)]
          · rw [decide_eq_true (by have := HJ.out; have := HT.out.z1; omega : 0 < j), decide_eq_true (by omega : 0 < j + 1)]
          · rw [HS.out, rdS1, HJ.out, if_pos HT.out.dot, ← HJ.out]; exact HND.out
          · intro _; have := HJ.out; omega
          · show s.size - ((f : Nat) : Int).toNat < s.size - ((q : Nat) : Int).toNat; omega
        · have hdg := HT.out.dig j hjl hz
          rw [← hx] at hdg
          have HZ := hide hz
          obtain ⟨c, ec⟩ : ∃ c, (s[q]'hqs).toNat = c := ⟨_, rfl⟩
          rw [ec] at hdg
          have HST : Hid (rdS1 v (l.getD j 0) = v * 10 + (c - 48)) := by refine hide ?_; unfold rdS1; rw [← hx, ec, if_neg (by omega)]
          clear hx hz
          by_cases h0 : c = 48 ∧ n = 0
          · obtain ⟨rfl, rfl⟩ := h0
            have hv0 := HND.out.zero rfl
            rw [HV.out] at hv0
            subst hv0
            go_wp2
            have ef := HF.out
            refine ⟨⟨j + 1, 0, f, D - 1, by omega, by omega, rfl, ?_, rfl, rfl, ?_, ?_, rfl, rfl, rfl, ?_, ?_, by omega, by omega⟩, ?_⟩
            · rw [HS.out, HV.out, HST.out]
            · have := HZ.out
              by_cases h : z < j
              · rw [decide_eq_true h, decide_eq_true (by omega : z < j + 1)]
              · rw [decide_eq_false h, decide_eq_false (by omega : ¬ z < j + 1)]
            · rw [decide_eq_true (by omega : 0 < j + 1)]
            · rw [HS.out, HV.out, HST.out]; exact Or.inl ⟨rfl, rfl⟩
            · intro h; have := HZ.out; have := HD.out (by omega); omega
            · show s.size - ((f : Nat) : Int).toNat < s.size - ((q : Nat) : Int).toNat; omega
          · have hnx := HND.out.next hdg h0
            rw [HV.out] at hnx
            obtain ⟨v10, ev10⟩ : ∃ x, v * 10 = x := ⟨_, rfl⟩
            obtain ⟨c8, ec8'⟩ : ∃ x, c - 48 = x := ⟨_, rfl⟩
            obtain ⟨v1, ev1⟩ : ∃ x, v10 + c8 = x := ⟨_, rfl⟩
            obtain ⟨n1, en1⟩ : ∃ x, n + 1 = x := ⟨_, rfl⟩
            have e10 : (v : Int) * 10 = (v10 : Int) := by omega
            have ec8 : (c : Int) - 48 = (c8 : Int) := by omega
            have e11 : (v10 : Int) + (c8 : Int) = (v1 : Int) := by omega
            have hc8 : c8 ≤ 9 := by omega
            have hn1 : (n : Int) + 1 = (n1 : Int) := by omega
            have hv10 : v10 < 1000000000000000000 := by omega
            have hv1 : v1 < 1000000000000000010 := by omega
            have HST2 : Hid (rdS1 v (l.getD j 0) = v1) := by refine hide ?_; rw [HST.out, ev10, ec8', ev1]
            rw [ev10, ec8', ev1, en1] at hnx
            have HNX := hide hnx
            clear ev10 ec8' ev1 en1 HST
            clear hnx
            by_cases h48 : c = 48
            · have hn0 : ((n : Int) == 0) = false := by simp; omega
              have hc48 : ((c : Int) == 48) = true := by simp; omega
              clear h0 h48
              go_wp2
              have ef := HF.out
              refine ⟨⟨j + 1, n1, f, D, by omega, by omega, rfl, ?_, rfl, rfl, ?_, ?_, rfl, rfl, rfl, ?_, ?_, by omega, by omega⟩, ?_⟩
              · rw [HS.out, HV.out, HST2.out]
              · have := HZ.out
                by_cases h : z < j
                · rw [decide_eq_true h, decide_eq_true (by omega : z < j + 1)]
                · rw [decide_eq_false h, decide_eq_false (by omega : ¬ z < j + 1)]
              · rw [decide_eq_true (by omega : 0 < j + 1)]
              · rw [HS.out, HV.out, HST2.out]; exact HNX.out
              · intro h; have := HZ.out; have := HD.out (by omega); omega
              · show s.size - ((f : Nat) : Int).toNat < s.size - ((q : Nat) : Int).toNat; omega
            · have hc48 : ((c : Int) == 48) = false := by simp; omega
              clear h0 h48
              go_wp2
              have ef := HF.out
              refine ⟨⟨j + 1, n1, f, D, by omega, by omega, rfl, ?_, rfl, rfl, ?_, ?_, rfl, rfl, rfl, ?_, ?_, by omega, by omega⟩, ?_⟩
              · rw [HS.out, HV.out, HST2.out]
              · have := HZ.out
                by_cases h : z < j
                · rw [decide_eq_true h, decide_eq_true (by omega : z < j + 1)]
                · rw [decide_eq_false h, decide_eq_false (by omega : ¬ z < j + 1)]
              · rw [decide_eq_true (by omega : 0 < j + 1)]
              · rw [HS.out, HV.out, HST2.out]; exact HNX.out
              · intro h; have := HZ.out; have := HD.out (by omega); omega
              · show s.size - ((f : Nat) : Int).toNat < s.size - ((q : Nat) : Int).toNat; omega
      · have hjL : j = l.length := by omega
        subst hjL
        rw [List.take_length] at hvj ⊢
        have hD' := HD.out (by have := HT.out.z2; omega)
        have ht1 : decide (z < l.length) = true := decide_eq_true (by have := HT.out.z2; omega)
        have ht2 : decide (0 < l.length) = true := decide_eq_true (by have := HT.out.z2; omega)
        rw [ht1, ht2]
        clear hnd hle hD
        rw [HW.out] at hvj ⊢
        have HXX := HX.out
        rw [HW.out] at HXX
        have HRR := HR.out
        rw [HW.out] at HRR
        clear HX HR HD
        rw [hq] at HXX
        rcases HXX with ⟨hend, hE⟩ | ⟨hv0, r, ng, dl, hx, hE⟩
        · have hqe : q = s.size := by omega
          subst hqe
          by_cases hv0 : V = 0
          · rw [if_pos hv0] at HRR
            subst hv0
            subst HRR
            clear hE
            go_wp2
            go_returns
            exact ⟨rfl, rfl⟩
          · rw [if_neg hv0] at HRR
            have hvn : ((V : Int) != 0) = true := by simp; omega
            have hex : D - (n : Int) = R := by omega
            clear HRR hE hD'
            go_wp2
            go_returns
            exact ⟨rfl, rfl⟩
        · cases ng
          · have er : r = q + 1 := hx.r_
            have hfit := hx.fit
            have hone := hx.one
            have hqs : q < s.size := by omega
            obtain ⟨f1, ef1⟩ : ∃ f1, q + 1 = f1 := ⟨_, rfl⟩
            have hf1s : f1 < s.size := by omega
            have x69 := hx.e69 hqs
            have i1 : (q : Int) + 1 = (f1 : Int) := by omega
            have xd := hx.at_ 0 f1 (by omega) (by omega) hf1s
            have dd := hx.dig 0 (by omega)
            rw [← xd] at dd
            obtain ⟨c2, ec2⟩ : ∃ c, (s[f1]'hf1s).toNat = c := ⟨_, rfl⟩
            rw [ec2] at dd
            have g43 : ((c2 : Int) == 43) = false := by simp; omega
            have g45 : ((c2 : Int) == 45) = false := by simp; omega
            have HXP := hide hx
            have hvn : ((V : Int) != 0) = true := by simp; omega
            have hsm := hx.small
            have HRE : Hid (D + ((rdV dl : Nat) : Int) - (n : Int) = R) := by refine hide ?_; rw [← HRR, if_neg (by omega), hE, hD']; simp; omega
            have HER : Hid (r = f1) := by refine hide ?_; omega
            clear hx xd HRR hE hD' hone hfit er ef1 
            go_wp2_with (go_at_call 152; refine (lower_E _).mono ?_; rintro e w' ⟨rfl, hw⟩; replace hw := hw.symm; subst hw)
            go_loop [7, 9, 20] (fun ix un ev => ∃ (j p : Nat), j ≤ dl.length ∧ r + j = p ∧ ix = .int .i64 (p : Int) ∧ un = .bool false ∧ ev = .int .i64 ((rdV (dl.take j) : Nat) : Int)) (fun ix _ _ => s.size - (intOf ix).toNat)
            case atStart => exact ⟨0, f1, Nat.zero_le _, by have := HER.out; omega, rfl, rfl, rfl⟩
            case round =>
              obtain ⟨j, p, hj2, hp, rfl, rfl, rfl⟩ := hrel
              have hle2 := rdV_take_le dl j
              have hfit := HXP.out.fit
              by_cases hjd : j < dl.length
              · have hps : p < s.size := by omega
                have hy := HXP.out.at_ j p hjd hp hps
                have hyd := HXP.out.dig j hjd
                rw [← hy] at hyd
                have HS2 := hide (rdV_step dl j hjd)
                obtain ⟨c, ec⟩ : ∃ c, (s[p]'hps).toNat = c := ⟨_, rfl⟩
                obtain ⟨v, ev⟩ : ∃ v, rdV (dl.take j) = v := ⟨_, rfl⟩
                rw [ec] at hyd
                obtain ⟨v10, ev10⟩ : ∃ x, v * 10 = x := ⟨_, rfl⟩
                obtain ⟨v11, ev11⟩ : ∃ x, v10 + c = x := ⟨_, rfl⟩
                obtain ⟨v12, ev12⟩ : ∃ x, v10 + (c - 48) = x := ⟨_, rfl⟩
                obtain ⟨p', ep'⟩ : ∃ x, p + 1 = x := ⟨_, rfl⟩
                have HT2 : Hid (rdV (dl.take (j + 1)) = v12) := by refine hide ?_; rw [HS2.out, ev, rdS1, ← hy, ec, if_neg (by omega), ev10, ev12]
                rw [ev] at hle2 ⊢
                have hv3 : v < 1000 := by omega
                have e10 : (v : Int) * 10 = (v10 : Int) := by omega
                have e11 : (v10 : Int) + (c : Int) = (v11 : Int) := by omega
                have e12 : (v11 : Int) - 48 = (v12 : Int) := by omega
                have hb1 : v10 < 10000 := by omega
                have hb2 : v11 < 11000 := by omega
                have g95 : ((c : Int) == 95) = false := by simp; omega
                have p1 : (p : Int) + 1 = (p' : Int) := by omega
                have HPP := hide ep'
                clear hy hle2 hfit ev10 ev11 ev12 ep'
                go_wp2
                have ep' := HPP.out
                refine ⟨⟨j + 1, p', by omega, by omega, rfl, rfl, by rw [HT2.out]⟩, ?_⟩
                show s.size - ((p' : Nat) : Int).toNat < s.size - ((p : Nat) : Int).toNat
                omega
              · have hjd2 : j = dl.length := by omega
                subst hjd2
                rw [List.take_length]
                have hpe : p = s.size := by omega
                have hre := HRE.out
                obtain ⟨v, ev⟩ : ∃ v, rdV dl = v := ⟨_, rfl⟩
                rw [ev] at hre hsm ⊢
                clear hle2 hfit
                subst hpe
                go_wp2
                go_returns
                exact ⟨rfl, rfl⟩
          · have er : r = q + 2 := hx.r_
            have hfit := hx.fit
            have hone := hx.one
            have hqs : q < s.size := by omega
            obtain ⟨f1, ef1⟩ : ∃ f1, q + 1 = f1 := ⟨_, rfl⟩
            have hf1s : f1 < s.size := by omega
            have x69 := hx.e69 hqs
            have i1 : (q : Int) + 1 = (f1 : Int) := by omega
            have x45 : (s[f1]'hf1s).toNat = 45 := by subst ef1; exact hx.e45 rfl hf1s
            obtain ⟨f2, ef2⟩ : ∃ f2, q + 2 = f2 := ⟨_, rfl⟩
            have hf2s : f2 < s.size := by omega
            have xd := hx.at_ 0 f2 (by omega) (by omega) hf2s
            have dd := hx.dig 0 (by omega)
            rw [← xd] at dd
            obtain ⟨c2, ec2⟩ : ∃ c, (s[f2]'hf2s).toNat = c := ⟨_, rfl⟩
            rw [ec2] at dd
            have i2 : (f1 : Int) + 1 = (f2 : Int) := by omega
            have HXP := hide hx
            have hvn : ((V : Int) != 0) = true := by simp; omega
            have hsm := hx.small
            have HRE : Hid (D + -((rdV dl : Nat) : Int) - (n : Int) = R) := by refine hide ?_; rw [← HRR, if_neg (by omega), hE, hD']; simp; omega
            have HER : Hid (r = f2) := by refine hide ?_; omega
            clear hx xd HRR hE hD' hone hfit er ef1 ef2
            go_wp2_with (go_at_call 152; refine (lower_E _).mono ?_; rintro e w' ⟨rfl, hw⟩; replace hw := hw.symm; subst hw)
            go_loop [7, 9, 20] (fun ix un ev => ∃ (j p : Nat), j ≤ dl.length ∧ r + j = p ∧ ix = .int .i64 (p : Int) ∧ un = .bool false ∧ ev = .int .i64 ((rdV (dl.take j) : Nat) : Int)) (fun ix _ _ => s.size - (intOf ix).toNat)
            case atStart => exact ⟨0, f2, Nat.zero_le _, by have := HER.out; omega, rfl, rfl, rfl⟩
            case round =>
              obtain ⟨j, p, hj2, hp, rfl, rfl, rfl⟩ := hrel
              have hle2 := rdV_take_le dl j
              have hfit := HXP.out.fit
              by_cases hjd : j < dl.length
              · have hps : p < s.size := by omega
                have hy := HXP.out.at_ j p hjd hp hps
                have hyd := HXP.out.dig j hjd
                rw [← hy] at hyd
                have HS2 := hide (rdV_step dl j hjd)
                obtain ⟨c, ec⟩ : ∃ c, (s[p]'hps).toNat = c := ⟨_, rfl⟩
                obtain ⟨v, ev⟩ : ∃ v, rdV (dl.take j) = v := ⟨_, rfl⟩
                rw [ec] at hyd
                obtain ⟨v10, ev10⟩ : ∃ x, v * 10 = x := ⟨_, rfl⟩
                obtain ⟨v11, ev11⟩ : ∃ x, v10 + c = x := ⟨_, rfl⟩
                obtain ⟨v12, ev12⟩ : ∃ x, v10 + (c - 48) = x := ⟨_, rfl⟩
                obtain ⟨p', ep'⟩ : ∃ x, p + 1 = x := ⟨_, rfl⟩
                have HT2 : Hid (rdV (dl.take (j + 1)) = v12) := by refine hide ?_; rw [HS2.out, ev, rdS1, ← hy, ec, if_neg (by omega), ev10, ev12]
                rw [ev] at hle2 ⊢
                have hv3 : v < 1000 := by omega
                have e10 : (v : Int) * 10 = (v10 : Int) := by omega
                have e11 : (v10 : Int) + (c : Int) = (v11 : Int) := by omega
                have e12 : (v11 : Int) - 48 = (v12 : Int) := by omega
                have hb1 : v10 < 10000 := by omega
                have hb2 : v11 < 11000 := by omega
                have g95 : ((c : Int) == 95) = false := by simp; omega
                have p1 : (p : Int) + 1 = (p' : Int) := by omega
                have HPP := hide ep'
                clear hy hle2 hfit ev10 ev11 ev12 ep'
                go_wp2
                have ep' := HPP.out
                refine ⟨⟨.int .i64 (p' : Int), .bool false, .int .i64 (v12 : Int), ⟨j + 1, by omega, ?_, rfl, ?_⟩, rfl, rfl, rfl⟩, ?_⟩
                · congr 1
                  omega
                · rw [HT2.out]
                · show s.size - ((p' : Nat) : Int).toNat < s.size - ((p : Nat) : Int).toNat
                  omega
              · have hjd2 : j = dl.length := by omega
                subst hjd2
                rw [List.take_length]
                have hpe : p = s.size := by omega
                have hre := HRE.out
                obtain ⟨v, ev⟩ : ∃ v, rdV dl = v := ⟨_, rfl⟩
                rw [ev] at hre hsm ⊢
                clear hle2 hfit
                subst hpe
                go_wp2
                go_returns
                exact ⟨rfl, rfl⟩
end Go.Proofs.YtbengmceiaejeaaGreatDoor
