/- What the document's own Scan answers, for every text. -/
import Derived.Test.YtjlogbpnehbbbaaDoorProg
import Derived.Test.YtjlogbpnehbbbaaDoorScan
import Derived.WalkKit
import Derived.ProofKit
import Derived.OpenShut
import Derived.WalkLawsBesides
import Derived.OwnWalk
namespace Go.Proofs.YtjlogbpnehbbbaaDoor
open Go.ChangeShapes Go.WideShapes Go.ChangeAt Go.RowKit

set_option maxHeartbeats 8000000 in
theorem rscan_any (s : ByteArray) (w : World) (hs : s.size ≤ maxLen) :
    Calls Tryd.prog 9 #[.string s] w fun e w' => e = .returned (.tuple #[.int .i64 (scan3 s.data.toList).1, .int .i64 (scan3 s.data.toList).2.1, .int .i64 (scan3 s.data.toList).2.2]) ∧ w' = w := by
  have HSZ := hide hs
  unfold maxLen at hs
  obtain ⟨R, HR⟩ : ∃ R, Hid (scan3 s.data.toList = R) := ⟨_, rfl⟩
  rw [HR.out]
  go_enter Tryd.func9, Tryd.ntmps9
  go_wp2
  go_loop [5] (fun i => ∃ k : Nat, k ≤ s.size ∧ i = .int .i64 k ∧ behind (s.data.toList.drop k) = behind s.data.toList) (fun i => s.size - (intOf i).toNat)
  case atStart => exact ⟨0, Nat.zero_le _, rfl, by simp⟩
  case round =>
    obtain ⟨k, hk, rfl, ha⟩ := hrel
    have HA := hide ha
    clear ha
    by_cases hlt : k < s.size
    · have HY := hide (behind_at_yes s k hlt)
      have HN := hide (behind_at_no s k hlt)
      have HSG := hide (sign_at s k hlt)
      have hc0 : ((s[k]'hlt).toNat : Int) ≤ 255 := by have := (s[k]'hlt).toNat_lt; omega
      obtain ⟨c, hc, hcb⟩ : ∃ c : Int, ((s[k]'hlt).toNat : Int) = c ∧ (0 ≤ c ∧ c ≤ 255) := ⟨_, rfl, by omega, hc0⟩
      have HC := hide hc
      clear hc0
      by_cases hb : 9 ≤ c ∧ c ≤ 13
      · have HB : Hid (blankI c = true) := by show _ = _; simp [blankI]; omega
        clear HSG
        go_wp2
        go_round
        case rel =>
          have e1 := HY.out
          rw [HC.out] at e1
          exact ⟨k + 1, by omega, by go_num, (e1 HB.out).trans HA.out⟩
        case measure => simp [intOf]; omega
      · by_cases hb2 : c = 32
        · have HB : Hid (blankI c = true) := by show _ = _; simp [blankI]; omega
          subst hb2
          clear HSG
          go_wp2
          go_round
          case rel =>
            have e1 := HY.out
            rw [HC.out] at e1
            exact ⟨k + 1, by omega, by go_num, (e1 HB.out).trans HA.out⟩
          case measure => simp [intOf]; omega
        · have HB : Hid (blankI c = false) := by show _ = _; simp [blankI]; omega
          have h32 : (c == 32) = false := by simpa using hb2
          have HR0 : Hid (s.data.toList.drop k = behind s.data.toList) := by
            have e1 := HN.out
            rw [HC.out] at e1
            exact (e1 HB.out).symm.trans HA.out
          clear HY HN HA HB
          have hcs : c < 9 ∨ 13 < c := by omega
          clear hb hb2
          have hsig : (c = 126 ∨ c = 45 ∨ c = 43) ∨ ((c == 126) = false ∧ (c == 45) = false ∧ (c == 43) = false) := by
            by_cases x : c = 126 <;> by_cases y : c = 45 <;> by_cases z : c = 43 <;> simp [x, y, z]
          rcases hsig with hsig | ⟨q1, q2, q3⟩
          · obtain ⟨b, hb⟩ : ∃ b : Bool, Hid (b = decide (c = 126 ∨ c = 45)) := ⟨_, rfl⟩
            obtain ⟨f, hf⟩ : ∃ f : Nat, Hid (f = k + 1) := ⟨_, rfl⟩
            have hfb : f ≤ s.size := by rw [hf.out]; omega
            have HSP : Hid (scan3 s.data.toList = if (dOf (s.data.toList.drop f)).length = 0 then (0, 0, 12) else (numV 10 (dOf (s.data.toList.drop f)) b, f + (dOf (s.data.toList.drop f)).length, numE 10 (dOf (s.data.toList.drop f)) b)) := by
              have e := HSG.out
              rw [HC.out] at e
              exact scan_at s k f b HR0.out (by rw [hf.out, e.1, if_pos hsig]) (by rw [hb.out, e.2]) hfb
            clear HSG HR0 HC
            have hfe : (k : Int) + 1 = (f : Int) := by have := hf.out; omega
            rcases hcs with hcs | hcs
            · exfalso; omega
            rcases hsig with rfl | rfl | rfl
            · have hbv : Hid (b = true) := by show _ = _; rw [hb.out]; decide
              clear hb
              go_wp2
              go_loop [5] (fun i => ∃ m : Nat, f ≤ m ∧ m ≤ s.size ∧ i = .int .i64 m ∧ dOf (s.data.toList.drop f) = (s.data.toList.drop f).take (m - f) ++ dOf (s.data.toList.drop m)) (fun i => s.size - (intOf i).toNat)
              case atStart => exact ⟨f, Nat.le_refl _, hfb, rfl, by simp⟩
              case round =>
                obtain ⟨m, hm1, hm2, rfl, hd⟩ := hrel
                have HD := hide hd
                clear hd
                have hmk : f ≤ m := by have := hf.out; omega
                have HN2 := hide (dOf_at_no s f m)
                by_cases hlt2 : m < s.size
                · have HY2 := hide (dOf_at_yes s f m hm1 hlt2)
                  have hd0 : ((s[m]'hlt2).toNat : Int) ≤ 255 := by have := (s[m]'hlt2).toNat_lt; omega
                  obtain ⟨c2, hc2, hcb2⟩ : ∃ c : Int, ((s[m]'hlt2).toNat : Int) = c ∧ (0 ≤ c ∧ c ≤ 255) := ⟨_, rfl, by omega, hd0⟩
                  have HC2 := hide hc2
                  clear hd0
                  by_cases hdg : 48 ≤ c2 ∧ c2 ≤ 57
                  · have HDI : Hid (digI c2 < 10) := (digI_lt c2).mpr hdg
                    go_wp2
                    go_round
                    case rel =>
                      have e1 := HY2.out
                      rw [HC2.out] at e1
                      exact ⟨m + 1, by omega, by omega, by go_num, e1 HDI.out HD.out⟩
                    case measure => simp [intOf]; omega
                  · have HNO : Hid (∀ h : m < s.size, ¬ digI ((s[m]'h).toNat : Int) < 10) := by
                      intro h
                      rw [HC2.out, digI_lt]
                      exact hdg
                    have hdc : c2 < 48 ∨ 57 < c2 := by omega
                    clear hdg HY2
                    rcases hdc with hdc | hdc
                    all_goals
                      have hex : dOf (s.data.toList.drop f) = (s.data.toList.drop f).take (m - f) := HN2.out HNO.out HD.out
                      have hlen : (dOf (s.data.toList.drop f)).length = m - f := by rw [hex, List.length_take, List.length_drop]; have := Lib.size_eq s; omega
                      have HLEN := hide hlen
                      have HEX := hide hex
                      clear hlen hex HD HN2 HNO
                      by_cases hz : m = f
                      · have hq : ((m : Int) == (f : Int)) = true := by have := hf.out; rw [beq_iff_eq]; omega
                        have HE : Hid (R = (0, 0, 12)) := by
                          show _ = _
                          rw [← HR.out, HSP.out, if_pos (by rw [HLEN.out]; omega)]
                        clear hz
                        go_wp2
                        go_ret3
                        exact ⟨ret_three (by rw [HE.out]) (by rw [HE.out]; rfl) (by rw [HE.out]), rfl⟩
                      · have hq : ((m : Int) == (f : Int)) = false := by
                          rw [beq_eq_false_iff_ne]; have := hf.out; omega
                        have HE : Hid (R = (numV 10 (dOf (s.data.toList.drop f)) b, m, numE 10 (dOf (s.data.toList.drop f)) b)) := by
                          show _ = _
                          rw [← HR.out, HSP.out, if_neg (by rw [HLEN.out]; omega), HLEN.out]
                          congr 2
                          omega
                        clear hz
                        obtain ⟨x, hx, hxs, HX⟩ : ∃ x : ByteArray, s.extract (f) m = x ∧ x.size ≤ s.size ∧ Hid (x.data.toList = dOf (s.data.toList.drop f)) := ⟨_, rfl, by rw [ByteArray.size_extract]; omega, by
                          show _ = _
                          rw [Lib.extract_data, HEX.out]⟩
                        have HDG : Hid (digsB 10 x.data.toList = true) := by show _ = _; rw [HX.out]; exact dOf_digs _
                        have hn := num_all (base := 10) (by omega) x.data.toList 0 (by omega) (by omega)
                        obtain ⟨n, en⟩ : ∃ n, numGo 10 0 x.data.toList = n := ⟨_, rfl⟩
                        rw [en] at hn
                        have hn1 := hn.1
                        have hn2 := hn.2.1
                        clear hn
                        have HV1 : Hid (numV 10 (dOf (s.data.toList.drop f)) b = ansV (sgn n true)) := by show _ = _; rw [← HX.out, ← en, hbv.out]; rfl
                        have HV2 : Hid (numE 10 (dOf (s.data.toList.drop f)) b = ansE (sgn n true)) := by show _ = _; rw [← HX.out, ← en, hbv.out]; rfl
                        go_wp2_with (first | (go_at_call 22; refine (number_any _ _ _ (by unfold maxLen; omega) (by omega) HDG.out).mono ?_; rintro e w' ⟨rfl, rfl⟩) | (go_at_call 21; refine (signed_any _ _ _ (by omega)).mono ?_; rintro e w' ⟨rfl, rfl⟩))
                        go_ret3
                        exact ⟨ret_three (by rw [HE.out]; exact HV1.out.symm) (by rw [HE.out]) (by rw [HE.out]; exact HV2.out.symm), rfl⟩
                · have HNO : Hid (∀ h : m < s.size, ¬ digI ((s[m]'h).toNat : Int) < 10) := fun h => absurd h hlt2
                  have hex : dOf (s.data.toList.drop f) = (s.data.toList.drop f).take (m - f) := HN2.out HNO.out HD.out
                  have hlen : (dOf (s.data.toList.drop f)).length = m - f := by rw [hex, List.length_take, List.length_drop]; have := Lib.size_eq s; omega
                  have HLEN := hide hlen
                  have HEX := hide hex
                  clear hlen hex HD HN2 HNO
                  by_cases hz : m = f
                  · have hq : ((m : Int) == (f : Int)) = true := by have := hf.out; rw [beq_iff_eq]; omega
                    have HE : Hid (R = (0, 0, 12)) := by
                      show _ = _
                      rw [← HR.out, HSP.out, if_pos (by rw [HLEN.out]; omega)]
                    clear hz
                    go_wp2
                    go_ret3
                    exact ⟨ret_three (by rw [HE.out]) (by rw [HE.out]; rfl) (by rw [HE.out]), rfl⟩
                  · have hq : ((m : Int) == (f : Int)) = false := by
                      rw [beq_eq_false_iff_ne]; have := hf.out; omega
                    have HE : Hid (R = (numV 10 (dOf (s.data.toList.drop f)) b, m, numE 10 (dOf (s.data.toList.drop f)) b)) := by
                      show _ = _
                      rw [← HR.out, HSP.out, if_neg (by rw [HLEN.out]; omega), HLEN.out]
                      congr 2
                      omega
                    clear hz
                    obtain ⟨x, hx, hxs, HX⟩ : ∃ x : ByteArray, s.extract (f) m = x ∧ x.size ≤ s.size ∧ Hid (x.data.toList = dOf (s.data.toList.drop f)) := ⟨_, rfl, by rw [ByteArray.size_extract]; omega, by
                      show _ = _
                      rw [Lib.extract_data, HEX.out]⟩
                    have HDG : Hid (digsB 10 x.data.toList = true) := by show _ = _; rw [HX.out]; exact dOf_digs _
                    have hn := num_all (base := 10) (by omega) x.data.toList 0 (by omega) (by omega)
                    obtain ⟨n, en⟩ : ∃ n, numGo 10 0 x.data.toList = n := ⟨_, rfl⟩
                    rw [en] at hn
                    have hn1 := hn.1
                    have hn2 := hn.2.1
                    clear hn
                    have HV1 : Hid (numV 10 (dOf (s.data.toList.drop f)) b = ansV (sgn n true)) := by show _ = _; rw [← HX.out, ← en, hbv.out]; rfl
                    have HV2 : Hid (numE 10 (dOf (s.data.toList.drop f)) b = ansE (sgn n true)) := by show _ = _; rw [← HX.out, ← en, hbv.out]; rfl
                    go_wp2_with (first | (go_at_call 22; refine (number_any _ _ _ (by unfold maxLen; omega) (by omega) HDG.out).mono ?_; rintro e w' ⟨rfl, rfl⟩) | (go_at_call 21; refine (signed_any _ _ _ (by omega)).mono ?_; rintro e w' ⟨rfl, rfl⟩))
                    go_ret3
                    exact ⟨ret_three (by rw [HE.out]; exact HV1.out.symm) (by rw [HE.out]) (by rw [HE.out]; exact HV2.out.symm), rfl⟩
            · have hbv : Hid (b = true) := by show _ = _; rw [hb.out]; decide
              clear hb
              go_wp2
              go_loop [5] (fun i => ∃ m : Nat, f ≤ m ∧ m ≤ s.size ∧ i = .int .i64 m ∧ dOf (s.data.toList.drop f) = (s.data.toList.drop f).take (m - f) ++ dOf (s.data.toList.drop m)) (fun i => s.size - (intOf i).toNat)
              case atStart => exact ⟨f, Nat.le_refl _, hfb, rfl, by simp⟩
              case round =>
                obtain ⟨m, hm1, hm2, rfl, hd⟩ := hrel
                have HD := hide hd
                clear hd
                have hmk : f ≤ m := by have := hf.out; omega
                have HN2 := hide (dOf_at_no s f m)
                by_cases hlt2 : m < s.size
                · have HY2 := hide (dOf_at_yes s f m hm1 hlt2)
                  have hd0 : ((s[m]'hlt2).toNat : Int) ≤ 255 := by have := (s[m]'hlt2).toNat_lt; omega
                  obtain ⟨c2, hc2, hcb2⟩ : ∃ c : Int, ((s[m]'hlt2).toNat : Int) = c ∧ (0 ≤ c ∧ c ≤ 255) := ⟨_, rfl, by omega, hd0⟩
                  have HC2 := hide hc2
                  clear hd0
                  by_cases hdg : 48 ≤ c2 ∧ c2 ≤ 57
                  · have HDI : Hid (digI c2 < 10) := (digI_lt c2).mpr hdg
                    go_wp2
                    go_round
                    case rel =>
                      have e1 := HY2.out
                      rw [HC2.out] at e1
                      exact ⟨m + 1, by omega, by omega, by go_num, e1 HDI.out HD.out⟩
                    case measure => simp [intOf]; omega
                  · have HNO : Hid (∀ h : m < s.size, ¬ digI ((s[m]'h).toNat : Int) < 10) := by
                      intro h
                      rw [HC2.out, digI_lt]
                      exact hdg
                    have hdc : c2 < 48 ∨ 57 < c2 := by omega
                    clear hdg HY2
                    rcases hdc with hdc | hdc
                    all_goals
                      have hex : dOf (s.data.toList.drop f) = (s.data.toList.drop f).take (m - f) := HN2.out HNO.out HD.out
                      have hlen : (dOf (s.data.toList.drop f)).length = m - f := by rw [hex, List.length_take, List.length_drop]; have := Lib.size_eq s; omega
                      have HLEN := hide hlen
                      have HEX := hide hex
                      clear hlen hex HD HN2 HNO
                      by_cases hz : m = f
                      · have hq : ((m : Int) == (f : Int)) = true := by have := hf.out; rw [beq_iff_eq]; omega
                        have HE : Hid (R = (0, 0, 12)) := by
                          show _ = _
                          rw [← HR.out, HSP.out, if_pos (by rw [HLEN.out]; omega)]
                        clear hz
                        go_wp2
                        go_ret3
                        exact ⟨ret_three (by rw [HE.out]) (by rw [HE.out]; rfl) (by rw [HE.out]), rfl⟩
                      · have hq : ((m : Int) == (f : Int)) = false := by
                          rw [beq_eq_false_iff_ne]; have := hf.out; omega
                        have HE : Hid (R = (numV 10 (dOf (s.data.toList.drop f)) b, m, numE 10 (dOf (s.data.toList.drop f)) b)) := by
                          show _ = _
                          rw [← HR.out, HSP.out, if_neg (by rw [HLEN.out]; omega), HLEN.out]
                          congr 2
                          omega
                        clear hz
                        obtain ⟨x, hx, hxs, HX⟩ : ∃ x : ByteArray, s.extract (f) m = x ∧ x.size ≤ s.size ∧ Hid (x.data.toList = dOf (s.data.toList.drop f)) := ⟨_, rfl, by rw [ByteArray.size_extract]; omega, by
                          show _ = _
                          rw [Lib.extract_data, HEX.out]⟩
                        have HDG : Hid (digsB 10 x.data.toList = true) := by show _ = _; rw [HX.out]; exact dOf_digs _
                        have hn := num_all (base := 10) (by omega) x.data.toList 0 (by omega) (by omega)
                        obtain ⟨n, en⟩ : ∃ n, numGo 10 0 x.data.toList = n := ⟨_, rfl⟩
                        rw [en] at hn
                        have hn1 := hn.1
                        have hn2 := hn.2.1
                        clear hn
                        have HV1 : Hid (numV 10 (dOf (s.data.toList.drop f)) b = ansV (sgn n true)) := by show _ = _; rw [← HX.out, ← en, hbv.out]; rfl
                        have HV2 : Hid (numE 10 (dOf (s.data.toList.drop f)) b = ansE (sgn n true)) := by show _ = _; rw [← HX.out, ← en, hbv.out]; rfl
                        go_wp2_with (first | (go_at_call 22; refine (number_any _ _ _ (by unfold maxLen; omega) (by omega) HDG.out).mono ?_; rintro e w' ⟨rfl, rfl⟩) | (go_at_call 21; refine (signed_any _ _ _ (by omega)).mono ?_; rintro e w' ⟨rfl, rfl⟩))
                        go_ret3
                        exact ⟨ret_three (by rw [HE.out]; exact HV1.out.symm) (by rw [HE.out]) (by rw [HE.out]; exact HV2.out.symm), rfl⟩
                · have HNO : Hid (∀ h : m < s.size, ¬ digI ((s[m]'h).toNat : Int) < 10) := fun h => absurd h hlt2
                  have hex : dOf (s.data.toList.drop f) = (s.data.toList.drop f).take (m - f) := HN2.out HNO.out HD.out
                  have hlen : (dOf (s.data.toList.drop f)).length = m - f := by rw [hex, List.length_take, List.length_drop]; have := Lib.size_eq s; omega
                  have HLEN := hide hlen
                  have HEX := hide hex
                  clear hlen hex HD HN2 HNO
                  by_cases hz : m = f
                  · have hq : ((m : Int) == (f : Int)) = true := by have := hf.out; rw [beq_iff_eq]; omega
                    have HE : Hid (R = (0, 0, 12)) := by
                      show _ = _
                      rw [← HR.out, HSP.out, if_pos (by rw [HLEN.out]; omega)]
                    clear hz
                    go_wp2
                    go_ret3
                    exact ⟨ret_three (by rw [HE.out]) (by rw [HE.out]; rfl) (by rw [HE.out]), rfl⟩
                  · have hq : ((m : Int) == (f : Int)) = false := by
                      rw [beq_eq_false_iff_ne]; have := hf.out; omega
                    have HE : Hid (R = (numV 10 (dOf (s.data.toList.drop f)) b, m, numE 10 (dOf (s.data.toList.drop f)) b)) := by
                      show _ = _
                      rw [← HR.out, HSP.out, if_neg (by rw [HLEN.out]; omega), HLEN.out]
                      congr 2
                      omega
                    clear hz
                    obtain ⟨x, hx, hxs, HX⟩ : ∃ x : ByteArray, s.extract (f) m = x ∧ x.size ≤ s.size ∧ Hid (x.data.toList = dOf (s.data.toList.drop f)) := ⟨_, rfl, by rw [ByteArray.size_extract]; omega, by
                      show _ = _
                      rw [Lib.extract_data, HEX.out]⟩
                    have HDG : Hid (digsB 10 x.data.toList = true) := by show _ = _; rw [HX.out]; exact dOf_digs _
                    have hn := num_all (base := 10) (by omega) x.data.toList 0 (by omega) (by omega)
                    obtain ⟨n, en⟩ : ∃ n, numGo 10 0 x.data.toList = n := ⟨_, rfl⟩
                    rw [en] at hn
                    have hn1 := hn.1
                    have hn2 := hn.2.1
                    clear hn
                    have HV1 : Hid (numV 10 (dOf (s.data.toList.drop f)) b = ansV (sgn n true)) := by show _ = _; rw [← HX.out, ← en, hbv.out]; rfl
                    have HV2 : Hid (numE 10 (dOf (s.data.toList.drop f)) b = ansE (sgn n true)) := by show _ = _; rw [← HX.out, ← en, hbv.out]; rfl
                    go_wp2_with (first | (go_at_call 22; refine (number_any _ _ _ (by unfold maxLen; omega) (by omega) HDG.out).mono ?_; rintro e w' ⟨rfl, rfl⟩) | (go_at_call 21; refine (signed_any _ _ _ (by omega)).mono ?_; rintro e w' ⟨rfl, rfl⟩))
                    go_ret3
                    exact ⟨ret_three (by rw [HE.out]; exact HV1.out.symm) (by rw [HE.out]) (by rw [HE.out]; exact HV2.out.symm), rfl⟩
            · have hbv : Hid (b = false) := by show _ = _; rw [hb.out]; decide
              clear hb
              go_wp2
              go_loop [5] (fun i => ∃ m : Nat, f ≤ m ∧ m ≤ s.size ∧ i = .int .i64 m ∧ dOf (s.data.toList.drop f) = (s.data.toList.drop f).take (m - f) ++ dOf (s.data.toList.drop m)) (fun i => s.size - (intOf i).toNat)
              case atStart => exact ⟨f, Nat.le_refl _, hfb, rfl, by simp⟩
              case round =>
                obtain ⟨m, hm1, hm2, rfl, hd⟩ := hrel
                have HD := hide hd
                clear hd
                have hmk : f ≤ m := by have := hf.out; omega
                have HN2 := hide (dOf_at_no s f m)
                by_cases hlt2 : m < s.size
                · have HY2 := hide (dOf_at_yes s f m hm1 hlt2)
                  have hd0 : ((s[m]'hlt2).toNat : Int) ≤ 255 := by have := (s[m]'hlt2).toNat_lt; omega
                  obtain ⟨c2, hc2, hcb2⟩ : ∃ c : Int, ((s[m]'hlt2).toNat : Int) = c ∧ (0 ≤ c ∧ c ≤ 255) := ⟨_, rfl, by omega, hd0⟩
                  have HC2 := hide hc2
                  clear hd0
                  by_cases hdg : 48 ≤ c2 ∧ c2 ≤ 57
                  · have HDI : Hid (digI c2 < 10) := (digI_lt c2).mpr hdg
                    go_wp2
                    go_round
                    case rel =>
                      have e1 := HY2.out
                      rw [HC2.out] at e1
                      exact ⟨m + 1, by omega, by omega, by go_num, e1 HDI.out HD.out⟩
                    case measure => simp [intOf]; omega
                  · have HNO : Hid (∀ h : m < s.size, ¬ digI ((s[m]'h).toNat : Int) < 10) := by
                      intro h
                      rw [HC2.out, digI_lt]
                      exact hdg
                    have hdc : c2 < 48 ∨ 57 < c2 := by omega
                    clear hdg HY2
                    rcases hdc with hdc | hdc
                    all_goals
                      have hex : dOf (s.data.toList.drop f) = (s.data.toList.drop f).take (m - f) := HN2.out HNO.out HD.out
                      have hlen : (dOf (s.data.toList.drop f)).length = m - f := by rw [hex, List.length_take, List.length_drop]; have := Lib.size_eq s; omega
                      have HLEN := hide hlen
                      have HEX := hide hex
                      clear hlen hex HD HN2 HNO
                      by_cases hz : m = f
                      · have hq : ((m : Int) == (f : Int)) = true := by have := hf.out; rw [beq_iff_eq]; omega
                        have HE : Hid (R = (0, 0, 12)) := by
                          show _ = _
                          rw [← HR.out, HSP.out, if_pos (by rw [HLEN.out]; omega)]
                        clear hz
                        go_wp2
                        go_ret3
                        exact ⟨ret_three (by rw [HE.out]) (by rw [HE.out]; rfl) (by rw [HE.out]), rfl⟩
                      · have hq : ((m : Int) == (f : Int)) = false := by
                          rw [beq_eq_false_iff_ne]; have := hf.out; omega
                        have HE : Hid (R = (numV 10 (dOf (s.data.toList.drop f)) b, m, numE 10 (dOf (s.data.toList.drop f)) b)) := by
                          show _ = _
                          rw [← HR.out, HSP.out, if_neg (by rw [HLEN.out]; omega), HLEN.out]
                          congr 2
                          omega
                        clear hz
                        obtain ⟨x, hx, hxs, HX⟩ : ∃ x : ByteArray, s.extract (f) m = x ∧ x.size ≤ s.size ∧ Hid (x.data.toList = dOf (s.data.toList.drop f)) := ⟨_, rfl, by rw [ByteArray.size_extract]; omega, by
                          show _ = _
                          rw [Lib.extract_data, HEX.out]⟩
                        have HDG : Hid (digsB 10 x.data.toList = true) := by show _ = _; rw [HX.out]; exact dOf_digs _
                        have hn := num_all (base := 10) (by omega) x.data.toList 0 (by omega) (by omega)
                        obtain ⟨n, en⟩ : ∃ n, numGo 10 0 x.data.toList = n := ⟨_, rfl⟩
                        rw [en] at hn
                        have hn1 := hn.1
                        have hn2 := hn.2.1
                        clear hn
                        have HV1 : Hid (numV 10 (dOf (s.data.toList.drop f)) b = ansV (sgn n false)) := by show _ = _; rw [← HX.out, ← en, hbv.out]; rfl
                        have HV2 : Hid (numE 10 (dOf (s.data.toList.drop f)) b = ansE (sgn n false)) := by show _ = _; rw [← HX.out, ← en, hbv.out]; rfl
                        go_wp2_with (first | (go_at_call 22; refine (number_any _ _ _ (by unfold maxLen; omega) (by omega) HDG.out).mono ?_; rintro e w' ⟨rfl, rfl⟩) | (go_at_call 21; refine (signed_any _ _ _ (by omega)).mono ?_; rintro e w' ⟨rfl, rfl⟩))
                        go_ret3
                        exact ⟨ret_three (by rw [HE.out]; exact HV1.out.symm) (by rw [HE.out]) (by rw [HE.out]; exact HV2.out.symm), rfl⟩
                · have HNO : Hid (∀ h : m < s.size, ¬ digI ((s[m]'h).toNat : Int) < 10) := fun h => absurd h hlt2
                  have hex : dOf (s.data.toList.drop f) = (s.data.toList.drop f).take (m - f) := HN2.out HNO.out HD.out
                  have hlen : (dOf (s.data.toList.drop f)).length = m - f := by rw [hex, List.length_take, List.length_drop]; have := Lib.size_eq s; omega
                  have HLEN := hide hlen
                  have HEX := hide hex
                  clear hlen hex HD HN2 HNO
                  by_cases hz : m = f
                  · have hq : ((m : Int) == (f : Int)) = true := by have := hf.out; rw [beq_iff_eq]; omega
                    have HE : Hid (R = (0, 0, 12)) := by
                      show _ = _
                      rw [← HR.out, HSP.out, if_pos (by rw [HLEN.out]; omega)]
                    clear hz
                    go_wp2
                    go_ret3
                    exact ⟨ret_three (by rw [HE.out]) (by rw [HE.out]; rfl) (by rw [HE.out]), rfl⟩
                  · have hq : ((m : Int) == (f : Int)) = false := by
                      rw [beq_eq_false_iff_ne]; have := hf.out; omega
                    have HE : Hid (R = (numV 10 (dOf (s.data.toList.drop f)) b, m, numE 10 (dOf (s.data.toList.drop f)) b)) := by
                      show _ = _
                      rw [← HR.out, HSP.out, if_neg (by rw [HLEN.out]; omega), HLEN.out]
                      congr 2
                      omega
                    clear hz
                    obtain ⟨x, hx, hxs, HX⟩ : ∃ x : ByteArray, s.extract (f) m = x ∧ x.size ≤ s.size ∧ Hid (x.data.toList = dOf (s.data.toList.drop f)) := ⟨_, rfl, by rw [ByteArray.size_extract]; omega, by
                      show _ = _
                      rw [Lib.extract_data, HEX.out]⟩
                    have HDG : Hid (digsB 10 x.data.toList = true) := by show _ = _; rw [HX.out]; exact dOf_digs _
                    have hn := num_all (base := 10) (by omega) x.data.toList 0 (by omega) (by omega)
                    obtain ⟨n, en⟩ : ∃ n, numGo 10 0 x.data.toList = n := ⟨_, rfl⟩
                    rw [en] at hn
                    have hn1 := hn.1
                    have hn2 := hn.2.1
                    clear hn
                    have HV1 : Hid (numV 10 (dOf (s.data.toList.drop f)) b = ansV (sgn n false)) := by show _ = _; rw [← HX.out, ← en, hbv.out]; rfl
                    have HV2 : Hid (numE 10 (dOf (s.data.toList.drop f)) b = ansE (sgn n false)) := by show _ = _; rw [← HX.out, ← en, hbv.out]; rfl
                    go_wp2_with (first | (go_at_call 22; refine (number_any _ _ _ (by unfold maxLen; omega) (by omega) HDG.out).mono ?_; rintro e w' ⟨rfl, rfl⟩) | (go_at_call 21; refine (signed_any _ _ _ (by omega)).mono ?_; rintro e w' ⟨rfl, rfl⟩))
                    go_ret3
                    exact ⟨ret_three (by rw [HE.out]; exact HV1.out.symm) (by rw [HE.out]) (by rw [HE.out]; exact HV2.out.symm), rfl⟩
          · obtain ⟨b, hb⟩ : ∃ b : Bool, Hid (b = false) := ⟨_, rfl⟩
            have hbv := hb
            clear hb
            obtain ⟨f, hf⟩ : ∃ f : Nat, Hid (f = k) := ⟨_, rfl⟩
            have hfb : f ≤ s.size := by rw [hf.out]; omega
            have HSP : Hid (scan3 s.data.toList = if (dOf (s.data.toList.drop f)).length = 0 then (0, 0, 12) else (numV 10 (dOf (s.data.toList.drop f)) b, f + (dOf (s.data.toList.drop f)).length, numE 10 (dOf (s.data.toList.drop f)) b)) := by
              have e := HSG.out
              rw [HC.out] at e
              have n1 : ¬ c = 126 := by simpa using q1
              have n2 : ¬ c = 45 := by simpa using q2
              have n3 : ¬ c = 43 := by simpa using q3
              exact scan_at s k f b HR0.out (by rw [hf.out, e.1, if_neg (by omega)]; rfl) (by rw [hbv.out, e.2]; simp [n1, n2]) hfb
            clear HSG HR0 HC
            rcases hcs with hcs | hcs
            · go_wp2
              go_loop [5] (fun i => ∃ m : Nat, f ≤ m ∧ m ≤ s.size ∧ i = .int .i64 m ∧ dOf (s.data.toList.drop f) = (s.data.toList.drop f).take (m - f) ++ dOf (s.data.toList.drop m)) (fun i => s.size - (intOf i).toNat)
              case atStart => exact ⟨f, Nat.le_refl _, hfb, (by rw [hf.out]), by simp⟩
              case round =>
                obtain ⟨m, hm1, hm2, rfl, hd⟩ := hrel
                have HD := hide hd
                clear hd
                have hmk : k ≤ m := by have := hf.out; omega
                have HN2 := hide (dOf_at_no s f m)
                by_cases hlt2 : m < s.size
                · have HY2 := hide (dOf_at_yes s f m hm1 hlt2)
                  have hd0 : ((s[m]'hlt2).toNat : Int) ≤ 255 := by have := (s[m]'hlt2).toNat_lt; omega
                  obtain ⟨c2, hc2, hcb2⟩ : ∃ c : Int, ((s[m]'hlt2).toNat : Int) = c ∧ (0 ≤ c ∧ c ≤ 255) := ⟨_, rfl, by omega, hd0⟩
                  have HC2 := hide hc2
                  clear hd0
                  by_cases hdg : 48 ≤ c2 ∧ c2 ≤ 57
                  · have HDI : Hid (digI c2 < 10) := (digI_lt c2).mpr hdg
                    go_wp2
                    go_round
                    case rel =>
                      have e1 := HY2.out
                      rw [HC2.out] at e1
                      exact ⟨m + 1, by omega, by omega, by go_num, e1 HDI.out HD.out⟩
                    case measure => simp [intOf]; omega
                  · have HNO : Hid (∀ h : m < s.size, ¬ digI ((s[m]'h).toNat : Int) < 10) := by
                      intro h
                      rw [HC2.out, digI_lt]
                      exact hdg
                    have hdc : c2 < 48 ∨ 57 < c2 := by omega
                    clear hdg HY2
                    rcases hdc with hdc | hdc
                    all_goals
                      have hex : dOf (s.data.toList.drop f) = (s.data.toList.drop f).take (m - f) := HN2.out HNO.out HD.out
                      have hlen : (dOf (s.data.toList.drop f)).length = m - f := by rw [hex, List.length_take, List.length_drop]; have := Lib.size_eq s; omega
                      have HLEN := hide hlen
                      have HEX := hide hex
                      clear hlen hex HD HN2 HNO
                      by_cases hz : m = f
                      · have hq : ((m : Int) == (k : Int)) = true := by have := hf.out; rw [beq_iff_eq]; omega
                        have HE : Hid (R = (0, 0, 12)) := by
                          show _ = _
                          rw [← HR.out, HSP.out, if_pos (by rw [HLEN.out]; omega)]
                        clear hz
                        go_wp2
                        go_ret3
                        exact ⟨ret_three (by rw [HE.out]) (by rw [HE.out]; rfl) (by rw [HE.out]), rfl⟩
                      · have hq : ((m : Int) == (k : Int)) = false := by
                          rw [beq_eq_false_iff_ne]; have := hf.out; omega
                        have HE : Hid (R = (numV 10 (dOf (s.data.toList.drop f)) b, m, numE 10 (dOf (s.data.toList.drop f)) b)) := by
                          show _ = _
                          rw [← HR.out, HSP.out, if_neg (by rw [HLEN.out]; omega), HLEN.out]
                          congr 2
                          omega
                        clear hz
                        obtain ⟨x, hx, hxs, HX⟩ : ∃ x : ByteArray, s.extract (k) m = x ∧ x.size ≤ s.size ∧ Hid (x.data.toList = dOf (s.data.toList.drop f)) := ⟨_, rfl, by rw [ByteArray.size_extract]; omega, by
                          show _ = _
                          rw [Lib.extract_data, HEX.out, hf.out]⟩
                        have HDG : Hid (digsB 10 x.data.toList = true) := by show _ = _; rw [HX.out]; exact dOf_digs _
                        have hn := num_all (base := 10) (by omega) x.data.toList 0 (by omega) (by omega)
                        obtain ⟨n, en⟩ : ∃ n, numGo 10 0 x.data.toList = n := ⟨_, rfl⟩
                        rw [en] at hn
                        have hn1 := hn.1
                        have hn2 := hn.2.1
                        clear hn
                        have HV1 : Hid (numV 10 (dOf (s.data.toList.drop f)) b = ansV (sgn n false)) := by show _ = _; rw [← HX.out, ← en, hbv.out]; rfl
                        have HV2 : Hid (numE 10 (dOf (s.data.toList.drop f)) b = ansE (sgn n false)) := by show _ = _; rw [← HX.out, ← en, hbv.out]; rfl
                        go_wp2_with (first | (go_at_call 22; refine (number_any _ _ _ (by unfold maxLen; omega) (by omega) HDG.out).mono ?_; rintro e w' ⟨rfl, rfl⟩) | (go_at_call 21; refine (signed_any _ _ _ (by omega)).mono ?_; rintro e w' ⟨rfl, rfl⟩))
                        go_ret3
                        exact ⟨ret_three (by rw [HE.out]; exact HV1.out.symm) (by rw [HE.out]) (by rw [HE.out]; exact HV2.out.symm), rfl⟩
                · have HNO : Hid (∀ h : m < s.size, ¬ digI ((s[m]'h).toNat : Int) < 10) := fun h => absurd h hlt2
                  have hex : dOf (s.data.toList.drop f) = (s.data.toList.drop f).take (m - f) := HN2.out HNO.out HD.out
                  have hlen : (dOf (s.data.toList.drop f)).length = m - f := by rw [hex, List.length_take, List.length_drop]; have := Lib.size_eq s; omega
                  have HLEN := hide hlen
                  have HEX := hide hex
                  clear hlen hex HD HN2 HNO
                  by_cases hz : m = f
                  · have hq : ((m : Int) == (k : Int)) = true := by have := hf.out; rw [beq_iff_eq]; omega
                    have HE : Hid (R = (0, 0, 12)) := by
                      show _ = _
                      rw [← HR.out, HSP.out, if_pos (by rw [HLEN.out]; omega)]
                    clear hz
                    go_wp2
                    go_ret3
                    exact ⟨ret_three (by rw [HE.out]) (by rw [HE.out]; rfl) (by rw [HE.out]), rfl⟩
                  · have hq : ((m : Int) == (k : Int)) = false := by
                      rw [beq_eq_false_iff_ne]; have := hf.out; omega
                    have HE : Hid (R = (numV 10 (dOf (s.data.toList.drop f)) b, m, numE 10 (dOf (s.data.toList.drop f)) b)) := by
                      show _ = _
                      rw [← HR.out, HSP.out, if_neg (by rw [HLEN.out]; omega), HLEN.out]
                      congr 2
                      omega
                    clear hz
                    obtain ⟨x, hx, hxs, HX⟩ : ∃ x : ByteArray, s.extract (k) m = x ∧ x.size ≤ s.size ∧ Hid (x.data.toList = dOf (s.data.toList.drop f)) := ⟨_, rfl, by rw [ByteArray.size_extract]; omega, by
                      show _ = _
                      rw [Lib.extract_data, HEX.out, hf.out]⟩
                    have HDG : Hid (digsB 10 x.data.toList = true) := by show _ = _; rw [HX.out]; exact dOf_digs _
                    have hn := num_all (base := 10) (by omega) x.data.toList 0 (by omega) (by omega)
                    obtain ⟨n, en⟩ : ∃ n, numGo 10 0 x.data.toList = n := ⟨_, rfl⟩
                    rw [en] at hn
                    have hn1 := hn.1
                    have hn2 := hn.2.1
                    clear hn
                    have HV1 : Hid (numV 10 (dOf (s.data.toList.drop f)) b = ansV (sgn n false)) := by show _ = _; rw [← HX.out, ← en, hbv.out]; rfl
                    have HV2 : Hid (numE 10 (dOf (s.data.toList.drop f)) b = ansE (sgn n false)) := by show _ = _; rw [← HX.out, ← en, hbv.out]; rfl
                    go_wp2_with (first | (go_at_call 22; refine (number_any _ _ _ (by unfold maxLen; omega) (by omega) HDG.out).mono ?_; rintro e w' ⟨rfl, rfl⟩) | (go_at_call 21; refine (signed_any _ _ _ (by omega)).mono ?_; rintro e w' ⟨rfl, rfl⟩))
                    go_ret3
                    exact ⟨ret_three (by rw [HE.out]; exact HV1.out.symm) (by rw [HE.out]) (by rw [HE.out]; exact HV2.out.symm), rfl⟩
            · go_wp2
              go_loop [5] (fun i => ∃ m : Nat, f ≤ m ∧ m ≤ s.size ∧ i = .int .i64 m ∧ dOf (s.data.toList.drop f) = (s.data.toList.drop f).take (m - f) ++ dOf (s.data.toList.drop m)) (fun i => s.size - (intOf i).toNat)
              case atStart => exact ⟨f, Nat.le_refl _, hfb, (by rw [hf.out]), by simp⟩
              case round =>
                obtain ⟨m, hm1, hm2, rfl, hd⟩ := hrel
                have HD := hide hd
                clear hd
                have hmk : k ≤ m := by have := hf.out; omega
                have HN2 := hide (dOf_at_no s f m)
                by_cases hlt2 : m < s.size
                · have HY2 := hide (dOf_at_yes s f m hm1 hlt2)
                  have hd0 : ((s[m]'hlt2).toNat : Int) ≤ 255 := by have := (s[m]'hlt2).toNat_lt; omega
                  obtain ⟨c2, hc2, hcb2⟩ : ∃ c : Int, ((s[m]'hlt2).toNat : Int) = c ∧ (0 ≤ c ∧ c ≤ 255) := ⟨_, rfl, by omega, hd0⟩
                  have HC2 := hide hc2
                  clear hd0
                  by_cases hdg : 48 ≤ c2 ∧ c2 ≤ 57
                  · have HDI : Hid (digI c2 < 10) := (digI_lt c2).mpr hdg
                    go_wp2
                    go_round
                    case rel =>
                      have e1 := HY2.out
                      rw [HC2.out] at e1
                      exact ⟨m + 1, by omega, by omega, by go_num, e1 HDI.out HD.out⟩
                    case measure => simp [intOf]; omega
                  · have HNO : Hid (∀ h : m < s.size, ¬ digI ((s[m]'h).toNat : Int) < 10) := by
                      intro h
                      rw [HC2.out, digI_lt]
                      exact hdg
                    have hdc : c2 < 48 ∨ 57 < c2 := by omega
                    clear hdg HY2
                    rcases hdc with hdc | hdc
                    all_goals
                      have hex : dOf (s.data.toList.drop f) = (s.data.toList.drop f).take (m - f) := HN2.out HNO.out HD.out
                      have hlen : (dOf (s.data.toList.drop f)).length = m - f := by rw [hex, List.length_take, List.length_drop]; have := Lib.size_eq s; omega
                      have HLEN := hide hlen
                      have HEX := hide hex
                      clear hlen hex HD HN2 HNO
                      by_cases hz : m = f
                      · have hq : ((m : Int) == (k : Int)) = true := by have := hf.out; rw [beq_iff_eq]; omega
                        have HE : Hid (R = (0, 0, 12)) := by
                          show _ = _
                          rw [← HR.out, HSP.out, if_pos (by rw [HLEN.out]; omega)]
                        clear hz
                        go_wp2
                        go_ret3
                        exact ⟨ret_three (by rw [HE.out]) (by rw [HE.out]; rfl) (by rw [HE.out]), rfl⟩
                      · have hq : ((m : Int) == (k : Int)) = false := by
                          rw [beq_eq_false_iff_ne]; have := hf.out; omega
                        have HE : Hid (R = (numV 10 (dOf (s.data.toList.drop f)) b, m, numE 10 (dOf (s.data.toList.drop f)) b)) := by
                          show _ = _
                          rw [← HR.out, HSP.out, if_neg (by rw [HLEN.out]; omega), HLEN.out]
                          congr 2
                          omega
                        clear hz
                        obtain ⟨x, hx, hxs, HX⟩ : ∃ x : ByteArray, s.extract (k) m = x ∧ x.size ≤ s.size ∧ Hid (x.data.toList = dOf (s.data.toList.drop f)) := ⟨_, rfl, by rw [ByteArray.size_extract]; omega, by
                          show _ = _
                          rw [Lib.extract_data, HEX.out, hf.out]⟩
                        have HDG : Hid (digsB 10 x.data.toList = true) := by show _ = _; rw [HX.out]; exact dOf_digs _
                        have hn := num_all (base := 10) (by omega) x.data.toList 0 (by omega) (by omega)
                        obtain ⟨n, en⟩ : ∃ n, numGo 10 0 x.data.toList = n := ⟨_, rfl⟩
                        rw [en] at hn
                        have hn1 := hn.1
                        have hn2 := hn.2.1
                        clear hn
                        have HV1 : Hid (numV 10 (dOf (s.data.toList.drop f)) b = ansV (sgn n false)) := by show _ = _; rw [← HX.out, ← en, hbv.out]; rfl
                        have HV2 : Hid (numE 10 (dOf (s.data.toList.drop f)) b = ansE (sgn n false)) := by show _ = _; rw [← HX.out, ← en, hbv.out]; rfl
                        go_wp2_with (first | (go_at_call 22; refine (number_any _ _ _ (by unfold maxLen; omega) (by omega) HDG.out).mono ?_; rintro e w' ⟨rfl, rfl⟩) | (go_at_call 21; refine (signed_any _ _ _ (by omega)).mono ?_; rintro e w' ⟨rfl, rfl⟩))
                        go_ret3
                        exact ⟨ret_three (by rw [HE.out]; exact HV1.out.symm) (by rw [HE.out]) (by rw [HE.out]; exact HV2.out.symm), rfl⟩
                · have HNO : Hid (∀ h : m < s.size, ¬ digI ((s[m]'h).toNat : Int) < 10) := fun h => absurd h hlt2
                  have hex : dOf (s.data.toList.drop f) = (s.data.toList.drop f).take (m - f) := HN2.out HNO.out HD.out
                  have hlen : (dOf (s.data.toList.drop f)).length = m - f := by rw [hex, List.length_take, List.length_drop]; have := Lib.size_eq s; omega
                  have HLEN := hide hlen
                  have HEX := hide hex
                  clear hlen hex HD HN2 HNO
                  by_cases hz : m = f
                  · have hq : ((m : Int) == (k : Int)) = true := by have := hf.out; rw [beq_iff_eq]; omega
                    have HE : Hid (R = (0, 0, 12)) := by
                      show _ = _
                      rw [← HR.out, HSP.out, if_pos (by rw [HLEN.out]; omega)]
                    clear hz
                    go_wp2
                    go_ret3
                    exact ⟨ret_three (by rw [HE.out]) (by rw [HE.out]; rfl) (by rw [HE.out]), rfl⟩
                  · have hq : ((m : Int) == (k : Int)) = false := by
                      rw [beq_eq_false_iff_ne]; have := hf.out; omega
                    have HE : Hid (R = (numV 10 (dOf (s.data.toList.drop f)) b, m, numE 10 (dOf (s.data.toList.drop f)) b)) := by
                      show _ = _
                      rw [← HR.out, HSP.out, if_neg (by rw [HLEN.out]; omega), HLEN.out]
                      congr 2
                      omega
                    clear hz
                    obtain ⟨x, hx, hxs, HX⟩ : ∃ x : ByteArray, s.extract (k) m = x ∧ x.size ≤ s.size ∧ Hid (x.data.toList = dOf (s.data.toList.drop f)) := ⟨_, rfl, by rw [ByteArray.size_extract]; omega, by
                      show _ = _
                      rw [Lib.extract_data, HEX.out, hf.out]⟩
                    have HDG : Hid (digsB 10 x.data.toList = true) := by show _ = _; rw [HX.out]; exact dOf_digs _
                    have hn := num_all (base := 10) (by omega) x.data.toList 0 (by omega) (by omega)
                    obtain ⟨n, en⟩ : ∃ n, numGo 10 0 x.data.toList = n := ⟨_, rfl⟩
                    rw [en] at hn
                    have hn1 := hn.1
                    have hn2 := hn.2.1
                    clear hn
                    have HV1 : Hid (numV 10 (dOf (s.data.toList.drop f)) b = ansV (sgn n false)) := by show _ = _; rw [← HX.out, ← en, hbv.out]; rfl
                    have HV2 : Hid (numE 10 (dOf (s.data.toList.drop f)) b = ansE (sgn n false)) := by show _ = _; rw [← HX.out, ← en, hbv.out]; rfl
                    go_wp2_with (first | (go_at_call 22; refine (number_any _ _ _ (by unfold maxLen; omega) (by omega) HDG.out).mono ?_; rintro e w' ⟨rfl, rfl⟩) | (go_at_call 21; refine (signed_any _ _ _ (by omega)).mono ?_; rintro e w' ⟨rfl, rfl⟩))
                    go_ret3
                    exact ⟨ret_three (by rw [HE.out]; exact HV1.out.symm) (by rw [HE.out]) (by rw [HE.out]; exact HV2.out.symm), rfl⟩
    · have HR0 : Hid (s.data.toList.drop k = behind s.data.toList) := by
        have e1 := HA.out
        rw [drop_end s k hlt] at e1
        show _ = _
        rw [drop_end s k hlt, ← e1]
        rfl
      clear HA
      obtain ⟨b, hbv⟩ : ∃ b : Bool, Hid (b = false) := ⟨_, rfl⟩
      obtain ⟨f, hf⟩ : ∃ f : Nat, Hid (f = k) := ⟨_, rfl⟩
      have hfb : f ≤ s.size := by rw [hf.out]; omega
      have HSP : Hid (scan3 s.data.toList = if (dOf (s.data.toList.drop f)).length = 0 then (0, 0, 12) else (numV 10 (dOf (s.data.toList.drop f)) b, f + (dOf (s.data.toList.drop f)).length, numE 10 (dOf (s.data.toList.drop f)) b)) := by
        have e := sign_end s k hlt
        exact scan_at s k f b HR0.out (by rw [hf.out, e.1]; rfl) (by rw [hbv.out, e.2]) hfb
      clear HR0
      go_wp2
      go_loop [5] (fun i => ∃ m : Nat, f ≤ m ∧ m ≤ s.size ∧ i = .int .i64 m ∧ dOf (s.data.toList.drop f) = (s.data.toList.drop f).take (m - f) ++ dOf (s.data.toList.drop m)) (fun i => s.size - (intOf i).toNat)
      case atStart => exact ⟨f, Nat.le_refl _, hfb, (by rw [hf.out]), by simp⟩
      case round =>
        obtain ⟨m, hm1, hm2, rfl, hd⟩ := hrel
        have HD := hide hd
        clear hd
        have hmk : k ≤ m := by have := hf.out; omega
        have HN2 := hide (dOf_at_no s f m)
        by_cases hlt2 : m < s.size
        · exfalso; have := hf.out; omega
        · have HNO : Hid (∀ h : m < s.size, ¬ digI ((s[m]'h).toNat : Int) < 10) := fun h => absurd h hlt2
          have hex : dOf (s.data.toList.drop f) = (s.data.toList.drop f).take (m - f) := HN2.out HNO.out HD.out
          have hlen : (dOf (s.data.toList.drop f)).length = m - f := by rw [hex, List.length_take, List.length_drop]; have := Lib.size_eq s; omega
          have HLEN := hide hlen
          have HEX := hide hex
          clear hlen hex HD HN2 HNO
          by_cases hz : m = f
          · have hq : ((m : Int) == (k : Int)) = true := by have := hf.out; rw [beq_iff_eq]; omega
            have HE : Hid (R = (0, 0, 12)) := by
              show _ = _
              rw [← HR.out, HSP.out, if_pos (by rw [HLEN.out]; omega)]
            clear hz
            go_wp2
            go_ret3
            exact ⟨ret_three (by rw [HE.out]) (by rw [HE.out]; rfl) (by rw [HE.out]), rfl⟩
          · exfalso; have := hf.out; omega
end Go.Proofs.YtjlogbpnehbbbaaDoor
