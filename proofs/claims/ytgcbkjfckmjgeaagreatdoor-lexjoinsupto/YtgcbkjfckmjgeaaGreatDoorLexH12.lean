/- The document's writer: Join. -/
import Derived.Test.YtgcbkjfckmjgeaaGreatDoorProg
import Derived.Test.YtgcbkjfckmjgeaaGreatDoorLexH11
import Derived.Test.YtgcbkjfckmjgeaaGreatDoorLexE7
import Derived.WalkKit
import Derived.ProofKit
import Derived.OpenShut
import Derived.Below
import Derived.WalkLawsBesides
import Derived.OwnWalk
import Derived.Laws.IdiomStrings
import Derived.Laws.OwnMore
import Derived.Lib.AppendStr
import Derived.Lib.IndexBytes
import Derived.BigQuiet
import Derived.WalkSmall
namespace Go.Proofs.YtgcbkjfckmjgeaaGreatDoor
open Go.ChangeShapes Go.WideShapes Go.ChangeAt Go.RowKit

def gapJ (j : Nat) : List UInt8 := if j = 0 then [] else [32]
def SmallT (t : ITok) : Prop := t.text.length ≤ 1048576 ∧ ∀ i, i < t.path.length → (t.path.getD i []).length ≤ 1048576

set_option maxRecDepth 100000 in
set_option maxHeartbeats 16000000 in
theorem rjoin_any (v : Value) (l : List ITok) (w : World) (hv : RdT w v l) (hsm : ∀ j, j < l.length → SmallT (l.getD j ITok.zero)) :
    Calls Tryz.prog 15 #[v] w fun e w' => e = .returned (.tuple #[.string ⟨(joinL l).1.toArray⟩, .int .i64 ((joinL l).2 : Nat)]) ∧ Below w.heap.size w w' := by
  obtain ⟨i0, hi, hz0, hz1, hz2⟩ := info_parts infoByte
  obtain ⟨ao, cap, rfl, hm, hc⟩ := hv
  have HC := hide hc
  have HSM := hide hsm
  obtain ⟨L, hL⟩ : ∃ L, l.length = L := ⟨_, rfl⟩
  have HL := hide hL
  rw [hL] at hm ⊢
  obtain ⟨J, hJ⟩ : ∃ J, joinL l = J := ⟨_, rfl⟩
  rw [hJ]
  have HJ : Hid (J = joinF false [] (gapJ 0) (l.drop 0)) := by show _ = _; rw [List.drop_zero, ← hJ]; rfl
  clear hL hc hJ hsm
  go_enter Tryz.func15, Tryz.ntmps15
  go_wp2
  go_loopw [4, 5, 6] (fun vo vl vi wr => ∃ (j : Nat) (lng : Bool) (acc : List UInt8), vi = .int .i64 (j : Int) ∧ vl = .bool lng ∧ j ≤ L ∧ acc.length ≤ 1048576 ∧ Hid (J = joinF lng acc (gapJ j) (l.drop j) ∧ Own w.heap.size vo acc wr) ∧ Below w.heap.size w wr) (fun _ _ vi _ => L - (intOf vi).toNat)
  case atStart => exact ⟨0, false, [], rfl, rfl, Nat.zero_le _, by simp, ⟨HJ.out, own_nil _ _⟩, Below.refl _ _⟩
  case round =>
    obtain ⟨j, lng, acc, rfl, rfl, hj, hacc, HI, bel⟩ := hrel
    obtain ⟨hJ, hOw⟩ := HI.out
    obtain ⟨oo, oc, hvo⟩ := own_slice hOw
    subst hvo
    obtain ⟨AL, hAL⟩ : ∃ n, acc.length = n := ⟨_, rfl⟩
    have EAL := hide hAL
    have HOW := hide hOw
    have HJ2 := hide hJ
    rw [hAL] at HOW hacc ⊢
    have bsz := bel.size
    clear HI hJ hOw hAL HJ
    by_cases h1 : j < L
    · obtain ⟨g, o, pv, ea, hab, hat⟩ := HC.out j (by have := HL.out; omega)
      subst ea
      obtain ⟨hsx, hsp⟩ := HSM.out j (by have := HL.out; omega)
      replace hat := hat.below bel hab
      have HD := hide (drop_getD (l := l) (j := j) (by have := HL.out; omega))
      rw [HD.out] at HJ2
      generalize l.getD j ITok.zero = t at hat HJ2 hsx hsp
      obtain ⟨tk, tt, tp, tx, ty⟩ := t
      obtain ⟨c0, c1, c2, c3, c4, hrd, htx, hps⟩ := hat
      simp only at c0 c1 c2 c3 c4 hrd htx hps hsx hsp
      obtain ⟨z, hz⟩ : ∃ z : ByteArray, ByteArray.mk tt.toArray = z := ⟨_, rfl⟩
      have hzl : z.data.toList = tt := by rw [← hz]
      have hzs : z.size ≤ 1048576 := by rw [← hz, mk_size]; exact hsx
      rw [hz] at c1
      obtain ⟨ws, we, hw⟩ : ∃ ws we, writeL tk tt tp = (ws, we) := ⟨_, _, rfl⟩
      have hwl := writeL_len hw
      have JC := hide (HJ2.out.trans (joinF_cons lng acc (gapJ j) ⟨tk, tt, tp, tx, ty⟩ (l.drop (j + 1)) ws we hw))
      have CW := hide (rwrite_any tk tx ty z pv tp wr hrd hzs hsp)
      rw [hzl, hw] at CW
      obtain ⟨po, pc, hpe, _, _⟩ := hrd
      subst hpe
      generalize tp.length = pl at CW c2
      obtain ⟨wz, hwz⟩ : ∃ wz : ByteArray, ByteArray.mk ws.toArray = wz := ⟨_, rfl⟩
      have hwzl : ws.length = wz.size := by rw [← hwz, mk_size]
      have HWZ : ws = wz.data.toList := by rw [← hwz]
      simp only [hwz] at CW
      rw [hwzl] at hwl
      rw [HWZ] at JC
      have hgj : gapJ (j + 1) = [32] := rfl
      rw [← hgj] at JC
      clear HJ2 hz hzl hzs htx hps hw HD hwz hsx hsp hgj hwzl HWZ
      by_cases he : we = 0
      · subst he
        replace JC : Hid (J = if (lng || decide (1048576 < acc.length + (gapJ j).length + wz.data.toList.length)) then joinF true acc (gapJ (j + 1)) (l.drop (j + 1)) else joinF false (acc ++ gapJ j ++ wz.data.toList) (gapJ (j + 1)) (l.drop (j + 1))) := JC.out.trans (if_neg (by simp))
        rw [EAL.out] at JC
        by_cases hj0 : j = 0
        · obtain ⟨wg, rfl⟩ : ∃ wg, wg = wz := ⟨_, rfl⟩
          subst hj0
          have e0 : gapJ 0 = [] := rfl
          simp only [Nat.zero_mul, Nat.add_zero] at c0 c1 c2 c3 c4
          have hwgb : wg.size ≤ 4194313 := by omega
          rw [e0, List.append_nil, List.length_nil, Nat.add_zero, size_list] at JC
          clear e0
          obtain ⟨dd, hdd⟩ : ∃ dd : Int, 1048576 - (wg.size : Int) = dd := ⟨_, rfl⟩
          cases lng
          · by_cases hlg : 1048576 < AL + wg.size
            · have JT : Hid (J = joinF true acc (gapJ (0 + 1)) (l.drop (0 + 1))) := JC.out.trans (if_pos (by rw [Bool.false_or]; exact decide_eq_true hlg))
              have hdc : decide (dd < (AL : Int)) = true := by simp; omega
              clear JC
              go_wp2_with (go_at_call 11; refine CW.out.mono ?_; clear CW; rintro e w1 ⟨rfl, b1⟩; (have B1 := bel.trans (b1.mono bsz)); (have S1 := b1.size); (have HO1 := hide (own_below HOW.out b1)))
              go_roundw
              case rel => exact ⟨0 + 1, true, acc, by go_num, rfl, by omega, by rw [EAL.out]; omega, ⟨JT.out, HO1.out⟩, B1⟩
              case measure => simp [intOf]; omega
            · have JT : Hid (J = joinF false (acc ++ wg.data.toList) (gapJ (0 + 1)) (l.drop (0 + 1))) := JC.out.trans (if_neg (by rw [Bool.false_or, decide_eq_false hlg]; simp))
              have hdc : decide (dd < (AL : Int)) = false := by simp; omega
              clear JC
              have hwgs : wg.size ≤ 1048576 := by omega
              go_wp2_with (first | (go_at_call 11; refine CW.out.mono ?_; clear CW; rintro e w1 ⟨rfl, b1⟩; (have B1 := bel.trans (b1.mono bsz)); (have S1 := b1.size); (have HO1 := hide (own_below HOW.out b1))) | (at_builtin; (have HW := hide (own_row HO1.out EAL.out)); refine Lib.wpList_append_own_string _ rfl _ _ 65 9 rfl w.heap.size 5 i0 Tryz.underlying65 Tryz.underlying9 hi hz0 hz1 hz2 _ _ _ rfl HW.out wg rfl (by unfold maxLen; omega) (by omega) (by omega) ?_; intro v2 w2 o2 g2 _; (have B2 := B1.grown g2 (by omega) (fun j hj => (HW.out.lt j hj).1)); (have O2 := hide (own_str EAL.out o2)); clear o2 HW HO1))
              go_roundw
              case rel => exact ⟨0 + 1, false, acc ++ wg.data.toList, by go_num, rfl, by omega, by rw [List.length_append, EAL.out, size_list]; omega, ⟨JT.out, O2.out⟩, B2⟩
              case measure => simp [intOf]; omega
          · have JT : Hid (J = joinF true acc (gapJ (0 + 1)) (l.drop (0 + 1))) := JC.out
            clear JC
            go_wp2_with (go_at_call 11; refine CW.out.mono ?_; clear CW; rintro e w1 ⟨rfl, b1⟩; (have B1 := bel.trans (b1.mono bsz)); (have S1 := b1.size); (have HO1 := hide (own_below HOW.out b1)))
            go_roundw
            case rel => exact ⟨0 + 1, true, acc, by go_num, rfl, by omega, by rw [EAL.out]; omega, ⟨JT.out, HO1.out⟩, B1⟩
            case measure => simp [intOf]; omega
        · obtain ⟨wg, hwg⟩ : ∃ wg, (⟨#[32]⟩ : ByteArray) ++ wz = wg := ⟨_, rfl⟩
          have e0 : gapJ j = [32] := by unfold gapJ; rw [if_neg hj0]
          have e1 : ([32] : List UInt8) ++ wz.data.toList = wg.data.toList := by rw [← hwg, app_list]
          have e2 : wg.size = 1 + wz.size := by rw [← hwg, ByteArray.size_append]; rfl
          rw [e0, List.append_assoc, e1, size_list, show AL + ([32] : List UInt8).length + wz.size = AL + wg.size by rw [e2]; simp; omega] at JC
          have hjp : decide ((0 : Int) < (j : Int)) = true := by simp; omega
          have hwgb : wg.size ≤ 4194313 := by omega
          clear e0 e1 e2
          obtain ⟨dd, hdd⟩ : ∃ dd : Int, 1048576 - (wg.size : Int) = dd := ⟨_, rfl⟩
          cases lng
          · by_cases hlg : 1048576 < AL + wg.size
            · have JT : Hid (J = joinF true acc (gapJ (j + 1)) (l.drop (j + 1))) := JC.out.trans (if_pos (by rw [Bool.false_or]; exact decide_eq_true hlg))
              have hdc : decide (dd < (AL : Int)) = true := by simp; omega
              clear JC
              go_wp2_with (go_at_call 11; refine CW.out.mono ?_; clear CW; rintro e w1 ⟨rfl, b1⟩; (have B1 := bel.trans (b1.mono bsz)); (have S1 := b1.size); (have HO1 := hide (own_below HOW.out b1)))
              go_roundw
              case rel => exact ⟨j + 1, true, acc, by go_num, rfl, by omega, by rw [EAL.out]; omega, ⟨JT.out, HO1.out⟩, B1⟩
              case measure => simp [intOf]; omega
            · have JT : Hid (J = joinF false (acc ++ wg.data.toList) (gapJ (j + 1)) (l.drop (j + 1))) := JC.out.trans (if_neg (by rw [Bool.false_or, decide_eq_false hlg]; simp))
              have hdc : decide (dd < (AL : Int)) = false := by simp; omega
              clear JC
              have hwgs : wg.size ≤ 1048576 := by omega
              go_wp2_with (first | (go_at_call 11; refine CW.out.mono ?_; clear CW; rintro e w1 ⟨rfl, b1⟩; (have B1 := bel.trans (b1.mono bsz)); (have S1 := b1.size); (have HO1 := hide (own_below HOW.out b1))) | (at_builtin; (have HW := hide (own_row HO1.out EAL.out)); refine Lib.wpList_append_own_string _ rfl _ _ 65 9 rfl w.heap.size 5 i0 Tryz.underlying65 Tryz.underlying9 hi hz0 hz1 hz2 _ _ _ rfl HW.out wg rfl (by unfold maxLen; omega) (by omega) (by omega) ?_; intro v2 w2 o2 g2 _; (have B2 := B1.grown g2 (by omega) (fun j hj => (HW.out.lt j hj).1)); (have O2 := hide (own_str EAL.out o2)); clear o2 HW HO1))
              go_roundw
              case rel => exact ⟨j + 1, false, acc ++ wg.data.toList, by go_num, rfl, by omega, by rw [List.length_append, EAL.out, size_list]; omega, ⟨JT.out, O2.out⟩, B2⟩
              case measure => simp [intOf]; omega
          · have JT : Hid (J = joinF true acc (gapJ (j + 1)) (l.drop (j + 1))) := JC.out
            clear JC
            go_wp2_with (go_at_call 11; refine CW.out.mono ?_; clear CW; rintro e w1 ⟨rfl, b1⟩; (have B1 := bel.trans (b1.mono bsz)); (have S1 := b1.size); (have HO1 := hide (own_below HOW.out b1)))
            go_roundw
            case rel => exact ⟨j + 1, true, acc, by go_num, rfl, by omega, by rw [EAL.out]; omega, ⟨JT.out, HO1.out⟩, B1⟩
            case measure => simp [intOf]; omega
      · have JT : Hid (J = ([], we)) := JC.out.trans (if_pos he)
        have ge : ((we : Int) != 0) = true := by simp; omega
        clear JC he
        go_wp2_with (go_at_call 11; refine CW.out.mono ?_; clear CW; rintro e w1 ⟨rfl, b1⟩; (have B1 := bel.trans (b1.mono bsz)); (have S1 := b1.size); (have HO1 := hide (own_below HOW.out b1)))
        go_ret2
        rw [JT.out]
        exact ⟨rfl, B1⟩
    · have JT := hide HJ2.out
      rw [List.drop_eq_nil_of_le (by have := HL.out; omega), joinF_nil] at JT
      have hjn : decide ((j : Int) < (L : Int)) = false := by simp; omega
      clear HJ2
      cases lng
      · have JT2 : Hid (J = (acc, 0)) := JT.out
        clear JT
        have hcv := own_string HOW.out
        obtain ⟨ax, hax⟩ : ∃ ax : ByteArray, ByteArray.mk acc.toArray = ax := ⟨_, rfl⟩
        rw [hax] at hcv
        go_wp2
        go_ret2
        rw [JT2.out]
        show _ = Ending.returned (.tuple #[.string (ByteArray.mk acc.toArray), _]) ∧ _
        rw [hax]
        exact ⟨rfl, bel⟩
      · have JT2 : Hid (J = ([], 2)) := JT.out
        clear JT
        go_wp2
        go_ret2
        rw [JT2.out]
        exact ⟨rfl, bel⟩
end Go.Proofs.YtgcbkjfckmjgeaaGreatDoor
