/- What the document's own Read answers, for every text. -/
import Derived.Test.YtgjcbgconkiedaaDoorProg
import Derived.Test.YtgjcbgconkiedaaDoorStr15
import Derived.Test.YtgjcbgconkiedaaDoorStr18e
import Derived.WalkKit
import Derived.ProofKit
import Derived.OpenShut
import Derived.Below
import Derived.WalkLawsBesides
import Derived.OwnWalk
import Derived.Laws.IdiomStrings
import Derived.Laws.OwnMore
import Derived.Lib.IndexBytes
namespace Go.Proofs.YtgjcbgconkiedaaDoor
open Go.ChangeShapes Go.WideShapes Go.ChangeAt Go.RowKit

theorem step_plain (c : UInt8) (r : List UInt8) (h : plainB c = true) : stepN (c :: r) = 1 ∧ stepO (c :: r) = [c] := by
  simp only [stepN, stepO]
  rw [if_pos h, if_pos h]
  exact ⟨rfl, rfl⟩
theorem step_fault (c : UInt8) (r : List UInt8) (n : Nat) (hn : c.toNat = n) (h : n < 32 ∨ 126 < n ∨ n = 34) : stepN (c :: r) = 0 := by
  have hp : plainB c = false := by unfold plainB; rw [hn]; simp; omega
  simp only [stepN]
  rw [if_neg (by rw [hp]; decide), if_neg (by omega)]
theorem step_esc (c : UInt8) (r : List UInt8) (h : c.toNat = 92) : stepN (c :: r) = (if (escP r).2 = 0 then 0 else 1 + (escP r).2) ∧ stepO (c :: r) = (if (escP r).2 = 0 then [] else if (escP r).1 < 0 then [] else [(escP r).1.toNat.toUInt8]) := by
  have hp : plainB c = false := by unfold plainB; rw [h]; rfl
  have hp' : ¬ plainB c = true := by rw [hp]; decide
  constructor <;> simp only [stepN, stepO, if_neg hp', if_pos h]

set_option maxRecDepth 100000 in
set_option maxHeartbeats 8000000 in
theorem rread_any (s : ByteArray) (w : World) (hs : s.size ≤ 140737488351232) :
    Calls Tryd.prog 25 #[.string s] w fun e w' => e = .returned (.tuple #[.string (rdS (readL s.data.toList)), .int .i64 (rdP (readL s.data.toList)), .int .i64 (rdE (readL s.data.toList))]) ∧ Below w.heap.size w w' := by
  obtain ⟨i0, hi, hz0, hz1, hz2⟩ := info_parts infoByte
  obtain ⟨Q, HQ⟩ : ∃ Q, Hid (readL s.data.toList = Q) := ⟨_, rfl⟩
  rw [HQ.out]
  obtain ⟨X, hX⟩ : ∃ X, rdS Q = X := ⟨_, rfl⟩
  obtain ⟨Y, hY⟩ : ∃ Y, rdP Q = Y := ⟨_, rfl⟩
  obtain ⟨Z, hZ⟩ : ∃ Z, rdE Q = Z := ⟨_, rfl⟩
  rw [hX, hY, hZ]
  have HX := hide hX
  have HY := hide hY
  have HZ := hide hZ
  clear hX hY hZ
  go_enter Tryd.func25, Tryd.ntmps25
  go_wp2
  go_loopw [5, 6] (fun vb vi wr => ∃ (pos A : Nat) (acc : List UInt8), vi = .int .i64 (pos : Int) ∧ pos ≤ s.size ∧ A ≤ pos ∧ Hid (acc.length = A) ∧ Hid (Own w.heap.size vb acc wr) ∧ Hid (runL (s.data.toList.length - pos) pos acc (s.data.toList.drop pos) = Q) ∧ Below w.heap.size w wr) (fun _ vi _ => s.size - (intOf vi).toNat)
  case atStart => exact ⟨0, 0, [], rfl, Nat.zero_le _, Nat.le_refl _, rfl, own_nil _ _, HQ.out, Below.refl _ _⟩
  case round =>
    obtain ⟨pos, A, acc, rfl, hpos, hA, EA, HO, HI, bel⟩ := hrel
    have bsz := bel.size
    have hlen : Hid ((s.data.toList.drop pos).length ≤ s.data.toList.length - pos) := by show _ ≤ _; rw [List.length_drop]; omega
    by_cases h1 : pos < s.size
    · have hd := drop_at s pos h1
      obtain ⟨c, hc⟩ : ∃ c, s[pos]'h1 = c := ⟨_, rfl⟩
      obtain ⟨n, hn⟩ : ∃ n, c.toNat = n := ⟨_, rfl⟩
      have hcn : (s[pos]'h1).toNat = n := by rw [hc, hn]
      have hn2 : n < 256 := by rw [← hn]; exact c.toNat_lt
      rw [hc] at hd
      clear hc
      by_cases hf : n < 32 ∨ 126 < n ∨ n = 34
      · have HE : Hid (Q = (acc, some pos)) := by
          show _ = _
          rw [← HI.out]
          refine runL_fault hlen.out (by rw [hd]; simp) (by rw [hd]; exact step_fault c _ n hn hf)
        have HF := hide (rd_fault acc pos)
        rw [HE.out] at HX HY HZ
        clear HI hd hlen
        rcases hf with hf | hf | hf
        · go_wp2
          go_ret3
          refine ⟨?_, bel⟩
          rw [← HX.out, ← HY.out, ← HZ.out, HF.out.1, HF.out.2.1, HF.out.2.2]
          rfl
        · have hf2 : ¬ n < 32 := by omega
          go_wp2
          go_ret3
          refine ⟨?_, bel⟩
          rw [← HX.out, ← HY.out, ← HZ.out, HF.out.1, HF.out.2.1, HF.out.2.2]
          rfl
        · subst hf
          go_wp2
          go_ret3
          refine ⟨?_, bel⟩
          rw [← HX.out, ← HY.out, ← HZ.out, HF.out.1, HF.out.2.1, HF.out.2.2]
          rfl
      · have f1 : ¬ n < 32 := by omega
        have f2 : ¬ 126 < n := by omega
        have f3 : ((n : Int) == 34) = false := by simp; omega
        by_cases h92 : n = 92
        · obtain ⟨p1, hp1⟩ : ∃ p1, pos + 1 = p1 := ⟨_, rfl⟩
          have hp1i : (pos : Int) + 1 = (p1 : Int) := by omega
          have hp1s : p1 ≤ s.size := by omega
          rw [hp1] at hd
          obtain ⟨x, k, hxk⟩ : ∃ x k, escP (s.data.toList.drop p1) = (x, k) := ⟨_, _, rfl⟩
          have hbd := escP_bd (s.data.toList.drop p1)
          have hkl := escP_le (s.data.toList.drop p1)
          have hst := step_esc c (s.data.toList.drop p1) (by rw [hn, h92])
          rw [hxk] at hbd hkl hst
          simp only at hbd hkl hst
          rw [List.length_drop, ← Lib.size_eq] at hkl
          have CE := hide (fun W => resc_any s p1 W x k hxk (by omega) hp1s)
          subst h92
          clear hf hxk
          by_cases hk0 : k = 0
          · rw [if_pos hk0] at hst
            have HE : Hid (Q = (acc, some pos)) := by
              show _ = _
              rw [← HI.out]
              exact runL_fault hlen.out (by rw [hd]; simp) (by rw [hd]; exact hst.1)
            have HF := hide (rd_fault acc pos)
            rw [HE.out] at HX HY HZ
            subst hk0
            clear HI hd hlen hst hp1
            go_wp2_with (go_at_call 34; refine (CE.out _).mono ?_; rintro e w1 ⟨rfl, hw⟩; replace hw := hw.symm; subst hw)
            go_ret3
            refine ⟨?_, bel⟩
            rw [← HX.out, ← HY.out, ← HZ.out, HF.out.1, HF.out.2.1, HF.out.2.2]
            rfl
          · rw [if_neg hk0, if_neg hk0] at hst
            have gk : ((k : Int) == 0) = false := by simp; omega
            have hst1 : stepN (s.data.toList.drop pos) = 1 + k := by rw [hd]; exact hst.1
            obtain ⟨o, ho⟩ : ∃ o, stepO (s.data.toList.drop pos) = o := ⟨_, rfl⟩
            have hst2 : o = if x < 0 then [] else [x.toNat.toUInt8] := by rw [← ho, hd]; exact hst.2
            obtain ⟨p2, hp2⟩ : ∃ p2, p1 + k = p2 := ⟨_, rfl⟩
            have hp2i : (p1 : Int) + (k : Int) = (p2 : Int) := by omega
            have hp2s : p2 ≤ s.size := by omega
            have HI2 : Hid (runL (s.data.toList.length - p2) p2 (acc ++ o) (s.data.toList.drop p2) = Q) := by
              show _ = _
              rw [← HI.out, runL_step hlen.out (by rw [hst1]; omega), hst1, ho, List.drop_drop, Nat.sub_sub, show pos + (1 + k) = p2 by omega]
            have hA2 : A + 1 ≤ p2 := by omega
            clear HI hd hlen hst hst1 ho hp1 hp2
            by_cases hx0 : x < 0
            · rw [if_pos hx0] at hst2
              subst hst2
              rw [List.append_nil] at HI2
              go_wp2_with (go_at_call 34; refine (CE.out _).mono ?_; rintro e w1 ⟨rfl, hw⟩; replace hw := hw.symm; subst hw)
              go_roundw
              case rel => exact ⟨p2, A, acc, rfl, hp2s, by omega, EA, HO, HI2, bel⟩
              case measure => simp [intOf]; omega
            · rw [if_neg hx0] at hst2
              subst hst2
              have hx1 : 0 ≤ x := by omega
              have hx2 : x ≤ 255 := hbd.1
              have HW := hide (own_row HO.out EA.out)
              clear hbd hx0 HO
              go_wp2_with (first | (go_at_call 34; refine (CE.out _).mono ?_; rintro e w1 ⟨rfl, hw⟩; replace hw := hw.symm; subst hw) | (at_builtin; refine wpList_append_own _ rfl _ _ 50 rfl w.heap.size 5 i0 (.int .u8 0) 1 1 Tryd.underlying50 hi hz0 hz1 hz2 rfl (by decide) _ _ _ rfl (HW.out.alloc _) ⟨_, 0, none⟩ 1 1 [.int .u8 x] rfl rfl (cells_new _ _ _) (by simp [Value.oneCell']) (by unfold maxLen; omega) (by omega) (by simp; omega) ?_; intro v1 w2 o1 g1 _; have H1 := hide o1; clear o1))
              go_roundw
              case rel =>
                refine ⟨p2, A + 1, acc ++ [x.toNat.toUInt8], rfl, hp2s, hA2, ?_, own_snoc EA.out (by congr 1; simp; omega) H1.out, HI2, ?_⟩
                · show _ = _
                  rw [List.length_append, EA.out]; rfl
                · exact (bel.alloc bsz _).grown g1 (by simp; omega) (fun j hj => (HW.out.lt j hj).1)
              case measure => simp [intOf]; omega
        · have hp : plainB c = true := by unfold plainB; rw [hn]; simp; omega
          have hst := step_plain c (s.data.toList.drop (pos + 1)) hp
          rw [← hd] at hst
          have f4 : ((n : Int) != 92) = true := by simp; omega
          have HI2 : Hid (runL (s.data.toList.length - (pos + 1)) (pos + 1) (acc ++ [c]) (s.data.toList.drop (pos + 1)) = Q) := by
            show _ = _
            rw [← HI.out, runL_step hlen.out (by rw [hst.1]; decide), hst.1, hst.2, List.drop_drop, Nat.sub_sub]
          have HW := hide (own_row HO.out EA.out)
          have HNC := hide hn
          clear HI hd hlen hst hp hf HO hn
          go_wp2_with (at_builtin; refine wpList_append_own _ rfl _ _ 50 rfl w.heap.size 5 i0 (.int .u8 0) 1 1 Tryd.underlying50 hi hz0 hz1 hz2 rfl (by decide) _ _ _ rfl (HW.out.alloc _) ⟨_, 0, none⟩ 1 1 [.int .u8 (n : Int)] rfl rfl (cells_new _ _ _) (by simp [Value.oneCell']) (by unfold maxLen; omega) (by omega) (by simp; omega) ?_; intro v1 w2 o1 g1 _; have H1 := hide o1; clear o1)
          go_roundw
          case rel =>
            refine ⟨pos + 1, A + 1, acc ++ [c], by go_num, by omega, by omega, ?_, own_snoc EA.out (by rw [HNC.out]) H1.out, HI2, ?_⟩
            · show _ = _
              rw [List.length_append, EA.out]; rfl
            · exact (bel.alloc bsz _).grown g1 (by simp; omega) (fun j hj => (HW.out.lt j hj).1)
          case measure => simp [intOf]; omega
    · have HE : Hid (Q = (acc, none)) := by
        show _ = _
        rw [← HI.out, drop_end s pos h1, runL_nil]
      rw [HE.out] at HX HY HZ
      have hcv := own_string HO.out
      obtain ⟨ao', cap', rfl⟩ := own_slice HO.out
      rw [EA.out] at hcv ⊢
      by_cases hlong : 65536 < A
      · have HF := hide (rd_long acc (by rw [EA.out]; exact hlong))
        clear HI HO hlen hcv
        go_wp2
        go_ret3
        refine ⟨?_, bel⟩
        rw [← HX.out, ← HY.out, ← HZ.out, HF.out.1, HF.out.2.1, HF.out.2.2]
        rfl
      · have HF := hide (rd_ok acc (by rw [EA.out]; exact hlong))
        rw [← HF.out.1, HX.out] at hcv
        clear HI HO hlen
        go_wp2
        go_ret3
        refine ⟨?_, bel⟩
        rw [← HY.out, ← HZ.out, HF.out.2.1, HF.out.2.2]
        rfl
end Go.Proofs.YtgjcbgconkiedaaDoor
