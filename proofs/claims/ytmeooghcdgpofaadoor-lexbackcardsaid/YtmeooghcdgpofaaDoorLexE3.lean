/- The program's writer: how a string's bytes are spelt. -/
import Derived.Test.YtmeooghcdgpofaaDoorProg
import Derived.Test.YtmeooghcdgpofaaDoorLexE2
import Derived.Test.YtmeooghcdgpofaaDoorLexB
import Derived.WalkKit
import Derived.ProofKit
import Derived.OpenShut
import Derived.Below
import Derived.WalkLawsBesides
import Derived.OwnWalk
import Derived.Laws.IdiomStrings
import Derived.Laws.OwnMore
import Derived.Lib.AppendStr
import Derived.Lib.IndexBytes
import Derived.BigQuiet
namespace Go.Proofs.YtmeooghcdgpofaaDoor
open Go.ChangeShapes Go.WideShapes Go.ChangeAt Go.RowKit

theorem quotL_take_len (s : ByteArray) (k : Nat) : (quotL (s.data.toList.take k)).length ≤ 4 * k := by
  have := quotL_len (s.data.toList.take k)
  have h2 : (s.data.toList.take k).length ≤ k := List.length_take_le _ _
  omega
theorem quotL_snoc (s : ByteArray) (k : Nat) (h : k < s.size) : quotL (s.data.toList.take (k + 1)) = quotL (s.data.toList.take k) ++ quot1 (s[k]'h) := by
  have hl : k < s.data.toList.length := by simpa using h
  rw [List.take_succ_eq_append_getElem hl]
  simp only [quotL, List.flatMap_append]
  simp
  rfl
theorem quot_q {c : UInt8} {n : Nat} (hn : c.toNat = n) (h : n = 34 ∨ n = 92) : Lib.byteCells (quot1 c) = [.int .u8 92, .int .u8 (n : Int)] := by
  unfold quot1; rw [if_pos (by omega)]; simp [Lib.byteCells, hn]
theorem quot_p {c : UInt8} {n : Nat} (hn : c.toNat = n) (h : n ≠ 34 ∧ n ≠ 92) (g : 32 ≤ n ∧ n ≤ 126) : Lib.byteCells (quot1 c) = [.int .u8 (n : Int)] := by
  unfold quot1; rw [if_neg (by omega), if_pos (by omega)]; simp [Lib.byteCells, hn]
theorem quot_d {c : UInt8} {n : Nat} (hn : c.toNat = n) (_h : n ≠ 34 ∧ n ≠ 92) (g : ¬ (32 ≤ n ∧ n ≤ 126)) : Lib.byteCells (quot1 c) = [.int .u8 92, .int .u8 (48 + (n : Int) / 100), .int .u8 (48 + (n : Int) / 10 % 10), .int .u8 (48 + (n : Int) % 10)] := by
  have hc := c.toNat_lt
  unfold quot1; rw [if_neg (by omega), if_neg (by omega), hn]
  simp [Lib.byteCells]
  omega
theorem own_more {B : Nat} {v : Value} {l o : List UInt8} {w : World} {L : Nat} {xs : List Value} (e : l.length = L) (ho : Lib.byteCells o = xs) (h : w.ownsRow B 5 1 v (L + xs.length) (Lib.byteCells l ++ xs)) : Own B v (l ++ o) w := by
  unfold Own
  rw [byteCells_snoc, List.length_append, ho, e, ← Lib.byteCells_length o, ho]
  exact h

set_option maxHeartbeats 8000000 in
set_option maxRecDepth 100000 in
theorem spellString_any (B : Nat) (v : Value) (acc : List UInt8) (s : ByteArray) (w : World) (ho : Own B v acc w) (hB : B ≤ w.heap.size) (ha : acc.length ≤ 1073741824) (hs : s.size ≤ 1073741824) :
    Calls Tryd.prog 35 #[v, .string s] w fun e w' => ∃ v', e = .returned v' ∧ Own B v' (acc ++ 34 :: quotL s.data.toList ++ [34]) w' ∧ Below B w w' := by
  obtain ⟨i0, hi, hz0, hz1, hz2⟩ := info_parts infoByte
  obtain ⟨A, eA⟩ : ∃ A, acc.length = A := ⟨_, rfl⟩
  have EA := hide eA
  have HW0 := hide (own_row ho eA)
  rw [eA] at ha
  clear eA ho
  go_enter Tryd.func35, Tryd.ntmps35
  go_wp2_with (at_builtin; refine wpList_append_own _ rfl _ _ 36 rfl B 5 i0 (.int .u8 0) 1 1 Tryd.underlying36 hi hz0 hz1 hz2 rfl (by decide) _ _ _ rfl (HW0.out.alloc _) ⟨_, 0, none⟩ 1 1 [.int .u8 34] rfl rfl (cells_new _ _ _) (by simp [Value.oneCell']) (by unfold maxLen; omega) (by omega) (by simp; omega) ?_; intro v1 w1 o1 g1 _; have H1 := hide o1; clear o1; have B1 := ((Below.refl B w).alloc hB _).grown g1 (by simp; omega) (fun j hj => (HW0.out.lt j hj).1))
  have O1 : Hid (Own B v1 (acc ++ [34]) w1) := own_more (o := [34]) EA.out rfl H1.out
  have S1 := B1.size
  clear H1 g1
  go_loopw [0, 12] (fun vt vi wr => ∃ k : Nat, vi = .int .i64 (k : Int) ∧ k ≤ s.size ∧ Hid (Own B vt (acc ++ [34] ++ quotL (s.data.toList.take k)) wr) ∧ Below B w wr) (fun _ vi _ => s.size - (intOf vi).toNat)
  case atStart => exact ⟨0, rfl, Nat.zero_le _, by show Own _ _ _ _; rw [List.take_zero]; show Own _ _ (_ ++ []) _; rw [List.append_nil]; exact O1.out, B1⟩
  case round =>
    obtain ⟨k, rfl, hk, HI, bel⟩ := hrel
    clear O1 S1 B1 HW0
    have hl := quotL_take_len s k
    have bsz := Nat.le_trans hB bel.size
    by_cases h1 : k < s.size
    · have HS := hide (quotL_snoc s k h1)
      obtain ⟨c, hc⟩ : ∃ c, s[k]'h1 = c := ⟨_, rfl⟩
      obtain ⟨n, hn⟩ : ∃ n, c.toNat = n := ⟨_, rfl⟩
      have hcn : (s[k]'h1).toNat = n := by rw [hc, hn]
      have hn2 : n < 256 := by rw [← hn]; exact c.toNat_lt
      rw [hc] at HS
      obtain ⟨L, eL⟩ : ∃ L, (acc ++ [34] ++ quotL (s.data.toList.take k)).length = L := ⟨_, rfl⟩
      have hL : L ≤ A + 1 + 4 * k := by rw [← eL, List.length_append, List.length_append, EA.out]; simp; omega
      have EL := hide eL
      have HW := hide (own_row HI.out eL)
      have HN := hide hn
      clear hc eL hn HI hl
      by_cases hq : n = 34 ∨ n = 92
      · have HQ := hide (quot_q HN.out hq)
        rcases hq with hq | hq
        all_goals
          subst hq
          go_wp2_with (first | (at_builtin; refine wpList_append_own _ rfl _ _ 36 rfl B 5 i0 (.int .u8 0) 1 1 Tryd.underlying36 hi hz0 hz1 hz2 rfl (by decide) _ _ _ rfl (HW.out.alloc _) ⟨_, 0, none⟩ 1 1 [.int .u8 92] rfl rfl (cells_new _ _ _) (by simp [Value.oneCell']) (by unfold maxLen; omega) (by omega) (by simp; omega) ?_; intro v2 w2 o2 g2 _; have H2 := hide o2; clear o2; have B2 := (bel.alloc bsz _).grown g2 (by simp; omega) (fun j hj => (HW.out.lt j hj).1); have S2 := Nat.le_trans hB B2.size; clear HW) | (at_builtin; refine wpList_append_own _ rfl _ _ 36 rfl B 5 i0 (.int .u8 0) 1 1 Tryd.underlying36 hi hz0 hz1 hz2 rfl (by decide) _ _ _ rfl (H2.out.alloc _) ⟨_, 0, none⟩ 1 1 [.int .u8 _] rfl rfl (cells_new _ _ _) (by simp [Value.oneCell']) (by unfold maxLen; omega) (by omega) (by simp; omega) ?_; intro v3 w3 o3 g3 _; have H3 := hide o3; clear o3; have B3 := (B2.alloc S2 _).grown g3 (by simp; omega) (fun j hj => (H2.out.lt j hj).1)))
          go_roundw
          case rel => exact ⟨k + 1, by go_num, by omega, by show Own _ _ _ _; rw [HS.out, ← List.append_assoc]; exact own_more EL.out HQ.out (by simpa [List.append_assoc, Nat.add_assoc] using H3.out), B3⟩
          case measure => simp [intOf]; omega
      · have f1 : ((n : Int) == 34) = false := by simp; omega
        have f2 : ((n : Int) == 92) = false := by simp; omega
        by_cases hp : 32 ≤ n ∧ n ≤ 126
        · have HQ := hide (quot_p HN.out (by omega) hp)
          clear hq
          go_wp2_with (at_builtin; refine wpList_append_own _ rfl _ _ 36 rfl B 5 i0 (.int .u8 0) 1 1 Tryd.underlying36 hi hz0 hz1 hz2 rfl (by decide) _ _ _ rfl (HW.out.alloc _) ⟨_, 0, none⟩ 1 1 [.int .u8 (n : Int)] rfl rfl (cells_new _ _ _) (by simp [Value.oneCell']) (by unfold maxLen; omega) (by omega) (by simp; omega) ?_; intro v2 w2 o2 g2 _; have H2 := hide o2; clear o2)
          go_roundw
          case rel => exact ⟨k + 1, by go_num, by omega, by show Own _ _ _ _; rw [HS.out, ← List.append_assoc]; exact own_more EL.out HQ.out H2.out, (bel.alloc bsz _).grown g2 (by simp; omega) (fun j hj => (HW.out.lt j hj).1)⟩
          case measure => simp [intOf]; omega
        · have HQ := hide (quot_d HN.out (by omega) hp)
          have cs : n < 32 ∨ 126 < n := by omega
          clear hq hp
          rcases cs with hp | hp
          all_goals
            go_wp2_with (at_builtin; refine wpList_append_own _ rfl _ _ 36 rfl B 5 i0 (.int .u8 0) 1 1 Tryd.underlying36 hi hz0 hz1 hz2 rfl (by decide) _ _ _ rfl (HW.out.alloc _) ⟨_, 0, none⟩ 4 4 [.int .u8 92, .int .u8 (48 + (n : Int) / 100), .int .u8 (48 + (n : Int) / 10 % 10), .int .u8 (48 + (n : Int) % 10)] rfl rfl (cells_new _ _ _) (by simp [Value.oneCell']) (by unfold maxLen; omega) (by omega) (by simp; omega) ?_; intro v2 w2 o2 g2 _; have H2 := hide o2; clear o2)
            go_roundw
            case rel => exact ⟨k + 1, by go_num, by omega, by show Own _ _ _ _; rw [HS.out, ← List.append_assoc]; exact own_more EL.out HQ.out H2.out, (bel.alloc bsz _).grown g2 (by simp; omega) (fun j hj => (HW.out.lt j hj).1)⟩
            case measure => simp [intOf]; omega
    · have HT : Hid (s.data.toList.take k = s.data.toList) := List.take_of_length_le (by simp; omega)
      obtain ⟨M, eM⟩ : ∃ M, (acc ++ [34] ++ quotL s.data.toList).length = M := ⟨_, rfl⟩
      have hM : M ≤ A + 1 + 4 * s.size := by
        have := quotL_len s.data.toList
        rw [size_list] at this
        rw [← eM, List.length_append, List.length_append, EA.out]; simp; omega
      rw [HT.out] at HI
      have EM := hide eM
      have HW := hide (own_row HI.out eM)
      clear eM HI hl
      go_wp2_with (at_builtin; refine wpList_append_own _ rfl _ _ 36 rfl B 5 i0 (.int .u8 0) 1 1 Tryd.underlying36 hi hz0 hz1 hz2 rfl (by decide) _ _ _ rfl (HW.out.alloc _) ⟨_, 0, none⟩ 1 1 [.int .u8 34] rfl rfl (cells_new _ _ _) (by simp [Value.oneCell']) (by unfold maxLen; omega) (by omega) (by simp; omega) ?_; intro v2 w2 o2 g2 _; have H2 := hide o2; clear o2)
      go_ret
      refine ⟨_, rfl, ?_, (bel.alloc bsz _).grown g2 (by simp; omega) (fun j hj => (HW.out.lt j hj).1)⟩
      have := own_more (o := [34]) EM.out rfl H2.out
      simpa [List.append_assoc] using this
end Go.Proofs.YtmeooghcdgpofaaDoor
