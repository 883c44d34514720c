/- How the document writes the bytes of a string's constant. -/
import Derived.Test.YtgcbkjfckmjgeaaGreatDoorProg
import Derived.Test.YtgcbkjfckmjgeaaGreatDoorLexE4
import Derived.WalkKit
import Derived.ProofKit
import Derived.OpenShut
import Derived.Below
import Derived.WalkLawsBesides
import Derived.OwnWalk
import Derived.Laws.IdiomStrings
import Derived.Laws.OwnMore
import Derived.Lib.AppendStr
import Derived.Lib.IndexBytes
namespace Go.Proofs.YtgcbkjfckmjgeaaGreatDoor
open Go.ChangeShapes Go.WideShapes Go.ChangeAt Go.RowKit

/-- The text of a string's constant. -/
def quoteS (s : ByteArray) : ByteArray := ⟨#[34]⟩ ++ ⟨(quotL s.data.toList).toArray⟩ ++ ⟨#[34]⟩

set_option maxHeartbeats 4000000 in
set_option maxRecDepth 100000 in
theorem rquote_any (s : ByteArray) (hs : s.size ≤ 1073741824) (w : World) : Calls Tryz.prog 27 #[.string s] w fun e w' => e = .returned (.string (quoteS s)) ∧ Below w.heap.size w w' := by
  obtain ⟨i0, hi, hz0, hz1, hz2⟩ := info_parts infoByte
  go_enter Tryz.func27, Tryz.ntmps27
  go_wp2
  go_loopw [3, 4] (fun vt vi wr => ∃ k : Nat, vi = .int .i64 (k : Int) ∧ k ≤ s.size ∧ Hid (Own w.heap.size vt (quotL (s.data.toList.take k)) wr) ∧ Below w.heap.size w wr) (fun _ vi _ => s.size - (intOf vi).toNat)
  case atStart => exact ⟨0, rfl, Nat.zero_le _, own_nil _ _, Below.refl _ _⟩
  case round =>
    obtain ⟨k, rfl, hk, HI, bel⟩ := hrel
    have hl := quotL_take_len s k
    have bsz := bel.size
    by_cases h1 : k < s.size
    · have HS := hide (quotL_snoc s k h1)
      obtain ⟨c, hc⟩ : ∃ c, s[k]'h1 = c := ⟨_, rfl⟩
      obtain ⟨n, hn⟩ : ∃ n, c.toNat = n := ⟨_, rfl⟩
      have hcn : (s[k]'h1).toNat = n := by rw [hc, hn]
      have hn2 : n < 256 := by rw [← hn]; exact c.toNat_lt
      rw [hc] at HS
      obtain ⟨L, eL⟩ : ∃ L, (quotL (s.data.toList.take k)).length = L := ⟨_, rfl⟩
      have EL := hide eL
      have HW := hide (own_row HI.out eL)
      rw [eL] at hl
      have HN := hide hn
      clear hc eL hn
      by_cases hq : n = 34 ∨ n = 92
      · have HQ := hide (quot_q HN.out hq)
        rcases hq with hq | hq
        all_goals
          subst hq
          go_wp2_with (at_builtin; refine wpList_append_own _ rfl _ _ 65 rfl w.heap.size 5 i0 (.int .u8 0) 1 1 Tryz.underlying65 hi hz0 hz1 hz2 rfl (by decide) _ _ _ rfl (HW.out.alloc _) ⟨_, 0, none⟩ 2 2 [.int .u8 92, .int .u8 _] rfl rfl (cells_new _ _ _) (by simp [Value.oneCell']) (by unfold maxLen; omega) (by omega) (by simp; omega) ?_; intro v1 w1 o1 g1 _; have H1 := hide o1; clear o1)
          go_roundw
          case rel => exact ⟨k + 1, by go_num, by omega, by show Own _ _ _ _; rw [HS.out]; exact own_more EL.out HQ.out H1.out, (bel.alloc bsz _).grown g1 (by simp; omega) (fun j hj => (HW.out.lt j hj).1)⟩
          case measure => simp [intOf]; omega
      · have f1 : ((n : Int) == 34) = false := by simp; omega
        have f2 : ((n : Int) == 92) = false := by simp; omega
        by_cases hp : 32 ≤ n ∧ n ≤ 126
        · have HQ := hide (quot_p HN.out (by omega) hp)
          clear hq
          go_wp2_with (at_builtin; refine wpList_append_own _ rfl _ _ 65 rfl w.heap.size 5 i0 (.int .u8 0) 1 1 Tryz.underlying65 hi hz0 hz1 hz2 rfl (by decide) _ _ _ rfl (HW.out.alloc _) ⟨_, 0, none⟩ 1 1 [.int .u8 (n : Int)] rfl rfl (cells_new _ _ _) (by simp [Value.oneCell']) (by unfold maxLen; omega) (by omega) (by simp; omega) ?_; intro v1 w1 o1 g1 _; have H1 := hide o1; clear o1)
          go_roundw
          case rel => exact ⟨k + 1, by go_num, by omega, by show Own _ _ _ _; rw [HS.out]; exact own_more EL.out HQ.out H1.out, (bel.alloc bsz _).grown g1 (by simp; omega) (fun j hj => (HW.out.lt j hj).1)⟩
          case measure => simp [intOf]; omega
        · have HQ := hide (quot_d HN.out (by omega) hp)
          have cs : n < 32 ∨ 126 < n := by omega
          clear hq hp
          rcases cs with hp | hp
          all_goals
            go_wp2_with (at_builtin; refine wpList_append_own _ rfl _ _ 65 rfl w.heap.size 5 i0 (.int .u8 0) 1 1 Tryz.underlying65 hi hz0 hz1 hz2 rfl (by decide) _ _ _ rfl (HW.out.alloc _) ⟨_, 0, none⟩ 4 4 [.int .u8 92, .int .u8 (48 + (n : Int) / 100), .int .u8 (48 + (n : Int) / 10 % 10), .int .u8 (48 + (n : Int) % 10)] rfl rfl (cells_new _ _ _) (by simp [Value.oneCell']) (by unfold maxLen; omega) (by omega) (by simp; omega) ?_; intro v1 w1 o1 g1 _; have H1 := hide o1; clear o1)
            go_roundw
            case rel => exact ⟨k + 1, by go_num, by omega, by show Own _ _ _ _; rw [HS.out]; exact own_more EL.out HQ.out H1.out, (bel.alloc bsz _).grown g1 (by simp; omega) (fun j hj => (HW.out.lt j hj).1)⟩
            case measure => simp [intOf]; omega
    · have HT : Hid (s.data.toList.take k = s.data.toList) := List.take_of_length_le (by simp; omega)
      obtain ⟨ao', cap', rfl⟩ := own_slice HI.out
      have hcv := own_string HI.out
      rw [HT.out] at hcv hl ⊢
      obtain ⟨M, eM⟩ : ∃ M, (quotL s.data.toList).length = M := ⟨_, rfl⟩
      obtain ⟨t, ht⟩ : ∃ t : ByteArray, ByteArray.mk (quotL s.data.toList).toArray = t := ⟨_, rfl⟩
      have htz : t.size = M := by rw [← ht, mk_size, eM]
      have HQ : Hid (quoteS s = ⟨#[34]⟩ ++ t ++ ⟨#[34]⟩) := by show _ = _; unfold quoteS; rw [ht]
      rw [eM] at hcv hl ⊢
      rw [ht] at hcv
      have q1 : (⟨#[34]⟩ ++ t : ByteArray).size = 1 + t.size := by rw [ByteArray.size_append]; rfl
      clear eM HI ht
      go_wp2
      go_ret
      exact ⟨by rw [HQ.out]; rfl, bel⟩
end Go.Proofs.YtgcbkjfckmjgeaaGreatDoor
