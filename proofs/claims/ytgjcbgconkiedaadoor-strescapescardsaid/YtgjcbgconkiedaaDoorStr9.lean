/- How a string stands in a program, on both sides. -/
import Derived.Test.YtgjcbgconkiedaaDoorProg
import Derived.Test.YtgjcbgconkiedaaDoorStr7
import Derived.Test.YtgjcbgconkiedaaDoorStr8
import Derived.Test.YtgjcbgconkiedaaDoorStr3
import Derived.WalkKit
import Derived.ProofKit
import Derived.OpenShut
import Derived.Below
import Derived.WalkLawsBesides
import Derived.OwnWalk
import Derived.Laws.IdiomStrings
import Derived.Lib.AppendStr
import Derived.Lib.IndexBytes
namespace Go.Proofs.YtgjcbgconkiedaaDoor
open Go.ChangeShapes Go.WideShapes Go.ChangeAt Go.RowKit

def escE (s : ByteArray) : Int := if ¬ s.size ≤ 65536 then 1 else if 65536 < (escL s.data.toList).length then 2 else 0
def escS (s : ByteArray) : ByteArray := if escE s = 0 then ⟨(escL s.data.toList).toArray⟩ else ⟨#[]⟩
theorem escL_snoc (s : ByteArray) (k : Nat) (h : k < s.size) : escL (s.data.toList.take (k + 1)) = escL (s.data.toList.take k) ++ shownL (s[k]'h) := by
  have hl : k < s.data.toList.length := by simpa using h
  rw [List.take_succ_eq_append_getElem hl]
  simp only [escL, List.flatMap_append]
  simp
  rfl
theorem escL_len (l : List UInt8) : (escL l).length ≤ 4 * l.length := by
  induction l with
  | nil => simp [escL]
  | cons c r ih =>
    have e : escL (c :: r) = shownL c ++ escL r := by simp [escL]
    have := shown_len c
    rw [e, List.length_append, List.length_cons]
    omega
theorem escL_take_len (s : ByteArray) (k : Nat) : (escL (s.data.toList.take k)).length ≤ 4 * k := by
  have := escL_len (s.data.toList.take k)
  have h2 : (s.data.toList.take k).length ≤ k := List.length_take_le _ _
  omega
theorem esc_arg {s : ByteArray} (h : ¬ s.size ≤ 65536) : escE s = 1 ∧ escS s = ⟨#[]⟩ := by
  have e : escE s = 1 := by unfold escE; rw [if_pos h]
  exact ⟨e, by unfold escS; rw [e]; rfl⟩
theorem esc_long {s : ByteArray} (h : s.size ≤ 65536) (g : 65536 < (escL s.data.toList).length) : escE s = 2 ∧ escS s = ⟨#[]⟩ := by
  have e : escE s = 2 := by unfold escE; rw [if_neg (by omega), if_pos g]
  exact ⟨e, by unfold escS; rw [e]; rfl⟩
theorem esc_ok {s : ByteArray} (h : s.size ≤ 65536) (g : ¬ 65536 < (escL s.data.toList).length) : escE s = 0 ∧ escS s = ⟨(escL s.data.toList).toArray⟩ := by
  have e : escE s = 0 := by unfold escE; rw [if_neg (by omega), if_neg g]
  exact ⟨e, by unfold escS; rw [e]; rfl⟩

set_option maxHeartbeats 2000000 in
set_option maxRecDepth 100000 in
theorem escape_any (s : ByteArray) (w : World) : Calls Tryd.prog 22 #[.string s] w fun e w' => e = .returned (.tuple #[.string (escS s), .int .i64 (escE s)]) ∧ Below w.heap.size w w' := by
  by_cases hr : s.size ≤ 65536
  · have HD : Hid (decide (s.size ≤ 65536) = true) := by show _ = _; simp [hr]
    have HR := hide hr
    go_enter Tryd.func22, Tryd.ntmps22
    go_wp2_with (go_at_call 20; refine (right_any _ _).mono ?_; rintro e w' ⟨rfl, hw⟩; replace hw := hw.symm; subst hw; rw [HD.out])
    go_loopw [4, 11] (fun vt vi wr => ∃ k : Nat, vi = .int .i64 (k : Int) ∧ k ≤ s.size ∧ Hid (Own w.heap.size vt (escL (s.data.toList.take k)) wr) ∧ Below w.heap.size w wr) (fun _ vi _ => s.size - (intOf vi).toNat)
    case atStart => exact ⟨0, rfl, by omega, own_nil _ _, Below.refl _ _⟩
    case round =>
      obtain ⟨k, rfl, hk, HI, bel⟩ := hrel
      have hl := escL_take_len s k
      have bsz := bel.size
      by_cases h1 : k < s.size
      · have HS := hide (escL_snoc s k h1)
        have HL := hide hl
        clear hl
        go_wp2_with (go_at_call 31; refine (writeOne_any _ _ _ _ _ HI.out (by have := HL.out; omega) bsz).mono ?_; rintro e w2 ⟨v', rfl, o2, b2⟩; have O2 := hide o2; clear o2)
        go_roundw
        case rel => exact ⟨k + 1, rfl, by omega, by show Own _ _ _ _; rw [HS.out]; exact O2.out, bel.trans b2⟩
        case measure => simp [intOf]; omega
      · have HT : Hid (s.data.toList.take k = s.data.toList) := List.take_of_length_le (by simp; omega)
        obtain ⟨ao', cap', rfl⟩ := own_slice HI.out
        have hcv := own_string HI.out
        rw [HT.out] at hcv hl ⊢
        obtain ⟨M, eM⟩ : ∃ M, (escL s.data.toList).length = M := ⟨_, rfl⟩
        have EM := hide eM
        rw [eM] at hcv hl ⊢
        clear eM HI
        by_cases h2 : 65536 < M
        · have HE := hide (esc_long HR.out (by rw [EM.out]; exact h2))
          go_wp2
          go_ret2
          exact ⟨ret_si HE.out.2.symm HE.out.1.symm, bel⟩
        · have HE := hide (esc_ok HR.out (by rw [EM.out]; exact h2))
          rw [← HE.out.2] at hcv
          go_wp2
          go_ret2
          exact ⟨ret_si rfl HE.out.1.symm, bel⟩
  · have HD : Hid (decide (s.size ≤ 65536) = false) := by show _ = _; simp; omega
    have HE := hide (esc_arg hr)
    clear hr
    go_enter Tryd.func22, Tryd.ntmps22
    go_wp2_with (go_at_call 20; refine (right_any _ _).mono ?_; rintro e w' ⟨rfl, hw⟩; replace hw := hw.symm; subst hw; rw [HD.out])
    go_ret2
    exact ⟨ret_si HE.out.2.symm HE.out.1.symm, Below.refl _ _⟩

theorem mk_size (l : List UInt8) : (ByteArray.mk l.toArray).size = l.length := by simp [ByteArray.size]

theorem own_below {B : Nat} {v : Value} {l : List UInt8} {w w' : World} (h : Own B v l w) (b : Below w.heap.size w w') : Own B v l w' := by
  refine ⟨h.1, ?_⟩
  rcases h.2 with h0 | ⟨g, cap, cur, hv, hb, hg, hr⟩
  · exact .inl h0
  · refine .inr ⟨g, cap, cur, hv, hb, ?_, hr⟩
    rw [b.block g (by rcases Nat.lt_or_ge g w.heap.size with x | x
                      · exact x
                      · rw [Array.getElem?_eq_none x] at hg; cases hg)]
    exact hg

set_option maxHeartbeats 2000000 in
set_option maxRecDepth 100000 in
theorem rescape_any (s : ByteArray) (w : World) : Calls Tryd.prog 23 #[.string s] w fun e w' => e = .returned (.tuple #[.string (escS s), .int .i64 (escE s)]) ∧ Below w.heap.size w w' := by
  obtain ⟨i0, hi, hz0, hz1, hz2⟩ := info_parts infoByte
  by_cases hr : s.size ≤ 65536
  · have HD : Hid (decide (s.size ≤ 65536) = true) := by show _ = _; simp [hr]
    have HR := hide hr
    go_enter Tryd.func23, Tryd.ntmps23
    go_wp2_with (go_at_call 21; refine (rright_any _ _).mono ?_; rintro e w' ⟨rfl, hw⟩; replace hw := hw.symm; subst hw; rw [HD.out])
    go_loopw [4, 5] (fun vt vi wr => ∃ k : Nat, vi = .int .i64 (k : Int) ∧ k ≤ s.size ∧ Hid (Own w.heap.size vt (escL (s.data.toList.take k)) wr) ∧ Below w.heap.size w wr) (fun _ vi _ => s.size - (intOf vi).toNat)
    case atStart => exact ⟨0, rfl, by omega, own_nil _ _, Below.refl _ _⟩
    case round =>
      obtain ⟨k, rfl, hk, HI, bel⟩ := hrel
      have hl := escL_take_len s k
      have bsz := bel.size
      by_cases h1 : k < s.size
      · have HS := hide (escL_snoc s k h1)
        have HL := hide hl
        have HC := hide (shown_len (s[k]'h1))
        clear hl
        go_wp2_with (first
          | (go_at_call 32; refine (shown_any _ _).mono ?_; rintro e w1 ⟨rfl, b1⟩)
          | (at_builtin; refine Lib.wpList_append_own_string _ rfl _ _ 50 9 rfl w.heap.size 5 i0 Tryd.underlying50 Tryd.underlying9 hi hz0 hz1 hz2 _ _ _ rfl (own_below HI.out b1) _ rfl (by have := HL.out; have := HC.out; rw [mk_size]; unfold maxLen; omega) (by have := HL.out; have := HC.out; rw [mk_size]; omega) (by have := b1.size; omega) ?_; intro v' w2 o2 g2 _; have O2 := hide o2; clear o2))
        go_roundw
        case rel =>
          refine ⟨k + 1, rfl, by omega, ?_, (bel.trans (b1.mono bsz)).grown g2 (by have := b1.size; omega) (fun j hj => (HI.out.lt j hj).1)⟩
          show Own _ _ _ _
          have o := O2.out
          unfold Own
          rw [HS.out, byteCells_snoc, List.length_append]
          rw [mk_size] at o
          exact o
        case measure => simp [intOf]; omega
      · have HT : Hid (s.data.toList.take k = s.data.toList) := List.take_of_length_le (by simp; omega)
        obtain ⟨ao', cap', rfl⟩ := own_slice HI.out
        have hcv := own_string HI.out
        rw [HT.out] at hcv hl ⊢
        obtain ⟨M, eM⟩ : ∃ M, (escL s.data.toList).length = M := ⟨_, rfl⟩
        have EM := hide eM
        rw [eM] at hcv hl ⊢
        clear eM HI
        by_cases h2 : 65536 < M
        · have HE := hide (esc_long HR.out (by rw [EM.out]; exact h2))
          go_wp2
          go_ret2
          exact ⟨ret_si HE.out.2.symm HE.out.1.symm, bel⟩
        · have HE := hide (esc_ok HR.out (by rw [EM.out]; exact h2))
          rw [← HE.out.2] at hcv
          go_wp2
          go_ret2
          exact ⟨ret_si rfl HE.out.1.symm, bel⟩
  · have HD : Hid (decide (s.size ≤ 65536) = false) := by show _ = _; simp; omega
    have HE := hide (esc_arg hr)
    clear hr
    go_enter Tryd.func23, Tryd.ntmps23
    go_wp2_with (go_at_call 21; refine (rright_any _ _).mono ?_; rintro e w' ⟨rfl, hw⟩; replace hw := hw.symm; subst hw; rw [HD.out])
    go_ret2
    exact ⟨ret_si HE.out.2.symm HE.out.1.symm, Below.refl _ _⟩
end Go.Proofs.YtgjcbgconkiedaaDoor
