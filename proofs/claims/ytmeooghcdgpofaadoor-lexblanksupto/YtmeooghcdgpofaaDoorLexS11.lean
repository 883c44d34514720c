/- The program's scanner: escapes of control bytes, gaps. -/
import Derived.Test.YtmeooghcdgpofaaDoorProg
import Derived.Test.YtmeooghcdgpofaaDoorShelf
import Derived.Test.YtmeooghcdgpofaaDoorLex1
import Derived.Test.YtmeooghcdgpofaaDoorStrM
import Derived.Test.YtmeooghcdgpofaaDoorLexD1
import Derived.WalkKit
import Derived.ProofKit
import Derived.OpenShut
import Derived.Below
import Derived.WalkLawsBesides
import Derived.OwnWalk
import Derived.Lib.IndexBytes
namespace Go.Proofs.YtmeooghcdgpofaaDoor
open Go.ChangeShapes Go.WideShapes Go.ChangeAt Go.RowKit

/-- Behind a backslash and a '^'. -/
def ctlP : List UInt8 → Int × Nat
  | [] => (-1, 0)
  | d :: _ => if 64 ≤ d.toNat ∧ d.toNat ≤ 95 then ((d.toNat : Int) - 64, 2) else (-1, 0)

set_option maxRecDepth 100000 in
set_option maxHeartbeats 1000000 in
theorem controlled_any (s : ByteArray) (w : World) (x : Int) (k : Nat) (hx : ctlP (s.data.toList.drop 1) = (x, k)) (hs : s.size ≤ maxLen) (h0 : 0 < s.size) : Calls Tryd.prog 68 #[.string s] w fun e w' => e = .returned (.tuple #[.int .i64 x, .int .i64 (k : Int)]) ∧ w' = w := by
  unfold maxLen at hs
  by_cases h1 : 1 < s.size
  · rw [drop_at s 1 h1, ctlP] at hx
    obtain ⟨n, hn⟩ : ∃ n, (s[1]'h1).toNat = n := ⟨_, rfl⟩
    have hn2 : n < 256 := by rw [← hn]; exact (s[1]'h1).toNat_lt
    rw [hn] at hx
    by_cases h2 : 64 ≤ n ∧ n ≤ 95
    · rw [if_pos h2] at hx
      obtain ⟨rfl, rfl⟩ := Prod.mk.inj hx
      clear hx
      go_enter Tryd.func68, Tryd.ntmps68
      go_wp2
      go_ret2
      exact ⟨rfl, rfl⟩
    · rw [if_neg h2] at hx
      obtain ⟨rfl, rfl⟩ := Prod.mk.inj hx
      clear hx
      have cs : n < 64 ∨ (¬ n < 64 ∧ 96 ≤ n) := by omega
      clear h2
      rcases cs with h2 | ⟨h2, h3⟩
      all_goals
        go_enter Tryd.func68, Tryd.ntmps68
        go_wp2
        go_ret2
        exact ⟨rfl, rfl⟩
  · rw [drop_end s 1 h1, ctlP] at hx
    obtain ⟨rfl, rfl⟩ := Prod.mk.inj hx
    clear hx
    go_enter Tryd.func68, Tryd.ntmps68
    go_wp2
    go_ret2
    exact ⟨rfl, rfl⟩

theorem lblank_eq : lblankB = blankB := rfl
theorem head_pre (l : List UInt8) (x : UInt8) : ([x] : List UInt8).isPrefixOf l = decide (l.head? = some x) := by
  cases l with
  | nil => rfl
  | cons c r =>
    rw [List.isPrefixOf_cons_cons, List.isPrefixOf_nil_left, Bool.and_true, Bool.eq_iff_iff]
    simp
    exact eq_comm

set_option maxRecDepth 100000 in
set_option maxHeartbeats 1000000 in
theorem gap_any (s : ByteArray) (w : World) (g : Nat) (hg : gapN s.data.toList = g) (hs : s.size ≤ 1073741824) (hb : (s.data.toList.takeWhile blankB).length ≠ 0) : Calls Tryd.prog 69 #[.string s] w fun e w' => e = .returned (.int .i64 (g : Int)) ∧ Below w.heap.size w w' := by
  have CR := hide (fun W => run_any s 1 (by decide) (by omega) W)
  rw [isK_blank, lblank_eq] at CR
  have hle := runP_le blankB s.data.toList
  rw [size_list] at hle
  unfold gapN at hg
  rw [if_neg hb] at hg
  have hru : runP blankB s.data.toList = (s.data.toList.takeWhile blankB).length := rfl
  rw [← hru] at hg
  generalize runP blankB s.data.toList = n at *
  obtain ⟨t, ht⟩ : ∃ t, s.extract n s.size = t := ⟨_, rfl⟩
  have hl : t.data.toList = s.data.toList.drop n := by rw [← ht]; exact ext_list s n
  have CB := hide (fun W => Tryd.strings_HasPrefix t ⟨#[92]⟩ W)
  have e0 : Lib.hasPrefix t.data.toList (ByteArray.mk #[92]).data.toList = ([92] : List UInt8).isPrefixOf t.data.toList := rfl
  simp only [e0] at CB
  rw [head_pre, hl] at CB
  clear hl hru hb e0
  by_cases hh : (s.data.toList.drop n).head? = some 92
  · rw [if_pos hh] at hg
    rw [decide_eq_true hh] at CB
    subst hg
    clear hh
    go_enter Tryd.func69, Tryd.ntmps69
    go_wp2_with (first | (go_at_call 38; refine (CR.out _).mono ?_; rintro e w1 ⟨rfl, h0⟩; replace h0 := h0.symm; subst h0) | (go_at_call 45; refine (CB.out _).mono ?_; rintro e w1 ⟨rfl, h0⟩; replace h0 := h0.symm; subst h0))
    go_ret
    exact ⟨by go_num, Below.refl _ _⟩
  · rw [if_neg hh] at hg
    rw [decide_eq_false hh] at CB
    subst hg
    clear hh
    go_enter Tryd.func69, Tryd.ntmps69
    go_wp2_with (first | (go_at_call 38; refine (CR.out _).mono ?_; rintro e w1 ⟨rfl, h0⟩; replace h0 := h0.symm; subst h0) | (go_at_call 45; refine (CB.out _).mono ?_; rintro e w1 ⟨rfl, h0⟩; replace h0 := h0.symm; subst h0))
    go_ret
    exact ⟨rfl, Below.refl _ _⟩
end Go.Proofs.YtmeooghcdgpofaaDoor
