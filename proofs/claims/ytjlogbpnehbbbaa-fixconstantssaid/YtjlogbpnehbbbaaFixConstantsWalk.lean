/- The walk of the law FixConstants: it answers true for every text. -/
import Derived.Test.YtjlogbpnehbbbaaConst3
namespace Go.Proofs.Ytjlogbpnehbbbaa.fixConstants
open Go.ChangeShapes Go.WideShapes Go.ChangeAt Go.RowKit

theorem grown_iter (w : World) (t : ByteArray) (p : Nat) : Grown w (w.iter t p) := by
  refine ⟨World.keptBut_alloc _ _ _, fun a => ?_, by simp [World.iter]⟩
  by_cases h : a.block = w.heap.size
  · have e1 : (w.iter t p).heap[a.block]? = some (.stringIter t p) := by rw [h]; exact World.iter_heap w t p
    have e2 : w.heap[a.block]? = none := by rw [h]; simp
    simp [World.frozen?, e1, e2]
  · have e1 : (w.iter t p).heap[a.block]? = w.heap[a.block]? := by
      show (w.heap.push _)[a.block]? = _
      rw [Array.getElem?_push, if_neg h]
    simp [World.frozen?, e1]

theorem walk (a0 : ByteArray) (w0 : a0.size ≤ maxLen) (w : World) :
    Calls Try.prog 6 #[.string a0] w fun e w' => e = .returned (.bool true) ∧ Grown w w' := by
  obtain ⟨a, e, h1, h2⟩ := const_both a0 w0
  have H1 := hide h1
  have H2 := hide h2
  clear h1 h2
  go_enter Try.func6, Try.ntmps6
  go_wp2_with (first | (go_at_call 28; refine (H1.out _).mono ?_; rintro e w1 ⟨rfl, t, p, rfl⟩) | (go_at_call 29; refine (H2.out _).mono ?_; rintro e w1 ⟨rfl, rfl⟩) | (go_at_call 9; refine (alive_any _).mono ?_; rintro e w5 ⟨rfl, g5⟩))
  go_ret
  exact ⟨rfl, grown_trans (grown_iter _ _ _) (by assumption)⟩
end Go.Proofs.Ytjlogbpnehbbbaa.fixConstants
