/- The walk of the law FixAdds: it answers true for every row of int64s. -/
import Derived.Test.YtjlogbpnehbbbaaProg
import Derived.Test.YtjlogbpnehbbbaaBase
import Derived.Test.YtjlogbpnehbbbaaRight
import Derived.Test.YtjlogbpnehbbbaaDiv
import Derived.Test.YtjlogbpnehbbbaaAdd
import Derived.Test.YtjlogbpnehbbbaaAlive
import Derived.Test.YtjlogbpnehbbbaaRefAdd
import Derived.WalkKit
import Derived.ProofKit
import Derived.OpenShut
import Derived.Below
namespace Go.Proofs.Ytjlogbpnehbbbaa.fixAdds
open Go.ChangeShapes Go.WideShapes Go.ChangeAt Go.RowKit

/-- What the walk is told of a slice of integers that came in: it is nil; or it leads to a row of 'cap' cells, the numbers 'zs' (the first 'len' are its elements), each fitting its kind. -/
def IsRow (k : IntKind) (w : World) (a : Option Addr) (len cap : Nat) (zs : List Int) : Prop :=
  (a = none ∧ len = 0 ∧ cap = 0 ∧ zs = []) ∨
  ∃ x, a = some x ∧ len ≤ cap ∧ cap ≤ maxLen ∧ zs.length = cap ∧ (∀ i, i < zs.length → w.cell? (x.add i) = some (.int k (zs.getD i 0))) ∧ ∀ n ∈ zs, (Lit.int k n).wf = true

theorem none_there (a : Option Addr) (cap : Nat) (w : World) :
    Calls Try.prog 3 #[.slice a 0 cap] w fun e w' => e = .returned (.bool true) ∧ Below w.heap.size w w' := by
  go_enter Try.func3, Try.ntmps3
  go_wp2_with (first | (go_at_call 7; refine (add_nil _ _ _).mono ?_; rintro e w1 ⟨rfl, rfl⟩) | (go_at_call 8; refine (radd_nil _ _ _).mono ?_; rintro e w1 ⟨rfl, rfl⟩) | (go_at_call 9; refine (alive_below _).mono ?_; rintro e w5 ⟨rfl, g5⟩))
  go_ret
  exact ⟨rfl, by assumption⟩

theorem some_there (b off cap : Nat) (zs : List Int) (w : World) (hl : zs.length ≤ maxLen)
    (hc : ∀ j, j < zs.length → w.cell? ⟨b, off + j, none⟩ = some (.int .i64 (zs.getD j 0))) :
    Calls Try.prog 3 #[.slice (some ⟨b, off, none⟩) zs.length cap] w fun e w' => e = .returned (.bool true) ∧ Below w.heap.size w w' := by
  have HL := hide hl
  have HC := hide hc
  clear hc hl
  obtain ⟨s, e1⟩ : ∃ s, (addR zs).1 = s := ⟨_, rfl⟩
  obtain ⟨t, e2⟩ : ∃ s, (addR zs).2 = s := ⟨_, rfl⟩
  go_enter Try.func3, Try.ntmps3
  go_wp2_with (first | (go_at_call 7; refine (add_any _ _ _ zs _ HL.out HC.out).mono ?_; rintro e w1 ⟨rfl, rfl⟩) | (go_at_call 8; refine (radd_any _ _ _ zs _ HL.out HC.out).mono ?_; rintro e w1 ⟨rfl, rfl⟩) | (go_at_call 9; refine (alive_below _).mono ?_; rintro e w5 ⟨rfl, g5⟩))
  go_ret
  exact ⟨rfl, by assumption⟩

theorem walk (a0 : Option Addr) (len0 cap0 : Nat) (z0 : List Int) (w : World) (w0 : IsRow .i64 w a0 len0 cap0 z0) :
    Calls Try.prog 3 #[.slice a0 len0 cap0] w fun e w' => e = .returned (.bool true) ∧ Below w.heap.size w w' := by
  rcases w0 with ⟨_, rfl, _, _⟩ | ⟨x, rfl, hlc, hcm, hz, hcell, _⟩
  · exact none_there _ _ _
  · by_cases h0 : len0 = 0
    · subst h0; exact none_there _ _ _
    · obtain ⟨b, off, rfl, hc⟩ := ints_at hcell (by omega)
      have hlen : (z0.take len0).length = len0 := by rw [List.length_take]; omega
      obtain ⟨zs, hzs, hcz⟩ : ∃ zs : List Int, zs.length = len0 ∧ ∀ j, j < zs.length → w.cell? ⟨b, off + j, none⟩ = some (.int .i64 (zs.getD j 0)) := by
        refine ⟨z0.take len0, hlen, fun j hj => ?_⟩
        rw [hc j (by omega)]
        have : (z0.take len0).getD j 0 = z0.getD j 0 := by
          simp only [List.getD_eq_getElem?_getD]
          rw [List.getElem?_take_of_lt (by omega)]
        rw [this]
      subst hzs
      exact some_there b off cap0 zs w (by omega) hcz
end Go.Proofs.Ytjlogbpnehbbbaa.fixAdds
