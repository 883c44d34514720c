/- The walk of the law FixDivides: it answers true for every two int64s. -/
import Derived.Test.YtjlogbpnehbbbaaProg
import Derived.Test.YtjlogbpnehbbbaaBase
import Derived.Test.YtjlogbpnehbbbaaRight
import Derived.Test.YtjlogbpnehbbbaaDiv
import Derived.Test.YtjlogbpnehbbbaaAdd
import Derived.Test.YtjlogbpnehbbbaaRefDiv
import Derived.WalkKit
import Derived.ProofKit
import Derived.OpenShut
namespace Go.Proofs.Ytjlogbpnehbbbaa.fixDivides
open Go.ChangeShapes Go.WideShapes Go.ChangeAt Go.RowKit

set_option maxHeartbeats 1000000 in
theorem walk (a0 : Int) (a1 : Int) (_w0 : (Lit.int .i64 a0).wf = true) (_w1 : (Lit.int .i64 a1).wf = true) (w : World) :
    Calls Try.prog 5 #[.int .i64 a0, .int .i64 a1] w fun e w' => e = .returned (.bool true) ∧ Grown w w' := by
  obtain ⟨c, e1⟩ : ∃ x, divV a0 a1 = x := ⟨_, rfl⟩
  obtain ⟨d, e2⟩ : ∃ x, divF a0 a1 = x := ⟨_, rfl⟩
  obtain ⟨p, e3⟩ : ∃ x, modV a0 a1 = x := ⟨_, rfl⟩
  obtain ⟨q, e4⟩ : ∃ x, divE a0 a1 = x := ⟨_, rfl⟩
  obtain ⟨n, e5⟩ : ∃ x, quotV a0 a1 = x := ⟨_, rfl⟩
  obtain ⟨m, e6⟩ : ∃ x, quotE a0 a1 = x := ⟨_, rfl⟩
  obtain ⟨x, e7⟩ : ∃ x, remV a0 a1 = x := ⟨_, rfl⟩
  go_enter Try.func5, Try.ntmps5
  go_wp2_with (first | (go_at_call 20; refine (div_any _ _ _).mono ?_; rintro e w1 ⟨rfl, g1⟩) | (go_at_call 21; refine (rdiv_any _ _ _).mono ?_; rintro e w1 ⟨rfl, rfl⟩) | (go_at_call 22; refine (mod_any _ _ _).mono ?_; rintro e w1 ⟨rfl, g2⟩) | (go_at_call 23; refine (rmod_any _ _ _).mono ?_; rintro e w1 ⟨rfl, rfl⟩) | (go_at_call 24; refine (quot_any _ _ _).mono ?_; rintro e w1 ⟨rfl, g3⟩) | (go_at_call 25; refine (rquot_any _ _ _).mono ?_; rintro e w1 ⟨rfl, rfl⟩) | (go_at_call 26; refine (rem_any _ _ _).mono ?_; rintro e w1 ⟨rfl, g4⟩) | (go_at_call 27; refine (rrem_any _ _ _).mono ?_; rintro e w1 ⟨rfl, rfl⟩) | (go_at_call 9; refine (alive_any _).mono ?_; rintro e w5 ⟨rfl, g5⟩))
  go_ret
  refine ⟨rfl, ?_⟩
  repeat (first | assumption | refine grown_trans ?_ (by assumption))
end Go.Proofs.Ytjlogbpnehbbbaa.fixDivides
