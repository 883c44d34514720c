/- The walk of the law FixReckons: it answers true for every two int64s. -/
import Derived.Test.YtjlogbpnehbbbaaProg
import Derived.Test.YtjlogbpnehbbbaaBase
import Derived.Test.YtjlogbpnehbbbaaRight
import Derived.Test.YtjlogbpnehbbbaaDiv
import Derived.Test.YtjlogbpnehbbbaaAdd
import Derived.Test.YtjlogbpnehbbbaaRef
import Derived.WalkKit
import Derived.ProofKit
import Derived.OpenShut
namespace Go.Proofs.Ytjlogbpnehbbbaa.fixReckons
open Go.ChangeShapes Go.WideShapes Go.ChangeAt Go.RowKit

set_option maxHeartbeats 1000000 in
theorem walk (a0 : Int) (a1 : Int) (_w0 : (Lit.int .i64 a0).wf = true) (_w1 : (Lit.int .i64 a1).wf = true) (w : World) :
    Calls Try.prog 4 #[.int .i64 a0, .int .i64 a1] w fun e w' => e = .returned (.bool true) ∧ Grown w w' := by
  obtain ⟨c, e1⟩ : ∃ x, subV a0 a1 = x := ⟨_, rfl⟩
  obtain ⟨d, e2⟩ : ∃ x, subE a0 a1 = x := ⟨_, rfl⟩
  obtain ⟨p, e3⟩ : ∃ x, mulV a0 a1 = x := ⟨_, rfl⟩
  obtain ⟨q, e4⟩ : ∃ x, mulE a0 a1 = x := ⟨_, rfl⟩
  obtain ⟨n, e5⟩ : ∃ x, negV a0 = x := ⟨_, rfl⟩
  obtain ⟨m, e6⟩ : ∃ x, negE a0 = x := ⟨_, rfl⟩
  obtain ⟨x, e7⟩ : ∃ x, absV a0 = x := ⟨_, rfl⟩
  obtain ⟨y, e8⟩ : ∃ x, absE a0 = x := ⟨_, rfl⟩
  obtain ⟨r, e9⟩ : ∃ x, rightB a0 = x := ⟨_, rfl⟩
  go_enter Try.func4, Try.ntmps4
  go_wp2_with (first | (go_at_call 10; refine (sub_any _ _ _).mono ?_; rintro e w1 ⟨rfl, g1⟩) | (go_at_call 11; refine (rsub_any _ _ _).mono ?_; rintro e w1 ⟨rfl, rfl⟩) | (go_at_call 12; refine (mul_any _ _ _).mono ?_; rintro e w1 ⟨rfl, g2⟩) | (go_at_call 13; refine (rmul_any _ _ _).mono ?_; rintro e w1 ⟨rfl, rfl⟩) | (go_at_call 14; refine (neg_any _ _).mono ?_; rintro e w1 ⟨rfl, rfl⟩) | (go_at_call 15; refine (rneg_any _ _).mono ?_; rintro e w1 ⟨rfl, rfl⟩) | (go_at_call 16; refine (abs_any _ _).mono ?_; rintro e w1 ⟨rfl, rfl⟩) | (go_at_call 17; refine (rabs_any _ _).mono ?_; rintro e w1 ⟨rfl, rfl⟩) | (go_at_call 18; refine (right_any _ _).mono ?_; rintro e w1 ⟨rfl, rfl⟩) | (go_at_call 19; refine (rright_any _ _).mono ?_; rintro e w1 ⟨rfl, rfl⟩) | (go_at_call 9; refine (alive_any _).mono ?_; rintro e w5 ⟨rfl, g5⟩))
  go_ret
  refine ⟨rfl, ?_⟩
  repeat (first | assumption | refine grown_trans ?_ (by assumption))
end Go.Proofs.Ytjlogbpnehbbbaa.fixReckons
