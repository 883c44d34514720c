/- Constant, of package fix and of the document: both answer the same for every text. -/
import Derived.Test.YtjlogbpnehbbbabDoorProg
import Derived.Test.YtjlogbpnehbbbabDoorBase
import Derived.Test.YtjlogbpnehbbbabDoorRight
import Derived.Test.YtjlogbpnehbbbabDoorDiv
import Derived.Test.YtjlogbpnehbbbabDoorAdd
import Derived.Test.YtjlogbpnehbbbabDoorRef
import Derived.Test.YtjlogbpnehbbbabDoorLead
import Derived.Test.YtjlogbpnehbbbabDoorConst
import Derived.WalkKit
import Derived.ProofKit
import Derived.OpenShut
import Derived.Below
import Derived.WalkLawsBesides
import Derived.Lib.IndexBytes
namespace Go.Proofs.YtjlogbpnehbbbabDoor
open Go.ChangeShapes Go.WideShapes Go.ChangeAt Go.RowKit

set_option maxHeartbeats 1000000 in
theorem fconst_core (s s1 s2 : ByteArray) (b1 b2 : Bool) (base v : Int) (k : Nat) (w : World)
    (e1 : cutS s ⟨#[126]⟩ = s1) (e2 : hpB s ⟨#[126]⟩ = b1) (e3 : cutS s1 ⟨#[48, 120]⟩ = s2) (e4 : hpB s1 ⟨#[48, 120]⟩ = b2) (hb : base = if b2 then 16 else 10)
    (e5 : (leadGo base 0 0 s2.data.toList).1 = v) (e6 : (leadGo base 0 0 s2.data.toList).2 = k) (hv : 0 ≤ v ∧ v ≤ 4611686018427387905) (hk : 0 < k) (hk2 : s2.size ≤ k) :
    Calls Tryd.prog 7 #[.string s] w fun e w' => e = .returned (.tuple #[.int .i64 (ansV (sgn v b1)), .int .i64 (ansE (sgn v b1))]) ∧ ∃ p, w' = w.iter s2 p := by
  have hz1 : ((k : Int) == 0) = false := by simp; omega
  have hz2 : decide (k < s2.size) = false := by simp; omega
  cases b2
  all_goals
    simp only [Bool.false_eq_true, if_false, if_true] at hb
    subst hb
    go_enter Tryd.func7, Tryd.ntmps7
    go_wp2_with (first | (go_at_call 12; refine (cut_any _ _ _).mono ?_; rintro e w' ⟨rfl, rfl⟩) | (go_at_call 13; refine (leading_any _ _ _ (by omega)).mono ?_; rintro e w' ⟨rfl, p, rfl⟩) | (go_at_call 14; refine (fsigned_any _ _ _ (by omega)).mono ?_; rintro e w' ⟨rfl, rfl⟩))
    go_ret2
    exact ⟨rfl, _, rfl⟩

set_option maxHeartbeats 1000000 in
theorem fconst_bad (s s1 s2 : ByteArray) (b1 b2 : Bool) (base v : Int) (k : Nat) (w : World)
    (e1 : cutS s ⟨#[126]⟩ = s1) (e2 : hpB s ⟨#[126]⟩ = b1) (e3 : cutS s1 ⟨#[48, 120]⟩ = s2) (e4 : hpB s1 ⟨#[48, 120]⟩ = b2) (hb : base = if b2 then 16 else 10)
    (e5 : (leadGo base 0 0 s2.data.toList).1 = v) (e6 : (leadGo base 0 0 s2.data.toList).2 = k) (hk : k = 0 ∨ k < s2.size) :
    Calls Tryd.prog 7 #[.string s] w fun e w' => e = .returned (.tuple #[.int .i64 0, .int .i64 12]) ∧ ∃ p, w' = w.iter s2 p := by
  have hz : k = 0 ∨ (((k : Int) == 0) = false ∧ decide (k < s2.size) = true) := by
    by_cases z : k = 0
    · exact Or.inl z
    · exact Or.inr ⟨by simp; omega, by simp; omega⟩
  clear hk
  cases b2 <;> rcases hz with hz | ⟨hz, hz2⟩
  all_goals
    simp only [Bool.false_eq_true, if_false, if_true] at hb
    subst hb
    try subst hz
    go_enter Tryd.func7, Tryd.ntmps7
    go_wp2_with (first | (go_at_call 12; refine (cut_any _ _ _).mono ?_; rintro e w' ⟨rfl, rfl⟩) | (go_at_call 13; refine (leading_any _ _ _ (by omega)).mono ?_; rintro e w' ⟨rfl, p, rfl⟩) | (go_at_call 14; refine (fsigned_any _ _ _ (by omega)).mono ?_; rintro e w' ⟨rfl, rfl⟩))
    go_ret2
    exact ⟨rfl, _, rfl⟩

/-- All are digits of a base, and there is one. -/
def allB (base : Int) (s : ByteArray) : Bool := digsB base s.data.toList && !decide (s.size = 0)
theorem allB_digs {base : Int} {s : ByteArray} (h : allB base s = true) : digsB base s.data.toList = true := by
  unfold allB at h; rw [Bool.and_eq_true] at h; exact h.1
end Go.Proofs.YtjlogbpnehbbbabDoor
