/- What package fix's Scan answers, for every text. -/
import Derived.Test.YtjlogbpnehbbbabDoorProg
import Derived.Test.YtjlogbpnehbbbabDoorShelf
import Derived.Test.YtjlogbpnehbbbabDoorScan
import Derived.WalkKit
import Derived.ProofKit
import Derived.OpenShut
import Derived.Below
import Derived.WalkLawsBesides
import Derived.OwnWalk
namespace Go.Proofs.YtjlogbpnehbbbabDoor
open Go.ChangeShapes Go.WideShapes Go.ChangeAt Go.RowKit

theorem below_iter {w w1 : World} (h : Below w.heap.size w w1) (t : ByteArray) (p : Nat) : Below w.heap.size w (w1.iter t p) := h.alloc h.size _

/-- What is told of the trimmed text. -/
def Trims (s t : ByteArray) : Prop := ∀ w, Calls Tryd.prog 15 #[.string s, .string ⟨#[9, 10, 11, 12, 13, 32]⟩] w fun e w' => e = .returned (.string t) ∧ Below w.heap.size w w'
/-- What is told of a sign. -/
def Signs (c : UInt8) (b : Bool) : Prop := ∀ w, Calls Tryd.prog 16 #[.string ⟨#[126, 45, 43]⟩, .string ⟨#[c]⟩] w fun e w' => e = .returned (.bool b) ∧ w' = w

set_option maxHeartbeats 2000000 in
theorem fscan_plain (s t : ByteArray) (c : UInt8) (v : Int) (k : Nat) (w : World) (hs : s.size ≤ maxLen) (hts : t.size ≤ s.size) (ht : Trims s t)
    (hc : t.toList.isEmpty = true ∨ t.toList.isEmpty = false ∧ 1 ≤ t.size ∧ t.extract 0 1 = ⟨#[c]⟩ ∧ Signs c false)
    (e5 : (leadGo 10 0 0 t.data.toList).1 = v) (e6 : (leadGo 10 0 0 t.data.toList).2 = k) (hv : 0 ≤ v ∧ v ≤ 4611686018427387905) (hk : 0 < k) (hk2 : k ≤ t.size) :
    Calls Tryd.prog 8 #[.string s] w fun e w' => e = .returned (.tuple #[.int .i64 (ansV (sgn v false)), .int .i64 (s.size - t.size + k), .int .i64 (ansE (sgn v false))]) ∧ Below w.heap.size w w' := by
  unfold maxLen at hs
  have HT := hide ht
  clear ht
  have hz1 : ((k : Int) == 0) = false := by simp; omega
  rcases hc with h0 | ⟨h0, h1, hx, hsg⟩
  · go_enter Tryd.func8, Tryd.ntmps8
    go_wp2_with (first | (go_at_call 15; refine (HT.out _).mono ?_; rintro e w1 ⟨rfl, g1⟩) | (go_at_call 13; refine (leading_any _ _ _ (by omega)).mono ?_; rintro e w' ⟨rfl, p, rfl⟩) | (go_at_call 14; refine (fsigned_any _ _ _ (by omega)).mono ?_; rintro e w' ⟨rfl, rfl⟩))
    go_ret3
    exact ⟨rfl, below_iter (by assumption) _ _⟩
  · have HS := hide hsg
    clear hsg
    go_enter Tryd.func8, Tryd.ntmps8
    go_wp2_with (first | (go_at_call 15; refine (HT.out _).mono ?_; rintro e w1 ⟨rfl, g1⟩) | (go_at_call 16; refine (HS.out _).mono ?_; rintro e w1 ⟨rfl, rfl⟩) | (go_at_call 13; refine (leading_any _ _ _ (by omega)).mono ?_; rintro e w' ⟨rfl, p, rfl⟩) | (go_at_call 14; refine (fsigned_any _ _ _ (by omega)).mono ?_; rintro e w' ⟨rfl, rfl⟩))
    go_ret3
    exact ⟨rfl, below_iter (by assumption) _ _⟩

set_option maxHeartbeats 2000000 in
theorem fscan_plain_none (s t : ByteArray) (c : UInt8) (w : World) (ht : Trims s t)
    (hc : t.toList.isEmpty = true ∨ t.toList.isEmpty = false ∧ 1 ≤ t.size ∧ t.extract 0 1 = ⟨#[c]⟩ ∧ Signs c false)
    (e6 : (leadGo 10 0 0 t.data.toList).2 = 0) :
    Calls Tryd.prog 8 #[.string s] w fun e w' => e = .returned (.tuple #[.int .i64 0, .int .i64 0, .int .i64 12]) ∧ Below w.heap.size w w' := by
  have HT := hide ht
  clear ht
  rcases hc with h0 | ⟨h0, h1, hx, hsg⟩
  · go_enter Tryd.func8, Tryd.ntmps8
    go_wp2_with (first | (go_at_call 15; refine (HT.out _).mono ?_; rintro e w1 ⟨rfl, g1⟩) | (go_at_call 13; refine (leading_any _ _ _ (by omega)).mono ?_; rintro e w' ⟨rfl, p, rfl⟩))
    go_ret3
    exact ⟨rfl, below_iter (by assumption) _ _⟩
  · have HS := hide hsg
    clear hsg
    go_enter Tryd.func8, Tryd.ntmps8
    go_wp2_with (first | (go_at_call 15; refine (HT.out _).mono ?_; rintro e w1 ⟨rfl, g1⟩) | (go_at_call 16; refine (HS.out _).mono ?_; rintro e w1 ⟨rfl, rfl⟩) | (go_at_call 13; refine (leading_any _ _ _ (by omega)).mono ?_; rintro e w' ⟨rfl, p, rfl⟩))
    go_ret3
    exact ⟨rfl, below_iter (by assumption) _ _⟩

set_option maxHeartbeats 2000000 in
theorem fscan_sign (s t u : ByteArray) (c : UInt8) (below : Bool) (v : Int) (k : Nat) (w : World) (hs : s.size ≤ maxLen) (hts : t.size ≤ s.size) (ht : Trims s t)
    (h0 : t.toList.isEmpty = false) (h1 : 0 < t.size) (hx : t.extract 0 1 = ⟨#[c]⟩) (hsg : Signs c true) (hb : (((t[0]'h1).toNat : Int) != 43) = below) (hu : t.extract 1 t.size = u) (hus : u.size ≤ t.size)
    (e5 : (leadGo 10 0 0 u.data.toList).1 = v) (e6 : (leadGo 10 0 0 u.data.toList).2 = k) (hv : 0 ≤ v ∧ v ≤ 4611686018427387905) (hk : 0 < k) (hk2 : k ≤ u.size) :
    Calls Tryd.prog 8 #[.string s] w fun e w' => e = .returned (.tuple #[.int .i64 (ansV (sgn v below)), .int .i64 (s.size - u.size + k), .int .i64 (ansE (sgn v below))]) ∧ Below w.heap.size w w' := by
  unfold maxLen at hs
  have HT := hide ht
  have HS := hide hsg
  clear ht hsg
  have hz1 : ((k : Int) == 0) = false := by simp; omega
  go_enter Tryd.func8, Tryd.ntmps8
  go_wp2_with (first | (go_at_call 15; refine (HT.out _).mono ?_; rintro e w1 ⟨rfl, g1⟩) | (go_at_call 16; refine (HS.out _).mono ?_; rintro e w1 ⟨rfl, rfl⟩) | (go_at_call 13; refine (leading_any _ _ _ (by omega)).mono ?_; rintro e w' ⟨rfl, p, rfl⟩) | (go_at_call 14; refine (fsigned_any _ _ _ (by omega)).mono ?_; rintro e w' ⟨rfl, rfl⟩))
  go_ret3
  exact ⟨rfl, below_iter (by assumption) _ _⟩

set_option maxHeartbeats 2000000 in
theorem fscan_sign_none (s t u : ByteArray) (c : UInt8) (w : World) (ht : Trims s t)
    (h0 : t.toList.isEmpty = false) (h1 : 0 < t.size) (hx : t.extract 0 1 = ⟨#[c]⟩) (hsg : Signs c true) (hu : t.extract 1 t.size = u)
    (e6 : (leadGo 10 0 0 u.data.toList).2 = 0) :
    Calls Tryd.prog 8 #[.string s] w fun e w' => e = .returned (.tuple #[.int .i64 0, .int .i64 0, .int .i64 12]) ∧ Below w.heap.size w w' := by
  have HT := hide ht
  have HS := hide hsg
  clear ht hsg
  go_enter Tryd.func8, Tryd.ntmps8
  go_wp2_with (first | (go_at_call 15; refine (HT.out _).mono ?_; rintro e w1 ⟨rfl, g1⟩) | (go_at_call 16; refine (HS.out _).mono ?_; rintro e w1 ⟨rfl, rfl⟩) | (go_at_call 13; refine (leading_any _ _ _ (by omega)).mono ?_; rintro e w' ⟨rfl, p, rfl⟩))
  go_ret3
  exact ⟨rfl, below_iter (by assumption) _ _⟩
end Go.Proofs.YtjlogbpnehbbbabDoor
