/- Constant, of package fix and of the document: both answer the same for every text. -/
import Derived.Test.YtjlogbpnehbbbaaProg
import Derived.Test.YtjlogbpnehbbbaaBase
import Derived.Test.YtjlogbpnehbbbaaRight
import Derived.Test.YtjlogbpnehbbbaaDiv
import Derived.Test.YtjlogbpnehbbbaaAdd
import Derived.Test.YtjlogbpnehbbbaaRef
import Derived.Test.YtjlogbpnehbbbaaLead
import Derived.Test.YtjlogbpnehbbbaaConst
import Derived.WalkKit
import Derived.ProofKit
import Derived.OpenShut
import Derived.Below
import Derived.WalkLawsBesides
import Derived.Lib.IndexBytes
namespace Go.Proofs.Ytjlogbpnehbbbaa
open Go.ChangeShapes Go.WideShapes Go.ChangeAt Go.RowKit

set_option maxHeartbeats 1000000 in
theorem fconst_core (s s1 s2 : ByteArray) (b1 b2 : Bool) (base v : Int) (k : Nat) (w : World)
    (e1 : cutS s ⟨#[126]⟩ = s1) (e2 : hpB s ⟨#[126]⟩ = b1) (e3 : cutS s1 ⟨#[48, 120]⟩ = s2) (e4 : hpB s1 ⟨#[48, 120]⟩ = b2) (hb : base = if b2 then 16 else 10)
    (e5 : (leadGo base 0 0 s2.data.toList).1 = v) (e6 : (leadGo base 0 0 s2.data.toList).2 = k) (hv : 0 ≤ v ∧ v ≤ 4611686018427387905) (hk : 0 < k) (hk2 : s2.size ≤ k) :
    Calls Try.prog 28 #[.string s] w fun e w' => e = .returned (.tuple #[.int .i64 (ansV (sgn v b1)), .int .i64 (ansE (sgn v b1))]) ∧ ∃ p, w' = w.iter s2 p := by
  have hz1 : ((k : Int) == 0) = false := by simp; omega
  have hz2 : decide (k < s2.size) = false := by simp; omega
  cases b2
  all_goals
    simp only [Bool.false_eq_true, if_false, if_true] at hb
    subst hb
    go_enter Try.func28, Try.ntmps28
    go_wp2_with (first | (go_at_call 37; refine (cut_any _ _ _).mono ?_; rintro e w' ⟨rfl, rfl⟩) | (go_at_call 38; refine (leading_any _ _ _ (by omega)).mono ?_; rintro e w' ⟨rfl, p, rfl⟩) | (go_at_call 39; refine (fsigned_any _ _ _ (by omega)).mono ?_; rintro e w' ⟨rfl, rfl⟩))
    go_ret2
    exact ⟨rfl, _, rfl⟩

set_option maxHeartbeats 1000000 in
theorem fconst_bad (s s1 s2 : ByteArray) (b1 b2 : Bool) (base v : Int) (k : Nat) (w : World)
    (e1 : cutS s ⟨#[126]⟩ = s1) (e2 : hpB s ⟨#[126]⟩ = b1) (e3 : cutS s1 ⟨#[48, 120]⟩ = s2) (e4 : hpB s1 ⟨#[48, 120]⟩ = b2) (hb : base = if b2 then 16 else 10)
    (e5 : (leadGo base 0 0 s2.data.toList).1 = v) (e6 : (leadGo base 0 0 s2.data.toList).2 = k) (hk : k = 0 ∨ k < s2.size) :
    Calls Try.prog 28 #[.string s] w fun e w' => e = .returned (.tuple #[.int .i64 0, .int .i64 12]) ∧ ∃ p, w' = w.iter s2 p := by
  have hz : k = 0 ∨ (((k : Int) == 0) = false ∧ decide (k < s2.size) = true) := by
    by_cases z : k = 0
    · exact Or.inl z
    · exact Or.inr ⟨by simp; omega, by simp; omega⟩
  clear hk
  cases b2 <;> rcases hz with hz | ⟨hz, hz2⟩
  all_goals
    simp only [Bool.false_eq_true, if_false, if_true] at hb
    subst hb
    try subst hz
    go_enter Try.func28, Try.ntmps28
    go_wp2_with (first | (go_at_call 37; refine (cut_any _ _ _).mono ?_; rintro e w' ⟨rfl, rfl⟩) | (go_at_call 38; refine (leading_any _ _ _ (by omega)).mono ?_; rintro e w' ⟨rfl, p, rfl⟩) | (go_at_call 39; refine (fsigned_any _ _ _ (by omega)).mono ?_; rintro e w' ⟨rfl, rfl⟩))
    go_ret2
    exact ⟨rfl, _, rfl⟩

/-- All are digits of a base, and there is one. -/
def allB (base : Int) (s : ByteArray) : Bool := digsB base s.data.toList && !decide (s.size = 0)
theorem allB_digs {base : Int} {s : ByteArray} (h : allB base s = true) : digsB base s.data.toList = true := by
  unfold allB at h; rw [Bool.and_eq_true] at h; exact h.1
theorem allB_any (s : ByteArray) (base : Int) (w : World) (hs : s.size ≤ maxLen) (hb : 2 ≤ base ∧ base ≤ 16) :
    Calls Try.prog 40 #[.string s, .int .i64 base] w fun e w' => e = .returned (.bool (allB base s)) ∧ w' = w := all_any s base w hs hb

set_option maxHeartbeats 2000000 in
theorem rbelow_hex (s t u : ByteArray) (w : World) (hs : s.size ≤ maxLen) (h0 : 0 < s.size) (hz : ((s[0]'h0).toNat : Int) = 126) (ht : s.extract 1 s.size = t) (_hts : t.size ≤ s.size) (hus : u.size ≤ s.size) (hu : t.extract 2 t.size = u) (h2 : 2 < t.size) (hx : (t.extract 0 2).toList = [48, 120]) (ha : allB 16 u = true) :
    Calls Try.prog 29 #[.string s] w fun e w' => e = .returned (.tuple #[.int .i64 (numV 16 u.data.toList true), .int .i64 (numE 16 u.data.toList true)]) ∧ w' = w := by
  unfold maxLen at hs
  have HD := hide (allB_digs ha)
  have hn := num_all (base := 16) (by omega) u.data.toList 0 (by omega) (by omega)
  obtain ⟨n, en⟩ : ∃ n, numGo 16 0 u.data.toList = n := ⟨_, rfl⟩
  rw [en] at hn
  have HV : Hid (numV 16 u.data.toList true = ansV (sgn n true)) := by rw [← en]; rfl
  have HE : Hid (numE 16 u.data.toList true = ansE (sgn n true)) := by rw [← en]; rfl
  have hn1 := hn.1
  have hn2 := hn.2.1
  clear hn
  go_enter Try.func29, Try.ntmps29
  go_wp2_with (first | (go_at_call 40; refine (allB_any _ _ _ (by unfold maxLen; omega) (by omega)).mono ?_; rintro e w' ⟨rfl, rfl⟩) | (go_at_call 41; refine (number_any _ _ _ (by unfold maxLen; omega) (by omega) (HD.out)).mono ?_; rintro e w' ⟨rfl, rfl⟩) | (go_at_call 34; refine (signed_any _ _ _ (by omega)).mono ?_; rintro e w' ⟨rfl, rfl⟩))
  go_ret2
  exact ⟨ret_two HV.out.symm HE.out.symm, rfl⟩

set_option maxHeartbeats 4000000 in
theorem rbelow_dec (s t u : ByteArray) (w : World) (hs : s.size ≤ maxLen) (h0 : 0 < s.size) (hz : ((s[0]'h0).toNat : Int) = 126) (ht : s.extract 1 s.size = t) (hts : t.size ≤ s.size) (hus : u.size ≤ s.size) (hu : t.extract 2 t.size = u) (hn16 : t.size ≤ 2 ∨ 2 < t.size ∧ ¬ (t.extract 0 2).toList = [48, 120] ∨ 2 < t.size ∧ (t.extract 0 2).toList = [48, 120] ∧ allB 16 u = false) (ha : allB 10 t = true) :
    Calls Try.prog 29 #[.string s] w fun e w' => e = .returned (.tuple #[.int .i64 (numV 10 t.data.toList true), .int .i64 (numE 10 t.data.toList true)]) ∧ w' = w := by
  unfold maxLen at hs
  have HD := hide (allB_digs ha)
  have hn := num_all (base := 10) (by omega) t.data.toList 0 (by omega) (by omega)
  obtain ⟨n, en⟩ : ∃ n, numGo 10 0 t.data.toList = n := ⟨_, rfl⟩
  rw [en] at hn
  have HV : Hid (numV 10 t.data.toList true = ansV (sgn n true)) := by rw [← en]; rfl
  have HE : Hid (numE 10 t.data.toList true = ansE (sgn n true)) := by rw [← en]; rfl
  have hn1 := hn.1
  have hn2 := hn.2.1
  clear hn
  rcases hn16 with h2 | ⟨h2, hx⟩ | ⟨h2, hx, h16⟩
  all_goals
    go_enter Try.func29, Try.ntmps29
    go_wp2_with (first | (go_at_call 40; refine (allB_any _ _ _ (by unfold maxLen; omega) (by omega)).mono ?_; rintro e w' ⟨rfl, rfl⟩) | (go_at_call 41; refine (number_any _ _ _ (by unfold maxLen; omega) (by omega) (HD.out)).mono ?_; rintro e w' ⟨rfl, rfl⟩) | (go_at_call 34; refine (signed_any _ _ _ (by omega)).mono ?_; rintro e w' ⟨rfl, rfl⟩))
    go_ret2
    exact ⟨ret_two HV.out.symm HE.out.symm, rfl⟩

set_option maxHeartbeats 4000000 in
theorem rbelow_none (s t u : ByteArray) (w : World) (hs : s.size ≤ maxLen) (h0 : 0 < s.size) (hz : ((s[0]'h0).toNat : Int) = 126) (ht : s.extract 1 s.size = t) (hts : t.size ≤ s.size) (hus : u.size ≤ s.size) (hu : t.extract 2 t.size = u) (hn16 : t.size ≤ 2 ∨ 2 < t.size ∧ ¬ (t.extract 0 2).toList = [48, 120] ∨ 2 < t.size ∧ (t.extract 0 2).toList = [48, 120] ∧ allB 16 u = false) (ha : allB 10 t = false) :
    Calls Try.prog 29 #[.string s] w fun e w' => e = .returned (.tuple #[.int .i64 0, .int .i64 12]) ∧ w' = w := by
  unfold maxLen at hs
  rcases hn16 with h2 | ⟨h2, hx⟩ | ⟨h2, hx, h16⟩
  all_goals
    go_enter Try.func29, Try.ntmps29
    go_wp2_with (first | (go_at_call 40; refine (allB_any _ _ _ (by unfold maxLen; omega) (by omega)).mono ?_; rintro e w' ⟨rfl, rfl⟩))
    go_ret2
    exact ⟨rfl, rfl⟩

set_option maxHeartbeats 2000000 in
theorem rabove_hex (s t u : ByteArray) (w : World) (hs : s.size ≤ maxLen) (h0 : 0 < s.size) (hz : (((s[0]'h0).toNat : Int) == 126) = false) (ht : s = t) (_hts : t.size ≤ s.size) (hus : u.size ≤ s.size) (hu : t.extract 2 t.size = u) (h2 : 2 < t.size) (hx : (t.extract 0 2).toList = [48, 120]) (ha : allB 16 u = true) :
    Calls Try.prog 29 #[.string s] w fun e w' => e = .returned (.tuple #[.int .i64 (numV 16 u.data.toList false), .int .i64 (numE 16 u.data.toList false)]) ∧ w' = w := by
  unfold maxLen at hs
  have HD := hide (allB_digs ha)
  have hn := num_all (base := 16) (by omega) u.data.toList 0 (by omega) (by omega)
  obtain ⟨n, en⟩ : ∃ n, numGo 16 0 u.data.toList = n := ⟨_, rfl⟩
  rw [en] at hn
  have HV : Hid (numV 16 u.data.toList false = ansV (sgn n false)) := by rw [← en]; rfl
  have HE : Hid (numE 16 u.data.toList false = ansE (sgn n false)) := by rw [← en]; rfl
  have hn1 := hn.1
  have hn2 := hn.2.1
  clear hn
  subst ht
  go_enter Try.func29, Try.ntmps29
  go_wp2_with (first | (go_at_call 40; refine (allB_any _ _ _ (by unfold maxLen; omega) (by omega)).mono ?_; rintro e w' ⟨rfl, rfl⟩) | (go_at_call 41; refine (number_any _ _ _ (by unfold maxLen; omega) (by omega) (HD.out)).mono ?_; rintro e w' ⟨rfl, rfl⟩) | (go_at_call 34; refine (signed_any _ _ _ (by omega)).mono ?_; rintro e w' ⟨rfl, rfl⟩))
  go_ret2
  exact ⟨ret_two HV.out.symm HE.out.symm, rfl⟩

set_option maxHeartbeats 4000000 in
theorem rabove_dec (s t u : ByteArray) (w : World) (hs : s.size ≤ maxLen) (h0 : 0 < s.size) (hz : (((s[0]'h0).toNat : Int) == 126) = false) (ht : s = t) (hts : t.size ≤ s.size) (hus : u.size ≤ s.size) (hu : t.extract 2 t.size = u) (hn16 : t.size ≤ 2 ∨ 2 < t.size ∧ ¬ (t.extract 0 2).toList = [48, 120] ∨ 2 < t.size ∧ (t.extract 0 2).toList = [48, 120] ∧ allB 16 u = false) (ha : allB 10 t = true) :
    Calls Try.prog 29 #[.string s] w fun e w' => e = .returned (.tuple #[.int .i64 (numV 10 t.data.toList false), .int .i64 (numE 10 t.data.toList false)]) ∧ w' = w := by
  unfold maxLen at hs
  have HD := hide (allB_digs ha)
  have hn := num_all (base := 10) (by omega) t.data.toList 0 (by omega) (by omega)
  obtain ⟨n, en⟩ : ∃ n, numGo 10 0 t.data.toList = n := ⟨_, rfl⟩
  rw [en] at hn
  have HV : Hid (numV 10 t.data.toList false = ansV (sgn n false)) := by rw [← en]; rfl
  have HE : Hid (numE 10 t.data.toList false = ansE (sgn n false)) := by rw [← en]; rfl
  have hn1 := hn.1
  have hn2 := hn.2.1
  clear hn
  subst ht
  rcases hn16 with h2 | ⟨h2, hx⟩ | ⟨h2, hx, h16⟩
  all_goals
    go_enter Try.func29, Try.ntmps29
    go_wp2_with (first | (go_at_call 40; refine (allB_any _ _ _ (by unfold maxLen; omega) (by omega)).mono ?_; rintro e w' ⟨rfl, rfl⟩) | (go_at_call 41; refine (number_any _ _ _ (by unfold maxLen; omega) (by omega) (HD.out)).mono ?_; rintro e w' ⟨rfl, rfl⟩) | (go_at_call 34; refine (signed_any _ _ _ (by omega)).mono ?_; rintro e w' ⟨rfl, rfl⟩))
    go_ret2
    exact ⟨ret_two HV.out.symm HE.out.symm, rfl⟩

set_option maxHeartbeats 4000000 in
theorem rabove_none (s t u : ByteArray) (w : World) (hs : s.size ≤ maxLen) (h0 : 0 < s.size) (hz : (((s[0]'h0).toNat : Int) == 126) = false) (ht : s = t) (hts : t.size ≤ s.size) (hus : u.size ≤ s.size) (hu : t.extract 2 t.size = u) (hn16 : t.size ≤ 2 ∨ 2 < t.size ∧ ¬ (t.extract 0 2).toList = [48, 120] ∨ 2 < t.size ∧ (t.extract 0 2).toList = [48, 120] ∧ allB 16 u = false) (ha : allB 10 t = false) :
    Calls Try.prog 29 #[.string s] w fun e w' => e = .returned (.tuple #[.int .i64 0, .int .i64 12]) ∧ w' = w := by
  unfold maxLen at hs
  subst ht
  rcases hn16 with h2 | ⟨h2, hx⟩ | ⟨h2, hx, h16⟩
  all_goals
    go_enter Try.func29, Try.ntmps29
    go_wp2_with (first | (go_at_call 40; refine (allB_any _ _ _ (by unfold maxLen; omega) (by omega)).mono ?_; rintro e w' ⟨rfl, rfl⟩))
    go_ret2
    exact ⟨rfl, rfl⟩
end Go.Proofs.Ytjlogbpnehbbbaa
