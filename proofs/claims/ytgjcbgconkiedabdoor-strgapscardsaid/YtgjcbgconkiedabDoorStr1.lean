/- The small functions of package str and of the document's own: right strings, kinds of bytes, characters, parts. -/
import Derived.Test.YtgjcbgconkiedabDoorProg
import Derived.Test.YtgjcbgconkiedabDoorShelf
import Derived.Test.YtgjcbgconkiedabDoorStrM
import Derived.WalkKit
import Derived.ProofKit
import Derived.OpenShut
import Derived.Below
import Derived.WalkLawsBesides
import Derived.OwnWalk
import Derived.BigQuiet
import Derived.Lib.IndexBytes
namespace Go.Proofs.YtgjcbgconkiedabDoor
open Go.ChangeShapes Go.WideShapes Go.ChangeAt Go.RowKit

theorem hide {p : Prop} (h : p) : Hid p := h
theorem ret_bool {a b : Bool} (h : a = b) : Ending.returned (.bool a) = .returned (.bool b) := by rw [h]
theorem ret_int {k : IntKind} {a b : Int} (h : a = b) : Ending.returned (.int k a) = .returned (.int k b) := by rw [h]
theorem ret_two {k j : IntKind} {a b c d : Int} (h : a = b) (g : c = d) : Ending.returned (.tuple #[.int k a, .int j c]) = .returned (.tuple #[.int k b, .int j d]) := by rw [h, g]
theorem ret_si {j : IntKind} {a b : ByteArray} {c d : Int} (h : a = b) (g : c = d) : Ending.returned (.tuple #[.string a, .int j c]) = .returned (.tuple #[.string b, .int j d]) := by rw [h, g]
theorem ret_str {a b : ByteArray} (h : a = b) : Ending.returned (.string a) = .returned (.string b) := by rw [h]

theorem right_any (s : ByteArray) (w : World) : Calls Tryd.prog 10 #[.string s] w fun e w' => e = .returned (.bool (decide (s.size ≤ 65536))) ∧ w' = w := by
  by_cases h : s.size ≤ 65536
  all_goals
    have H : Hid (decide (s.size ≤ 65536) = decide ((s.size : Int) ≤ 65536)) := by show _ = _; simp only [decide_eq_decide]; omega
    rw [H.out]
    go_enter Tryd.func10, Tryd.ntmps10
    go_wp2
    go_ret
    exact ⟨ret_bool (by simp), rfl⟩

theorem plain_any (c : UInt8) (w : World) : Calls Tryd.prog 8 #[.int .u8 (c.toNat : Int)] w fun e w' => e = .returned (.bool (plainB c)) ∧ w' = w := by
  have hc : c.toNat < 256 := c.toNat_lt
  obtain ⟨b, HB⟩ : ∃ b, Hid (plainB c = b) := ⟨_, rfl⟩
  obtain ⟨n, hn⟩ : ∃ n, c.toNat = n := ⟨_, rfl⟩
  have HP : Hid (b = (decide (32 ≤ n) && decide (n ≤ 126) && decide (n ≠ 34) && decide (n ≠ 92))) := by show _ = _; rw [← HB.out, ← hn]; rfl
  rw [HB.out, hn]
  have cs : n < 32 ∨ 126 < n ∨ n = 34 ∨ n = 92 ∨ (32 ≤ n ∧ n < 34) ∨ (34 < n ∧ n < 92) ∨ (92 < n ∧ n ≤ 126) := by omega
  clear hn
  rcases cs with h | h | h | h | h | h | h
  all_goals
    have HH := hide h
    try subst h
    go_enter Tryd.func8, Tryd.ntmps8
    go_wp2
    go_ret
    refine ⟨ret_bool ?_, rfl⟩
    rw [HP.out]
    have hh := HH.out
    first
      | (simp; omega)
      | (simp; done)
      | (have e1 : ((n : Int) != 34) = true := by simp; omega
         have e2 : ((n : Int) != 92) = true := by simp; omega
         simp only [e1, e2]
         simp
         omega)
end Go.Proofs.YtgjcbgconkiedabDoor
