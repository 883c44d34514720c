/- The small functions of package str and of the document's own: right strings, kinds of bytes, characters, parts. -/
import Derived.Test.YtgjcbgconkiedaaDoorProg
import Derived.Test.YtgjcbgconkiedaaDoorShelf
import Derived.Test.YtgjcbgconkiedaaDoorStrM
import Derived.WalkKit
import Derived.ProofKit
import Derived.OpenShut
import Derived.Below
import Derived.WalkLawsBesides
import Derived.OwnWalk
import Derived.BigQuiet
import Derived.Lib.IndexBytes
namespace Go.Proofs.YtgjcbgconkiedaaDoor
open Go.ChangeShapes Go.WideShapes Go.ChangeAt Go.RowKit

theorem hide {p : Prop} (h : p) : Hid p := h
theorem ret_bool {a b : Bool} (h : a = b) : Ending.returned (.bool a) = .returned (.bool b) := by rw [h]
theorem ret_int {k : IntKind} {a b : Int} (h : a = b) : Ending.returned (.int k a) = .returned (.int k b) := by rw [h]
theorem ret_two {k j : IntKind} {a b c d : Int} (h : a = b) (g : c = d) : Ending.returned (.tuple #[.int k a, .int j c]) = .returned (.tuple #[.int k b, .int j d]) := by rw [h, g]
theorem ret_si {j : IntKind} {a b : ByteArray} {c d : Int} (h : a = b) (g : c = d) : Ending.returned (.tuple #[.string a, .int j c]) = .returned (.tuple #[.string b, .int j d]) := by rw [h, g]
theorem ret_str {a b : ByteArray} (h : a = b) : Ending.returned (.string a) = .returned (.string b) := by rw [h]

theorem right_any (s : ByteArray) (w : World) : Calls Tryd.prog 20 #[.string s] w fun e w' => e = .returned (.bool (decide (s.size ≤ 65536))) ∧ w' = w := by
  by_cases h : s.size ≤ 65536
  all_goals
    have H : Hid (decide (s.size ≤ 65536) = decide ((s.size : Int) ≤ 65536)) := by show _ = _; simp only [decide_eq_decide]; omega
    rw [H.out]
    go_enter Tryd.func20, Tryd.ntmps20
    go_wp2
    go_ret
    exact ⟨ret_bool (by simp), rfl⟩

theorem rright_any (s : ByteArray) (w : World) : Calls Tryd.prog 21 #[.string s] w fun e w' => e = .returned (.bool (decide (s.size ≤ 65536))) ∧ w' = w := by
  by_cases h : s.size ≤ 65536
  all_goals
    have H : Hid (decide (s.size ≤ 65536) = decide ((s.size : Int) ≤ 65536)) := by show _ = _; simp only [decide_eq_decide]; omega
    rw [H.out]
    go_enter Tryd.func21, Tryd.ntmps21
    go_wp2
    go_ret
    exact ⟨ret_bool (by simp), rfl⟩

theorem plain_any (c : UInt8) (w : World) : Calls Tryd.prog 38 #[.int .u8 (c.toNat : Int)] w fun e w' => e = .returned (.bool (plainB c)) ∧ w' = w := by
  have hc : c.toNat < 256 := c.toNat_lt
  obtain ⟨b, HB⟩ : ∃ b, Hid (plainB c = b) := ⟨_, rfl⟩
  obtain ⟨n, hn⟩ : ∃ n, c.toNat = n := ⟨_, rfl⟩
  have HP : Hid (b = (decide (32 ≤ n) && decide (n ≤ 126) && decide (n ≠ 34) && decide (n ≠ 92))) := by show _ = _; rw [← HB.out, ← hn]; rfl
  rw [HB.out, hn]
  have cs : n < 32 ∨ 126 < n ∨ n = 34 ∨ n = 92 ∨ (32 ≤ n ∧ n < 34) ∨ (34 < n ∧ n < 92) ∨ (92 < n ∧ n ≤ 126) := by omega
  clear hn
  rcases cs with h | h | h | h | h | h | h
  all_goals
    have HH := hide h
    try subst h
    go_enter Tryd.func38, Tryd.ntmps38
    go_wp2
    go_ret
    refine ⟨ret_bool ?_, rfl⟩
    rw [HP.out]
    have hh := HH.out
    first
      | (simp; omega)
      | (simp; done)
      | (have e1 : ((n : Int) != 34) = true := by simp; omega
         have e2 : ((n : Int) != 92) = true := by simp; omega
         simp only [e1, e2]
         simp
         omega)

theorem blank_any (c : UInt8) (w : World) : Calls Tryd.prog 41 #[.int .u8 (c.toNat : Int)] w fun e w' => e = .returned (.bool (blankB c)) ∧ w' = w := by
  have hc : c.toNat < 256 := c.toNat_lt
  obtain ⟨b, HB⟩ : ∃ b, Hid (blankB c = b) := ⟨_, rfl⟩
  obtain ⟨n, hn⟩ : ∃ n, c.toNat = n := ⟨_, rfl⟩
  have HP : Hid (b = (decide (n = 9) || decide (n = 10) || decide (n = 12) || decide (n = 13) || decide (n = 32))) := by show _ = _; rw [← HB.out, ← hn]; rfl
  rw [HB.out, hn]
  have cs : n = 9 ∨ n = 10 ∨ n = 12 ∨ n = 13 ∨ n = 32 ∨ (n ≠ 9 ∧ n ≠ 10 ∧ n ≠ 12 ∧ n ≠ 13 ∧ n ≠ 32) := by omega
  clear hn
  rcases cs with h | h | h | h | h | ⟨h1, h2, h3, h4, h5⟩
  · subst h
    go_enter Tryd.func41, Tryd.ntmps41
    go_wp2
    go_ret
    exact ⟨ret_bool (by rw [HP.out]; rfl), rfl⟩
  · subst h
    go_enter Tryd.func41, Tryd.ntmps41
    go_wp2
    go_ret
    exact ⟨ret_bool (by rw [HP.out]; rfl), rfl⟩
  · subst h
    go_enter Tryd.func41, Tryd.ntmps41
    go_wp2
    go_ret
    exact ⟨ret_bool (by rw [HP.out]; rfl), rfl⟩
  · subst h
    go_enter Tryd.func41, Tryd.ntmps41
    go_wp2
    go_ret
    exact ⟨ret_bool (by rw [HP.out]; rfl), rfl⟩
  · subst h
    go_enter Tryd.func41, Tryd.ntmps41
    go_wp2
    go_ret
    exact ⟨ret_bool (by rw [HP.out]; rfl), rfl⟩
  · have HF : Hid (b = false) := by show _ = _; rw [HP.out]; simp [h1, h2, h3, h4, h5]
    have g1 : ((n : Int) == 9) = false := by simp; omega
    have g2 : ((n : Int) == 10) = false := by simp; omega
    have g3 : ((n : Int) == 12) = false := by simp; omega
    have g4 : ((n : Int) == 13) = false := by simp; omega
    have g5 : ((n : Int) == 32) = false := by simp; omega
    go_enter Tryd.func41, Tryd.ntmps41
    go_wp2
    go_ret
    exact ⟨ret_bool (by rw [HF.out]), rfl⟩

/-- What the document's 'worth' answers. -/
def worthI (c : UInt8) : Int := if worthN c = 99 then -1 else worthN c
theorem worth_any (c : UInt8) (w : World) : Calls Tryd.prog 48 #[.int .u8 (c.toNat : Int)] w fun e w' => e = .returned (.int .i64 (worthI c)) ∧ w' = w := by
  have hc : c.toNat < 256 := c.toNat_lt
  obtain ⟨n, hn⟩ : ∃ n, c.toNat = n := ⟨_, rfl⟩
  obtain ⟨r, HR⟩ : ∃ r, Hid (worthI c = r) := ⟨_, rfl⟩
  have H : Hid (worthN c = if 48 ≤ n ∧ n ≤ 57 then n - 48 else if 97 ≤ n ∧ n ≤ 102 then n - 97 + 10 else if 65 ≤ n ∧ n ≤ 70 then n - 65 + 10 else 99) := by show _ = _; rw [← hn]; rfl
  rw [HR.out, hn]
  have cs : (48 ≤ n ∧ n ≤ 57) ∨ (97 ≤ n ∧ n ≤ 102) ∨ (65 ≤ n ∧ n ≤ 70) ∨ n < 48 ∨ (57 < n ∧ n < 65) ∨ (70 < n ∧ n < 97) ∨ 102 < n := by omega
  clear hn
  rcases cs with h | h | h | h | h | h | h
  all_goals
    have HH := hide h
    go_enter Tryd.func48, Tryd.ntmps48
    go_wp2
    go_ret
    have hh := HH.out
    refine ⟨ret_int ?_, rfl⟩
    rw [← HR.out, worthI, H.out]
    repeat' split
    all_goals omega
end Go.Proofs.YtgjcbgconkiedaaDoor
