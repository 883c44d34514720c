/- How one byte stands in a program, as the document has it. -/
import Derived.Test.YtgjcbgconkiedaaDoorProg
import Derived.Test.YtgjcbgconkiedaaDoorShelf
import Derived.Test.YtgjcbgconkiedaaDoorStr1
import Derived.Test.YtgjcbgconkiedaaDoorStr2
import Derived.Test.YtgjcbgconkiedaaDoorStr6
import Derived.WalkKit
import Derived.ProofKit
import Derived.OpenShut
import Derived.Below
import Derived.WalkLawsBesides
import Derived.OwnWalk
import Derived.Laws.IdiomStrings
import Derived.Lib.IndexBytes
namespace Go.Proofs.YtgjcbgconkiedaaDoor
open Go.ChangeShapes Go.WideShapes Go.ChangeAt Go.RowKit

set_option maxHeartbeats 2000000 in
set_option maxRecDepth 100000 in
theorem shown_any (c : UInt8) (w : World) : Calls Tryd.prog 32 #[.int .u8 (c.toNat : Int)] w fun e w' => e = .returned (.string ⟨(shownL c).toArray⟩) ∧ Below w.heap.size w w' := by
  have hc : c.toNat < 256 := c.toNat_lt
  obtain ⟨r, HR⟩ : ∃ r : ByteArray, Hid (ByteArray.mk (shownL c).toArray = r) := ⟨_, rfl⟩
  rw [HR.out]
  obtain ⟨n, hn⟩ : ∃ n, c.toNat = n := ⟨_, rfl⟩
  rw [hn]
  rw [hn] at hc
  have cs : n = 34 ∨ n = 92 ∨ (32 ≤ n ∧ n ≤ 126 ∧ n ≠ 34 ∧ n ≠ 92) ∨ n = 7 ∨ n = 8 ∨ n = 9 ∨ n = 10 ∨ n = 11 ∨ n = 12 ∨ n = 13 ∨ n < 7 ∨ (13 < n ∧ n < 32) ∨ 127 ≤ n := by omega
  rcases cs with h | h | h | h | h | h | h | h | h | h | h | h | h
  · have HS : shownL c = [92, c] := by unfold shownL; rw [if_pos (by omega)]
    have hcv : (convert 50 9 (.slice (some ⟨w.heap.size, 0, none⟩) 2 2)).run Tryd.prog (w.alloc (.cells #[.int .u8 92, .int .u8 34] 5)) = .ok (.string r) (w.alloc (.cells #[.int .u8 92, .int .u8 34] 5)) := by
      have := bytes_at w #[.int .u8 92, .int .u8 34] (shownL c) 5 2 (by rw [HS]; simp [hn, h]) rfl
      rw [HS] at this
      rw [← HR.out, HS]
      exact this
    subst h
    clear HS HR hn
    go_enter Tryd.func32, Tryd.ntmps32
    go_wp2
    go_ret
    exact ⟨rfl, (Below.refl _ _).alloc (Nat.le_refl _) _⟩
  · have HS : shownL c = [92, c] := by unfold shownL; rw [if_pos (by omega)]
    have hcv : (convert 50 9 (.slice (some ⟨w.heap.size, 0, none⟩) 2 2)).run Tryd.prog (w.alloc (.cells #[.int .u8 92, .int .u8 92] 5)) = .ok (.string r) (w.alloc (.cells #[.int .u8 92, .int .u8 92] 5)) := by
      have := bytes_at w #[.int .u8 92, .int .u8 92] (shownL c) 5 2 (by rw [HS]; simp [hn, h]) rfl
      rw [HS] at this
      rw [← HR.out, HS]
      exact this
    subst h
    clear HS HR hn
    go_enter Tryd.func32, Tryd.ntmps32
    go_wp2
    go_ret
    exact ⟨rfl, (Below.refl _ _).alloc (Nat.le_refl _) _⟩
  · have HS : shownL c = [c] := by unfold shownL; rw [if_neg (by omega), if_neg (by omega), if_neg (by omega), if_neg (by omega)]
    have hcv : (convert 50 9 (.slice (some ⟨w.heap.size, 0, none⟩) 1 1)).run Tryd.prog (w.alloc (.cells #[.int .u8 (n : Int)] 5)) = .ok (.string r) (w.alloc (.cells #[.int .u8 (n : Int)] 5)) := by
      have := bytes_at w #[.int .u8 (n : Int)] (shownL c) 5 1 (by rw [HS]; simp [hn]) rfl
      rw [HS] at this
      rw [← HR.out, HS]
      exact this
    have g1 : ((n : Int) == 34) = false := by simp; omega
    have g2 : ((n : Int) == 92) = false := by simp; omega
    clear HS HR hn
    go_enter Tryd.func32, Tryd.ntmps32
    go_wp2
    go_ret
    exact ⟨rfl, (Below.refl _ _).alloc (Nat.le_refl _) _⟩
  · have HS : shownL c = [92, 97] := by unfold shownL; rw [if_neg (by omega), if_pos (by omega), hn, h]; rfl
    have HE : Hid (r = ⟨#[92, 97]⟩) := by show _ = _; rw [← HR.out, HS]
    have hsl : ∀ W, (Instr.slice 9 (.string ⟨#[97, 98, 116, 110, 118, 102, 114]⟩) (some (.int .u8 0)) (some (.int .u8 1)) none).run Tryd.prog W = .ok (.string ⟨#[97]⟩) W := by intro W; kernel_rfl
    subst h
    clear HS HR hn
    go_enter Tryd.func32, Tryd.ntmps32
    go_wp2
    go_ret
    exact ⟨ret_str (by rw [HE.out]; rfl), Below.refl _ _⟩
  · have HS : shownL c = [92, 98] := by unfold shownL; rw [if_neg (by omega), if_pos (by omega), hn, h]; rfl
    have HE : Hid (r = ⟨#[92, 98]⟩) := by show _ = _; rw [← HR.out, HS]
    have hsl : ∀ W, (Instr.slice 9 (.string ⟨#[97, 98, 116, 110, 118, 102, 114]⟩) (some (.int .u8 1)) (some (.int .u8 2)) none).run Tryd.prog W = .ok (.string ⟨#[98]⟩) W := by intro W; kernel_rfl
    subst h
    clear HS HR hn
    go_enter Tryd.func32, Tryd.ntmps32
    go_wp2
    go_ret
    exact ⟨ret_str (by rw [HE.out]; rfl), Below.refl _ _⟩
  · have HS : shownL c = [92, 116] := by unfold shownL; rw [if_neg (by omega), if_pos (by omega), hn, h]; rfl
    have HE : Hid (r = ⟨#[92, 116]⟩) := by show _ = _; rw [← HR.out, HS]
    have hsl : ∀ W, (Instr.slice 9 (.string ⟨#[97, 98, 116, 110, 118, 102, 114]⟩) (some (.int .u8 2)) (some (.int .u8 3)) none).run Tryd.prog W = .ok (.string ⟨#[116]⟩) W := by intro W; kernel_rfl
    subst h
    clear HS HR hn
    go_enter Tryd.func32, Tryd.ntmps32
    go_wp2
    go_ret
    exact ⟨ret_str (by rw [HE.out]; rfl), Below.refl _ _⟩
  · have HS : shownL c = [92, 110] := by unfold shownL; rw [if_neg (by omega), if_pos (by omega), hn, h]; rfl
    have HE : Hid (r = ⟨#[92, 110]⟩) := by show _ = _; rw [← HR.out, HS]
    have hsl : ∀ W, (Instr.slice 9 (.string ⟨#[97, 98, 116, 110, 118, 102, 114]⟩) (some (.int .u8 3)) (some (.int .u8 4)) none).run Tryd.prog W = .ok (.string ⟨#[110]⟩) W := by intro W; kernel_rfl
    subst h
    clear HS HR hn
    go_enter Tryd.func32, Tryd.ntmps32
    go_wp2
    go_ret
    exact ⟨ret_str (by rw [HE.out]; rfl), Below.refl _ _⟩
  · have HS : shownL c = [92, 118] := by unfold shownL; rw [if_neg (by omega), if_pos (by omega), hn, h]; rfl
    have HE : Hid (r = ⟨#[92, 118]⟩) := by show _ = _; rw [← HR.out, HS]
    have hsl : ∀ W, (Instr.slice 9 (.string ⟨#[97, 98, 116, 110, 118, 102, 114]⟩) (some (.int .u8 4)) (some (.int .u8 5)) none).run Tryd.prog W = .ok (.string ⟨#[118]⟩) W := by intro W; kernel_rfl
    subst h
    clear HS HR hn
    go_enter Tryd.func32, Tryd.ntmps32
    go_wp2
    go_ret
    exact ⟨ret_str (by rw [HE.out]; rfl), Below.refl _ _⟩
  · have HS : shownL c = [92, 102] := by unfold shownL; rw [if_neg (by omega), if_pos (by omega), hn, h]; rfl
    have HE : Hid (r = ⟨#[92, 102]⟩) := by show _ = _; rw [← HR.out, HS]
    have hsl : ∀ W, (Instr.slice 9 (.string ⟨#[97, 98, 116, 110, 118, 102, 114]⟩) (some (.int .u8 5)) (some (.int .u8 6)) none).run Tryd.prog W = .ok (.string ⟨#[102]⟩) W := by intro W; kernel_rfl
    subst h
    clear HS HR hn
    go_enter Tryd.func32, Tryd.ntmps32
    go_wp2
    go_ret
    exact ⟨ret_str (by rw [HE.out]; rfl), Below.refl _ _⟩
  · have HS : shownL c = [92, 114] := by unfold shownL; rw [if_neg (by omega), if_pos (by omega), hn, h]; rfl
    have HE : Hid (r = ⟨#[92, 114]⟩) := by show _ = _; rw [← HR.out, HS]
    have hsl : ∀ W, (Instr.slice 9 (.string ⟨#[97, 98, 116, 110, 118, 102, 114]⟩) (some (.int .u8 6)) (some (.int .u8 7)) none).run Tryd.prog W = .ok (.string ⟨#[114]⟩) W := by intro W; kernel_rfl
    subst h
    clear HS HR hn
    go_enter Tryd.func32, Tryd.ntmps32
    go_wp2
    go_ret
    exact ⟨ret_str (by rw [HE.out]; rfl), Below.refl _ _⟩
  · have HS : shownL c = [92, 94, (n + 64).toUInt8] := by unfold shownL; rw [if_neg (by omega), if_neg (by omega), if_pos (by omega), hn]
    have hcv : (convert 50 9 (.slice (some ⟨w.heap.size, 0, none⟩) 3 3)).run Tryd.prog (w.alloc (.cells #[.int .u8 92, .int .u8 94, .int .u8 ((n : Int) + 64)] 5)) = .ok (.string r) (w.alloc (.cells #[.int .u8 92, .int .u8 94, .int .u8 ((n : Int) + 64)] 5)) := by
      have := bytes_at w #[.int .u8 92, .int .u8 94, .int .u8 ((n : Int) + 64)] (shownL c) 5 3 (by rw [HS]; simp; omega) rfl
      rw [HS] at this
      rw [← HR.out, HS]
      exact this
    have g1 : ((n : Int) == 34) = false := by simp; omega
    have g2 : ((n : Int) == 92) = false := by simp; omega
    clear HS HR hn
    go_enter Tryd.func32, Tryd.ntmps32
    go_wp2
    go_ret
    exact ⟨rfl, (Below.refl _ _).alloc (Nat.le_refl _) _⟩
  · have HS : shownL c = [92, 94, (n + 64).toUInt8] := by unfold shownL; rw [if_neg (by omega), if_neg (by omega), if_pos (by omega), hn]
    have hcv : (convert 50 9 (.slice (some ⟨w.heap.size, 0, none⟩) 3 3)).run Tryd.prog (w.alloc (.cells #[.int .u8 92, .int .u8 94, .int .u8 ((n : Int) + 64)] 5)) = .ok (.string r) (w.alloc (.cells #[.int .u8 92, .int .u8 94, .int .u8 ((n : Int) + 64)] 5)) := by
      have := bytes_at w #[.int .u8 92, .int .u8 94, .int .u8 ((n : Int) + 64)] (shownL c) 5 3 (by rw [HS]; simp; omega) rfl
      rw [HS] at this
      rw [← HR.out, HS]
      exact this
    have g1 : ((n : Int) == 34) = false := by simp; omega
    have g2 : ((n : Int) == 92) = false := by simp; omega
    clear HS HR hn
    go_enter Tryd.func32, Tryd.ntmps32
    go_wp2
    go_ret
    exact ⟨rfl, (Below.refl _ _).alloc (Nat.le_refl _) _⟩
  · have HS : shownL c = [92, (48 + n / 100).toUInt8, (48 + n / 10 % 10).toUInt8, (48 + n % 10).toUInt8] := by unfold shownL; rw [if_neg (by omega), if_neg (by omega), if_neg (by omega), if_pos (by omega), hn]
    have hcv : (convert 50 9 (.slice (some ⟨w.heap.size, 0, none⟩) 4 4)).run Tryd.prog (w.alloc (.cells #[.int .u8 92, .int .u8 (48 + (n : Int) / 100), .int .u8 (48 + (n : Int) / 10 % 10), .int .u8 (48 + (n : Int) % 10)] 5)) = .ok (.string r) (w.alloc (.cells #[.int .u8 92, .int .u8 (48 + (n : Int) / 100), .int .u8 (48 + (n : Int) / 10 % 10), .int .u8 (48 + (n : Int) % 10)] 5)) := by
      have := bytes_at w #[.int .u8 92, .int .u8 (48 + (n : Int) / 100), .int .u8 (48 + (n : Int) / 10 % 10), .int .u8 (48 + (n : Int) % 10)] (shownL c) 5 4 (by rw [HS]; simp; omega) rfl
      rw [HS] at this
      rw [← HR.out, HS]
      exact this
    have g1 : ((n : Int) == 34) = false := by simp; omega
    have g2 : ((n : Int) == 92) = false := by simp; omega
    clear HS HR hn
    go_enter Tryd.func32, Tryd.ntmps32
    go_wp2
    go_ret
    exact ⟨rfl, (Below.refl _ _).alloc (Nat.le_refl _) _⟩
end Go.Proofs.YtgjcbgconkiedaaDoor
