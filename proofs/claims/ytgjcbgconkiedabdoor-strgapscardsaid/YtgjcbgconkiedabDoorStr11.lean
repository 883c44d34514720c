/- What package str's readers of escapes answer: the control and the gap. -/
import Derived.Test.YtgjcbgconkiedabDoorProg
import Derived.Test.YtgjcbgconkiedabDoorShelf
import Derived.Test.YtgjcbgconkiedabDoorStr1
import Derived.Test.YtgjcbgconkiedabDoorStr3
import Derived.WalkKit
import Derived.ProofKit
import Derived.OpenShut
import Derived.Below
import Derived.WalkLawsBesides
import Derived.OwnWalk
import Derived.Lib.IndexBytes
import Derived.Shelf.Strings.SlTrimAscii
namespace Go.Proofs.YtgjcbgconkiedabDoor
open Go.ChangeShapes Go.WideShapes Go.ChangeAt Go.RowKit

/-- Behind a backslash and a '^'. -/
def ctlP : List UInt8 → Int × Nat
  | [] => (-1, 0)
  | d :: _ => if 64 ≤ d.toNat ∧ d.toNat ≤ 95 then ((d.toNat : Int) - 64, 2) else (-1, 0)

set_option maxRecDepth 100000 in
set_option maxHeartbeats 1000000 in
theorem controlled_any (s : ByteArray) (w : World) (x : Int) (k : Nat) (hx : ctlP (s.data.toList.drop 1) = (x, k)) (hs : s.size ≤ maxLen) (h0 : 0 < s.size) : Calls Tryd.prog 15 #[.string s] w fun e w' => e = .returned (.tuple #[.int .i64 x, .int .i64 (k : Int)]) ∧ w' = w := by
  unfold maxLen at hs
  by_cases h1 : 1 < s.size
  · rw [drop_at s 1 h1, ctlP] at hx
    obtain ⟨n, hn⟩ : ∃ n, (s[1]'h1).toNat = n := ⟨_, rfl⟩
    have hn2 : n < 256 := by rw [← hn]; exact (s[1]'h1).toNat_lt
    rw [hn] at hx
    by_cases h2 : 64 ≤ n ∧ n ≤ 95
    · rw [if_pos h2] at hx
      obtain ⟨rfl, rfl⟩ := Prod.mk.inj hx
      clear hx
      go_enter Tryd.func15, Tryd.ntmps15
      go_wp2
      go_ret2
      exact ⟨rfl, rfl⟩
    · rw [if_neg h2] at hx
      obtain ⟨rfl, rfl⟩ := Prod.mk.inj hx
      clear hx
      have cs : n < 64 ∨ (¬ n < 64 ∧ 96 ≤ n) := by omega
      clear h2
      rcases cs with h2 | ⟨h2, h3⟩
      all_goals
        go_enter Tryd.func15, Tryd.ntmps15
        go_wp2
        go_ret2
        exact ⟨rfl, rfl⟩
  · rw [drop_end s 1 h1, ctlP] at hx
    obtain ⟨rfl, rfl⟩ := Prod.mk.inj hx
    clear hx
    go_enter Tryd.func15, Tryd.ntmps15
    go_wp2
    go_ret2
    exact ⟨rfl, rfl⟩

theorem blank_all : ∀ n : Fin 256, ([9, 10, 12, 13, 32] : List UInt8).contains (UInt8.ofFin n) = blankB (UInt8.ofFin n) := by decide +kernel
theorem blank_set (c : UInt8) : ([9, 10, 12, 13, 32] : List UInt8).contains c = blankB c := blank_all c.toFin
theorem trimmed (l : List UInt8) : Lib.trimLeftS l [9, 10, 12, 13, 32] = l.drop (l.takeWhile blankB).length := by
  unfold Lib.trimLeftS
  induction l with
  | nil => rfl
  | cons c r ih =>
    rw [List.dropWhile_cons, List.takeWhile_cons]
    rw [blank_set]
    cases h : blankB c
    · simp
    · simpa using ih

theorem trim_any (s : ByteArray) (w : World) : Calls Tryd.prog 21 #[.string s, .string ⟨#[9, 10, 12, 13, 32]⟩] w fun e w' => e = .returned (.string ⟨(s.data.toList.drop (s.data.toList.takeWhile blankB).length).toArray⟩) ∧ Below w.heap.size w w' := by
  have h := Any.strings_TrimLeft_laid Tryd.lays161 (by kernel_rfl) s ⟨#[9, 10, 12, 13, 32]⟩ w (by decide) (ascii_of_all (by decide))
  have e : Lib.trimLeftS s.data.toList (ByteArray.mk #[9, 10, 12, 13, 32]).data.toList = s.data.toList.drop (s.data.toList.takeWhile blankB).length := trimmed _
  rw [e] at h
  exact h

/-- What is left of a text behind its first backslash; and is there one? -/
theorem cut_bs (l : List UInt8) (h : l.head? = some 92) : Lib.hasPrefix l [92] = true ∧ Lib.trimPrefix l [92] = l.drop 1 := by
  cases l with
  | nil => cases h
  | cons c r =>
    obtain rfl : c = 92 := by simpa using h
    have e : Lib.hasPrefix (92 :: r) [92] = true := by simp [Lib.hasPrefix]
    exact ⟨e, by unfold Lib.trimPrefix; rw [e]; rfl⟩
theorem cut_bs_none (l : List UInt8) (h : ¬ l.head? = some 92) : Lib.hasPrefix l [92] = false := by
  cases l with
  | nil => rfl
  | cons c r =>
    have hc : ¬ c = 92 := by simpa using h
    have : (92 == c) = false := by simp; exact fun e => hc e.symm
    show ((92 == c) && _) = false
    rw [this]
    rfl

set_option maxRecDepth 100000 in
set_option maxHeartbeats 1000000 in
theorem gap_any (s : ByteArray) (w : World) (g : Nat) (hg : gapN s.data.toList = g) (hs : s.size ≤ maxLen) (hb : (s.data.toList.takeWhile blankB).length ≠ 0) : Calls Tryd.prog 16 #[.string s] w fun e w' => e = .returned (.int .i64 (g : Int)) ∧ Below w.heap.size w w' := by
  unfold maxLen at hs
  have htle : (s.data.toList.takeWhile blankB).length ≤ s.data.toList.length := List.Sublist.length_le (List.takeWhile_sublist _)
  unfold gapN at hg
  rw [if_neg hb] at hg
  obtain ⟨tl, htl⟩ : ∃ tl, (s.data.toList.takeWhile blankB).length = tl := ⟨_, rfl⟩
  have T1 := hide (trim_any s w)
  rw [htl] at hg T1 htle
  obtain ⟨T, hT⟩ : ∃ T : ByteArray, ByteArray.mk (s.data.toList.drop tl).toArray = T := ⟨_, rfl⟩
  have hTl : s.data.toList.drop tl = T.data.toList := by rw [← hT]
  have hsz : T.size + tl = s.size := by
    rw [Lib.size_eq, ← hTl, List.length_drop, Lib.size_eq]; omega
  rw [hT] at T1
  rw [hTl] at hg
  have C1 := hide (fun W => Tryd.strings_CutPrefix T ⟨#[92]⟩ W)
  simp only at C1
  clear hT hTl htl htle
  by_cases hh : T.data.toList.head? = some 92
  · rw [if_pos hh] at hg
    rw [(cut_bs _ hh).1, (cut_bs _ hh).2] at C1
    obtain ⟨U, hU⟩ : ∃ U : ByteArray, ByteArray.mk (T.data.toList.drop 1).toArray = U := ⟨_, rfl⟩
    have hpos : 0 < T.size := by
      rw [Lib.size_eq]
      cases hl : T.data.toList with
      | nil => rw [hl] at hh; cases hh
      | cons _ _ => simp
    have husz : U.size + 1 = T.size := by
      rw [← hU, Lib.size_eq]
      show (T.data.toList.drop 1).length + 1 = _
      rw [List.length_drop, ← Lib.size_eq]; omega
    rw [hU] at C1
    have hres : (s.size : Int) - (U.size : Int) = (g : Int) := by omega
    clear hU hh hg hb
    go_enter Tryd.func16, Tryd.ntmps16
    go_wp2_with (first | (go_at_call 21; refine (T1.out).mono ?_; rintro e w1 ⟨rfl, b1⟩) | (go_at_call 20; refine (C1.out _).mono ?_; rintro e w2 ⟨rfl, rfl⟩))
    go_ret
    exact ⟨rfl, b1⟩
  · rw [if_neg hh] at hg
    rw [cut_bs_none _ hh] at C1
    subst hg
    obtain ⟨U, hU⟩ : ∃ U : ByteArray, ByteArray.mk (Lib.trimPrefix T.data.toList [92]).toArray = U := ⟨_, rfl⟩
    rw [hU] at C1
    clear hU hh hb
    go_enter Tryd.func16, Tryd.ntmps16
    go_wp2_with (first | (go_at_call 21; refine (T1.out).mono ?_; rintro e w1 ⟨rfl, b1⟩) | (go_at_call 20; refine (C1.out _).mono ?_; rintro e w2 ⟨rfl, rfl⟩))
    go_ret
    exact ⟨rfl, b1⟩
end Go.Proofs.YtgjcbgconkiedabDoor
