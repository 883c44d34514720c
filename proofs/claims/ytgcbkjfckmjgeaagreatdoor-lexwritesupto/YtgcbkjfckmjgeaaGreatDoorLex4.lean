/- The document's own scanner: the byte some places on, and runs of bytes of a kind. -/
import Derived.Test.YtgcbkjfckmjgeaaGreatDoorProg
import Derived.Test.YtgcbkjfckmjgeaaGreatDoorLex1
import Derived.WalkKit
import Derived.ProofKit
import Derived.OpenShut
import Derived.Below
import Derived.WalkLawsBesides
import Derived.OwnWalk
import Derived.BigQuiet
import Derived.Lib.IndexBytes
import Derived.Deep.DeepCutAuto
namespace Go.Proofs.YtgcbkjfckmjgeaaGreatDoor
open Go.ChangeShapes Go.WideShapes Go.ChangeAt Go.RowKit

/-- A scanner of a text of at most MaxText bytes, at a place. -/
structure IsSc (w : World) (b : Nat) (s : ByteArray) (p : Nat) : Prop where
  str : w.cell? ⟨b, 0, none⟩ = some (.string s)
  at' : w.cell? ⟨b, 1, none⟩ = some (.int .i64 (p : Int))
  old : b < w.heap.size
  small : s.size ≤ 1048576
  inside : p ≤ s.size
theorem IsSc.below {w w' : World} {b : Nat} {s : ByteArray} {p : Nat} (h : IsSc w b s p) (bel : Below w.heap.size w w') : IsSc w' b s p :=
  ⟨by rw [bel.cell (p := ⟨b, 0, none⟩) h.old]; exact h.str, by rw [bel.cell (p := ⟨b, 1, none⟩) h.old]; exact h.at', Nat.lt_of_lt_of_le h.old bel.size, h.small, h.inside⟩

set_option maxRecDepth 100000 in
theorem at_any (b : Nat) (s : ByteArray) (p k : Nat) (w : World) (h : IsSc w b s p) (hk : k ≤ 9000000) : Calls Tryz.prog 20 #[.pointer (some ⟨b, 0, none⟩), .int .i64 (k : Int)] w fun e w' => e = .returned (.int .u8 (atN s (p + k) : Nat)) ∧ Below w.heap.size w w' := by
  obtain ⟨c0, c1, _, hs, hp⟩ := h
  obtain ⟨q, hq⟩ : ∃ q, p + k = q := ⟨_, rfl⟩
  have hqi : (p : Int) + (k : Int) = (q : Int) := by omega
  have hqb : q ≤ 20000000 := by omega
  rw [hq]
  clear hq
  by_cases h1 : q < s.size
  · have H : Hid (atN s q = (s[q]'h1).toNat) := by show _ = _; unfold atN; rw [dif_pos h1]
    rw [H.out]
    clear H
    go_enter Tryz.func20, Tryz.ntmps20
    go_wp2
    go_quiet (fail)
    go_wp2
    go_quiet (fail)
    go_wp2
    go_ret
    exact ⟨rfl, by first | exact below_drew _ _ _ | exact (below_drew _ _ _).trans (below_drew _ _ _)⟩
  · have H : Hid (atN s q = 0) := by show _ = _; unfold atN; rw [dif_neg h1]
    rw [H.out]
    clear H
    go_enter Tryz.func20, Tryz.ntmps20
    go_wp2
    go_quiet (fail)
    go_wp2
    go_ret
    exact ⟨rfl, below_drew _ _ _⟩

set_option maxRecDepth 100000 in
set_option maxHeartbeats 4000000 in
theorem run1_any (b : Nat) (s : ByteArray) (p k : Nat) (w : World) (h : IsSc w b s p) (hk : k ≤ 9000000) : Calls Tryz.prog 47 #[.pointer (some ⟨b, 0, none⟩), .int .i64 (k : Int), .int .i64 1] w fun e w' => e = .returned (.int .i64 (runN 1 s (p + k) : Nat)) ∧ Below w.heap.size w w' := by
  obtain ⟨q, hq⟩ : ∃ q, p + k = q := ⟨_, rfl⟩
  have hp := h.inside
  have hs := h.small
  have hqi : (p : Int) + (k : Int) = (q : Int) := by omega
  have hqb : q ≤ 20000000 := by omega
  have HS := hide h
  obtain ⟨T, HT⟩ : ∃ T, Hid (runN 1 s q = T) := ⟨_, rfl⟩
  rw [hq, HT.out]
  clear h hq hp
  go_enter Tryz.func47, Tryz.ntmps47
  go_wp2
  go_loopw [7] (fun vi wr => ∃ m j : Nat, vi = .int .i64 (m : Int) ∧ (q : Int) + (m : Int) = (j : Int) ∧ m ≤ 1048576 ∧ Hid (q + m = j ∧ T = m + runN 1 s j) ∧ Below w.heap.size w wr) (fun vi _ => s.size - (q + (intOf vi).toNat))
  case atStart => exact ⟨0, q, rfl, by simp, Nat.zero_le _, ⟨rfl, by rw [Nat.zero_add]; exact HT.out.symm⟩, Below.refl _ _⟩
  case round =>
    obtain ⟨m, j, rfl, hj, hm, HI, bel⟩ := hrel
    obtain ⟨c0, c1, _, _, _⟩ := HS.out.below bel
    by_cases h1 : j < s.size
    · have hr := runN_at 1 s j h1
      obtain ⟨c, hc⟩ : ∃ c, s[j]'h1 = c := ⟨_, rfl⟩
      rw [hc, show kindB 1 c = wordB c from rfl] at hr
      have CB := hide (fun W => rword_any c W)
      obtain ⟨n, hn⟩ : ∃ n, c.toNat = n := ⟨_, rfl⟩
      have hcn : (s[j]'h1).toNat = n := by rw [hc, hn]
      rw [hn] at CB
      clear hc hn
      by_cases hb : wordB c = true
      · rw [if_pos hb] at hr
        rw [hb] at CB
        have HI2 : Hid (q + (m + 1) = j + 1 ∧ T = (m + 1) + runN 1 s (j + 1)) := ⟨by have := HI.out.1; omega, by have := HI.out.2; omega⟩
        have hjq : q + m = j := HI.out.1
        clear HI hr hb
        go_wp2
        go_quiet (fail)
        go_wp2
        go_quiet (fail)
        go_wp2_with (go_at_call 71; refine (CB.out _).mono ?_; rintro e w0 ⟨rfl, h0⟩; replace h0 := h0.symm; subst h0)
        go_roundw
        case rel => exact ⟨m + 1, j + 1, by go_num, by go_num, by omega, HI2, by first | exact bel.trans (below_drew _ _ _) | exact (bel.trans (below_drew _ _ _)).trans (below_drew _ _ _)⟩
        case measure => simp [intOf]; omega
      · have hb' : wordB c = false := by simpa using hb
        rw [if_neg hb] at hr
        rw [hb'] at CB
        have hTm : T = m := by have := HI.out.2; omega
        subst hTm
        clear HI hr hb hb'
        go_wp2
        go_quiet (fail)
        go_wp2
        go_quiet (fail)
        go_wp2_with (go_at_call 71; refine (CB.out _).mono ?_; rintro e w0 ⟨rfl, h0⟩; replace h0 := h0.symm; subst h0)
        go_ret
        exact ⟨rfl, by first | exact bel.trans (below_drew _ _ _) | exact (bel.trans (below_drew _ _ _)).trans (below_drew _ _ _)⟩
    · have hTm : T = m := by have := HI.out.2; rw [runN_end 1 s j h1] at this; omega
      subst hTm
      clear HI
      go_wp2
      go_quiet (fail)
      go_wp2
      go_ret
      exact ⟨rfl, bel.trans (below_drew _ _ _)⟩

set_option maxRecDepth 100000 in
set_option maxHeartbeats 4000000 in
theorem run2_any (b : Nat) (s : ByteArray) (p k : Nat) (w : World) (h : IsSc w b s p) (hk : k ≤ 9000000) : Calls Tryz.prog 47 #[.pointer (some ⟨b, 0, none⟩), .int .i64 (k : Int), .int .i64 2] w fun e w' => e = .returned (.int .i64 (runN 2 s (p + k) : Nat)) ∧ Below w.heap.size w w' := by
  obtain ⟨q, hq⟩ : ∃ q, p + k = q := ⟨_, rfl⟩
  have hp := h.inside
  have hs := h.small
  have hqi : (p : Int) + (k : Int) = (q : Int) := by omega
  have hqb : q ≤ 20000000 := by omega
  have HS := hide h
  obtain ⟨T, HT⟩ : ∃ T, Hid (runN 2 s q = T) := ⟨_, rfl⟩
  rw [hq, HT.out]
  clear h hq hp
  go_enter Tryz.func47, Tryz.ntmps47
  go_wp2
  go_loopw [7] (fun vi wr => ∃ m j : Nat, vi = .int .i64 (m : Int) ∧ (q : Int) + (m : Int) = (j : Int) ∧ m ≤ 1048576 ∧ Hid (q + m = j ∧ T = m + runN 2 s j) ∧ Below w.heap.size w wr) (fun vi _ => s.size - (q + (intOf vi).toNat))
  case atStart => exact ⟨0, q, rfl, by simp, Nat.zero_le _, ⟨rfl, by rw [Nat.zero_add]; exact HT.out.symm⟩, Below.refl _ _⟩
  case round =>
    obtain ⟨m, j, rfl, hj, hm, HI, bel⟩ := hrel
    obtain ⟨c0, c1, _, _, _⟩ := HS.out.below bel
    by_cases h1 : j < s.size
    · have hr := runN_at 2 s j h1
      obtain ⟨c, hc⟩ : ∃ c, s[j]'h1 = c := ⟨_, rfl⟩
      rw [hc, show kindB 2 c = signB c from rfl] at hr
      have CB := hide (fun W => rsign_any c W)
      obtain ⟨n, hn⟩ : ∃ n, c.toNat = n := ⟨_, rfl⟩
      have hcn : (s[j]'h1).toNat = n := by rw [hc, hn]
      rw [hn] at CB
      clear hc hn
      by_cases hb : signB c = true
      · rw [if_pos hb] at hr
        rw [hb] at CB
        have HI2 : Hid (q + (m + 1) = j + 1 ∧ T = (m + 1) + runN 2 s (j + 1)) := ⟨by have := HI.out.1; omega, by have := HI.out.2; omega⟩
        have hjq : q + m = j := HI.out.1
        clear HI hr hb
        go_wp2
        go_quiet (fail)
        go_wp2
        go_quiet (fail)
        go_wp2_with (go_at_call 50; refine (CB.out _).mono ?_; rintro e w0 ⟨rfl, h0⟩; replace h0 := h0.symm; subst h0)
        go_roundw
        case rel => exact ⟨m + 1, j + 1, by go_num, by go_num, by omega, HI2, by first | exact bel.trans (below_drew _ _ _) | exact (bel.trans (below_drew _ _ _)).trans (below_drew _ _ _)⟩
        case measure => simp [intOf]; omega
      · have hb' : signB c = false := by simpa using hb
        rw [if_neg hb] at hr
        rw [hb'] at CB
        have hTm : T = m := by have := HI.out.2; omega
        subst hTm
        clear HI hr hb hb'
        go_wp2
        go_quiet (fail)
        go_wp2
        go_quiet (fail)
        go_wp2_with (go_at_call 50; refine (CB.out _).mono ?_; rintro e w0 ⟨rfl, h0⟩; replace h0 := h0.symm; subst h0)
        go_ret
        exact ⟨rfl, by first | exact bel.trans (below_drew _ _ _) | exact (bel.trans (below_drew _ _ _)).trans (below_drew _ _ _)⟩
    · have hTm : T = m := by have := HI.out.2; rw [runN_end 2 s j h1] at this; omega
      subst hTm
      clear HI
      go_wp2
      go_quiet (fail)
      go_wp2
      go_ret
      exact ⟨rfl, bel.trans (below_drew _ _ _)⟩

set_option maxRecDepth 100000 in
set_option maxHeartbeats 4000000 in
theorem run3_any (b : Nat) (s : ByteArray) (p k : Nat) (w : World) (h : IsSc w b s p) (hk : k ≤ 9000000) : Calls Tryz.prog 47 #[.pointer (some ⟨b, 0, none⟩), .int .i64 (k : Int), .int .i64 3] w fun e w' => e = .returned (.int .i64 (runN 3 s (p + k) : Nat)) ∧ Below w.heap.size w w' := by
  obtain ⟨q, hq⟩ : ∃ q, p + k = q := ⟨_, rfl⟩
  have hp := h.inside
  have hs := h.small
  have hqi : (p : Int) + (k : Int) = (q : Int) := by omega
  have hqb : q ≤ 20000000 := by omega
  have HS := hide h
  obtain ⟨T, HT⟩ : ∃ T, Hid (runN 3 s q = T) := ⟨_, rfl⟩
  rw [hq, HT.out]
  clear h hq hp
  go_enter Tryz.func47, Tryz.ntmps47
  go_wp2
  go_loopw [7] (fun vi wr => ∃ m j : Nat, vi = .int .i64 (m : Int) ∧ (q : Int) + (m : Int) = (j : Int) ∧ m ≤ 1048576 ∧ Hid (q + m = j ∧ T = m + runN 3 s j) ∧ Below w.heap.size w wr) (fun vi _ => s.size - (q + (intOf vi).toNat))
  case atStart => exact ⟨0, q, rfl, by simp, Nat.zero_le _, ⟨rfl, by rw [Nat.zero_add]; exact HT.out.symm⟩, Below.refl _ _⟩
  case round =>
    obtain ⟨m, j, rfl, hj, hm, HI, bel⟩ := hrel
    obtain ⟨c0, c1, _, _, _⟩ := HS.out.below bel
    by_cases h1 : j < s.size
    · have hr := runN_at 3 s j h1
      obtain ⟨c, hc⟩ : ∃ c, s[j]'h1 = c := ⟨_, rfl⟩
      rw [hc, show kindB 3 c = digitB c from rfl] at hr
      have CB := hide (fun W => rdigit_any c W)
      obtain ⟨n, hn⟩ : ∃ n, c.toNat = n := ⟨_, rfl⟩
      have hcn : (s[j]'h1).toNat = n := by rw [hc, hn]
      rw [hn] at CB
      clear hc hn
      by_cases hb : digitB c = true
      · rw [if_pos hb] at hr
        rw [hb] at CB
        have HI2 : Hid (q + (m + 1) = j + 1 ∧ T = (m + 1) + runN 3 s (j + 1)) := ⟨by have := HI.out.1; omega, by have := HI.out.2; omega⟩
        have hjq : q + m = j := HI.out.1
        clear HI hr hb
        go_wp2
        go_quiet (fail)
        go_wp2
        go_quiet (fail)
        go_wp2_with (go_at_call 45; refine (CB.out _).mono ?_; rintro e w0 ⟨rfl, h0⟩; replace h0 := h0.symm; subst h0)
        go_roundw
        case rel => exact ⟨m + 1, j + 1, by go_num, by go_num, by omega, HI2, by first | exact bel.trans (below_drew _ _ _) | exact (bel.trans (below_drew _ _ _)).trans (below_drew _ _ _)⟩
        case measure => simp [intOf]; omega
      · have hb' : digitB c = false := by simpa using hb
        rw [if_neg hb] at hr
        rw [hb'] at CB
        have hTm : T = m := by have := HI.out.2; omega
        subst hTm
        clear HI hr hb hb'
        go_wp2
        go_quiet (fail)
        go_wp2
        go_quiet (fail)
        go_wp2_with (go_at_call 45; refine (CB.out _).mono ?_; rintro e w0 ⟨rfl, h0⟩; replace h0 := h0.symm; subst h0)
        go_ret
        exact ⟨rfl, by first | exact bel.trans (below_drew _ _ _) | exact (bel.trans (below_drew _ _ _)).trans (below_drew _ _ _)⟩
    · have hTm : T = m := by have := HI.out.2; rw [runN_end 3 s j h1] at this; omega
      subst hTm
      clear HI
      go_wp2
      go_quiet (fail)
      go_wp2
      go_ret
      exact ⟨rfl, bel.trans (below_drew _ _ _)⟩

set_option maxRecDepth 100000 in
set_option maxHeartbeats 4000000 in
theorem run4_any (b : Nat) (s : ByteArray) (p k : Nat) (w : World) (h : IsSc w b s p) (hk : k ≤ 9000000) : Calls Tryz.prog 47 #[.pointer (some ⟨b, 0, none⟩), .int .i64 (k : Int), .int .i64 4] w fun e w' => e = .returned (.int .i64 (runN 4 s (p + k) : Nat)) ∧ Below w.heap.size w w' := by
  obtain ⟨q, hq⟩ : ∃ q, p + k = q := ⟨_, rfl⟩
  have hp := h.inside
  have hs := h.small
  have hqi : (p : Int) + (k : Int) = (q : Int) := by omega
  have hqb : q ≤ 20000000 := by omega
  have HS := hide h
  obtain ⟨T, HT⟩ : ∃ T, Hid (runN 4 s q = T) := ⟨_, rfl⟩
  rw [hq, HT.out]
  clear h hq hp
  go_enter Tryz.func47, Tryz.ntmps47
  go_wp2
  go_loopw [7] (fun vi wr => ∃ m j : Nat, vi = .int .i64 (m : Int) ∧ (q : Int) + (m : Int) = (j : Int) ∧ m ≤ 1048576 ∧ Hid (q + m = j ∧ T = m + runN 4 s j) ∧ Below w.heap.size w wr) (fun vi _ => s.size - (q + (intOf vi).toNat))
  case atStart => exact ⟨0, q, rfl, by simp, Nat.zero_le _, ⟨rfl, by rw [Nat.zero_add]; exact HT.out.symm⟩, Below.refl _ _⟩
  case round =>
    obtain ⟨m, j, rfl, hj, hm, HI, bel⟩ := hrel
    obtain ⟨c0, c1, _, _, _⟩ := HS.out.below bel
    by_cases h1 : j < s.size
    · have hr := runN_at 4 s j h1
      obtain ⟨c, hc⟩ : ∃ c, s[j]'h1 = c := ⟨_, rfl⟩
      rw [hc, show kindB 4 c = hexB c from rfl] at hr
      have CB := hide (fun W => rhex_any c W)
      obtain ⟨n, hn⟩ : ∃ n, c.toNat = n := ⟨_, rfl⟩
      have hcn : (s[j]'h1).toNat = n := by rw [hc, hn]
      rw [hn] at CB
      clear hc hn
      by_cases hb : hexB c = true
      · rw [if_pos hb] at hr
        rw [hb] at CB
        have HI2 : Hid (q + (m + 1) = j + 1 ∧ T = (m + 1) + runN 4 s (j + 1)) := ⟨by have := HI.out.1; omega, by have := HI.out.2; omega⟩
        have hjq : q + m = j := HI.out.1
        clear HI hr hb
        go_wp2
        go_quiet (fail)
        go_wp2
        go_quiet (fail)
        go_wp2_with (go_at_call 72; refine (CB.out _).mono ?_; rintro e w0 ⟨rfl, h0⟩; replace h0 := h0.symm; subst h0)
        go_roundw
        case rel => exact ⟨m + 1, j + 1, by go_num, by go_num, by omega, HI2, by first | exact bel.trans (below_drew _ _ _) | exact (bel.trans (below_drew _ _ _)).trans (below_drew _ _ _)⟩
        case measure => simp [intOf]; omega
      · have hb' : hexB c = false := by simpa using hb
        rw [if_neg hb] at hr
        rw [hb'] at CB
        have hTm : T = m := by have := HI.out.2; omega
        subst hTm
        clear HI hr hb hb'
        go_wp2
        go_quiet (fail)
        go_wp2
        go_quiet (fail)
        go_wp2_with (go_at_call 72; refine (CB.out _).mono ?_; rintro e w0 ⟨rfl, h0⟩; replace h0 := h0.symm; subst h0)
        go_ret
        exact ⟨rfl, by first | exact bel.trans (below_drew _ _ _) | exact (bel.trans (below_drew _ _ _)).trans (below_drew _ _ _)⟩
    · have hTm : T = m := by have := HI.out.2; rw [runN_end 4 s j h1] at this; omega
      subst hTm
      clear HI
      go_wp2
      go_quiet (fail)
      go_wp2
      go_ret
      exact ⟨rfl, bel.trans (below_drew _ _ _)⟩
end Go.Proofs.YtgcbkjfckmjgeaaGreatDoor
/- The document's own scanner: comments. -/
namespace Go.Proofs.YtgcbkjfckmjgeaaGreatDoor
open Go.ChangeShapes Go.WideShapes Go.ChangeAt Go.RowKit

theorem comF_step (s : ByteArray) (i : Nat) (d : Int) (h : i + 1 < s.size) : comF s (s.size + 1) i d = if atN s i = 40 ∧ atN s (i + 1) = 42 then comF s (s.size + 1) (i + 2) (d + 1) else if atN s i = 42 ∧ atN s (i + 1) = 41 then (if d - 1 = 0 then some (i + 2) else comF s (s.size + 1) (i + 2) (d - 1)) else comF s (s.size + 1) (i + 1) d := by
  conv => lhs; unfold comF
  rw [if_pos h, comF_fuel s s.size (s.size + 1) (i + 2) (d + 1) (by omega) (by omega), comF_fuel s s.size (s.size + 1) (i + 2) (d - 1) (by omega) (by omega), comF_fuel s s.size (s.size + 1) (i + 1) d (by omega) (by omega)]
theorem comF_end (s : ByteArray) (f i : Nat) (d : Int) (h : ¬ i + 1 < s.size) : comF s f i d = none := by
  cases f with
  | zero => rfl
  | succ f => unfold comF; rw [if_neg h]
theorem two_at (s : ByteArray) (i : Nat) (h : i + 1 < s.size) : s.extract i (i + 2) = ⟨#[s[i]'(by omega), s[i + 1]'h]⟩ := by
  apply ByteArray.ext
  apply Array.ext'
  have : (s.extract i (i + 2)).data.toList = (s.data.toList.drop i).take 2 := by simp [ByteArray.data_extract]
  rw [this, drop_at s i (by omega), drop_at s (i + 1) h]
  rfl
theorem two_is (s : ByteArray) (i : Nat) (h : i + 1 < s.size) (x y : UInt8) : s.extract i (i + 2) = ⟨#[x, y]⟩ ↔ atN s i = x.toNat ∧ atN s (i + 1) = y.toNat := by
  unfold atN
  rw [two_at s i h, dif_pos (show i < s.size by omega), dif_pos h]
  constructor
  · intro e
    have e1 := congrArg (·.data.toList) e
    simp at e1
    rw [e1.1, e1.2]
    exact ⟨rfl, rfl⟩
  · rintro ⟨e1, e2⟩
    rw [UInt8.toNat_inj.1 e1, UInt8.toNat_inj.1 e2]

theorem str_yes {t : ByteArray} {l : List UInt8} (h : t = ⟨l.toArray⟩) : (t.toList == l) = true := by
  rw [h, ByteArray.toList_eq]; simp
theorem str_no {t : ByteArray} {l : List UInt8} (h : ¬ t = ⟨l.toArray⟩) : (t.toList == l) = false := by
  rw [ByteArray.toList_eq, beq_eq_false_iff_ne]
  intro e
  apply h
  apply ByteArray.ext
  apply Array.ext'
  rw [e]

/-- What is told of a comment. -/
def comV (r : Option Nat) : Value := match r with
  | some q => .tuple #[.int .i64 (q : Int), .bool true]
  | none => .tuple #[.int .i64 0, .bool false]

set_option maxRecDepth 100000 in
set_option maxHeartbeats 4000000 in
theorem comment_any (b : Nat) (s : ByteArray) (p : Nat) (w : World) (h : IsSc w b s p) : Calls Tryz.prog 21 #[.pointer (some ⟨b, 0, none⟩)] w fun e w' => e = .returned (comV (comN s p)) ∧ w' = w := by
  obtain ⟨c0, c1, _, hs, hp⟩ := h
  obtain ⟨R, HR⟩ : ∃ R, Hid (comN s p = R) := ⟨_, rfl⟩
  rw [HR.out]
  go_enter Tryz.func21, Tryz.ntmps21
  go_wp2
  go_loop [4, 5] (fun vd vi => ∃ (i : Nat) (d : Int), vi = .int .i64 (i : Int) ∧ vd = .int .i64 d ∧ i ≤ s.size ∧ -9000000 + (s.size - i : Int) ≤ d ∧ d ≤ 9000000 - (s.size - i : Int) ∧ Hid (R = comF s (s.size + 1) i d)) (fun _ vi => s.size - (intOf vi).toNat)
  case atStart => exact ⟨p, 0, rfl, rfl, hp, by omega, by omega, HR.out.symm⟩
  case round =>
    obtain ⟨i, d, rfl, rfl, hi, hd1, hd2, HI⟩ := hrel
    by_cases h1 : i + 1 < s.size
    · have h1i : (i : Int) + 1 < (s.size : Int) := by omega
      obtain ⟨j, hj⟩ : ∃ j, i + 2 = j := ⟨_, rfl⟩
      have hji : (i : Int) + 2 = (j : Int) := by omega
      have hjs : j ≤ s.size := by omega
      have hij : i ≤ j := by omega
      have HI2 := hide (HI.out.trans (comF_step s i d h1))
      have e1 := two_is s i h1 40 42
      have e2 := two_is s i h1 42 41
      rw [hj] at e1 e2 HI2
      obtain ⟨t, ht⟩ : ∃ t, s.extract i j = t := ⟨_, rfl⟩
      rw [ht] at e1 e2
      rw [show (40 : UInt8).toNat = 40 from rfl, show (42 : UInt8).toNat = 42 from rfl] at e1
      rw [show (41 : UInt8).toNat = 41 from rfl, show (42 : UInt8).toNat = 42 from rfl] at e2
      have E1 := hide e1
      have E2 := hide e2
      clear HI e1 e2
      by_cases q1 : t = ⟨#[40, 42]⟩
      · have HE : Hid (R = comF s (s.size + 1) j (d + 1)) := by show _ = _; rw [HI2.out, if_pos (E1.out.1 q1)]
        have g1 := str_yes (l := [40, 42]) q1
        clear HI2 hj q1
        go_wp2
        go_round
        case rel => exact ⟨j, d + 1, rfl, rfl, hjs, by omega, by omega, HE⟩
        case measure => simp [intOf]; omega
      · by_cases q2 : t = ⟨#[42, 41]⟩
        · have HE : Hid (R = if d - 1 = 0 then some j else comF s (s.size + 1) j (d - 1)) := by show _ = _; rw [HI2.out, if_neg (fun c => q1 (E1.out.2 c)), if_pos (E2.out.1 q2)]
          have g1 := str_no (l := [40, 42]) q1
          have g2 := str_yes (l := [42, 41]) q2
          clear HI2 hj q1 q2
          by_cases hz : d - 1 = 0
          · have HE2 : Hid (R = some j) := by show _ = _; rw [HE.out, if_pos hz]
            have g3 : (d - 1 == 0) = true := by simp; exact hz
            clear HE hz
            go_wp2
            go_ret2
            exact ⟨by rw [HE2.out]; rfl, rfl⟩
          · have HE2 : Hid (R = comF s (s.size + 1) j (d - 1)) := by show _ = _; rw [HE.out, if_neg hz]
            have g3 : (d - 1 == 0) = false := by simp; exact hz
            clear HE hz
            go_wp2
            go_round
            case rel => exact ⟨j, d - 1, rfl, rfl, hjs, by omega, by omega, HE2⟩
            case measure => simp [intOf]; omega
        · have HE : Hid (R = comF s (s.size + 1) (i + 1) d) := by show _ = _; rw [HI2.out, if_neg (fun c => q1 (E1.out.2 c)), if_neg (fun c => q2 (E2.out.2 c))]
          have g1 := str_no (l := [40, 42]) q1
          have g2 := str_no (l := [42, 41]) q2
          clear HI2 hj q1 q2
          go_wp2
          go_round
          case rel => exact ⟨i + 1, d, by go_num, rfl, by omega, by omega, by omega, HE⟩
          case measure => simp [intOf]; omega
    · have HE : Hid (R = none) := by show _ = _; rw [HI.out, comF_end s _ i d h1]
      have h1i : ¬ ((i : Int) + 1 < (s.size : Int)) := by omega
      clear HI
      go_wp2
      go_ret2
      exact ⟨by rw [HE.out]; rfl, rfl⟩
end Go.Proofs.YtgcbkjfckmjgeaaGreatDoor
/- The document's own scanner: numbers. -/
namespace Go.Proofs.YtgcbkjfckmjgeaaGreatDoor
open Go.ChangeShapes Go.WideShapes Go.ChangeAt Go.RowKit

/-- The same contracts, the number of places on an integer. -/
theorem at_int (b : Nat) (s : ByteArray) (p q : Nat) (k : Int) (w : World) (h : IsSc w b s p) (hk : (p : Int) + k = q) (h0 : 0 ≤ k ∧ k ≤ 9000000) : Calls Tryz.prog 20 #[.pointer (some ⟨b, 0, none⟩), .int .i64 k] w fun e w' => e = .returned (.int .u8 (atN s q : Nat)) ∧ Below w.heap.size w w' := by
  obtain ⟨n, rfl⟩ : ∃ n : Nat, k = n := ⟨k.toNat, by omega⟩
  obtain rfl : p + n = q := by omega
  exact at_any b s p n w h (by omega)
theorem run3_int (b : Nat) (s : ByteArray) (p q : Nat) (k : Int) (w : World) (h : IsSc w b s p) (hk : (p : Int) + k = q) (h0 : 0 ≤ k ∧ k ≤ 9000000) : Calls Tryz.prog 47 #[.pointer (some ⟨b, 0, none⟩), .int .i64 k, .int .i64 3] w fun e w' => e = .returned (.int .i64 (runN 3 s q : Nat)) ∧ Below w.heap.size w w' := by
  obtain ⟨n, rfl⟩ : ∃ n : Nat, k = n := ⟨k.toNat, by omega⟩
  obtain rfl : p + n = q := by omega
  exact run3_any b s p n w h (by omega)
theorem run4_int (b : Nat) (s : ByteArray) (p q : Nat) (k : Int) (w : World) (h : IsSc w b s p) (hk : (p : Int) + k = q) (h0 : 0 ≤ k ∧ k ≤ 9000000) : Calls Tryz.prog 47 #[.pointer (some ⟨b, 0, none⟩), .int .i64 k, .int .i64 4] w fun e w' => e = .returned (.int .i64 (runN 4 s q : Nat)) ∧ Below w.heap.size w w' := by
  obtain ⟨n, rfl⟩ : ∃ n : Nat, k = n := ⟨k.toNat, by omega⟩
  obtain rfl : p + n = q := by omega
  exact run4_any b s p n w h (by omega)
theorem atN_lt (s : ByteArray) (i : Nat) : atN s i < 256 := by
  unfold atN
  split
  · exact UInt8.toNat_lt _
  · decide

theorem runN_small (k : Nat) (s : ByteArray) (i : Nat) (hs : s.size ≤ 1048576) : runN k s i ≤ 1048576 := by
  by_cases h : i ≤ s.size
  · have := runN_le k s i h; omega
  · rw [runN_end k s i (by omega)]; omega

set_option maxRecDepth 100000 in
set_option maxHeartbeats 4000000 in
theorem rnumber_any (b : Nat) (s : ByteArray) (p : Nat) (w : World) (h : IsSc w b s p) : Calls Tryz.prog 46 #[.pointer (some ⟨b, 0, none⟩)] w fun e w' => e = .returned (.tuple #[.int .i64 ((numN s p).1 : Nat), .bool (numN s p).2]) ∧ Below w.heap.size w w' := by
  have HS := hide h
  have hsm := h.small
  have hin := h.inside
  clear h
  obtain ⟨R, HR⟩ : ∃ R, Hid (numN s p = R) := ⟨_, rfl⟩
  rw [HR.out]
  obtain ⟨v0, hv0⟩ : ∃ v, atN s p = v := ⟨_, rfl⟩
  obtain ⟨n0, hn0⟩ : ∃ n, (if v0 = 126 then 1 else 0) = n := ⟨_, rfl⟩
  have hn1 : n0 ≤ 1 := by rw [← hn0]; split <;> omega
  obtain ⟨v1, hv1⟩ : ∃ v, atN s (p + n0) = v := ⟨_, rfl⟩
  obtain ⟨v2, hv2⟩ : ∃ v, atN s (p + (n0 + 1)) = v := ⟨_, rfl⟩
  obtain ⟨k4, hk4⟩ : ∃ k, runN 4 s (p + (n0 + 2)) = k := ⟨_, rfl⟩
  obtain ⟨k3, hk3⟩ : ∃ k, runN 3 s (p + n0) = k := ⟨_, rfl⟩
  have k4s : k4 ≤ 1048576 := by rw [← hk4]; exact runN_small _ _ _ hsm
  have k3s : k3 ≤ 1048576 := by rw [← hk3]; exact runN_small _ _ _ hsm
  have HN : Hid (R = if v1 = 48 ∧ v2 = 120 ∧ 0 < k4 then (n0 + 2 + k4, false) else numMid s p (n0 + k3)) := by
    show _ = _
    rw [← HR.out]
    unfold numN
    simp only [hv0, hn0, hv1, hv2, hk4, hk3]
  have HV0 := hide hv0
  have HV1 := hide hv1
  have HV2 := hide hv2
  have HK4 := hide hk4
  have HK3 := hide hk3
  clear hv0 hv1 hv2 hk4 hk3
  go_enter Tryz.func46, Tryz.ntmps46
  go_upto_if 12 with (go_at_call 20; refine (at_int b s p p 0 _ HS.out (by omega) (by omega)).mono ?_; rintro e w1 ⟨rfl, b1⟩; rw [HV0.out])
  go_cut [4] (fun vn wx => vn = .int .i64 (n0 : Int) ∧ Below w.heap.size w wx)
  case first =>
    by_cases c : v0 = 126
    · rw [if_pos c] at hn0
      subst hn0 c
      go_wp2
      go_meet
      case rel => exact ⟨rfl, b1⟩
    · rw [if_neg c] at hn0
      subst hn0
      have g : ((v0 : Int) == 126) = false := by simp; omega
      go_wp2
      go_meet
      case rel => exact ⟨rfl, b1⟩
  case rest =>
    obtain ⟨rfl, B1⟩ := hcut
    clear hn0
    go_upto_region 4 with fail
    go_cut [4, 23] (fun vn vb wx => vn = .int .i64 (n0 : Int) ∧ vb = .bool (decide (v1 = 48 ∧ v2 = 120)) ∧ Below w.heap.size w wx)
    case first =>
      by_cases c1 : v1 = 48
      · by_cases c2 : v2 = 120
        · subst c1 c2
          go_wp2_with (first
            | (go_at_call 20; refine (at_int b s p (p + n0) _ _ (HS.out.below B1) (by omega) (by omega)).mono ?_; rintro e w2 ⟨rfl, b2⟩; rw [HV1.out]; have B2 := B1.trans (b2.mono B1.size); clear HV1)
            | (go_at_call 20; refine (at_int b s p (p + (n0 + 1)) _ _ (HS.out.below B2) (by omega) (by omega)).mono ?_; rintro e w3 ⟨rfl, b3⟩; rw [HV2.out]; have B3 := B2.trans (b3.mono B2.size)))
          go_meet
          case rel => exact ⟨rfl, rfl, B3⟩
        · have g2 : ((v2 : Int) == 120) = false := by simp; omega
          have g3 : decide (v1 = 48 ∧ v2 = 120) = false := decide_eq_false (fun x => c2 x.2)
          subst c1
          go_wp2_with (first
            | (go_at_call 20; refine (at_int b s p (p + n0) _ _ (HS.out.below B1) (by omega) (by omega)).mono ?_; rintro e w2 ⟨rfl, b2⟩; rw [HV1.out]; have B2 := B1.trans (b2.mono B1.size); clear HV1)
            | (go_at_call 20; refine (at_int b s p (p + (n0 + 1)) _ _ (HS.out.below B2) (by omega) (by omega)).mono ?_; rintro e w3 ⟨rfl, b3⟩; rw [HV2.out]; have B3 := B2.trans (b3.mono B2.size)))
          go_meet
          case rel => exact ⟨rfl, by rw [g3], B3⟩
      · have g1 : ((v1 : Int) == 48) = false := by simp; omega
        have g3 : decide (v1 = 48 ∧ v2 = 120) = false := decide_eq_false (fun x => c1 x.1)
        go_wp2_with (go_at_call 20; refine (at_int b s p (p + n0) _ _ (HS.out.below B1) (by omega) (by omega)).mono ?_; rintro e w2 ⟨rfl, b2⟩; rw [HV1.out]; have B2 := B1.trans (b2.mono B1.size))
        go_meet
        case rel => exact ⟨rfl, by rw [g3], B2⟩
    case rest =>
      obtain ⟨rfl, rfl, B3⟩ := hcut
      clear HV1 HV2 B1
      go_upto_if 23 with fail
      go_cut [4] (fun vn wx => vn = .int .i64 (n0 : Int) ∧ Below w.heap.size w wx ∧ Hid (R = numMid s p (n0 + k3)))
      case first =>
        by_cases c : v1 = 48 ∧ v2 = 120
        · rw [decide_eq_true c]
          by_cases c3 : 0 < k4
          · have HE : Hid (R = (n0 + 2 + k4, false)) := by show _ = _; rw [HN.out, if_pos ⟨c.1, c.2, c3⟩]
            go_wp2_with (go_at_call 47; refine (run4_int b s p (p + (n0 + 2)) _ _ (HS.out.below B3) (by omega) (by omega)).mono ?_; rintro e w4 ⟨rfl, b4⟩; rw [HK4.out]; have B4 := B3.trans (b4.mono B3.size))
            go_ret2
            exact ⟨by rw [HE.out]; go_num, B4⟩
          · have HE : Hid (R = numMid s p (n0 + k3)) := by show _ = _; rw [HN.out, if_neg (fun x => c3 x.2.2)]
            obtain rfl : k4 = 0 := by omega
            go_wp2_with (go_at_call 47; refine (run4_int b s p (p + (n0 + 2)) _ _ (HS.out.below B3) (by omega) (by omega)).mono ?_; rintro e w4 ⟨rfl, b4⟩; rw [HK4.out]; have B4 := B3.trans (b4.mono B3.size))
            go_meet
            case rel => exact ⟨rfl, B4, HE⟩
        · have HE : Hid (R = numMid s p (n0 + k3)) := by show _ = _; rw [HN.out, if_neg (fun x => c ⟨x.1, x.2.1⟩)]
          rw [decide_eq_false c]
          go_wp2
          go_meet
          case rel => exact ⟨rfl, B3, HE⟩
      case rest =>
        obtain ⟨rfl, B5, HM⟩ := hcut
        clear HN HK4 B3 k4s
        obtain ⟨m1, hm1⟩ : ∃ m, n0 + k3 = m := ⟨_, rfl⟩
        have hm1i : (n0 : Int) + (k3 : Int) = (m1 : Int) := by omega
        have hm1s : m1 ≤ 1048577 := by omega
        rw [hm1] at HM
        obtain ⟨v3, hv3⟩ : ∃ v, atN s (p + m1) = v := ⟨_, rfl⟩
        obtain ⟨k5, hk5⟩ : ∃ k, runN 3 s (p + (m1 + 1)) = k := ⟨_, rfl⟩
        have k5s : k5 ≤ 1048576 := by rw [← hk5]; exact runN_small _ _ _ hsm
        have HM2 : Hid (R = if v3 = 46 ∧ 0 < k5 then numTail s p (m1 + 1 + k5) true else numTail s p m1 false) := by
          show _ = _
          rw [HM.out]
          unfold numMid
          rw [hv3, hk5]
        have HV3 := hide hv3
        have HK5 := hide hk5
        clear hv3 hk5 HM hm1
        go_upto_if 42 with (first
          | (go_at_call 47; refine (run3_int b s p (p + n0) _ _ (HS.out.below B5) (by omega) (by omega)).mono ?_; rintro e w4 ⟨rfl, b4⟩; rw [HK3.out]; have B6 := B5.trans (b4.mono B5.size))
          | (go_at_call 20; refine (at_int b s p (p + m1) _ _ (HS.out.below B6) (by omega) (by omega)).mono ?_; rintro e w5 ⟨rfl, b5⟩; rw [HV3.out]; have B7 := B6.trans (b5.mono B6.size)))
        go_cut [4, 6] (fun vn vr wx => ∃ (m2 : Nat) (real : Bool), vn = .int .i64 (m2 : Int) ∧ vr = .bool real ∧ m2 ≤ 3000000 ∧ Below w.heap.size w wx ∧ Hid (R = numTail s p m2 real))
        case first =>
          by_cases c1 : v3 = 46
          · subst c1
            by_cases c2 : 0 < k5
            · have HE : Hid (R = numTail s p (m1 + 1 + k5) true) := by show _ = _; rw [HM2.out, if_pos ⟨rfl, c2⟩]
              go_wp2_with (go_at_call 47; refine (run3_int b s p (p + (m1 + 1)) _ _ (HS.out.below B7) (by omega) (by omega)).mono ?_; rintro e w6 ⟨rfl, b6⟩; rw [HK5.out]; have B8 := B7.trans (b6.mono B7.size))
              go_meet
              case rel => exact ⟨m1 + 1 + k5, true, by go_num, rfl, by omega, B8, HE⟩
            · have HE : Hid (R = numTail s p m1 false) := by show _ = _; rw [HM2.out, if_neg (fun x => c2 x.2)]
              obtain rfl : k5 = 0 := by omega
              go_wp2_with (go_at_call 47; refine (run3_int b s p (p + (m1 + 1)) _ _ (HS.out.below B7) (by omega) (by omega)).mono ?_; rintro e w6 ⟨rfl, b6⟩; rw [HK5.out]; have B8 := B7.trans (b6.mono B7.size))
              go_meet
              case rel => exact ⟨m1, false, rfl, rfl, by omega, B8, HE⟩
          · have HE : Hid (R = numTail s p m1 false) := by show _ = _; rw [HM2.out, if_neg (fun x => c1 x.1)]
            have g : ((v3 : Int) == 46) = false := by simp; omega
            go_wp2
            go_meet
            case rel => exact ⟨m1, false, rfl, rfl, by omega, B7, HE⟩
        case rest =>
          obtain ⟨m2, real, rfl, rfl, hm2, B9, HL⟩ := hcut
          clear HM2 HK5 HV3 HK3 B7 B6 B5 hm1i hm1s k5s k3s
          obtain ⟨v4, hv4⟩ : ∃ v, atN s (p + m2) = v := ⟨_, rfl⟩
          obtain ⟨v5, hv5⟩ : ∃ v, atN s (p + (m2 + 1)) = v := ⟨_, rfl⟩
          have HV4 := hide hv4
          have HV5 := hide hv5
          have HL2 : Hid (R = if v4 = 69 ∨ v4 = 101 then (if 0 < runN 3 s (p + (if v5 = 126 then m2 + 2 else m2 + 1)) then ((if v5 = 126 then m2 + 2 else m2 + 1) + runN 3 s (p + (if v5 = 126 then m2 + 2 else m2 + 1)), true) else (m2, real)) else (m2, real)) := by
            show _ = _
            rw [HL.out]
            unfold numTail
            simp only [hv4, hv5]
          clear hv4 hv5 HL
          go_upto_region 15 with fail
          go_cut [4, 6, 62] (fun vn vr vb wx => vn = .int .i64 (m2 : Int) ∧ vr = .bool real ∧ vb = .bool (decide (v4 = 69 ∨ v4 = 101)) ∧ Below w.heap.size w wx)
          case first =>
            by_cases c1 : v4 = 69
            · subst c1
              go_wp2_with (go_at_call 20; refine (at_int b s p (p + m2) _ _ (HS.out.below B9) (by omega) (by omega)).mono ?_; rintro e w2 ⟨rfl, b2⟩; rw [HV4.out]; have B10 := B9.trans (b2.mono B9.size))
              go_meet
              case rel => exact ⟨rfl, rfl, rfl, B10⟩
            · have g1 : ((v4 : Int) == 69) = false := by simp; omega
              by_cases c2 : v4 = 101
              · subst c2
                go_wp2_with (first
                  | (go_at_call 20; refine (at_int b s p (p + m2) _ _ (HS.out.below B9) (by omega) (by omega)).mono ?_; rintro e w2 ⟨rfl, b2⟩; rw [HV4.out]; have B10 := B9.trans (b2.mono B9.size); clear B9)
                  | (go_at_call 20; refine (at_int b s p (p + m2) _ _ (HS.out.below B10) (by omega) (by omega)).mono ?_; rintro e w3 ⟨rfl, b3⟩; rw [HV4.out]; have B11 := B10.trans (b3.mono B10.size)))
                go_meet
                case rel => exact ⟨rfl, rfl, rfl, B11⟩
              · have g2 : ((v4 : Int) == 101) = false := by simp; omega
                have g3 : decide (v4 = 69 ∨ v4 = 101) = false := decide_eq_false (fun x => x.elim c1 c2)
                go_wp2_with (first
                  | (go_at_call 20; refine (at_int b s p (p + m2) _ _ (HS.out.below B9) (by omega) (by omega)).mono ?_; rintro e w2 ⟨rfl, b2⟩; rw [HV4.out]; have B10 := B9.trans (b2.mono B9.size); clear B9)
                  | (go_at_call 20; refine (at_int b s p (p + m2) _ _ (HS.out.below B10) (by omega) (by omega)).mono ?_; rintro e w3 ⟨rfl, b3⟩; rw [HV4.out]; have B11 := B10.trans (b3.mono B10.size)))
                go_meet
                case rel => exact ⟨rfl, rfl, by rw [g3], B11⟩
          case rest =>
            obtain ⟨rfl, rfl, rfl, B12⟩ := hcut
            clear B9 HV4
            go_upto_if 62 with fail
            by_cases c : v4 = 69 ∨ v4 = 101
            · rw [decide_eq_true c]
              by_cases c5 : v5 = 126
              · subst c5
                obtain ⟨k6, hk6⟩ : ∃ k, runN 3 s (p + (m2 + 2)) = k := ⟨_, rfl⟩
                have k6s : k6 ≤ 1048576 := by rw [← hk6]; exact runN_small _ _ _ hsm
                have HL3 : Hid (R = if 0 < k6 then (m2 + 2 + k6, true) else (m2, real)) := by
                  show _ = _
                  rw [HL2.out, if_pos c]
                  simp only [if_true, hk6]
                have HK6 := hide hk6
                clear HL2 hk6 c
                by_cases c6 : 0 < k6
                · have HE : Hid (R = (m2 + 2 + k6, true)) := by show _ = _; rw [HL3.out, if_pos c6]
                  go_wp2_with (first
                    | (go_at_call 20; refine (at_int b s p (p + (m2 + 1)) _ _ (HS.out.below B12) (by omega) (by omega)).mono ?_; rintro e w2 ⟨rfl, b2⟩; rw [HV5.out]; have B13 := B12.trans (b2.mono B12.size))
                    | (go_at_call 47; refine (run3_int b s p (p + (m2 + 2)) _ _ (HS.out.below B13) (by omega) (by omega)).mono ?_; rintro e w6 ⟨rfl, b6⟩; rw [HK6.out]; have B14 := B13.trans (b6.mono B13.size)))
                  go_ret2
                  exact ⟨by rw [HE.out]; go_num, B14⟩
                · have HE : Hid (R = (m2, real)) := by show _ = _; rw [HL3.out, if_neg c6]
                  obtain rfl : k6 = 0 := by omega
                  go_wp2_with (first
                    | (go_at_call 20; refine (at_int b s p (p + (m2 + 1)) _ _ (HS.out.below B12) (by omega) (by omega)).mono ?_; rintro e w2 ⟨rfl, b2⟩; rw [HV5.out]; have B13 := B12.trans (b2.mono B12.size))
                    | (go_at_call 47; refine (run3_int b s p (p + (m2 + 2)) _ _ (HS.out.below B13) (by omega) (by omega)).mono ?_; rintro e w6 ⟨rfl, b6⟩; rw [HK6.out]; have B14 := B13.trans (b6.mono B13.size)))
                  go_ret2
                  exact ⟨by rw [HE.out]; rfl, B14⟩
              · have g5 : ((v5 : Int) == 126) = false := by simp; omega
                obtain ⟨k6, hk6⟩ : ∃ k, runN 3 s (p + (m2 + 1)) = k := ⟨_, rfl⟩
                have k6s : k6 ≤ 1048576 := by rw [← hk6]; exact runN_small _ _ _ hsm
                have HL3 : Hid (R = if 0 < k6 then (m2 + 1 + k6, true) else (m2, real)) := by
                  show _ = _
                  rw [HL2.out, if_pos c]
                  simp only [if_neg c5, hk6]
                have HK6 := hide hk6
                clear HL2 hk6 c
                by_cases c6 : 0 < k6
                · have HE : Hid (R = (m2 + 1 + k6, true)) := by show _ = _; rw [HL3.out, if_pos c6]
                  go_wp2_with (first
                    | (go_at_call 20; refine (at_int b s p (p + (m2 + 1)) _ _ (HS.out.below B12) (by omega) (by omega)).mono ?_; rintro e w2 ⟨rfl, b2⟩; rw [HV5.out]; have B13 := B12.trans (b2.mono B12.size))
                    | (go_at_call 47; refine (run3_int b s p (p + (m2 + 1)) _ _ (HS.out.below B13) (by omega) (by omega)).mono ?_; rintro e w6 ⟨rfl, b6⟩; rw [HK6.out]; have B14 := B13.trans (b6.mono B13.size)))
                  go_ret2
                  exact ⟨by rw [HE.out]; go_num, B14⟩
                · have HE : Hid (R = (m2, real)) := by show _ = _; rw [HL3.out, if_neg c6]
                  obtain rfl : k6 = 0 := by omega
                  go_wp2_with (first
                    | (go_at_call 20; refine (at_int b s p (p + (m2 + 1)) _ _ (HS.out.below B12) (by omega) (by omega)).mono ?_; rintro e w2 ⟨rfl, b2⟩; rw [HV5.out]; have B13 := B12.trans (b2.mono B12.size))
                    | (go_at_call 47; refine (run3_int b s p (p + (m2 + 1)) _ _ (HS.out.below B13) (by omega) (by omega)).mono ?_; rintro e w6 ⟨rfl, b6⟩; rw [HK6.out]; have B14 := B13.trans (b6.mono B13.size)))
                  go_ret2
                  exact ⟨by rw [HE.out]; rfl, B14⟩
            · have HE : Hid (R = (m2, real)) := by show _ = _; rw [HL2.out, if_neg c]
              rw [decide_eq_false c]
              clear HL2
              go_wp2
              go_ret2
              exact ⟨by rw [HE.out]; rfl, B12⟩
end Go.Proofs.YtgcbkjfckmjgeaaGreatDoor
