/- The document's escapes. -/
import Derived.Test.YtgcbkjfckmjgeaaGreatDoorProg
import Derived.Test.YtgcbkjfckmjgeaaGreatDoorLex7
import Derived.Test.YtgcbkjfckmjgeaaGreatDoorLexD9
import Derived.WalkKit
import Derived.ProofKit
import Derived.OpenShut
import Derived.Below
import Derived.WalkLawsBesides
import Derived.OwnWalk
import Derived.BigQuiet
import Derived.WalkSmall
import Derived.Lib.IndexBytes
namespace Go.Proofs.YtgcbkjfckmjgeaaGreatDoor
open Go.ChangeShapes Go.WideShapes Go.ChangeAt Go.RowKit

/-- What the document says of a backslash and what stands behind it: (0, 0): nothing that may be. -/
def escR (l : List UInt8) : Int × Nat := if (escP (l.drop 1)).2 = 0 then (0, 0) else ((escP (l.drop 1)).1, 1 + (escP (l.drop 1)).2)
def escQ (p : Int × Nat) : Int × Nat := if p.2 = 0 then (0, 0) else (p.1, 1 + p.2)
theorem escP_n (c : UInt8) (r : List UInt8) (n : Nat) (hn : c.toNat = n) : escP (c :: r) =
    if n = 97 then (7, 1) else if n = 98 then (8, 1) else if n = 116 then (9, 1) else if n = 110 then (10, 1)
    else if n = 118 then (11, 1) else if n = 102 then (12, 1) else if n = 114 then (13, 1)
    else if n = 34 ∨ n = 92 then ((n : Int), 1)
    else if n = 94 then (match r with
      | [] => (-1, 0)
      | d :: _ => if 64 ≤ d.toNat ∧ d.toNat ≤ 95 then ((d.toNat : Int) - 64, 2) else (-1, 0))
    else if n = 117 then (if numP r 4 16 < 0 then (-1, 0) else (numP r 4 16, 5))
    else if 48 ≤ n ∧ n ≤ 57 then (if numP (c :: r) 3 10 < 0 then (-1, 0) else (numP (c :: r) 3 10, 3))
    else if blankB c then (-1, gapN (c :: r))
    else (-1, 0) := by subst hn; rfl
theorem blank_same (c : UInt8) : blankB c = lblankB c := rfl
theorem hex_worth (c : UInt8) : hexB c = decide (worthN c < 16) := by
  have : ∀ n : Fin 256, hexB (UInt8.ofFin n) = decide (worthN (UInt8.ofFin n) < 16) := by decide +kernel
  exact this c.toFin
theorem digit_worth (c : UInt8) : digitB c = decide (worthN c < 10) := by
  have : ∀ n : Fin 256, digitB (UInt8.ofFin n) = decide (worthN (UInt8.ofFin n) < 10) := by decide +kernel
  exact this c.toFin
theorem fold4 (a b c d : UInt8) : foldN 16 0 [a, b, c, d] = if hexB a && hexB b && hexB c && hexB d then some (((worthN a * 16 + worthN b) * 16 + worthN c) * 16 + worthN d) else none := by
  simp only [foldN, hex_worth, Nat.zero_mul, Nat.zero_add]
  by_cases ha : worthN a < 16
  · by_cases hb : worthN b < 16
    · by_cases hc : worthN c < 16
      · by_cases hd : worthN d < 16
        · simp [ha, hb, hc, hd]
        · simp [ha, hb, hc, hd]
      · simp [ha, hb, hc]
    · simp [ha, hb]
  · simp [ha]
theorem fold3 (a b c : UInt8) : foldN 10 0 [a, b, c] = if digitB a && digitB b && digitB c then some ((worthN a * 10 + worthN b) * 10 + worthN c) else none := by
  simp only [foldN, digit_worth, Nat.zero_mul, Nat.zero_add]
  by_cases ha : worthN a < 10
  · by_cases hb : worthN b < 10
    · by_cases hc : worthN c < 10
      · simp [ha, hb, hc]
      · simp [ha, hb, hc]
    · simp [ha, hb]
  · simp [ha]
/-- How many blanks a text has from a place on. -/
def blanksN (s : ByteArray) (p : Nat) : Nat := ((s.data.toList.drop p).takeWhile blankB).length
theorem blanks_at (s : ByteArray) (p : Nat) (h : p < s.size) : blanksN s p = if blankB (s[p]'h) = true then blanksN s (p + 1) + 1 else 0 := by
  unfold blanksN
  rw [drop_at s p h, List.takeWhile_cons]
  split <;> simp
theorem blanks_end (s : ByteArray) (p : Nat) (h : ¬ p < s.size) : blanksN s p = 0 := by
  unfold blanksN
  rw [drop_end s p h]; rfl
theorem gap_of (s : ByteArray) (p T : Nat) (hT : blanksN s p = T) (h0 : T ≠ 0) (hb : p + T < s.size) (h9 : (s[p + T]'hb).toNat = 92) : gapN (s.data.toList.drop p) = T + 1 := by
  unfold gapN
  unfold blanksN at hT
  rw [hT, if_neg h0, List.drop_drop, drop_at s (p + T) hb]
  have : s[p + T]'hb = 92 := UInt8.toNat_inj.1 h9
  rw [if_pos (by rw [this]; rfl)]
theorem gap_no (s : ByteArray) (p T : Nat) (hT : blanksN s p = T) (h : T = 0 ∨ ¬ p + T < s.size ∨ ∃ hb : p + T < s.size, (s[p + T]'hb).toNat ≠ 92) : gapN (s.data.toList.drop p) = 0 := by
  unfold gapN
  unfold blanksN at hT
  rw [hT]
  rcases h with h | h | ⟨hb, h⟩
  · rw [if_pos h]
  · split
    · rfl
    · rw [List.drop_drop, drop_end s (p + T) h]
      rfl
  · split
    · rfl
    · rw [List.drop_drop, drop_at s (p + T) hb, if_neg]
      intro e
      have e2 : s[p + T]'hb = 92 := by simpa using e
      exact h (by rw [e2]; rfl)
def vx4 (a b c d : UInt8) : Nat := ((worthN a * 16 + worthN b) * 16 + worthN c) * 16 + worthN d
def vx3 (a b c : UInt8) : Nat := (worthN a * 10 + worthN b) * 10 + worthN c
theorem num4 (a b c d : UInt8) (r : List UInt8) : numP (a :: b :: c :: d :: r) 4 16 = if (hexB a && hexB b && hexB c && hexB d) = true then (if 255 < vx4 a b c d then (-1 : Int) else ((vx4 a b c d : Nat) : Int)) else (-1 : Int) := by
  unfold numP
  rw [if_neg (by simp), show (a :: b :: c :: d :: r).take 4 = [a, b, c, d] from rfl, fold4]
  cases (hexB a && hexB b && hexB c && hexB d) <;> rfl
theorem num3 (a b c : UInt8) (r : List UInt8) : numP (a :: b :: c :: r) 3 10 = if (digitB a && digitB b && digitB c) = true then (if 255 < vx3 a b c then (-1 : Int) else ((vx3 a b c : Nat) : Int)) else (-1 : Int) := by
  unfold numP
  rw [if_neg (by simp), show (a :: b :: c :: r).take 3 = [a, b, c] from rfl, fold3]
  cases (digitB a && digitB b && digitB c) <;> rfl
theorem vx4_le {a b c d : UInt8} (ha : hexB a = true) (hb : hexB b = true) (hc : hexB c = true) (hd : hexB d = true) : vx4 a b c d ≤ 65535 := by
  rw [hex_worth] at ha hb hc hd
  have := of_decide_eq_true ha
  have := of_decide_eq_true hb
  have := of_decide_eq_true hc
  have := of_decide_eq_true hd
  unfold vx4
  omega
theorem vx3_le {a b c : UInt8} (ha : digitB a = true) (hb : digitB b = true) (hc : digitB c = true) : vx3 a b c ≤ 999 := by
  rw [digit_worth] at ha hb hc
  have := of_decide_eq_true ha
  have := of_decide_eq_true hb
  have := of_decide_eq_true hc
  unfold vx3
  omega
theorem num_short {l : List UInt8} {n b : Nat} (h : l.length < n) : numP l n b = -1 := by unfold numP; rw [if_pos h]

set_option maxRecDepth 100000 in
set_option maxHeartbeats 64000000 in
theorem resc_any (s : ByteArray) (hs : s.size ≤ 1073741824) (w : World) : Calls Tryz.prog 82 #[.string s] w fun e w' => e = .returned (.tuple #[.int .i64 (escR s.data.toList).1, .int .i64 ((escR s.data.toList).2 : Nat)]) ∧ Below w.heap.size w w' := by
  obtain ⟨R, hR⟩ : ∃ R, escR s.data.toList = R := ⟨_, rfl⟩
  rw [hR]
  by_cases h2 : s.size < 2
  · have HE : Hid (R = (0, 0)) := by
      show _ = _
      rw [← hR]; unfold escR
      rw [drop_end s 1 (by omega)]; rfl
    clear hR
    go_enter Tryz.func82, Tryz.ntmps82
    go_wp2
    go_ret2
    rw [HE.out]
    exact ⟨rfl, Below.refl _ _⟩
  · have h1 : 1 < s.size := by omega
    have hd := drop_at s 1 h1
    obtain ⟨c, hc⟩ : ∃ c, s[1]'h1 = c := ⟨_, rfl⟩
    obtain ⟨n, hn⟩ : ∃ n, c.toNat = n := ⟨_, rfl⟩
    have hcn : (s[1]'h1).toNat = n := by rw [hc, hn]
    have hn2 : n < 256 := by rw [← hn]; exact c.toNat_lt
    rw [hc] at hd
    have HQ : Hid (R = escQ (escP (c :: s.data.toList.drop 2))) := by
      show _ = _
      rw [← hR, ← hd]; rfl
    have HN := hide hn
    have CDG := hide (fun W => rdigit_any c W)
    have CBL := hide (fun W => rblank_any c W)
    rw [hn] at CDG CBL
    rw [escP_n c _ n hn] at HQ
    have HC := hide hc
    have z0 : (ByteArray.mk #[97, 98, 116, 110, 118, 102, 114])[0].toNat = 97 := rfl
    have z1 : (ByteArray.mk #[97, 98, 116, 110, 118, 102, 114])[1].toNat = 98 := rfl
    have z2 : (ByteArray.mk #[97, 98, 116, 110, 118, 102, 114])[2].toNat = 116 := rfl
    have z3 : (ByteArray.mk #[97, 98, 116, 110, 118, 102, 114])[3].toNat = 110 := rfl
    have z4 : (ByteArray.mk #[97, 98, 116, 110, 118, 102, 114])[4].toNat = 118 := rfl
    have z5 : (ByteArray.mk #[97, 98, 116, 110, 118, 102, 114])[5].toNat = 102 := rfl
    have z6 : (ByteArray.mk #[97, 98, 116, 110, 118, 102, 114])[6].toNat = 114 := rfl
    clear hR hd hc hn
    go_enter Tryz.func82, Tryz.ntmps82
    go_wp2
    go_loopw [5] (fun vi wr => ∃ j : Nat, vi = .int .i64 (j : Int) ∧ j ≤ 7 ∧ (0 < j → n ≠ 97) ∧ (1 < j → n ≠ 98) ∧ (2 < j → n ≠ 116) ∧ (3 < j → n ≠ 110) ∧ (4 < j → n ≠ 118) ∧ (5 < j → n ≠ 102) ∧ (6 < j → n ≠ 114) ∧ Below w.heap.size w wr) (fun vi _ => 7 - (intOf vi).toNat)
    case atStart => exact ⟨0, rfl, by decide, by omega, by omega, by omega, by omega, by omega, by omega, by omega, Below.refl _ _⟩
    case round =>
      obtain ⟨j, rfl, hj, p0, p1, p2, p3, p4, p5, p6, bel⟩ := hrel
      have cs : j = 0 ∨ j = 1 ∨ j = 2 ∨ j = 3 ∨ j = 4 ∨ j = 5 ∨ j = 6 ∨ j = 7 := by omega
      rcases cs with rfl | rfl | rfl | rfl | rfl | rfl | rfl | rfl
      · by_cases hx : n = 97
        · subst hx
          have HE : Hid (R = (7, 2)) := HQ.out
          clear HQ CDG CBL p0 p1 p2 p3 p4 p5 p6
          go_wp2
          go_quiet (fail)
          go_wp2
          go_ret2
          rw [HE.out]
          exact ⟨rfl, below_drewN bel _⟩
        · have f : ((n : Int) == 97) = false := by simp; omega
          go_wp2
          go_quiet (fail)
          go_wp2
          go_roundw
          case rel => exact ⟨1, rfl, by decide, by omega, by omega, by omega, by omega, by omega, by omega, by omega, below_drewN bel _⟩
          case measure => simp [intOf]
      · by_cases hx : n = 98
        · subst hx
          have HE : Hid (R = (8, 2)) := HQ.out
          clear HQ CDG CBL p0 p1 p2 p3 p4 p5 p6
          go_wp2
          go_quiet (fail)
          go_wp2
          go_ret2
          rw [HE.out]
          exact ⟨rfl, below_drewN bel _⟩
        · have f : ((n : Int) == 98) = false := by simp; omega
          go_wp2
          go_quiet (fail)
          go_wp2
          go_roundw
          case rel => exact ⟨2, rfl, by decide, by omega, by omega, by omega, by omega, by omega, by omega, by omega, below_drewN bel _⟩
          case measure => simp [intOf]
      · by_cases hx : n = 116
        · subst hx
          have HE : Hid (R = (9, 2)) := HQ.out
          clear HQ CDG CBL p0 p1 p2 p3 p4 p5 p6
          go_wp2
          go_quiet (fail)
          go_wp2
          go_ret2
          rw [HE.out]
          exact ⟨rfl, below_drewN bel _⟩
        · have f : ((n : Int) == 116) = false := by simp; omega
          go_wp2
          go_quiet (fail)
          go_wp2
          go_roundw
          case rel => exact ⟨3, rfl, by decide, by omega, by omega, by omega, by omega, by omega, by omega, by omega, below_drewN bel _⟩
          case measure => simp [intOf]
      · by_cases hx : n = 110
        · subst hx
          have HE : Hid (R = (10, 2)) := HQ.out
          clear HQ CDG CBL p0 p1 p2 p3 p4 p5 p6
          go_wp2
          go_quiet (fail)
          go_wp2
          go_ret2
          rw [HE.out]
          exact ⟨rfl, below_drewN bel _⟩
        · have f : ((n : Int) == 110) = false := by simp; omega
          go_wp2
          go_quiet (fail)
          go_wp2
          go_roundw
          case rel => exact ⟨4, rfl, by decide, by omega, by omega, by omega, by omega, by omega, by omega, by omega, below_drewN bel _⟩
          case measure => simp [intOf]
      · by_cases hx : n = 118
        · subst hx
          have HE : Hid (R = (11, 2)) := HQ.out
          clear HQ CDG CBL p0 p1 p2 p3 p4 p5 p6
          go_wp2
          go_quiet (fail)
          go_wp2
          go_ret2
          rw [HE.out]
          exact ⟨rfl, below_drewN bel _⟩
        · have f : ((n : Int) == 118) = false := by simp; omega
          go_wp2
          go_quiet (fail)
          go_wp2
          go_roundw
          case rel => exact ⟨5, rfl, by decide, by omega, by omega, by omega, by omega, by omega, by omega, by omega, below_drewN bel _⟩
          case measure => simp [intOf]
      · by_cases hx : n = 102
        · subst hx
          have HE : Hid (R = (12, 2)) := HQ.out
          clear HQ CDG CBL p0 p1 p2 p3 p4 p5 p6
          go_wp2
          go_quiet (fail)
          go_wp2
          go_ret2
          rw [HE.out]
          exact ⟨rfl, below_drewN bel _⟩
        · have f : ((n : Int) == 102) = false := by simp; omega
          go_wp2
          go_quiet (fail)
          go_wp2
          go_roundw
          case rel => exact ⟨6, rfl, by decide, by omega, by omega, by omega, by omega, by omega, by omega, by omega, below_drewN bel _⟩
          case measure => simp [intOf]
      · by_cases hx : n = 114
        · subst hx
          have HE : Hid (R = (13, 2)) := HQ.out
          clear HQ CDG CBL p0 p1 p2 p3 p4 p5 p6
          go_wp2
          go_quiet (fail)
          go_wp2
          go_ret2
          rw [HE.out]
          exact ⟨rfl, below_drewN bel _⟩
        · have f : ((n : Int) == 114) = false := by simp; omega
          go_wp2
          go_quiet (fail)
          go_wp2
          go_roundw
          case rel => exact ⟨7, rfl, by decide, by omega, by omega, by omega, by omega, by omega, by omega, by omega, below_drewN bel _⟩
          case measure => simp [intOf]
      · have q0 : n ≠ 97 := p0 (by decide)
        have q1 : n ≠ 98 := p1 (by decide)
        have q2 : n ≠ 116 := p2 (by decide)
        have q3 : n ≠ 110 := p3 (by decide)
        have q4 : n ≠ 118 := p4 (by decide)
        have q5 : n ≠ 102 := p5 (by decide)
        have q6 : n ≠ 114 := p6 (by decide)
        have HQ2 : Hid (R = escQ (if n = 34 ∨ n = 92 then ((n : Int), 1)
          else if n = 94 then (match s.data.toList.drop 2 with
            | [] => (-1, 0)
            | d :: _ => if 64 ≤ d.toNat ∧ d.toNat ≤ 95 then ((d.toNat : Int) - 64, 2) else (-1, 0))
          else if n = 117 then (if numP (s.data.toList.drop 2) 4 16 < 0 then (-1, 0) else (numP (s.data.toList.drop 2) 4 16, 5))
          else if 48 ≤ n ∧ n ≤ 57 then (if numP (c :: s.data.toList.drop 2) 3 10 < 0 then (-1, 0) else (numP (c :: s.data.toList.drop 2) 3 10, 3))
          else if blankB c then (-1, gapN (c :: s.data.toList.drop 2))
          else (-1, 0))) := by
          show _ = _
          rw [HQ.out, if_neg q0, if_neg q1, if_neg q2, if_neg q3, if_neg q4, if_neg q5, if_neg q6]
        clear HQ p0 p1 p2 p3 p4 p5 p6 q0 q1 q2 q3 q4 q5 q6 z0 z1 z2 z3 z4 z5 z6
        by_cases x34 : n = 34
        · subst x34
          have HE : Hid (R = (34, 2)) := HQ2.out
          clear HQ2 CDG CBL
          go_wp2
          go_ret2
          rw [HE.out]
          exact ⟨rfl, bel⟩
        have f34 : ((n : Int) == 34) = false := by simp; omega
        by_cases x92 : n = 92
        · subst x92
          have HE : Hid (R = (92, 2)) := HQ2.out
          clear HQ2 CDG CBL
          go_wp2
          go_ret2
          rw [HE.out]
          exact ⟨rfl, bel⟩
        have f92 : ((n : Int) == 92) = false := by simp; omega
        have HQ3 := hide (HQ2.out.trans (by rw [if_neg (by omega)]))
        clear HQ2
        by_cases x94 : n = 94
        · subst x94
          replace HQ3 : Hid (R = escQ (match s.data.toList.drop 2 with
            | [] => (-1, 0)
            | d :: _ => if 64 ≤ d.toNat ∧ d.toNat ≤ 95 then ((d.toNat : Int) - 64, 2) else (-1, 0))) := HQ3.out
          clear CDG CBL
          by_cases hl : 2 < s.size
          · have hld : decide ((2 : Int) < (s.size : Int)) = true := by simp; omega
            obtain ⟨c2, hc2⟩ : ∃ d, s[2]'(by omega) = d := ⟨_, rfl⟩
            obtain ⟨n2, hn2⟩ : ∃ m, c2.toNat = m := ⟨_, rfl⟩
            have hcn2 : (s[2]'(by omega)).toNat = n2 := by rw [hc2, hn2]
            have hb2 : n2 < 256 := by rw [← hn2]; exact c2.toNat_lt
            have hd2 := drop_at s 2 (by omega)
            rw [hc2] at hd2
            rw [hd2] at HQ3
            simp only [hn2] at HQ3
            by_cases ha : 64 ≤ n2
            · have g1 : decide ((64 : Int) ≤ (n2 : Int)) = true := by simp; omega
              by_cases hb : n2 ≤ 95
              · have g2 : decide ((n2 : Int) ≤ 95) = true := by simp; omega
                have HE : Hid (R = ((n2 : Int) - 64, 3)) := by show _ = _; rw [HQ3.out, if_pos ⟨ha, hb⟩]; rfl
                clear HQ3 hc2 hn2 hd2
                go_wp2
                go_ret2
                rw [HE.out]
                exact ⟨by go_num, bel⟩
              · have g2 : decide ((n2 : Int) ≤ 95) = false := by simp; omega
                have HE : Hid (R = (0, 0)) := by show _ = _; rw [HQ3.out, if_neg (fun g => hb g.2)]; rfl
                clear HQ3 hc2 hn2 hd2
                go_wp2
                go_ret2
                rw [HE.out]
                exact ⟨rfl, bel⟩
            · have g1 : decide ((64 : Int) ≤ (n2 : Int)) = false := by simp; omega
              have HE : Hid (R = (0, 0)) := by show _ = _; rw [HQ3.out, if_neg (fun g => ha g.1)]; rfl
              clear HQ3 hc2 hn2 hd2
              go_wp2
              go_ret2
              rw [HE.out]
              exact ⟨rfl, bel⟩
          · have hld : decide ((2 : Int) < (s.size : Int)) = false := by simp; omega
            have HE : Hid (R = (0, 0)) := by show _ = _; rw [HQ3.out, drop_end s 2 hl]; rfl
            clear HQ3
            go_wp2
            go_ret2
            rw [HE.out]
            exact ⟨rfl, bel⟩
        have f94 : ((n : Int) == 94) = false := by simp; omega
        have HQ4 := hide (HQ3.out.trans (by rw [if_neg x94]))
        clear HQ3
        by_cases x117 : n = 117
        · subst x117
          replace HQ4 : Hid (R = escQ (if numP (s.data.toList.drop 2) 4 16 < 0 then (-1, 0) else (numP (s.data.toList.drop 2) 4 16, 5))) := HQ4.out
          clear CDG CBL
          by_cases hl : 5 < s.size
          · have hld : decide ((5 : Int) < (s.size : Int)) = true := by simp; omega
            obtain ⟨c2, hc2⟩ : ∃ d, s[2]'(by omega) = d := ⟨_, rfl⟩
            obtain ⟨n2, hn2⟩ : ∃ m, c2.toNat = m := ⟨_, rfl⟩
            have hcn2 : (s[2]'(by omega)).toNat = n2 := by rw [hc2, hn2]
            have hb2 : n2 < 256 := by rw [← hn2]; exact c2.toNat_lt
            have hd2 := drop_at s 2 (by omega)
            rw [hc2] at hd2
            obtain ⟨c3, hc3⟩ : ∃ d, s[3]'(by omega) = d := ⟨_, rfl⟩
            obtain ⟨n3, hn3⟩ : ∃ m, c3.toNat = m := ⟨_, rfl⟩
            have hcn3 : (s[3]'(by omega)).toNat = n3 := by rw [hc3, hn3]
            have hb3 : n3 < 256 := by rw [← hn3]; exact c3.toNat_lt
            have hd3 := drop_at s 3 (by omega)
            rw [hc3] at hd3
            obtain ⟨c4, hc4⟩ : ∃ d, s[4]'(by omega) = d := ⟨_, rfl⟩
            obtain ⟨n4, hn4⟩ : ∃ m, c4.toNat = m := ⟨_, rfl⟩
            have hcn4 : (s[4]'(by omega)).toNat = n4 := by rw [hc4, hn4]
            have hb4 : n4 < 256 := by rw [← hn4]; exact c4.toNat_lt
            have hd4 := drop_at s 4 (by omega)
            rw [hc4] at hd4
            obtain ⟨c5, hc5⟩ : ∃ d, s[5]'(by omega) = d := ⟨_, rfl⟩
            obtain ⟨n5, hn5⟩ : ∃ m, c5.toNat = m := ⟨_, rfl⟩
            have hcn5 : (s[5]'(by omega)).toNat = n5 := by rw [hc5, hn5]
            have hb5 : n5 < 256 := by rw [← hn5]; exact c5.toNat_lt
            have hd5 := drop_at s 5 (by omega)
            rw [hc5] at hd5
            rw [hd2, hd3, hd4, hd5, num4] at HQ4
            have CH2 := hide (fun W => rhex_any c2 W)
            have CH3 := hide (fun W => rhex_any c3 W)
            have CH4 := hide (fun W => rhex_any c4 W)
            have CH5 := hide (fun W => rhex_any c5 W)
            rw [hn2] at CH2
            rw [hn3] at CH3
            rw [hn4] at CH4
            rw [hn5] at CH5
            obtain ⟨t4, ht4⟩ : ∃ t, s.extract 2 6 = t := ⟨_, rfl⟩
            have ht4l : t4.data.toList = [c2, c3, c4, c5] := by
              rw [← ht4, show (s.extract 2 6).data.toList = (s.data.toList.drop 2).take 4 by simp [ByteArray.data_extract], hd2, hd3, hd4, hd5]; rfl
            have hl6 : 6 ≤ s.size := by omega
            have hsl : ∀ W, (Instr.slice 9 (.string s) (some (.int .i64 2)) (some (.int .i64 6)) none).run Tryz.prog W = .ok (.string t4) W := fun W => by rw [run_slice_string W _ s .i64 .i64 2 6 Tryz.underlying9 (by decide) (by decide) (by omega), ← ht4]; rfl
            clear ht4
            cases e0 : hexB c2
            · have HE : Hid (R = (0, 0)) := by show _ = _; rw [HQ4.out, e0]; rfl
              rw [e0] at CH2
              clear HQ4 hc2 hn2 hd2 hc3 hn3 hd3 hc4 hn4 hd4 hc5 hn5 hd5 ht4l
              go_wp2_with (first | (go_at_call 72; refine (CH2.out _).mono ?_; rintro e w2 ⟨rfl, h9⟩; replace h9 := h9.symm; subst h9; clear CH2) | (go_at_call 72; refine (CH3.out _).mono ?_; rintro e w2 ⟨rfl, h9⟩; replace h9 := h9.symm; subst h9; clear CH3) | (go_at_call 72; refine (CH4.out _).mono ?_; rintro e w2 ⟨rfl, h9⟩; replace h9 := h9.symm; subst h9; clear CH4) | (go_at_call 72; refine (CH5.out _).mono ?_; rintro e w2 ⟨rfl, h9⟩; replace h9 := h9.symm; subst h9; clear CH5) | (go_at_call 89; refine (CD.out _).mono ?_; rintro e w2 ⟨rfl, h9⟩; replace h9 := h9.symm; subst h9))
              go_ret2
              rw [HE.out]
              exact ⟨rfl, bel⟩
            rw [e0] at CH2
            cases e1 : hexB c3
            · have HE : Hid (R = (0, 0)) := by show _ = _; rw [HQ4.out, e0, e1]; rfl
              rw [e1] at CH3
              clear HQ4 hc2 hn2 hd2 hc3 hn3 hd3 hc4 hn4 hd4 hc5 hn5 hd5 ht4l
              go_wp2_with (first | (go_at_call 72; refine (CH2.out _).mono ?_; rintro e w2 ⟨rfl, h9⟩; replace h9 := h9.symm; subst h9; clear CH2) | (go_at_call 72; refine (CH3.out _).mono ?_; rintro e w2 ⟨rfl, h9⟩; replace h9 := h9.symm; subst h9; clear CH3) | (go_at_call 72; refine (CH4.out _).mono ?_; rintro e w2 ⟨rfl, h9⟩; replace h9 := h9.symm; subst h9; clear CH4) | (go_at_call 72; refine (CH5.out _).mono ?_; rintro e w2 ⟨rfl, h9⟩; replace h9 := h9.symm; subst h9; clear CH5) | (go_at_call 89; refine (CD.out _).mono ?_; rintro e w2 ⟨rfl, h9⟩; replace h9 := h9.symm; subst h9))
              go_ret2
              rw [HE.out]
              exact ⟨rfl, bel⟩
            rw [e1] at CH3
            cases e2 : hexB c4
            · have HE : Hid (R = (0, 0)) := by show _ = _; rw [HQ4.out, e0, e1, e2]; rfl
              rw [e2] at CH4
              clear HQ4 hc2 hn2 hd2 hc3 hn3 hd3 hc4 hn4 hd4 hc5 hn5 hd5 ht4l
              go_wp2_with (first | (go_at_call 72; refine (CH2.out _).mono ?_; rintro e w2 ⟨rfl, h9⟩; replace h9 := h9.symm; subst h9; clear CH2) | (go_at_call 72; refine (CH3.out _).mono ?_; rintro e w2 ⟨rfl, h9⟩; replace h9 := h9.symm; subst h9; clear CH3) | (go_at_call 72; refine (CH4.out _).mono ?_; rintro e w2 ⟨rfl, h9⟩; replace h9 := h9.symm; subst h9; clear CH4) | (go_at_call 72; refine (CH5.out _).mono ?_; rintro e w2 ⟨rfl, h9⟩; replace h9 := h9.symm; subst h9; clear CH5) | (go_at_call 89; refine (CD.out _).mono ?_; rintro e w2 ⟨rfl, h9⟩; replace h9 := h9.symm; subst h9))
              go_ret2
              rw [HE.out]
              exact ⟨rfl, bel⟩
            rw [e2] at CH4
            cases e3 : hexB c5
            · have HE : Hid (R = (0, 0)) := by show _ = _; rw [HQ4.out, e0, e1, e2, e3]; rfl
              rw [e3] at CH5
              clear HQ4 hc2 hn2 hd2 hc3 hn3 hd3 hc4 hn4 hd4 hc5 hn5 hd5 ht4l
              go_wp2_with (first | (go_at_call 72; refine (CH2.out _).mono ?_; rintro e w2 ⟨rfl, h9⟩; replace h9 := h9.symm; subst h9; clear CH2) | (go_at_call 72; refine (CH3.out _).mono ?_; rintro e w2 ⟨rfl, h9⟩; replace h9 := h9.symm; subst h9; clear CH3) | (go_at_call 72; refine (CH4.out _).mono ?_; rintro e w2 ⟨rfl, h9⟩; replace h9 := h9.symm; subst h9; clear CH4) | (go_at_call 72; refine (CH5.out _).mono ?_; rintro e w2 ⟨rfl, h9⟩; replace h9 := h9.symm; subst h9; clear CH5) | (go_at_call 89; refine (CD.out _).mono ?_; rintro e w2 ⟨rfl, h9⟩; replace h9 := h9.symm; subst h9))
              go_ret2
              rw [HE.out]
              exact ⟨rfl, bel⟩
            rw [e3] at CH5
            have hv := vx4_le e0 e1 e2 e3
            have CD : Hid (∀ W, Calls Tryz.prog 89 #[.string t4, .int .i64 16] W fun e w' => e = .returned (.int .i64 ((vx4 c2 c3 c4 c5 : Nat) : Int)) ∧ w' = W) := hide (fun W => digits_any t4 16 (vx4 c2 c3 c4 c5) W (by decide) (by have := size_list t4; rw [ht4l] at this; simp at this; omega) (by rw [ht4l, fold4, e0, e1, e2, e3]; rfl))
            have HQ5 := hide (HQ4.out.trans (by rw [e0, e1, e2, e3, if_pos (show (true && true && true && true) = true from rfl)]))
            generalize vx4 c2 c3 c4 c5 = v at hv CD HQ5
            by_cases hv2 : v < 256
            · have g : decide ((v : Int) < 256) = true := by simp; omega
              have HE : Hid (R = ((v : Int), 6)) := by show _ = _; rw [HQ5.out, if_neg (by omega), if_neg (by omega)]; rfl
              clear HQ4 HQ5 hc2 hn2 hd2 hc3 hn3 hd3 hc4 hn4 hd4 hc5 hn5 hd5 ht4l
              go_wp2_with (first | (go_at_call 72; refine (CH2.out _).mono ?_; rintro e w2 ⟨rfl, h9⟩; replace h9 := h9.symm; subst h9; clear CH2) | (go_at_call 72; refine (CH3.out _).mono ?_; rintro e w2 ⟨rfl, h9⟩; replace h9 := h9.symm; subst h9; clear CH3) | (go_at_call 72; refine (CH4.out _).mono ?_; rintro e w2 ⟨rfl, h9⟩; replace h9 := h9.symm; subst h9; clear CH4) | (go_at_call 72; refine (CH5.out _).mono ?_; rintro e w2 ⟨rfl, h9⟩; replace h9 := h9.symm; subst h9; clear CH5) | (go_at_call 89; refine (CD.out _).mono ?_; rintro e w2 ⟨rfl, h9⟩; replace h9 := h9.symm; subst h9))
              go_ret2
              rw [HE.out]
              exact ⟨rfl, bel⟩
            · have g : decide ((v : Int) < 256) = false := by simp; omega
              have HE : Hid (R = (0, 0)) := by show _ = _; rw [HQ5.out, if_pos (show 255 < v by omega)]; rfl
              clear HQ4 HQ5 hc2 hn2 hd2 hc3 hn3 hd3 hc4 hn4 hd4 hc5 hn5 hd5 ht4l
              go_wp2_with (first | (go_at_call 72; refine (CH2.out _).mono ?_; rintro e w2 ⟨rfl, h9⟩; replace h9 := h9.symm; subst h9; clear CH2) | (go_at_call 72; refine (CH3.out _).mono ?_; rintro e w2 ⟨rfl, h9⟩; replace h9 := h9.symm; subst h9; clear CH3) | (go_at_call 72; refine (CH4.out _).mono ?_; rintro e w2 ⟨rfl, h9⟩; replace h9 := h9.symm; subst h9; clear CH4) | (go_at_call 72; refine (CH5.out _).mono ?_; rintro e w2 ⟨rfl, h9⟩; replace h9 := h9.symm; subst h9; clear CH5) | (go_at_call 89; refine (CD.out _).mono ?_; rintro e w2 ⟨rfl, h9⟩; replace h9 := h9.symm; subst h9))
              go_ret2
              rw [HE.out]
              exact ⟨rfl, bel⟩
          · have hld : decide ((5 : Int) < (s.size : Int)) = false := by simp; omega
            have HE : Hid (R = (0, 0)) := by show _ = _; rw [HQ4.out, num_short (by rw [List.length_drop, size_list]; omega), if_pos (by decide)]; rfl
            clear HQ4
            go_wp2
            go_ret2
            rw [HE.out]
            exact ⟨rfl, bel⟩
        have f117 : ((n : Int) == 117) = false := by simp; omega
        have HQ5 := hide (HQ4.out.trans (by rw [if_neg x117]))
        clear HQ4
        by_cases xd : 48 ≤ n ∧ n ≤ 57
        · have hdg : digitB c = true := by unfold digitB; rw [HN.out, decide_eq_true xd.1, decide_eq_true xd.2]; rfl
          rw [hdg] at CDG
          have HQ6 := hide (HQ5.out.trans (by rw [if_pos xd]))
          clear HQ5 CBL
          by_cases hl : 3 < s.size
          · have hld : decide ((3 : Int) < (s.size : Int)) = true := by simp; omega
            obtain ⟨c2, hc2⟩ : ∃ d, s[2]'(by omega) = d := ⟨_, rfl⟩
            obtain ⟨n2, hn2⟩ : ∃ m, c2.toNat = m := ⟨_, rfl⟩
            have hcn2 : (s[2]'(by omega)).toNat = n2 := by rw [hc2, hn2]
            have hb2 : n2 < 256 := by rw [← hn2]; exact c2.toNat_lt
            have hd2 := drop_at s 2 (by omega)
            rw [hc2] at hd2
            obtain ⟨c3, hc3⟩ : ∃ d, s[3]'(by omega) = d := ⟨_, rfl⟩
            obtain ⟨n3, hn3⟩ : ∃ m, c3.toNat = m := ⟨_, rfl⟩
            have hcn3 : (s[3]'(by omega)).toNat = n3 := by rw [hc3, hn3]
            have hb3 : n3 < 256 := by rw [← hn3]; exact c3.toNat_lt
            have hd3 := drop_at s 3 (by omega)
            rw [hc3] at hd3
            rw [hd2, hd3, num3, hdg] at HQ6
            have CG2 := hide (fun W => rdigit_any c2 W)
            have CG3 := hide (fun W => rdigit_any c3 W)
            rw [hn2] at CG2
            rw [hn3] at CG3
            obtain ⟨t3, ht3⟩ : ∃ t, s.extract 1 4 = t := ⟨_, rfl⟩
            have ht3l : t3.data.toList = [c, c2, c3] := by
              have hd1 := drop_at s 1 h1
              rw [HC.out] at hd1
              rw [← ht3, show (s.extract 1 4).data.toList = (s.data.toList.drop 1).take 3 by simp [ByteArray.data_extract], hd1, hd2, hd3]; rfl
            have hl4 : 4 ≤ s.size := by omega
            have hsl : ∀ W, (Instr.slice 9 (.string s) (some (.int .i64 1)) (some (.int .i64 4)) none).run Tryz.prog W = .ok (.string t3) W := fun W => by rw [run_slice_string W _ s .i64 .i64 1 4 Tryz.underlying9 (by decide) (by decide) (by omega), ← ht3]; rfl
            clear ht3
            cases e0 : digitB c2
            · have HE : Hid (R = (0, 0)) := by show _ = _; rw [HQ6.out, e0]; rfl
              rw [e0] at CG2
              clear HQ6 hc2 hn2 hd2 hc3 hn3 hd3 ht3l
              go_wp2_with (first | (go_at_call 45; refine (CDG.out _).mono ?_; rintro e w2 ⟨rfl, h9⟩; replace h9 := h9.symm; subst h9; clear CDG) | (go_at_call 45; refine (CG2.out _).mono ?_; rintro e w2 ⟨rfl, h9⟩; replace h9 := h9.symm; subst h9; clear CG2) | (go_at_call 45; refine (CG3.out _).mono ?_; rintro e w2 ⟨rfl, h9⟩; replace h9 := h9.symm; subst h9; clear CG3) | (go_at_call 89; refine (CD.out _).mono ?_; rintro e w2 ⟨rfl, h9⟩; replace h9 := h9.symm; subst h9) | (go_at_call 19; refine (CBL.out _).mono ?_; rintro e w2 ⟨rfl, h9⟩; replace h9 := h9.symm; subst h9; clear CBL))
              go_ret2
              rw [HE.out]
              exact ⟨rfl, bel⟩
            rw [e0] at CG2
            cases e1 : digitB c3
            · have HE : Hid (R = (0, 0)) := by show _ = _; rw [HQ6.out, e0, e1]; rfl
              rw [e1] at CG3
              clear HQ6 hc2 hn2 hd2 hc3 hn3 hd3 ht3l
              go_wp2_with (first | (go_at_call 45; refine (CDG.out _).mono ?_; rintro e w2 ⟨rfl, h9⟩; replace h9 := h9.symm; subst h9; clear CDG) | (go_at_call 45; refine (CG2.out _).mono ?_; rintro e w2 ⟨rfl, h9⟩; replace h9 := h9.symm; subst h9; clear CG2) | (go_at_call 45; refine (CG3.out _).mono ?_; rintro e w2 ⟨rfl, h9⟩; replace h9 := h9.symm; subst h9; clear CG3) | (go_at_call 89; refine (CD.out _).mono ?_; rintro e w2 ⟨rfl, h9⟩; replace h9 := h9.symm; subst h9) | (go_at_call 19; refine (CBL.out _).mono ?_; rintro e w2 ⟨rfl, h9⟩; replace h9 := h9.symm; subst h9; clear CBL))
              go_ret2
              rw [HE.out]
              exact ⟨rfl, bel⟩
            rw [e1] at CG3
            have hv := vx3_le hdg e0 e1
            have CD : Hid (∀ W, Calls Tryz.prog 89 #[.string t3, .int .i64 10] W fun e w' => e = .returned (.int .i64 ((vx3 c c2 c3 : Nat) : Int)) ∧ w' = W) := hide (fun W => digits_any t3 10 (vx3 c c2 c3) W (by decide) (by have := size_list t3; rw [ht3l] at this; simp at this; omega) (by rw [ht3l, fold3, hdg, e0, e1]; rfl))
            have HQ7 := hide (HQ6.out.trans (by rw [e0, e1, if_pos (show (true && true && true) = true from rfl)]))
            generalize vx3 c c2 c3 = v at hv CD HQ7
            by_cases hv2 : v < 256
            · have g : decide ((v : Int) < 256) = true := by simp; omega
              have HE : Hid (R = ((v : Int), 4)) := by show _ = _; rw [HQ7.out, if_neg (by omega), if_neg (by omega)]; rfl
              clear HQ6 HQ7 hc2 hn2 hd2 hc3 hn3 hd3 ht3l
              go_wp2_with (first | (go_at_call 45; refine (CDG.out _).mono ?_; rintro e w2 ⟨rfl, h9⟩; replace h9 := h9.symm; subst h9; clear CDG) | (go_at_call 45; refine (CG2.out _).mono ?_; rintro e w2 ⟨rfl, h9⟩; replace h9 := h9.symm; subst h9; clear CG2) | (go_at_call 45; refine (CG3.out _).mono ?_; rintro e w2 ⟨rfl, h9⟩; replace h9 := h9.symm; subst h9; clear CG3) | (go_at_call 89; refine (CD.out _).mono ?_; rintro e w2 ⟨rfl, h9⟩; replace h9 := h9.symm; subst h9) | (go_at_call 19; refine (CBL.out _).mono ?_; rintro e w2 ⟨rfl, h9⟩; replace h9 := h9.symm; subst h9; clear CBL))
              go_ret2
              rw [HE.out]
              exact ⟨rfl, bel⟩
            · have g : decide ((v : Int) < 256) = false := by simp; omega
              have HE : Hid (R = (0, 0)) := by show _ = _; rw [HQ7.out, if_pos (show 255 < v by omega)]; rfl
              clear HQ6 HQ7 hc2 hn2 hd2 hc3 hn3 hd3 ht3l
              go_wp2_with (first | (go_at_call 45; refine (CDG.out _).mono ?_; rintro e w2 ⟨rfl, h9⟩; replace h9 := h9.symm; subst h9; clear CDG) | (go_at_call 45; refine (CG2.out _).mono ?_; rintro e w2 ⟨rfl, h9⟩; replace h9 := h9.symm; subst h9; clear CG2) | (go_at_call 45; refine (CG3.out _).mono ?_; rintro e w2 ⟨rfl, h9⟩; replace h9 := h9.symm; subst h9; clear CG3) | (go_at_call 89; refine (CD.out _).mono ?_; rintro e w2 ⟨rfl, h9⟩; replace h9 := h9.symm; subst h9) | (go_at_call 19; refine (CBL.out _).mono ?_; rintro e w2 ⟨rfl, h9⟩; replace h9 := h9.symm; subst h9; clear CBL))
              go_ret2
              rw [HE.out]
              exact ⟨rfl, bel⟩
          · have hld : decide ((3 : Int) < (s.size : Int)) = false := by simp; omega
            have HE : Hid (R = (0, 0)) := by show _ = _; rw [HQ6.out, num_short (by rw [List.length_cons, List.length_drop, size_list]; omega), if_pos (by decide)]; rfl
            clear HQ6
            go_wp2_with (first | (go_at_call 45; refine (CDG.out _).mono ?_; rintro e w2 ⟨rfl, h9⟩; replace h9 := h9.symm; subst h9; clear CDG) | (go_at_call 45; refine (CG2.out _).mono ?_; rintro e w2 ⟨rfl, h9⟩; replace h9 := h9.symm; subst h9; clear CG2) | (go_at_call 45; refine (CG3.out _).mono ?_; rintro e w2 ⟨rfl, h9⟩; replace h9 := h9.symm; subst h9; clear CG3) | (go_at_call 89; refine (CD.out _).mono ?_; rintro e w2 ⟨rfl, h9⟩; replace h9 := h9.symm; subst h9) | (go_at_call 19; refine (CBL.out _).mono ?_; rintro e w2 ⟨rfl, h9⟩; replace h9 := h9.symm; subst h9; clear CBL))
            go_ret2
            rw [HE.out]
            exact ⟨rfl, bel⟩
        have hdg : digitB c = false := by
          unfold digitB; rw [HN.out]
          by_cases g1 : 48 ≤ n
          · rw [decide_eq_false (show ¬ n ≤ 57 by omega)]; simp
          · rw [decide_eq_false g1]; simp
        rw [hdg] at CDG
        have HQ6 := hide (HQ5.out.trans (by rw [if_neg xd]))
        clear HQ5
        cases eb : blankB c
        · have HE : Hid (R = (0, 0)) := by show _ = _; rw [HQ6.out, eb]; rfl
          rw [← blank_same, eb] at CBL
          clear HQ6
          go_wp2_with (first | (go_at_call 45; refine (CDG.out _).mono ?_; rintro e w2 ⟨rfl, h9⟩; replace h9 := h9.symm; subst h9; clear CDG) | (go_at_call 45; refine (CG2.out _).mono ?_; rintro e w2 ⟨rfl, h9⟩; replace h9 := h9.symm; subst h9; clear CG2) | (go_at_call 45; refine (CG3.out _).mono ?_; rintro e w2 ⟨rfl, h9⟩; replace h9 := h9.symm; subst h9; clear CG3) | (go_at_call 89; refine (CD.out _).mono ?_; rintro e w2 ⟨rfl, h9⟩; replace h9 := h9.symm; subst h9) | (go_at_call 19; refine (CBL.out _).mono ?_; rintro e w2 ⟨rfl, h9⟩; replace h9 := h9.symm; subst h9; clear CBL))
          go_ret2
          rw [HE.out]
          exact ⟨rfl, bel⟩
        · rw [← blank_same, eb] at CBL
          obtain ⟨T, hT⟩ : ∃ T, blanksN s 1 = T := ⟨_, rfl⟩
          have hd1 := drop_at s 1 h1
          rw [HC.out] at hd1
          have hT0 : 0 < T := by
            have hb1 := blanks_at s 1 h1
            rw [if_pos (by rw [HC.out]; exact eb)] at hb1
            omega
          obtain ⟨k, hk⟩ : ∃ k, gapN (s.data.toList.drop 1) = k := ⟨_, rfl⟩
          have HG := hide hk
          have HQ7 : Hid (R = escQ (-1, k)) := by show _ = _; rw [HQ6.out, if_pos eb, ← hk, hd1]
          have HT := hide hT
          clear HQ6 hT hd1 hk eb
          go_wp2_with (first | (go_at_call 45; refine (CDG.out _).mono ?_; rintro e w2 ⟨rfl, h9⟩; replace h9 := h9.symm; subst h9; clear CDG) | (go_at_call 19; refine (CBL.out _).mono ?_; rintro e w2 ⟨rfl, h9⟩; replace h9 := h9.symm; subst h9; clear CBL))
          go_loop [6] (fun vi => ∃ q : Nat, vi = .int .i64 (q : Int) ∧ 0 < q ∧ q ≤ s.size ∧ Hid (1 + T = q + blanksN s q)) (fun vi => s.size - (intOf vi).toNat)
          case atStart => exact ⟨1, rfl, by decide, by omega, by show _ = _; rw [HT.out]⟩
          case round =>
            obtain ⟨q, rfl, hq0, hqs, HI⟩ := hrel
            by_cases h3 : q < s.size
            · have hbl := blanks_at s q h3
              have CB := hide (fun W => rblank_any (s[q]'h3) W)
              rw [← blank_same] at CB
              by_cases hb : blankB (s[q]'h3) = true
              · rw [if_pos hb] at hbl
                rw [hb] at CB
                have HI2 : Hid (1 + T = (q + 1) + blanksN s (q + 1)) := by show _ = _; have := HI.out; omega
                clear hbl hb HI
                go_wp2_with (go_at_call 19; refine (CB.out _).mono ?_; rintro e w0 ⟨rfl, h0⟩; replace h0 := h0.symm; subst h0)
                go_round
                case rel => exact ⟨q + 1, by go_num, by omega, by omega, HI2⟩
                case measure => simp [intOf]; omega
              · rw [if_neg hb] at hbl
                have hb' : blankB (s[q]'h3) = false := by simpa using hb
                rw [hb'] at CB
                have hTq : 1 + T = q := by have := HI.out; omega
                clear hbl hb hb' HI
                by_cases h92 : (s[q]'h3).toNat = 92
                · have HE : Hid (R = (-1, q + 1)) := by
                    have h4 : k = T + 1 := by
                      rw [← HG.out]
                      exact gap_of s 1 T HT.out (by omega) (by omega) (by rw [show (s[1 + T]'(by omega)) = s[q]'h3 by congr 1]; exact h92)
                    show _ = _
                    rw [HQ7.out, h4]
                    unfold escQ
                    rw [if_neg (by simp)]
                    congr 1
                    omega
                  rw [h92] at CB
                  clear HQ7 HG HT hTq
                  go_wp2_with (go_at_call 19; refine (CB.out _).mono ?_; rintro e w0 ⟨rfl, h0⟩; replace h0 := h0.symm; subst h0)
                  go_ret2
                  rw [HE.out]
                  exact ⟨by go_num, bel⟩
                · have HE : Hid (R = (0, 0)) := by
                    have h4 : k = 0 := by
                      rw [← HG.out]
                      exact gap_no s 1 T HT.out (.inr (.inr ⟨by omega, by rw [show (s[1 + T]'(by omega)) = s[q]'h3 by congr 1]; exact h92⟩))
                    show _ = _
                    rw [HQ7.out, h4]
                    rfl
                  have g92 : (((s[q]'h3).toNat : Int) == 92) = false := by simp; omega
                  clear HQ7 HG HT hTq
                  go_wp2_with (go_at_call 19; refine (CB.out _).mono ?_; rintro e w0 ⟨rfl, h0⟩; replace h0 := h0.symm; subst h0)
                  go_ret2
                  rw [HE.out]
                  exact ⟨rfl, bel⟩
            · have HE : Hid (R = (0, 0)) := by
                have hbl := blanks_end s q h3
                have h4 : k = 0 := by
                  rw [← HG.out]
                  exact gap_no s 1 T HT.out (.inr (.inl (by have := HI.out; omega)))
                show _ = _
                rw [HQ7.out, h4]
                rfl
              obtain rfl : q = s.size := by omega
              clear HQ7 HG HT HI
              go_wp2
              go_ret2
              rw [HE.out]
              exact ⟨rfl, bel⟩
end Go.Proofs.YtgcbkjfckmjgeaaGreatDoor
