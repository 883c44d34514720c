/- What package str's Read answers, for every text. -/
import Derived.Test.YtgjcbgconkiedabDoorProg
import Derived.Test.YtgjcbgconkiedabDoorShelf
import Derived.Test.YtgjcbgconkiedabDoorStr7
import Derived.Test.YtgjcbgconkiedabDoorStr9
import Derived.Test.YtgjcbgconkiedabDoorStr13
import Derived.WalkKit
import Derived.ProofKit
import Derived.OpenShut
import Derived.Below
import Derived.WalkLawsBesides
import Derived.OwnWalk
import Derived.Laws.IdiomStrings
import Derived.Laws.OwnMore
import Derived.Lib.IndexBytes
namespace Go.Proofs.YtgjcbgconkiedabDoor
open Go.ChangeShapes Go.WideShapes Go.ChangeAt Go.RowKit

/-- One byte more behind a row. -/
theorem own_snoc {B : Nat} {v : Value} {l : List UInt8} {w : World} {L : Nat} {c : UInt8} {x : Value} (e : l.length = L) (hx : x = .int .u8 (c.toNat : Int)) (h : w.ownsRow B 5 1 v (L + 1) (Lib.byteCells l ++ [x])) : Own B v (l ++ [c]) w := by
  subst hx
  unfold Own
  rw [byteCells_snoc, List.length_append, e]
  exact h
theorem own_row {B : Nat} {v : Value} {l : List UInt8} {w : World} {L : Nat} (h : Own B v l w) (e : l.length = L) : w.ownsRow B 5 1 v L (Lib.byteCells l) := by rw [← e]; exact h
theorem escP_bd (l : List UInt8) : (escP l).1 ≤ 255 ∧ -1 ≤ (escP l).1 := by
  have np : ∀ l n b, -1 ≤ numP l n b ∧ numP l n b ≤ 255 := by
    intro l n b
    unfold numP
    split
    · omega
    · split
      · omega
      · split <;> omega
  cases l with
  | nil => exact ⟨by decide, by decide⟩
  | cons c r =>
    have hc := c.toNat_lt
    have h1 := np r 4 16
    have h2 := np (c :: r) 3 10
    simp only [escP]
    by_cases k0 : c.toNat = 97 ∨ c.toNat = 98 ∨ c.toNat = 116 ∨ c.toNat = 110 ∨ c.toNat = 118 ∨ c.toNat = 102 ∨ c.toNat = 114
    · rcases k0 with h | h | h | h | h | h | h <;> simp [h]
    · simp only [not_or] at k0
      obtain ⟨a1, a2, a3, a4, a5, a6, a7⟩ := k0
      simp only [a1, a2, a3, a4, a5, a6, a7, if_false]
      split
      · constructor <;> (simp only []; omega)
      · split
        · cases r with
          | nil => exact ⟨by decide, by decide⟩
          | cons d u => simp only []; split <;> (constructor <;> (simp only []; omega))
        · split
          · split <;> (constructor <;> (simp only []; omega))
          · split
            · split <;> (constructor <;> (simp only []; omega))
            · split <;> (constructor <;> (simp only []; omega))

set_option maxRecDepth 100000 in
set_option maxHeartbeats 4000000 in
theorem readOne_any (B : Nat) (v : Value) (l : List UInt8) (s : ByteArray) (w : World) (R : Rdy w) (hv : Own B v l w) (hl : l.length ≤ 100000) (hB : B ≤ w.heap.size) (hs : s.size ≤ maxLen) (h0 : 0 < s.size) :
    Calls Tryd.prog 6 #[v, .string s] w fun e w' => ∃ v', e = .returned (.tuple #[v', .int .i64 ((stepN s.data.toList : Nat) : Int)]) ∧ Own B v' (l ++ stepO s.data.toList) w' ∧ Below B w w' := by
  obtain ⟨i0, hi, hz0, hz1, hz2⟩ := info_parts infoByte
  have HSZ := hide hs
  unfold maxLen at hs
  have hd : s.data.toList = s[0] :: s.data.toList.drop 1 := by have := drop_at s 0 h0; simpa using this
  obtain ⟨sN, hN⟩ : ∃ n, stepN s.data.toList = n := ⟨_, rfl⟩
  obtain ⟨sO, hO⟩ : ∃ o, stepO s.data.toList = o := ⟨_, rfl⟩
  rw [hN, hO]
  rw [hd] at hN hO
  obtain ⟨c, hc⟩ : ∃ c, s[0]'h0 = c := ⟨_, rfl⟩
  have hcn : (s[0]'h0).toNat = c.toNat := by rw [hc]
  rw [hc] at hN hO
  obtain ⟨L, eL⟩ : ∃ L, l.length = L := ⟨_, rfl⟩
  have EL := hide eL
  have HW : Hid (w.ownsRow B 5 1 v L (Lib.byteCells l)) := by rw [← eL]; exact hv
  have HO := hide hv
  have hL : L ≤ 100000 := by omega
  have CP := hide (fun W => plain_any c W)
  clear hv eL hl hc
  by_cases hp : plainB c = true
  · simp only [stepN] at hN
    simp only [stepO] at hO
    rw [if_pos hp] at hN hO
    subst hN hO
    rw [hp] at CP
    clear hd hp
    go_enter Tryd.func6, Tryd.ntmps6
    go_wp2_with (first | (go_at_call 8; refine (CP.out _).mono ?_; rintro e w1 ⟨rfl, hw⟩; replace hw := hw.symm; subst hw) | (at_builtin; refine wpList_append_own _ rfl _ _ 27 rfl B 5 i0 (.int .u8 0) 1 1 Tryd.underlying27 hi hz0 hz1 hz2 rfl (by decide) _ _ _ rfl (HW.out.alloc _) ⟨_, 0, none⟩ 1 1 [.int .u8 (c.toNat : Int)] rfl rfl (cells_new _ _ _) (by simp [Value.oneCell']) (by unfold maxLen; omega) (by omega) (by simp; omega) ?_; intro v1 w1 o1 g1 _; have H1 := hide o1; clear o1))
    go_ret2
    exact ⟨_, rfl, own_snoc EL.out rfl H1.out, ((Below.refl B _).alloc hB _).grown g1 (by simp; omega) (fun j hj => (HW.out.lt j hj).1)⟩
  · have hp' : plainB c = false := by simpa using hp
    simp only [stepN] at hN
    simp only [stepO] at hO
    rw [if_neg hp] at hN hO
    rw [hp'] at CP
    by_cases h92 : c.toNat = 92
    · rw [if_pos h92] at hN hO
      rw [h92] at hcn CP
      obtain ⟨u, hu⟩ : ∃ u, s.extract 1 s.size = u := ⟨_, rfl⟩
      have hul : s.data.toList.drop 1 = u.data.toList := by rw [← hu, Lib.extract_to_end]
      have HUZ : Hid (u.size ≤ maxLen) := by show _ ≤ _; unfold maxLen; rw [← hu]; simp; omega
      rw [hul] at hN hO
      obtain ⟨x, k, hxk⟩ : ∃ x k, escP u.data.toList = (x, k) := ⟨_, _, rfl⟩
      have hbd := escP_bd u.data.toList
      have hkl := escP_le u.data.toList
      rw [hxk] at hN hO hbd hkl
      simp only at hN hO hbd hkl
      have hkz : k + 1 ≤ s.size := by
        rw [← Lib.size_eq] at hkl
        have : u.size + 1 = s.size := by rw [← hu]; simp; omega
        omega
      have CE := hide (fun (W : World) (RR : Rdy W) => escape_one u W RR x k hxk HUZ.out)
      clear hxk hul hkl hd hp hp'
      by_cases hk0 : k = 0
      · rw [if_pos hk0] at hN hO
        subst hN hO hk0
        rw [List.append_nil]
        go_enter Tryd.func6, Tryd.ntmps6
        go_wp2_with (first | (go_at_call 8; refine (CP.out _).mono ?_; rintro e w1 ⟨rfl, hw⟩; replace hw := hw.symm; subst hw) | (go_at_call 9; refine (CE.out _ R).mono ?_; rintro e w1 ⟨rfl, b1⟩))
        go_ret2
        exact ⟨_, rfl, own_below HO.out b1, b1.mono hB⟩
      · rw [if_neg hk0] at hN hO
        have gk : ((k : Int) == 0) = false := by simp; omega
        by_cases hx0 : x < 0
        · rw [if_pos hx0] at hO
          obtain rfl : x = -1 := by omega
          subst hN hO
          rw [List.append_nil]
          have hgo : (1 : Int) + (k : Int) = ((1 + k : Nat) : Int) := by omega
          obtain ⟨f, hf⟩ : ∃ f, 1 + k = f := ⟨_, rfl⟩
          rw [hf] at hgo ⊢
          have hf2 : f ≤ 9223372036854775807 := by omega
          clear hf hk0
          go_enter Tryd.func6, Tryd.ntmps6
          go_wp2_with (first | (go_at_call 8; refine (CP.out _).mono ?_; rintro e w1 ⟨rfl, hw⟩; replace hw := hw.symm; subst hw) | (go_at_call 9; refine (CE.out _ R).mono ?_; rintro e w1 ⟨rfl, b1⟩))
          go_ret2
          exact ⟨_, rfl, own_below HO.out b1, b1.mono hB⟩
        · rw [if_neg hx0] at hO
          have gx : (x == -1) = false := by simp; omega
          subst hN hO
          have hgo : (1 : Int) + (k : Int) = ((1 + k : Nat) : Int) := by omega
          obtain ⟨f, hf⟩ : ∃ f, 1 + k = f := ⟨_, rfl⟩
          rw [hf] at hgo ⊢
          have hf2 : f ≤ 9223372036854775807 := by omega
          have hx1 : 0 ≤ x := by omega
          have hx2 : x ≤ 255 := hbd.1
          have HB := hide hB
          clear hf hk0 hx0 hbd
          go_enter Tryd.func6, Tryd.ntmps6
          go_wp2_with (first | (go_at_call 8; refine (CP.out _).mono ?_; rintro e w1 ⟨rfl, hw⟩; replace hw := hw.symm; subst hw) | (go_at_call 9; refine (CE.out _ R).mono ?_; rintro e w1 ⟨rfl, b1⟩; have S1 := b1.size) | (at_builtin; refine wpList_append_own _ rfl _ _ 27 rfl B 5 i0 (.int .u8 0) 1 1 Tryd.underlying27 hi hz0 hz1 hz2 rfl (by decide) _ L _ rfl ((own_row (own_below HO.out b1) EL.out).alloc _) ⟨_, 0, none⟩ 1 1 [.int .u8 x] rfl rfl (cells_new _ _ _) (by simp [Value.oneCell']) (by unfold maxLen; omega) (by omega) (by simp; omega) ?_; intro v1 w2 o1 g1 _; have H1 := hide o1; clear o1))
          go_ret2
          refine ⟨_, rfl, own_snoc EL.out (by congr 1; simp; omega) H1.out, ?_⟩
          exact ((b1.mono hB).alloc (by omega) _).grown g1 (by simp; omega) (fun j hj => (HW.out.lt j hj).1)
    · rw [if_neg h92] at hN hO
      subst hN hO
      rw [List.append_nil]
      obtain ⟨n, hn⟩ : ∃ n, c.toNat = n := ⟨_, rfl⟩
      rw [hn] at hcn h92 CP
      have g92 : ((n : Int) != 92) = true := by simp; omega
      clear hd hp hp' hn
      go_enter Tryd.func6, Tryd.ntmps6
      go_wp2_with (go_at_call 8; refine (CP.out _).mono ?_; rintro e w1 ⟨rfl, hw⟩; replace hw := hw.symm; subst hw)
      go_ret2
      exact ⟨_, rfl, HO.out, Below.refl _ _⟩
end Go.Proofs.YtgjcbgconkiedabDoor
