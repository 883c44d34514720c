/- The walk of the law LexFirst: it answers true for every two texts. -/
import Derived.Test.YtmeooghcdgpofabDoorLexV
import Derived.Test.YtmeooghcdgpofabDoorLexE8
import Derived.Lib.IndexBytes
namespace Go.Proofs.YtmeooghcdgpofabDoor.lexFirst
open Go.ChangeShapes Go.WideShapes Go.ChangeAt Go.RowKit

theorem last_of {s : ByteArray} {u : List UInt8} {c : UInt8} (h : s.data.toList = u ++ [c]) (i : Nat) (hi : i < s.size) (he : i + 1 = s.size) : s[i] = c := by
  have d := drop_at s i hi
  have hl := congrArg List.length h
  rw [size_list, List.length_append] at hl
  simp at hl
  have e : s.data.toList.drop i = [c] := by
    rw [h]
    have : i = u.length := by omega
    rw [this]; simp
  rw [e] at d
  injection d with d1 _
  exact d1.symm
theorem last2_of {s : ByteArray} {u : List UInt8} {b c : UInt8} (h : s.data.toList = u ++ [b, c]) (i : Nat) (hi : i < s.size) (he : i + 2 = s.size) : s[i] = b := by
  have d := drop_at s i hi
  have hl := congrArg List.length h
  rw [size_list, List.length_append] at hl
  simp at hl
  have e : s.data.toList.drop i = [b, c] := by
    rw [h]
    have : i = u.length := by omega
    rw [this]; simp
  rw [e] at d
  injection d with d1 _
  exact d1.symm
/-- The fault of a text, whatever stands behind it. -/
theorem first_of {a m : List UInt8} {l : List Tok} {x y : Nat} (h : scanL a = (l, x, y, 40)) (hm : ¬ 1048576 < (a ++ m).length) (hp : NoPt a) : scanL (a ++ m) = ([], x, y, 40) := by
  have ha : ¬ 1048576 < a.length := by rw [List.length_append] at hm; omega
  have F := scanL_of ha rfl
  cases hs : (scanP (1, 1) a).2 with
  | none =>
    rw [F.1 hs] at h
    simp at h
  | some q =>
    obtain ⟨x', y', e'⟩ := q
    rw [F.2 x' y' e' hs] at h
    simp only [Prod.mk.injEq] at h
    obtain ⟨_, rfl, rfl, rfl⟩ := h
    exact (scanL_of hm rfl).2 _ _ _ (scan_first _ _ _ m _ _ (Nat.le_refl _) hp hs)
theorem fault_ne {a : List UInt8} {l : List Tok} {x y : Nat} (h : scanL a = (l, x, y, 40)) : a ≠ [] := by
  rintro rfl
  have := (scanL_of (L := []) (by simp) rfl).1 rfl
  rw [this] at h
  simp at h

set_option maxHeartbeats 16000000 in
set_option maxRecDepth 100000 in
theorem walk (s t : ByteArray) (hs : s.size ≤ 140737488351232) (ht : t.size ≤ 140737488351232) (w : World) (RD : Rdy w) :
    Calls Tryd.prog 3 #[.string s, .string t] w fun e w' => e = .returned (.bool true) ∧ Below w.heap.size w w' := by
  have CS := hide (scan_any s (by omega) w RD)
  obtain ⟨Sc, hSc⟩ : ∃ Sc, scanL s.data.toList = Sc := ⟨_, rfl⟩
  rw [hSc] at CS
  obtain ⟨l, x, y, e⟩ := Sc
  have HSC := hide hSc
  have RDh := hide RD
  have CA := hide (fun W (R : Rdy W) => awake_any W R)
  clear hSc RD
  by_cases he : e = 40
  · subst he
    obtain ⟨sm, hsm⟩ : ∃ sm, s.size + t.size = sm := ⟨_, rfl⟩
    have hsmi : (s.size : Int) + (t.size : Int) = (sm : Int) := by omega
    by_cases hlg : 1048576 < sm
    · have hdc : decide ((1048576 : Int) < (sm : Int)) = true := by simp; omega
      clear hsm
      go_enter Tryd.func3, Tryd.ntmps3
      go_wp2_with (first | (go_at_call 4; refine CS.out.mono ?_; rintro e' w1 ⟨⟨tv, _, hret⟩, b1⟩; (have hret2 : e' = .returned (.tuple #[tv, .int .i64 (x : Int), .int .i64 (y : Int), .int .i64 40]) := hret); subst hret2; clear hret CS) | (go_at_call 5; refine (CA.out _ (RDh.out.below b1)).mono ?_; rintro e' w2 ⟨rfl, b2⟩; have B2 := b1.trans (b2.mono b1.size)))
      go_ret
      exact ⟨rfl, B2⟩
    · have hdc : decide ((1048576 : Int) < (sm : Int)) = false := by simp; omega
      have h0 : 0 < s.size := by
        have := fault_ne HSC.out
        have h := size_list s
        rcases Nat.eq_zero_or_pos s.size with g | g
        · rw [g] at h; exact absurd (List.eq_nil_of_length_eq_zero h) this
        · exact g
      have hd0 : decide ((0 : Int) < (s.size : Int)) = true := by simp; omega
      obtain ⟨i1, hi1⟩ : ∃ i, i + 1 = s.size := ⟨s.size - 1, by omega⟩
      have hi1i : (s.size : Int) - 1 = (i1 : Int) := by omega
      have hi1l : i1 < s.size := by omega
      obtain ⟨n1, hn1⟩ : ∃ n, (s[i1]'hi1l).toNat = n := ⟨_, rfl⟩
      have hn1b : n1 < 256 := by rw [← hn1]; exact (s[i1]'hi1l).toNat_lt
      by_cases h46 : n1 = 46
      · subst h46
        have HX := hide hi1
        clear hsm hi1
        go_enter Tryd.func3, Tryd.ntmps3
        go_wp2_with (first | (go_at_call 4; refine CS.out.mono ?_; rintro e' w1 ⟨⟨tv, _, hret⟩, b1⟩; (have hret2 : e' = .returned (.tuple #[tv, .int .i64 (x : Int), .int .i64 (y : Int), .int .i64 40]) := hret); subst hret2; clear hret CS) | (go_at_call 5; refine (CA.out _ (RDh.out.below b1)).mono ?_; rintro e' w2 ⟨rfl, b2⟩; have B2 := b1.trans (b2.mono b1.size)))
        go_ret
        exact ⟨rfl, B2⟩
      · have g46 : ((n1 : Int) == 46) = false := by simp; omega
        have CP : Hid (NoPt s.data.toList → ∀ (W : World), Rdy W → Calls Tryd.prog 4 #[.string (s ++ t)] W fun e w' => ScanV W.heap.size ([], x, y, 40) e w' ∧ Below W.heap.size W w') := by
          intro hp W R
          have h := scan_any (s ++ t) (by rw [ByteArray.size_append]; omega) W R
          have e : (s ++ t).data.toList = s.data.toList ++ t.data.toList := by simp
          rw [e, first_of HSC.out (by rw [List.length_append, size_list, size_list]; omega) hp] at h
          exact h
        have L1 : Hid (∀ u, s.data.toList ≠ u ++ [46]) := fun u h => by
          have := last_of h i1 hi1l hi1
          rw [this] at hn1
          exact h46 hn1.symm
        have HX := hide hi1
        clear hsm hi1 h46
        by_cases hs1 : 1 < s.size
        · have hd1 : decide ((1 : Int) < (s.size : Int)) = true := by simp; omega
          obtain ⟨i2, hi2⟩ : ∃ i, i + 2 = s.size := ⟨s.size - 2, by omega⟩
          have hi2i : (s.size : Int) - 2 = (i2 : Int) := by omega
          have hi2l : i2 < s.size := by omega
          obtain ⟨n2, hn2⟩ : ∃ n, (s[i2]'hi2l).toNat = n := ⟨_, rfl⟩
          have hn2b : n2 < 256 := by rw [← hn2]; exact (s[i2]'hi2l).toNat_lt
          by_cases h46 : n2 = 46
          · subst h46
            clear hi2 CP L1
            go_enter Tryd.func3, Tryd.ntmps3
            go_wp2_with (first | (go_at_call 4; refine CS.out.mono ?_; rintro e' w1 ⟨⟨tv, _, hret⟩, b1⟩; (have hret2 : e' = .returned (.tuple #[tv, .int .i64 (x : Int), .int .i64 (y : Int), .int .i64 40]) := hret); subst hret2; clear hret CS) | (go_at_call 5; refine (CA.out _ (RDh.out.below b1)).mono ?_; rintro e' w2 ⟨rfl, b2⟩; have B2 := b1.trans (b2.mono b1.size)))
            go_ret
            exact ⟨rfl, B2⟩
          · have g462 : ((n2 : Int) == 46) = false := by simp; omega
            have CS2 : Hid (∀ (W : World), Rdy W → _) := CP.out fun u => ⟨L1.out u, fun c h => by
              have := last2_of h i2 hi2l hi2
              rw [this] at hn2
              exact h46 hn2.symm⟩
            clear CP L1 hi2 h46
            go_enter Tryd.func3, Tryd.ntmps3
            go_wp2_with (first | (go_at_call 4; refine CS.out.mono ?_; rintro e' w1 ⟨⟨tv, _, hret⟩, b1⟩; (have hret2 : e' = .returned (.tuple #[tv, .int .i64 (x : Int), .int .i64 (y : Int), .int .i64 40]) := hret); subst hret2; clear hret CS) | (go_at_call 5; refine (CA.out _ (RDh.out.below b1)).mono ?_; rintro e' w2 ⟨rfl, b2⟩; have B2 := b1.trans (b2.mono b1.size)) | (go_at_call 4; refine (CS2.out _ (RDh.out.below B2)).mono ?_; rintro e' w3 ⟨⟨tv3, _, hret⟩, b3⟩; (have hret3 : e' = .returned (.tuple #[tv3, .int .i64 (x : Int), .int .i64 (y : Int), .int .i64 40]) := hret); subst hret3; clear hret; have B3 := B2.trans (b3.mono B2.size)))
            go_ret
            exact ⟨rfl, B3⟩
        · have hd1 : decide ((1 : Int) < (s.size : Int)) = false := by simp; omega
          have CS2 : Hid (∀ (W : World), Rdy W → _) := CP.out fun u => ⟨L1.out u, fun c h => by
            have := congrArg List.length h
            rw [size_list, List.length_append] at this
            simp at this
            omega⟩
          clear CP L1 hs1
          go_enter Tryd.func3, Tryd.ntmps3
          go_wp2_with (first | (go_at_call 4; refine CS.out.mono ?_; rintro e' w1 ⟨⟨tv, _, hret⟩, b1⟩; (have hret2 : e' = .returned (.tuple #[tv, .int .i64 (x : Int), .int .i64 (y : Int), .int .i64 40]) := hret); subst hret2; clear hret CS) | (go_at_call 5; refine (CA.out _ (RDh.out.below b1)).mono ?_; rintro e' w2 ⟨rfl, b2⟩; have B2 := b1.trans (b2.mono b1.size)) | (go_at_call 4; refine (CS2.out _ (RDh.out.below B2)).mono ?_; rintro e' w3 ⟨⟨tv3, _, hret⟩, b3⟩; (have hret3 : e' = .returned (.tuple #[tv3, .int .i64 (x : Int), .int .i64 (y : Int), .int .i64 40]) := hret); subst hret3; clear hret; have B3 := B2.trans (b3.mono B2.size)))
          go_ret
          exact ⟨rfl, B3⟩
  · have ge : ((e : Int) != 40) = true := by simp; omega
    clear he
    go_enter Tryd.func3, Tryd.ntmps3
    go_wp2_with (first | (go_at_call 4; refine CS.out.mono ?_; rintro e' w1 ⟨⟨tv, _, hret⟩, b1⟩; (have hret2 : e' = .returned (.tuple #[tv, .int .i64 (x : Int), .int .i64 (y : Int), .int .i64 (e : Int)]) := hret); subst hret2; clear hret CS) | (go_at_call 5; refine (CA.out _ (RDh.out.below b1)).mono ?_; rintro e' w2 ⟨rfl, b2⟩; have B2 := b1.trans (b2.mono b1.size)))
    go_ret
    exact ⟨rfl, B2⟩
end Go.Proofs.YtmeooghcdgpofabDoor.lexFirst
