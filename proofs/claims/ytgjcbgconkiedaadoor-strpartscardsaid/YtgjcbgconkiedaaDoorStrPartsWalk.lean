/- The walk of the law StrParts: it answers true for every string and place. -/
import Derived.Test.YtgjcbgconkiedaaDoorStr2
import Derived.Test.YtgjcbgconkiedaaDoorStr3
import Derived.Test.YtgjcbgconkiedaaDoorStr16
namespace Go.Proofs.YtgjcbgconkiedaaDoor.strParts
open Go.ChangeShapes Go.WideShapes Go.ChangeAt Go.RowKit

theorem cmp_self (l : List UInt8) : Lib.compareBytes l l = 0 := by
  induction l with
  | nil => rfl
  | cons c r ih =>
    have h : ¬ c < c := by rw [UInt8.lt_iff_toNat_lt]; omega
    show (if c < c then (-1 : Int) else if c < c then 1 else Lib.compareBytes r r) = 0
    rw [if_neg h, if_neg h]
    exact ih
theorem two_parts (s : ByteArray) (k : Nat) (hk : k ≤ s.size) (hr : s.size ≤ 65536) : catE [s.extract 0 k, s.extract k s.size] = 0 ∧ catS [s.extract 0 k, s.extract k s.size] = s := by
  have e : allB [s.extract 0 k, s.extract k s.size] = s.data.toList := by
    simp only [allB, List.flatMap_cons, List.flatMap_nil, List.append_nil]
    rw [Lib.extract_to_end]
    have : (s.extract 0 k).data.toList = s.data.toList.take k := by simp [ByteArray.data_extract]
    rw [this]
    exact List.take_append_drop _ _
  have h := cat_ok (zs := [s.extract 0 k, s.extract k s.size]) (by
    intro j hj
    have : j = 0 ∨ j = 1 := by simp at hj; omega
    rcases this with rfl | rfl
    · show (s.extract 0 k).size ≤ 65536
      simp; omega
    · show (s.extract k s.size).size ≤ 65536
      simp; omega) (by rw [e, ← Lib.size_eq]; exact hr)
  refine ⟨h.1, ?_⟩
  rw [h.2, e]
theorem one_part (s : ByteArray) (k : Nat) (h : k < s.size) : s.extract k (k + 1) = ⟨#[s[k]'h]⟩ := by
  apply ByteArray.ext
  apply Array.ext'
  have : (s.extract k (k + 1)).data.toList = (s.data.toList.drop k).take 1 := by simp [ByteArray.data_extract]
  rw [this, drop_at s k h]
  rfl

set_option maxRecDepth 100000 in
set_option maxHeartbeats 4000000 in
theorem walk (s : ByteArray) (i : Nat) (hs : s.size ≤ maxLen) (hi : i < 65536) (w : World) (R : Rdy w) :
    Calls Tryd.prog 8 #[.string s, .int .u16 (i : Int)] w fun e w' => e = .returned (.bool true) ∧ Below w.heap.size w w' := by
  have HZ := hide hs
  have CR := hide (fun W => right_any s W)
  by_cases hr : s.size ≤ 65536
  · rw [decide_eq_true hr] at CR
    obtain ⟨k, hk⟩ : ∃ k, i % (s.size + 1) = k := ⟨_, rfl⟩
    have hkl : k ≤ s.size := by rw [← hk]; have := Nat.mod_lt i (show 0 < s.size + 1 by omega); omega
    have hm1 : (i : Int) % ((s.size : Int) + 1) = (k : Int) := by rw [← hk]; simp
    have hm2 : ((i : Int)).tmod ((s.size : Int) + 1) = (k : Int) := by rw [← hm1]; exact Int.tmod_eq_emod_of_nonneg (by omega)
    obtain ⟨m, hm⟩ : ∃ m, s.size - k = m := ⟨_, rfl⟩
    have hms : (s.size : Int) - (k : Int) = (m : Int) := by omega
    have C1 : Hid (∀ W, Calls Tryd.prog 14 #[.string s, .int .i64 0, .int .i64 (k : Int)] W fun e w' => e = .returned (.tuple #[.string (s.extract 0 k), .int .i64 0]) ∧ Below W.heap.size W w') := by
      intro W
      have h := cut_any s 0 k W HZ.out (by omega) (by omega)
      have e := cut_at (s := s) (a := 0) (b := k) hr (by omega)
      rw [show ((0 : Nat) : Int) = 0 from rfl, Nat.zero_add] at e
      rw [e.1, e.2] at h
      exact h
    have C2 : Hid (∀ W, Calls Tryd.prog 14 #[.string s, .int .i64 (k : Int), .int .i64 (m : Int)] W fun e w' => e = .returned (.tuple #[.string (s.extract k s.size), .int .i64 0]) ∧ Below W.heap.size W w') := by
      intro W
      have h := cut_any s k m W HZ.out (by omega) (by omega)
      have e := cut_at (s := s) (a := k) (b := m) hr (by omega)
      rw [show k + m = s.size by omega] at e
      rw [e.1, e.2] at h
      exact h
    have C3 : Hid (∀ W b, Strs W (.slice (some ⟨b, 0, none⟩) 2 2) [s.extract 0 k, s.extract k s.size] → Calls Tryd.prog 9 #[.slice (some ⟨b, 0, none⟩) 2 2] W fun e w' => e = .returned (.tuple #[.string s, .int .i64 0]) ∧ Below W.heap.size W w') := by
      intro W b h
      have h2 := cat_any _ _ W h
      have e := two_parts s k hkl hr
      rw [e.1, e.2] at h2
      exact h2
    have HS := hide (fun W => strs_two W (s.extract 0 k) (s.extract k s.size) 9)
    have C4 : Hid (∀ W, Calls Tryd.prog 18 #[.string s, .string s] W fun e w' => e = .returned (.int .i64 0) ∧ w' = W) := by
      intro W
      have h := cmp_any s s W
      rw [show cmpI s s = 0 from cmp_self _] at h
      exact h
    have hr0 : s.size + 1 ≤ 65537 := by omega
    by_cases hke : k = s.size
    · subst hke
      have C5 : Hid (∀ W, Calls Tryd.prog 12 #[.string s, .int .i64 (s.size : Int)] W fun e w' => e = .returned (.tuple #[.int .i64 0, .int .i64 32]) ∧ w' = W) := by
        intro W
        have h := sub_any s s.size W HZ.out
        have e1 : subE s s.size = 32 := by unfold subE; rw [if_neg (by omega), if_pos (by omega)]
        have e2 : subV s s.size = 0 := by unfold subV; rw [if_neg (by omega), dif_neg (by omega)]
        rw [e1, e2] at h
        exact h
      generalize s.extract 0 s.size = p1 at C1 C3 HS
      generalize s.extract s.size s.size = p2 at C2 C3 HS
      clear hk hkl hs hm
      go_enter Tryd.func8, Tryd.ntmps8
      go_wp2_with (first
        | (go_at_call 20; refine (CR.out _).mono ?_; rintro e w0 ⟨rfl, h0⟩; replace h0 := h0.symm; subst h0)
        | (go_at_call 14; refine (C1.out _).mono ?_; rintro e w1 ⟨rfl, b1⟩; clear C1)
        | (go_at_call 14; refine (C2.out _).mono ?_; rintro e w2 ⟨rfl, b2⟩; clear C2; have B2 := b1.trans (b2.mono b1.size))
        | (go_at_call 9; refine (C3.out _ _ (HS.out _)).mono ?_; rintro e w3 ⟨rfl, b3⟩; have B3 := (B2.alloc B2.size _).trans (b3.mono (by have := B2.size; simp; omega)))
        | (go_at_call 18; refine (C4.out _).mono ?_; rintro e w0 ⟨rfl, h0⟩; replace h0 := h0.symm; subst h0)
        | (go_at_call 12; refine (C5.out _).mono ?_; rintro e w0 ⟨rfl, h0⟩; replace h0 := h0.symm; subst h0)
        | (go_at_call 11; refine (alive_any _ (R.below B3)).mono ?_; rintro e w5 ⟨rfl, b5⟩))
      go_ret
      exact ⟨rfl, B3.trans (b5.mono B3.size)⟩
    · have hlt : k < s.size := by omega
      obtain ⟨c, hc⟩ : ∃ c, s[k]'hlt = c := ⟨_, rfl⟩
      have hcn : c.toNat < 256 := c.toNat_lt
      have C5 : Hid (∀ W, Calls Tryd.prog 12 #[.string s, .int .i64 (k : Int)] W fun e w' => e = .returned (.tuple #[.int .i64 (c.toNat : Int), .int .i64 0]) ∧ w' = W) := by
        intro W
        have h := sub_any s k W HZ.out
        rw [subV_at hr hlt, subE_at hr hlt, hc] at h
        exact h
      have C6 : Hid (∀ W, Calls Tryd.prog 16 #[.int .i64 (c.toNat : Int)] W fun e w' => e = .returned (.tuple #[.string ⟨#[c]⟩, .int .i64 0]) ∧ Below W.heap.size W w') := by
        intro W
        have h := chr_any c.toNat W
        have e1 : chrE c.toNat = 0 := by unfold chrE; rw [if_neg (by omega)]
        have e2 : chrS c.toNat = ⟨#[c]⟩ := by unfold chrS; rw [if_neg (by omega)]; simp
        rw [e1, e2] at h
        exact h
      have C7 : Hid (∀ W, Calls Tryd.prog 14 #[.string s, .int .i64 (k : Int), .int .i64 1] W fun e w' => e = .returned (.tuple #[.string ⟨#[c]⟩, .int .i64 0]) ∧ Below W.heap.size W w') := by
        intro W
        have h := cut_any s k 1 W HZ.out (by omega) (by omega)
        have e := cut_at (s := s) (a := k) (b := 1) hr (by omega)
        rw [show ((1 : Nat) : Int) = 1 from rfl, one_part s k hlt, hc] at e
        rw [e.1, e.2] at h
        exact h
      have gk : ((k : Int) == (s.size : Int)) = false := by simp; omega
      generalize s.extract 0 k = p1 at C1 C3 HS
      generalize s.extract k s.size = p2 at C2 C3 HS
      generalize ByteArray.mk #[c] = p3 at C6 C7
      generalize c.toNat = n at C5 C6 hcn
      clear hk hkl hs hm hc hke
      go_enter Tryd.func8, Tryd.ntmps8
      go_wp2_with (first
        | (go_at_call 20; refine (CR.out _).mono ?_; rintro e w0 ⟨rfl, h0⟩; replace h0 := h0.symm; subst h0)
        | (go_at_call 14; refine (C1.out _).mono ?_; rintro e w1 ⟨rfl, b1⟩; clear C1)
        | (go_at_call 14; refine (C2.out _).mono ?_; rintro e w2 ⟨rfl, b2⟩; clear C2; have B2 := b1.trans (b2.mono b1.size))
        | (go_at_call 9; refine (C3.out _ _ (HS.out _)).mono ?_; rintro e w3 ⟨rfl, b3⟩; have B3 := (B2.alloc B2.size _).trans (b3.mono (by have := B2.size; simp; omega)))
        | (go_at_call 18; refine (C4.out _).mono ?_; rintro e w0 ⟨rfl, h0⟩; replace h0 := h0.symm; subst h0)
        | (go_at_call 12; refine (C5.out _).mono ?_; rintro e w0 ⟨rfl, h0⟩; replace h0 := h0.symm; subst h0)
        | (go_at_call 16; refine (C6.out _).mono ?_; rintro e w4 ⟨rfl, b4⟩; have B4 := B3.trans (b4.mono B3.size))
        | (go_at_call 14; refine (C7.out _).mono ?_; rintro e w6 ⟨rfl, b6⟩; have B6 := B4.trans (b6.mono B4.size))
        | (go_at_call 11; refine (alive_any _ (R.below B6)).mono ?_; rintro e w5 ⟨rfl, b5⟩))
      go_ret
      exact ⟨rfl, B6.trans (b5.mono B6.size)⟩
  · rw [decide_eq_false hr] at CR
    clear hs hr
    go_enter Tryd.func8, Tryd.ntmps8
    go_wp2_with (first | (go_at_call 20; refine (CR.out _).mono ?_; rintro e w0 ⟨rfl, h0⟩; replace h0 := h0.symm; subst h0) | (go_at_call 11; refine (alive_any _ R).mono ?_; rintro e w5 ⟨rfl, b5⟩))
    go_ret
    exact ⟨rfl, b5⟩
end Go.Proofs.YtgjcbgconkiedaaDoor.strParts
