/- The walk of the law FloOrder: it answers true for every two words. -/
import Derived.Test.YtegnhinognpgcacGreatDoorAw4
import Derived.Test.YtegnhinognpgcacGreatDoorArith
namespace Go.Proofs.YtegnhinognpgcacGreatDoor.floOrder
open Go.ChangeShapes Go.WideShapes Go.ChangeAt Go.RowKit
open Ieee

set_option maxRecDepth 100000 in
set_option maxHeartbeats 4000000 in
theorem walk (x y : Nat) (_hx : x < 18446744073709551616) (_hy : y < 18446744073709551616) (w : World) (R : Rdy w) :
    Calls Tryz.prog 4 #[.int .u64 (x : Int), .int .u64 (y : Int)] w fun e w' => e = .returned (.bool true) ∧ Below w.heap.size w w' := by
  have lK1 := cRes_add x y
  have lK2 := cRes_mul x y
  obtain ⟨K1, ea⟩ : ∃ K, cRes (double.add x y) = K := ⟨_, rfl⟩
  have ea' : cRes (double.add y x) = K1 := by rw [add_comm']; exact ea
  obtain ⟨K2, em⟩ : ∃ K, cRes (double.mul x y) = K := ⟨_, rfl⟩
  have em' : cRes (double.mul y x) = K2 := by rw [mul_comm']; exact em
  rw [ea] at lK1
  rw [em] at lK2
  have cc1 : canon K1 = K1 := by rw [← ea]; exact canon_cRes _
  have cc2 : canon K2 = K2 := by rw [← em]; exact canon_cRes _
  have acc := Below.refl w.heap.size w
  rcases sub_turn x y with ⟨s1, s2⟩ | ⟨neg, r, hr, s1, s2⟩ | ⟨s, t, s1, s2⟩
  · have cn : canon 9221120237041090560 = 9221120237041090560 := by decide
    go_enter Tryz.func4, Tryz.ntmps4
    go_wp2_with (first
      | (go_at_call 6; refine (of_any _ _).mono ?_; rintro e w' ⟨rfl, rfl⟩)
      | (go_at_call 14; refine (sub_none _ _ (by first | exact s1 | exact s2) _).mono ?_; rintro e w' ⟨r, rfl, hn, hr, hl, b⟩; replace acc := acc.trans (b.mono acc.size))
      | (go_at_call 15; refine (neg_any _ (by first | assumption | decide) _).mono ?_; rintro e w' ⟨rfl, rfl⟩)
      | (go_at_call 17; refine (add_can _ _ K1 (by first | exact ea | exact ea') _).mono ?_; rintro e w' ⟨r, rfl, hr, hl, b⟩; replace acc := acc.trans (b.mono acc.size))
      | (go_at_call 19; refine (mul_can _ _ K2 (by first | exact em | exact em') _).mono ?_; rintro e w' ⟨r, rfl, hr, hl, b⟩; replace acc := acc.trans (b.mono acc.size))
      | (go_at_call 18; refine (bits_any _ _).mono ?_; rintro e w' ⟨rfl, rfl⟩)
      | (go_at_call 16; refine (is_any _ _ (by first | exact lK1 | exact lK2 | exact canon_lt (by assumption) | decide) _).mono ?_; rintro e w' ⟨rfl, rfl⟩)
      | (go_at_call 20; refine (class_any _ (by first | assumption | decide) _).mono ?_; rintro e w' ⟨rfl, rfl⟩)
      | (go_at_call 11; refine (awake_any _ (R.below acc)).mono ?_; rintro e w' ⟨rfl, b⟩; replace acc := acc.trans (b.mono acc.size)))
    go_ret
    exact ⟨rfl, acc⟩
  · have l1 := wordD_lt (neg := neg) hr
    have l2 := wordD_lt (neg := !neg) hr
    have f1 := flip_wordD (neg := !neg) hr
    rw [Bool.not_not] at f1
    have n2 := nan_wordD (neg := !neg) hr
    obtain ⟨d, ed⟩ : ∃ z, wordD neg r = z := ⟨_, rfl⟩
    obtain ⟨d', ed'⟩ : ∃ z, wordD (!neg) r = z := ⟨_, rfl⟩
    rw [ed] at s1 l1 f1
    rw [ed'] at s2 l2 f1 n2
    clear ed ed' hr
    have cd := canon_canon d
    go_enter Tryz.func4, Tryz.ntmps4
    go_wp2_with (first
      | (go_at_call 6; refine (of_any _ _).mono ?_; rintro e w' ⟨rfl, rfl⟩)
      | (go_at_call 14; refine (sub_some _ _ _ (by first | exact s1 | exact s2) _).mono ?_; rintro e w' ⟨rfl, b⟩; replace acc := acc.trans (b.mono acc.size))
      | (go_at_call 15; refine (neg_any _ (by first | assumption | decide) _).mono ?_; rintro e w' ⟨rfl, rfl⟩)
      | (go_at_call 17; refine (add_can _ _ K1 (by first | exact ea | exact ea') _).mono ?_; rintro e w' ⟨r, rfl, hr, hl, b⟩; replace acc := acc.trans (b.mono acc.size))
      | (go_at_call 19; refine (mul_can _ _ K2 (by first | exact em | exact em') _).mono ?_; rintro e w' ⟨r, rfl, hr, hl, b⟩; replace acc := acc.trans (b.mono acc.size))
      | (go_at_call 18; refine (bits_any _ _).mono ?_; rintro e w' ⟨rfl, rfl⟩)
      | (go_at_call 16; refine (is_any _ _ (by first | exact lK1 | exact lK2 | exact canon_lt (by assumption) | decide) _).mono ?_; rintro e w' ⟨rfl, rfl⟩)
      | (go_at_call 20; refine (class_any _ (by first | assumption | decide) _).mono ?_; rintro e w' ⟨rfl, rfl⟩)
      | (go_at_call 11; refine (awake_any _ (R.below acc)).mono ?_; rintro e w' ⟨rfl, b⟩; replace acc := acc.trans (b.mono acc.size)))
    go_ret
    exact ⟨rfl, acc⟩
  · have k0 : canon 0 = 0 := by decide
    have k1 : canon 9223372036854775808 = 9223372036854775808 := by decide
    have c0 : classV 0 = 2 := by decide
    have c1 : classV 9223372036854775808 = 2 := by decide
    have m0 : nanB 0 = false := by decide
    have m1 : nanB 9223372036854775808 = false := by decide
    have g0 : flip 0 = 9223372036854775808 := by decide
    have g1 : flip 9223372036854775808 = 0 := by decide
    have e0 : wordD false 0 = 0 := by decide
    have e1 : wordD true 0 = 9223372036854775808 := by decide
    cases s <;> cases t
    all_goals
      first | rw [e0] at s1 | rw [e1] at s1
      first | rw [e0] at s2 | rw [e1] at s2
      go_enter Tryz.func4, Tryz.ntmps4
      go_wp2_with (first
      | (go_at_call 6; refine (of_any _ _).mono ?_; rintro e w' ⟨rfl, rfl⟩)
      | (go_at_call 14; refine (sub_some _ _ _ (by first | exact s1 | exact s2) _).mono ?_; rintro e w' ⟨rfl, b⟩; replace acc := acc.trans (b.mono acc.size))
      | (go_at_call 15; refine (neg_any _ (by first | assumption | decide) _).mono ?_; rintro e w' ⟨rfl, rfl⟩)
      | (go_at_call 17; refine (add_can _ _ K1 (by first | exact ea | exact ea') _).mono ?_; rintro e w' ⟨r, rfl, hr, hl, b⟩; replace acc := acc.trans (b.mono acc.size))
      | (go_at_call 19; refine (mul_can _ _ K2 (by first | exact em | exact em') _).mono ?_; rintro e w' ⟨r, rfl, hr, hl, b⟩; replace acc := acc.trans (b.mono acc.size))
      | (go_at_call 18; refine (bits_any _ _).mono ?_; rintro e w' ⟨rfl, rfl⟩)
      | (go_at_call 16; refine (is_any _ _ (by first | exact lK1 | exact lK2 | exact canon_lt (by assumption) | decide) _).mono ?_; rintro e w' ⟨rfl, rfl⟩)
      | (go_at_call 20; refine (class_any _ (by first | assumption | decide) _).mono ?_; rintro e w' ⟨rfl, rfl⟩)
      | (go_at_call 11; refine (awake_any _ (R.below acc)).mono ?_; rintro e w' ⟨rfl, b⟩; replace acc := acc.trans (b.mono acc.size)))
      go_ret
      exact ⟨rfl, acc⟩
end Go.Proofs.YtegnhinognpgcacGreatDoor.floOrder
