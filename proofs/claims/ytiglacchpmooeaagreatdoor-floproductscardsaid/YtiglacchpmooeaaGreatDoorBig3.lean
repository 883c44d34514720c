/- Amounts: digit. -/
import Derived.Test.YtiglacchpmooeaaGreatDoorBig2
namespace Go.Proofs.YtiglacchpmooeaaGreatDoor
open Go.ChangeShapes Go.WideShapes Go.ChangeAt Go.RowKit

set_option maxHeartbeats 4000000 in
theorem digit_any (a b : Value) (m n : Nat) (w : World) (ha : IsAmt w a m) (hb : IsAmt w b n) (hm : m < BIG) (hn : n < BIG) (hmn : m < 65536 * n) :
    Calls Tryz.prog 61 #[a, b] w fun e w' => ∃ v, e = .returned (.tuple #[.int .u16 ((m / n : Nat) : Int), v]) ∧ IsAmt w' v (m % n) ∧ (∀ g, v.ownBlock = some g → w.heap.size ≤ g) ∧ Below w.heap.size w w' := by
  have HA := hide ha
  have HB := hide hb
  have HM := hide hm
  have HN := hide hn
  have HMN := hide hmn
  clear ha hb hm hn hmn
  go_enter Tryz.func61, Tryz.ntmps61
  go_wp2
  go_loopw [6, 7] (fun l h wr => ∃ (lo hi : Nat), l = .int .u32 (lo : Int) ∧ h = .int .u32 (hi : Int) ∧ lo ≤ hi ∧ hi ≤ 65535 ∧ lo * n ≤ m ∧ m < (hi + 1) * n ∧ Below w.heap.size w wr) (fun l h _ => (intOf h - intOf l).toNat)
  case atStart => exact ⟨0, 65535, rfl, rfl, by omega, by omega, by omega, HMN.out, Below.refl _ _⟩
  case round =>
    obtain ⟨lo, hi, rfl, rfl, h1, h2, h3, h4, bw⟩ := hrel
    have H3 := hide h3
    have H4 := hide h4
    clear h3 h4
    by_cases hlt : lo < hi
    · obtain ⟨mid, em⟩ : ∃ mid, (lo + hi + 1) / 2 = mid := ⟨_, rfl⟩
      have hmid : ((lo : Int) + (hi : Int) + 1) / 2 = (mid : Int) := by omega
      have hmb : lo < mid ∧ mid ≤ hi := by omega
      have T := timesD_any b n mid wr (HB.out.below bw) HN.out (by omega)
      have HC : Hid (∀ v wt, IsAmt wt v (n * mid) → Below wr.heap.size wr wt → Calls Tryz.prog 50 #[v, a] wt fun e w' => e = .returned (.int .i64 (cmpN (n * mid) m)) ∧ Below wt.heap.size wt w') := fun v wt hv hb => cmpD_any v a (n * mid) m wt hv ((HA.out.below bw).below hb)
      have EM := hide em
      clear em
      by_cases hle : n * mid ≤ m
      · have hcm : (decide (cmpN (n * mid) m ≤ 0)) = true := decide_eq_true (by unfold cmpN; split <;> (try split) <;> omega)
        obtain ⟨c, ec⟩ : ∃ c, cmpN (n * mid) m = c := ⟨_, rfl⟩
        rw [ec] at HC hcm
        have HLE := hide hle
        clear ec hle
        go_wp2_with (first
          | (go_at_call 62; refine T.mono ?_; rintro e wt ⟨v, rfl, hv, _, bt⟩; have CC := HC.out v wt hv bt)
          | (go_at_call 50; refine CC.mono ?_; rintro e wc ⟨rfl, bc⟩))
        go_roundw
        case rel => exact ⟨mid, hi, by go_num, rfl, by omega, h2, by rw [Nat.mul_comm]; exact HLE.out, H4.out, (bw.trans (bt.mono bw.size)).trans (bc.mono (Nat.le_trans bw.size bt.size))⟩
        case measure => simp [intOf]; omega
      · have hcm : (decide (cmpN (n * mid) m ≤ 0)) = false := decide_eq_false (by unfold cmpN; split <;> (try split) <;> omega)
        obtain ⟨c, ec⟩ : ∃ c, cmpN (n * mid) m = c := ⟨_, rfl⟩
        rw [ec] at HC hcm
        have HLE := hide hle
        clear ec hle
        go_wp2_with (first
          | (go_at_call 62; refine T.mono ?_; rintro e wt ⟨v, rfl, hv, _, bt⟩; have CC := HC.out v wt hv bt)
          | (go_at_call 50; refine CC.mono ?_; rintro e wc ⟨rfl, bc⟩))
        go_roundw
        case rel =>
          refine ⟨lo, mid - 1, rfl, ?_, by omega, by omega, H3.out, ?_, (bw.trans (bt.mono bw.size)).trans (bc.mono (Nat.le_trans bw.size bt.size))⟩
          · go_num
          · have h5 := HLE.out
            rw [show mid - 1 + 1 = mid by omega, Nat.mul_comm]
            omega
        case measure => simp [intOf]; omega
    · have hlh : lo = hi := by omega
      subst hlh
      have hn0 : 0 < n := by
        rcases Nat.eq_zero_or_pos n with h | h
        · have := H4.out; rw [h] at this; omega
        · exact h
      have hq : m / n = lo := by
        have h5 := H3.out
        have h6 := H4.out
        exact Nat.div_eq_of_lt_le h5 h6
      have hr : m - n * lo = m % n := by
        have := Nat.div_add_mod m n
        rw [hq] at this
        omega
      have hle : n * lo ≤ m := by rw [Nat.mul_comm]; exact H3.out
      have HLE := hide hle
      have HQ := hide hq
      have HR := hide hr
      clear hq hr hle hn0
      have T := timesD_any b n lo wr (HB.out.below bw) HN.out (by omega)
      have HS : Hid (∀ v wt, IsAmt wt v (n * lo) → Below wr.heap.size wr wt → Calls Tryz.prog 51 #[a, v] wt fun e w' => ∃ v', e = .returned v' ∧ IsAmt w' v' (m - n * lo) ∧ (∀ g, v'.ownBlock = some g → wt.heap.size ≤ g) ∧ Below wt.heap.size wt w') := fun v wt hv hb => subD_any a v m (n * lo) wt ((HA.out.below bw).below hb) hv HLE.out HM.out
      go_wp2_with (first
        | (go_at_call 62; refine T.mono ?_; rintro e wt ⟨v, rfl, hv, _, bt⟩; have CC := HS.out v wt hv bt)
        | (go_at_call 51; refine CC.mono ?_; rintro e wc ⟨v4, rfl, h4, f4, bc⟩))
      go_ret2
      refine ⟨_, by rw [HQ.out]; rfl, by rw [← HR.out]; exact h4, fun g hg => Nat.le_trans (Nat.le_trans bw.size bt.size) (f4 g hg), (bw.trans (bt.mono bw.size)).trans (bc.mono (Nat.le_trans bw.size bt.size))⟩
end Go.Proofs.YtiglacchpmooeaaGreatDoor
