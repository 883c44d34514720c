/- The document's side: powers of 10, noughts, the nearest real of a decimal. -/
import Derived.Test.YtbengmceiaejeaaGreatDoorFtX7
import Derived.Test.YtbengmceiaejeaaGreatDoorBigP
namespace Go.Proofs.YtbengmceiaejeaaGreatDoor
open Go.ChangeShapes Go.WideShapes Go.ChangeAt Go.RowKit

theorem ten_two (n : Nat) : 10 ^ n < 2 ^ (4 * n + 1) := by
  have h1 : (10 : Nat) ^ n ≤ 16 ^ n := Nat.pow_le_pow_left (by omega) n
  have h2 : (16 : Nat) ^ n = 2 ^ (4 * n) := by rw [show (16 : Nat) = 2 ^ 4 from rfl, ← Nat.pow_mul]
  have h3 : (2 : Nat) ^ (4 * n) < 2 ^ (4 * n + 1) := Nat.pow_lt_pow_right (by omega) (by omega)
  omega

theorem ten_big {n : Nat} (h : n ≤ 1200) : 10 ^ n < BIG := big_of (ten_two n) (by omega)

theorem ten_any (n : Nat) (hn : n ≤ 1200) (w : World) : Calls Tryz.prog 76 #[.int .i64 (n : Int)] w fun e w' => ∃ v, e = .returned v ∧ IsAmt w' v (10 ^ n) ∧ Below w.heap.size w w' := by
  go_enter Tryz.func76, Tryz.ntmps76
  go_wp2
  go_loopw [3, 4] (fun v i wr => ∃ j : Nat, j ≤ n ∧ i = .int .i64 (j : Int) ∧ IsAmt wr v (10 ^ j) ∧ Below w.heap.size w wr) (fun _ i _ => n - (intOf i).toNat)
  case atStart => exact ⟨0, by omega, rfl, amt_one w _, (Below.refl _ _).alloc (Nat.le_refl _) _⟩
  case round =>
    obtain ⟨j, hj, rfl, ha, bw⟩ := hrel
    by_cases hlt : j < n
    · have T := timesD_any _ (10 ^ j) 10 wr ha (ten_big (by omega)) (by omega)
      have hd : decide ((j : Int) < (n : Int)) = true := decide_eq_true (by omega)
      have HP : Hid (10 ^ j * 10 = 10 ^ (j + 1)) := (Nat.pow_succ 10 j).symm
      rw [HP.out] at T
      obtain ⟨P, eP⟩ : ∃ P, 10 ^ (j + 1) = P := ⟨_, rfl⟩
      rw [eP] at T
      have EP := hide eP
      clear eP ha HP
      go_wp2_with (go_at_call 98; refine T.mono ?_; rintro e wt ⟨v2, rfl, hv, _, bt⟩)
      go_roundw
      case rel => exact ⟨j + 1, by omega, by go_num, by rw [EP.out]; exact hv, bw.trans (bt.mono bw.size)⟩
      case measure => simp [intOf]; omega
    · have hjn : j = n := by omega
      have HA := hide ha
      have hd : decide ((j : Int) < (n : Int)) = false := decide_eq_false (by omega)
      have HJ := hide hjn
      clear ha hjn
      go_wp2
      go_ret
      exact ⟨_, rfl, by rw [← HJ.out]; exact HA.out, bw⟩
end Go.Proofs.YtbengmceiaejeaaGreatDoor
