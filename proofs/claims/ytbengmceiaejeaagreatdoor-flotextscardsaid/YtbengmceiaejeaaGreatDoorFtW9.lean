/- The digits with an exponent: any layout in one. -/
import Derived.Test.YtbengmceiaejeaaGreatDoorFtW8
namespace Go.Proofs.YtbengmceiaejeaaGreatDoor
open Go.ChangeShapes Go.WideShapes Go.ChangeAt Go.RowKit

def preV (c : Nat → Int) (r : Nat) : List Value := if r = 0 then [.int .u8 (c 0)] else [.int .u8 (c 0)] ++ [.int .u8 46] ++ tailV c r

def sgV (E : Int) : Int := if E < 0 then 45 else 43

theorem efg_any (base D B r : Nat) (c : Nat → Int) (dp : Int) (w : World) (hb : base ≤ w.heap.size) (hBs : B < w.heap.size) (hne : B ≠ D) (hD : base ≤ D) (hown : w.ownsRow base 5 1 (.slice (some ⟨D, 0, none⟩) 0 24) 0 []) (hd : CellsAt w B c (r + 1)) (hr : r ≤ 16) (hdp : -390 ≤ dp ∧ dp ≤ 390) :
    Calls Tryz.prog 118 #[.slice (some ⟨D, 0, none⟩) 0 24, .bool false, .slice (some ⟨B, 0, none⟩) 32 32, .int .i64 dp, .int .i64 ((r + 1 : Nat) : Int), .int .i64 (r : Int), .int .u8 101, .bool true] w fun e w' => ∃ n, e = .returned (.slice (some ⟨D, 0, none⟩) n 24) ∧ n ≤ 24 ∧ Below base w w' ∧ w'.ownsRow base 5 1 (.slice (some ⟨D, 0, none⟩) n 24) n (eRow (preV c r) (sgV (dp - 1)) (dp - 1).natAbs) := by
  obtain ⟨X, eX⟩ : ∃ X, (dp - 1).natAbs = X := ⟨_, rfl⟩
  rw [eX]
  have wrap : ∀ {n : Nat} {e : Ending} {w' : World}, (e = .returned (.slice (some ⟨D, 0, none⟩) n 24) ∧ Below base w w' ∧ w'.ownsRow base 5 1 (.slice (some ⟨D, 0, none⟩) n 24) n (eRow (preV c r) (sgV (dp - 1)) X)) → n ≤ 24 → ∃ n, e = .returned (.slice (some ⟨D, 0, none⟩) n 24) ∧ n ≤ 24 ∧ Below base w w' ∧ w'.ownsRow base 5 1 (.slice (some ⟨D, 0, none⟩) n 24) n (eRow (preV c r) (sgV (dp - 1)) X) := fun h hn => ⟨_, h.1, hn, h.2.1, h.2.2⟩
  have hrange : X < 10 ∨ (10 ≤ X ∧ X < 100) ∨ (100 ≤ X ∧ X < 400) := by omega
  rcases Nat.eq_zero_or_pos r with h0 | h0
  · subst h0
    have hp : preV c 0 = [.int .u8 (c 0)] := by unfold preV; rw [if_pos rfl]
    rw [hp] at wrap ⊢
    by_cases hn : dp - 1 < 0
    · have hs : sgV (dp - 1) = 45 := by unfold sgV; rw [if_pos hn]
      rw [hs] at wrap ⊢
      rcases hrange with h | h | h
      · exact (efg_on0 base D B X c dp w hb hBs hne hD hown hd (by omega) (by omega) h).mono fun e w' h => wrap h (by omega)
      · exact (efg_on1 base D B X c dp w hb hBs hne hD hown hd (by omega) (by omega) h).mono fun e w' h => wrap h (by omega)
      · exact (efg_on2 base D B X c dp w hb hBs hne hD hown hd (by omega) (by omega) h).mono fun e w' h => wrap h (by omega)
    · have hs : sgV (dp - 1) = 43 := by unfold sgV; rw [if_neg hn]
      rw [hs] at wrap ⊢
      rcases hrange with h | h | h
      · exact (efg_op0 base D B X c dp w hb hBs hne hD hown hd (by omega) h).mono fun e w' h => wrap h (by omega)
      · exact (efg_op1 base D B X c dp w hb hBs hne hD hown hd (by omega) h).mono fun e w' h => wrap h (by omega)
      · exact (efg_op2 base D B X c dp w hb hBs hne hD hown hd (by omega) h).mono fun e w' h => wrap h (by omega)
  · have hp : preV c r = [.int .u8 (c 0)] ++ [.int .u8 46] ++ tailV c r := by unfold preV; rw [if_neg (by omega)]
    rw [hp] at wrap ⊢
    by_cases hn : dp - 1 < 0
    · have hs : sgV (dp - 1) = 45 := by unfold sgV; rw [if_pos hn]
      rw [hs] at wrap ⊢
      rcases hrange with h | h | h
      · exact (efg_mn0 base D B r X c dp w hb hBs hne hD hown hd ⟨h0, hr⟩ (by omega) (by omega) h).mono fun e w' h => wrap h (by omega)
      · exact (efg_mn1 base D B r X c dp w hb hBs hne hD hown hd ⟨h0, hr⟩ (by omega) (by omega) h).mono fun e w' h => wrap h (by omega)
      · exact (efg_mn2 base D B r X c dp w hb hBs hne hD hown hd ⟨h0, hr⟩ (by omega) (by omega) h).mono fun e w' h => wrap h (by omega)
    · have hs : sgV (dp - 1) = 43 := by unfold sgV; rw [if_neg hn]
      rw [hs] at wrap ⊢
      rcases hrange with h | h | h
      · exact (efg_mp0 base D B r X c dp w hb hBs hne hD hown hd ⟨h0, hr⟩ (by omega) h).mono fun e w' h => wrap h (by omega)
      · exact (efg_mp1 base D B r X c dp w hb hBs hne hD hown hd ⟨h0, hr⟩ (by omega) h).mono fun e w' h => wrap h (by omega)
      · exact (efg_mp2 base D B r X c dp w hb hBs hne hD hown hd ⟨h0, hr⟩ (by omega) h).mono fun e w' h => wrap h (by omega)
end Go.Proofs.YtbengmceiaejeaaGreatDoor
