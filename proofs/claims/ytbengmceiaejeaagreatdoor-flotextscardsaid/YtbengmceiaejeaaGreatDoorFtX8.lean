/- The document's digits of any real: those of the program. -/
import Derived.Test.YtbengmceiaejeaaGreatDoorFtM5
namespace Go.Proofs.YtbengmceiaejeaaGreatDoor
open Go.ChangeShapes Go.WideShapes Go.ChangeAt Go.RowKit

theorem norm_le {m Q m' Q' : Nat} (h : m * 2 ^ Q = m' * 2 ^ Q') (hm : m < 9007199254740992) (hQ' : Q' = 0 ∨ 4503599627370496 ≤ m') (hle : Q ≤ Q') : m = m' ∧ Q = Q' := by
  obtain ⟨d, rfl⟩ : ∃ d, Q' = Q + d := ⟨Q' - Q, by omega⟩
  rw [Nat.pow_add, Nat.mul_left_comm, Nat.mul_comm] at h
  have h2 := Nat.eq_of_mul_eq_mul_left (Nat.two_pow_pos Q) h
  cases d with
  | zero => simpa using h2
  | succ d =>
    exfalso
    have h3 : 2 ≤ 2 ^ (d + 1) := by have := Nat.two_pow_pos d; rw [Nat.pow_succ]; omega
    have h4 := Nat.mul_le_mul_left m' h3
    omega

theorem norm_one {m Q m' Q' : Nat} (h : m * 2 ^ Q = m' * 2 ^ Q') (hm : m < 9007199254740992) (hm' : m' < 9007199254740992) (hQ : Q = 0 ∨ 4503599627370496 ≤ m) (hQ' : Q' = 0 ∨ 4503599627370496 ≤ m') : m = m' ∧ Q = Q' := by
  rcases Nat.le_total Q Q' with hl | hl
  · exact norm_le h hm hQ' hl
  · obtain ⟨a, b⟩ := norm_le h.symm hm' hQ hl
    exact ⟨a.symm, b.symm⟩

theorem amt_word {m Q : Nat} (hm : m < 9007199254740992) (hsub : Q = 0 ∨ 4503599627370496 ≤ m) : amt (Q * 4503599627370496 + m) = m * 2 ^ Q := by
  unfold amt
  rcases hsub with h | h
  · subst h
    by_cases h2 : m < 4503599627370496
    · rw [if_pos (by omega)]; simp
    · rw [if_neg (by omega), (by omega : (0 * 4503599627370496 + m) % 4503599627370496 = m - 4503599627370496), (by omega : (0 * 4503599627370496 + m) / 4503599627370496 - 1 = 0)]
      rw [(by omega : 4503599627370496 + (m - 4503599627370496) = m)]
  · rw [if_neg (by omega), (by omega : (Q * 4503599627370496 + m) % 4503599627370496 = m - 4503599627370496), (by omega : (Q * 4503599627370496 + m) / 4503599627370496 - 1 = Q)]
    rw [(by omega : 4503599627370496 + (m - 4503599627370496) = m)]

theorem rshort_word (w : World) {m Q d n i g r : Nat} {T dp : Int} (hm0 : 0 < m) (hm : m < 9007199254740992) (hQ : Q ≤ 2045) (hsub : Q = 0 ∨ 4503599627370496 ≤ m) (hf : Q * 4503599627370496 + m < 9218868437227405312) (sh : Shows m Q d n i g r T dp) :
    Calls Tryz.prog 21 #[.int .u64 ((Q * 4503599627370496 + m : Nat) : Int)] w fun e w' => e = .returned (.tuple #[.string ⟨(digsB d n r).toArray⟩, .int .i64 dp]) ∧ Below w.heap.size w w' := by
  obtain ⟨N, E, hN, hE, ⟨p1, p2, p3, p4⟩, hk, hno, hyes, hpos, hD, hEd⟩ := places hm0 hm hQ hsub hf sh
  have hr : rung (Q * 4503599627370496 + m) = Q * 4503599627370496 + m := by unfold rung; omega
  have hsg : sgnB (Q * 4503599627370496 + m) = false := by rw [← hr]; exact sgn_rung _
  have ha := amt_word (Q := Q) hm hsub
  have OF := of_read (Q * 4503599627370496 + m) (by omega) (by rw [hr]; exact hf) w
  rw [hr, hsg, ha] at OF
  rw [← hD, ← hEd]
  refine rshort_any (Q * 4503599627370496 + m) m N ((Q : Int) - 1074) E hm0 (by omega) (by omega) hE w ?_ ?_ hN hk hno hyes hpos
  · refine OF.mono ?_
    rintro e w' ⟨ao, l, c, m', k', rfl, h1, h2, h3, h4, h5, h6⟩
    obtain ⟨e1, e2⟩ := norm_one h2 h3 hm h5 hsub
    subst e1 e2
    exact ⟨ao, l, c, rfl, h1, h6⟩
  · intro xa xl xc w1 h1
    exact power_any xa xl xc m ((Q : Int) - 1074) E _ false w1 h1 (by omega) (by omega) rfl p4 p3 (by omega) (fun e _ he => p1 e he) p2
end Go.Proofs.YtbengmceiaejeaaGreatDoor
