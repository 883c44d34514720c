/- The reference's Of: a finite real's number. -/
import Derived.Test.YtbengmceiaejeaaGreatDoorBigK
import Derived.Test.YtbengmceiaejeaaGreatDoorWhole
import Derived.Laws.Rows
namespace Go.Proofs.YtbengmceiaejeaaGreatDoor
open Go.ChangeShapes Go.WideShapes Go.ChangeAt Go.RowKit
open Ieee

theorem mask11' (a : Nat) (ha : a < 18446744073709551616) : bits .and .u64 (a : Int) 2047 = ((a % 2048 : Nat) : Int) := by
  have h := u64_and a 2047 ha (by decide)
  rw [show ((2047 : Nat) : Int) = 2047 from rfl] at h
  rw [h, show (2047 : Nat) = 2 ^ 11 - 1 by decide, Nat.and_two_pow_sub_one_eq_mod]
theorem mask52' (a : Nat) (ha : a < 18446744073709551616) : bits .and .u64 (a : Int) 4503599627370495 = ((a % 4503599627370496 : Nat) : Int) := by
  have h := u64_and a 4503599627370495 ha (by decide)
  rw [show ((4503599627370495 : Nat) : Int) = 4503599627370495 from rfl] at h
  rw [h, show (4503599627370495 : Nat) = 2 ^ 52 - 1 by decide, Nat.and_two_pow_sub_one_eq_mod]
theorem or52' (m : Nat) (h : m < 4503599627370496) : bits .or .u64 (m : Int) 4503599627370496 = ((m + 4503599627370496 : Nat) : Int) := by
  have h1 := u64_or m 4503599627370496 (by omega) (by decide)
  rw [show ((4503599627370496 : Nat) : Int) = 4503599627370496 from rfl] at h1
  rw [h1]
  have h2 : 2 ^ 52 * 1 + m = 2 ^ 52 * 1 ||| m := Nat.two_pow_add_eq_or_of_lt h 1
  rw [Nat.mul_one] at h2
  have e : (4503599627370496 : Nat) = 2 ^ 52 := by decide
  rw [e, Nat.or_comm, ← h2, Nat.add_comm]

theorem amt_form {w : World} {v : Value} {n : Nat} (h : IsAmt w v n) : ∃ ao l c, v = .slice ao l c := by
  obtain ⟨ds, rr, _⟩ := h
  obtain ⟨ao, c, e⟩ := rr.form
  exact ⟨ao, _, c, e⟩

theorem cell_kept {w w1 : World} {c0 c1 c2 : Value} {t : TypeId} (h : Below (w.alloc (.cells #[c0, c1, c2] t)).heap.size (w.alloc (.cells #[c0, c1, c2] t)) w1) : w1.cell? ⟨w.heap.size, 0, none⟩ = some c0 ∧ w1.cell? ⟨w.heap.size, 1, none⟩ = some c1 ∧ w1.cell? ⟨w.heap.size, 2, none⟩ = some c2 ∧ w1.frozen? ⟨w.heap.size, 0, none⟩ = false ∧ w1.frozen? ⟨w.heap.size, 1, none⟩ = false ∧ w1.frozen? ⟨w.heap.size, 2, none⟩ = false ∧ Below w.heap.size w w1 ∧ w.heap.size < w1.heap.size := by
  have hs : w.heap.size < (w.alloc (.cells #[c0, c1, c2] t)).heap.size := by simp
  refine ⟨?_, ?_, ?_, ?_, ?_, ?_, ((Below.refl _ _).alloc (Nat.le_refl _) _).trans (h.mono (by omega)), Nat.lt_of_lt_of_le hs h.size⟩
  · rw [h.cell (p := ⟨w.heap.size, 0, none⟩) hs]; simp
  · rw [h.cell (p := ⟨w.heap.size, 1, none⟩) hs]; simp
  · rw [h.cell (p := ⟨w.heap.size, 2, none⟩) hs]; simp
  · rw [h.frozen (p := ⟨w.heap.size, 0, none⟩) hs]; simp
  · rw [h.frozen (p := ⟨w.heap.size, 1, none⟩) hs]; simp
  · rw [h.frozen (p := ⟨w.heap.size, 2, none⟩) hs]; simp

/-- The struct that is handed back, once its three cells are written. -/
theorem of_end {w w1 : World} {c0 c1 c2 : Value} {t : TypeId} (h : Below (w.alloc (.cells #[c0, c1, c2] t)).heap.size (w.alloc (.cells #[c0, c1, c2] t)) w1) {v : Value} {m : Nat} (am : IsAmt w1 v m) (fr : ∀ g, v.ownBlock = some g → (w.alloc (.cells #[c0, c1, c2] t)).heap.size ≤ g) (b p : Value) :
    (((w1.setCell ⟨w.heap.size, 0, none⟩ b).setCell ⟨w.heap.size, 1, none⟩ v).setCell ⟨w.heap.size, 2, none⟩ p).heap[w.heap.size]? = some (.cells #[b, v, p] t (0, 0)) ∧
    IsAmt (((w1.setCell ⟨w.heap.size, 0, none⟩ b).setCell ⟨w.heap.size, 1, none⟩ v).setCell ⟨w.heap.size, 2, none⟩ p) v m ∧
    Below w.heap.size w (((w1.setCell ⟨w.heap.size, 0, none⟩ b).setCell ⟨w.heap.size, 1, none⟩ v).setCell ⟨w.heap.size, 2, none⟩ p) := by
  have hs : w.heap.size < (w.alloc (.cells #[c0, c1, c2] t)).heap.size := by simp
  have hq : ∀ g, v.ownBlock = some g → g ≠ w.heap.size := fun g hg => by have := fr g hg; omega
  have h0 : w1.heap[w.heap.size]? = some (.cells #[c0, c1, c2] t (0, 0)) := by rw [h.block _ hs, heap_alloc_new]
  have h1 := heap_setCell_same w1 w.heap.size 0 _ t b h0
  have h2 := heap_setCell_same _ w.heap.size 1 _ t v h1
  have h3 := heap_setCell_same _ w.heap.size 2 _ t p h2
  refine ⟨h3.trans (by simp), ((am.setCell hq).setCell hq).setCell hq, ?_⟩
  have b0 : Below w.heap.size w w1 := ((Below.refl _ _).alloc (Nat.le_refl _) _).trans (h.mono (by omega))
  exact ((b0.setCell (Nat.le_refl _) _).setCell (Nat.le_refl _) _).setCell (Nat.le_refl _) _

/-- A finite real's number: m times 2^(k - 1074). -/
theorem of_read (u : Nat) (hu : u < 18446744073709551616) (hf : rung u < 9218868437227405312) (w : World) : Calls Tryz.prog 46 #[.int .u64 (u : Int)] w fun e w' => ∃ ao l c m k, e = .returned (.agg #[.bool (sgnB u), .slice ao l c, .int .i64 ((k : Nat) - 1074 : Int)]) ∧ IsAmt w' (.slice ao l c) m ∧ m * 2 ^ k = amt (rung u) ∧ m < 9007199254740992 ∧ k ≤ 2045 ∧ (k = 0 ∨ 4503599627370496 ≤ m) ∧ Below w.heap.size w w' := by
  have f1 : u / 4503599627370496 % 2048 = rung u / 4503599627370496 := by unfold rung; omega
  have f2 : u % 4503599627370496 = rung u % 4503599627370496 := by unfold rung; omega
  have b1 : bits .and .u64 ((u : Int) / 4503599627370496) 2047 = ((rung u / 4503599627370496 : Nat) : Int) := by
    have := mask11' (u / 4503599627370496) (by omega)
    rw [f1] at this
    rw [← this]
    rfl
  have b2 : bits .and .u64 (u : Int) 4503599627370495 = ((rung u % 4503599627370496 : Nat) : Int) := by rw [mask52' u hu, f2]
  have b3 := u64_and_sign u hu
  have hamt := hide (rfl : amt (rung u) = amt (rung u))
  obtain ⟨ρ, eρ⟩ : ∃ ρ, rung u = ρ := ⟨_, rfl⟩
  rw [eρ] at b1 b2 hf ⊢
  clear f1 f2 eρ hamt
  rcases Nat.lt_or_ge ρ 4503599627370496 with hs | hb
  · have d0 : ρ / 4503599627370496 = 0 := by omega
    have d1 : ρ % 4503599627370496 = ρ := by omega
    rw [d0] at b1
    rw [d1] at b2
    have SM := small_any ρ (by omega)
    have HA : Hid (ρ * 2 ^ 0 = amt ρ) := hide (by rw [amt_small hs, Nat.pow_zero, Nat.mul_one])
    clear d0 d1
    cases sg : sgnB u
    · rw [sg, if_neg (by simp)] at b3
      go_enter Tryz.func46, Tryz.ntmps46
      go_wp2_with (go_at_call 24; refine (SM _).mono ?_; rintro e w1 ⟨v, rfl, h1, b4, fr⟩; obtain ⟨ao, l1, c1, rfl⟩ := amt_form h1; obtain ⟨q0, q1, q2, r0, r1, r2, BW, z1⟩ := cell_kept b4; have XE := hide (of_end b4 h1 fr); clear b4 fr)
      obtain ⟨y1, y2, y3⟩ := XE.out (.bool false) (.int .i64 (-1074))
      refine bodyPost_ret (results_cell_row rfl _ _ w.heap.size _ _ _ _ rfl y1 Tryz.underlying72 rfl (by kernel_rfl)) rfl ?_
      exact ⟨ao, l1, c1, ρ, 0, rfl, y2, HA.out, by omega, by omega, Or.inl rfl, y3⟩
    · rw [sg, if_pos rfl] at b3
      go_enter Tryz.func46, Tryz.ntmps46
      go_wp2_with (go_at_call 24; refine (SM _).mono ?_; rintro e w1 ⟨v, rfl, h1, b4, fr⟩; obtain ⟨ao, l1, c1, rfl⟩ := amt_form h1; obtain ⟨q0, q1, q2, r0, r1, r2, BW, z1⟩ := cell_kept b4; have XE := hide (of_end b4 h1 fr); clear b4 fr)
      obtain ⟨y1, y2, y3⟩ := XE.out (.bool true) (.int .i64 (-1074))
      refine bodyPost_ret (results_cell_row rfl _ _ w.heap.size _ _ _ _ rfl y1 Tryz.underlying72 rfl (by kernel_rfl)) rfl ?_
      exact ⟨ao, l1, c1, ρ, 0, rfl, y2, HA.out, by omega, by omega, Or.inl rfl, y3⟩
  · have HA : Hid ((ρ % 4503599627370496 + 4503599627370496) * 2 ^ (ρ / 4503599627370496 - 1) = amt ρ) := by
      have e : ρ = (ρ / 4503599627370496 - 1) * 4503599627370496 + (ρ % 4503599627370496 + 4503599627370496) := by omega
      exact ((congrArg amt e).trans (amt_of _ _ (by omega) (by omega))).symm
    have b5 := or52' (ρ % 4503599627370496) (by omega)
    have hM : ρ % 4503599627370496 + 4503599627370496 < 9007199254740992 := by omega
    have hk1 : ρ / 4503599627370496 < 2047 := by omega
    have hk0 : 1 ≤ ρ / 4503599627370496 := by omega
    obtain ⟨e, ee⟩ : ∃ e, ρ / 4503599627370496 = e := ⟨_, rfl⟩
    obtain ⟨d, ed⟩ : ∃ d, ρ % 4503599627370496 = d := ⟨_, rfl⟩
    rw [ee] at b1 HA hk1 hk0
    rw [ed] at b2 b5 HA hM
    obtain ⟨m, em⟩ : ∃ m, d + 4503599627370496 = m := ⟨_, rfl⟩
    rw [em] at b5 HA hM
    have SM := small_any m (by omega)
    have e0 : ((e : Int) == 0) = false := by simp; omega
    have we : IntKind.i64.wrap (e : Int) = (e : Int) := by rw [IntKind.wrap_i64]; omega
    have we2 : IntKind.i64.wrap ((e : Int) - 1075) = (e : Int) - 1075 := by rw [IntKind.wrap_i64]; omega
    have HE : Hid ((e : Int) - 1075 = ((e - 1 : Nat) : Int) - 1074) := hide (by omega)
    have HK : Hid (e - 1 ≤ 2045) := hide (by omega)
    have HP : Hid (4503599627370496 ≤ m) := hide (by omega)
    clear ee ed em hf hb hk0
    cases sg : sgnB u
    · rw [sg, if_neg (by simp)] at b3
      go_enter Tryz.func46, Tryz.ntmps46
      go_wp2_with (go_at_call 24; refine (SM _).mono ?_; rintro e w1 ⟨v, rfl, h1, b4, fr⟩; obtain ⟨ao, l1, c1, rfl⟩ := amt_form h1; obtain ⟨q0, q1, q2, r0, r1, r2, BW, z1⟩ := cell_kept b4; have XE := hide (of_end b4 h1 fr); clear b4 fr)
      obtain ⟨y1, y2, y3⟩ := XE.out (.bool false) (.int .i64 ((e : Int) - 1075))
      refine bodyPost_ret (results_cell_row rfl _ _ w.heap.size _ _ _ _ rfl y1 Tryz.underlying72 rfl (by kernel_rfl)) rfl ?_
      exact ⟨ao, l1, c1, m, e - 1, by rw [← HE.out], y2, HA.out, hM, HK.out, Or.inr HP.out, y3⟩
    · rw [sg, if_pos rfl] at b3
      go_enter Tryz.func46, Tryz.ntmps46
      go_wp2_with (go_at_call 24; refine (SM _).mono ?_; rintro e w1 ⟨v, rfl, h1, b4, fr⟩; obtain ⟨ao, l1, c1, rfl⟩ := amt_form h1; obtain ⟨q0, q1, q2, r0, r1, r2, BW, z1⟩ := cell_kept b4; have XE := hide (of_end b4 h1 fr); clear b4 fr)
      obtain ⟨y1, y2, y3⟩ := XE.out (.bool true) (.int .i64 ((e : Int) - 1075))
      refine bodyPost_ret (results_cell_row rfl _ _ w.heap.size _ _ _ _ rfl y1 Tryz.underlying72 rfl (by kernel_rfl)) rfl ?_
      exact ⟨ao, l1, c1, m, e - 1, by rw [← HE.out], y2, HA.out, hM, HK.out, Or.inr HP.out, y3⟩
end Go.Proofs.YtbengmceiaejeaaGreatDoor
