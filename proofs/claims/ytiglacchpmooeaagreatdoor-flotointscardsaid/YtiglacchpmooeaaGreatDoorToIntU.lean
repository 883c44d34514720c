/- The reference's ToInt, the way 'up'. -/
import Derived.Test.YtiglacchpmooeaaGreatDoorToInt
namespace Go.Proofs.YtiglacchpmooeaaGreatDoor
open Go.ChangeShapes Go.WideShapes Go.ChangeAt Go.RowKit
open Ieee

theorem toInt_up_odd (u : Nat) (hu : u < 18446744073709551616) (hf : ¬ rung u < 9218868437227405312) (w : World) :
    Calls Tryz.prog 21 #[.int .u64 (u : Int), .int .i64 1] w fun e w' => e = .returned (.tuple #[.int .i64 (ansN .up u), .int .i64 (ansX .up u)]) ∧ Below w.heap.size w w' := by
  have N := rIsNaN_any u hu
  have I := rIsInf_any u hu
  unfold ansN ansX
  by_cases hn : nanB u = true
  · rw [hn] at N ⊢
    simp only [if_true]
    clear I hn hf
    go_enter Tryz.func21, Tryz.ntmps21
    go_wp2_with (go_at_call 25; refine (N _).mono ?_; rintro e w' ⟨rfl, rfl⟩)
    go_ret2
    exact ⟨rfl, Below.refl _ _⟩
  · have hi : infB u = true := by
      have h1 : nanB u = false := by simpa using hn
      unfold nanB at h1
      unfold infB
      simp at h1 ⊢
      omega
    rw [Bool.not_eq_true] at hn
    rw [hn] at N ⊢
    rw [hi] at I ⊢
    simp only [if_true, Bool.false_eq_true, if_false]
    clear hn hi hf
    go_enter Tryz.func21, Tryz.ntmps21
    go_wp2_with (first
      | (go_at_call 25; refine (N _).mono ?_; rintro e w' ⟨rfl, rfl⟩)
      | (go_at_call 26; refine (I _).mono ?_; rintro e w' ⟨rfl, rfl⟩))
    go_ret2
    exact ⟨rfl, Below.refl _ _⟩

theorem toInt_up_end {u : Nat} {V : Int} {s : Bool} {n : Nat} {w : World} (hv : V = if s then -(n : Int) else n)
    (h1 : (if s then n ≤ 4611686018427387904 else n < 4611686018427387904) → Calls Tryz.prog 21 #[.int .u64 (u : Int), .int .i64 1] w fun e w' => e = .returned (.tuple #[.int .i64 (if s then -(n : Int) else n), .int .i64 0]) ∧ Below w.heap.size w w')
    (h2 : (¬ if s then n ≤ 4611686018427387904 else n < 4611686018427387904) → Calls Tryz.prog 21 #[.int .u64 (u : Int), .int .i64 1] w fun e w' => e = .returned (.tuple #[.int .i64 0, .int .i64 10]) ∧ Below w.heap.size w w') :
    Calls Tryz.prog 21 #[.int .u64 (u : Int), .int .i64 1] w fun e w' => e = .returned (.tuple #[.int .i64 (if okW V then V else 0), .int .i64 (if okW V then 0 else 10)]) ∧ Below w.heap.size w w' := by
  subst hv
  by_cases hb : (if s then n ≤ 4611686018427387904 else n < 4611686018427387904)
  · have hok : okW (if s then -(n : Int) else n) = true := by
      unfold okW
      cases s <;> simp at hb ⊢ <;> omega
    rw [hok]
    exact h1 hb
  · have hok : okW (if s then -(n : Int) else n) = false := by
      unfold okW
      cases s <;> simp at hb ⊢ <;> omega
    rw [hok]
    exact h2 hb

set_option maxHeartbeats 8000000 in
theorem toInt_up_fin (u : Nat) (hu : u < 18446744073709551616) (hf : rung u < 9218868437227405312) (w : World) :
    Calls Tryz.prog 21 #[.int .u64 (u : Int), .int .i64 1] w fun e w' => e = .returned (.tuple #[.int .i64 (ansN .up u), .int .i64 (ansX .up u)]) ∧ Below w.heap.size w w' := by
  have N0 := rIsNaN_any u hu
  have I := rIsInf_any u hu
  have O := of_whole u hu hf
  have hN : nanB u = false := by unfold nanB; simp; omega
  have hI : infB u = false := by unfold infB; simp; omega
  obtain ⟨A1, A2⟩ := ans_fin (way := .up) hf
  rw [A1, A2]
  rw [hN] at N0
  rw [hI] at I
  clear A1 A2 hN hI hf hu
  have hv : vW .up u = if sgnB u then -((aU u + (moreW .up (sgnB u) (aU u) (pU u) EE).toNat : Nat) : Int) else ((aU u + (moreW .up (sgnB u) (aU u) (pU u) EE).toNat : Nat) : Int) := rfl
  have hh := half_cases (pU u)
  obtain ⟨s, es⟩ : ∃ s, sgnB u = s := ⟨_, rfl⟩
  obtain ⟨a, ea⟩ : ∃ a, aU u = a := ⟨_, rfl⟩
  obtain ⟨h, eh⟩ : ∃ h, hlf (pU u) EE = h := ⟨_, rfl⟩
  obtain ⟨p, ep⟩ : ∃ p, pU u = p := ⟨_, rfl⟩
  rw [es, ea, ep] at hv
  rw [es, ea, eh] at O
  rw [eh, ep] at hh
  obtain ⟨V, eV⟩ : ∃ V, vW .up u = V := ⟨_, rfl⟩
  rw [eV] at hv ⊢
  clear es ea eh ep eV
  by_cases ha : a < 9223372036854775808
  · rw [if_pos ha, if_pos ha, decide_eq_true ha] at O
    have tm : (a : Int).tmod 2 = ((a % 2 : Nat) : Int) := by rw [Int.tmod_eq_emod_of_nonneg (by omega)]; omega
    have te : (a : Int) % 2 = ((a % 2 : Nat) : Int) := by omega
    have wa : IntKind.u64.wrap ((a : Int) + 1) = ((a + 1 : Nat) : Int) := by rw [IntKind.wrap_u64]; omega
    have hG := EE_pos
    generalize EE = G at hG hh hv
    rcases hh with ⟨rfl, hp⟩ | ⟨rfl, hp, hq⟩ | ⟨rfl, hp, hq⟩ | ⟨rfl, hp, hq⟩
    · cases s
      · have hm : moreW .up false a p G = false := by unfold moreW; simp; try omega
        rw [hm] at hv
        obtain ⟨N, eN⟩ : ∃ N, a = N := ⟨_, rfl⟩
        subst eN
        have hv2 : V = (a : Int) := by rw [hv]; simp
        have h63 : a ≤ 9223372036854775808 := by omega
        clear hv hm hG hp ha
        refine toInt_up_end (s := false) (n := a) (hv2.trans (by simp)) ?_ ?_
        · intro hb
          simp only [Bool.false_eq_true, if_false] at hb ⊢
          have w1' : IntKind.i64.wrap (a : Int) = (a : Int) := by rw [IntKind.wrap_i64]; omega
          have w2' : IntKind.i64.wrap (-(a : Int)) = -(a : Int) := by rw [IntKind.wrap_i64]; omega
          have hd : decide ((a : Int) < 4611686018427387904) = true := decide_eq_true (by omega)
          go_enter Tryz.func21, Tryz.ntmps21
          go_wp2_with (first
      | (go_at_call 25; refine (N0 _).mono ?_; rintro e w' ⟨rfl, rfl⟩)
      | (go_at_call 26; refine (I _).mono ?_; rintro e w' ⟨rfl, rfl⟩)
      | (go_at_call 30; refine (O _).mono ?_; rintro e w1 ⟨ao, l, c, P, rfl, b1, WH⟩)
      | (go_at_call 42; refine (WH _ ((Below.refl _ _).alloc (Nat.le_refl _) _)).mono ?_; rintro e w2 ⟨rfl, b2⟩; obtain ⟨q0, _, _, _, _, _, BB, z⟩ := cell_kept b2; have B2 := b1.trans (BB.mono b1.size); clear b2 WH BB b1))
          go_ret2
          exact ⟨rfl, B2⟩
        · intro hb
          simp only [Bool.false_eq_true, if_false] at hb ⊢
          have hd : decide ((a : Int) < 4611686018427387904) = false := decide_eq_false (by omega)
          go_enter Tryz.func21, Tryz.ntmps21
          go_wp2_with (first
      | (go_at_call 25; refine (N0 _).mono ?_; rintro e w' ⟨rfl, rfl⟩)
      | (go_at_call 26; refine (I _).mono ?_; rintro e w' ⟨rfl, rfl⟩)
      | (go_at_call 30; refine (O _).mono ?_; rintro e w1 ⟨ao, l, c, P, rfl, b1, WH⟩)
      | (go_at_call 42; refine (WH _ ((Below.refl _ _).alloc (Nat.le_refl _) _)).mono ?_; rintro e w2 ⟨rfl, b2⟩; obtain ⟨q0, _, _, _, _, _, BB, z⟩ := cell_kept b2; have B2 := b1.trans (BB.mono b1.size); clear b2 WH BB b1))
          go_ret2
          exact ⟨rfl, B2⟩
      · have hm : moreW .up true a p G = false := by unfold moreW; simp; try omega
        rw [hm] at hv
        obtain ⟨N, eN⟩ : ∃ N, a = N := ⟨_, rfl⟩
        subst eN
        have hv2 : V = -(a : Int) := by rw [hv]; simp
        have h63 : a ≤ 9223372036854775808 := by omega
        clear hv hm hG hp ha
        refine toInt_up_end (s := true) (n := a) (hv2.trans (by simp)) ?_ ?_
        · intro hb
          simp only [if_true] at hb ⊢
          have w1' : IntKind.i64.wrap (a : Int) = (a : Int) := by rw [IntKind.wrap_i64]; omega
          have w2' : IntKind.i64.wrap (-(a : Int)) = -(a : Int) := by rw [IntKind.wrap_i64]; omega
          have hd : decide ((a : Int) ≤ 4611686018427387904) = true := decide_eq_true (by omega)
          go_enter Tryz.func21, Tryz.ntmps21
          go_wp2_with (first
      | (go_at_call 25; refine (N0 _).mono ?_; rintro e w' ⟨rfl, rfl⟩)
      | (go_at_call 26; refine (I _).mono ?_; rintro e w' ⟨rfl, rfl⟩)
      | (go_at_call 30; refine (O _).mono ?_; rintro e w1 ⟨ao, l, c, P, rfl, b1, WH⟩)
      | (go_at_call 42; refine (WH _ ((Below.refl _ _).alloc (Nat.le_refl _) _)).mono ?_; rintro e w2 ⟨rfl, b2⟩; obtain ⟨q0, _, _, _, _, _, BB, z⟩ := cell_kept b2; have B2 := b1.trans (BB.mono b1.size); clear b2 WH BB b1))
          go_ret2
          exact ⟨rfl, B2⟩
        · intro hb
          simp only [if_true] at hb ⊢
          have hd : decide ((a : Int) ≤ 4611686018427387904) = false := decide_eq_false (by omega)
          go_enter Tryz.func21, Tryz.ntmps21
          go_wp2_with (first
      | (go_at_call 25; refine (N0 _).mono ?_; rintro e w' ⟨rfl, rfl⟩)
      | (go_at_call 26; refine (I _).mono ?_; rintro e w' ⟨rfl, rfl⟩)
      | (go_at_call 30; refine (O _).mono ?_; rintro e w1 ⟨ao, l, c, P, rfl, b1, WH⟩)
      | (go_at_call 42; refine (WH _ ((Below.refl _ _).alloc (Nat.le_refl _) _)).mono ?_; rintro e w2 ⟨rfl, b2⟩; obtain ⟨q0, _, _, _, _, _, BB, z⟩ := cell_kept b2; have B2 := b1.trans (BB.mono b1.size); clear b2 WH BB b1))
          go_ret2
          exact ⟨rfl, B2⟩
    · cases s
      · have hm : moreW .up false a p G = true := by unfold moreW; simp; try omega
        rw [hm] at hv
        obtain ⟨N, eN⟩ : ∃ N, a + 1 = N := ⟨_, rfl⟩
        rw [eN] at wa
        have hv2 : V = (N : Int) := by rw [hv]; simp; omega
        have h63 : N ≤ 9223372036854775808 := by omega
        clear hv hm hG hq hp eN ha
        refine toInt_up_end (s := false) (n := N) (hv2.trans (by simp)) ?_ ?_
        · intro hb
          simp only [Bool.false_eq_true, if_false] at hb ⊢
          have w1' : IntKind.i64.wrap (N : Int) = (N : Int) := by rw [IntKind.wrap_i64]; omega
          have w2' : IntKind.i64.wrap (-(N : Int)) = -(N : Int) := by rw [IntKind.wrap_i64]; omega
          have hd : decide ((N : Int) < 4611686018427387904) = true := decide_eq_true (by omega)
          go_enter Tryz.func21, Tryz.ntmps21
          go_wp2_with (first
      | (go_at_call 25; refine (N0 _).mono ?_; rintro e w' ⟨rfl, rfl⟩)
      | (go_at_call 26; refine (I _).mono ?_; rintro e w' ⟨rfl, rfl⟩)
      | (go_at_call 30; refine (O _).mono ?_; rintro e w1 ⟨ao, l, c, P, rfl, b1, WH⟩)
      | (go_at_call 42; refine (WH _ ((Below.refl _ _).alloc (Nat.le_refl _) _)).mono ?_; rintro e w2 ⟨rfl, b2⟩; obtain ⟨q0, _, _, _, _, _, BB, z⟩ := cell_kept b2; have B2 := b1.trans (BB.mono b1.size); clear b2 WH BB b1))
          go_ret2
          exact ⟨rfl, B2⟩
        · intro hb
          simp only [Bool.false_eq_true, if_false] at hb ⊢
          have hd : decide ((N : Int) < 4611686018427387904) = false := decide_eq_false (by omega)
          go_enter Tryz.func21, Tryz.ntmps21
          go_wp2_with (first
      | (go_at_call 25; refine (N0 _).mono ?_; rintro e w' ⟨rfl, rfl⟩)
      | (go_at_call 26; refine (I _).mono ?_; rintro e w' ⟨rfl, rfl⟩)
      | (go_at_call 30; refine (O _).mono ?_; rintro e w1 ⟨ao, l, c, P, rfl, b1, WH⟩)
      | (go_at_call 42; refine (WH _ ((Below.refl _ _).alloc (Nat.le_refl _) _)).mono ?_; rintro e w2 ⟨rfl, b2⟩; obtain ⟨q0, _, _, _, _, _, BB, z⟩ := cell_kept b2; have B2 := b1.trans (BB.mono b1.size); clear b2 WH BB b1))
          go_ret2
          exact ⟨rfl, B2⟩
      · have hm : moreW .up true a p G = false := by unfold moreW; simp; try omega
        rw [hm] at hv
        obtain ⟨N, eN⟩ : ∃ N, a = N := ⟨_, rfl⟩
        subst eN
        have hv2 : V = -(a : Int) := by rw [hv]; simp
        have h63 : a ≤ 9223372036854775808 := by omega
        clear hv hm hG hq hp ha
        refine toInt_up_end (s := true) (n := a) (hv2.trans (by simp)) ?_ ?_
        · intro hb
          simp only [if_true] at hb ⊢
          have w1' : IntKind.i64.wrap (a : Int) = (a : Int) := by rw [IntKind.wrap_i64]; omega
          have w2' : IntKind.i64.wrap (-(a : Int)) = -(a : Int) := by rw [IntKind.wrap_i64]; omega
          have hd : decide ((a : Int) ≤ 4611686018427387904) = true := decide_eq_true (by omega)
          go_enter Tryz.func21, Tryz.ntmps21
          go_wp2_with (first
      | (go_at_call 25; refine (N0 _).mono ?_; rintro e w' ⟨rfl, rfl⟩)
      | (go_at_call 26; refine (I _).mono ?_; rintro e w' ⟨rfl, rfl⟩)
      | (go_at_call 30; refine (O _).mono ?_; rintro e w1 ⟨ao, l, c, P, rfl, b1, WH⟩)
      | (go_at_call 42; refine (WH _ ((Below.refl _ _).alloc (Nat.le_refl _) _)).mono ?_; rintro e w2 ⟨rfl, b2⟩; obtain ⟨q0, _, _, _, _, _, BB, z⟩ := cell_kept b2; have B2 := b1.trans (BB.mono b1.size); clear b2 WH BB b1))
          go_ret2
          exact ⟨rfl, B2⟩
        · intro hb
          simp only [if_true] at hb ⊢
          have hd : decide ((a : Int) ≤ 4611686018427387904) = false := decide_eq_false (by omega)
          go_enter Tryz.func21, Tryz.ntmps21
          go_wp2_with (first
      | (go_at_call 25; refine (N0 _).mono ?_; rintro e w' ⟨rfl, rfl⟩)
      | (go_at_call 26; refine (I _).mono ?_; rintro e w' ⟨rfl, rfl⟩)
      | (go_at_call 30; refine (O _).mono ?_; rintro e w1 ⟨ao, l, c, P, rfl, b1, WH⟩)
      | (go_at_call 42; refine (WH _ ((Below.refl _ _).alloc (Nat.le_refl _) _)).mono ?_; rintro e w2 ⟨rfl, b2⟩; obtain ⟨q0, _, _, _, _, _, BB, z⟩ := cell_kept b2; have B2 := b1.trans (BB.mono b1.size); clear b2 WH BB b1))
          go_ret2
          exact ⟨rfl, B2⟩
    · cases s
      · have hm : moreW .up false a p G = true := by unfold moreW; simp; try omega
        rw [hm] at hv
        obtain ⟨N, eN⟩ : ∃ N, a + 1 = N := ⟨_, rfl⟩
        rw [eN] at wa
        have hv2 : V = (N : Int) := by rw [hv]; simp; omega
        have h63 : N ≤ 9223372036854775808 := by omega
        clear hv hm hG hq hp eN ha
        refine toInt_up_end (s := false) (n := N) (hv2.trans (by simp)) ?_ ?_
        · intro hb
          simp only [Bool.false_eq_true, if_false] at hb ⊢
          have w1' : IntKind.i64.wrap (N : Int) = (N : Int) := by rw [IntKind.wrap_i64]; omega
          have w2' : IntKind.i64.wrap (-(N : Int)) = -(N : Int) := by rw [IntKind.wrap_i64]; omega
          have hd : decide ((N : Int) < 4611686018427387904) = true := decide_eq_true (by omega)
          go_enter Tryz.func21, Tryz.ntmps21
          go_wp2_with (first
      | (go_at_call 25; refine (N0 _).mono ?_; rintro e w' ⟨rfl, rfl⟩)
      | (go_at_call 26; refine (I _).mono ?_; rintro e w' ⟨rfl, rfl⟩)
      | (go_at_call 30; refine (O _).mono ?_; rintro e w1 ⟨ao, l, c, P, rfl, b1, WH⟩)
      | (go_at_call 42; refine (WH _ ((Below.refl _ _).alloc (Nat.le_refl _) _)).mono ?_; rintro e w2 ⟨rfl, b2⟩; obtain ⟨q0, _, _, _, _, _, BB, z⟩ := cell_kept b2; have B2 := b1.trans (BB.mono b1.size); clear b2 WH BB b1))
          go_ret2
          exact ⟨rfl, B2⟩
        · intro hb
          simp only [Bool.false_eq_true, if_false] at hb ⊢
          have hd : decide ((N : Int) < 4611686018427387904) = false := decide_eq_false (by omega)
          go_enter Tryz.func21, Tryz.ntmps21
          go_wp2_with (first
      | (go_at_call 25; refine (N0 _).mono ?_; rintro e w' ⟨rfl, rfl⟩)
      | (go_at_call 26; refine (I _).mono ?_; rintro e w' ⟨rfl, rfl⟩)
      | (go_at_call 30; refine (O _).mono ?_; rintro e w1 ⟨ao, l, c, P, rfl, b1, WH⟩)
      | (go_at_call 42; refine (WH _ ((Below.refl _ _).alloc (Nat.le_refl _) _)).mono ?_; rintro e w2 ⟨rfl, b2⟩; obtain ⟨q0, _, _, _, _, _, BB, z⟩ := cell_kept b2; have B2 := b1.trans (BB.mono b1.size); clear b2 WH BB b1))
          go_ret2
          exact ⟨rfl, B2⟩
      · have hm : moreW .up true a p G = false := by unfold moreW; simp; try omega
        rw [hm] at hv
        obtain ⟨N, eN⟩ : ∃ N, a = N := ⟨_, rfl⟩
        subst eN
        have hv2 : V = -(a : Int) := by rw [hv]; simp
        have h63 : a ≤ 9223372036854775808 := by omega
        clear hv hm hG hq hp ha
        refine toInt_up_end (s := true) (n := a) (hv2.trans (by simp)) ?_ ?_
        · intro hb
          simp only [if_true] at hb ⊢
          have w1' : IntKind.i64.wrap (a : Int) = (a : Int) := by rw [IntKind.wrap_i64]; omega
          have w2' : IntKind.i64.wrap (-(a : Int)) = -(a : Int) := by rw [IntKind.wrap_i64]; omega
          have hd : decide ((a : Int) ≤ 4611686018427387904) = true := decide_eq_true (by omega)
          go_enter Tryz.func21, Tryz.ntmps21
          go_wp2_with (first
      | (go_at_call 25; refine (N0 _).mono ?_; rintro e w' ⟨rfl, rfl⟩)
      | (go_at_call 26; refine (I _).mono ?_; rintro e w' ⟨rfl, rfl⟩)
      | (go_at_call 30; refine (O _).mono ?_; rintro e w1 ⟨ao, l, c, P, rfl, b1, WH⟩)
      | (go_at_call 42; refine (WH _ ((Below.refl _ _).alloc (Nat.le_refl _) _)).mono ?_; rintro e w2 ⟨rfl, b2⟩; obtain ⟨q0, _, _, _, _, _, BB, z⟩ := cell_kept b2; have B2 := b1.trans (BB.mono b1.size); clear b2 WH BB b1))
          go_ret2
          exact ⟨rfl, B2⟩
        · intro hb
          simp only [if_true] at hb ⊢
          have hd : decide ((a : Int) ≤ 4611686018427387904) = false := decide_eq_false (by omega)
          go_enter Tryz.func21, Tryz.ntmps21
          go_wp2_with (first
      | (go_at_call 25; refine (N0 _).mono ?_; rintro e w' ⟨rfl, rfl⟩)
      | (go_at_call 26; refine (I _).mono ?_; rintro e w' ⟨rfl, rfl⟩)
      | (go_at_call 30; refine (O _).mono ?_; rintro e w1 ⟨ao, l, c, P, rfl, b1, WH⟩)
      | (go_at_call 42; refine (WH _ ((Below.refl _ _).alloc (Nat.le_refl _) _)).mono ?_; rintro e w2 ⟨rfl, b2⟩; obtain ⟨q0, _, _, _, _, _, BB, z⟩ := cell_kept b2; have B2 := b1.trans (BB.mono b1.size); clear b2 WH BB b1))
          go_ret2
          exact ⟨rfl, B2⟩
    · cases s
      · have hm : moreW .up false a p G = true := by unfold moreW; simp; try omega
        rw [hm] at hv
        obtain ⟨N, eN⟩ : ∃ N, a + 1 = N := ⟨_, rfl⟩
        rw [eN] at wa
        have hv2 : V = (N : Int) := by rw [hv]; simp; omega
        have h63 : N ≤ 9223372036854775808 := by omega
        clear hv hm hG hq hp eN ha
        refine toInt_up_end (s := false) (n := N) (hv2.trans (by simp)) ?_ ?_
        · intro hb
          simp only [Bool.false_eq_true, if_false] at hb ⊢
          have w1' : IntKind.i64.wrap (N : Int) = (N : Int) := by rw [IntKind.wrap_i64]; omega
          have w2' : IntKind.i64.wrap (-(N : Int)) = -(N : Int) := by rw [IntKind.wrap_i64]; omega
          have hd : decide ((N : Int) < 4611686018427387904) = true := decide_eq_true (by omega)
          go_enter Tryz.func21, Tryz.ntmps21
          go_wp2_with (first
      | (go_at_call 25; refine (N0 _).mono ?_; rintro e w' ⟨rfl, rfl⟩)
      | (go_at_call 26; refine (I _).mono ?_; rintro e w' ⟨rfl, rfl⟩)
      | (go_at_call 30; refine (O _).mono ?_; rintro e w1 ⟨ao, l, c, P, rfl, b1, WH⟩)
      | (go_at_call 42; refine (WH _ ((Below.refl _ _).alloc (Nat.le_refl _) _)).mono ?_; rintro e w2 ⟨rfl, b2⟩; obtain ⟨q0, _, _, _, _, _, BB, z⟩ := cell_kept b2; have B2 := b1.trans (BB.mono b1.size); clear b2 WH BB b1))
          go_ret2
          exact ⟨rfl, B2⟩
        · intro hb
          simp only [Bool.false_eq_true, if_false] at hb ⊢
          have hd : decide ((N : Int) < 4611686018427387904) = false := decide_eq_false (by omega)
          go_enter Tryz.func21, Tryz.ntmps21
          go_wp2_with (first
      | (go_at_call 25; refine (N0 _).mono ?_; rintro e w' ⟨rfl, rfl⟩)
      | (go_at_call 26; refine (I _).mono ?_; rintro e w' ⟨rfl, rfl⟩)
      | (go_at_call 30; refine (O _).mono ?_; rintro e w1 ⟨ao, l, c, P, rfl, b1, WH⟩)
      | (go_at_call 42; refine (WH _ ((Below.refl _ _).alloc (Nat.le_refl _) _)).mono ?_; rintro e w2 ⟨rfl, b2⟩; obtain ⟨q0, _, _, _, _, _, BB, z⟩ := cell_kept b2; have B2 := b1.trans (BB.mono b1.size); clear b2 WH BB b1))
          go_ret2
          exact ⟨rfl, B2⟩
      · have hm : moreW .up true a p G = false := by unfold moreW; simp; try omega
        rw [hm] at hv
        obtain ⟨N, eN⟩ : ∃ N, a = N := ⟨_, rfl⟩
        subst eN
        have hv2 : V = -(a : Int) := by rw [hv]; simp
        have h63 : a ≤ 9223372036854775808 := by omega
        clear hv hm hG hq hp ha
        refine toInt_up_end (s := true) (n := a) (hv2.trans (by simp)) ?_ ?_
        · intro hb
          simp only [if_true] at hb ⊢
          have w1' : IntKind.i64.wrap (a : Int) = (a : Int) := by rw [IntKind.wrap_i64]; omega
          have w2' : IntKind.i64.wrap (-(a : Int)) = -(a : Int) := by rw [IntKind.wrap_i64]; omega
          have hd : decide ((a : Int) ≤ 4611686018427387904) = true := decide_eq_true (by omega)
          go_enter Tryz.func21, Tryz.ntmps21
          go_wp2_with (first
      | (go_at_call 25; refine (N0 _).mono ?_; rintro e w' ⟨rfl, rfl⟩)
      | (go_at_call 26; refine (I _).mono ?_; rintro e w' ⟨rfl, rfl⟩)
      | (go_at_call 30; refine (O _).mono ?_; rintro e w1 ⟨ao, l, c, P, rfl, b1, WH⟩)
      | (go_at_call 42; refine (WH _ ((Below.refl _ _).alloc (Nat.le_refl _) _)).mono ?_; rintro e w2 ⟨rfl, b2⟩; obtain ⟨q0, _, _, _, _, _, BB, z⟩ := cell_kept b2; have B2 := b1.trans (BB.mono b1.size); clear b2 WH BB b1))
          go_ret2
          exact ⟨rfl, B2⟩
        · intro hb
          simp only [if_true] at hb ⊢
          have hd : decide ((a : Int) ≤ 4611686018427387904) = false := decide_eq_false (by omega)
          go_enter Tryz.func21, Tryz.ntmps21
          go_wp2_with (first
      | (go_at_call 25; refine (N0 _).mono ?_; rintro e w' ⟨rfl, rfl⟩)
      | (go_at_call 26; refine (I _).mono ?_; rintro e w' ⟨rfl, rfl⟩)
      | (go_at_call 30; refine (O _).mono ?_; rintro e w1 ⟨ao, l, c, P, rfl, b1, WH⟩)
      | (go_at_call 42; refine (WH _ ((Below.refl _ _).alloc (Nat.le_refl _) _)).mono ?_; rintro e w2 ⟨rfl, b2⟩; obtain ⟨q0, _, _, _, _, _, BB, z⟩ := cell_kept b2; have B2 := b1.trans (BB.mono b1.size); clear b2 WH BB b1))
          go_ret2
          exact ⟨rfl, B2⟩
  · have hok : okW V = false := by
      unfold okW
      rw [hv]
      simp
      split <;> omega
    rw [if_neg ha, if_neg ha, decide_eq_false ha] at O
    rw [hok]
    simp only [Bool.false_eq_true, if_false]
    clear hok hv hh ha
    go_enter Tryz.func21, Tryz.ntmps21
    go_wp2_with (first
      | (go_at_call 25; refine (N0 _).mono ?_; rintro e w' ⟨rfl, rfl⟩)
      | (go_at_call 26; refine (I _).mono ?_; rintro e w' ⟨rfl, rfl⟩)
      | (go_at_call 30; refine (O _).mono ?_; rintro e w1 ⟨ao, l, c, P, rfl, b1, WH⟩)
      | (go_at_call 42; refine (WH _ ((Below.refl _ _).alloc (Nat.le_refl _) _)).mono ?_; rintro e w2 ⟨rfl, b2⟩; obtain ⟨q0, _, _, _, _, _, BB, z⟩ := cell_kept b2; have B2 := b1.trans (BB.mono b1.size); clear b2 WH BB b1))
    go_ret2
    exact ⟨rfl, B2⟩

theorem toInt_up (u : Nat) (hu : u < 18446744073709551616) (w : World) :
    Calls Tryz.prog 21 #[.int .u64 (u : Int), .int .i64 1] w fun e w' => e = .returned (.tuple #[.int .i64 (ansN .up u), .int .i64 (ansX .up u)]) ∧ Below w.heap.size w w' := by
  by_cases hf : rung u < 9218868437227405312
  · exact toInt_up_fin u hu hf w
  · exact toInt_up_odd u hu hf w
end Go.Proofs.YtiglacchpmooeaaGreatDoor
