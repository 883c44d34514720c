/- The program's digits of any number above 0. -/
import Derived.Test.YtbengmceiaejeaaGreatDoorFtX4
namespace Go.Proofs.YtbengmceiaejeaaGreatDoor
open Go.ChangeShapes Go.WideShapes Go.ChangeAt Go.RowKit

theorem pre_len (d n r : Nat) : (preB d n r).length ≤ r + 2 := by
  unfold preB tailB
  split
  · simp
  · simp

theorem eB_len (d n r : Nat) (E : Int) : (eB d n r E).length ≤ r + 7 := by
  have h1 := pre_len d n r
  have h2 := exp_size (X := E.natAbs)
  unfold eB
  simp
  omega

theorem cut_any (w : World) (R : RdyT w) (d n r : Nat) (E : Int) (hr : r ≤ 20) :
    Calls Tryz.prog 34 #[.string ⟨(eB d n r E).toArray⟩, .string ⟨#[101]⟩] w fun e w' => e = .returned (.tuple #[.string ⟨(preB d n r).toArray⟩, .string ⟨(sgB E :: expB E.natAbs).toArray⟩, .bool true]) ∧ Below w.heap.size w w' := by
  obtain ⟨m, hm⟩ := R.m
  have hl := eB_len d n r E
  refine (Tryz.strings_Cut _ _ m w (by show (eB d n r E).toArray.size < _; simp; omega) hm).mono ?_
  rintro e w' ⟨rfl, k, rfl⟩
  refine ⟨?_, below_drewN _ _ _⟩
  show Ending.returned (.tuple #[.string ⟨(Lib.cut (eB d n r E).toArray.toList [101]).1.toArray⟩, .string ⟨(Lib.cut (eB d n r E).toArray.toList [101]).2.1.toArray⟩, .bool (Lib.cut (eB d n r E).toArray.toList [101]).2.2]) = _
  rw [List.toList_toArray, cut_e]

theorem atoi_any (w : World) (E : Int) (hE : E.natAbs < 400) :
    Calls Tryz.prog 36 #[.string ⟨(sgB E :: expB E.natAbs).toArray⟩] w fun e w' => e = .returned (.tuple #[.int .i64 E, .nilIface]) ∧ Below w.heap.size w w' := by
  have h2 := exp_size (X := E.natAbs)
  refine (Tryz.strconv_Atoi _ E ?_ ?_ w).mono ?_
  · show (sgB E :: expB E.natAbs).toArray.size ≤ 18
    simp
    omega
  · show Lib.atoi (sgB E :: expB E.natAbs).toArray.toList = some E
    rw [List.toList_toArray, atoi_exp hE]
  · rintro e w' ⟨rfl, t, rfl⟩
    exact ⟨rfl, ⟨rfl, rfl, rfl, by rw [Lib.bytesWorld_size]; omega, fun k hk => Lib.bytesWorld_at_old _ _ _ _ hk⟩⟩

theorem repl_any (w : World) (R : RdyT w) (d n r : Nat) (hr : r ≤ 20) :
    Calls Tryz.prog 37 #[.string ⟨(preB d n r).toArray⟩, .string ⟨#[46]⟩, .string ⟨#[]⟩, .int .i64 1] w fun e w' => e = .returned (.string ⟨(digsB d n r).toArray⟩) ∧ Below w.heap.size w w' := by
  obtain ⟨m, hm⟩ := R.m
  have hl := pre_len d n r
  refine (Tryz.strings_Replace _ _ _ _ m w ?_ hm (by decide) ?_).mono ?_
  · show (preB d n r).toArray.size < _
    simp
    omega
  · show (preB d n r).toArray.size + _ * 0 ≤ _
    simp
    omega
  · rintro e w' ⟨rfl, b⟩
    refine ⟨?_, b⟩
    show Ending.returned (.string ⟨(Lib.replace (preB d n r).toArray.toList [46] [] 1).toArray⟩) = _
    rw [List.toList_toArray, replace_pre]

theorem shows_small {m Q d n i g r : Nat} {T dp : Int} (hm0 : 0 < m) (hm : m < 9007199254740992) (hQ : Q ≤ 2045) (hsub : Q = 0 ∨ 4503599627370496 ≤ m) (sh : Shows m Q d n i g r T dp) : d < 100000000000000000 ∧ 1 ≤ d ∧ n ≤ 17 ∧ (-341 ≤ T ∧ T ≤ 341) ∧ -341 ≤ dp ∧ dp ≤ 360 := by
  obtain ⟨_, h1, h2, h3⟩ := short_bound hm0 hm hQ hsub
  have hub := unit_bound (m := m) hQ
  obtain ⟨sd, st, sn, sg, sg10, sr, sdp⟩ := sh
  have hd1 : 1 ≤ d := by omega
  have hn17 : n ≤ 17 := by
    rcases Nat.lt_or_ge 17 n with h | h
    · exfalso
      have key : ∀ u, 1 ≤ u → 10 ^ (Lib.nDigits u - 1) ≤ u := by
        intro u
        induction u using Nat.strongRecOn with
        | _ u ih =>
          intro hu1
          by_cases hu : u < 10
          · rw [Lib.nDigits_small hu]; simpa using hu1
          · rw [Lib.nDigits_big hu]
            have := ih (u / 10) (by omega) (by omega)
            have hp := Lib.nDigits_pos (u / 10)
            rw [show Lib.nDigits (u / 10) + 1 - 1 = (Lib.nDigits (u / 10) - 1) + 1 by omega, Nat.pow_succ]
            omega
      have h5 := key d hd1
      rw [← sn] at h5
      have h6 : 10 ^ 17 ≤ 10 ^ (n - 1) := Nat.pow_le_pow_right (by decide) (by omega)
      omega
    · exact h
  exact ⟨by omega, hd1, hn17, by omega, by omega, by omega⟩

theorem pshort_any (w : World) (R : RdyT w) {m Q : Nat} (hm0 : 0 < m) (hm : m < 9007199254740992) (hQ : Q ≤ 2045) (hsub : Q = 0 ∨ 4503599627370496 ≤ m) {d n i g r : Nat} {T dp : Int} (sh : Shows m Q d n i g r T dp) :
    Calls Tryz.prog 15 #[.float .f64 (Q * 4503599627370496 + m)] w fun e w' => e = .returned (.tuple #[.string ⟨(digsB d n r).toArray⟩, .int .i64 dp]) ∧ Below w.heap.size w w' := by
  obtain ⟨s1, s2, s3, s4, s5⟩ := shows_small hm0 hm hQ hsub sh
  have hr20 : r ≤ 20 := by have := sh.hr; omega
  have FF := Format_any w R hm0 hm hQ hsub sh
  have CU := fun (w1 : World) (R1 : RdyT w1) => cut_any w1 R1 d n r (dp - 1) hr20
  have AT := fun (w1 : World) => atoi_any w1 (dp - 1) (by omega)
  have RP := fun (w1 : World) (R1 : RdyT w1) => repl_any w1 R1 d n r hr20
  obtain ⟨u, eu⟩ : ∃ u, Q * 4503599627370496 + m = u := ⟨_, rfl⟩
  rw [eu] at FF ⊢
  obtain ⟨E, eE⟩ : ∃ E, dp - 1 = E := ⟨_, rfl⟩
  rw [eE] at FF CU AT
  have hE1 : E + 1 = dp := by omega
  obtain ⟨L, eL⟩ : ∃ L, (eB d n r E).toArray = L := ⟨_, rfl⟩
  obtain ⟨PB, ePB⟩ : ∃ L, (preB d n r).toArray = L := ⟨_, rfl⟩
  obtain ⟨XB, eXB⟩ : ∃ L, (sgB E :: expB E.natAbs).toArray = L := ⟨_, rfl⟩
  obtain ⟨DB, eDB⟩ : ∃ L, (digsB d n r).toArray = L := ⟨_, rfl⟩
  rw [eL] at FF CU
  rw [ePB] at CU RP
  rw [eXB] at CU AT
  rw [eDB] at RP ⊢
  have hEb : -400 ≤ E ∧ E ≤ 400 := by omega
  clear eu eE eL ePB eXB eDB sh hsub
  go_enter Tryz.func15, Tryz.ntmps15
  go_wp2_with (first
    | (go_at_call 35; refine FF.mono ?_; rintro e w1 ⟨rfl, b1⟩)
    | (go_at_call 34; refine (CU _ (R.below b1)).mono ?_; rintro e w2 ⟨rfl, b2⟩; have b12 : Below w.heap.size w w2 := b1.trans (b2.mono b1.size))
    | (go_at_call 36; refine (AT _).mono ?_; rintro e w3 ⟨rfl, b3⟩; have b13 : Below w.heap.size w w3 := b12.trans (b3.mono b12.size))
    | (go_at_call 37; refine (RP _ (R.below b13)).mono ?_; rintro e w4 ⟨rfl, b4⟩; have b14 : Below w.heap.size w w4 := b13.trans (b4.mono b13.size)))
  go_ret2
  exact ⟨rfl, b14⟩
end Go.Proofs.YtbengmceiaejeaaGreatDoor
