/- FormatFloat of any number above 0; and the program's digits. -/
import Derived.Test.YtbengmceiaejeaaGreatDoorFtX3
namespace Go.Proofs.YtbengmceiaejeaaGreatDoor
open Go.ChangeShapes Go.WideShapes Go.ChangeAt Go.RowKit

theorem or_top (f : Nat) (hf : f < 4503599627370496) : bits .or .u64 (f : Int) 4503599627370496 = ((4503599627370496 + f : Nat) : Int) := by
  have h := u64_or f 4503599627370496 (by omega) (by decide)
  rw [show ((4503599627370496 : Nat) : Int) = 4503599627370496 from rfl] at h
  rw [h]
  have h1 : 2 ^ 52 * 1 + f = 2 ^ 52 * 1 ||| f := Nat.two_pow_add_eq_or_of_lt hf 1
  rw [Nat.mul_one] at h1
  rw [show (4503599627370496 : Nat) = 2 ^ 52 by decide, Nat.or_comm, ← h1]

theorem and_2047 (e : Nat) (he : e ≤ 2047) : bits .and .i64 (e : Int) 2047 = (e : Int) := by
  have h := i64_and e 2047 (by omega) (by decide)
  rw [show ((2047 : Nat) : Int) = 2047 from rfl] at h
  rw [h, show (2047 : Nat) = 2 ^ 11 - 1 by decide, Nat.and_two_pow_sub_one_eq_mod, Nat.mod_eq_of_lt (by omega)]

/-- What the text of a number says: its digits without noughts behind them, and where the point is. -/
structure Shows (m Q d n i g r : Nat) (T dp : Int) : Prop where
  hd : d = shortD m Q (zOf m)
  ht : T = shortT m Q (zOf m)
  hn : n = Lib.nDigits d
  hg : d = g * 10 ^ i
  hg10 : g % 10 ≠ 0
  hr : r + 1 + i = n
  hdp : dp = (n : Int) + T

theorem shows_of {m Q : Nat} (hm0 : 0 < m) (hm : m < 9007199254740992) (hQ : Q ≤ 2045) (hsub : Q = 0 ∨ 4503599627370496 ≤ m) : ∃ d n i g r T dp, Shows m Q d n i g r T dp := by
  obtain ⟨_, h1, h2, _⟩ := short_bound hm0 hm hQ hsub
  obtain ⟨i, g, e, hg⟩ := strip (show 0 < shortD m Q (zOf m) by omega)
  have hg0 : 0 < g := by omega
  have hn := nd_strip (i := i) hg0
  have hp := Lib.nDigits_pos g
  exact ⟨_, _, i, g, Lib.nDigits g - 1, _, _, rfl, rfl, rfl, e, hg, by rw [e, hn]; omega, rfl⟩

theorem ftoa_any (base D : Nat) (w : World) (R : RdyT w) (hb : base ≤ w.heap.size) (hD : base ≤ D) (hown : w.ownsRow base 5 1 (.slice (some ⟨D, 0, none⟩) 0 24) 0 []) {m Q : Nat} (hm0 : 0 < m) (hm : m < 9007199254740992) (hQ : Q ≤ 2045) (hsub : Q = 0 ∨ 4503599627370496 ≤ m)
    {d n i g r : Nat} {T dp : Int} (sh : Shows m Q d n i g r T dp) :
    Calls Tryz.prog 89 #[.slice (some ⟨D, 0, none⟩) 0 24, .float .f64 (Q * 4503599627370496 + m), .int .u8 101, .int .i64 (-1)] w fun e w' => ∃ k, e = .returned (.slice (some ⟨D, 0, none⟩) k 24) ∧ k ≤ 24 ∧ Below base w w' ∧ w'.ownsRow base 5 1 (.slice (some ⟨D, 0, none⟩) k 24) k (asV (eB d n r (dp - 1))) := by
  obtain ⟨z1, z2, z3, z4, z5, z6, z7, hx⟩ := z_facts hm0 hm
  obtain ⟨_, h1, h2, h3⟩ := short_bound hm0 hm hQ hsub
  have hub := unit_bound (m := m) hQ
  obtain ⟨sd, st, sn, sg, sg10, sr, sdp⟩ := sh
  have hd1 : 1 ≤ d := by omega
  have hd2 : d < 100000000000000000 := by omega
  have hT : -341 ≤ T ∧ T ≤ 341 := by omega
  have hlt : d < 10 ^ n := by
    rw [sn]
    have key : ∀ u, u < 10 ^ Lib.nDigits u := by
      intro u
      induction u using Nat.strongRecOn with
      | _ u ih =>
        by_cases hu : u < 10
        · rw [Lib.nDigits_small hu]; omega
        · rw [Lib.nDigits_big hu, Nat.pow_succ]
          have := ih (u / 10) (by omega)
          omega
    exact key d
  have hn17 : n ≤ 17 := by
    rcases Nat.lt_or_ge 17 n with h | h
    · exfalso
      have key : ∀ u, 1 ≤ u → 10 ^ (Lib.nDigits u - 1) ≤ u := by
        intro u
        induction u using Nat.strongRecOn with
        | _ u ih =>
          intro hu1
          by_cases hu : u < 10
          · rw [Lib.nDigits_small hu]; simpa using hu1
          · rw [Lib.nDigits_big hu]
            have := ih (u / 10) (by omega) (by omega)
            have hp := Lib.nDigits_pos (u / 10)
            rw [show Lib.nDigits (u / 10) + 1 - 1 = (Lib.nDigits (u / 10) - 1) + 1 by omega, Nat.pow_succ]
            omega
      have h5 := key d hd1
      rw [← sn] at h5
      have h6 : 10 ^ 17 ≤ 10 ^ (n - 1) := Nat.pow_le_pow_right (by decide) (by omega)
      omega
    · exact h
  obtain ⟨s1, s2⟩ := strip_at sg sg10
  have hE : (dp - 1).natAbs < 400 := by omega
  rw [asV_e d n r hE]
  have L64 : ∀ w, Calls Tryz.prog 119 #[.int .u64 (m : Int)] w fun e w' => e = .returned (.int .i64 ((Lib.bitLen m : Nat) : Int)) ∧ w' = w := by
    intro w
    have := Tryz.bits_Len64 (m : Int) w (by omega) (by omega)
    rw [show ((m : Int)).toNat = m by omega] at this
    exact this
  have ND : ∀ w, RdyT w → Calls Tryz.prog 122 #[.int .u64 (d : Int)] w fun e w' => e = .returned (.int .i64 (n : Int)) ∧ w' = w := by
    intro w R
    have := nd_any d hd1 (by omega) w R
    rw [← sn] at this
    exact this
  have SD : ∀ w B, Sort.Holds (fun (b : UInt8) => Value.int .u8 (b.toNat : Int)) w B 0 (Array.replicate n 0) → Calls Tryz.prog 121 #[.slice (some ⟨B, 0, none⟩) 32 32, .int .u64 (d : Int), .int .i64 T, .int .i64 (n : Int)] w fun e w' => e = .returned (.tuple #[.int .i64 dp, .int .i64 ((r + 1 : Nat) : Int)]) ∧ Below B w w' ∧ DigsN w' B d n := by
    intro w B H
    have := setD_any B d n i T w hlt (by omega) (by omega) (by omega) s1 s2 (by omega) H
    rw [show n - i = r + 1 by omega, ← sdp] at this
    exact this
  have hsh : IntKind.u64.wrap ((m : Int) * 2 ^ zOf m) = ((m * 2 ^ zOf m : Nat) : Int) := by
    rw [show (m : Int) * 2 ^ zOf m = ((m * 2 ^ zOf m : Nat) : Int) by simp]
    exact wraps64 _ (by omega) (by omega)
  have hzI : 64 - ((Lib.bitLen m : Nat) : Int) = ((zOf m : Nat) : Int) := by unfold zOf; omega
  have SF : ∀ w, RdyT w → Calls Tryz.prog 128 #[.int .u64 ((m * 2 ^ zOf m : Nat) : Int), .int .i64 ((Q : Int) - 1074 - ((zOf m : Nat) : Int))] w fun e w' => e = .returned (.tuple #[.int .u64 (d : Int), .int .i64 T]) ∧ Below w.heap.size w w' := by
    intro w R
    have hzz : zOf m = 11 ∨ (Q = 0 ∧ m < 4503599627370496) := by
      rcases Nat.lt_or_ge m 4503599627370496 with h | h
      · right
        exact ⟨by omega, h⟩
      · left
        exact z5 h
    have := short_any w R hm0 hm hQ hsub z1 z2 z3 z4 hzz hx
    rw [← sd, ← st] at this
    exact this
  rcases Nat.lt_or_ge m 4503599627370496 with hs | hs
  · have hQ0 : Q = 0 := by omega
    subst hQ0
    have hmk := mask52 m (by omega)
    rw [Nat.mod_eq_of_lt hs] at hmk
    exact ftoa_sub base D w R hb hD hown (0 * 4503599627370496 + m) m (zOf m) (Lib.bitLen m) d n r (((0 : Nat) : Int) - 1074 - ((zOf m : Nat) : Int)) T dp (by omega) hs (by omega) hmk (by omega) hm0 hm hzI (by omega) _ hsh L64 SF ND SD (by omega) (by omega) (by omega) (by omega)
  · have hmk := mask52 (Q * 4503599627370496 + m) (by omega)
    rw [show (Q * 4503599627370496 + m) % 4503599627370496 = m - 4503599627370496 by omega] at hmk
    have hor := or_top (m - 4503599627370496) (by omega)
    rw [show 4503599627370496 + (m - 4503599627370496) = m by omega] at hor
    exact ftoa_norm base D w R hb hD hown (Q * 4503599627370496 + m) m (zOf m) (Lib.bitLen m) d n r ((Q : Int) - 1074 - ((zOf m : Nat) : Int)) T dp (Q + 1) (m - 4503599627370496) (by omega) (by omega) (by omega) (and_2047 _ (by omega)) hmk hor (by omega) hm0 hm hzI (by omega) _ hsh L64 SF ND SD (by omega) (by omega) (by omega) (by omega)

theorem conv_any {w : World} {D base k : Nat} {l : List UInt8} (o : w.ownsRow base 5 1 (.slice (some ⟨D, 0, none⟩) k 24) k (asV l)) :
    (convert 65 9 (.slice (some ⟨D, 0, none⟩) k 24)).run Tryz.prog w = .ok (.string ⟨l.toArray⟩) w := by
  have hk : l.length = k := by
    have := o.1
    unfold asV at this
    simpa using this
  subst hk
  refine run_convert_bytes_back (P := Tryz.prog) w 65 9 5 ⟨D, 0, none⟩ 24 l Tryz.underlying65 Tryz.underlying5 Tryz.underlying9 ?_
  intro j hj
  refine o.cells (g := D) rfl j _ ?_
  unfold asV
  rw [List.getElem?_map, List.getElem?_eq_getElem hj]
  rfl

set_option maxRecDepth 100000 in
theorem format_any (w : World) (R : RdyT w) {m Q : Nat} (hm0 : 0 < m) (hm : m < 9007199254740992) (hQ : Q ≤ 2045) (hsub : Q = 0 ∨ 4503599627370496 ≤ m) {d n i g r : Nat} {T dp : Int} (sh : Shows m Q d n i g r T dp) :
    Calls Tryz.prog 61 #[.float .f64 (Q * 4503599627370496 + m), .int .u8 101, .int .i64 (-1), .int .i64 64] w fun e w' => e = .returned (.string ⟨(eB d n r (dp - 1)).toArray⟩) ∧ Below w.heap.size w w' := by
  obtain ⟨ti, hi, hz0, hz1, hz2⟩ := info_parts info5
  have FT := fun (w1 : World) (R1 : RdyT w1) (h1 : w.heap.size ≤ w1.heap.size) (o1 : w1.ownsRow w.heap.size 5 1 (.slice (some ⟨w.heap.size, 0, none⟩) 0 24) 0 []) => ftoa_any w.heap.size w.heap.size w1 R1 h1 (Nat.le_refl _) o1 hm0 hm hQ hsub sh
  obtain ⟨u, eu⟩ : ∃ u, Q * 4503599627370496 + m = u := ⟨_, rfl⟩
  rw [eu] at FT ⊢
  obtain ⟨L, eL⟩ : ∃ L, eB d n r (dp - 1) = L := ⟨_, rfl⟩
  rw [eL] at FT ⊢
  clear eu eL sh hm0 hm hQ hsub
  go_enter Tryz.func61, Tryz.ntmps61
  go_wp2_with (first
    | (at_make; refine wpList_make_own _ rfl _ _ 65 rfl w.heap.size 5 ti _ 1 Tryz.underlying65 hi hz0 hz1 _ _ _ 24 rfl rfl rfl (by rw [hz2]; decide) (by decide) (Nat.le_refl _) ?_; intro w1 o1 g1; have b1 : Below w.heap.size w w1 := (Below.refl _ _).grown g1 (Nat.le_refl _) (fun k e => by cases e))
    | (go_at_call 89; refine (FT _ (R.below b1) b1.size o1).mono ?_; rintro e w2 ⟨k, rfl, hk, b2, o2⟩; have hcv := conv_any o2))
  go_ret
  exact ⟨rfl, b1.trans b2⟩

theorem Format_any (w : World) (R : RdyT w) {m Q : Nat} (hm0 : 0 < m) (hm : m < 9007199254740992) (hQ : Q ≤ 2045) (hsub : Q = 0 ∨ 4503599627370496 ≤ m) {d n i g r : Nat} {T dp : Int} (sh : Shows m Q d n i g r T dp) :
    Calls Tryz.prog 35 #[.float .f64 (Q * 4503599627370496 + m), .int .u8 101, .int .i64 (-1), .int .i64 64] w fun e w' => e = .returned (.string ⟨(eB d n r (dp - 1)).toArray⟩) ∧ Below w.heap.size w w' := by
  have FF := format_any w R hm0 hm hQ hsub sh
  obtain ⟨u, eu⟩ : ∃ u, Q * 4503599627370496 + m = u := ⟨_, rfl⟩
  rw [eu] at FF ⊢
  go_enter Tryz.func35, Tryz.ntmps35
  go_wp2_with (go_at_call 61; refine FF.mono ?_; rintro e w1 ⟨rfl, b1⟩)
  go_ret
  exact ⟨rfl, b1⟩
end Go.Proofs.YtbengmceiaejeaaGreatDoor
/- The program's digits of any number above 0. -/
namespace Go.Proofs.YtbengmceiaejeaaGreatDoor
open Go.ChangeShapes Go.WideShapes Go.ChangeAt Go.RowKit

theorem pre_len (d n r : Nat) : (preB d n r).length ≤ r + 2 := by
  unfold preB tailB
  split
  · simp
  · simp

theorem eB_len (d n r : Nat) (E : Int) : (eB d n r E).length ≤ r + 7 := by
  have h1 := pre_len d n r
  have h2 := exp_size (X := E.natAbs)
  unfold eB
  simp
  omega

theorem cut_any (w : World) (R : RdyT w) (d n r : Nat) (E : Int) (hr : r ≤ 20) :
    Calls Tryz.prog 34 #[.string ⟨(eB d n r E).toArray⟩, .string ⟨#[101]⟩] w fun e w' => e = .returned (.tuple #[.string ⟨(preB d n r).toArray⟩, .string ⟨(sgB E :: expB E.natAbs).toArray⟩, .bool true]) ∧ Below w.heap.size w w' := by
  obtain ⟨m, hm⟩ := R.m
  have hl := eB_len d n r E
  refine (Tryz.strings_Cut _ _ m w (by show (eB d n r E).toArray.size < _; simp; omega) hm).mono ?_
  rintro e w' ⟨rfl, k, rfl⟩
  refine ⟨?_, below_drewN _ _ _⟩
  show Ending.returned (.tuple #[.string ⟨(Lib.cut (eB d n r E).toArray.toList [101]).1.toArray⟩, .string ⟨(Lib.cut (eB d n r E).toArray.toList [101]).2.1.toArray⟩, .bool (Lib.cut (eB d n r E).toArray.toList [101]).2.2]) = _
  rw [List.toList_toArray, cut_e]

theorem atoi_any (w : World) (E : Int) (hE : E.natAbs < 400) :
    Calls Tryz.prog 36 #[.string ⟨(sgB E :: expB E.natAbs).toArray⟩] w fun e w' => e = .returned (.tuple #[.int .i64 E, .nilIface]) ∧ Below w.heap.size w w' := by
  have h2 := exp_size (X := E.natAbs)
  refine (Tryz.strconv_Atoi _ E ?_ ?_ w).mono ?_
  · show (sgB E :: expB E.natAbs).toArray.size ≤ 18
    simp
    omega
  · show Lib.atoi (sgB E :: expB E.natAbs).toArray.toList = some E
    rw [List.toList_toArray, atoi_exp hE]
  · rintro e w' ⟨rfl, t, rfl⟩
    exact ⟨rfl, ⟨rfl, rfl, rfl, by rw [Lib.bytesWorld_size]; omega, fun k hk => Lib.bytesWorld_at_old _ _ _ _ hk⟩⟩

theorem repl_any (w : World) (R : RdyT w) (d n r : Nat) (hr : r ≤ 20) :
    Calls Tryz.prog 37 #[.string ⟨(preB d n r).toArray⟩, .string ⟨#[46]⟩, .string ⟨#[]⟩, .int .i64 1] w fun e w' => e = .returned (.string ⟨(digsB d n r).toArray⟩) ∧ Below w.heap.size w w' := by
  obtain ⟨m, hm⟩ := R.m
  have hl := pre_len d n r
  refine (Tryz.strings_Replace _ _ _ _ m w ?_ hm (by decide) ?_).mono ?_
  · show (preB d n r).toArray.size < _
    simp
    omega
  · show (preB d n r).toArray.size + _ * 0 ≤ _
    simp
    omega
  · rintro e w' ⟨rfl, b⟩
    refine ⟨?_, b⟩
    show Ending.returned (.string ⟨(Lib.replace (preB d n r).toArray.toList [46] [] 1).toArray⟩) = _
    rw [List.toList_toArray, replace_pre]

theorem shows_small {m Q d n i g r : Nat} {T dp : Int} (hm0 : 0 < m) (hm : m < 9007199254740992) (hQ : Q ≤ 2045) (hsub : Q = 0 ∨ 4503599627370496 ≤ m) (sh : Shows m Q d n i g r T dp) : d < 100000000000000000 ∧ 1 ≤ d ∧ n ≤ 17 ∧ (-341 ≤ T ∧ T ≤ 341) ∧ -341 ≤ dp ∧ dp ≤ 360 := by
  obtain ⟨_, h1, h2, h3⟩ := short_bound hm0 hm hQ hsub
  have hub := unit_bound (m := m) hQ
  obtain ⟨sd, st, sn, sg, sg10, sr, sdp⟩ := sh
  have hd1 : 1 ≤ d := by omega
  have hn17 : n ≤ 17 := by
    rcases Nat.lt_or_ge 17 n with h | h
    · exfalso
      have key : ∀ u, 1 ≤ u → 10 ^ (Lib.nDigits u - 1) ≤ u := by
        intro u
        induction u using Nat.strongRecOn with
        | _ u ih =>
          intro hu1
          by_cases hu : u < 10
          · rw [Lib.nDigits_small hu]; simpa using hu1
          · rw [Lib.nDigits_big hu]
            have := ih (u / 10) (by omega) (by omega)
            have hp := Lib.nDigits_pos (u / 10)
            rw [show Lib.nDigits (u / 10) + 1 - 1 = (Lib.nDigits (u / 10) - 1) + 1 by omega, Nat.pow_succ]
            omega
      have h5 := key d hd1
      rw [← sn] at h5
      have h6 : 10 ^ 17 ≤ 10 ^ (n - 1) := Nat.pow_le_pow_right (by decide) (by omega)
      omega
    · exact h
  exact ⟨by omega, hd1, hn17, by omega, by omega, by omega⟩

theorem pshort_any (w : World) (R : RdyT w) {m Q : Nat} (hm0 : 0 < m) (hm : m < 9007199254740992) (hQ : Q ≤ 2045) (hsub : Q = 0 ∨ 4503599627370496 ≤ m) {d n i g r : Nat} {T dp : Int} (sh : Shows m Q d n i g r T dp) :
    Calls Tryz.prog 15 #[.float .f64 (Q * 4503599627370496 + m)] w fun e w' => e = .returned (.tuple #[.string ⟨(digsB d n r).toArray⟩, .int .i64 dp]) ∧ Below w.heap.size w w' := by
  obtain ⟨s1, s2, s3, s4, s5⟩ := shows_small hm0 hm hQ hsub sh
  have hr20 : r ≤ 20 := by have := sh.hr; omega
  have FF := Format_any w R hm0 hm hQ hsub sh
  have CU := fun (w1 : World) (R1 : RdyT w1) => cut_any w1 R1 d n r (dp - 1) hr20
  have AT := fun (w1 : World) => atoi_any w1 (dp - 1) (by omega)
  have RP := fun (w1 : World) (R1 : RdyT w1) => repl_any w1 R1 d n r hr20
  obtain ⟨u, eu⟩ : ∃ u, Q * 4503599627370496 + m = u := ⟨_, rfl⟩
  rw [eu] at FF ⊢
  obtain ⟨E, eE⟩ : ∃ E, dp - 1 = E := ⟨_, rfl⟩
  rw [eE] at FF CU AT
  have hE1 : E + 1 = dp := by omega
  obtain ⟨L, eL⟩ : ∃ L, (eB d n r E).toArray = L := ⟨_, rfl⟩
  obtain ⟨PB, ePB⟩ : ∃ L, (preB d n r).toArray = L := ⟨_, rfl⟩
  obtain ⟨XB, eXB⟩ : ∃ L, (sgB E :: expB E.natAbs).toArray = L := ⟨_, rfl⟩
  obtain ⟨DB, eDB⟩ : ∃ L, (digsB d n r).toArray = L := ⟨_, rfl⟩
  rw [eL] at FF CU
  rw [ePB] at CU RP
  rw [eXB] at CU AT
  rw [eDB] at RP ⊢
  have hEb : -400 ≤ E ∧ E ≤ 400 := by omega
  clear eu eE eL ePB eXB eDB sh hsub
  go_enter Tryz.func15, Tryz.ntmps15
  go_wp2_with (first
    | (go_at_call 35; refine FF.mono ?_; rintro e w1 ⟨rfl, b1⟩)
    | (go_at_call 34; refine (CU _ (R.below b1)).mono ?_; rintro e w2 ⟨rfl, b2⟩; have b12 : Below w.heap.size w w2 := b1.trans (b2.mono b1.size))
    | (go_at_call 36; refine (AT _).mono ?_; rintro e w3 ⟨rfl, b3⟩; have b13 : Below w.heap.size w w3 := b12.trans (b3.mono b12.size))
    | (go_at_call 37; refine (RP _ (R.below b13)).mono ?_; rintro e w4 ⟨rfl, b4⟩; have b14 : Below w.heap.size w w4 := b13.trans (b4.mono b13.size)))
  go_ret2
  exact ⟨rfl, b14⟩
end Go.Proofs.YtbengmceiaejeaaGreatDoor
