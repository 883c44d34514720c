/- The walk of the law FloBack: it answers true for every 64 bits. -/
import Derived.Test.YtbengmceiaejeaaGreatDoorAw4
import Derived.Test.YtbengmceiaejeaaGreatDoorFbT5
import Derived.Test.YtbengmceiaejeaaGreatDoorCard1
import Derived.Test.YtbengmceiaejeaaGreatDoorFbR1
import Derived.Test.YtbengmceiaejeaaGreatDoorFbR3
namespace Go.Proofs.YtbengmceiaejeaaGreatDoor.floBack
open Go.ChangeShapes Go.WideShapes Go.ChangeAt Go.RowKit

/-- Text and what Parse reads of it. -/
theorem both (R0 : ReadsAt 0 false) (R1 : ReadsAt 1 true) (u : Nat) (hu : u < 18446744073709551616) : ∃ (A : ByteArray) (f : Nat) (e : Int),
    (∀ w, RdyX w → Calls Tryz.prog 5 #[.float .f64 u] w fun x w' => x = .returned (.string A) ∧ Below w.heap.size w w') ∧
    (∀ w, RdyX w → RdyP w → Calls Tryz.prog 9 #[.string A] w fun x w' => x = .returned (.tuple #[.float .f64 f, .int .i64 e]) ∧ Below w.heap.size w w') ∧
    (((nanB u = true ∨ infB u = true) ∧ e = 21) ∨ (nanB u = false ∧ infB u = false ∧ e = 0 ∧ f = u)) := by
  have hsg : ∀ r, rung u = r → r ≤ 9218868437227405312 → wordD (sgnB u) r = u := by
    intro r hr _
    unfold wordD
    rcases sgn_cases u hu with ⟨h1, h2, h3⟩ | ⟨h1, h2, h3⟩
    · rw [h1, if_pos rfl]; omega
    · rw [h1, if_neg (by decide)]; omega
  cases h1 : nanB u with
  | true =>
    have e : classV u = 0 := by unfold classV; rw [h1]; rfl
    refine ⟨_, 0, 21, fun w _ => ptext_odd w u hu (sgnB u) rfl (Or.inl e), ?_, Or.inl ⟨Or.inl rfl, rfl⟩⟩
    intro w _ _
    rw [if_pos e]
    exact parse_word_no false [110, 97, 110] (by decide) ⟨110, [97, 110], rfl, by decide, by decide⟩ w
  | false =>
    cases h2 : infB u with
    | true =>
      have e : classV u = 1 := by unfold classV; rw [h1, h2]; rfl
      refine ⟨_, 0, 21, fun w _ => ptext_odd w u hu (sgnB u) rfl (Or.inr (Or.inl e)), ?_, Or.inl ⟨Or.inr rfl, rfl⟩⟩
      intro w _ _
      rw [e, if_neg (by decide), if_pos rfl, ba_of (s := _ ++ _) (l := sgL (sgnB u) ++ [105, 110, 102]) (by rw [ba_cat])]
      exact parse_word_no (sgnB u) [105, 110, 102] (by decide) ⟨105, [110, 102], rfl, by decide, by decide⟩ w
    | false =>
      cases h3 : zeroB u with
      | true =>
        have e : classV u = 2 := by unfold classV; rw [h1, h2, h3]; rfl
        have er : rung u = 0 := by unfold zeroB at h3; exact of_decide_eq_true h3
        refine ⟨_, wordD (sgnB u) 0, 0, fun w _ => ptext_odd w u hu (sgnB u) rfl (Or.inr (Or.inr e)), ?_, Or.inr ⟨rfl, rfl, rfl, hsg 0 er (by decide)⟩⟩
        intro w X P
        rw [e, if_neg (by decide), if_neg (by decide), ba_of (s := _ ++ _) (l := sgL (sgnB u) ++ [48, 46, 48]) (by rw [ba_cat])]
        exact parse_zero R0 R1 w X.t P (sgnB u)
      | false =>
        have h4 : classV u = 3 ∨ classV u = 4 := by
          unfold classV
          rw [h1, h2, h3]
          simp only [Bool.false_eq_true, if_false]
          split
          · exact Or.inl rfl
          · exact Or.inr rfl
        have e1 : ¬ 9218868437227405312 < rung u := of_decide_eq_false h1
        have e2 : ¬ rung u = 9218868437227405312 := of_decide_eq_false h2
        have e3 : ¬ rung u = 0 := by unfold zeroB at h3; exact of_decide_eq_false h3
        obtain ⟨m, Q, eu, hm0, hm, hQ, hsub⟩ := word_split (r := rung u) (by omega) (by omega)
        obtain ⟨d, n, i, g, r, T, dp, sh⟩ := shows_of hm0 hm hQ hsub
        have hf : Q * 4503599627370496 + m < 9218868437227405312 := by omega
        obtain ⟨I, F, xs, E, eb, hI, hF, i1, f1, hl, hx, v0, v17, hw⟩ := body_shape hm0 hm hQ hsub hf sh
        refine ⟨_, wordD (sgnB u) (Q * 4503599627370496 + m), 0, fun w R => ptext_any w R u hu eu hm0 hm hQ hsub h4 sh, ?_, Or.inr ⟨rfl, rfl, rfl, hsg _ eu (by omega)⟩⟩
        intro w X P
        rw [eb]
        exact parse_shape R0 R1 w X.t P (sgnB u) I F xs E hI hF i1 f1 hl hx v0 v17 hm0 hm hQ hsub hf hw

theorem walk (R0 : ReadsAt 0 false) (R1 : ReadsAt 1 true) (u : Nat) (hu : u < 18446744073709551616) (w : World) (R : Rdy w) (X : RdyX w) (Y : RdyP w) :
    Calls Tryz.prog 4 #[.int .u64 (u : Int)] w fun e w' => e = .returned (.bool true) ∧ Below w.heap.size w w' := by
  obtain ⟨A, f, e, TX, PA, hc⟩ := both R0 R1 u hu
  have NN := fun w => rIsNaN_any u hu w
  have II := fun w => rIsInf_any u hu w
  have IS := fun w => is_any f u hu w
  have TX' : ∀ w1, Below w.heap.size w w1 → Calls Tryz.prog 5 #[.float .f64 u] w1 fun x w' => x = .returned (.string A) ∧ Below w.heap.size w w' :=
    fun w1 b => (TX w1 (X.below b)).mono fun _ _ h => ⟨h.1, b.trans (h.2.mono b.size)⟩
  have PA' : ∀ w1, Below w.heap.size w w1 → Calls Tryz.prog 9 #[.string A] w1 fun x w' => x = .returned (.tuple #[.float .f64 f, .int .i64 e]) ∧ Below w.heap.size w w' :=
    fun w1 b => (PA w1 (X.below b) (Y.below b)).mono fun _ _ h => ⟨h.1, b.trans (h.2.mono b.size)⟩
  have K' : ∀ w1, Below w.heap.size w w1 → Calls Tryz.prog 8 #[] w1 fun x w' => x = .returned (.bool true) ∧ Below w.heap.size w w' :=
    fun w1 b => (awake_any w1 (R.below b)).mono fun _ _ h => ⟨h.1, b.trans (h.2.mono b.size)⟩
  have bb : Below w.heap.size w w := Below.refl _ _
  clear TX PA R X Y
  rcases hc with ⟨hc, rfl⟩ | ⟨h1, h2, rfl, rfl⟩
  · have hor : (nanB u || infB u) = true := by rcases hc with h | h <;> rw [h] <;> simp
    clear hc
    cases h1 : nanB u <;> cases h2 : infB u <;> rw [h1, h2] at hor
    · simp at hor
    all_goals
      rw [h1] at NN
      rw [h2] at II
      clear IS hor
      go_enter Tryz.func4, Tryz.ntmps4
      go_wp2_with (first
        | (go_at_call 6; refine (of_any _ _).mono ?_; rintro e w' ⟨rfl, hw⟩; replace hw := hw.symm; subst hw)
        | (go_at_call 5; refine (TX' _ bb).mono ?_; clear bb; rintro e w1 ⟨rfl, bb⟩)
        | (go_at_call 9; refine (PA' _ bb).mono ?_; clear bb; rintro e w2 ⟨rfl, bb⟩)
        | (go_at_call 10; refine (NN _).mono ?_; rintro e w' ⟨rfl, hw⟩; replace hw := hw.symm; subst hw)
        | (go_at_call 11; refine (II _).mono ?_; rintro e w' ⟨rfl, hw⟩; replace hw := hw.symm; subst hw)
        | (go_at_call 8; refine (K' _ bb).mono ?_; clear bb; rintro e w3 ⟨rfl, bb⟩))
      all_goals go_ret
      all_goals exact ⟨rfl, bb⟩
  · rw [h1] at NN
    rw [h2] at II
    rw [decide_eq_true rfl] at IS
    go_enter Tryz.func4, Tryz.ntmps4
    go_wp2_with (first
      | (go_at_call 6; refine (of_any _ _).mono ?_; rintro e w' ⟨rfl, hw⟩; replace hw := hw.symm; subst hw)
      | (go_at_call 5; refine (TX' _ bb).mono ?_; clear bb; rintro e w1 ⟨rfl, bb⟩)
      | (go_at_call 9; refine (PA' _ bb).mono ?_; clear bb; rintro e w2 ⟨rfl, bb⟩)
      | (go_at_call 10; refine (NN _).mono ?_; rintro e w' ⟨rfl, hw⟩; replace hw := hw.symm; subst hw)
      | (go_at_call 11; refine (II _).mono ?_; rintro e w' ⟨rfl, hw⟩; replace hw := hw.symm; subst hw)
      | (go_at_call 12; refine (IS _).mono ?_; rintro e w' ⟨rfl, hw⟩; replace hw := hw.symm; subst hw)
      | (go_at_call 8; refine (K' _ bb).mono ?_; clear bb; rintro e w3 ⟨rfl, bb⟩))
    all_goals go_ret
    all_goals exact ⟨rfl, bb⟩
end Go.Proofs.YtbengmceiaejeaaGreatDoor.floBack
/- What the row's list of variables gives the walk of FloBack: three tables of powers, whole, and two variables more. -/
namespace Go.Proofs.YtbengmceiaejeaaGreatDoor
open Go.ChangeShapes Go.WideShapes Go.ChangeAt Go.RowKit

theorem gInfo : Tryz.prog.globalNamed "internal/strconv.float64info" = some 8 := by kernel_rfl
theorem gInfoType : (Tryz.prog.globals[8]?).map (·.type) = some 176 := by kernel_rfl
theorem gOpt : Tryz.prog.globalNamed "internal/strconv.optimize" = some 4 := by kernel_rfl
theorem gOptType : (Tryz.prog.globals[4]?).map (·.type) = some 4 := by kernel_rfl
theorem gTens : Tryz.prog.globalNamed "internal/strconv.float64pow10" = some 12 := by kernel_rfl
theorem gTensType : (Tryz.prog.globals[12]?).map (·.type) = some 219 := by kernel_rfl
theorem cellsF : Tryz.prog.cellsOf 24 = 1 := by kernel_rfl
theorem cellsUint : Tryz.prog.cellsOf 60 = 1 := by kernel_rfl
theorem tensEq : (Rows.laid_internal_strconv_float64pow10 : DataW Unit) = .slice ((List.range 23).map fun i => .lit (.float .f64 (p10W i))) [] := by kernel_rfl

theorem trod_flt {H : Type} {enc : TypeId × Value → H} {w : World} {base : Nat} {spare : Nat → Bool} {held : Bool} {fuel : Nat} {t : TypeId} {cs : List Value} {x : DataW H × List MemPlace} {k : FloatKind} (ht : Tryz.prog.underlying t = some (.float k)) (h : DataW.trod enc Tryz.prog w base spare held fuel t cs = some x) : ∃ b, cs = [.float k b] ∧ x = (.lit (.float k b), []) := by
  cases fuel with
  | zero => simp [DataW.trod] at h
  | succ n =>
    unfold DataW.trod at h
    rw [ht] at h
    split at h <;> simp_all

theorem cells_one {w : World} {a : Addr} {l : List Value} (h : w.cells? 0 a 1 = some l) : ∃ v, l = [v] ∧ w.cell? a = some v := by
  unfold World.cells? at h
  rw [if_pos (Nat.zero_le _)] at h
  have e : List.range 1 = [0] := rfl
  rw [e] at h
  cases hc : w.cell? (a.add 0) with
  | none => simp [hc] at h
  | some v =>
    simp [hc] at h
    exact ⟨v, h.symm, hc⟩

theorem rdy_of {w : World} (X : RdyX w) : Rdy w := by
  obtain ⟨⟨m, h1, h2, h3, s1, s2, s3⟩, _⟩ := X
  refine ⟨m, ?_, ?_, ?_, s1, s2, s3⟩
  · rw [h1 16 (by decide)]; rfl
  · have := h2 365 (by decide)
    rw [show (Go.Pinned.pow10Rows.getD 365 (0, 0)).1 = 12800000000000000000 by kernel_rfl] at this
    exact this
  · have := h3 365 (by decide)
    rw [show (Go.Pinned.pow10Rows.getD 365 (0, 0)).2 = 0 by kernel_rfl] at this
    exact this

/-- What the row's list and the memory's shape give. -/
theorem readyB {W : World} (h0 : laidMetH Tryz.prog [("math/bits.deBruijn32tab", Rows.laid_math_bits_deBruijn32tab), ("math/bits.deBruijn64tab", Rows.laid_math_bits_deBruijn64tab), ("internal/strconv.float32info", Rows.laid_internal_strconv_float32info), ("internal/strconv.float64info", Rows.laid_internal_strconv_float64info), ("internal/strconv.optimize", Rows.laid_internal_strconv_optimize), ("internal/strconv.powtab", Rows.laid_internal_strconv_powtab), ("internal/strconv.float64pow10", Rows.laid_internal_strconv_float64pow10), ("internal/strconv.float32pow10", Rows.laid_internal_strconv_float32pow10), ("internal/strconv.uint64pow10", Rows.laid_internal_strconv_uint64pow10), ("unicode/utf8.acceptRanges", Rows.laid_unicode_utf8_acceptRanges), ("strconv.ErrRange", Rows.laid_strconv_ErrRange), ("strconv.ErrSyntax", Rows.laid_strconv_ErrSyntax), ("internal/strconv.leftcheats", Rows.laid_internal_strconv_leftcheats), ("internal/strconv.pow10Tab", Rows.laid_internal_strconv_pow10Tab), ("unicode/utf8.first", Rows.laid_unicode_utf8_first)] W) (hs : W.ShapedOpen Tryz.prog) : RdyX W ∧ RdyP W := by
  rw [MakeChecks.laidMetH_plain _ _ _ (by kernel_rfl)] at h0
  have h := h0
  have hI : laidMet Tryz.prog [("internal/strconv.float64info", Rows.laid_internal_strconv_float64info), ("internal/strconv.optimize", Rows.laid_internal_strconv_optimize), ("internal/strconv.powtab", Rows.laid_internal_strconv_powtab), ("internal/strconv.float64pow10", Rows.laid_internal_strconv_float64pow10), ("internal/strconv.float32pow10", Rows.laid_internal_strconv_float32pow10), ("internal/strconv.uint64pow10", Rows.laid_internal_strconv_uint64pow10), ("unicode/utf8.acceptRanges", Rows.laid_unicode_utf8_acceptRanges), ("strconv.ErrRange", Rows.laid_strconv_ErrRange), ("strconv.ErrSyntax", Rows.laid_strconv_ErrSyntax), ("internal/strconv.leftcheats", Rows.laid_internal_strconv_leftcheats), ("internal/strconv.pow10Tab", Rows.laid_internal_strconv_pow10Tab), ("unicode/utf8.first", Rows.laid_unicode_utf8_first)] W := laidMet.tail (laidMet.tail (laidMet.tail h))
  have hO : laidMet Tryz.prog [("internal/strconv.optimize", Rows.laid_internal_strconv_optimize), ("internal/strconv.powtab", Rows.laid_internal_strconv_powtab), ("internal/strconv.float64pow10", Rows.laid_internal_strconv_float64pow10), ("internal/strconv.float32pow10", Rows.laid_internal_strconv_float32pow10), ("internal/strconv.uint64pow10", Rows.laid_internal_strconv_uint64pow10), ("unicode/utf8.acceptRanges", Rows.laid_unicode_utf8_acceptRanges), ("strconv.ErrRange", Rows.laid_strconv_ErrRange), ("strconv.ErrSyntax", Rows.laid_strconv_ErrSyntax), ("internal/strconv.leftcheats", Rows.laid_internal_strconv_leftcheats), ("internal/strconv.pow10Tab", Rows.laid_internal_strconv_pow10Tab), ("unicode/utf8.first", Rows.laid_unicode_utf8_first)] W := laidMet.tail (laidMet.tail (laidMet.tail (laidMet.tail h)))
  have hT : laidMet Tryz.prog [("internal/strconv.float64pow10", Rows.laid_internal_strconv_float64pow10), ("internal/strconv.float32pow10", Rows.laid_internal_strconv_float32pow10), ("internal/strconv.uint64pow10", Rows.laid_internal_strconv_uint64pow10), ("unicode/utf8.acceptRanges", Rows.laid_unicode_utf8_acceptRanges), ("strconv.ErrRange", Rows.laid_strconv_ErrRange), ("strconv.ErrSyntax", Rows.laid_strconv_ErrSyntax), ("internal/strconv.leftcheats", Rows.laid_internal_strconv_leftcheats), ("internal/strconv.pow10Tab", Rows.laid_internal_strconv_pow10Tab), ("unicode/utf8.first", Rows.laid_unicode_utf8_first)] W := laidMet.tail (laidMet.tail (laidMet.tail (laidMet.tail (laidMet.tail (laidMet.tail h)))))
  have h2 : laidMet Tryz.prog [("internal/strconv.uint64pow10", Rows.laid_internal_strconv_uint64pow10), ("unicode/utf8.acceptRanges", Rows.laid_unicode_utf8_acceptRanges), ("strconv.ErrRange", Rows.laid_strconv_ErrRange), ("strconv.ErrSyntax", Rows.laid_strconv_ErrSyntax), ("internal/strconv.leftcheats", Rows.laid_internal_strconv_leftcheats), ("internal/strconv.pow10Tab", Rows.laid_internal_strconv_pow10Tab), ("unicode/utf8.first", Rows.laid_unicode_utf8_first)] W := laidMet.tail (laidMet.tail (laidMet.tail (laidMet.tail (laidMet.tail (laidMet.tail (laidMet.tail (laidMet.tail h)))))))
  have h3 : laidMet Tryz.prog [("internal/strconv.pow10Tab", Rows.laid_internal_strconv_pow10Tab), ("unicode/utf8.first", Rows.laid_unicode_utf8_first)] W := laidMet.tail (laidMet.tail (laidMet.tail (laidMet.tail (laidMet.tail (laidMet.tail (laidMet.tail (laidMet.tail (laidMet.tail (laidMet.tail (laidMet.tail (laidMet.tail (laidMet.tail h))))))))))))
  rw [tenEq] at h2
  have t := Lib.tabIs_of_head gTen gTenType Tryz.underlying205 Tryz.underlying22 cellsU64 cellsTen h2
  have t16 := t.cell gTen 16 (by decide)
  obtain ⟨m, hm⟩ := cell_of_shapedOpen_int (g := 3) (t := 3) (zero := #[.int .i64 0]) (k := .i64) hs (of_decide_eq_true (by kernel_rfl)) (by kernel_rfl) rfl (by kernel_rfl) (by kernel_rfl) Tryz.underlying3
  constructor
  · obtain ⟨ps, ⟨g', t', cs, fuel, p, q, hg', ht', hvar, hd, _, _⟩, _⟩ := h3
    obtain rfl := Option.some.inj (gPow.symm.trans hg')
    obtain rfl := Option.some.inj (gPowType.symm.trans ht')
    have hp := fun (i : Nat) (hi : i < 696) => pair_at (i := i) hi hd (powAll i hi)
    have ch : ∀ i, i < 696 → W.cell? ⟨13, i * 2, none⟩ = some (.int .u64 (((Go.Pinned.pow10Rows.getD i (0, 0)).1 : Nat) : Int)) := by
      intro i hi
      have c0 := World.var?_cell gPow hvar (i * 2)
      have e0 : cs[i * 2]? = cs.toList[i * 2]? := by simp
      rw [e0, Nat.mul_comm i 2, (hp i hi).1] at c0
      rw [Nat.mul_comm i 2]
      exact c0
    refine ⟨⟨⟨m, hm⟩, ?_, ch, ?_, lt_of_cell hm, lt_of_cell t16, lt_of_cell (ch 0 (by decide))⟩, t⟩
    · intro i hi
      rw [t.cell gTen i (by rw [Lib.pow10Tab_length]; exact hi), Lib.pow10Tab_at i hi]
    · intro i hi
      have c0 := World.var?_cell gPow hvar (i * 2 + 1)
      have e0 : cs[i * 2 + 1]? = cs.toList[i * 2 + 1]? := by simp
      rw [e0, Nat.mul_comm i 2, (hp i hi).2] at c0
      rw [Nat.mul_comm i 2]
      exact c0
  · have cI : W.cell? ⟨8, 0, none⟩ = some (.int .u64 52) := by
      obtain ⟨ps, ⟨g', t', cs, fuel, p, q, hg', ht', hvar, hd, _, _⟩, _⟩ := hI
      obtain rfl := Option.some.inj (gInfo.symm.trans hg')
      obtain rfl := Option.some.inj (gInfoType.symm.trans ht')
      have c0 := World.var?_cell gInfo hvar 0
      obtain ⟨xs, n, _, hx, _, _, hfs⟩ := DataW.trod_struct Tryz.underlying176 hd
      have f0 := hfs 0 { name := "mantbits", type := 60, offset := 0, embedded := false, tag := "", pkgPath := "internal/strconv", byteOffset := 0 } rfl
      simp only [cellsUint, List.drop_zero] at f0
      have hx1 : (xs.map (·.1))[0]? = some (.lit (.int .u64 52)) := by
        have := congrArg Prod.fst hx
        simp only [Rows.laid_internal_strconv_float64info, DataW.agg.injEq] at this
        rw [← this]; rfl
      rw [List.getElem?_map] at hx1
      cases hxx : xs[0]? with
      | none => rw [hxx] at hx1; simp at hx1
      | some y =>
        rw [hxx] at hx1 f0
        obtain ⟨k, ek, ey, _⟩ := DataW.trod_int Tryz.underlying60 f0
        simp only [Option.map_some, Option.some.injEq] at hx1
        rw [ey] at hx1
        simp only [DataW.lit.injEq, Lit.int.injEq, true_and] at hx1
        subst hx1
        have e0 : cs[0]? = cs.toList[0]? := by simp
        have := congrArg (·[0]?) ek
        simp at this
        rw [e0] at c0
        rw [c0]
        simpa using this
    have cO : W.cell? ⟨4, 0, none⟩ = some (.bool true) := by
      obtain ⟨ps, ⟨g', t', cs, fuel, p, q, hg', ht', hvar, hd, _, _⟩, _⟩ := hO
      obtain rfl := Option.some.inj (gOpt.symm.trans hg')
      obtain rfl := Option.some.inj (gOptType.symm.trans ht')
      have c0 := World.var?_cell gOpt hvar 0
      obtain ⟨b, eb, ex⟩ := DataW.trod_bool Tryz.underlying4 hd
      have : (DataW.lit (.bool true) : DataW Unit) = .lit (.bool b) := congrArg Prod.fst ex
      simp only [DataW.lit.injEq, Lit.bool.injEq] at this
      subst this
      have e0 : cs[0]? = cs.toList[0]? := by simp
      rw [c0, e0, eb]; rfl
    have cT : ∃ (a : Addr) (c : Nat), W.cell? ⟨12, 0, none⟩ = some (.slice (some a) 23 c) ∧ (∀ i, i < 23 → W.cell? (a.add i) = some (.float .f64 (p10W i))) := by
      obtain ⟨ps, ⟨g', t', cs, fuel, p, q, hg', ht', hvar, hd, _, _⟩, _⟩ := hT
      obtain rfl := Option.some.inj (gTens.symm.trans hg')
      obtain rfl := Option.some.inj (gTensType.symm.trans ht')
      have c0 := World.var?_cell gTens hvar 0
      rw [tensEq] at hd
      rcases DataW.trod_slice Tryz.underlying219 hd with ⟨_, hx⟩ | ⟨a, len, cap, elems, rest, n, _, ecs, hx, _, _, _, hel, hget, _, _⟩
      · have := congrArg Prod.fst hx
        cases this
      · have h1 := congrArg Prod.fst hx
        simp only [DataW.slice.injEq] at h1
        have hmap := h1.1
        have hlen : len = 23 := by
          have := congrArg List.length hmap
          simp at this
          omega
        subst hlen
        refine ⟨a, cap, ?_, ?_⟩
        · have e0 : cs[0]? = cs.toList[0]? := by simp
          rw [c0, e0, ecs]; rfl
        · intro i hi
          have hg := hget i hi
          have hy : (elems.map (·.1))[i]? = some (.lit (.float .f64 (p10W i))) := by
            rw [← hmap, List.getElem?_map, List.getElem?_range hi]; rfl
          rw [List.getElem?_map] at hy
          cases hxx : elems[i]? with
          | none => rw [hxx] at hy; simp at hy
          | some y =>
            rw [hxx] at hy hg
            simp only [Option.map_some, Option.some.injEq] at hy
            rw [cellsF, Nat.mul_one] at hg
            obtain ⟨csl, hcs, htr⟩ := Option.bind_eq_some_iff.1 hg
            obtain ⟨v, rfl, hv⟩ := cells_one hcs
            obtain ⟨b, eb, ey⟩ := trod_flt Tryz.underlying24 htr
            rw [ey] at hy
            simp only [DataW.lit.injEq, Lit.float.injEq, true_and] at hy
            subst hy
            simp only [List.cons.injEq, and_true] at eb
            rw [hv, eb]
    obtain ⟨a, c, k1, k2⟩ := cT
    refine ⟨cI, cO, ⟨a, c, k1, k2, ?_⟩, lt_of_cell cI, lt_of_cell cO, lt_of_cell k1⟩
    have := k2 1 (by decide)
    rw [show a.add 1 = ⟨a.block, a.off + 1, none⟩ from rfl] at this
    exact lt_of_cell this
end Go.Proofs.YtbengmceiaejeaaGreatDoor
/- The law FloBack holds, as a tied card: for every 64 bits, what flo.Text writes of their real is read by flo.Parse as that real, and of a NaN or an infinity it is no real. Its condition: the library's tables that the walk may read start as the program's text lays them (the given tie pays it). The seat is a pruned copy of the project: nothing is said of packages left out. -/
namespace Go.Proofs.YtbengmceiaejeaaGreatDoor.floBack
open Go.ChangeShapes Go.WideShapes Go.ChangeAt Go.RowKit

theorem reads0 : ReadsAt 0 false := fun w s l z E h1 h2 T X _ => rf_any0 w s l z h1 h2 T E X
theorem reads1 : ReadsAt 1 true := fun w s l z E h1 h2 T X h => rf_any1 w s l z h1 h2 T E X (h rfl)

set_option maxRecDepth 100000 in
theorem lifted (os : Os) (started : os.Started) (H : Type) (enc : TypeId × Value → H) :
    ReturnsInHanded {} Tryz.checked os 4 .any (fun w args => (Rows.floBackSpec.pre enc Tryz.prog Tryz.f4 [] false w args ∧ laidMetH Tryz.prog Rows.floBackRow.laid w) ∧ sizedMet enc Tryz.prog Tryz.f4 (OpenSpec.ofChange Rows.floBackSpec) false w args)
      (Rows.floBackSpec.post enc Tryz.prog Tryz.f4 false true false false) := by
  refine handed_both (C := Tryz.checked) (X := fun w _ => laidMetH Tryz.prog Rows.floBackRow.laid w) (fun _ _ _ hh h => h.of_heap hh) own started (by kernel_rfl) Tryz.func4
    (ChangeSpec.witness_shaped (enc := enc) (C := Tryz.checked) (os := os) (X := fun w _ => laidMetH Tryz.prog Rows.floBackRow.laid w) false (World.laidAll Tryz.prog os Rows.floBackRow.laid) #[.int .u64 0] 8 (World.laidAll_os _ _ _)
      (World.shaped_of_ZipB (by kernel_rfl) (by kernel_rfl)) (by kernel_rfl) (by kernel_rfl) (by kernel_rfl)
      (by rw [MakeChecks.laidMetH_plain _ _ _ (by kernel_rfl)]; exact laidMet_laidAll _ (by kernel_rfl) (by kernel_rfl))) ?_
  intro W base args ds gs before hval0 hW _ hL hsh
  have hval : ∀ (j : Nat) t v, Tryz.f4.params[j]? = some t → args[j]? = some v → Value.okWide Tryz.prog W .any base t v := hval0
  have hW' := hW
  obtain ⟨p, q, hA0, hV, rfl, hfz, hnd⟩ := hW
  have hA : DataW.TrodAll enc Tryz.prog W 0 (fun _ => true) true Tryz.f4.params.toList args.toList ds p := hA0
  rw [Tryz.params4] at hA hval
  obtain ⟨v0, d0, rfl, rfl, h0⟩ := trodAll_one hA
  obtain ⟨rfl, rfl⟩ := trodVars_none hV
  obtain ⟨a0, rfl, rfl, rfl, w0⟩ := open_int Tryz.underlying22 (hval 0 22 v0 rfl rfl) h0
  clear hA0 hval0
  obtain ⟨n0, rfl, l0⟩ := u64_nat w0
  simp only [List.append_nil] at hW'
  refine (walk reads0 reads1 n0 l0 W (rdy_of (readyB hL hsh).1) (readyB hL hsh).1 (readyB hL hsh).2).mono fun e W' ⟨he, bel⟩ => ?_
  subst he
  exact ⟨_, rfl, _, _, _, [], [], [], hW', trodAll_mk1 (shut_bool Tryz.underlying4 _), trodAll_mk1 (shut_int Tryz.underlying22 w0), rfl, bel.frame _, fun h => by cases h⟩

theorem said : Rows.FloBackSaid :=
  OpenClaim.holds_of_wide 4 Tryz.f4 rfl rfl rfl rfl rfl rfl rfl ⟨rfl, rfl, rfl, rfl, rfl⟩ rfl rfl rfl rfl rfl (by kernel_rfl) Tryz.func4 (by kernel_rfl)
    (of_decide_eq_true (by kernel_rfl)) (by unfold Func.isWrapper; first | (rw [if_pos (by decide +kernel)]; kernel_rfl) | (rw [if_neg (by decide +kernel)]; exact ⟨rfl, rfl⟩))
    (fun os started H enc _ => lifted os started H enc)

/-- No parameter wants a stand-in. -/
theorem plain (f : FuncId) (fn : Func) (hf : Tryz.pinned.checked.prog.funcNamed "kiln/kilnlaw02.FloBack" = some f) (hfn : Tryz.pinned.checked.prog.funcs[f]? = some fn) :
    true = Tryz.pinned.checked.prog.looks [] ∧ ∀ (j : Nat) t, fn.params[j]? = some t → Tryz.pinned.checked.prog.wantsStandIn t = false := by
  obtain rfl : f = 4 := Option.some.inj ((show Tryz.prog.funcNamed "kiln/kilnlaw02.FloBack" = some 4 by kernel_rfl).symm.trans hf) |>.symm
  obtain rfl : fn = Tryz.f4 := (Option.some.inj (Tryz.func4.symm.trans hfn)).symm
  refine ⟨by kernel_rfl, fun j t ht => ?_⟩
  rw [Tryz.params4] at ht
  obtain rfl : t = 22 := by simpa using Array.mem_of_getElem? ht
  exact (show Tryz.prog.wantsStandIn 22 = false by kernel_rfl)

/-- The card. -/
theorem card : Rows.FloBackCardSaid :=
  Claim7.holds_tied_plain_at .later [] _ _ _ _ said (fun _ h => by cases h) (by kernel_rfl) (fun _ h => by cases h) floBack_row_tie rfl ⟨rfl, rfl⟩ (by kernel_rfl) rfl plain (by kernel_rfl)
#print axioms card
end Go.Proofs.YtbengmceiaejeaaGreatDoor.floBack
