/- What the row's list of variables gives the walks; and the lift that hands both the list and the shape of the memory on. -/
import Derived.Test.YtbengmceiaejeaaGreatDoorCards
import Derived.Test.YtbengmceiaejeaaGreatDoorTie
import Derived.Test.YtbengmceiaejeaaGreatDoorAw4
import Derived.WalkKit
import Derived.ProofKit
import Derived.OpenShut
import Derived.LaidMore
import Derived.Lay
import Derived.MakeChecks
import Derived.SizedLaws
import Derived.Stop.Joined
import Derived.Stop.LaidErr
import Derived.Lib.LaidTab
import Derived.Lib.ItoaNum
import Derived.Shelf.Vars
import Derived.HandedShaped
import Derived.Below
namespace Go.Proofs.YtbengmceiaejeaaGreatDoor
open Go.ChangeShapes Go.WideShapes Go.ChangeAt Go.RowKit

theorem own : ownKnob Tryz.prog.godebug = none := by kernel_rfl
theorem gTen : Tryz.prog.globalNamed "internal/strconv.uint64pow10" = some 9 := by kernel_rfl
theorem gTenType : (Tryz.prog.globals[9]?).map (·.type) = some 205 := by kernel_rfl
theorem cellsTen : Tryz.prog.cellsOf 205 = 20 := by kernel_rfl
theorem cellsU64 : Tryz.prog.cellsOf 22 = 1 := by kernel_rfl
theorem tenEq : (Rows.laid_internal_strconv_uint64pow10 : DataW Unit) = Lib.tabData .u64 Lib.pow10Tab := by kernel_rfl
theorem gPow : Tryz.prog.globalNamed "internal/strconv.pow10Tab" = some 13 := by kernel_rfl
theorem gPowType : (Tryz.prog.globals[13]?).map (·.type) = some 223 := by kernel_rfl
theorem cellsPow : Tryz.prog.cellsOf 223 = 1392 := by kernel_rfl
theorem cellsRow : Tryz.prog.cellsOf 222 = 2 := by kernel_rfl
theorem powAt : (Go.Pinned.pow10Rows.map fun x => (DataW.agg [.lit (.int .u64 x.1), .lit (.int .u64 x.2)] : DataW Unit))[365]? = some (.agg [.lit (.int .u64 12800000000000000000), .lit (.int .u64 0)]) := by kernel_rfl

theorem lt_of_cell {w : World} {g o : Nat} {v : Value} (h : w.cell? ⟨g, o, none⟩ = some v) : g < w.heap.size := by
  rcases Nat.lt_or_ge g w.heap.size with hl | hl
  · exact hl
  · unfold World.cell? at h
    rw [Array.getElem?_eq_none hl] at h
    cases h

/-- A table of pairs that reads as such holds them, cell for cell. -/
theorem pair_at {w : World} {fuel : Nat} {cs : List Value} {ds : List (DataW Unit)} {p : List MemPlace} {enc : TypeId × Value → Unit} {sp : Nat → Bool} {held : Bool} {i : Nat} {a b : Int} (hi : i < 696)
    (h : DataW.trod enc Tryz.prog w 0 sp held fuel 223 cs = some (.agg ds, p)) (hd : ds[i]? = some (.agg [.lit (.int .u64 a), .lit (.int .u64 b)])) :
    cs[2 * i]? = some (.int .u64 a) ∧ cs[2 * i + 1]? = some (.int .u64 b) := by
  cases fuel with
  | zero => simp [DataW.trod] at h
  | succ fuel =>
    simp only [DataW.trod, Tryz.underlying223, cellsRow, cellsPow] at h
    split at h
    · rename_i hl
      obtain ⟨xs, hm, hx⟩ := Option.map_eq_some_iff.1 h
      have hxs : xs.map (·.1) = ds := by
        have := congrArg Prod.fst hx
        simpa using this
      obtain ⟨y, hy, hf⟩ := Lib.mapM_at hm i i (by simp [hi])
      have hy1 : y.1 = .agg [.lit (.int .u64 a), .lit (.int .u64 b)] := by
        rw [← hxs, List.getElem?_map, hy] at hd
        simpa using hd
      cases fuel with
      | zero => simp [DataW.trod] at hf
      | succ fuel =>
        simp only [DataW.trod, Tryz.underlying222, cellsRow] at hf
        split at hf
        · obtain ⟨zs, hm2, hz⟩ := Option.map_eq_some_iff.1 hf
          have hzs : zs.map (·.1) = [.lit (.int .u64 a), .lit (.int .u64 b)] := by
            have := congrArg Prod.fst hz
            rw [hy1] at this
            simpa using this
          obtain ⟨z0, e0, f0⟩ := Lib.mapM_at hm2 0 _ rfl
          obtain ⟨z1, e1, f1⟩ := Lib.mapM_at hm2 1 _ rfl
          obtain ⟨n0, c0, r0, _⟩ := DataW.trod_int Tryz.underlying22 f0
          obtain ⟨n1, c1, r1, _⟩ := DataW.trod_int Tryz.underlying22 f1
          simp only [cellsU64] at c0 c1
          have k0 : z0.1 = .lit (.int .u64 a) := by
            have := congrArg (·[0]?) hzs
            rw [List.getElem?_map, e0] at this
            simpa using this
          have k1 : z1.1 = .lit (.int .u64 b) := by
            have := congrArg (·[1]?) hzs
            rw [List.getElem?_map, e1] at this
            simpa using this
          rw [r0] at k0
          rw [r1] at k1
          simp only [DataW.lit.injEq, Lit.int.injEq, true_and] at k0 k1
          subst k0
          subst k1
          constructor
          · have := congrArg (·[0]?) c0
            simp [List.getElem?_drop] at this
            rw [Nat.mul_comm]
            exact this
          · have := congrArg (·[0]?) c1
            simp [List.getElem?_drop] at this
            rw [Nat.mul_comm]
            exact this
        · cases hf
    · cases h

/-- What the row's list and the memory's shape give. -/
theorem ready {W : World} (h0 : laidMetH Tryz.prog [("math/bits.deBruijn32tab", Rows.laid_math_bits_deBruijn32tab), ("math/bits.deBruijn64tab", Rows.laid_math_bits_deBruijn64tab), ("internal/strconv.optimize", Rows.laid_internal_strconv_optimize), ("internal/strconv.uint64pow10", Rows.laid_internal_strconv_uint64pow10), ("unicode/utf8.acceptRanges", Rows.laid_unicode_utf8_acceptRanges), ("strconv.ErrRange", Rows.laid_strconv_ErrRange), ("strconv.ErrSyntax", Rows.laid_strconv_ErrSyntax), ("internal/strconv.leftcheats", Rows.laid_internal_strconv_leftcheats), ("internal/strconv.pow10Tab", Rows.laid_internal_strconv_pow10Tab), ("unicode/utf8.first", Rows.laid_unicode_utf8_first)] W) (hs : W.ShapedOpen Tryz.prog) : Rdy W := by
  rw [MakeChecks.laidMetH_plain _ _ _ (by kernel_rfl)] at h0
  have h := h0
  have h2 : laidMet Tryz.prog [("internal/strconv.uint64pow10", Rows.laid_internal_strconv_uint64pow10), ("unicode/utf8.acceptRanges", Rows.laid_unicode_utf8_acceptRanges), ("strconv.ErrRange", Rows.laid_strconv_ErrRange), ("strconv.ErrSyntax", Rows.laid_strconv_ErrSyntax), ("internal/strconv.leftcheats", Rows.laid_internal_strconv_leftcheats), ("internal/strconv.pow10Tab", Rows.laid_internal_strconv_pow10Tab), ("unicode/utf8.first", Rows.laid_unicode_utf8_first)] W := laidMet.tail (laidMet.tail (laidMet.tail h))
  have h3 : laidMet Tryz.prog [("internal/strconv.pow10Tab", Rows.laid_internal_strconv_pow10Tab), ("unicode/utf8.first", Rows.laid_unicode_utf8_first)] W := laidMet.tail (laidMet.tail (laidMet.tail (laidMet.tail (laidMet.tail (laidMet.tail (laidMet.tail (laidMet.tail h)))))))
  rw [tenEq] at h2
  have t := Lib.tabIs_of_head gTen gTenType Tryz.underlying205 Tryz.underlying22 cellsU64 cellsTen h2
  have t16 := t.cell gTen 16 (by decide)
  obtain ⟨ps, ⟨g', t', cs, fuel, p, q, hg', ht', hvar, hd, _, _⟩, _⟩ := h3
  obtain rfl := Option.some.inj (gPow.symm.trans hg')
  obtain rfl := Option.some.inj (gPowType.symm.trans ht')
  have hp := pair_at (i := 365) (by decide) hd powAt
  have c0 := World.var?_cell gPow hvar 730
  have c1 := World.var?_cell gPow hvar 731
  have e0 : cs[730]? = cs.toList[730]? := by simp
  have e1 : cs[731]? = cs.toList[731]? := by simp
  rw [e0, hp.1] at c0
  rw [e1, hp.2] at c1
  obtain ⟨m, hm⟩ := cell_of_shapedOpen_int (g := 3) (t := 3) (zero := #[.int .i64 0]) (k := .i64) hs (of_decide_eq_true (by kernel_rfl)) (by kernel_rfl) rfl (by kernel_rfl) (by kernel_rfl) Tryz.underlying3
  exact ⟨⟨m, hm⟩, t16, c0, c1, lt_of_cell hm, lt_of_cell t16, lt_of_cell c0⟩

/-- The lift, with both: what is listed, and the memory's shape. -/
theorem handed_both {H : Type} {enc : TypeId × Value → H} {a : Assume} {C : Checked} {os : Os} {f : FuncId} {fn : Func} {s : ChangeSpec} {conds : List PathCond} {apart fresh handsOn again : Bool} {X : World → Array Value → Prop}
    (hX : ∀ (w w' : World) (args : Array Value), w.heap = w'.heap → X w args → X w' args)
    (own : ownKnob C.prog.godebug = none) (started : os.Started) (noInit : C.prog.inits.idxOf? f = none) (hfn : C.prog.funcs[f]? = some fn)
    (witness : ∃ (w : World) (tape : Tape) (i : Input), w.os = os ∧ (w.forCall tape i).Shaped C.prog ∧ i.vars = [] ∧ Input.okWide C.prog (w.forCall tape i) .any w.heap.size f i ∧
      ((s.pre enc C.prog fn conds apart (w.forCall tape i).memory i.args ∧ X (w.forCall tape i).memory i.args) ∧ sizedMet enc C.prog fn (OpenSpec.ofChange s) apart (w.forCall tape i).memory i.args) ∧ a.holds C.prog (lone (Frame.enter C.prog f i.args .normal) [] (w.forCall tape i)))
    (contract : ∀ (W : World) (base : Nat) (args : Array Value) (ds gs : List (DataW H)) (before : List MemPlace),
      (∀ (j : Nat) t v, fn.params[j]? = some t → args[j]? = some v → Value.okWide C.prog W .any base t v) →
      DataW.Whole enc C.prog fn.params.toList s.vars apart W args.toList ds gs before →
      (DataW.weightsEach C.prog (fn.params.toList ++ s.plain.varTypes C.prog) (ds ++ gs)).all (· ≤ reachBytes) = true → X W args → W.ShapedOpen C.prog →
      Calls C.prog f args W fun e W' => ∃ v, e = .returned v ∧ s.post enc C.prog fn apart fresh handsOn again W args v W') :
    ReturnsInHanded a C os f .any (fun w args => (s.pre enc C.prog fn conds apart w args ∧ X w args) ∧ sizedMet enc C.prog fn (OpenSpec.ofChange s) apart w args) (s.post enc C.prog fn apart fresh handsOn again) := by
  refine returnsInHanded_of_calls own started noInit witness ?_
  intro w tape i _ hsh _ hok hpre _
  obtain ⟨_, _, _, fn', hfn', _, _, _, _, hval⟩ := hok
  have e : fn' = fn := Option.some.inj (hfn'.symm.trans hfn)
  subst e
  obtain ⟨⟨⟨ds, gs, before, hw, _⟩, hx⟩, hz⟩ := hpre
  have hw' := DataW.Whole.of_heap (w' := w.forCall tape i) (by rfl) hw
  refine (contract (w.forCall tape i) w.heap.size i.args ds gs before hval hw' (hz.weights hw) (hX _ _ _ (by rfl) hx) hsh).mono fun e W' ⟨v, he, hp⟩ => ?_
  subst he
  exact ChangeSpec.post_blind hp

/-- A uint64 that was handed in is a natural number below 2^64. -/
theorem u64_nat {a : Int} (h : (Lit.int .u64 a).wf = true) : ∃ n : Nat, a = (n : Int) ∧ n < 18446744073709551616 := by
  simp [Lit.wf, IntKind.min, IntKind.max, IntKind.signed, IntKind.bits] at h
  exact ⟨a.toNat, by omega, by omega⟩
end Go.Proofs.YtbengmceiaejeaaGreatDoor
