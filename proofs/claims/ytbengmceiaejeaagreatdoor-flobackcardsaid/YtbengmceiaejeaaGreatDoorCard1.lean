/- What the row's list of variables gives the walk of FloTexts: both tables of powers, whole. -/
import Derived.Test.YtbengmceiaejeaaGreatDoorCard0
import Derived.Test.YtbengmceiaejeaaGreatDoorFtX6
namespace Go.Proofs.YtbengmceiaejeaaGreatDoor
open Go.ChangeShapes Go.WideShapes Go.ChangeAt Go.RowKit

theorem rows_len : Go.Pinned.pow10Rows.length = 696 := by kernel_rfl

theorem powAll (i : Nat) (hi : i < 696) : (Go.Pinned.pow10Rows.map fun x => (DataW.agg [.lit (.int .u64 x.1), .lit (.int .u64 x.2)] : DataW Unit))[i]? = some (.agg [.lit (.int .u64 (((Go.Pinned.pow10Rows.getD i (0, 0)).1 : Nat) : Int)), .lit (.int .u64 (((Go.Pinned.pow10Rows.getD i (0, 0)).2 : Nat) : Int))]) := by
  have hl : i < Go.Pinned.pow10Rows.length := by rw [rows_len]; exact hi
  generalize Go.Pinned.pow10Rows = l at hl
  rw [List.getElem?_map, List.getD_eq_getElem?_getD, List.getElem?_eq_getElem hl]
  rfl

/-- What the row's list and the memory's shape give. -/
theorem readyX {W : World} (h0 : laidMetH Tryz.prog [("math/bits.deBruijn32tab", Rows.laid_math_bits_deBruijn32tab), ("math/bits.deBruijn64tab", Rows.laid_math_bits_deBruijn64tab), ("internal/strconv.optimize", Rows.laid_internal_strconv_optimize), ("internal/strconv.uint64pow10", Rows.laid_internal_strconv_uint64pow10), ("unicode/utf8.acceptRanges", Rows.laid_unicode_utf8_acceptRanges), ("strconv.ErrRange", Rows.laid_strconv_ErrRange), ("strconv.ErrSyntax", Rows.laid_strconv_ErrSyntax), ("internal/strconv.leftcheats", Rows.laid_internal_strconv_leftcheats), ("internal/strconv.pow10Tab", Rows.laid_internal_strconv_pow10Tab), ("unicode/utf8.first", Rows.laid_unicode_utf8_first)] W) (hs : W.ShapedOpen Tryz.prog) : RdyX W := by
  obtain ⟨m, _, _, _, s1, s2, s3⟩ := ready h0 hs
  rw [MakeChecks.laidMetH_plain _ _ _ (by kernel_rfl)] at h0
  have h := h0
  have h2 : laidMet Tryz.prog [("internal/strconv.uint64pow10", Rows.laid_internal_strconv_uint64pow10), ("unicode/utf8.acceptRanges", Rows.laid_unicode_utf8_acceptRanges), ("strconv.ErrRange", Rows.laid_strconv_ErrRange), ("strconv.ErrSyntax", Rows.laid_strconv_ErrSyntax), ("internal/strconv.leftcheats", Rows.laid_internal_strconv_leftcheats), ("internal/strconv.pow10Tab", Rows.laid_internal_strconv_pow10Tab), ("unicode/utf8.first", Rows.laid_unicode_utf8_first)] W := laidMet.tail (laidMet.tail (laidMet.tail h))
  have h3 : laidMet Tryz.prog [("internal/strconv.pow10Tab", Rows.laid_internal_strconv_pow10Tab), ("unicode/utf8.first", Rows.laid_unicode_utf8_first)] W := laidMet.tail (laidMet.tail (laidMet.tail (laidMet.tail (laidMet.tail (laidMet.tail (laidMet.tail (laidMet.tail h)))))))
  rw [tenEq] at h2
  have t := Lib.tabIs_of_head gTen gTenType Tryz.underlying205 Tryz.underlying22 cellsU64 cellsTen h2
  obtain ⟨ps, ⟨g', t', cs, fuel, p, q, hg', ht', hvar, hd, _, _⟩, _⟩ := h3
  obtain rfl := Option.some.inj (gPow.symm.trans hg')
  obtain rfl := Option.some.inj (gPowType.symm.trans ht')
  have hp := fun (i : Nat) (hi : i < 696) => pair_at (i := i) hi hd (powAll i hi)
  refine ⟨⟨m, ?_, ?_, ?_, s1, s2, s3⟩, t⟩
  · intro i hi
    rw [t.cell gTen i (by rw [Lib.pow10Tab_length]; exact hi), Lib.pow10Tab_at i hi]
  · intro i hi
    have c0 := World.var?_cell gPow hvar (i * 2)
    have e0 : cs[i * 2]? = cs.toList[i * 2]? := by simp
    rw [e0, Nat.mul_comm i 2, (hp i hi).1] at c0
    rw [Nat.mul_comm i 2]
    exact c0
  · intro i hi
    have c0 := World.var?_cell gPow hvar (i * 2 + 1)
    have e0 : cs[i * 2 + 1]? = cs.toList[i * 2 + 1]? := by simp
    rw [e0, Nat.mul_comm i 2, (hp i hi).2] at c0
    rw [Nat.mul_comm i 2]
    exact c0
end Go.Proofs.YtbengmceiaejeaaGreatDoor
