/- The program's writer: how a token is spelt. -/
import Derived.Test.YtmeooghcdgpofaaDoorProg
import Derived.Test.YtmeooghcdgpofaaDoorLexE3
import Derived.WalkKit
import Derived.ProofKit
import Derived.OpenShut
import Derived.Below
import Derived.WalkLawsBesides
import Derived.OwnWalk
import Derived.Laws.IdiomStrings
import Derived.Laws.OwnMore
import Derived.Lib.AppendStr
import Derived.Lib.IndexBytes
import Derived.BigQuiet
namespace Go.Proofs.YtmeooghcdgpofaaDoor
open Go.ChangeShapes Go.WideShapes Go.ChangeAt Go.RowKit

def pathL (p : List (List UInt8)) : List UInt8 := p.flatMap (· ++ [46])
/-- A token of any kind as it would be written. -/
def spellI (k : Int) (t : List UInt8) (p : List (List UInt8)) : List UInt8 :=
  if k = 7 then 35 :: 34 :: quotL t ++ [34] else if k = 6 then 34 :: quotL t ++ [34] else pathL p ++ t
theorem pathL_len (p : List (List UInt8)) : (pathL p).length = sumN p := by
  induction p with
  | nil => rfl
  | cons a r ih =>
    have e : pathL (a :: r) = (a ++ [46]) ++ pathL r := rfl
    rw [e, List.length_append, ih]
    simp [sumN]
theorem pathL_succ {p : List (List UInt8)} {k : Nat} (h : k < p.length) : pathL (p.take (k + 1)) = pathL (p.take k) ++ p.getD k [] ++ [46] := by
  rw [List.take_succ_eq_append_getElem h]
  have e1 : p.getD k [] = p[k] := by simp [List.getD_eq_getElem?_getD, h]
  rw [e1]
  unfold pathL
  rw [List.flatMap_append]
  simp
theorem own_str {B : Nat} {v : Value} {l : List UInt8} {w : World} {L : Nat} {z : ByteArray} (e : l.length = L) (h : w.ownsRow B 5 1 v (L + z.size) (Lib.byteCells l ++ Lib.strCells z)) : Own B v (l ++ z.data.toList) w := by
  unfold Own
  have eb : Lib.byteCells (l ++ z.data.toList) = Lib.byteCells l ++ Lib.strCells z := by simp [Lib.byteCells, Lib.strCells]
  rw [eb, List.length_append, e, size_list]
  exact h

theorem cells_at {w : World} {B : Nat} (hB : w.heap.size = B) (xs : List Value) (e : TypeId) : ∀ j u, xs[j]? = some u → (w.alloc (.cells xs.toArray e)).cell? ((⟨B, 0, none⟩ : Addr).add j) = some u := by subst hB; exact cells_new w xs e
theorem cell5' {w w1 : World} {c0 c1 c2 c3 c4 : Value} {t : TypeId} (h : Below (w.heap.size + 1) (w.alloc (.cells #[c0, c1, c2, c3, c4] t)) w1) :
    w1.cell? ⟨w.heap.size, 0, none⟩ = some c0 ∧ w1.cell? ⟨w.heap.size, 1, none⟩ = some c1 ∧ w1.cell? ⟨w.heap.size, 2, none⟩ = some c2 ∧ w1.cell? ⟨w.heap.size, 3, none⟩ = some c3 ∧ w1.cell? ⟨w.heap.size, 4, none⟩ = some c4 := by
  have e : (w.alloc (.cells #[c0, c1, c2, c3, c4] t)).heap.size = w.heap.size + 1 := by simp
  rw [← e] at h
  exact (cell5 h).1

set_option maxHeartbeats 8000000 in
set_option maxRecDepth 100000 in
theorem spell_any (k x y : Int) (z : ByteArray) (v : Value) (p : List (List UInt8)) (w : World) (hv : RdS w v p) (hz : z.size + sumN p ≤ 1048576) :
    Calls Tryd.prog 20 #[.agg #[.int .i64 k, .string z, v, .int .i64 x, .int .i64 y]] w fun e w' => e = .returned (.string ⟨(spellI k z.data.toList p).toArray⟩) ∧ Below w.heap.size w w' := by
  obtain ⟨i0, hi, hz0, hz1, hz2⟩ := info_parts infoByte
  obtain ⟨ao, cap, rfl, hm, hc⟩ := hv
  have HC := hide hc
  obtain ⟨L, hL⟩ : ∃ L, p.length = L := ⟨_, rfl⟩
  have HL := hide hL
  rw [hL] at hm ⊢
  clear hL hc
  by_cases h7 : k = 7
  · subst h7
    obtain ⟨tx, htx⟩ : ∃ tx : ByteArray, ByteArray.mk (spellI 7 z.data.toList p).toArray = tx := ⟨_, rfl⟩
    have HTX : Hid (ByteArray.mk ([35] ++ 34 :: quotL z.data.toList ++ [34]).toArray = tx) := htx
    rw [htx]
    clear htx
    obtain ⟨M, hM⟩ : ∃ M, ([35] ++ 34 :: quotL z.data.toList ++ [34]).length = M := ⟨_, rfl⟩
    have HM := hide hM
    clear hM
    go_enter Tryd.func20, Tryd.ntmps20
    have CS := hide (fun (W : World) (u : Value) (o : Own (w.heap.size + 1) u [35] W) (hb : (w.heap.size + 1) ≤ W.heap.size) => spellString_any (w.heap.size + 1) u [35] z W o hb (by simp) (by omega))
    have HW0 := hide (own_row (L := 0) (own_nil (w.heap.size + 1) (w.alloc (.cells #[.int .i64 7, .string z, .slice ao L cap, .int .i64 x, .int .i64 y] 34))) rfl)
    go_wp2_with (first | (at_builtin; refine wpList_append_own _ rfl _ _ 36 rfl (w.heap.size + 1) 5 i0 (.int .u8 0) 1 1 Tryd.underlying36 hi hz0 hz1 hz2 rfl (by decide) _ _ _ rfl (HW0.out.alloc _) ⟨_, 0, none⟩ 1 1 [.int .u8 35] rfl rfl (cells_at (by simp) _ _) (by simp [Value.oneCell']) (by unfold maxLen; omega) (by omega) (by first | (simp; done) | (simp; omega)) ?_; intro v1 w1 o1 g1 _; (have S0 : (w.alloc (.cells #[.int .i64 7, .string z, .slice ao L cap, .int .i64 x, .int .i64 y] 34)).heap.size = w.heap.size + 1 := by simp); have B1 := ((Below.refl (w.heap.size + 1) (w.alloc (.cells #[.int .i64 7, .string z, .slice ao L cap, .int .i64 x, .int .i64 y] 34))).alloc (by omega) _).grown g1 (by simp) (fun j hj => (HW0.out.lt j hj).1); have O1 : Hid (Own (w.heap.size + 1) v1 [35] w1) := own_more (l := []) (o := [35]) rfl rfl o1; clear o1 HW0; have S1 := B1.size; rw [S0] at S1; obtain ⟨e0, e1, e2, e3, e4⟩ := cell5' B1) | (go_at_call 35; refine (CS.out _ _ O1.out S1).mono ?_; rintro e w2 ⟨v2, rfl, o2, b2⟩; have B2 := B1.trans b2; (obtain ⟨ao2, cap2, hv2⟩ := own_slice o2); subst hv2; have hcv := own_string o2; rw [HTX.out, HM.out] at hcv; rw [HM.out]; clear o2))
    go_ret
    exact ⟨rfl, ((Below.refl _ _).alloc (Nat.le_refl _) _).trans (B2.mono (by omega))⟩
  · by_cases h6 : k = 6
    · subst h6
      obtain ⟨tx, htx⟩ : ∃ tx : ByteArray, ByteArray.mk (spellI 6 z.data.toList p).toArray = tx := ⟨_, rfl⟩
      have HTX : Hid (ByteArray.mk ([] ++ 34 :: quotL z.data.toList ++ [34]).toArray = tx) := htx
      rw [htx]
      clear htx h7
      obtain ⟨M, hM⟩ : ∃ M, ([] ++ 34 :: quotL z.data.toList ++ [34]).length = M := ⟨_, rfl⟩
      have HM := hide hM
      clear hM
      go_enter Tryd.func20, Tryd.ntmps20
      have CS := hide (fun (W : World) (u : Value) (o : Own (w.heap.size + 1) u [] W) (hb : (w.heap.size + 1) ≤ W.heap.size) => spellString_any (w.heap.size + 1) u [] z W o hb (by simp) (by omega))
      go_wp2_with (go_at_call 35; refine (CS.out _ _ (own_nil _ _) (by simp)).mono ?_; rintro e w2 ⟨v2, rfl, o2, B2⟩; (obtain ⟨ao2, cap2, hv2⟩ := own_slice o2); subst hv2; have hcv := own_string o2; rw [HTX.out, HM.out] at hcv; rw [HM.out]; clear o2)
      go_ret
      exact ⟨rfl, ((Below.refl _ _).alloc (Nat.le_refl _) _).trans (B2.mono (by omega))⟩
    · obtain ⟨tx, htx⟩ : ∃ tx : ByteArray, ByteArray.mk (spellI k z.data.toList p).toArray = tx := ⟨_, rfl⟩
      have HTX : Hid (ByteArray.mk (pathL p ++ z.data.toList).toArray = tx) := by show _ = _; rw [← htx]; unfold spellI; rw [if_neg h7, if_neg h6]
      rw [htx]
      have g7 : (k == 7) = false := by simp; omega
      have g6 : (k == 6) = false := by simp; omega
      clear htx h7 h6
      go_enter Tryd.func20, Tryd.ntmps20
      go_wp2
      generalize hW0 : w.alloc (.cells #[.int .i64 k, .string z, .slice ao L cap, .int .i64 x, .int .i64 y] 34) = W0
      have C5 : Hid (∀ w1, Below W0.heap.size W0 w1 → _) := fun w1 (h : Below W0.heap.size W0 w1) => cell5 (w := w) (w1 := w1) (c0 := .int .i64 k) (c1 := .string z) (c2 := .slice ao L cap) (c3 := .int .i64 x) (c4 := .int .i64 y) (t := 34) (by rw [hW0]; exact h)
      have hW0s : w.heap.size < W0.heap.size := by rw [← hW0]; simp
      have HB0 : Hid (Below w.heap.size w W0) := by rw [← hW0]; exact (Below.refl _ _).alloc (Nat.le_refl _) _
      clear hW0
      obtain ⟨⟨c0, c1, c2, c3, c4⟩, _, _, _⟩ := C5.out W0 (Below.refl _ _)
      go_loopw [3, 23] (fun vt vi wr => ∃ j : Nat, vi = .int .i64 (j : Int) ∧ j ≤ L ∧ Hid (Own W0.heap.size vt (pathL (p.take j)) wr) ∧ Below W0.heap.size W0 wr) (fun _ vi _ => L - (intOf vi).toNat)
      case atStart => exact ⟨0, rfl, Nat.zero_le _, own_nil _ _, Below.refl _ _⟩
      case round =>
        obtain ⟨j, rfl, hj, HI, bel⟩ := hrel
        have hsum := sumN_take_le p j
        obtain ⟨⟨e0, e1, e2, e3, e4⟩, _, _, _⟩ := C5.out wr bel
        obtain ⟨A, eA⟩ : ∃ A, (pathL (p.take j)).length = A := ⟨_, rfl⟩
        have hA : A ≤ 1048576 := by rw [← eA, pathL_len]; omega
        have EA := hide eA
        have HW := hide (own_row HI.out eA)
        have bsz := bel.size
        clear eA
        by_cases h1 : j < L
        · obtain ⟨a1, ea1, hab1, hcell1⟩ := HC.out j (by have := HL.out; omega)
          subst ea1
          have HP := hide (pathL_succ (p := p) (k := j) (by have := HL.out; omega))
          have hs1 := sumN_succ (p := p) (k := j) (by have := HL.out; omega)
          have hs2 := sumN_take_le p (j + 1)
          obtain ⟨z2, ez2⟩ : ∃ z, ByteArray.mk (p.getD j []).toArray = z := ⟨_, rfl⟩
          have hzs2 : z2.size ≤ 1048576 := by
            have : (p.getD j []).length = z2.size := by rw [← ez2]; simp [ByteArray.size]
            omega
          have HZ2 : Hid (p.getD j [] = z2.data.toList) := by show _ = _; rw [← ez2]
          rw [ez2] at hcell1
          rw [← (HB0.out.trans (bel.mono (Nat.le_of_lt hW0s))).cell (p := a1.add j) (by rw [add_block]; exact hab1)] at hcell1
          obtain ⟨n2, hn2⟩ : ∃ n, z2.size = n := ⟨_, rfl⟩
          clear ez2 hs1 hs2 hsum HI
          go_wp2_with (first | (at_builtin; refine Lib.wpList_append_own_string _ rfl _ _ 36 9 rfl W0.heap.size 5 i0 Tryd.underlying36 Tryd.underlying9 hi hz0 hz1 hz2 _ _ _ rfl HW.out z2 rfl (by unfold maxLen; omega) (by omega) (by omega) ?_; intro v1 w1 o1 g1 _; have B1 := bel.grown g1 bsz (fun j hj => (HW.out.lt j hj).1); have O1 := hide (own_row (own_str EA.out o1) (show _ = A + n2 by rw [List.length_append, EA.out, size_list]; omega)); have S1 := B1.size; clear o1 HW) | (at_builtin; refine wpList_append_own _ rfl _ _ 36 rfl W0.heap.size 5 i0 (.int .u8 0) 1 1 Tryd.underlying36 hi hz0 hz1 hz2 rfl (by decide) _ _ _ rfl (O1.out.alloc _) ⟨_, 0, none⟩ 1 1 [.int .u8 46] rfl rfl (cells_new _ _ _) (by simp [Value.oneCell']) (by unfold maxLen; omega) (by omega) (by first | (simp; done) | (simp; omega)) ?_; intro v2 w2 o2 g2 _; have B2 := (B1.alloc S1 _).grown g2 (by simp; omega) (fun j hj => (O1.out.lt j hj).1); have O2 := hide o2; clear o2))
          go_roundw
          case rel =>
            refine ⟨j + 1, by go_num, by omega, ?_, B2⟩
            show Own _ _ _ _
            rw [HP.out, HZ2.out]
            exact own_more (o := [46]) (show _ = A + n2 by rw [List.length_append, EA.out, size_list]; omega) rfl O2.out
          case measure => simp [intOf]; omega
        · have HT : Hid (p.take j = p) := List.take_of_length_le (by have := HL.out; omega)
          rw [HT.out] at HW EA
          have hzs : z.size ≤ 1048576 := by omega
          obtain ⟨nz, hnz⟩ : ∃ n, z.size = n := ⟨_, rfl⟩
          clear HI hsum
          go_wp2_with (at_builtin; refine Lib.wpList_append_own_string _ rfl _ _ 36 9 rfl W0.heap.size 5 i0 Tryd.underlying36 Tryd.underlying9 hi hz0 hz1 hz2 _ _ _ rfl HW.out z rfl (by unfold maxLen; omega) (by omega) (by omega) ?_; intro v1 w1 o1 g1 _; have B1 := bel.grown g1 bsz (fun j hj => (HW.out.lt j hj).1); have o2 := own_str EA.out o1; clear o1; (obtain ⟨ao2, cap2, hv2⟩ := own_slice o2); subst hv2; have hcv := own_string o2; rw [HTX.out, List.length_append, EA.out, size_list, hnz] at hcv; rw [List.length_append, EA.out, size_list, hnz]; clear o2)
          go_ret
          exact ⟨rfl, HB0.out.trans (B1.mono (Nat.le_of_lt hW0s))⟩
end Go.Proofs.YtmeooghcdgpofaaDoor
