/- Rows of bytes that a call has made: what they are as strings; the document's own Cat. -/
import Derived.Test.YtgjcbgconkiedaaDoorProg
import Derived.Test.YtgjcbgconkiedaaDoorShelf
import Derived.Test.YtgjcbgconkiedaaDoorStr1
import Derived.Test.YtgjcbgconkiedaaDoorStr5
import Derived.WalkKit
import Derived.ProofKit
import Derived.OpenShut
import Derived.Below
import Derived.WalkLawsBesides
import Derived.OwnWalk
import Derived.Laws.IdiomStrings
import Derived.Laws.OwnMore
import Derived.Lib.AppendStr
namespace Go.Proofs.YtgjcbgconkiedaaDoor
open Go.ChangeShapes Go.WideShapes Go.ChangeAt Go.RowKit

/-- v is nil or a row of the bytes l, laid behind B. -/
def Own (B : Nat) (v : Value) (l : List UInt8) (w : World) : Prop := w.ownsRow B 5 1 v l.length (Lib.byteCells l)
theorem own_nil (B : Nat) (w : World) : Own B (.slice none 0 0) [] w := World.ownsRow_nil _ _ _ _
theorem own_slice {B : Nat} {v : Value} {l : List UInt8} {w : World} (h : Own B v l w) : ∃ ao cap, v = .slice ao l.length cap := by
  rcases h.2 with ⟨hv, h0⟩ | ⟨g, cap, cur, hv, _⟩
  · exact ⟨none, 0, by rw [hv, h0]⟩
  · exact ⟨_, _, hv⟩
theorem own_string {B : Nat} {v : Value} {l : List UInt8} {w : World} (h : Own B v l w) : (convert 50 9 v).run Tryd.prog w = .ok (.string ⟨l.toArray⟩) w := by
  rcases h.2 with ⟨hv, h0⟩ | ⟨g, cap, cur, hv, _⟩
  · obtain rfl : l = [] := List.eq_nil_of_length_eq_zero h0
    rw [hv, run_convert_bytes_string w _ _ 5 none 0 0 Tryd.underlying50 Tryd.underlying5 Tryd.underlying9]
    rfl
  · have hc := h.cells (g := g) (by rw [hv]; rfl)
    rw [hv]
    refine run_convert_bytes_back _ _ _ 5 _ _ l Tryd.underlying50 Tryd.underlying5 Tryd.underlying9 fun j hj => ?_
    exact hc j _ (by simp [Lib.byteCells, hj])
theorem byteCells_snoc (l : List UInt8) (r : List UInt8) : Lib.byteCells (l ++ r) = Lib.byteCells l ++ Lib.byteCells r := by simp [Lib.byteCells]

set_option maxHeartbeats 2000000 in
set_option maxRecDepth 100000 in
theorem rcat_any (v : Value) (zs : List ByteArray) (w : World) (hv : Strs w v zs) (hzm : ∀ j, j < zs.length → (zs.getD j ByteArray.empty).size ≤ maxLen) :
    Calls Tryd.prog 10 #[v] w fun e w' => e = .returned (.tuple #[.string (catS zs), .int .i64 (catE zs)]) ∧ Below w.heap.size w w' := by
  obtain ⟨i0, hi, hz0, hz1, hz2⟩ := info_parts infoByte
  obtain ⟨ao, cap, rfl, hm, hc⟩ := hv
  unfold maxLen at hm hzm
  obtain ⟨L, hL⟩ : ∃ L, zs.length = L := ⟨_, rfl⟩
  have HL := hide hL
  have HC := hide hc
  have HM := hide hzm
  rw [hL] at hm ⊢
  clear hL hc hzm
  go_enter Tryd.func10, Tryd.ntmps10
  go_wp2
  go_loop [5] (fun vi => ∃ k : Nat, vi = .int .i64 (k : Int) ∧ k ≤ L ∧ Hid (∀ j, j < k → (zs.getD j ByteArray.empty).size ≤ 65536)) (fun vi => L - (intOf vi).toNat)
  case atStart => exact ⟨0, rfl, by omega, fun j hj => by omega⟩
  case round =>
    obtain ⟨k, rfl, hk, HI⟩ := hrel
    by_cases h1 : k < L
    · obtain ⟨a, ea, hab, hcell⟩ := HC.out k (by have := HL.out; omega)
      subst ea
      obtain ⟨z, ez⟩ : ∃ z, zs.getD k ByteArray.empty = z := ⟨_, rfl⟩
      have EZ := hide ez
      rw [ez] at hcell
      clear ez
      by_cases h2 : z.size ≤ 65536
      · have HD : Hid (decide (z.size ≤ 65536) = true) := by show _ = _; simp [h2]
        have HI2 : Hid (∀ j, j < k + 1 → (zs.getD j ByteArray.empty).size ≤ 65536) := by
          intro j hj
          by_cases hjk : j = k
          · subst hjk; rw [EZ.out]; exact h2
          · exact HI.out j (by omega)
        clear h2
        go_wp2_with (go_at_call 21; refine (rright_any _ _).mono ?_; rintro e w' ⟨rfl, rfl⟩; rw [HD.out])
        go_round
        case rel => exact ⟨k + 1, rfl, by omega, HI2⟩
        case measure => simp [intOf]; omega
      · have HD : Hid (decide (z.size ≤ 65536) = false) := by show _ = _; simp; omega
        have HE := hide (cat_arg (zs := zs) (k := k) (by have := HL.out; omega) (by rw [EZ.out]; omega))
        clear h2
        go_wp2_with (go_at_call 21; refine (rright_any _ _).mono ?_; rintro e w' ⟨rfl, rfl⟩; rw [HD.out])
        go_ret2
        exact ⟨ret_si HE.out.2.symm HE.out.1.symm, Below.refl _ _⟩
    · have HA : Hid (∀ j, j < zs.length → (zs.getD j ByteArray.empty).size ≤ 65536) := fun j hj => HI.out j (by have := HL.out; omega)
      clear HI
      go_wp2
      go_loopw [4, 6, 7] (fun vn vb vi wr => ∃ k : Nat, vi = .int .i64 (k : Int) ∧ k ≤ L ∧ (allB (zs.take k)).length ≤ 65536 ∧ vn = .int .i64 ((allB (zs.take k)).length : Int) ∧ Hid (Own w.heap.size vb (allB (zs.take k)) wr) ∧ Below w.heap.size w wr) (fun _ _ vi _ => L - (intOf vi).toNat)
      case atStart => exact ⟨0, rfl, by omega, by simp [allB], by simp [allB], own_nil _ _, Below.refl _ _⟩
      case round =>
        obtain ⟨k, rfl, hk, hlen, rfl, HI, bel⟩ := hrel
        obtain ⟨t, et⟩ : ∃ t, (allB (zs.take k)).length = t := ⟨_, rfl⟩
        have ET := hide et
        rw [et] at hlen ⊢
        clear et
        have bsz := bel.size
        by_cases h1 : k < L
        · obtain ⟨a, ea, hab, hcell⟩ := HC.out k (by have := HL.out; omega)
          subst ea
          obtain ⟨z, ez⟩ : ∃ z, zs.getD k ByteArray.empty = z := ⟨_, rfl⟩
          have EZ := hide ez
          rw [ez] at hcell
          clear ez
          rw [← bel.cell (p := a.add k) (by rw [add_block]; exact hab)] at hcell
          have hz : z.size ≤ 65536 := by rw [← EZ.out]; exact HA.out k (by have := HL.out; omega)
          have HS : Hid ((allB (zs.take (k + 1))).length = t + z.size) := by
            show _ = _
            rw [allB_len_snoc (by have := HL.out; omega), ET.out, EZ.out]
          have HSS : Hid (allB (zs.take (k + 1)) = allB (zs.take k) ++ z.data.toList) := by
            show _ = _
            rw [allB_snoc (by have := HL.out; omega), EZ.out]
          by_cases h3 : 65536 < t + z.size
          · have HE := hide (cat_long (zs := zs) (k := k + 1) HA.out (by rw [HS.out]; exact h3))
            go_wp2
            go_ret2
            exact ⟨ret_si HE.out.2.symm HE.out.1.symm, bel⟩
          · go_wp2_with (at_builtin; refine Lib.wpList_append_own_string _ rfl _ _ 50 9 rfl w.heap.size 5 i0 Tryd.underlying50 Tryd.underlying9 hi hz0 hz1 hz2 _ _ _ rfl HI.out z rfl (by rw [ET.out]; unfold maxLen; omega) (by rw [ET.out]; omega) (by omega) ?_; intro v' w2 o2 g2 _; have O2 := hide o2; clear o2)
            go_roundw
            case rel =>
              refine ⟨k + 1, rfl, by omega, by rw [HS.out]; omega, by rw [HS.out]; go_num, ?_, bel.grown g2 (by omega) (fun j hj => (HI.out.lt j hj).1)⟩
              show Own _ _ _ _
              have o := O2.out
              unfold Own
              rw [HSS.out, byteCells_snoc, List.length_append]
              exact o
            case measure => simp [intOf]; omega
        · have HT : Hid (zs.take k = zs) := List.take_of_length_le (by have := HL.out; omega)
          have HE := hide (cat_ok HA.out (by rw [← HT.out, ET.out]; exact hlen))
          obtain ⟨ao', cap', rfl⟩ := own_slice HI.out
          have hcv := own_string HI.out
          rw [ET.out] at hcv ⊢
          rw [HT.out, ← HE.out.2] at hcv
          clear HA HI
          go_wp2
          go_ret2
          exact ⟨ret_si rfl HE.out.1.symm, bel⟩
end Go.Proofs.YtgjcbgconkiedaaDoor
