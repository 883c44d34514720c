/- All strings one behind the other, on both sides. -/
import Derived.Test.YtgjcbgconkiedabDoorProg
import Derived.Test.YtgjcbgconkiedabDoorShelf
import Derived.Test.YtgjcbgconkiedabDoorStr1
import Derived.Test.YtgjcbgconkiedabDoorStr4
import Derived.WalkKit
import Derived.ProofKit
import Derived.OpenShut
import Derived.Below
import Derived.WalkLawsBesides
import Derived.OwnWalk
import Derived.Laws.IdiomStrings
import Derived.Lib.AppendStr
import Derived.Lib.Builder
namespace Go.Proofs.YtgjcbgconkiedabDoor
open Go.ChangeShapes Go.WideShapes Go.ChangeAt Go.RowKit

/-- The bytes of all, one behind the other. -/
def allB (zs : List ByteArray) : List UInt8 := zs.flatMap fun z => z.data.toList
def catE (zs : List ByteArray) : Int := if zs.any (fun z => decide (65536 < z.size)) then 1 else if 65536 < (allB zs).length then 2 else 0
def catS (zs : List ByteArray) : ByteArray := if catE zs = 0 then ⟨(allB zs).toArray⟩ else ⟨#[]⟩

theorem getD_at {zs : List ByteArray} {k : Nat} (h : k < zs.length) : zs.getD k ByteArray.empty = zs[k] := by simp [List.getD_eq_getElem?_getD, h]
theorem allB_snoc {zs : List ByteArray} {k : Nat} (h : k < zs.length) : allB (zs.take (k + 1)) = allB (zs.take k) ++ (zs.getD k ByteArray.empty).data.toList := by
  rw [List.take_succ_eq_append_getElem h, allB, List.flatMap_append, getD_at h]; simp [allB]
theorem allB_len_snoc {zs : List ByteArray} {k : Nat} (h : k < zs.length) : (allB (zs.take (k + 1))).length = (allB (zs.take k)).length + (zs.getD k ByteArray.empty).size := by
  rw [allB_snoc h, List.length_append]; simp
theorem allB_take_le (zs : List ByteArray) (k : Nat) : (allB (zs.take k)).length ≤ (allB zs).length := by
  conv => rhs; rw [← List.take_append_drop k zs]
  simp only [allB, List.flatMap_append, List.length_append]
  omega
theorem cat_arg {zs : List ByteArray} {k : Nat} (h : k < zs.length) (g : 65536 < (zs.getD k ByteArray.empty).size) : catE zs = 1 ∧ catS zs = ⟨#[]⟩ := by
  have e : catE zs = 1 := by
    unfold catE
    rw [if_pos]
    rw [List.any_eq_true]
    exact ⟨zs[k], List.getElem_mem h, by rw [← getD_at h]; exact decide_eq_true g⟩
  exact ⟨e, by unfold catS; rw [e]; rfl⟩
theorem all_ok {zs : List ByteArray} (h : ∀ j, j < zs.length → (zs.getD j ByteArray.empty).size ≤ 65536) : zs.any (fun z => decide (65536 < z.size)) = false := by
  rw [List.any_eq_false]
  intro z hz
  obtain ⟨i, hi, rfl⟩ := List.mem_iff_getElem.1 hz
  have := h i hi
  rw [getD_at hi] at this
  simp only [decide_eq_true_eq]
  omega
theorem cat_long {zs : List ByteArray} {k : Nat} (h : ∀ j, j < zs.length → (zs.getD j ByteArray.empty).size ≤ 65536) (g : 65536 < (allB (zs.take k)).length) : catE zs = 2 ∧ catS zs = ⟨#[]⟩ := by
  have e : catE zs = 2 := by
    unfold catE
    rw [if_neg (by rw [all_ok h]; decide), if_pos (by have := allB_take_le zs k; omega)]
  exact ⟨e, by unfold catS; rw [e]; rfl⟩
theorem cat_ok {zs : List ByteArray} (h : ∀ j, j < zs.length → (zs.getD j ByteArray.empty).size ≤ 65536) (g : (allB zs).length ≤ 65536) : catE zs = 0 ∧ catS zs = ⟨(allB zs).toArray⟩ := by
  have e : catE zs = 0 := by
    unfold catE
    rw [if_neg (by rw [all_ok h]; decide), if_neg (by omega)]
  exact ⟨e, by unfold catS; rw [e]; rfl⟩

theorem add_block (a : Addr) (k : Nat) : (a.add k).block = a.block := by unfold Addr.add; split <;> rfl

/-- What is told of a slice of strings that a call is handed: none, or a row of them. -/
def Strs (w : World) (v : Value) (zs : List ByteArray) : Prop :=
  ∃ ao cap, v = .slice ao zs.length cap ∧ zs.length ≤ maxLen ∧ ∀ j, j < zs.length → ∃ a : Addr, ao = some a ∧ a.block < w.heap.size ∧ w.cell? (a.add j) = some (.string (zs.getD j ByteArray.empty))

theorem builder_new (w : World) : Lib.IsBuilder 39 5 w.heap.size w.heap.size (Lib.byteCells []) (w.alloc (.cells #[.pointer none, .slice none 0 0] 39)) := by
  refine .inl ⟨Nat.le_refl _, .slice none 0 0, ?_, World.ownsRow_nil _ _ _ _, by simp [Value.ownBlock]⟩
  show (w.heap.push _)[w.heap.size]? = _
  simp

set_option maxHeartbeats 2000000 in
set_option maxRecDepth 100000 in
theorem cat_any (v : Value) (zs : List ByteArray) (w : World) (hv : Strs w v zs) :
    Calls Tryd.prog 7 #[v] w fun e w' => e = .returned (.tuple #[.string (catS zs), .int .i64 (catE zs)]) ∧ Below w.heap.size w w' := by
  obtain ⟨ao, cap, rfl, hm, hc⟩ := hv
  unfold maxLen at hm
  obtain ⟨L, hL⟩ : ∃ L, zs.length = L := ⟨_, rfl⟩
  have HL := hide hL
  have HC := hide hc
  rw [hL] at hm ⊢
  clear hL hc
  obtain ⟨b, HB⟩ : ∃ b, Hid (b = w.heap.size) := ⟨_, rfl⟩
  have HN := hide (builder_new w)
  go_enter Tryd.func7, Tryd.ntmps7
  go_wp2
  go_loop [11] (fun vi => ∃ k : Nat, vi = .int .i64 (k : Int) ∧ k ≤ L ∧ Hid (∀ j, j < k → (zs.getD j ByteArray.empty).size ≤ 65536)) (fun vi => L - (intOf vi).toNat)
  case atStart => exact ⟨0, rfl, by omega, fun j hj => by omega⟩
  case round =>
    obtain ⟨k, rfl, hk, HI⟩ := hrel
    by_cases h1 : k < L
    · obtain ⟨a, ea, hab, hcell⟩ := HC.out k (by have := HL.out; omega)
      subst ea
      obtain ⟨z, ez⟩ : ∃ z, zs.getD k ByteArray.empty = z := ⟨_, rfl⟩
      have EZ := hide ez
      rw [ez] at hcell
      clear ez
      by_cases h2 : z.size ≤ 65536
      · have HD : Hid (decide (z.size ≤ 65536) = true) := by show _ = _; simp [h2]
        have HI2 : Hid (∀ j, j < k + 1 → (zs.getD j ByteArray.empty).size ≤ 65536) := by
          intro j hj
          by_cases hjk : j = k
          · subst hjk; rw [EZ.out]; exact h2
          · exact HI.out j (by omega)
        clear h2
        go_wp2_with (go_at_call 10; refine (right_any _ _).mono ?_; rintro e w' ⟨rfl, rfl⟩; rw [HD.out])
        go_round
        case rel => exact ⟨k + 1, rfl, by omega, HI2⟩
        case measure => simp [intOf]; omega
      · have HD : Hid (decide (z.size ≤ 65536) = false) := by show _ = _; simp; omega
        have HE := hide (cat_arg (zs := zs) (k := k) (by have := HL.out; omega) (by rw [EZ.out]; omega))
        clear h2
        go_wp2_with (go_at_call 10; refine (right_any _ _).mono ?_; rintro e w' ⟨rfl, rfl⟩; rw [HD.out])
        go_ret2
        exact ⟨ret_si HE.out.2.symm HE.out.1.symm, Below.refl _ _⟩
    · have HA : Hid (∀ j, j < zs.length → (zs.getD j ByteArray.empty).size ≤ 65536) := fun j hj => HI.out j (by have := HL.out; omega)
      clear HI
      go_wp2
      go_loopw [21] (fun vi wr => ∃ k : Nat, vi = .int .i64 (k : Int) ∧ k ≤ L ∧ (allB (zs.take k)).length ≤ 65536 ∧ Hid (Lib.IsBuilder 39 5 w.heap.size w.heap.size (Lib.byteCells (allB (zs.take k))) wr) ∧ Below w.heap.size w wr ∧ w.heap.size + 1 ≤ wr.heap.size) (fun vi _ => L - (intOf vi).toNat)
      case atStart => exact ⟨0, rfl, by omega, by simp [allB], HN, (Below.refl _ _).alloc (Nat.le_refl _) _, by simp⟩
      case round =>
        obtain ⟨k, rfl, hk, hlen, HI, bel, hsz⟩ := hrel
        obtain ⟨t, et⟩ : ∃ t, (allB (zs.take k)).length = t := ⟨_, rfl⟩
        have ET := hide et
        rw [et] at hlen
        clear et
        by_cases h1 : k < L
        · obtain ⟨a, ea, hab, hcell⟩ := HC.out k (by have := HL.out; omega)
          subst ea
          obtain ⟨z, ez⟩ : ∃ z, zs.getD k ByteArray.empty = z := ⟨_, rfl⟩
          have EZ := hide ez
          rw [ez] at hcell
          clear ez
          rw [← bel.cell (p := a.add k) (by rw [add_block]; exact hab)] at hcell
          have hz : z.size ≤ 65536 := by rw [← EZ.out]; exact HA.out k (by have := HL.out; omega)
          have HS : Hid ((allB (zs.take (k + 1))).length = t + z.size) := by
            show _ = _
            rw [allB_len_snoc (by have := HL.out; omega), ET.out, EZ.out]
          have HSS : Hid (allB (zs.take (k + 1)) = allB (zs.take k) ++ z.data.toList) := by
            show _ = _
            rw [allB_snoc (by have := HL.out; omega), EZ.out]
          have CL : ∀ W, W = wr → Calls Tryd.prog 11 #[.pointer (some ⟨w.heap.size, 0, none⟩)] W fun e w' => e = .returned (.int .i64 t) ∧ w' = W := by
            rintro W rfl
            refine (Tryd.Builder_Len _ _ _ _ HI.out).mono ?_
            rintro e w' ⟨rfl, rfl⟩
            exact ⟨by rw [Lib.byteCells_length, ET.out], rfl⟩
          by_cases h3 : 65536 < t + z.size
          · have HE := hide (cat_long (zs := zs) (k := k + 1) HA.out (by rw [HS.out]; exact h3))
            go_wp2_with (go_at_call 11; refine (CL _ rfl).mono ?_; rintro e w' ⟨rfl, rfl⟩)
            go_ret2
            exact ⟨ret_si HE.out.2.symm HE.out.1.symm, bel⟩
          · go_wp2_with (first | (go_at_call 11; refine (CL _ rfl).mono ?_; rintro e w' ⟨rfl, rfl⟩) | (go_at_call 12; refine (write_any _ _ _ _ _ HI.out (by rw [ET.out]; omega) (by omega)).mono ?_; rintro e w2 ⟨rfl, i2, b2⟩; have I2 := hide i2; clear i2; have S2 := hide b2.size))
            go_roundw
            case rel => exact ⟨k + 1, rfl, by omega, by rw [HS.out]; omega, by show Lib.IsBuilder _ _ _ _ _ _; rw [HSS.out]; exact I2.out, bel.trans b2, Nat.le_trans hsz b2.size⟩
            case measure => simp [intOf]; omega
        · have hk2 : k = L := by omega
          have HT : Hid (zs.take k = zs) := List.take_of_length_le (by have := HL.out; omega)
          have HE := hide (cat_ok HA.out (by rw [← HT.out, ET.out]; exact hlen))
          have CS : ∀ W, W = wr → Calls Tryd.prog 13 #[.pointer (some ⟨w.heap.size, 0, none⟩)] W fun e w' => e = .returned (.string (catS zs)) ∧ Below w.heap.size W w' := by
            rintro W rfl
            have := Tryd.Builder_String_any _ _ _ _ HI.out (by omega)
            rw [HT.out] at this
            rw [HE.out.2]
            exact this
          clear HA HI
          go_wp2_with (go_at_call 13; refine (CS _ rfl).mono ?_; rintro e w2 ⟨rfl, b2⟩)
          go_ret2
          exact ⟨ret_si rfl HE.out.1.symm, bel.trans b2⟩
end Go.Proofs.YtgjcbgconkiedabDoor
