/- The first scope. -/
import Derived.Test.YtlmbdmmlpginfaaGreatDoorProg
import Derived.Test.YtlmbdmmlpginfaaGreatDoorTree33
import Derived.Test.YtlmbdmmlpginfaaGreatDoorShelf3
import Derived.WalkKit
import Derived.ProofKit
import Derived.OpenShut
import Derived.Below
import Derived.WalkLawsBesides
import Derived.OwnWalk
import Derived.BigQuiet
import Derived.Deep.MidRow
import Derived.Deep.RegionHeld
import Derived.Deep.RegionHeld3
import Derived.WalkSmall
import Derived.Deep.DeepCutAuto
import Derived.Maps.Own
namespace Go.Proofs.YtlmbdmmlpginfaaGreatDoor
open Go.ChangeShapes Go.WideShapes Go.ChangeAt Go.RowKit

theorem tab_keep {P : Program} {w w' : World} {g : Nat} {n : String} {k : IntKind} {zs : List Int} (hg : P.globalNamed n = some g) (h : Lib.TabIs P w n k zs) (hb : Below w.heap.size w w') : Lib.TabIs P w' n k zs := by
  unfold Lib.TabIs World.var? at h ⊢
  rw [hg] at h ⊢
  simp only [Option.bind_some] at h ⊢
  have hlt : g < w.heap.size := by
    rcases Nat.lt_or_ge g w.heap.size with h' | h'
    · exact h'
    · rw [Array.getElem?_eq_none h'] at h; cases h
  rw [hb.block g hlt]
  exact h
theorem spaceG : Tryz.prog.globalNamed "strings.asciiSpace" = some 0 := by kernel_rfl

/-- The names of each level. -/
def lvT (k : Nat) : ByteArray :=
  match k with
  | 0 => ⟨#[98, 101, 102, 111, 114, 101]⟩
  | 3 => ⟨#[58, 61, 32, 111]⟩
  | 4 => ⟨#[61, 32, 60, 62, 32, 62, 32, 62, 61, 32, 60, 32, 60, 61]⟩
  | 5 => ⟨#[58, 58, 32, 64]⟩
  | 6 => ⟨#[43, 32, 45, 32, 94]⟩
  | 7 => ⟨#[42, 32, 47, 32, 100, 105, 118, 32, 109, 111, 100]⟩
  | _ => ⟨#[]⟩
def lvN (k : Nat) : List (List UInt8) := Lib.fields (lvT k).data.toList
def lvArr : Value := .agg #[.string ⟨#[98, 101, 102, 111, 114, 101]⟩, .string ⟨#[]⟩, .string ⟨#[]⟩, .string ⟨#[58, 61, 32, 111]⟩, .string ⟨#[61, 32, 60, 62, 32, 62, 32, 62, 61, 32, 60, 32, 60, 61]⟩, .string ⟨#[58, 58, 32, 64]⟩, .string ⟨#[43, 32, 45, 32, 94]⟩, .string ⟨#[42, 32, 47, 32, 100, 105, 118, 32, 109, 111, 100]⟩]
def scPut (k : Nat) (D : DataW Unit) (n : List UInt8) : DataW Unit := D.put (.string n) (.agg [.lit (.bool true), .lit (.int .i64 (k : Int)), .lit (.bool ((k : Int) == 5))])
def scD : Nat → DataW Unit
  | 0 => .map []
  | k + 1 => (lvN k).foldl (scPut k) (scD k)
theorem lv_ok : ∀ k, k < 8 → (lvT k).size < 4294967281 ∧ (∀ (j : Nat) b, (lvT k).data.toList[j]? = some b → b.toNat < 128) ∧ (lvN k).length ≤ 6 ∧ (∀ j, ((lvN k).getD j []).length ≤ 8) := by
  intro k hk
  have hall : ∀ l : List UInt8, (l.all fun b => decide (b.toNat < 128)) = true → ∀ (j : Nat) b, l[j]? = some b → b.toNat < 128 := fun l h j b hj => by
    have := List.all_eq_true.1 h b (List.mem_of_getElem? hj)
    simpa using this
  have hlen : ∀ l : List (List UInt8), (l.all fun x => decide (x.length ≤ 8)) = true → ∀ j, (l.getD j []).length ≤ 8 := fun l h j => by
    rw [List.getD_eq_getElem?_getD]
    cases hx : l[j]? with
    | none => simp
    | some x =>
      have := List.all_eq_true.1 h x (List.mem_of_getElem? hx)
      simpa using this
  match k, hk with
  | 0, _ => exact ⟨by decide, hall _ (by decide), by decide, hlen _ (by decide)⟩
  | 1, _ => exact ⟨by decide, hall _ (by decide), by decide, hlen _ (by decide)⟩
  | 2, _ => exact ⟨by decide, hall _ (by decide), by decide, hlen _ (by decide)⟩
  | 3, _ => exact ⟨by decide, hall _ (by decide), by decide, hlen _ (by decide)⟩
  | 4, _ => exact ⟨by decide, hall _ (by decide), by decide, hlen _ (by decide)⟩
  | 5, _ => exact ⟨by decide, hall _ (by decide), by decide, hlen _ (by decide)⟩
  | 6, _ => exact ⟨by decide, hall _ (by decide), by decide, hlen _ (by decide)⟩
  | 7, _ => exact ⟨by decide, hall _ (by decide), by decide, hlen _ (by decide)⟩
theorem lv_index : ∀ k : Nat, k < 8 → ∀ W, (Instr.index 111 lvArr (.int .i64 (k : Int))).run Tryz.prog W = .ok (.string (lvT k)) W := by
  intro k hk W
  match k, hk with
  | 0, _ => show _ = _; kernel_rfl
  | 1, _ => show _ = _; kernel_rfl
  | 2, _ => show _ = _; kernel_rfl
  | 3, _ => show _ = _; kernel_rfl
  | 4, _ => show _ = _; kernel_rfl
  | 5, _ => show _ = _; kernel_rfl
  | 6, _ => show _ = _; kernel_rfl
  | 7, _ => show _ = _; kernel_rfl
theorem fold_snoc {α β : Type} (f : β → α → β) (d : β) (z : α) (l : List α) (j : Nat) (h : j < l.length) : (l.take (j + 1)).foldl f d = f ((l.take j).foldl f d) (l.getD j z) := by
  rw [List.take_succ_eq_append_getElem h, List.foldl_append]
  simp [List.getD_eq_getElem?_getD, h]

set_option maxRecDepth 100000 in
set_option maxHeartbeats 16000000 in
theorem firstScope_any (w : World) (htab : Lib.TabIs Tryz.prog w "strings.asciiSpace" .u8 Lib.asciiSpaceTab) :
    Calls Tryz.prog 39 #[] w fun e w' => e = .returned (.pointer (some ⟨w.heap.size + 1, 0, none⟩)) ∧ Below w.heap.size w w' ∧ w.heap.size + 1 < w'.heap.size ∧ w'.cell? ⟨w.heap.size + 1, 0, none⟩ = some (.pointer none) ∧ w'.cell? ⟨w.heap.size + 1, 1, none⟩ = some (.map (some w.heap.size)) ∧ w'.ownsMap Tryz.prog 9 fixElem w.heap.size 64 (scD 8) := by
  have CI := hide' (inner_any none w)
  obtain ⟨W1, hW1⟩ : ∃ W1, (w.alloc (.map #[] 0)).alloc (.cells #[.pointer none, .map (some w.heap.size)] 117) = W1 := ⟨_, rfl⟩
  rw [hW1] at CI
  have B1 : Below w.heap.size w W1 := by rw [← hW1]; exact ((Below.refl _ _).alloc (Nat.le_refl _) _).alloc (by simp) _
  have S1 : W1.heap.size = w.heap.size + 2 := by rw [← hW1]; simp
  have d0 : W1.cell? ⟨w.heap.size + 1, 0, none⟩ = some (.pointer none) := by rw [← hW1]; simp
  have d1 : W1.cell? ⟨w.heap.size + 1, 1, none⟩ = some (.map (some w.heap.size)) := by rw [← hW1]; simp
  have om : W1.ownsMap Tryz.prog 9 fixElem w.heap.size 0 (.map []) := by rw [← hW1]; exact (World.ownsMap_made w _ _ _).alloc _
  have HTAB := hide' htab
  have HB1 := hide' B1
  have HOM := hide' om
  clear htab B1 om hW1
  go_enter Tryz.func39, Tryz.ntmps39
  go_wp2_with (go_at_call 71; refine CI.out.mono ?_; clear CI; rintro e w1 ⟨rfl, hw1⟩; subst hw1)
  go_loopw [10] (fun v wr => ∃ k : Nat, k ≤ 8 ∧ v = .int .i64 (k : Int) ∧ Hid' (Below w.heap.size w wr ∧ w.heap.size + 1 < wr.heap.size ∧ wr.cell? ⟨w.heap.size + 1, 0, none⟩ = some (.pointer none) ∧ wr.cell? ⟨w.heap.size + 1, 1, none⟩ = some (.map (some w.heap.size)) ∧ wr.ownsMap Tryz.prog 9 fixElem w.heap.size (8 * k) (scD k))) (fun v _ => 8 - (intOf v).toNat)
  case atStart => exact ⟨0, by decide, rfl, ⟨HB1.out, by omega, d0, d1, HOM.out⟩⟩
  case round =>
    obtain ⟨k, hk, rfl, HI⟩ := hrel
    by_cases h8 : k < 8
    · obtain ⟨bw, hsz, e0, e1, om⟩ := HI.out
      have hix := lv_index k h8
      unfold lvArr at hix
      obtain ⟨o1, o2, o3, o4⟩ := lv_ok k h8
      have CF := hide' (Tryz.strings_Fields (lvT k) wr o1 o2 (tab_keep spaceG HTAB.out bw))
      have HL8 := hide' o4
      have HSD : Hid' (scD (k + 1) = (lvN k).foldl (scPut k) (scD k)) := ⟨rfl⟩
      have hnm : Lib.fields (lvT k).data.toList = lvN k := rfl
      rw [hnm] at CF
      generalize lvT k = tk at *
      generalize lvN k = nm at *
      obtain ⟨L, hL⟩ : ∃ L, nm.length = L := ⟨_, rfl⟩
      rw [hL] at CF o3
      have HL := hide' hL
      obtain ⟨W2, hW2⟩ : ∃ W2, wr.alloc (.cells (nm.map fun l => Value.string ⟨l.toArray⟩).toArray 9) = W2 := ⟨_, rfl⟩
      rw [hW2] at CF
      have hcs : Hid' (∀ j, j < L → W2.cell? ⟨wr.heap.size, j, none⟩ = some (.string ⟨(nm.getD j []).toArray⟩)) := ⟨fun j hj => by
        have := cellsNew wr (nm.map fun l => Value.string ⟨l.toArray⟩) 9 j (.string ⟨(nm.getD j []).toArray⟩) (by
          have hj' : j < nm.length := by omega
          simp [List.getD_eq_getElem?_getD, hj'])
        rw [hW2, show (⟨wr.heap.size, 0, none⟩ : Addr).add j = ⟨wr.heap.size, j, none⟩ from by unfold Addr.add; simp; omega] at this
        exact this⟩
      have B2 : Below wr.heap.size wr W2 := by rw [← hW2]; exact (Below.refl _ _).alloc (Nat.le_refl _) _
      have S2 : W2.heap.size = wr.heap.size + 1 := by rw [← hW2]; simp
      have om2 : W2.ownsMap Tryz.prog 9 fixElem w.heap.size (8 * k) (scD k) := by rw [← hW2]; exact om.alloc _
      have HB2 := hide' (bw.trans (B2.mono (by omega)))
      have e0' := (B2.cell (p := ⟨w.heap.size + 1, 0, none⟩) hsz).trans e0
      have e1' := (B2.cell (p := ⟨w.heap.size + 1, 1, none⟩) hsz).trans e1
      have HOM2 := hide' om2
      obtain ⟨F, hF⟩ : ∃ F, wr.heap.size = F := ⟨_, rfl⟩
      rw [hF] at CF hcs S2 hsz
      clear bw e0 e1 om om2 hW2 hL hnm o1 o2 o4 hF B2
      go_wp2_with (go_at_call 72; refine CF.out.mono ?_; clear CF; rintro e w2 ⟨rfl, hw2⟩; subst hw2)
      have S2' : w2.heap.size = F + 1 := S2
      go_loopw [17] (fun v wy => ∃ j : Nat, j ≤ L ∧ v = .int .i64 (j : Int) ∧ Hid' (Below w.heap.size w wy ∧ w2.heap.size ≤ wy.heap.size ∧ (∀ g, g < w2.heap.size → g ≠ w.heap.size → wy.heap[g]? = w2.heap[g]?) ∧ wy.ownsMap Tryz.prog 9 fixElem w.heap.size (8 * k + j) ((nm.take j).foldl (scPut k) (scD k)))) (fun v _ => L - (intOf v).toNat)
      case atStart => exact ⟨0, by omega, rfl, ⟨HB2.out, Nat.le_refl _, fun _ _ _ => rfl, HOM2.out⟩⟩
      case round =>
        obtain ⟨j, hj, rfl, HJ⟩ := hrel
        obtain ⟨x1, x2, x3, x4⟩ := HJ.out
        have y0 := (cell_of_block (a := ⟨w.heap.size + 1, 0, none⟩) (x3 _ (by show w.heap.size + 1 < _; omega) (by show w.heap.size + 1 ≠ _; omega))).trans e0'
        have y1 := (cell_of_block (a := ⟨w.heap.size + 1, 1, none⟩) (x3 _ (by show w.heap.size + 1 < _; omega) (by show w.heap.size + 1 ≠ _; omega))).trans e1'
        have HX4 := hide' x4
        have HX1 := hide' x1
        have HX3 := hide' x3
        clear x1 x3 x4
        by_cases hjl : j < L
        · have yc := (cell_of_block (a := ⟨F, j, none⟩) (HX3.out _ (by show F < _; omega) (by show F ≠ _; omega))).trans (hcs.out j hjl)
          have hkey : keyOf Tryz.prog 9 (.string ⟨(nm.getD j []).toArray⟩) = some (.string (nm.getD j [])) := WideMaps.keyOf_string_mk Tryz.underlying9 (Nat.le_trans (show ((nm.getD j []).toArray).size ≤ 8 by simpa using HL8.out j) (by unfold maxLen; decide))
          have HFS := hide' (fold_snoc (scPut k) (scD k) [] nm j (by have := HL.out; omega))
          generalize nm.getD j [] = nj at *
          go_wp2_with (at_mapUpdate; refine wpList_mapUpdate_own _ rfl _ _ _ 115 rfl 9 114 keyLaw Tryz.underlying115 fixElem w.heap.size (8 * k + j) _ rfl HX4.out (by unfold maxLen; omega) _ _ _ rfl rfl hkey (.agg [.lit (.bool true), .lit (.int .i64 (k : Int)), .lit (.bool ((k : Int) == 5))]) [] rfl ?_; intro w9 hown9 hgrow9)
          go_roundw
          case rel =>
            refine ⟨j + 1, by omega, by go_num, ⟨⟨HX1.out.os ▸ hgrow9.os, HX1.out.tape ▸ hgrow9.tape, HX1.out.output ▸ hgrow9.output, Nat.le_trans HX1.out.size hgrow9.size, fun g hg => (hgrow9.block g (Nat.lt_of_lt_of_le hg HX1.out.size) (by simp; omega)).trans (HX1.out.block g hg)⟩, Nat.le_trans x2 hgrow9.size, fun g hg hne => (hgrow9.block g (by omega) (by simpa using hne)).trans (HX3.out g hg hne), ?_⟩⟩
            rw [HFS.out]
            exact hown9
          case measure => first | (simp [intOf]; done) | (simp [intOf]; omega)
        · have htk : nm.take j = nm := List.take_of_length_le (by have := HL.out; omega)
          rw [htk] at HX4
          go_wp2_with fail
          go_roundw
          case rel => exact ⟨k + 1, by omega, by go_num, ⟨HX1.out, by omega, y0, y1, by rw [HSD.out]; exact HX4.out.mono (by omega)⟩⟩
          case measure => first | (simp [intOf]; done) | (simp [intOf]; omega)
    · obtain rfl : k = 8 := by omega
      go_wp2_with fail
      go_ret
      exact ⟨rfl, HI.out.1, HI.out.2.1, HI.out.2.2.1, HI.out.2.2.2.1, HI.out.2.2.2.2⟩
end Go.Proofs.YtlmbdmmlpginfaaGreatDoor
