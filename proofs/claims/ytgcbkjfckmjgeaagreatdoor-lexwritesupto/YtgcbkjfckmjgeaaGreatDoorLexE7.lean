/- The strings' builder: its check and its one writing call. -/
import Derived.Test.YtgcbkjfckmjgeaaGreatDoorProg
import Derived.Test.YtgcbkjfckmjgeaaGreatDoorShelf
import Derived.Test.YtgcbkjfckmjgeaaGreatDoorLexB
import Derived.WalkKit
import Derived.ProofKit
import Derived.OpenShut
import Derived.Below
import Derived.WalkLawsBesides
import Derived.OwnWalk
import Derived.Laws.Externs
import Derived.Lib.Builder
import Derived.Lib.AppendStr
import Derived.Test.YtgcbkjfckmjgeaaGreatDoorLexE5
import Derived.BigQuiet
import Derived.WalkSmall
import Derived.Deep.MidRow
import Derived.Deep.RegionHeld
import Derived.Deep.RegionHeld3
namespace Go.Proofs.YtgcbkjfckmjgeaaGreatDoor
open Go.ChangeShapes Go.WideShapes Go.ChangeAt Go.RowKit

theorem sizeBuilder : (Tryz.prog.info? 67).map (·.size) = some 2 := by kernel_rfl
theorem liesBuilder : liesAt Tryz.prog Tryz.prog.depth 67 (2 / Tryz.prog.cellsOf 67) 0 67 1 = true := by kernel_rfl

set_option maxHeartbeats 1000000 in
set_option maxRecDepth 100000 in
theorem check_used (b : Nat) (w : World) (h0 : w.cell? ⟨b, 0, none⟩ = some (.pointer (some ⟨b, 0, none⟩))) :
    Calls Tryz.prog 54 #[.pointer (some ⟨b, 0, none⟩)] w fun e w' => e = .returned (.tuple #[]) ∧ w' = w := by
  obtain ⟨j, hj, _⟩ := Option.map_eq_some_iff.1 sizeBuilder
  go_enter Tryz.func54, Tryz.ntmps54
  go_wp2
  rw [Lib.run_neq_ptr_same w _ Tryz.underlying64 hj]
  go_wp2
  go_end0
  exact ⟨rfl, rfl⟩

set_option maxHeartbeats 1000000 in
set_option maxRecDepth 100000 in
theorem check_fresh (b : Nat) (w : World) (h0 : w.cell? ⟨b, 0, none⟩ = some (.pointer none)) (hsh : w.shape? b = some (67, 2)) (hfz : w.frozen? ⟨b, 0, none⟩ = false) :
    Calls Tryz.prog 54 #[.pointer (some ⟨b, 0, none⟩)] w fun e w' => e = .returned (.tuple #[]) ∧ w' = w.setCell ⟨b, 0, none⟩ (.pointer (some ⟨b, 0, none⟩)) := by
  obtain ⟨j, hj, hjs⟩ := Option.map_eq_some_iff.1 sizeBuilder
  go_enter Tryz.func54, Tryz.ntmps54
  go_wp2
  rw [Lib.run_to_unsafe w ⟨b, 0, none⟩ Tryz.underlying64 Tryz.underlying103 hj (by rw [hjs]; decide) hsh (Nat.zero_lt_succ 1)]
  simp only [Result.andThen]
  rw [Oper.upon_value]
  go_wp2
  rw [run_callFunc_extern Tryz.func74 (by kernel_rfl) (by kernel_rfl) (by kernel_rfl) (e := Extern.AbiNoEscape.same) (by kernel_rfl)]
  rw [Lib.run_noEscape]
  simp only [Result.andThen]
  rw [Oper.upon_value]
  go_wp2
  rw [Lib.run_from_unsafe w ⟨b, 0, none⟩ Tryz.underlying103 Tryz.underlying64 hj hsh liesBuilder]
  simp only [Result.andThen]
  rw [Oper.upon_value]
  go_wp2
  go_end0
  exact ⟨rfl, rfl⟩

theorem check_any (B b : Nat) (bs : List Value) (w : World) (h : Lib.IsBuilder 67 5 B b bs w) :
    Calls Tryz.prog 54 #[.pointer (some ⟨b, 0, none⟩)] w fun e w' => e = .returned (.tuple #[]) ∧ Lib.BuilderAt 67 5 B b (.pointer (some ⟨b, 0, none⟩)) bs w' ∧ Below B w w' := by
  rcases h with h | h
  · refine (check_fresh b w h.cell0 h.shape h.frozen0).mono ?_
    rintro e w' ⟨rfl, rfl⟩
    exact ⟨rfl, h.used _, (Below.refl B w).setCell (p := ⟨b, 0, none⟩) h.1 _⟩
  · refine (check_used b w h.cell0).mono ?_
    rintro e w' ⟨rfl, rfl⟩
    exact ⟨rfl, h, Below.refl B _⟩

set_option maxHeartbeats 2000000 in
set_option maxRecDepth 100000 in
theorem write_any (B b : Nat) (l : List UInt8) (s : ByteArray) (w : World) (h : Lib.IsBuilder 67 5 B b (Lib.byteCells l) w) (hlen : l.length + s.size ≤ 140737488355328) (hBw : B ≤ w.heap.size) :
    Calls Tryz.prog 30 #[.pointer (some ⟨b, 0, none⟩), .string s] w fun e w' => e = .returned (.tuple #[.int .i64 s.size, .nilIface]) ∧ Lib.IsBuilder 67 5 B b (Lib.byteCells (l ++ s.data.toList)) w' ∧ Below B w w' := by
  obtain ⟨i0, hi, hz0, hz1, hz2⟩ := info_parts infoByte
  go_enter Tryz.func30, Tryz.ntmps30
  go_wp2_with (go_at_call 54; refine (check_any B b _ _ h).mono ?_)
  rintro e w1 ⟨rfl, h1, hb1⟩
  obtain ⟨hB, v, hbk, hown, hne⟩ := h1
  have c1 : w1.cell? ⟨b, 1, none⟩ = some v := by rw [Lib.cell_of_heap hbk]; rfl
  have hbw := hb1.size
  go_wp2_with (at_builtin; refine Lib.wpList_append_own_string _ rfl _ _ 65 9 rfl B 5 i0 Tryz.underlying65 Tryz.underlying9 hi hz0 hz1 hz2 _ _ _ rfl hown s rfl ?c3 ?c4 ?c5 ?_)
  case c3 => rw [Lib.byteCells_length]; unfold maxLen; omega
  case c4 => rw [Lib.byteCells_length]; omega
  case c5 => omega
  intro v' w2 hown' hgrow _
  have hlt : b < w1.heap.size := by
    rcases Nat.lt_or_ge b w1.heap.size with h' | h'
    · exact h'
    · simp [Array.getElem?_eq_none h'] at hbk
  have hb2 : w2.heap[b]? = some (.cells #[.pointer (some ⟨b, 0, none⟩), v] 67 (0, 0)) := by
    rw [hgrow.block b hlt (fun e => hne e.symm)]
    exact hbk
  have d1 : w2.cell? ⟨b, 1, none⟩ = some v := by rw [Lib.cell_of_heap hb2]; rfl
  have f1 : w2.frozen? ⟨b, 1, none⟩ = false := Lib.frozen_of_heap hb2 1
  obtain ⟨ao, n', cap, rfl⟩ : ∃ ao n' cap, v' = .slice ao n' cap := by
    rcases hown'.2 with ⟨hv, _⟩ | ⟨g, cap, cur, hv, _⟩
    · exact ⟨_, _, _, hv⟩
    · exact ⟨_, _, _, hv⟩
  go_wp2
  go_ret2
  have eb : Lib.byteCells (l ++ s.data.toList) = Lib.byteCells l ++ Lib.strCells s := by simp [Lib.byteCells, Lib.strCells]
  refine ⟨rfl, .inr ?_, ?_⟩
  · rw [eb]
    exact Lib.BuilderAt.put (T := 67) (e := 5) hB hb2 (bs' := Lib.byteCells l ++ Lib.strCells s) (by simpa [Lib.strCells_length] using hown') (by decide)
  · exact (hb1.grown hgrow (by omega) (fun k hk => (hown.lt k hk).1)).setCell (p := ⟨b, 1, none⟩) hB _
theorem builder_new (w : World) : Lib.IsBuilder 67 5 w.heap.size w.heap.size (Lib.byteCells []) (w.alloc (.cells #[.pointer none, .slice none 0 0] 67)) := by
  refine .inl ⟨Nat.le_refl _, .slice none 0 0, ?_, World.ownsRow_nil _ _ _ _, by simp [Value.ownBlock]⟩
  show (w.heap.push _)[w.heap.size]? = _
  simp
end Go.Proofs.YtgcbkjfckmjgeaaGreatDoor
/- The program's writer: Join. -/
namespace Go.Proofs.YtgcbkjfckmjgeaaGreatDoor
open Go.ChangeShapes Go.WideShapes Go.ChangeAt Go.RowKit

/-- A token that a call is handed. -/
structure ITok where
  kind : Int
  text : List UInt8
  path : List (List UInt8)
  line : Int
  column : Int
def ITok.zero : ITok := ⟨0, [], [], 0, 0⟩
/-- Its five cells lie from a place on. -/
structure TokAt (w : World) (g o : Nat) (t : ITok) (pv : Value) : Prop where
  c0 : w.cell? ⟨g, o, none⟩ = some (.int .i64 t.kind)
  c1 : w.cell? ⟨g, o + 1, none⟩ = some (.string ⟨t.text.toArray⟩)
  c2 : w.cell? ⟨g, o + 2, none⟩ = some pv
  c3 : w.cell? ⟨g, o + 3, none⟩ = some (.int .i64 t.line)
  c4 : w.cell? ⟨g, o + 4, none⟩ = some (.int .i64 t.column)
  rd : RdS w pv t.path
  tx : t.text.length ≤ 281474976710656
  ps : ∀ j, j < t.path.length → (t.path.getD j []).length ≤ 281474976710656
/-- A row of tokens that can be read. -/
def RdT (w : World) (v : Value) (l : List ITok) : Prop :=
  ∃ ao cap, v = .slice ao l.length cap ∧ l.length ≤ 9223372036854775807 ∧ ∀ j, j < l.length → ∃ (g o : Nat) (pv : Value), ao = some ⟨g, o, none⟩ ∧ g < w.heap.size ∧ TokAt w g (o + j * 5) (l.getD j ITok.zero) pv
theorem TokAt.below {w w' : World} {g o : Nat} {t : ITok} {pv : Value} (h : TokAt w g o t pv) (b : Below w.heap.size w w') (hg : g < w.heap.size) : TokAt w' g o t pv :=
  ⟨by rw [b.cell (p := ⟨g, o, none⟩) hg]; exact h.c0, by rw [b.cell (p := ⟨g, o + 1, none⟩) hg]; exact h.c1, by rw [b.cell (p := ⟨g, o + 2, none⟩) hg]; exact h.c2, by rw [b.cell (p := ⟨g, o + 3, none⟩) hg]; exact h.c3, by rw [b.cell (p := ⟨g, o + 4, none⟩) hg]; exact h.c4, rdS_below h.rd b, h.tx, h.ps⟩

/-- What is joined so far, and what stands behind. -/
def joinF : Bool → List UInt8 → List UInt8 → List ITok → List UInt8 × Nat
  | long, acc, _, [] => if long then ([], 2) else (acc, 0)
  | long, acc, gap, t :: r =>
    if (writeL t.kind t.text t.path).2 ≠ 0 then ([], (writeL t.kind t.text t.path).2)
    else if long || decide (1048576 < acc.length + gap.length + (writeL t.kind t.text t.path).1.length) then joinF true acc [32] r
    else joinF false (acc ++ gap ++ (writeL t.kind t.text t.path).1) [32] r
def joinL (l : List ITok) : List UInt8 × Nat := joinF false [] [] l

theorem ownsRow_below {B : Nat} {e : TypeId} {sz n : Nat} {v : Value} {xs : List Value} {w w' : World} (h : w.ownsRow B e sz v n xs) (b : Below w.heap.size w w') : w'.ownsRow B e sz v n xs := by
  refine ⟨h.1, ?_⟩
  rcases h.2 with h0 | ⟨g, cap, cur, hv, hb, hg, hr⟩
  · exact .inl h0
  · refine .inr ⟨g, cap, cur, hv, hb, ?_, hr⟩
    rw [b.block g (by rcases Nat.lt_or_ge g w.heap.size with x | x
                      · exact x
                      · rw [Array.getElem?_eq_none x] at hg; cases hg)]
    exact hg
theorem builder_below {B b : Nat} {bs : List Value} {w w' : World} (h : Lib.IsBuilder 67 5 B b bs w) (c : Below w.heap.size w w') : Lib.IsBuilder 67 5 B b bs w' := by
  rcases h with h | h
  · have hl := h.lt
    obtain ⟨h1, v, h2, h3, h4⟩ := h
    exact .inl ⟨h1, v, by rw [c.block b hl]; exact h2, ownsRow_below h3 c, h4⟩
  · have hl := h.lt
    obtain ⟨h1, v, h2, h3, h4⟩ := h
    exact .inr ⟨h1, v, by rw [c.block b hl]; exact h2, ownsRow_below h3 c, h4⟩
theorem joinF_nil (lng : Bool) (acc gap : List UInt8) : joinF lng acc gap [] = if lng then ([], 2) else (acc, 0) := by cases lng <;> rfl
theorem joinF_cons (lng : Bool) (acc gap : List UInt8) (t : ITok) (r : List ITok) (x : List UInt8) (e : Nat) (h : writeL t.kind t.text t.path = (x, e)) : joinF lng acc gap (t :: r) =
    if e ≠ 0 then ([], e) else if lng || decide (1048576 < acc.length + gap.length + x.length) then joinF true acc [32] r else joinF false (acc ++ gap ++ x) [32] r := by
  conv => lhs; unfold joinF
  rw [h]
theorem drop_getD {l : List ITok} {j : Nat} (h : j < l.length) : l.drop j = l.getD j ITok.zero :: l.drop (j + 1) := by
  rw [List.drop_eq_getElem_cons h]
  simp [List.getD_eq_getElem?_getD, h]
theorem writeL_len {k : Int} {t : List UInt8} {p : List (List UInt8)} {x : List UInt8} {e : Nat} (h : writeL k t p = (x, e)) : x.length ≤ 4194312 ∧ e ≤ 1 := by
  unfold writeL at h
  split at h
  · rename_i ho
    obtain ⟨rfl, rfl⟩ := Prod.mk.inj h
    refine ⟨?_, Nat.zero_le _⟩
    unfold okW at ho
    cases ht : tooB t.length p
    · unfold tooB at ht
      have := of_decide_eq_false ht
      exact spellI_len k t p (by omega)
    · rw [ht] at ho; cases ho
  · obtain ⟨rfl, rfl⟩ := Prod.mk.inj h
    exact ⟨by simp, Nat.le_refl _⟩

set_option maxHeartbeats 16000000 in
set_option maxRecDepth 100000 in
theorem join_any (v : Value) (l : List ITok) (w : World) (RD : Rdy w) (hv : RdT w v l) :
    Calls Tryz.prog 14 #[v] w fun e w' => e = .returned (.tuple #[.string ⟨(joinL l).1.toArray⟩, .int .i64 ((joinL l).2 : Nat)]) ∧ Below w.heap.size w w' := by
  obtain ⟨ao, cap, rfl, hm, hc⟩ := hv
  have HC := hide hc
  obtain ⟨L, hL⟩ : ∃ L, l.length = L := ⟨_, rfl⟩
  have HL := hide hL
  rw [hL] at hm ⊢
  obtain ⟨J, hJ⟩ : ∃ J, joinL l = J := ⟨_, rfl⟩
  rw [hJ]
  have HJ : Hid (J = joinF false [] [] (l.drop 0)) := by show _ = _; rw [List.drop_zero, ← hJ]; rfl
  have RDh := hide RD
  have HN := hide (builder_new w)
  clear hL hc hJ RD
  go_enter Tryz.func14, Tryz.ntmps14
  go_wp2
  go_loopw [5, 6, 13] (fun vg vl vi wr => ∃ (j : Nat) (lng : Bool) (acc : List UInt8) (gap : ByteArray), vi = .int .i64 (j : Int) ∧ vl = .bool lng ∧ vg = .string gap ∧ j ≤ L ∧ gap.size ≤ 1 ∧ acc.length ≤ 1048576 ∧ Hid (J = joinF lng acc gap.data.toList (l.drop j) ∧ Lib.IsBuilder 67 5 w.heap.size w.heap.size (Lib.byteCells acc) wr) ∧ Below w.heap.size w wr ∧ w.heap.size + 1 ≤ wr.heap.size) (fun _ _ vi _ => L - (intOf vi).toNat)
  case atStart => exact ⟨0, false, [], ⟨#[]⟩, rfl, rfl, rfl, Nat.zero_le _, by decide, by simp, ⟨HJ.out, HN.out⟩, (Below.refl _ _).alloc (Nat.le_refl _) _, by simp⟩
  case round =>
    obtain ⟨j, lng, acc, gap, rfl, rfl, rfl, hj, hg, hacc, HI, bel, hsz⟩ := hrel
    by_cases h1 : j < L
    · obtain ⟨g, o, pv, ea, hab, hat⟩ := HC.out j (by have := HL.out; omega)
      subst ea
      replace hat := hat.below bel hab
      have HD := hide (drop_getD (l := l) (j := j) (by have := HL.out; omega))
      obtain ⟨hJ, hIB⟩ := HI.out
      have HIB := hide hIB
      have HJ2 := hide hJ
      rw [HD.out] at HJ2
      generalize l.getD j ITok.zero = t at hat HJ2
      obtain ⟨tk, tt, tp, tx, ty⟩ := t
      obtain ⟨c0, c1, c2, c3, c4, hrd, htx, hps⟩ := hat
      simp only at c0 c1 c2 c3 c4 hrd htx hps
      obtain ⟨z, hz⟩ : ∃ z : ByteArray, ByteArray.mk tt.toArray = z := ⟨_, rfl⟩
      have hzl : z.data.toList = tt := by rw [← hz]
      have hzs : z.size ≤ 281474976710656 := by rw [← hz, mk_size]; exact htx
      rw [hz] at c1
      obtain ⟨ws, we, hw⟩ : ∃ ws we, writeL tk tt tp = (ws, we) := ⟨_, _, rfl⟩
      have hwl := writeL_len hw
      have JC := hide (HJ2.out.trans (joinF_cons lng acc gap.data.toList ⟨tk, tt, tp, tx, ty⟩ (l.drop (j + 1)) ws we hw))
      have CW := hide (fun W (b : Below wr.heap.size wr W) => write_tok tk tx ty z pv tp W (RDh.out.below (bel.trans (b.mono bel.size))) (rdS_below hrd b) hzs hps)
      rw [hzl, hw] at CW
      obtain ⟨po, pc, hpe, _, _⟩ := hrd
      subst hpe
      generalize tp.length = pl at CW c2
      obtain ⟨wz, hwz⟩ : ∃ wz : ByteArray, ByteArray.mk ws.toArray = wz := ⟨_, rfl⟩
      have hwzl : ws.length = wz.size := by rw [← hwz, mk_size]
      have HWZ : Hid (ws = wz.data.toList) := by show _ = _; rw [← hwz]
      simp only [hwz] at CW
      rw [hwzl] at hwl JC
      obtain ⟨AL, hAL⟩ : ∃ n, acc.length = n := ⟨_, rfl⟩
      have EAL := hide hAL
      rw [hAL] at hacc JC
      have bel' := Below.refl wr.heap.size wr
      have bsz := bel.size
      clear HI hJ hIB HJ2 hz hzl hzs htx hps hw HD hwz hwzl hAL HN
      by_cases he : we = 0
      · subst he
        replace JC : Hid (J = if (lng || decide (1048576 < AL + gap.data.toList.length + wz.size)) then joinF true acc [32] (l.drop (j + 1)) else joinF false (acc ++ gap.data.toList ++ ws) [32] (l.drop (j + 1))) := JC.out.trans (if_neg (by simp))
        rw [size_list] at JC
        have CL : Hid (∀ W, Lib.IsBuilder 67 5 w.heap.size w.heap.size (Lib.byteCells acc) W → Calls Tryz.prog 29 #[.pointer (some ⟨w.heap.size, 0, none⟩)] W fun e w' => e = .returned (.int .i64 (AL : Int)) ∧ w' = W) := by
          intro W hW
          refine (Tryz.Builder_Len _ _ _ _ hW).mono ?_
          rintro e w' ⟨rfl, rfl⟩
          exact ⟨by rw [Lib.byteCells_length, EAL.out], rfl⟩
        cases lng
        · obtain ⟨sm, hsm⟩ : ∃ sm, AL + gap.size + wz.size = sm := ⟨_, rfl⟩
          have hsmi : (AL : Int) + (gap.size : Int) + (wz.size : Int) = (sm : Int) := by omega
          rw [hsm] at JC
          have HSM := hide hsm
          clear hsm
          by_cases hlg : 1048576 < sm
          · have JT : Hid (J = joinF true acc [32] (l.drop (j + 1))) := JC.out.trans (if_pos (by simp; omega))
            have hdc : decide ((1048576 : Int) < (sm : Int)) = true := by simp; omega
            clear JC
            go_wp2_with (first | (go_at_call 10; refine (CW.out _ (bel'.alloc (Nat.le_refl _) _)).mono ?_; rintro e w1 ⟨rfl, b1⟩; (have B1 : Below wr.heap.size wr w1 := bel'.alloc (Nat.le_refl _) _ |>.trans (b1.mono (by simp))); (have IB1 := hide (builder_below HIB.out B1))) | (go_at_call 29; refine (CL.out _ IB1.out).mono ?_; rintro e w2 ⟨rfl, h9⟩; replace h9 := h9.symm; subst h9))
            go_roundw
            case rel => exact ⟨j + 1, true, acc, ⟨#[32]⟩, by go_num, rfl, rfl, by omega, by decide, by rw [EAL.out]; omega, ⟨JT.out, IB1.out⟩, bel.trans (B1.mono bsz), Nat.le_trans hsz B1.size⟩
            case measure => simp [intOf]; omega
          · have JT : Hid (J = joinF false (acc ++ gap.data.toList ++ ws) [32] (l.drop (j + 1))) := JC.out.trans (if_neg (by simp; omega))
            have hdc : decide ((1048576 : Int) < (sm : Int)) = false := by simp; omega
            clear JC
            go_wp2_with (first | (go_at_call 10; refine (CW.out _ (bel'.alloc (Nat.le_refl _) _)).mono ?_; rintro e w1 ⟨rfl, b1⟩; (have B1 : Below wr.heap.size wr w1 := bel'.alloc (Nat.le_refl _) _ |>.trans (b1.mono (by simp))); (have IB1 := hide (builder_below HIB.out B1))) | (go_at_call 29; refine (CL.out _ IB1.out).mono ?_; rintro e w2 ⟨rfl, h9⟩; replace h9 := h9.symm; subst h9) | (go_at_call 30; refine (write_any _ _ _ _ _ IB1.out (by rw [EAL.out]; omega) (Nat.le_trans bsz B1.size)).mono ?_; rintro e w2 ⟨rfl, i2, b2⟩; (have I2 := hide i2); (have B2 := (bel.trans (B1.mono bsz)).trans b2); (have S2 := Nat.le_trans (Nat.le_trans hsz B1.size) b2.size); clear i2 IB1) | (go_at_call 30; refine (write_any _ _ _ _ _ I2.out (by rw [List.length_append, EAL.out, size_list]; omega) B2.size).mono ?_; rintro e w3 ⟨rfl, i3, b3⟩; (have I3 := hide i3); (have B3 := B2.trans b3); (have S3 := Nat.le_trans S2 b3.size); clear i3 I2))
            go_roundw
            case rel => exact ⟨j + 1, false, acc ++ gap.data.toList ++ wz.data.toList, ⟨#[32]⟩, by go_num, rfl, rfl, by omega, by decide, by rw [List.length_append, List.length_append, EAL.out, size_list, size_list]; have := HSM.out; omega, ⟨by rw [JT.out, HWZ.out], I3.out⟩, B3, S3⟩
            case measure => simp [intOf]; omega
        · have JT : Hid (J = joinF true acc [32] (l.drop (j + 1))) := JC.out
          clear JC
          go_wp2_with (first | (go_at_call 10; refine (CW.out _ (bel'.alloc (Nat.le_refl _) _)).mono ?_; rintro e w1 ⟨rfl, b1⟩; (have B1 : Below wr.heap.size wr w1 := bel'.alloc (Nat.le_refl _) _ |>.trans (b1.mono (by simp))); (have IB1 := hide (builder_below HIB.out B1))))
          go_roundw
          case rel => exact ⟨j + 1, true, acc, ⟨#[32]⟩, by go_num, rfl, rfl, by omega, by decide, by rw [EAL.out]; omega, ⟨JT.out, IB1.out⟩, bel.trans (B1.mono bsz), Nat.le_trans hsz B1.size⟩
          case measure => simp [intOf]; omega
      · have JT : Hid (J = ([], we)) := JC.out.trans (if_pos he)
        have ge : ((we : Int) != 0) = true := by simp; omega
        clear JC he
        go_wp2_with (first | (go_at_call 10; refine (CW.out _ (bel'.alloc (Nat.le_refl _) _)).mono ?_; rintro e w1 ⟨rfl, b1⟩; (have B1 : Below wr.heap.size wr w1 := bel'.alloc (Nat.le_refl _) _ |>.trans (b1.mono (by simp))); (have IB1 := hide (builder_below HIB.out B1))))
        go_ret2
        rw [JT.out]
        exact ⟨rfl, bel.trans (B1.mono bsz)⟩
    · obtain ⟨hJ, hIB⟩ := HI.out
      have HIB := hide hIB
      have JT := hide hJ
      rw [List.drop_eq_nil_of_le (by have := HL.out; omega), joinF_nil] at JT
      clear HI hJ hIB HN
      cases lng
      · have JT2 : Hid (J = (acc, 0)) := JT.out
        clear JT
        go_wp2_with (go_at_call 31; refine (Tryz.Builder_String_any _ _ _ _ HIB.out bel.size).mono ?_; rintro e w1 ⟨rfl, b1⟩)
        go_ret2
        rw [JT2.out]
        exact ⟨rfl, bel.trans b1⟩
      · have JT2 : Hid (J = ([], 2)) := JT.out
        clear JT
        go_wp2
        go_ret2
        rw [JT2.out]
        exact ⟨rfl, bel⟩
end Go.Proofs.YtgcbkjfckmjgeaaGreatDoor
