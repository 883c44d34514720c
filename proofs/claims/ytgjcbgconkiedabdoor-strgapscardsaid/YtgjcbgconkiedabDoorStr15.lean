/- What package str's Read answers, for every text. -/
import Derived.Test.YtgjcbgconkiedabDoorProg
import Derived.Test.YtgjcbgconkiedabDoorStr14
import Derived.WalkKit
import Derived.ProofKit
import Derived.OpenShut
import Derived.Below
import Derived.WalkLawsBesides
import Derived.OwnWalk
import Derived.Laws.IdiomStrings
import Derived.Laws.OwnMore
import Derived.Lib.IndexBytes
namespace Go.Proofs.YtgjcbgconkiedabDoor
open Go.ChangeShapes Go.WideShapes Go.ChangeAt Go.RowKit

/-- What is told of a constant: the string, the place, the error. -/
def rdS (R : List UInt8 × Option Nat) : ByteArray := if R.2 = none ∧ R.1.length ≤ 65536 then ⟨R.1.toArray⟩ else ⟨#[]⟩
def rdP (R : List UInt8 × Option Nat) : Int := match R.2 with
  | some p => (p : Int)
  | none => 0
def rdE (R : List UInt8 × Option Nat) : Int := match R.2 with
  | some _ => 30
  | none => if 65536 < R.1.length then 2 else 0
theorem rd_fault (acc : List UInt8) (p : Nat) : rdS (acc, some p) = ⟨#[]⟩ ∧ rdP (acc, some p) = p ∧ rdE (acc, some p) = 30 := by
  refine ⟨?_, rfl, rfl⟩
  unfold rdS
  rw [if_neg (by rintro ⟨h, _⟩; cases h)]
theorem rd_long (acc : List UInt8) (h : 65536 < acc.length) : rdS (acc, none) = ⟨#[]⟩ ∧ rdP (acc, none) = 0 ∧ rdE (acc, none) = 2 := by
  refine ⟨?_, rfl, ?_⟩
  · unfold rdS
    rw [if_neg (by rintro ⟨_, h'⟩; simp only at h'; omega)]
  · show (if 65536 < acc.length then (2 : Int) else 0) = 2
    rw [if_pos h]
theorem rd_ok (acc : List UInt8) (h : ¬ 65536 < acc.length) : rdS (acc, none) = ⟨acc.toArray⟩ ∧ rdP (acc, none) = 0 ∧ rdE (acc, none) = 0 := by
  refine ⟨?_, rfl, ?_⟩
  · unfold rdS
    rw [if_pos ⟨rfl, by simp only; omega⟩]
  · show (if 65536 < acc.length then (2 : Int) else 0) = 0
    rw [if_neg h]

theorem held_more {acc o : List UInt8} (ho : o.length ≤ 1) (h : 65536 < (acc.take 65536 ++ o).length) : (acc.take 65536 ++ o).take 65536 = (acc ++ o).take 65536 ∧ 65536 < (acc ++ o).length := by
  rw [List.length_append, List.length_take] at h
  have ha : 65536 ≤ acc.length := by omega
  constructor
  · rw [List.take_append_of_le_length (by rw [List.length_take]; omega), List.take_append_of_le_length ha, List.take_take]; simp
  · rw [List.length_append]; omega
theorem held_same {acc o : List UInt8} (ho : o.length ≤ 1) (h : ¬ 65536 < (acc.take 65536 ++ o).length) : acc.take 65536 ++ o = (acc ++ o).take 65536 ∧ decide (65536 < (acc ++ o).length) = decide (65536 < acc.length) := by
  rw [List.length_append, List.length_take] at h
  by_cases ha : acc.length ≤ 65536
  · rw [List.take_of_length_le ha, List.take_of_length_le (by rw [List.length_append]; omega)]
    refine ⟨rfl, ?_⟩
    rw [decide_eq_false (by rw [List.length_append]; omega), decide_eq_false (by omega)]
  · obtain rfl : o = [] := List.eq_nil_of_length_eq_zero (by omega)
    simp

theorem own_long {B : Nat} {v : Value} {l : List UInt8} {w : World} (h : Own B v l w) (hl : 65536 < l.length) : ∃ g cap, v = .slice (some ⟨g, 0, none⟩) l.length cap ∧ l.length ≤ cap ∧ cap ≤ maxLen ∧ Own B (.slice (some ⟨g, 0, none⟩) 65536 cap) (l.take 65536) w := by
  rcases h.2 with ⟨_, h0⟩ | ⟨g, cap, cur, hv, hb, hg, hn, hm, hs, ht⟩
  · omega
  · refine ⟨g, cap, hv, hn, hm, ?_⟩
    have hlen : (l.take 65536).length = 65536 := by rw [List.length_take]; omega
    unfold Own
    rw [hlen]
    refine ⟨by simp [Lib.byteCells]; omega, .inr ⟨g, cap, cur, rfl, hb, hg, by omega, hm, hs, ?_⟩⟩
    have : Lib.byteCells (l.take 65536) = (Lib.byteCells l).take 65536 := by simp [Lib.byteCells, List.map_take]
    rw [this, ← ht, List.take_take]
    congr 1
    omega

def strV : Value → ByteArray
  | .string r => r
  | _ => ⟨#[]⟩

theorem empty_iff (r : ByteArray) : r.toList.isEmpty = decide (r.size = 0) := by
  rw [Lib.toList_data, Lib.size_eq]
  cases r.data.toList <;> simp

set_option maxRecDepth 100000 in
set_option maxHeartbeats 4000000 in
theorem read_any (s : ByteArray) (w : World) (R : Rdy w) (hs : s.size ≤ maxLen) :
    Calls Tryd.prog 4 #[.string s] w fun e w' => e = .returned (.tuple #[.string (rdS (readL s.data.toList)), .int .i64 (rdP (readL s.data.toList)), .int .i64 (rdE (readL s.data.toList))]) ∧ Below w.heap.size w w' := by
  have HSZ := hide hs
  unfold maxLen at hs
  obtain ⟨Q, HQ⟩ : ∃ Q, Hid (readL s.data.toList = Q) := ⟨_, rfl⟩
  rw [HQ.out]
  obtain ⟨X, hX⟩ : ∃ X, rdS Q = X := ⟨_, rfl⟩
  obtain ⟨Y, hY⟩ : ∃ Y, rdP Q = Y := ⟨_, rfl⟩
  obtain ⟨Z, hZ⟩ : ∃ Z, rdE Q = Z := ⟨_, rfl⟩
  rw [hX, hY, hZ]
  have HX := hide hX
  have HY := hide hY
  have HZ := hide hZ
  clear hX hY hZ
  go_enter Tryd.func4, Tryd.ntmps4
  go_wp2
  go_loopw [5, 6, 7] (fun va vl vr wr => ∃ (pos : Nat) (acc : List UInt8) (r : ByteArray), vr = .string r ∧ vl = .bool (decide (65536 < acc.length)) ∧ pos ≤ s.size ∧ r.size + pos = s.size ∧ Hid (r.data.toList = s.data.toList.drop pos) ∧ Hid (Own w.heap.size va (acc.take 65536) wr) ∧ Hid (runL (s.data.toList.length - pos) pos acc (s.data.toList.drop pos) = Q) ∧ Below w.heap.size w wr) (fun _ _ vr _ => (strV vr).size)
  case atStart => exact ⟨0, [], s, rfl, rfl, Nat.zero_le _, rfl, rfl, own_nil _ _, HQ.out, Below.refl _ _⟩
  case round =>
    obtain ⟨pos, acc, r, rfl, rfl, hpos, hrs, HD, HO, HI, bel⟩ := hrel
    have bsz := bel.size
    have HT : Hid ((acc.take 65536).length ≤ 65536) := by show _ ≤ _; rw [List.length_take]; omega
    by_cases h1 : 0 < r.size
    · have hemp : r.toList.isEmpty = false := by rw [empty_iff]; exact decide_eq_false (by omega)
      have HR1 : Hid (r.size ≤ maxLen) := by show _ ≤ _; unfold maxLen; omega
      have CR := hide (readOne_any w.heap.size u5 (acc.take 65536) r wr (R.below bel) HO.out (by have := HT.out; omega) bsz HR1.out h1)
      obtain ⟨k, hk⟩ : ∃ k, stepN r.data.toList = k := ⟨_, rfl⟩
      obtain ⟨o, ho⟩ : ∃ o, stepO r.data.toList = o := ⟨_, rfl⟩
      have hol : o.length ≤ 1 := by rw [← ho]; exact stepO_len _
      have hkl : k ≤ r.size := by rw [← hk, Lib.size_eq]; exact stepN_le _
      rw [hk, ho] at CR
      have hlen : (s.data.toList.drop pos).length ≤ s.data.toList.length - pos := by rw [List.length_drop]; omega
      by_cases hk0 : k = 0
      · have HE : Hid (Q = (acc, some pos)) := by
          show _ = _
          rw [← HI.out]
          refine runL_fault hlen ?_ (by rw [← HD.out, hk, hk0])
          intro e
          rw [← HD.out] at e
          rw [Lib.size_eq, e] at h1
          exact absurd h1 (by decide)
        have HF := hide (rd_fault acc pos)
        rw [HE.out] at HX HY HZ
        subst hk0
        have hpl : (s.size : Int) - (r.size : Int) = (pos : Int) := by omega
        clear hk ho hlen HI HD
        go_wp2_with (go_at_call 6; refine (CR.out).mono ?_; rintro e w2 ⟨v', rfl, o2, b2⟩)
        go_ret3
        refine ⟨?_, bel.trans b2⟩
        rw [← HX.out, ← HY.out, ← HZ.out, HF.out.1, HF.out.2.1, HF.out.2.2]
        rfl
      · have HI2 : Hid (runL (s.data.toList.length - (pos + k)) (pos + k) (acc ++ o) (s.data.toList.drop (pos + k)) = Q) := by
          show _ = _
          rw [← HI.out, runL_step hlen (by rw [← HD.out, hk]; exact hk0), ← HD.out, hk, ho, HD.out, List.drop_drop, Nat.sub_sub]
        have HD2 : Hid ((r.extract k r.size).data.toList = s.data.toList.drop (pos + k)) := by
          show _ = _
          rw [Lib.extract_to_end, HD.out, List.drop_drop]
        obtain ⟨r2, hr2⟩ : ∃ r2, r.extract k r.size = r2 := ⟨_, rfl⟩
        have hz2 : r2.size + (pos + k) = s.size := by rw [← hr2]; simp; omega
        rw [hr2] at HD2
        have gk : ((k : Int) == 0) = false := by simp; omega
        have hlt : r2.size < r.size := by omega
        clear hk ho hlen HI HD hk0
        by_cases hT : 65536 < (acc.take 65536 ++ o).length
        · have HM := hide (held_more hol hT)
          have HT2 := hide hT
          clear hT
          go_wp2_with (go_at_call 6; refine (CR.out).mono ?_; rintro e w2 ⟨v', rfl, o2, b2⟩; obtain ⟨g, cap, rfl, hcap, hcm, o3⟩ := own_long o2 HT2.out; have O3 := hide o3; have hM : 65536 < (acc.take 65536 ++ o).length := HT2.out; clear o2 o3; generalize (acc.take 65536 ++ o).length = M at hcap hM ⊢; unfold maxLen at hcm)
          go_roundw
          case rel =>
            refine ⟨pos + k, acc ++ o, r2, rfl, by rw [decide_eq_true HM.out.2], by omega, hz2, HD2, ?_, HI2, bel.trans b2⟩
            show Own _ _ _ _
            rw [← HM.out.1]
            exact O3.out
          case measure => simp only [strV]; omega
        · have HM := hide (held_same hol hT)
          have HT2 := hide hT
          clear hT
          go_wp2_with (go_at_call 6; refine (CR.out).mono ?_; rintro e w2 ⟨v', rfl, o2, b2⟩; obtain ⟨ao, cap, rfl⟩ := own_slice o2; have O3 := hide o2; have hM : ¬ 65536 < (acc.take 65536 ++ o).length := HT2.out; clear o2; generalize (acc.take 65536 ++ o).length = M at hM O3 ⊢)
          go_roundw
          case rel =>
            refine ⟨pos + k, acc ++ o, r2, rfl, by rw [HM.out.2], by omega, hz2, HD2, ?_, HI2, bel.trans b2⟩
            show Own _ _ _ _
            rw [← HM.out.1]
            exact O3.out
          case measure => simp only [strV]; omega
    · have hemp : r.toList.isEmpty = true := by rw [empty_iff]; exact decide_eq_true (by omega)
      have HE : Hid (Q = (acc, none)) := by
        show _ = _
        have hnil : s.data.toList.drop pos = [] := by rw [← HD.out]; exact List.eq_nil_of_length_eq_zero (by rw [← Lib.size_eq]; omega)
        rw [← HI.out, hnil, runL_nil]
      rw [HE.out] at HX HY HZ
      by_cases hlong : 65536 < acc.length
      · have HF := hide (rd_long acc hlong)
        have hdl : decide (65536 < acc.length) = true := decide_eq_true hlong
        rw [hdl]
        clear hdl hlong HI HD HO
        go_wp2
        go_ret3
        refine ⟨?_, bel⟩
        rw [← HX.out, ← HY.out, ← HZ.out, HF.out.1, HF.out.2.1, HF.out.2.2]
        rfl
      · have HF := hide (rd_ok acc hlong)
        have hdl : decide (65536 < acc.length) = false := decide_eq_false hlong
        have hcv := own_string HO.out
        obtain ⟨ao', cap', rfl⟩ := own_slice HO.out
        obtain ⟨M, hM⟩ : ∃ M, (acc.take 65536).length = M := ⟨_, rfl⟩
        rw [hM] at hcv ⊢
        rw [List.take_of_length_le (by omega), ← HF.out.1, HX.out] at hcv
        rw [hdl]
        clear hdl hlong HI HD HO hM
        go_wp2
        go_ret3
        refine ⟨?_, bel⟩
        rw [← HY.out, ← HZ.out, HF.out.2.1, HF.out.2.2]
        rfl
end Go.Proofs.YtgjcbgconkiedabDoor
