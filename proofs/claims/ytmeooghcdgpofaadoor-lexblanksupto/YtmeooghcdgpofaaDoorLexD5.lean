/- The program's scanner: numbers, blanks, signs that stand alone, type variables. -/
import Derived.Test.YtmeooghcdgpofaaDoorProg
import Derived.Test.YtmeooghcdgpofaaDoorLexD3
import Derived.Test.YtmeooghcdgpofaaDoorLexD4
import Derived.Test.YtmeooghcdgpofaaDoorShelf
import Derived.WalkKit
import Derived.ProofKit
import Derived.OpenShut
import Derived.Below
import Derived.WalkLawsBesides
import Derived.OwnWalk
import Derived.BigQuiet
import Derived.Lib.IndexBytes
import Derived.Deep.MidRow
namespace Go.Proofs.YtmeooghcdgpofaaDoor
open Go.ChangeShapes Go.WideShapes Go.ChangeAt Go.RowKit

theorem new5 (w : World) (c0 c1 c2 c3 c4 : Value) (t : TypeId) : Below (w.alloc (.cells #[c0, c1, c2, c3, c4] t)).heap.size (w.alloc (.cells #[c0, c1, c2, c3, c4] t)) (w.alloc (.cells #[c0, c1, c2, c3, c4] t)) := Below.refl _ _

/-- A token that was laid anew is handed back. -/
theorem tok_new {w : World} {fn : Func} {p u v : Tmp} {t : TypeId} (h : fn.results = #[.cell p 34, .tmp u, .tmp v]) {tmps : Array Value} {R : Ending → World → Prop} {v0 v1 v2 v3 v4 : Value}
    (hp : tmps.getD p undef = .pointer (some ⟨w.heap.size, 0, none⟩))
    (g : Below w.heap.size w (w.alloc (.cells #[v0, v1, v2, v3, v4] t)) → R (.returned (.tuple #[.agg #[v0, v1, v2, v3, v4], tmps.getD u undef, tmps.getD v undef])) (w.alloc (.cells #[v0, v1, v2, v3, v4] t))) :
    bodyPost Tryd.prog fn R Exit.ret { tmps := tmps, defers := [] } (w.alloc (.cells #[v0, v1, v2, v3, v4] t)) := by
  obtain ⟨⟨c0, c1, c2, c3, c4⟩, _, b1, _⟩ := cell5 (new5 w v0 v1 v2 v3 v4 t)
  have hr : (w.alloc (.cells #[v0, v1, v2, v3, v4] t)).rangeAt w.heap.size 0 [v0, v1, v2, v3, v4] := by
    intro j v hv
    match j, hv with
    | 0, hv => cases hv; exact c0
    | 1, hv => cases hv; exact c1
    | 2, hv => cases hv; exact c2
    | 3, hv => cases hv; exact c3
    | 4, hv => cases hv; exact c4
  exact bodyPost_ret (results_tok h _ _ w.heap.size [v0, v1, v2, v3, v4] _ hp hr Tryd.underlying34 rfl infoTok) rfl (g b1)

set_option maxRecDepth 100000 in
set_option maxHeartbeats 4000000 in
theorem number_any (s : ByteArray) (hs : s.size ≤ 1073741824) (w : World) : Calls Tryd.prog 25 #[.string s] w fun e w' => Gives (numR s.data.toList) e ∧ Below w.heap.size w w' := by
  have CM := hide (fun W => measure_any s hs W)
  have hle := measN_le s.data.toList
  rw [size_list] at hle
  have HN : Hid (numR s.data.toList = if begP wordB (s.data.toList.drop (measN s.data.toList).2) then .bad 43 else if 4096 < (measN s.data.toList).2 then .bad 2 else .got (measN s.data.toList).1 (s.data.toList.take (measN s.data.toList).2) [] (measN s.data.toList).2) := rfl
  obtain ⟨R, HR⟩ : ∃ R, Hid (numR s.data.toList = R) := ⟨_, rfl⟩
  rw [HR.out] at HN ⊢
  have hk1 : (measN s.data.toList).1 ≤ 100 := by
    unfold measN meas2
    repeat' split
    all_goals (show _ ≤ _; simp)
  clear HR
  generalize (measN s.data.toList).1 = k at *
  generalize (measN s.data.toList).2 = n at *
  obtain ⟨t, ht⟩ : ∃ t, s.extract n s.size = t := ⟨_, rfl⟩
  have hl : t.data.toList = s.data.toList.drop n := by rw [← ht]; exact ext_list s n
  have CB := hide (fun W => begins_any t 16 (by decide) W)
  rw [isK_word, hl] at CB
  have CC := hide (fun W => cut_any s k n hk1 hle hs W)
  clear hl
  cases hb : begP wordB (s.data.toList.drop n)
  · rw [hb] at CB
    by_cases h4 : 4096 < n
    · have HE : Hid (R = .bad 2) := by show _ = _; rw [HN.out, hb, if_neg (by decide), if_pos h4]
      clear HN CC
      go_enter Tryd.func25, Tryd.ntmps25
      go_wp2_with (first | (go_at_call 43; refine (CM.out _).mono ?_; rintro e w1 ⟨rfl, h0⟩; replace h0 := h0.symm; subst h0) | (go_at_call 32; refine (CB.out _).mono ?_; rintro e w1 ⟨rfl, h0⟩; replace h0 := h0.symm; subst h0))
      refine tok_new rfl rfl fun g => ?_
      rw [HE.out]
      exact ⟨rfl, g⟩
    · have HE : Hid (R = .got k (s.data.toList.take n) [] n) := by show _ = _; rw [HN.out, hb, if_neg (by decide), if_neg h4]
      clear HN
      go_enter Tryd.func25, Tryd.ntmps25
      go_wp2_with (first | (go_at_call 43; refine (CM.out _).mono ?_; rintro e w1 ⟨rfl, h0⟩; replace h0 := h0.symm; subst h0) | (go_at_call 32; refine (CB.out _).mono ?_; rintro e w1 ⟨rfl, h0⟩; replace h0 := h0.symm; subst h0) | (go_at_call 41; refine (CC.out _).mono ?_; rintro e w1 ⟨rfl, g1⟩; obtain ⟨⟨c0, c1, c2, c3, c4⟩, ⟨f0, f1, f2, f3, f4⟩, b1, b2⟩ := cell5 g1; clear g1; unfold tokV))
      refine tok_end rfl (some5 ⟨c0, c1, c2, c3, c4⟩) ⟨f0, f1, f2, f3, f4⟩ rfl b1 fun g => ?_
      rw [HE.out]
      exact ⟨rfl, g⟩
  · have HE : Hid (R = .bad 43) := by show _ = _; rw [HN.out, hb]; rfl
    rw [hb] at CB
    clear HN CC
    go_enter Tryd.func25, Tryd.ntmps25
    go_wp2_with (first | (go_at_call 43; refine (CM.out _).mono ?_; rintro e w1 ⟨rfl, h0⟩; replace h0 := h0.symm; subst h0) | (go_at_call 32; refine (CB.out _).mono ?_; rintro e w1 ⟨rfl, h0⟩; replace h0 := h0.symm; subst h0))
    refine tok_new rfl rfl fun g => ?_
    rw [HE.out]
    exact ⟨rfl, g⟩

set_option maxRecDepth 100000 in
set_option maxHeartbeats 4000000 in
theorem blanks_any (s : ByteArray) (hs : s.size ≤ 1073741824) (w : World) : Calls Tryd.prog 23 #[.string s] w fun e w' => Gives (.got 0 [] [] (runP lblankB s.data.toList)) e ∧ Below w.heap.size w w' := by
  have CR := hide (fun W => run_any s 1 (by decide) (by omega) W)
  rw [isK_blank] at CR
  generalize runP lblankB s.data.toList = n at *
  go_enter Tryd.func23, Tryd.ntmps23
  go_wp2_with (go_at_call 38; refine (CR.out _).mono ?_; rintro e w1 ⟨rfl, h0⟩; replace h0 := h0.symm; subst h0)
  refine tok_new rfl rfl fun g => ?_
  exact ⟨rfl, g⟩

set_option maxRecDepth 100000 in
set_option maxHeartbeats 4000000 in
theorem single_any (s : ByteArray) (h1 : 1 ≤ s.size) (hs : s.size ≤ 1073741824) (w : World) : Calls Tryd.prog 28 #[.string s] w fun e w' => Gives (cutR 1 s.data.toList 1) e ∧ Below w.heap.size w w' := by
  have CC := hide (fun W => cut_any s 1 1 (by decide) h1 hs W)
  go_enter Tryd.func28, Tryd.ntmps28
  go_wp2_with (go_at_call 41; refine (CC.out _).mono ?_; rintro e w1 ⟨rfl, g1⟩; obtain ⟨⟨c0, c1, c2, c3, c4⟩, ⟨f0, f1, f2, f3, f4⟩, b1, b2⟩ := cell5 g1; clear g1; unfold tokV)
  refine tok_end rfl (some5 ⟨c0, c1, c2, c3, c4⟩) ⟨f0, f1, f2, f3, f4⟩ rfl b1 fun g => ?_
  exact ⟨rfl, g⟩

set_option maxRecDepth 100000 in
set_option maxHeartbeats 4000000 in
theorem points_any (s : ByteArray) (hs : s.size ≤ 1073741824) (w : World) : Calls Tryd.prog 29 #[.string s] w fun e w' => Gives (poiR s.data.toList) e ∧ Below w.heap.size w w' := by
  have CB := hide (fun W => Tryd.strings_HasPrefix s ⟨#[46, 46, 46]⟩ W)
  have e0 : Lib.hasPrefix s.data.toList (ByteArray.mk #[46, 46, 46]).data.toList = ([46, 46, 46] : List UInt8).isPrefixOf s.data.toList := rfl
  simp only [e0] at CB
  cases hb : ([46, 46, 46] : List UInt8).isPrefixOf s.data.toList
  · have HE : Hid (poiR s.data.toList = .bad 40) := by show _ = _; unfold poiR; rw [hb]; rfl
    rw [hb] at CB
    rw [HE.out]
    clear e0 HE
    go_enter Tryd.func29, Tryd.ntmps29
    go_wp2_with (go_at_call 45; refine (CB.out _).mono ?_; rintro e w1 ⟨rfl, h0⟩; replace h0 := h0.symm; subst h0)
    refine tok_new rfl rfl fun g => ?_
    exact ⟨rfl, g⟩
  · have HE : Hid (poiR s.data.toList = cutR 1 s.data.toList 3) := by show _ = _; unfold poiR; rw [hb]; rfl
    have h3 : 3 ≤ s.size := by
      have := (List.isPrefixOf_iff_prefix.1 hb).length_le
      rw [size_list] at this
      simpa using this
    have CC := hide (fun W => cut_any s 1 3 (by decide) h3 hs W)
    rw [hb] at CB
    rw [HE.out]
    clear e0 HE
    go_enter Tryd.func29, Tryd.ntmps29
    go_wp2_with (first | (go_at_call 45; refine (CB.out _).mono ?_; rintro e w1 ⟨rfl, h0⟩; replace h0 := h0.symm; subst h0) | (go_at_call 41; refine (CC.out _).mono ?_; rintro e w1 ⟨rfl, g1⟩; obtain ⟨⟨c0, c1, c2, c3, c4⟩, ⟨f0, f1, f2, f3, f4⟩, b1, b2⟩ := cell5 g1; clear g1; unfold tokV))
    refine tok_end rfl (some5 ⟨c0, c1, c2, c3, c4⟩) ⟨f0, f1, f2, f3, f4⟩ rfl b1 fun g => ?_
    exact ⟨rfl, g⟩

set_option maxRecDepth 100000 in
set_option maxHeartbeats 4000000 in
theorem variable_any (s : ByteArray) (hs : s.size ≤ 1073741824) (w : World) : Calls Tryd.prog 30 #[.string s] w fun e w' => Gives (cutR 3 s.data.toList (runP wordB s.data.toList)) e ∧ Below w.heap.size w w' := by
  have CR := hide (fun W => run_any s 16 (by decide) (by omega) W)
  rw [isK_word] at CR
  have hle := runP_le wordB s.data.toList
  rw [size_list] at hle
  generalize runP wordB s.data.toList = n at *
  have CC := hide (fun W => cut_any s 3 n (by decide) hle hs W)
  go_enter Tryd.func30, Tryd.ntmps30
  go_wp2_with (first | (go_at_call 38; refine (CR.out _).mono ?_; rintro e w1 ⟨rfl, h0⟩; replace h0 := h0.symm; subst h0) | (go_at_call 41; refine (CC.out _).mono ?_; rintro e w1 ⟨rfl, g1⟩; obtain ⟨⟨c0, c1, c2, c3, c4⟩, ⟨f0, f1, f2, f3, f4⟩, b1, b2⟩ := cell5 g1; clear g1; unfold tokV))
  refine tok_end rfl (some5 ⟨c0, c1, c2, c3, c4⟩) ⟨f0, f1, f2, f3, f4⟩ rfl b1 fun g => ?_
  exact ⟨rfl, g⟩
end Go.Proofs.YtmeooghcdgpofaaDoor
