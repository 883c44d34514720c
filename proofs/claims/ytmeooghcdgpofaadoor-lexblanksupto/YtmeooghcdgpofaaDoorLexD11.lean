/- The program's scanner: names of signs, and what else begins with a sign. -/
import Derived.Test.YtmeooghcdgpofaaDoorProg
import Derived.Test.YtmeooghcdgpofaaDoorLexD10
import Derived.Test.YtmeooghcdgpofaaDoorShelf
import Derived.WalkKit
import Derived.ProofKit
import Derived.OpenShut
import Derived.Below
import Derived.WalkLawsBesides
import Derived.OwnWalk
import Derived.Laws.IdiomStrings
import Derived.Laws.OwnMore
import Derived.BigQuiet
import Derived.Lib.IndexBytes
import Derived.Deep.MidRow
namespace Go.Proofs.YtmeooghcdgpofaaDoor
open Go.ChangeShapes Go.WideShapes Go.ChangeAt Go.RowKit

theorem gives_form {r : Rd} {e : Ending} (h : Gives r e) : ∃ (k : Int) (t : ByteArray) (n m : Int), e = .returned (.tuple #[.agg #[.int .i64 k, .string t, .slice none 0 0, .int .i64 0, .int .i64 0], .int .i64 n, .int .i64 m]) := by
  cases r with
  | bad n => exact ⟨_, _, _, _, h⟩
  | got k t q n => exact ⟨_, _, _, _, h⟩

set_option maxRecDepth 100000 in
set_option maxHeartbeats 16000000 in
theorem signs_any (s : ByteArray) (w : World) (RD : Rdy w) (h1 : 0 < s.size) (hs : s.size ≤ 1073741824) : Calls Tryd.prog 26 #[.string s] w fun e w' => Gives (sigR s.data.toList) e ∧ Below w.heap.size w w' := by
  have CR := hide (fun W => run_any s 32 (by decide) (by omega) W)
  rw [isK_sign] at CR
  have hle := runP_le signB s.data.toList
  rw [size_list] at hle
  obtain ⟨u, hu⟩ : ∃ u, s.extract 1 s.size = u := ⟨_, rfl⟩
  have hl : u.data.toList = s.data.toList.drop 1 := by rw [← hu]; exact ext_list s 1
  have hus := sub_size hl
  have CB1 := hide (fun W => begins_any u 4 (by decide) W)
  have CB2 := hide (fun W => begins_any u 1024 (by decide) W)
  rw [isK_digit] at CB1
  rw [isK_quote] at CB2
  have RW := hide (RD.below ((Below.refl _ _).alloc (Nat.le_refl _) (.cells #[.int .i64 0, .string ⟨#[]⟩, .slice none 0 0, .int .i64 0, .int .i64 0] 34)))
  have hd : s.data.toList = s[0] :: s.data.toList.drop 1 := by have := drop_at s 0 h1; simpa using this
  obtain ⟨a, ha⟩ : ∃ a, s[0]'h1 = a := ⟨_, rfl⟩
  obtain ⟨m, hm⟩ : ∃ m, (s[0]'h1).toNat = m := ⟨_, rfl⟩
  have hx : ∀ x : UInt8, s.data.toList.head? = some x ↔ m = x.toNat := by
    intro x
    rw [hd, ← hm]
    simp only [List.head?_cons, Option.some.injEq]
    exact UInt8.toNat_inj.symm
  have h126 : (s.data.toList.head? = some 126) = (m = 126) := propext (hx 126)
  have h35 : (s.data.toList.head? = some 35) = (m = 35) := propext (hx 35)
  have HN : Hid (sigR s.data.toList = if m = 126 ∧ begP digitB u.data.toList = true then numR s.data.toList
    else if m = 35 ∧ begP (fun c => decide (c = 34)) u.data.toList = true then chrR s.data.toList
    else if resL (s.data.toList.take (runP signB s.data.toList)) then cutR 1 s.data.toList (runP signB s.data.toList) else cutR 2 s.data.toList (runP signB s.data.toList)) := by
    show _ = _
    unfold sigR
    rw [hl]
    simp only [h126, h35]
  obtain ⟨R, HR⟩ : ∃ R, Hid (sigR s.data.toList = R) := ⟨_, rfl⟩
  rw [HR.out] at HN ⊢
  generalize runP signB s.data.toList = n at *
  have CS := hide (fun W => reserved_cut s n hle W)
  clear HR hl hd ha hx h126 h35
  generalize begP digitB u.data.toList = bd at *
  have hq2 : begP (fun c => decide (c = 34)) u.data.toList = true → 2 ≤ s.size := by
    intro h
    have := begP_len h
    rw [size_list] at this
    omega
  generalize begP (fun c => decide (c = 34)) u.data.toList = bq at *
  by_cases m1 : m = 126
  · subst m1
    cases bd
    · cases hr : resL (s.data.toList.take n)
      · have HE : Hid (R = cutR 2 s.data.toList n) := by show _ = _; rw [HN.out, if_neg (by simp), if_neg (by omega), hr]; rfl
        have CC := hide (fun W => cut_any s 2 n (by decide) hle hs W)
        rw [hr] at CS
        clear HN
        go_enter Tryd.func26, Tryd.ntmps26
        go_wp2_with (first | (go_at_call 38; refine (CR.out _).mono ?_; rintro e w0 ⟨rfl, h0⟩; replace h0 := h0.symm; subst h0) | (go_at_call 32; refine (CB1.out _).mono ?_; rintro e w0 ⟨rfl, h0⟩; replace h0 := h0.symm; subst h0; clear CB1) | (go_at_call 40; refine (CS.out _).mono ?_; rintro e w0 ⟨rfl, h0⟩; replace h0 := h0.symm; subst h0) | (go_at_call 41; refine (CC.out _).mono ?_; rintro e w1 ⟨rfl, g1⟩; obtain ⟨⟨c0, c1, c2, c3, c4⟩, ⟨f0, f1, f2, f3, f4⟩, b1, b2⟩ := cell5 g1; clear g1; unfold tokV))
        refine tok_end rfl (some5 ⟨c0, c1, c2, c3, c4⟩) ⟨f0, f1, f2, f3, f4⟩ rfl b1 fun g => ?_
        rw [HE.out]
        exact ⟨rfl, g⟩
      · have HE : Hid (R = cutR 1 s.data.toList n) := by show _ = _; rw [HN.out, if_neg (by simp), if_neg (by omega), hr]; rfl
        have CC := hide (fun W => cut_any s 1 n (by decide) hle hs W)
        rw [hr] at CS
        clear HN
        go_enter Tryd.func26, Tryd.ntmps26
        go_wp2_with (first | (go_at_call 38; refine (CR.out _).mono ?_; rintro e w0 ⟨rfl, h0⟩; replace h0 := h0.symm; subst h0) | (go_at_call 32; refine (CB1.out _).mono ?_; rintro e w0 ⟨rfl, h0⟩; replace h0 := h0.symm; subst h0; clear CB1) | (go_at_call 40; refine (CS.out _).mono ?_; rintro e w0 ⟨rfl, h0⟩; replace h0 := h0.symm; subst h0) | (go_at_call 41; refine (CC.out _).mono ?_; rintro e w1 ⟨rfl, g1⟩; obtain ⟨⟨c0, c1, c2, c3, c4⟩, ⟨f0, f1, f2, f3, f4⟩, b1, b2⟩ := cell5 g1; clear g1; unfold tokV))
        refine tok_end rfl (some5 ⟨c0, c1, c2, c3, c4⟩) ⟨f0, f1, f2, f3, f4⟩ rfl b1 fun g => ?_
        rw [HE.out]
        exact ⟨rfl, g⟩
    · have HE : Hid (R = numR s.data.toList) := by show _ = _; rw [HN.out, if_pos ⟨rfl, rfl⟩]
      have CM := hide (fun W => number_any s hs W)
      clear HN
      go_enter Tryd.func26, Tryd.ntmps26
      go_wp2_with (first | (go_at_call 38; refine (CR.out _).mono ?_; rintro e w0 ⟨rfl, h0⟩; replace h0 := h0.symm; subst h0) | (go_at_call 32; refine (CB1.out _).mono ?_; rintro e w0 ⟨rfl, h0⟩; replace h0 := h0.symm; subst h0; clear CB1) | (go_at_call 25; refine (CM.out _).mono ?_; rintro e w1 ⟨hv, g1⟩; obtain ⟨⟨c0, c1, c2, c3, c4⟩, ⟨f0, f1, f2, f3, f4⟩, b1, b2⟩ := cell5 g1; clear g1; obtain ⟨k', tx, n', e', he⟩ := gives_form hv; subst he))
      refine tok_end rfl (some5 ⟨c0, c1, c2, c3, c4⟩) ⟨f0, f1, f2, f3, f4⟩ rfl b1 fun g => ?_
      rw [HE.out]
      exact ⟨hv, g⟩
  · have g1 : ((m : Int) == 126) = false := by simp; omega
    by_cases m2 : m = 35
    · subst m2
      cases bq
      · cases hr : resL (s.data.toList.take n)
        · have HE : Hid (R = cutR 2 s.data.toList n) := by show _ = _; rw [HN.out, if_neg (by simp), if_neg (by simp), hr]; rfl
          have CC := hide (fun W => cut_any s 2 n (by decide) hle hs W)
          rw [hr] at CS
          clear HN
          go_enter Tryd.func26, Tryd.ntmps26
          go_wp2_with (first | (go_at_call 38; refine (CR.out _).mono ?_; rintro e w0 ⟨rfl, h0⟩; replace h0 := h0.symm; subst h0) | (go_at_call 32; refine (CB2.out _).mono ?_; rintro e w0 ⟨rfl, h0⟩; replace h0 := h0.symm; subst h0) | (go_at_call 40; refine (CS.out _).mono ?_; rintro e w0 ⟨rfl, h0⟩; replace h0 := h0.symm; subst h0) | (go_at_call 41; refine (CC.out _).mono ?_; rintro e w1 ⟨rfl, g1⟩; obtain ⟨⟨c0, c1, c2, c3, c4⟩, ⟨f0, f1, f2, f3, f4⟩, b1, b2⟩ := cell5 g1; clear g1; unfold tokV))
          refine tok_end rfl (some5 ⟨c0, c1, c2, c3, c4⟩) ⟨f0, f1, f2, f3, f4⟩ rfl b1 fun g => ?_
          rw [HE.out]
          exact ⟨rfl, g⟩
        · have HE : Hid (R = cutR 1 s.data.toList n) := by show _ = _; rw [HN.out, if_neg (by simp), if_neg (by simp), hr]; rfl
          have CC := hide (fun W => cut_any s 1 n (by decide) hle hs W)
          rw [hr] at CS
          clear HN
          go_enter Tryd.func26, Tryd.ntmps26
          go_wp2_with (first | (go_at_call 38; refine (CR.out _).mono ?_; rintro e w0 ⟨rfl, h0⟩; replace h0 := h0.symm; subst h0) | (go_at_call 32; refine (CB2.out _).mono ?_; rintro e w0 ⟨rfl, h0⟩; replace h0 := h0.symm; subst h0) | (go_at_call 40; refine (CS.out _).mono ?_; rintro e w0 ⟨rfl, h0⟩; replace h0 := h0.symm; subst h0) | (go_at_call 41; refine (CC.out _).mono ?_; rintro e w1 ⟨rfl, g1⟩; obtain ⟨⟨c0, c1, c2, c3, c4⟩, ⟨f0, f1, f2, f3, f4⟩, b1, b2⟩ := cell5 g1; clear g1; unfold tokV))
          refine tok_end rfl (some5 ⟨c0, c1, c2, c3, c4⟩) ⟨f0, f1, f2, f3, f4⟩ rfl b1 fun g => ?_
          rw [HE.out]
          exact ⟨rfl, g⟩
      · have HE : Hid (R = chrR s.data.toList) := by show _ = _; rw [HN.out, if_neg (by simp), if_pos ⟨rfl, rfl⟩]
        have hz2 : 2 ≤ s.size := hq2 rfl
        have CM := hide (fun (W : World) (RR : Rdy W) => character_any s W RR hz2 hs)
        clear HN
        go_enter Tryd.func26, Tryd.ntmps26
        go_wp2_with (first | (go_at_call 38; refine (CR.out _).mono ?_; rintro e w0 ⟨rfl, h0⟩; replace h0 := h0.symm; subst h0) | (go_at_call 32; refine (CB2.out _).mono ?_; rintro e w0 ⟨rfl, h0⟩; replace h0 := h0.symm; subst h0) | (go_at_call 44; refine (CM.out _ RW.out).mono ?_; rintro e w1 ⟨hv, g1⟩; obtain ⟨⟨c0, c1, c2, c3, c4⟩, ⟨f0, f1, f2, f3, f4⟩, b1, b2⟩ := cell5 g1; clear g1; obtain ⟨k', tx, n', e', he⟩ := gives_form hv; subst he))
        refine tok_end rfl (some5 ⟨c0, c1, c2, c3, c4⟩) ⟨f0, f1, f2, f3, f4⟩ rfl b1 fun g => ?_
        rw [HE.out]
        exact ⟨hv, g⟩
    · have g2 : ((m : Int) == 35) = false := by simp; omega
      cases hr : resL (s.data.toList.take n)
      · have HE : Hid (R = cutR 2 s.data.toList n) := by show _ = _; rw [HN.out, if_neg (by omega), if_neg (by omega), hr]; rfl
        have CC := hide (fun W => cut_any s 2 n (by decide) hle hs W)
        rw [hr] at CS
        clear HN
        go_enter Tryd.func26, Tryd.ntmps26
        go_wp2_with (first | (go_at_call 38; refine (CR.out _).mono ?_; rintro e w0 ⟨rfl, h0⟩; replace h0 := h0.symm; subst h0) | (go_at_call 40; refine (CS.out _).mono ?_; rintro e w0 ⟨rfl, h0⟩; replace h0 := h0.symm; subst h0) | (go_at_call 41; refine (CC.out _).mono ?_; rintro e w1 ⟨rfl, g1⟩; obtain ⟨⟨c0, c1, c2, c3, c4⟩, ⟨f0, f1, f2, f3, f4⟩, b1, b2⟩ := cell5 g1; clear g1; unfold tokV))
        refine tok_end rfl (some5 ⟨c0, c1, c2, c3, c4⟩) ⟨f0, f1, f2, f3, f4⟩ rfl b1 fun g => ?_
        rw [HE.out]
        exact ⟨rfl, g⟩
      · have HE : Hid (R = cutR 1 s.data.toList n) := by show _ = _; rw [HN.out, if_neg (by omega), if_neg (by omega), hr]; rfl
        have CC := hide (fun W => cut_any s 1 n (by decide) hle hs W)
        rw [hr] at CS
        clear HN
        go_enter Tryd.func26, Tryd.ntmps26
        go_wp2_with (first | (go_at_call 38; refine (CR.out _).mono ?_; rintro e w0 ⟨rfl, h0⟩; replace h0 := h0.symm; subst h0) | (go_at_call 40; refine (CS.out _).mono ?_; rintro e w0 ⟨rfl, h0⟩; replace h0 := h0.symm; subst h0) | (go_at_call 41; refine (CC.out _).mono ?_; rintro e w1 ⟨rfl, g1⟩; obtain ⟨⟨c0, c1, c2, c3, c4⟩, ⟨f0, f1, f2, f3, f4⟩, b1, b2⟩ := cell5 g1; clear g1; unfold tokV))
        refine tok_end rfl (some5 ⟨c0, c1, c2, c3, c4⟩) ⟨f0, f1, f2, f3, f4⟩ rfl b1 fun g => ?_
        rw [HE.out]
        exact ⟨rfl, g⟩
end Go.Proofs.YtmeooghcdgpofaaDoor
