/- The program's scanner: names of signs, and what else begins with a sign. -/
import Derived.Test.YtbcmpacmoofdkaaGreatDoorProg
import Derived.Test.YtbcmpacmoofdkaaGreatDoorLexD10
import Derived.Test.YtbcmpacmoofdkaaGreatDoorShelf
import Derived.WalkKit
import Derived.ProofKit
import Derived.OpenShut
import Derived.Below
import Derived.WalkLawsBesides
import Derived.OwnWalk
import Derived.Laws.IdiomStrings
import Derived.Laws.OwnMore
import Derived.BigQuiet
import Derived.Lib.IndexBytes
import Derived.Deep.MidRow
import Derived.Laws.EntriesVeiled
import Derived.Test.YtbcmpacmoofdkaaGreatDoorLexD6
import Derived.Test.YtbcmpacmoofdkaaGreatDoorShelf2
import Derived.Deep.RegionHeld3
namespace Go.Proofs.YtbcmpacmoofdkaaGreatDoor
open Go.ChangeShapes Go.WideShapes Go.ChangeAt Go.RowKit

theorem gives_form {r : Rd} {e : Ending} (h : Gives r e) : ∃ (k : Int) (t : ByteArray) (n m : Int), e = .returned (.tuple #[.agg #[.int .i64 k, .string t, .slice none 0 0, .int .i64 0, .int .i64 0], .int .i64 n, .int .i64 m]) := by
  cases r with
  | bad n => exact ⟨_, _, _, _, h⟩
  | got k t q n => exact ⟨_, _, _, _, h⟩

set_option maxRecDepth 100000 in
set_option maxHeartbeats 16000000 in
theorem signs_any (s : ByteArray) (w : World) (RD : Rdy w) (h1 : 0 < s.size) (hs : s.size ≤ 1073741824) : Calls Tryz.prog 59 #[.string s] w fun e w' => Gives (sigR s.data.toList) e ∧ Below w.heap.size w w' := by
  have CR := hide (fun W => run_any s 32 (by decide) (by omega) W)
  rw [isK_sign] at CR
  have hle := runP_le signB s.data.toList
  rw [size_list] at hle
  obtain ⟨u, hu⟩ : ∃ u, s.extract 1 s.size = u := ⟨_, rfl⟩
  have hl : u.data.toList = s.data.toList.drop 1 := by rw [← hu]; exact ext_list s 1
  have hus := sub_size hl
  have CB1 := hide (fun W => begins_any u 4 (by decide) W)
  have CB2 := hide (fun W => begins_any u 1024 (by decide) W)
  rw [isK_digit] at CB1
  rw [isK_quote] at CB2
  have RW := hide (RD.below ((Below.refl _ _).alloc (Nat.le_refl _) (.cells #[.int .i64 0, .string ⟨#[]⟩, .slice none 0 0, .int .i64 0, .int .i64 0] 72)))
  have hd : s.data.toList = s[0] :: s.data.toList.drop 1 := by have := drop_at s 0 h1; simpa using this
  obtain ⟨a, ha⟩ : ∃ a, s[0]'h1 = a := ⟨_, rfl⟩
  obtain ⟨m, hm⟩ : ∃ m, (s[0]'h1).toNat = m := ⟨_, rfl⟩
  have hx : ∀ x : UInt8, s.data.toList.head? = some x ↔ m = x.toNat := by
    intro x
    rw [hd, ← hm]
    simp only [List.head?_cons, Option.some.injEq]
    exact UInt8.toNat_inj.symm
  have h126 : (s.data.toList.head? = some 126) = (m = 126) := propext (hx 126)
  have h35 : (s.data.toList.head? = some 35) = (m = 35) := propext (hx 35)
  have HN : Hid (sigR s.data.toList = if m = 126 ∧ begP digitB u.data.toList = true then numR s.data.toList
    else if m = 35 ∧ begP (fun c => decide (c = 34)) u.data.toList = true then chrR s.data.toList
    else if resL (s.data.toList.take (runP signB s.data.toList)) then cutR 1 s.data.toList (runP signB s.data.toList) else cutR 2 s.data.toList (runP signB s.data.toList)) := by
    show _ = _
    unfold sigR
    rw [hl]
    simp only [h126, h35]
  obtain ⟨R, HR⟩ : ∃ R, Hid (sigR s.data.toList = R) := ⟨_, rfl⟩
  rw [HR.out] at HN ⊢
  generalize runP signB s.data.toList = n at *
  have CS := hide (fun W => reserved_cut s n hle W)
  clear HR hl hd ha hx h126 h35
  generalize begP digitB u.data.toList = bd at *
  have hq2 : begP (fun c => decide (c = 34)) u.data.toList = true → 2 ≤ s.size := by
    intro h
    have := begP_len h
    rw [size_list] at this
    omega
  generalize begP (fun c => decide (c = 34)) u.data.toList = bq at *
  by_cases m1 : m = 126
  · subst m1
    cases bd
    · cases hr : resL (s.data.toList.take n)
      · have HE : Hid (R = cutR 2 s.data.toList n) := by show _ = _; rw [HN.out, if_neg (by simp), if_neg (by omega), hr]; rfl
        have CC := hide (fun W => cut_any s 2 n (by decide) hle hs W)
        rw [hr] at CS
        clear HN
        go_enter Tryz.func59, Tryz.ntmps59
        go_wp2_with (first | (go_at_call 85; refine (CR.out _).mono ?_; rintro e w0 ⟨rfl, h0⟩; replace h0 := h0.symm; subst h0) | (go_at_call 65; refine (CB1.out _).mono ?_; rintro e w0 ⟨rfl, h0⟩; replace h0 := h0.symm; subst h0; clear CB1) | (go_at_call 87; refine (CS.out _).mono ?_; rintro e w0 ⟨rfl, h0⟩; replace h0 := h0.symm; subst h0) | (go_at_call 88; refine (CC.out _).mono ?_; rintro e w1 ⟨rfl, g1⟩; obtain ⟨⟨c0, c1, c2, c3, c4⟩, ⟨f0, f1, f2, f3, f4⟩, b1, b2⟩ := cell5 g1; clear g1; unfold tokV))
        refine tok_end rfl (some5 ⟨c0, c1, c2, c3, c4⟩) ⟨f0, f1, f2, f3, f4⟩ rfl b1 fun g => ?_
        rw [HE.out]
        exact ⟨rfl, g⟩
      · have HE : Hid (R = cutR 1 s.data.toList n) := by show _ = _; rw [HN.out, if_neg (by simp), if_neg (by omega), hr]; rfl
        have CC := hide (fun W => cut_any s 1 n (by decide) hle hs W)
        rw [hr] at CS
        clear HN
        go_enter Tryz.func59, Tryz.ntmps59
        go_wp2_with (first | (go_at_call 85; refine (CR.out _).mono ?_; rintro e w0 ⟨rfl, h0⟩; replace h0 := h0.symm; subst h0) | (go_at_call 65; refine (CB1.out _).mono ?_; rintro e w0 ⟨rfl, h0⟩; replace h0 := h0.symm; subst h0; clear CB1) | (go_at_call 87; refine (CS.out _).mono ?_; rintro e w0 ⟨rfl, h0⟩; replace h0 := h0.symm; subst h0) | (go_at_call 88; refine (CC.out _).mono ?_; rintro e w1 ⟨rfl, g1⟩; obtain ⟨⟨c0, c1, c2, c3, c4⟩, ⟨f0, f1, f2, f3, f4⟩, b1, b2⟩ := cell5 g1; clear g1; unfold tokV))
        refine tok_end rfl (some5 ⟨c0, c1, c2, c3, c4⟩) ⟨f0, f1, f2, f3, f4⟩ rfl b1 fun g => ?_
        rw [HE.out]
        exact ⟨rfl, g⟩
    · have HE : Hid (R = numR s.data.toList) := by show _ = _; rw [HN.out, if_pos ⟨rfl, rfl⟩]
      have CM := hide (fun W => number_any s hs W)
      clear HN
      go_enter Tryz.func59, Tryz.ntmps59
      go_wp2_with (first | (go_at_call 85; refine (CR.out _).mono ?_; rintro e w0 ⟨rfl, h0⟩; replace h0 := h0.symm; subst h0) | (go_at_call 65; refine (CB1.out _).mono ?_; rintro e w0 ⟨rfl, h0⟩; replace h0 := h0.symm; subst h0; clear CB1) | (go_at_call 58; refine (CM.out _).mono ?_; rintro e w1 ⟨hv, g1⟩; obtain ⟨⟨c0, c1, c2, c3, c4⟩, ⟨f0, f1, f2, f3, f4⟩, b1, b2⟩ := cell5 g1; clear g1; obtain ⟨k', tx, n', e', he⟩ := gives_form hv; subst he))
      refine tok_end rfl (some5 ⟨c0, c1, c2, c3, c4⟩) ⟨f0, f1, f2, f3, f4⟩ rfl b1 fun g => ?_
      rw [HE.out]
      exact ⟨hv, g⟩
  · have g1 : ((m : Int) == 126) = false := by simp; omega
    by_cases m2 : m = 35
    · subst m2
      cases bq
      · cases hr : resL (s.data.toList.take n)
        · have HE : Hid (R = cutR 2 s.data.toList n) := by show _ = _; rw [HN.out, if_neg (by simp), if_neg (by simp), hr]; rfl
          have CC := hide (fun W => cut_any s 2 n (by decide) hle hs W)
          rw [hr] at CS
          clear HN
          go_enter Tryz.func59, Tryz.ntmps59
          go_wp2_with (first | (go_at_call 85; refine (CR.out _).mono ?_; rintro e w0 ⟨rfl, h0⟩; replace h0 := h0.symm; subst h0) | (go_at_call 65; refine (CB2.out _).mono ?_; rintro e w0 ⟨rfl, h0⟩; replace h0 := h0.symm; subst h0) | (go_at_call 87; refine (CS.out _).mono ?_; rintro e w0 ⟨rfl, h0⟩; replace h0 := h0.symm; subst h0) | (go_at_call 88; refine (CC.out _).mono ?_; rintro e w1 ⟨rfl, g1⟩; obtain ⟨⟨c0, c1, c2, c3, c4⟩, ⟨f0, f1, f2, f3, f4⟩, b1, b2⟩ := cell5 g1; clear g1; unfold tokV))
          refine tok_end rfl (some5 ⟨c0, c1, c2, c3, c4⟩) ⟨f0, f1, f2, f3, f4⟩ rfl b1 fun g => ?_
          rw [HE.out]
          exact ⟨rfl, g⟩
        · have HE : Hid (R = cutR 1 s.data.toList n) := by show _ = _; rw [HN.out, if_neg (by simp), if_neg (by simp), hr]; rfl
          have CC := hide (fun W => cut_any s 1 n (by decide) hle hs W)
          rw [hr] at CS
          clear HN
          go_enter Tryz.func59, Tryz.ntmps59
          go_wp2_with (first | (go_at_call 85; refine (CR.out _).mono ?_; rintro e w0 ⟨rfl, h0⟩; replace h0 := h0.symm; subst h0) | (go_at_call 65; refine (CB2.out _).mono ?_; rintro e w0 ⟨rfl, h0⟩; replace h0 := h0.symm; subst h0) | (go_at_call 87; refine (CS.out _).mono ?_; rintro e w0 ⟨rfl, h0⟩; replace h0 := h0.symm; subst h0) | (go_at_call 88; refine (CC.out _).mono ?_; rintro e w1 ⟨rfl, g1⟩; obtain ⟨⟨c0, c1, c2, c3, c4⟩, ⟨f0, f1, f2, f3, f4⟩, b1, b2⟩ := cell5 g1; clear g1; unfold tokV))
          refine tok_end rfl (some5 ⟨c0, c1, c2, c3, c4⟩) ⟨f0, f1, f2, f3, f4⟩ rfl b1 fun g => ?_
          rw [HE.out]
          exact ⟨rfl, g⟩
      · have HE : Hid (R = chrR s.data.toList) := by show _ = _; rw [HN.out, if_neg (by simp), if_pos ⟨rfl, rfl⟩]
        have hz2 : 2 ≤ s.size := hq2 rfl
        have CM := hide (fun (W : World) (RR : Rdy W) => character_any s W RR hz2 hs)
        clear HN
        go_enter Tryz.func59, Tryz.ntmps59
        go_wp2_with (first | (go_at_call 85; refine (CR.out _).mono ?_; rintro e w0 ⟨rfl, h0⟩; replace h0 := h0.symm; subst h0) | (go_at_call 65; refine (CB2.out _).mono ?_; rintro e w0 ⟨rfl, h0⟩; replace h0 := h0.symm; subst h0) | (go_at_call 91; refine (CM.out _ RW.out).mono ?_; rintro e w1 ⟨hv, g1⟩; obtain ⟨⟨c0, c1, c2, c3, c4⟩, ⟨f0, f1, f2, f3, f4⟩, b1, b2⟩ := cell5 g1; clear g1; obtain ⟨k', tx, n', e', he⟩ := gives_form hv; subst he))
        refine tok_end rfl (some5 ⟨c0, c1, c2, c3, c4⟩) ⟨f0, f1, f2, f3, f4⟩ rfl b1 fun g => ?_
        rw [HE.out]
        exact ⟨hv, g⟩
    · have g2 : ((m : Int) == 35) = false := by simp; omega
      cases hr : resL (s.data.toList.take n)
      · have HE : Hid (R = cutR 2 s.data.toList n) := by show _ = _; rw [HN.out, if_neg (by omega), if_neg (by omega), hr]; rfl
        have CC := hide (fun W => cut_any s 2 n (by decide) hle hs W)
        rw [hr] at CS
        clear HN
        go_enter Tryz.func59, Tryz.ntmps59
        go_wp2_with (first | (go_at_call 85; refine (CR.out _).mono ?_; rintro e w0 ⟨rfl, h0⟩; replace h0 := h0.symm; subst h0) | (go_at_call 87; refine (CS.out _).mono ?_; rintro e w0 ⟨rfl, h0⟩; replace h0 := h0.symm; subst h0) | (go_at_call 88; refine (CC.out _).mono ?_; rintro e w1 ⟨rfl, g1⟩; obtain ⟨⟨c0, c1, c2, c3, c4⟩, ⟨f0, f1, f2, f3, f4⟩, b1, b2⟩ := cell5 g1; clear g1; unfold tokV))
        refine tok_end rfl (some5 ⟨c0, c1, c2, c3, c4⟩) ⟨f0, f1, f2, f3, f4⟩ rfl b1 fun g => ?_
        rw [HE.out]
        exact ⟨rfl, g⟩
      · have HE : Hid (R = cutR 1 s.data.toList n) := by show _ = _; rw [HN.out, if_neg (by omega), if_neg (by omega), hr]; rfl
        have CC := hide (fun W => cut_any s 1 n (by decide) hle hs W)
        rw [hr] at CS
        clear HN
        go_enter Tryz.func59, Tryz.ntmps59
        go_wp2_with (first | (go_at_call 85; refine (CR.out _).mono ?_; rintro e w0 ⟨rfl, h0⟩; replace h0 := h0.symm; subst h0) | (go_at_call 87; refine (CS.out _).mono ?_; rintro e w0 ⟨rfl, h0⟩; replace h0 := h0.symm; subst h0) | (go_at_call 88; refine (CC.out _).mono ?_; rintro e w1 ⟨rfl, g1⟩; obtain ⟨⟨c0, c1, c2, c3, c4⟩, ⟨f0, f1, f2, f3, f4⟩, b1, b2⟩ := cell5 g1; clear g1; unfold tokV))
        refine tok_end rfl (some5 ⟨c0, c1, c2, c3, c4⟩) ⟨f0, f1, f2, f3, f4⟩ rfl b1 fun g => ?_
        rw [HE.out]
        exact ⟨rfl, g⟩
end Go.Proofs.YtbcmpacmoofdkaaGreatDoor
/- The program's scanner: the table of its readers, and what reads a token. -/
namespace Go.Proofs.YtbcmpacmoofdkaaGreatDoor
open Go.ChangeShapes Go.WideShapes Go.ChangeAt Go.RowKit

def tableC : Array Value := #[.int .u16 1, .func (.func 56) #[] #[], .int .u16 2, .func (.func 57) #[] #[], .int .u16 4, .func (.func 58) #[] #[], .int .u16 32, .func (.func 59) #[] #[], .int .u16 64, .func (.func 60) #[] #[], .int .u16 128, .func (.func 61) #[] #[], .int .u16 256, .func (.func 62) #[] #[], .int .u16 512, .func (.func 63) #[] #[], .int .u16 1024, .func (.func 64) #[] #[]]

set_option maxRecDepth 100000 in
set_option maxHeartbeats 4000000 in
theorem readers_any (w : World) : Calls Tryz.prog 35 #[] w fun e w' => e = .returned (.slice (some ⟨w.heap.size, 0, none⟩) 9 9) ∧ w' = w.alloc (.cells tableC 105) := by
  go_enter Tryz.func35, Tryz.ntmps35
  go_wp2
  go_ret
  exact ⟨rfl, rfl⟩

/-- The table of readers lies in block tb. -/
structure IsTab (w : World) (tb : Nat) : Prop where
  at' : ∀ j v, tableC[j]? = some v → w.cell? ⟨tb, j, none⟩ = some v
  old : tb < w.heap.size
theorem IsTab.below {w w' : World} {tb : Nat} (h : IsTab w tb) (b : Below w.heap.size w w') : IsTab w' tb :=
  ⟨fun j v hv => by rw [b.cell (p := ⟨tb, j, none⟩) h.old]; exact h.at' j v hv, Nat.lt_of_lt_of_le h.old b.size⟩
theorem isTab_new (w : World) : IsTab (w.alloc (.cells tableC 105)) w.heap.size := by
  refine ⟨fun j v hv => ?_, by simp⟩
  rw [World.cell?_alloc_mark]
  simpa using hv
def rd9 (_ : List UInt8) : Rd := .bad 40
def rd8 (l : List UInt8) : Rd := if begP (fun c => decide (c = 34)) l then strR l else rd9 l
def rd7 (l : List UInt8) : Rd := if begP (fun c => decide (c = 39)) l then cutR 3 l (runP wordB l) else rd8 l
def rd6 (l : List UInt8) : Rd := if begP (fun c => decide (c = 46)) l then poiR l else rd7 l
def rd5 (l : List UInt8) : Rd := if begP aloneB l then cutR 1 l 1 else rd6 l
def rd4 (l : List UInt8) : Rd := if begP (fun c => decide (c = 40)) l then parR l else rd5 l
def rd3 (l : List UInt8) : Rd := if begP signB l then sigR l else rd4 l
def rd2 (l : List UInt8) : Rd := if begP digitB l then numR l else rd3 l
def rd1 (l : List UInt8) : Rd := if begP letterB l then wordR l else rd2 l
def rd0 (l : List UInt8) : Rd := if begP lblankB l then .got 0 [] [] (runP lblankB l) else rd1 l
theorem rd0_eq (l : List UInt8) : rdL l = rd0 l := rfl
def rdK (k : Nat) (l : List UInt8) : Rd := if k = 0 then rd0 l else if k = 1 then rd1 l else if k = 2 then rd2 l else if k = 3 then rd3 l else if k = 4 then rd4 l else if k = 5 then rd5 l else if k = 6 then rd6 l else if k = 7 then rd7 l else if k = 8 then rd8 l else rd9 l
theorem gives_p {B : Nat} {r : Rd} {e : Ending} {w' : World} (h : Gives r e) (hr : ∀ k t q n, r = .got k t q n → q = []) : GivesP B r e w' := by
  cases r with
  | bad n => exact h
  | got k t q n =>
    obtain rfl := hr k t q n rfl
    exact ⟨_, ownS_nil _ _, h⟩
theorem givesP_form {B : Nat} {r : Rd} {e : Ending} {w' : World} (h : GivesP B r e w') : ∃ (k : Int) (t : ByteArray) (ao : Option Addr) (l c : Nat) (n m : Int), e = .returned (.tuple #[.agg #[.int .i64 k, .string t, .slice ao l c, .int .i64 0, .int .i64 0], .int .i64 n, .int .i64 m])
    ∧ ∀ (w2 : World) (B2 : Nat), (∀ q, OwnS B (.slice ao l c) q w' → OwnS B2 (.slice ao l c) q w2) → GivesP B2 r e w2 := by
  cases r with
  | bad n => exact ⟨_, _, _, _, _, _, _, h, fun _ _ _ => h⟩
  | got k t q n =>
    obtain ⟨v, h1, h2⟩ := h
    obtain ⟨ao, cap, rfl⟩ := ownS_slice h1
    exact ⟨_, _, _, _, _, _, _, h2, fun w2 B2 g => ⟨_, g q h1, h2⟩⟩
theorem num_nil (l : List UInt8) : ∀ k t q n, numR l = .got k t q n → q = [] := by
  intro k t q n h
  unfold numR at h
  split at h
  · cases h
  · split at h
    · cases h
    · cases h; rfl
theorem chr_nil (l : List UInt8) : ∀ k t q n, chrR l = .got k t q n → q = [] := by
  intro k t q n h
  unfold chrR at h
  split at h
  · cases h
  · split at h
    · cases h; rfl
    · cases h
theorem str_nil (l : List UInt8) : ∀ k t q n, strR l = .got k t q n → q = [] := by
  intro k t q n h
  unfold strR at h
  split at h
  · cases h
  · split at h
    · cases h
    · cases h; rfl
theorem sig_nil (l : List UInt8) : ∀ k t q n, sigR l = .got k t q n → q = [] := by
  intro k t q n h
  unfold sigR at h
  split at h
  · exact num_nil l k t q n h
  · split at h
    · exact chr_nil l k t q n h
    · split at h
      · cases h; rfl
      · cases h; rfl
theorem par_nil (l : List UInt8) : ∀ k t q n, parR l = .got k t q n → q = [] := by
  intro k t q n h
  unfold parR at h
  split at h
  · split at h
    · cases h
    · cases h; rfl
  · cases h; rfl
theorem poi_nil (l : List UInt8) : ∀ k t q n, poiR l = .got k t q n → q = [] := by
  intro k t q n h
  unfold poiR at h
  split at h
  · cases h; rfl
  · cases h

set_option maxRecDepth 100000 in
set_option maxHeartbeats 32000000 in
theorem read_any (s : ByteArray) (tb : Nat) (w : World) (RD : Rdy w) (T : IsTab w tb) (h0 : 0 < s.size) (hs : s.size ≤ 1073741824) : Calls Tryz.prog 36 #[.string s, .slice (some ⟨tb, 0, none⟩) 9 9] w fun e w' => GivesP w.heap.size (rdL s.data.toList) e w' ∧ Below w.heap.size w w' := by
  obtain ⟨R, HR⟩ : ∃ R, Hid (rdL s.data.toList = R) := ⟨_, rfl⟩
  rw [HR.out]
  have H0 : Hid (R = rd0 s.data.toList) := HR.out.symm
  have HT := hide T
  have RDh := hide RD
  clear HR T RD
  go_enter Tryz.func36, Tryz.ntmps36
  go_wp2
  generalize hW0 : w.alloc (.cells #[.int .i64 0, .string ⟨#[]⟩, .slice none 0 0, .int .i64 0, .int .i64 0] 72) = W0
  have C5 : Hid (∀ w1, Below W0.heap.size W0 w1 → _) := fun w1 (h : Below W0.heap.size W0 w1) => cell5 (w := w) (w1 := w1) (c0 := .int .i64 0) (c1 := .string ⟨#[]⟩) (c2 := .slice none 0 0) (c3 := .int .i64 0) (c4 := .int .i64 0) (t := 72) (by rw [hW0]; exact h)
  have hW0s : w.heap.size < W0.heap.size := by rw [← hW0]; simp
  have HB0 : Hid (Below w.heap.size w W0) := by rw [← hW0]; exact (Below.refl _ _).alloc (Nat.le_refl _) _
  clear hW0
  go_loopw [11] (fun vi wr => ∃ k : Nat, vi = .int .i64 (k : Int) ∧ k ≤ 9 ∧ Hid (R = rdK k s.data.toList) ∧ Below W0.heap.size W0 wr) (fun vi _ => 10 - (intOf vi).toNat)
  case atStart => exact ⟨0, rfl, by decide, H0, Below.refl _ _⟩
  case round =>
    obtain ⟨k, rfl, hk, HI, bel⟩ := hrel
    clear H0
    have bsz := bel.size
    have HT2 := hide (HT.out.below (HB0.out.trans (bel.mono (Nat.le_of_lt hW0s))))
    have RD2 := hide (RDh.out.below (HB0.out.trans (bel.mono (Nat.le_of_lt hW0s))))
    obtain ⟨⟨c0, c1, c2, c3, c4⟩, ⟨f0, f1, f2, f3, f4⟩, d1, d2⟩ := C5.out wr bel
    have cs : k = 0 ∨ k = 1 ∨ k = 2 ∨ k = 3 ∨ k = 4 ∨ k = 5 ∨ k = 6 ∨ k = 7 ∨ k = 8 ∨ k = 9 := by omega
    rcases cs with rfl | rfl | rfl | rfl | rfl | rfl | rfl | rfl | rfl | rfl
    · have t0 : wr.cell? ⟨tb, 0, none⟩ = some (.int .u16 1) := HT2.out.at' 0 _ rfl
      have t1 : wr.cell? ⟨tb, 1, none⟩ = some (.func (.func 56) #[] #[]) := HT2.out.at' 1 _ rfl
      have CB := hide (fun W => begins_any s 1 (by decide) W)
      rw [isK_blank] at CB
      cases hb : begP lblankB s.data.toList
      · have HE : Hid (R = rdK 1 s.data.toList) := by show _ = _; rw [HI.out]; show rd0 _ = _; unfold rd0; rw [hb]; rfl
        rw [hb] at CB
        clear HI
        go_wp2_with (go_at_call 65; refine (CB.out _).mono ?_; rintro e w0 ⟨rfl, h9⟩; replace h9 := h9.symm; subst h9)
        go_roundw
        case rel => exact ⟨1, rfl, by decide, HE, bel.alloc bsz _⟩
        case measure => simp [intOf]
      · have HE : Hid (R = .got 0 [] [] (runP lblankB s.data.toList)) := by show _ = _; rw [HI.out]; show rd0 _ = _; unfold rd0; rw [hb]; rfl
        have CF := hide (fun W => blanks_any s hs W)
        rw [hb] at CB
        clear HI
        go_wp2_with (first | (go_at_call 65; refine (CB.out _).mono ?_; rintro e w0 ⟨rfl, h9⟩; replace h9 := h9.symm; subst h9) | (go_at_call 56; refine (CF.out _).mono ?_; rintro e w2 ⟨hv, g1⟩; replace hv := gives_p (B := wr.heap.size + 1) (w' := w2) hv (fun _ _ _ _ h => by cases h; rfl); obtain ⟨k', tx, ao, l', c', n', m', he, hfin⟩ := givesP_form hv; subst he; have B2 := (bel.alloc bsz _).trans (g1.mono (by simp; omega)); obtain ⟨⟨c0, c1, c2, c3, c4⟩, ⟨f0, f1, f2, f3, f4⟩, d1, d2⟩ := C5.out _ B2))
        refine tok_end rfl (some5 ⟨c0, c1, c2, c3, c4⟩) ⟨f0, f1, f2, f3, f4⟩ rfl d1 fun g => ?_
        rw [HE.out]
        exact ⟨hfin _ _ (fun q hq => ownS_mono (ownS_set5 hq (by first | omega | (simp; omega)) _ _ _ _ _) (by first | omega | (simp; omega))), g⟩
    · have t0 : wr.cell? ⟨tb, 2, none⟩ = some (.int .u16 2) := HT2.out.at' 2 _ rfl
      have t1 : wr.cell? ⟨tb, 3, none⟩ = some (.func (.func 57) #[] #[]) := HT2.out.at' 3 _ rfl
      have CB := hide (fun W => begins_any s 2 (by decide) W)
      rw [isK_letter] at CB
      cases hb : begP letterB s.data.toList
      · have HE : Hid (R = rdK 2 s.data.toList) := by show _ = _; rw [HI.out]; show rd1 _ = _; unfold rd1; rw [hb]; rfl
        rw [hb] at CB
        clear HI
        go_wp2_with (go_at_call 65; refine (CB.out _).mono ?_; rintro e w0 ⟨rfl, h9⟩; replace h9 := h9.symm; subst h9)
        go_roundw
        case rel => exact ⟨2, rfl, by decide, HE, bel.alloc bsz _⟩
        case measure => simp [intOf]
      · have HE : Hid (R = wordR s.data.toList) := by show _ = _; rw [HI.out]; show rd1 _ = _; unfold rd1; rw [hb]; rfl
        have CF := hide (fun W => word_any s hb hs W)
        rw [hb] at CB
        clear HI
        go_wp2_with (first | (go_at_call 65; refine (CB.out _).mono ?_; rintro e w0 ⟨rfl, h9⟩; replace h9 := h9.symm; subst h9) | (go_at_call 57; refine (CF.out _).mono ?_; rintro e w2 ⟨hv, g1⟩; obtain ⟨k', tx, ao, l', c', n', m', he, hfin⟩ := givesP_form hv; subst he; have B2 := (bel.alloc bsz _).trans (g1.mono (by simp; omega)); obtain ⟨⟨c0, c1, c2, c3, c4⟩, ⟨f0, f1, f2, f3, f4⟩, d1, d2⟩ := C5.out _ B2))
        refine tok_end rfl (some5 ⟨c0, c1, c2, c3, c4⟩) ⟨f0, f1, f2, f3, f4⟩ rfl d1 fun g => ?_
        rw [HE.out]
        exact ⟨hfin _ _ (fun q hq => ownS_mono (ownS_set5 hq (by first | omega | (simp; omega)) _ _ _ _ _) (by first | omega | (simp; omega))), g⟩
    · have t0 : wr.cell? ⟨tb, 4, none⟩ = some (.int .u16 4) := HT2.out.at' 4 _ rfl
      have t1 : wr.cell? ⟨tb, 5, none⟩ = some (.func (.func 58) #[] #[]) := HT2.out.at' 5 _ rfl
      have CB := hide (fun W => begins_any s 4 (by decide) W)
      rw [isK_digit] at CB
      cases hb : begP digitB s.data.toList
      · have HE : Hid (R = rdK 3 s.data.toList) := by show _ = _; rw [HI.out]; show rd2 _ = _; unfold rd2; rw [hb]; rfl
        rw [hb] at CB
        clear HI
        go_wp2_with (go_at_call 65; refine (CB.out _).mono ?_; rintro e w0 ⟨rfl, h9⟩; replace h9 := h9.symm; subst h9)
        go_roundw
        case rel => exact ⟨3, rfl, by decide, HE, bel.alloc bsz _⟩
        case measure => simp [intOf]
      · have HE : Hid (R = numR s.data.toList) := by show _ = _; rw [HI.out]; show rd2 _ = _; unfold rd2; rw [hb]; rfl
        have CF := hide (fun W => number_any s hs W)
        rw [hb] at CB
        clear HI
        go_wp2_with (first | (go_at_call 65; refine (CB.out _).mono ?_; rintro e w0 ⟨rfl, h9⟩; replace h9 := h9.symm; subst h9) | (go_at_call 58; refine (CF.out _).mono ?_; rintro e w2 ⟨hv, g1⟩; replace hv := gives_p (B := wr.heap.size + 1) (w' := w2) hv (num_nil _); obtain ⟨k', tx, ao, l', c', n', m', he, hfin⟩ := givesP_form hv; subst he; have B2 := (bel.alloc bsz _).trans (g1.mono (by simp; omega)); obtain ⟨⟨c0, c1, c2, c3, c4⟩, ⟨f0, f1, f2, f3, f4⟩, d1, d2⟩ := C5.out _ B2))
        refine tok_end rfl (some5 ⟨c0, c1, c2, c3, c4⟩) ⟨f0, f1, f2, f3, f4⟩ rfl d1 fun g => ?_
        rw [HE.out]
        exact ⟨hfin _ _ (fun q hq => ownS_mono (ownS_set5 hq (by first | omega | (simp; omega)) _ _ _ _ _) (by first | omega | (simp; omega))), g⟩
    · have t0 : wr.cell? ⟨tb, 6, none⟩ = some (.int .u16 32) := HT2.out.at' 6 _ rfl
      have t1 : wr.cell? ⟨tb, 7, none⟩ = some (.func (.func 59) #[] #[]) := HT2.out.at' 7 _ rfl
      have CB := hide (fun W => begins_any s 32 (by decide) W)
      rw [isK_sign] at CB
      cases hb : begP signB s.data.toList
      · have HE : Hid (R = rdK 4 s.data.toList) := by show _ = _; rw [HI.out]; show rd3 _ = _; unfold rd3; rw [hb]; rfl
        rw [hb] at CB
        clear HI
        go_wp2_with (go_at_call 65; refine (CB.out _).mono ?_; rintro e w0 ⟨rfl, h9⟩; replace h9 := h9.symm; subst h9)
        go_roundw
        case rel => exact ⟨4, rfl, by decide, HE, bel.alloc bsz _⟩
        case measure => simp [intOf]
      · have HE : Hid (R = sigR s.data.toList) := by show _ = _; rw [HI.out]; show rd3 _ = _; unfold rd3; rw [hb]; rfl
        have CF := hide (fun (W : World) (RR : Rdy W) => signs_any s W RR h0 hs)
        rw [hb] at CB
        clear HI
        go_wp2_with (first | (go_at_call 65; refine (CB.out _).mono ?_; rintro e w0 ⟨rfl, h9⟩; replace h9 := h9.symm; subst h9) | (go_at_call 59; refine (CF.out _ (RD2.out.below ((Below.refl _ _).alloc (Nat.le_refl _) _))).mono ?_; rintro e w2 ⟨hv, g1⟩; replace hv := gives_p (B := wr.heap.size + 1) (w' := w2) hv (sig_nil _); obtain ⟨k', tx, ao, l', c', n', m', he, hfin⟩ := givesP_form hv; subst he; have B2 := (bel.alloc bsz _).trans (g1.mono (by simp; omega)); obtain ⟨⟨c0, c1, c2, c3, c4⟩, ⟨f0, f1, f2, f3, f4⟩, d1, d2⟩ := C5.out _ B2))
        refine tok_end rfl (some5 ⟨c0, c1, c2, c3, c4⟩) ⟨f0, f1, f2, f3, f4⟩ rfl d1 fun g => ?_
        rw [HE.out]
        exact ⟨hfin _ _ (fun q hq => ownS_mono (ownS_set5 hq (by first | omega | (simp; omega)) _ _ _ _ _) (by first | omega | (simp; omega))), g⟩
    · have t0 : wr.cell? ⟨tb, 8, none⟩ = some (.int .u16 64) := HT2.out.at' 8 _ rfl
      have t1 : wr.cell? ⟨tb, 9, none⟩ = some (.func (.func 60) #[] #[]) := HT2.out.at' 9 _ rfl
      have CB := hide (fun W => begins_any s 64 (by decide) W)
      rw [isK_open] at CB
      cases hb : begP (fun c => decide (c = 40)) s.data.toList
      · have HE : Hid (R = rdK 5 s.data.toList) := by show _ = _; rw [HI.out]; show rd4 _ = _; unfold rd4; rw [hb]; rfl
        rw [hb] at CB
        clear HI
        go_wp2_with (go_at_call 65; refine (CB.out _).mono ?_; rintro e w0 ⟨rfl, h9⟩; replace h9 := h9.symm; subst h9)
        go_roundw
        case rel => exact ⟨5, rfl, by decide, HE, bel.alloc bsz _⟩
        case measure => simp [intOf]
      · have HE : Hid (R = parR s.data.toList) := by show _ = _; rw [HI.out]; show rd4 _ = _; unfold rd4; rw [hb]; rfl
        have CF := hide (fun W => parenthesis_any s h0 hs W)
        rw [hb] at CB
        clear HI
        go_wp2_with (first | (go_at_call 65; refine (CB.out _).mono ?_; rintro e w0 ⟨rfl, h9⟩; replace h9 := h9.symm; subst h9) | (go_at_call 60; refine (CF.out _).mono ?_; rintro e w2 ⟨hv, g1⟩; replace hv := gives_p (B := wr.heap.size + 1) (w' := w2) hv (par_nil _); obtain ⟨k', tx, ao, l', c', n', m', he, hfin⟩ := givesP_form hv; subst he; have B2 := (bel.alloc bsz _).trans (g1.mono (by simp; omega)); obtain ⟨⟨c0, c1, c2, c3, c4⟩, ⟨f0, f1, f2, f3, f4⟩, d1, d2⟩ := C5.out _ B2))
        refine tok_end rfl (some5 ⟨c0, c1, c2, c3, c4⟩) ⟨f0, f1, f2, f3, f4⟩ rfl d1 fun g => ?_
        rw [HE.out]
        exact ⟨hfin _ _ (fun q hq => ownS_mono (ownS_set5 hq (by first | omega | (simp; omega)) _ _ _ _ _) (by first | omega | (simp; omega))), g⟩
    · have t0 : wr.cell? ⟨tb, 10, none⟩ = some (.int .u16 128) := HT2.out.at' 10 _ rfl
      have t1 : wr.cell? ⟨tb, 11, none⟩ = some (.func (.func 61) #[] #[]) := HT2.out.at' 11 _ rfl
      have CB := hide (fun W => begins_any s 128 (by decide) W)
      rw [isK_alone] at CB
      cases hb : begP aloneB s.data.toList
      · have HE : Hid (R = rdK 6 s.data.toList) := by show _ = _; rw [HI.out]; show rd5 _ = _; unfold rd5; rw [hb]; rfl
        rw [hb] at CB
        clear HI
        go_wp2_with (go_at_call 65; refine (CB.out _).mono ?_; rintro e w0 ⟨rfl, h9⟩; replace h9 := h9.symm; subst h9)
        go_roundw
        case rel => exact ⟨6, rfl, by decide, HE, bel.alloc bsz _⟩
        case measure => simp [intOf]
      · have HE : Hid (R = cutR 1 s.data.toList 1) := by show _ = _; rw [HI.out]; show rd5 _ = _; unfold rd5; rw [hb]; rfl
        have CF := hide (fun W => single_any s h0 hs W)
        rw [hb] at CB
        clear HI
        go_wp2_with (first | (go_at_call 65; refine (CB.out _).mono ?_; rintro e w0 ⟨rfl, h9⟩; replace h9 := h9.symm; subst h9) | (go_at_call 61; refine (CF.out _).mono ?_; rintro e w2 ⟨hv, g1⟩; replace hv := gives_p (B := wr.heap.size + 1) (w' := w2) hv (fun _ _ _ _ h => by cases h; rfl); obtain ⟨k', tx, ao, l', c', n', m', he, hfin⟩ := givesP_form hv; subst he; have B2 := (bel.alloc bsz _).trans (g1.mono (by simp; omega)); obtain ⟨⟨c0, c1, c2, c3, c4⟩, ⟨f0, f1, f2, f3, f4⟩, d1, d2⟩ := C5.out _ B2))
        refine tok_end rfl (some5 ⟨c0, c1, c2, c3, c4⟩) ⟨f0, f1, f2, f3, f4⟩ rfl d1 fun g => ?_
        rw [HE.out]
        exact ⟨hfin _ _ (fun q hq => ownS_mono (ownS_set5 hq (by first | omega | (simp; omega)) _ _ _ _ _) (by first | omega | (simp; omega))), g⟩
    · have t0 : wr.cell? ⟨tb, 12, none⟩ = some (.int .u16 256) := HT2.out.at' 12 _ rfl
      have t1 : wr.cell? ⟨tb, 13, none⟩ = some (.func (.func 62) #[] #[]) := HT2.out.at' 13 _ rfl
      have CB := hide (fun W => begins_any s 256 (by decide) W)
      rw [isK_point] at CB
      cases hb : begP (fun c => decide (c = 46)) s.data.toList
      · have HE : Hid (R = rdK 7 s.data.toList) := by show _ = _; rw [HI.out]; show rd6 _ = _; unfold rd6; rw [hb]; rfl
        rw [hb] at CB
        clear HI
        go_wp2_with (go_at_call 65; refine (CB.out _).mono ?_; rintro e w0 ⟨rfl, h9⟩; replace h9 := h9.symm; subst h9)
        go_roundw
        case rel => exact ⟨7, rfl, by decide, HE, bel.alloc bsz _⟩
        case measure => simp [intOf]
      · have HE : Hid (R = poiR s.data.toList) := by show _ = _; rw [HI.out]; show rd6 _ = _; unfold rd6; rw [hb]; rfl
        have CF := hide (fun W => points_any s hs W)
        rw [hb] at CB
        clear HI
        go_wp2_with (first | (go_at_call 65; refine (CB.out _).mono ?_; rintro e w0 ⟨rfl, h9⟩; replace h9 := h9.symm; subst h9) | (go_at_call 62; refine (CF.out _).mono ?_; rintro e w2 ⟨hv, g1⟩; replace hv := gives_p (B := wr.heap.size + 1) (w' := w2) hv (poi_nil _); obtain ⟨k', tx, ao, l', c', n', m', he, hfin⟩ := givesP_form hv; subst he; have B2 := (bel.alloc bsz _).trans (g1.mono (by simp; omega)); obtain ⟨⟨c0, c1, c2, c3, c4⟩, ⟨f0, f1, f2, f3, f4⟩, d1, d2⟩ := C5.out _ B2))
        refine tok_end rfl (some5 ⟨c0, c1, c2, c3, c4⟩) ⟨f0, f1, f2, f3, f4⟩ rfl d1 fun g => ?_
        rw [HE.out]
        exact ⟨hfin _ _ (fun q hq => ownS_mono (ownS_set5 hq (by first | omega | (simp; omega)) _ _ _ _ _) (by first | omega | (simp; omega))), g⟩
    · have t0 : wr.cell? ⟨tb, 14, none⟩ = some (.int .u16 512) := HT2.out.at' 14 _ rfl
      have t1 : wr.cell? ⟨tb, 15, none⟩ = some (.func (.func 63) #[] #[]) := HT2.out.at' 15 _ rfl
      have CB := hide (fun W => begins_any s 512 (by decide) W)
      rw [isK_prime] at CB
      cases hb : begP (fun c => decide (c = 39)) s.data.toList
      · have HE : Hid (R = rdK 8 s.data.toList) := by show _ = _; rw [HI.out]; show rd7 _ = _; unfold rd7; rw [hb]; rfl
        rw [hb] at CB
        clear HI
        go_wp2_with (go_at_call 65; refine (CB.out _).mono ?_; rintro e w0 ⟨rfl, h9⟩; replace h9 := h9.symm; subst h9)
        go_roundw
        case rel => exact ⟨8, rfl, by decide, HE, bel.alloc bsz _⟩
        case measure => simp [intOf]
      · have HE : Hid (R = cutR 3 s.data.toList (runP wordB s.data.toList)) := by show _ = _; rw [HI.out]; show rd7 _ = _; unfold rd7; rw [hb]; rfl
        have CF := hide (fun W => variable_any s hs W)
        rw [hb] at CB
        clear HI
        go_wp2_with (first | (go_at_call 65; refine (CB.out _).mono ?_; rintro e w0 ⟨rfl, h9⟩; replace h9 := h9.symm; subst h9) | (go_at_call 63; refine (CF.out _).mono ?_; rintro e w2 ⟨hv, g1⟩; replace hv := gives_p (B := wr.heap.size + 1) (w' := w2) hv (fun _ _ _ _ h => by cases h; rfl); obtain ⟨k', tx, ao, l', c', n', m', he, hfin⟩ := givesP_form hv; subst he; have B2 := (bel.alloc bsz _).trans (g1.mono (by simp; omega)); obtain ⟨⟨c0, c1, c2, c3, c4⟩, ⟨f0, f1, f2, f3, f4⟩, d1, d2⟩ := C5.out _ B2))
        refine tok_end rfl (some5 ⟨c0, c1, c2, c3, c4⟩) ⟨f0, f1, f2, f3, f4⟩ rfl d1 fun g => ?_
        rw [HE.out]
        exact ⟨hfin _ _ (fun q hq => ownS_mono (ownS_set5 hq (by first | omega | (simp; omega)) _ _ _ _ _) (by first | omega | (simp; omega))), g⟩
    · have t0 : wr.cell? ⟨tb, 16, none⟩ = some (.int .u16 1024) := HT2.out.at' 16 _ rfl
      have t1 : wr.cell? ⟨tb, 17, none⟩ = some (.func (.func 64) #[] #[]) := HT2.out.at' 17 _ rfl
      have CB := hide (fun W => begins_any s 1024 (by decide) W)
      rw [isK_quote] at CB
      cases hb : begP (fun c => decide (c = 34)) s.data.toList
      · have HE : Hid (R = rdK 9 s.data.toList) := by show _ = _; rw [HI.out]; show rd8 _ = _; unfold rd8; rw [hb]; rfl
        rw [hb] at CB
        clear HI
        go_wp2_with (go_at_call 65; refine (CB.out _).mono ?_; rintro e w0 ⟨rfl, h9⟩; replace h9 := h9.symm; subst h9)
        go_roundw
        case rel => exact ⟨9, rfl, by decide, HE, bel.alloc bsz _⟩
        case measure => simp [intOf]
      · have HE : Hid (R = strR s.data.toList) := by show _ = _; rw [HI.out]; show rd8 _ = _; unfold rd8; rw [hb]; rfl
        have CF := hide (fun (W : World) (RR : Rdy W) => constant_any s W RR h0 hs)
        rw [hb] at CB
        clear HI
        go_wp2_with (first | (go_at_call 65; refine (CB.out _).mono ?_; rintro e w0 ⟨rfl, h9⟩; replace h9 := h9.symm; subst h9) | (go_at_call 64; refine (CF.out _ (RD2.out.below ((Below.refl _ _).alloc (Nat.le_refl _) _))).mono ?_; rintro e w2 ⟨hv, g1⟩; replace hv := gives_p (B := wr.heap.size + 1) (w' := w2) hv (str_nil _); obtain ⟨k', tx, ao, l', c', n', m', he, hfin⟩ := givesP_form hv; subst he; have B2 := (bel.alloc bsz _).trans (g1.mono (by simp; omega)); obtain ⟨⟨c0, c1, c2, c3, c4⟩, ⟨f0, f1, f2, f3, f4⟩, d1, d2⟩ := C5.out _ B2))
        refine tok_end rfl (some5 ⟨c0, c1, c2, c3, c4⟩) ⟨f0, f1, f2, f3, f4⟩ rfl d1 fun g => ?_
        rw [HE.out]
        exact ⟨hfin _ _ (fun q hq => ownS_mono (ownS_set5 hq (by first | omega | (simp; omega)) _ _ _ _ _) (by first | omega | (simp; omega))), g⟩
    · have HE : Hid (R = .bad 40) := HI.out
      clear HI
      go_wp2
      refine tok_end rfl (some5 ⟨c0, c1, c2, c3, c4⟩) ⟨f0, f1, f2, f3, f4⟩ rfl d1 fun g => ?_
      rw [HE.out]
      exact ⟨rfl, g⟩
end Go.Proofs.YtbcmpacmoofdkaaGreatDoor
/- The program's scanner: places. -/
namespace Go.Proofs.YtbcmpacmoofdkaaGreatDoor
open Go.ChangeShapes Go.WideShapes Go.ChangeAt Go.RowKit

/-- The place of a list's last byte 10; -1: there is none. -/
def lastI (l : List UInt8) : Nat → Int
  | 0 => -1
  | k + 1 => if l[k]? = some 10 then (k : Int) else lastI l k

set_option maxRecDepth 100000 in
set_option maxHeartbeats 4000000 in
theorem lastByte_any (s : ByteArray) (hs : s.size ≤ 1073741824) (w : World) : Calls Tryz.prog 96 #[.string s, .int .u8 10] w fun e w' => e = .returned (.int .i64 (lastI s.data.toList s.size)) ∧ w' = w := by
  obtain ⟨T, HT⟩ : ∃ T, Hid (lastI s.data.toList s.size = T) := ⟨_, rfl⟩
  rw [HT.out]
  go_enter Tryz.func96, Tryz.ntmps96
  go_wp2
  go_loop [5] (fun vi => ∃ k : Nat, vi = .int .i64 ((k : Int) - 1) ∧ k ≤ s.size ∧ Hid (T = lastI s.data.toList k)) (fun vi => (intOf vi + 1).toNat)
  case atStart => exact ⟨s.size, rfl, Nat.le_refl _, HT.out.symm⟩
  case round =>
    obtain ⟨k, rfl, hk, HI⟩ := hrel
    cases k with
    | zero =>
      have HE : Hid (T = -1) := HI.out
      go_wp2
      go_ret
      exact ⟨by rw [HE.out]; rfl, rfl⟩
    | succ k =>
      have hlt : k < s.size := by omega
      have e1 : ((k + 1 : Nat) : Int) - 1 = (k : Int) := by omega
      rw [e1]
      have hl : s.data.toList[k]? = some (s[k]'hlt) := by
        rw [List.getElem?_eq_getElem (by simpa using hlt)]; rfl
      obtain ⟨n, hn⟩ : ∃ n, (s[k]'hlt).toNat = n := ⟨_, rfl⟩
      have HE : Hid (T = if n = 10 then (k : Int) else lastI s.data.toList k) := by
        show _ = _
        rw [HI.out]
        show (if s.data.toList[k]? = some 10 then _ else _) = _
        rw [hl]
        have : (some (s[k]'hlt) = some (10 : UInt8)) = (n = 10) := by
          rw [← hn]
          simp only [Option.some.injEq]
          exact propext UInt8.toNat_inj.symm
        simp only [this]
      clear HI hl
      by_cases h10 : n = 10
      · have HF : Hid (T = (k : Int)) := by show _ = _; rw [HE.out, if_pos h10]
        subst h10
        clear HE
        go_wp2
        go_ret
        exact ⟨by rw [HF.out]; rfl, rfl⟩
      · have HF : Hid (T = lastI s.data.toList k) := by show _ = _; rw [HE.out, if_neg h10]
        have g : ((n : Int) == 10) = false := by simp; omega
        clear HE
        go_wp2
        go_round
        case rel => exact ⟨k, rfl, by omega, HF⟩
        case measure => simp [intOf]
end Go.Proofs.YtbcmpacmoofdkaaGreatDoor
/- The program's scanner: the place behind some bytes. -/
namespace Go.Proofs.YtbcmpacmoofdkaaGreatDoor
open Go.ChangeShapes Go.WideShapes Go.ChangeAt Go.RowKit

theorem lastI_app (l : List UInt8) (c : UInt8) : ∀ k, k ≤ l.length → lastI (l ++ [c]) k = lastI l k := by
  intro k
  induction k with
  | zero => intro _; rfl
  | succ k ih =>
    intro h
    unfold lastI
    rw [List.getElem?_append_left (by omega), ih (by omega)]
theorem lastI_snoc (l : List UInt8) (c : UInt8) : lastI (l ++ [c]) (l.length + 1) = if c = 10 then (l.length : Int) else lastI l l.length := by
  conv => lhs; unfold lastI
  rw [List.getElem?_append_right (Nat.le_refl _), Nat.sub_self, lastI_app l c l.length (Nat.le_refl _)]
  simp only [List.getElem?_cons_zero, Option.some.injEq]
theorem lastI_bd (l : List UInt8) : ∀ k, -1 ≤ lastI l k ∧ lastI l k < k := by
  intro k
  induction k with
  | zero => exact ⟨Int.le_refl _, by show (-1 : Int) < 0; decide⟩
  | succ k ih =>
    unfold lastI
    split <;> omega
/-- The place behind some bytes: what counts is the last byte 10. -/
theorem place_last (x y : Nat) : ∀ (n : Nat) (l : List UInt8), l.length = n → (lastI l l.length < 0 → placeL (x, y) l = (x, y + l.length) ∧ l.count 10 = 0) ∧ (0 ≤ lastI l l.length → (placeL (x, y) l).1 = x + l.count 10 ∧ ((placeL (x, y) l).2 : Int) = l.length - lastI l l.length) := by
  intro n
  induction n with
  | zero =>
    intro l hl
    obtain rfl : l = [] := List.eq_nil_of_length_eq_zero hl
    exact ⟨fun _ => ⟨rfl, rfl⟩, fun h => absurd h (by decide)⟩
  | succ n ih =>
    intro l hl
    obtain ⟨r, c, rfl⟩ : ∃ r c, l = r ++ [c] := ⟨l.dropLast, l.getLast (by intro e; rw [e] at hl; simp at hl), (List.dropLast_concat_getLast _).symm⟩
    have hr : r.length = n := by simpa using hl
    obtain ⟨i1, i2⟩ := ih r hr
    have e1 : (r ++ [c]).length = r.length + 1 := by simp
    have e2 : placeL (x, y) (r ++ [c]) = stepP (placeL (x, y) r) c := placeL_app _ _ _
    have e3 : (r ++ [c]).count 10 = r.count 10 + (if c = 10 then 1 else 0) := by
      rw [List.count_append, List.count_singleton]
      simp
    rw [e1, lastI_snoc, e2, e3]
    have hb := lastI_bd r r.length
    by_cases hc : c = 10
    · subst hc
      rw [if_pos rfl, if_pos rfl]
      refine ⟨fun h => by omega, fun _ => ?_⟩
      have s1 : stepP (placeL (x, y) r) 10 = ((placeL (x, y) r).1 + 1, 1) := rfl
      rw [s1]
      refine ⟨?_, by show ((1 : Nat) : Int) = ((r.length + 1 : Nat) : Int) - (r.length : Int); omega⟩
      show (placeL (x, y) r).1 + 1 = _
      rcases Int.lt_or_le (lastI r r.length) 0 with g | g
      · obtain ⟨j1, j2⟩ := i1 g; rw [j1, j2]
      · obtain ⟨j1, _⟩ := i2 g; rw [j1]; omega
    · rw [if_neg hc, if_neg hc]
      have hcn : ¬ c.toNat = 10 := fun e => hc (UInt8.toNat_inj.1 e)
      have s1 : stepP (placeL (x, y) r) c = ((placeL (x, y) r).1, (placeL (x, y) r).2 + 1) := by unfold stepP; rw [if_neg hcn]
      rw [s1]
      refine ⟨fun h => ?_, fun h => ?_⟩
      · obtain ⟨j1, j2⟩ := i1 h; rw [j1, j2]; exact ⟨rfl, rfl⟩
      · obtain ⟨j1, j2⟩ := i2 h
        refine ⟨by show (placeL (x, y) r).1 = _; rw [j1]; omega, ?_⟩
        show (((placeL (x, y) r).2 + 1 : Nat) : Int) = _
        omega

theorem last_any (s : ByteArray) (hs : s.size ≤ 1073741824) (w : World) : Calls Tryz.prog 66 #[.string s, .int .u8 10] w fun e w' => e = .returned (.int .i64 (lastI s.data.toList s.size)) ∧ w' = w := by
  have C := hide (fun W => lastByte_any s hs W)
  generalize lastI s.data.toList s.size = T at *
  go_enter Tryz.func66, Tryz.ntmps66
  go_wp2_with (go_at_call 96; refine (C.out _).mono ?_; rintro e w1 ⟨rfl, rfl⟩)
  go_ret
  exact ⟨rfl, rfl⟩

set_option maxRecDepth 100000 in
set_option maxHeartbeats 4000000 in
theorem behind_any (x y : Nat) (s : ByteArray) (hx : x ≤ 1073741824) (hy : y ≤ 1073741824) (hs : s.size ≤ 1073741824) (w : World) : Calls Tryz.prog 37 #[.agg #[.int .i64 (x : Int), .int .i64 (y : Int)], .string s] w fun e w' => e = .returned (.agg #[.int .i64 ((placeL (x, y) s.data.toList).1 : Nat), .int .i64 ((placeL (x, y) s.data.toList).2 : Nat)]) ∧ Below w.heap.size w w' := by
  have CL := hide (fun W => last_any s hs W)
  have CC := hide (fun W => Tryz.strings_Count_one s 10 W)
  obtain ⟨p1, p2⟩ := place_last x y _ s.data.toList rfl
  have hb := lastI_bd s.data.toList s.size
  rw [size_list] at p1 p2
  have hcl : s.data.toList.count 10 ≤ s.size := by have := List.count_le_length (a := (10 : UInt8)) (l := s.data.toList); rwa [size_list] at this
  have e0 : Lib.countByte s.data.toList 10 = s.data.toList.count 10 := rfl
  rw [e0] at CC
  generalize s.data.toList.count 10 = cn at *
  generalize lastI s.data.toList s.size = la at *
  obtain ⟨P, hP⟩ : ∃ P, placeL (x, y) s.data.toList = P := ⟨_, rfl⟩
  rw [hP] at p1 p2 ⊢
  clear hP e0
  by_cases hl : la < 0
  · obtain ⟨q1, _⟩ := p1 hl
    have HE := hide q1
    clear p1 p2 q1 CC
    go_enter Tryz.func37, Tryz.ntmps37
    go_wp2_with (go_at_call 66; refine (CL.out _).mono ?_; rintro e w1 ⟨rfl, h9⟩; replace h9 := h9.symm; subst h9)
    refine bodyPost_ret (results_cell_row rfl _ _ (w.heap.size + 1) 68 _ (0, 0) _ rfl (heap_alloc2_new w _ _) Tryz.underlying68 rfl (by kernel_rfl)) rfl ?_
    refine ⟨?_, ((Below.refl _ _).alloc (Nat.le_refl _) _).alloc (by simp) _⟩
    rw [HE.out]
    go_num
  · obtain ⟨q1, q2⟩ := p2 (by omega)
    have HE := hide (And.intro q1 q2)
    have hl0 : 0 ≤ la := by omega
    clear p1 p2 q1 q2
    go_enter Tryz.func37, Tryz.ntmps37
    go_wp2_with (go_at_call 66; refine (CL.out _).mono ?_; rintro e w1 ⟨rfl, h9⟩; replace h9 := h9.symm; subst h9)
    go_region_held3 (fun w' => w'.cell? ⟨w.heap.size, 0, none⟩ = some (.int .i64 (x : Int))) (go_keep) (first
      | (go_at_call 67; refine (CC.out _).mono ?_; rintro e w1 ⟨rfl, h9⟩; replace h9 := h9.symm; subst h9))
    go_wp2_with fail
    refine bodyPost_ret (results_cell_row rfl _ _ (w.heap.size + 1) 68 _ (0, 0) _ rfl (show _ from heap_alloc2_new w _ _) Tryz.underlying68 rfl (by kernel_rfl)) rfl ?_
    refine ⟨?_, (((Below.refl _ _).alloc (Nat.le_refl _) _).alloc (by simp) _).drew⟩
    have z1 : IntKind.i64.wrap ((x : Int) + (cn : Int)) = (P.1 : Nat) := by rw [HE.out.1, IntKind.wrap_i64]; omega
    have z2 : IntKind.i64.wrap ((s.size : Int) - la) = (P.2 : Nat) := by rw [HE.out.2, IntKind.wrap_i64]; omega
    rw [z1, z2]
end Go.Proofs.YtbcmpacmoofdkaaGreatDoor
