/- The program's scanner: the table of its readers, and what reads a token. -/
import Derived.Test.YtmeooghcdgpofaaDoorProg
import Derived.Test.YtmeooghcdgpofaaDoorLexD11
import Derived.Test.YtmeooghcdgpofaaDoorShelf
import Derived.WalkKit
import Derived.ProofKit
import Derived.OpenShut
import Derived.Below
import Derived.WalkLawsBesides
import Derived.OwnWalk
import Derived.BigQuiet
import Derived.Deep.MidRow
import Derived.Laws.EntriesVeiled
namespace Go.Proofs.YtmeooghcdgpofaaDoor
open Go.ChangeShapes Go.WideShapes Go.ChangeAt Go.RowKit

def tableC : Array Value := #[.int .u16 1, .func (.func 23) #[] #[], .int .u16 2, .func (.func 24) #[] #[], .int .u16 4, .func (.func 25) #[] #[], .int .u16 32, .func (.func 26) #[] #[], .int .u16 64, .func (.func 27) #[] #[], .int .u16 128, .func (.func 28) #[] #[], .int .u16 256, .func (.func 29) #[] #[], .int .u16 512, .func (.func 30) #[] #[], .int .u16 1024, .func (.func 31) #[] #[]]

set_option maxRecDepth 100000 in
set_option maxHeartbeats 4000000 in
theorem readers_any (w : World) : Calls Tryd.prog 15 #[] w fun e w' => e = .returned (.slice (some ⟨w.heap.size, 0, none⟩) 9 9) ∧ w' = w.alloc (.cells tableC 65) := by
  go_enter Tryd.func15, Tryd.ntmps15
  go_wp2
  go_ret
  exact ⟨rfl, rfl⟩

/-- The table of readers lies in block tb. -/
structure IsTab (w : World) (tb : Nat) : Prop where
  at' : ∀ j v, tableC[j]? = some v → w.cell? ⟨tb, j, none⟩ = some v
  old : tb < w.heap.size
theorem IsTab.below {w w' : World} {tb : Nat} (h : IsTab w tb) (b : Below w.heap.size w w') : IsTab w' tb :=
  ⟨fun j v hv => by rw [b.cell (p := ⟨tb, j, none⟩) h.old]; exact h.at' j v hv, Nat.lt_of_lt_of_le h.old b.size⟩
theorem isTab_new (w : World) : IsTab (w.alloc (.cells tableC 65)) w.heap.size := by
  refine ⟨fun j v hv => ?_, by simp⟩
  rw [World.cell?_alloc_mark]
  simpa using hv
def rd9 (_ : List UInt8) : Rd := .bad 40
def rd8 (l : List UInt8) : Rd := if begP (fun c => decide (c = 34)) l then strR l else rd9 l
def rd7 (l : List UInt8) : Rd := if begP (fun c => decide (c = 39)) l then cutR 3 l (runP wordB l) else rd8 l
def rd6 (l : List UInt8) : Rd := if begP (fun c => decide (c = 46)) l then poiR l else rd7 l
def rd5 (l : List UInt8) : Rd := if begP aloneB l then cutR 1 l 1 else rd6 l
def rd4 (l : List UInt8) : Rd := if begP (fun c => decide (c = 40)) l then parR l else rd5 l
def rd3 (l : List UInt8) : Rd := if begP signB l then sigR l else rd4 l
def rd2 (l : List UInt8) : Rd := if begP digitB l then numR l else rd3 l
def rd1 (l : List UInt8) : Rd := if begP letterB l then wordR l else rd2 l
def rd0 (l : List UInt8) : Rd := if begP lblankB l then .got 0 [] [] (runP lblankB l) else rd1 l
theorem rd0_eq (l : List UInt8) : rdL l = rd0 l := rfl
def rdK (k : Nat) (l : List UInt8) : Rd := if k = 0 then rd0 l else if k = 1 then rd1 l else if k = 2 then rd2 l else if k = 3 then rd3 l else if k = 4 then rd4 l else if k = 5 then rd5 l else if k = 6 then rd6 l else if k = 7 then rd7 l else if k = 8 then rd8 l else rd9 l
theorem gives_p {B : Nat} {r : Rd} {e : Ending} {w' : World} (h : Gives r e) (hr : ∀ k t q n, r = .got k t q n → q = []) : GivesP B r e w' := by
  cases r with
  | bad n => exact h
  | got k t q n =>
    obtain rfl := hr k t q n rfl
    exact ⟨_, ownS_nil _ _, h⟩
theorem givesP_form {B : Nat} {r : Rd} {e : Ending} {w' : World} (h : GivesP B r e w') : ∃ (k : Int) (t : ByteArray) (ao : Option Addr) (l c : Nat) (n m : Int), e = .returned (.tuple #[.agg #[.int .i64 k, .string t, .slice ao l c, .int .i64 0, .int .i64 0], .int .i64 n, .int .i64 m])
    ∧ ∀ (w2 : World) (B2 : Nat), (∀ q, OwnS B (.slice ao l c) q w' → OwnS B2 (.slice ao l c) q w2) → GivesP B2 r e w2 := by
  cases r with
  | bad n => exact ⟨_, _, _, _, _, _, _, h, fun _ _ _ => h⟩
  | got k t q n =>
    obtain ⟨v, h1, h2⟩ := h
    obtain ⟨ao, cap, rfl⟩ := ownS_slice h1
    exact ⟨_, _, _, _, _, _, _, h2, fun w2 B2 g => ⟨_, g q h1, h2⟩⟩
theorem num_nil (l : List UInt8) : ∀ k t q n, numR l = .got k t q n → q = [] := by
  intro k t q n h
  unfold numR at h
  split at h
  · cases h
  · split at h
    · cases h
    · cases h; rfl
theorem chr_nil (l : List UInt8) : ∀ k t q n, chrR l = .got k t q n → q = [] := by
  intro k t q n h
  unfold chrR at h
  split at h
  · cases h
  · split at h
    · cases h; rfl
    · cases h
theorem str_nil (l : List UInt8) : ∀ k t q n, strR l = .got k t q n → q = [] := by
  intro k t q n h
  unfold strR at h
  split at h
  · cases h
  · split at h
    · cases h
    · cases h; rfl
theorem sig_nil (l : List UInt8) : ∀ k t q n, sigR l = .got k t q n → q = [] := by
  intro k t q n h
  unfold sigR at h
  split at h
  · exact num_nil l k t q n h
  · split at h
    · exact chr_nil l k t q n h
    · split at h
      · cases h; rfl
      · cases h; rfl
theorem par_nil (l : List UInt8) : ∀ k t q n, parR l = .got k t q n → q = [] := by
  intro k t q n h
  unfold parR at h
  split at h
  · split at h
    · cases h
    · cases h; rfl
  · cases h; rfl
theorem poi_nil (l : List UInt8) : ∀ k t q n, poiR l = .got k t q n → q = [] := by
  intro k t q n h
  unfold poiR at h
  split at h
  · cases h; rfl
  · cases h

set_option maxRecDepth 100000 in
set_option maxHeartbeats 32000000 in
theorem read_any (s : ByteArray) (tb : Nat) (w : World) (RD : Rdy w) (T : IsTab w tb) (h0 : 0 < s.size) (hs : s.size ≤ 1073741824) : Calls Tryd.prog 16 #[.string s, .slice (some ⟨tb, 0, none⟩) 9 9] w fun e w' => GivesP w.heap.size (rdL s.data.toList) e w' ∧ Below w.heap.size w w' := by
  obtain ⟨R, HR⟩ : ∃ R, Hid (rdL s.data.toList = R) := ⟨_, rfl⟩
  rw [HR.out]
  have H0 : Hid (R = rd0 s.data.toList) := HR.out.symm
  have HT := hide T
  have RDh := hide RD
  clear HR T RD
  go_enter Tryd.func16, Tryd.ntmps16
  go_wp2
  generalize hW0 : w.alloc (.cells #[.int .i64 0, .string ⟨#[]⟩, .slice none 0 0, .int .i64 0, .int .i64 0] 34) = W0
  have C5 : Hid (∀ w1, Below W0.heap.size W0 w1 → _) := fun w1 (h : Below W0.heap.size W0 w1) => cell5 (w := w) (w1 := w1) (c0 := .int .i64 0) (c1 := .string ⟨#[]⟩) (c2 := .slice none 0 0) (c3 := .int .i64 0) (c4 := .int .i64 0) (t := 34) (by rw [hW0]; exact h)
  have hW0s : w.heap.size < W0.heap.size := by rw [← hW0]; simp
  have HB0 : Hid (Below w.heap.size w W0) := by rw [← hW0]; exact (Below.refl _ _).alloc (Nat.le_refl _) _
  clear hW0
  go_loopw [11] (fun vi wr => ∃ k : Nat, vi = .int .i64 (k : Int) ∧ k ≤ 9 ∧ Hid (R = rdK k s.data.toList) ∧ Below W0.heap.size W0 wr) (fun vi _ => 10 - (intOf vi).toNat)
  case atStart => exact ⟨0, rfl, by decide, H0, Below.refl _ _⟩
  case round =>
    obtain ⟨k, rfl, hk, HI, bel⟩ := hrel
    clear H0
    have bsz := bel.size
    have HT2 := hide (HT.out.below (HB0.out.trans (bel.mono (Nat.le_of_lt hW0s))))
    have RD2 := hide (RDh.out.below (HB0.out.trans (bel.mono (Nat.le_of_lt hW0s))))
    obtain ⟨⟨c0, c1, c2, c3, c4⟩, ⟨f0, f1, f2, f3, f4⟩, d1, d2⟩ := C5.out wr bel
    have cs : k = 0 ∨ k = 1 ∨ k = 2 ∨ k = 3 ∨ k = 4 ∨ k = 5 ∨ k = 6 ∨ k = 7 ∨ k = 8 ∨ k = 9 := by omega
    rcases cs with rfl | rfl | rfl | rfl | rfl | rfl | rfl | rfl | rfl | rfl
    · have t0 : wr.cell? ⟨tb, 0, none⟩ = some (.int .u16 1) := HT2.out.at' 0 _ rfl
      have t1 : wr.cell? ⟨tb, 1, none⟩ = some (.func (.func 23) #[] #[]) := HT2.out.at' 1 _ rfl
      have CB := hide (fun W => begins_any s 1 (by decide) W)
      rw [isK_blank] at CB
      cases hb : begP lblankB s.data.toList
      · have HE : Hid (R = rdK 1 s.data.toList) := by show _ = _; rw [HI.out]; show rd0 _ = _; unfold rd0; rw [hb]; rfl
        rw [hb] at CB
        clear HI
        go_wp2_with (go_at_call 32; refine (CB.out _).mono ?_; rintro e w0 ⟨rfl, h9⟩; replace h9 := h9.symm; subst h9)
        go_roundw
        case rel => exact ⟨1, rfl, by decide, HE, bel.alloc bsz _⟩
        case measure => simp [intOf]
      · have HE : Hid (R = .got 0 [] [] (runP lblankB s.data.toList)) := by show _ = _; rw [HI.out]; show rd0 _ = _; unfold rd0; rw [hb]; rfl
        have CF := hide (fun W => blanks_any s hs W)
        rw [hb] at CB
        clear HI
        go_wp2_with (first | (go_at_call 32; refine (CB.out _).mono ?_; rintro e w0 ⟨rfl, h9⟩; replace h9 := h9.symm; subst h9) | (go_at_call 23; refine (CF.out _).mono ?_; rintro e w2 ⟨hv, g1⟩; replace hv := gives_p (B := wr.heap.size + 1) (w' := w2) hv (fun _ _ _ _ h => by cases h; rfl); obtain ⟨k', tx, ao, l', c', n', m', he, hfin⟩ := givesP_form hv; subst he; have B2 := (bel.alloc bsz _).trans (g1.mono (by simp; omega)); obtain ⟨⟨c0, c1, c2, c3, c4⟩, ⟨f0, f1, f2, f3, f4⟩, d1, d2⟩ := C5.out _ B2))
        refine tok_end rfl (some5 ⟨c0, c1, c2, c3, c4⟩) ⟨f0, f1, f2, f3, f4⟩ rfl d1 fun g => ?_
        rw [HE.out]
        exact ⟨hfin _ _ (fun q hq => ownS_mono (ownS_set5 hq (by first | omega | (simp; omega)) _ _ _ _ _) (by first | omega | (simp; omega))), g⟩
    · have t0 : wr.cell? ⟨tb, 2, none⟩ = some (.int .u16 2) := HT2.out.at' 2 _ rfl
      have t1 : wr.cell? ⟨tb, 3, none⟩ = some (.func (.func 24) #[] #[]) := HT2.out.at' 3 _ rfl
      have CB := hide (fun W => begins_any s 2 (by decide) W)
      rw [isK_letter] at CB
      cases hb : begP letterB s.data.toList
      · have HE : Hid (R = rdK 2 s.data.toList) := by show _ = _; rw [HI.out]; show rd1 _ = _; unfold rd1; rw [hb]; rfl
        rw [hb] at CB
        clear HI
        go_wp2_with (go_at_call 32; refine (CB.out _).mono ?_; rintro e w0 ⟨rfl, h9⟩; replace h9 := h9.symm; subst h9)
        go_roundw
        case rel => exact ⟨2, rfl, by decide, HE, bel.alloc bsz _⟩
        case measure => simp [intOf]
      · have HE : Hid (R = wordR s.data.toList) := by show _ = _; rw [HI.out]; show rd1 _ = _; unfold rd1; rw [hb]; rfl
        have CF := hide (fun W => word_any s hb hs W)
        rw [hb] at CB
        clear HI
        go_wp2_with (first | (go_at_call 32; refine (CB.out _).mono ?_; rintro e w0 ⟨rfl, h9⟩; replace h9 := h9.symm; subst h9) | (go_at_call 24; refine (CF.out _).mono ?_; rintro e w2 ⟨hv, g1⟩; obtain ⟨k', tx, ao, l', c', n', m', he, hfin⟩ := givesP_form hv; subst he; have B2 := (bel.alloc bsz _).trans (g1.mono (by simp; omega)); obtain ⟨⟨c0, c1, c2, c3, c4⟩, ⟨f0, f1, f2, f3, f4⟩, d1, d2⟩ := C5.out _ B2))
        refine tok_end rfl (some5 ⟨c0, c1, c2, c3, c4⟩) ⟨f0, f1, f2, f3, f4⟩ rfl d1 fun g => ?_
        rw [HE.out]
        exact ⟨hfin _ _ (fun q hq => ownS_mono (ownS_set5 hq (by first | omega | (simp; omega)) _ _ _ _ _) (by first | omega | (simp; omega))), g⟩
    · have t0 : wr.cell? ⟨tb, 4, none⟩ = some (.int .u16 4) := HT2.out.at' 4 _ rfl
      have t1 : wr.cell? ⟨tb, 5, none⟩ = some (.func (.func 25) #[] #[]) := HT2.out.at' 5 _ rfl
      have CB := hide (fun W => begins_any s 4 (by decide) W)
      rw [isK_digit] at CB
      cases hb : begP digitB s.data.toList
      · have HE : Hid (R = rdK 3 s.data.toList) := by show _ = _; rw [HI.out]; show rd2 _ = _; unfold rd2; rw [hb]; rfl
        rw [hb] at CB
        clear HI
        go_wp2_with (go_at_call 32; refine (CB.out _).mono ?_; rintro e w0 ⟨rfl, h9⟩; replace h9 := h9.symm; subst h9)
        go_roundw
        case rel => exact ⟨3, rfl, by decide, HE, bel.alloc bsz _⟩
        case measure => simp [intOf]
      · have HE : Hid (R = numR s.data.toList) := by show _ = _; rw [HI.out]; show rd2 _ = _; unfold rd2; rw [hb]; rfl
        have CF := hide (fun W => number_any s hs W)
        rw [hb] at CB
        clear HI
        go_wp2_with (first | (go_at_call 32; refine (CB.out _).mono ?_; rintro e w0 ⟨rfl, h9⟩; replace h9 := h9.symm; subst h9) | (go_at_call 25; refine (CF.out _).mono ?_; rintro e w2 ⟨hv, g1⟩; replace hv := gives_p (B := wr.heap.size + 1) (w' := w2) hv (num_nil _); obtain ⟨k', tx, ao, l', c', n', m', he, hfin⟩ := givesP_form hv; subst he; have B2 := (bel.alloc bsz _).trans (g1.mono (by simp; omega)); obtain ⟨⟨c0, c1, c2, c3, c4⟩, ⟨f0, f1, f2, f3, f4⟩, d1, d2⟩ := C5.out _ B2))
        refine tok_end rfl (some5 ⟨c0, c1, c2, c3, c4⟩) ⟨f0, f1, f2, f3, f4⟩ rfl d1 fun g => ?_
        rw [HE.out]
        exact ⟨hfin _ _ (fun q hq => ownS_mono (ownS_set5 hq (by first | omega | (simp; omega)) _ _ _ _ _) (by first | omega | (simp; omega))), g⟩
    · have t0 : wr.cell? ⟨tb, 6, none⟩ = some (.int .u16 32) := HT2.out.at' 6 _ rfl
      have t1 : wr.cell? ⟨tb, 7, none⟩ = some (.func (.func 26) #[] #[]) := HT2.out.at' 7 _ rfl
      have CB := hide (fun W => begins_any s 32 (by decide) W)
      rw [isK_sign] at CB
      cases hb : begP signB s.data.toList
      · have HE : Hid (R = rdK 4 s.data.toList) := by show _ = _; rw [HI.out]; show rd3 _ = _; unfold rd3; rw [hb]; rfl
        rw [hb] at CB
        clear HI
        go_wp2_with (go_at_call 32; refine (CB.out _).mono ?_; rintro e w0 ⟨rfl, h9⟩; replace h9 := h9.symm; subst h9)
        go_roundw
        case rel => exact ⟨4, rfl, by decide, HE, bel.alloc bsz _⟩
        case measure => simp [intOf]
      · have HE : Hid (R = sigR s.data.toList) := by show _ = _; rw [HI.out]; show rd3 _ = _; unfold rd3; rw [hb]; rfl
        have CF := hide (fun (W : World) (RR : Rdy W) => signs_any s W RR h0 hs)
        rw [hb] at CB
        clear HI
        go_wp2_with (first | (go_at_call 32; refine (CB.out _).mono ?_; rintro e w0 ⟨rfl, h9⟩; replace h9 := h9.symm; subst h9) | (go_at_call 26; refine (CF.out _ (RD2.out.below ((Below.refl _ _).alloc (Nat.le_refl _) _))).mono ?_; rintro e w2 ⟨hv, g1⟩; replace hv := gives_p (B := wr.heap.size + 1) (w' := w2) hv (sig_nil _); obtain ⟨k', tx, ao, l', c', n', m', he, hfin⟩ := givesP_form hv; subst he; have B2 := (bel.alloc bsz _).trans (g1.mono (by simp; omega)); obtain ⟨⟨c0, c1, c2, c3, c4⟩, ⟨f0, f1, f2, f3, f4⟩, d1, d2⟩ := C5.out _ B2))
        refine tok_end rfl (some5 ⟨c0, c1, c2, c3, c4⟩) ⟨f0, f1, f2, f3, f4⟩ rfl d1 fun g => ?_
        rw [HE.out]
        exact ⟨hfin _ _ (fun q hq => ownS_mono (ownS_set5 hq (by first | omega | (simp; omega)) _ _ _ _ _) (by first | omega | (simp; omega))), g⟩
    · have t0 : wr.cell? ⟨tb, 8, none⟩ = some (.int .u16 64) := HT2.out.at' 8 _ rfl
      have t1 : wr.cell? ⟨tb, 9, none⟩ = some (.func (.func 27) #[] #[]) := HT2.out.at' 9 _ rfl
      have CB := hide (fun W => begins_any s 64 (by decide) W)
      rw [isK_open] at CB
      cases hb : begP (fun c => decide (c = 40)) s.data.toList
      · have HE : Hid (R = rdK 5 s.data.toList) := by show _ = _; rw [HI.out]; show rd4 _ = _; unfold rd4; rw [hb]; rfl
        rw [hb] at CB
        clear HI
        go_wp2_with (go_at_call 32; refine (CB.out _).mono ?_; rintro e w0 ⟨rfl, h9⟩; replace h9 := h9.symm; subst h9)
        go_roundw
        case rel => exact ⟨5, rfl, by decide, HE, bel.alloc bsz _⟩
        case measure => simp [intOf]
      · have HE : Hid (R = parR s.data.toList) := by show _ = _; rw [HI.out]; show rd4 _ = _; unfold rd4; rw [hb]; rfl
        have CF := hide (fun W => parenthesis_any s h0 hs W)
        rw [hb] at CB
        clear HI
        go_wp2_with (first | (go_at_call 32; refine (CB.out _).mono ?_; rintro e w0 ⟨rfl, h9⟩; replace h9 := h9.symm; subst h9) | (go_at_call 27; refine (CF.out _).mono ?_; rintro e w2 ⟨hv, g1⟩; replace hv := gives_p (B := wr.heap.size + 1) (w' := w2) hv (par_nil _); obtain ⟨k', tx, ao, l', c', n', m', he, hfin⟩ := givesP_form hv; subst he; have B2 := (bel.alloc bsz _).trans (g1.mono (by simp; omega)); obtain ⟨⟨c0, c1, c2, c3, c4⟩, ⟨f0, f1, f2, f3, f4⟩, d1, d2⟩ := C5.out _ B2))
        refine tok_end rfl (some5 ⟨c0, c1, c2, c3, c4⟩) ⟨f0, f1, f2, f3, f4⟩ rfl d1 fun g => ?_
        rw [HE.out]
        exact ⟨hfin _ _ (fun q hq => ownS_mono (ownS_set5 hq (by first | omega | (simp; omega)) _ _ _ _ _) (by first | omega | (simp; omega))), g⟩
    · have t0 : wr.cell? ⟨tb, 10, none⟩ = some (.int .u16 128) := HT2.out.at' 10 _ rfl
      have t1 : wr.cell? ⟨tb, 11, none⟩ = some (.func (.func 28) #[] #[]) := HT2.out.at' 11 _ rfl
      have CB := hide (fun W => begins_any s 128 (by decide) W)
      rw [isK_alone] at CB
      cases hb : begP aloneB s.data.toList
      · have HE : Hid (R = rdK 6 s.data.toList) := by show _ = _; rw [HI.out]; show rd5 _ = _; unfold rd5; rw [hb]; rfl
        rw [hb] at CB
        clear HI
        go_wp2_with (go_at_call 32; refine (CB.out _).mono ?_; rintro e w0 ⟨rfl, h9⟩; replace h9 := h9.symm; subst h9)
        go_roundw
        case rel => exact ⟨6, rfl, by decide, HE, bel.alloc bsz _⟩
        case measure => simp [intOf]
      · have HE : Hid (R = cutR 1 s.data.toList 1) := by show _ = _; rw [HI.out]; show rd5 _ = _; unfold rd5; rw [hb]; rfl
        have CF := hide (fun W => single_any s h0 hs W)
        rw [hb] at CB
        clear HI
        go_wp2_with (first | (go_at_call 32; refine (CB.out _).mono ?_; rintro e w0 ⟨rfl, h9⟩; replace h9 := h9.symm; subst h9) | (go_at_call 28; refine (CF.out _).mono ?_; rintro e w2 ⟨hv, g1⟩; replace hv := gives_p (B := wr.heap.size + 1) (w' := w2) hv (fun _ _ _ _ h => by cases h; rfl); obtain ⟨k', tx, ao, l', c', n', m', he, hfin⟩ := givesP_form hv; subst he; have B2 := (bel.alloc bsz _).trans (g1.mono (by simp; omega)); obtain ⟨⟨c0, c1, c2, c3, c4⟩, ⟨f0, f1, f2, f3, f4⟩, d1, d2⟩ := C5.out _ B2))
        refine tok_end rfl (some5 ⟨c0, c1, c2, c3, c4⟩) ⟨f0, f1, f2, f3, f4⟩ rfl d1 fun g => ?_
        rw [HE.out]
        exact ⟨hfin _ _ (fun q hq => ownS_mono (ownS_set5 hq (by first | omega | (simp; omega)) _ _ _ _ _) (by first | omega | (simp; omega))), g⟩
    · have t0 : wr.cell? ⟨tb, 12, none⟩ = some (.int .u16 256) := HT2.out.at' 12 _ rfl
      have t1 : wr.cell? ⟨tb, 13, none⟩ = some (.func (.func 29) #[] #[]) := HT2.out.at' 13 _ rfl
      have CB := hide (fun W => begins_any s 256 (by decide) W)
      rw [isK_point] at CB
      cases hb : begP (fun c => decide (c = 46)) s.data.toList
      · have HE : Hid (R = rdK 7 s.data.toList) := by show _ = _; rw [HI.out]; show rd6 _ = _; unfold rd6; rw [hb]; rfl
        rw [hb] at CB
        clear HI
        go_wp2_with (go_at_call 32; refine (CB.out _).mono ?_; rintro e w0 ⟨rfl, h9⟩; replace h9 := h9.symm; subst h9)
        go_roundw
        case rel => exact ⟨7, rfl, by decide, HE, bel.alloc bsz _⟩
        case measure => simp [intOf]
      · have HE : Hid (R = poiR s.data.toList) := by show _ = _; rw [HI.out]; show rd6 _ = _; unfold rd6; rw [hb]; rfl
        have CF := hide (fun W => points_any s hs W)
        rw [hb] at CB
        clear HI
        go_wp2_with (first | (go_at_call 32; refine (CB.out _).mono ?_; rintro e w0 ⟨rfl, h9⟩; replace h9 := h9.symm; subst h9) | (go_at_call 29; refine (CF.out _).mono ?_; rintro e w2 ⟨hv, g1⟩; replace hv := gives_p (B := wr.heap.size + 1) (w' := w2) hv (poi_nil _); obtain ⟨k', tx, ao, l', c', n', m', he, hfin⟩ := givesP_form hv; subst he; have B2 := (bel.alloc bsz _).trans (g1.mono (by simp; omega)); obtain ⟨⟨c0, c1, c2, c3, c4⟩, ⟨f0, f1, f2, f3, f4⟩, d1, d2⟩ := C5.out _ B2))
        refine tok_end rfl (some5 ⟨c0, c1, c2, c3, c4⟩) ⟨f0, f1, f2, f3, f4⟩ rfl d1 fun g => ?_
        rw [HE.out]
        exact ⟨hfin _ _ (fun q hq => ownS_mono (ownS_set5 hq (by first | omega | (simp; omega)) _ _ _ _ _) (by first | omega | (simp; omega))), g⟩
    · have t0 : wr.cell? ⟨tb, 14, none⟩ = some (.int .u16 512) := HT2.out.at' 14 _ rfl
      have t1 : wr.cell? ⟨tb, 15, none⟩ = some (.func (.func 30) #[] #[]) := HT2.out.at' 15 _ rfl
      have CB := hide (fun W => begins_any s 512 (by decide) W)
      rw [isK_prime] at CB
      cases hb : begP (fun c => decide (c = 39)) s.data.toList
      · have HE : Hid (R = rdK 8 s.data.toList) := by show _ = _; rw [HI.out]; show rd7 _ = _; unfold rd7; rw [hb]; rfl
        rw [hb] at CB
        clear HI
        go_wp2_with (go_at_call 32; refine (CB.out _).mono ?_; rintro e w0 ⟨rfl, h9⟩; replace h9 := h9.symm; subst h9)
        go_roundw
        case rel => exact ⟨8, rfl, by decide, HE, bel.alloc bsz _⟩
        case measure => simp [intOf]
      · have HE : Hid (R = cutR 3 s.data.toList (runP wordB s.data.toList)) := by show _ = _; rw [HI.out]; show rd7 _ = _; unfold rd7; rw [hb]; rfl
        have CF := hide (fun W => variable_any s hs W)
        rw [hb] at CB
        clear HI
        go_wp2_with (first | (go_at_call 32; refine (CB.out _).mono ?_; rintro e w0 ⟨rfl, h9⟩; replace h9 := h9.symm; subst h9) | (go_at_call 30; refine (CF.out _).mono ?_; rintro e w2 ⟨hv, g1⟩; replace hv := gives_p (B := wr.heap.size + 1) (w' := w2) hv (fun _ _ _ _ h => by cases h; rfl); obtain ⟨k', tx, ao, l', c', n', m', he, hfin⟩ := givesP_form hv; subst he; have B2 := (bel.alloc bsz _).trans (g1.mono (by simp; omega)); obtain ⟨⟨c0, c1, c2, c3, c4⟩, ⟨f0, f1, f2, f3, f4⟩, d1, d2⟩ := C5.out _ B2))
        refine tok_end rfl (some5 ⟨c0, c1, c2, c3, c4⟩) ⟨f0, f1, f2, f3, f4⟩ rfl d1 fun g => ?_
        rw [HE.out]
        exact ⟨hfin _ _ (fun q hq => ownS_mono (ownS_set5 hq (by first | omega | (simp; omega)) _ _ _ _ _) (by first | omega | (simp; omega))), g⟩
    · have t0 : wr.cell? ⟨tb, 16, none⟩ = some (.int .u16 1024) := HT2.out.at' 16 _ rfl
      have t1 : wr.cell? ⟨tb, 17, none⟩ = some (.func (.func 31) #[] #[]) := HT2.out.at' 17 _ rfl
      have CB := hide (fun W => begins_any s 1024 (by decide) W)
      rw [isK_quote] at CB
      cases hb : begP (fun c => decide (c = 34)) s.data.toList
      · have HE : Hid (R = rdK 9 s.data.toList) := by show _ = _; rw [HI.out]; show rd8 _ = _; unfold rd8; rw [hb]; rfl
        rw [hb] at CB
        clear HI
        go_wp2_with (go_at_call 32; refine (CB.out _).mono ?_; rintro e w0 ⟨rfl, h9⟩; replace h9 := h9.symm; subst h9)
        go_roundw
        case rel => exact ⟨9, rfl, by decide, HE, bel.alloc bsz _⟩
        case measure => simp [intOf]
      · have HE : Hid (R = strR s.data.toList) := by show _ = _; rw [HI.out]; show rd8 _ = _; unfold rd8; rw [hb]; rfl
        have CF := hide (fun (W : World) (RR : Rdy W) => constant_any s W RR h0 hs)
        rw [hb] at CB
        clear HI
        go_wp2_with (first | (go_at_call 32; refine (CB.out _).mono ?_; rintro e w0 ⟨rfl, h9⟩; replace h9 := h9.symm; subst h9) | (go_at_call 31; refine (CF.out _ (RD2.out.below ((Below.refl _ _).alloc (Nat.le_refl _) _))).mono ?_; rintro e w2 ⟨hv, g1⟩; replace hv := gives_p (B := wr.heap.size + 1) (w' := w2) hv (str_nil _); obtain ⟨k', tx, ao, l', c', n', m', he, hfin⟩ := givesP_form hv; subst he; have B2 := (bel.alloc bsz _).trans (g1.mono (by simp; omega)); obtain ⟨⟨c0, c1, c2, c3, c4⟩, ⟨f0, f1, f2, f3, f4⟩, d1, d2⟩ := C5.out _ B2))
        refine tok_end rfl (some5 ⟨c0, c1, c2, c3, c4⟩) ⟨f0, f1, f2, f3, f4⟩ rfl d1 fun g => ?_
        rw [HE.out]
        exact ⟨hfin _ _ (fun q hq => ownS_mono (ownS_set5 hq (by first | omega | (simp; omega)) _ _ _ _ _) (by first | omega | (simp; omega))), g⟩
    · have HE : Hid (R = .bad 40) := HI.out
      clear HI
      go_wp2
      refine tok_end rfl (some5 ⟨c0, c1, c2, c3, c4⟩) ⟨f0, f1, f2, f3, f4⟩ rfl d1 fun g => ?_
      rw [HE.out]
      exact ⟨rfl, g⟩
end Go.Proofs.YtmeooghcdgpofaaDoor
