/- Books of types: Text of an arrow between ints. -/
import Derived.Test.YtlijfkmcaccflaaGreatDoorProg
import Derived.Test.YtlijfkmcaccflaaGreatDoorTy21
import Derived.WalkKit
import Derived.ProofKit
import Derived.OpenShut
import Derived.Below
import Derived.WalkLawsBesides
import Derived.OwnWalk
import Derived.Laws.OwnMore
import Derived.Laws.Rows
import Derived.BigQuiet
import Derived.Deep.QuietTactic
import Derived.Deep.MidRow
import Derived.Deep.RegionHeld
import Derived.Deep.RegionHeld3
import Derived.WalkSmall
import Derived.Deep.DeepCutAuto
namespace Go.Proofs.YtlijfkmcaccflaaGreatDoor
open Go.ChangeShapes Go.WideShapes Go.ChangeAt Go.RowKit

theorem heap_at1 (w : World) (o : Obj) : (w.alloc o).heap[w.heap.size]? = some o := (MapKept.heap_alloc w o).1
theorem heap_at2 (w : World) (o o' : Obj) : ((w.alloc o).alloc o').heap[w.heap.size]? = some o := by
  rw [Below.heap_alloc _ _ _ (by simp)]
  exact heap_at1 w o
theorem heap_at3 (w : World) (o o' : Obj) : ((w.alloc o').alloc o).heap[w.heap.size + 1]? = some o := by
  have := heap_at1 (w.alloc o') o
  rw [World.size_alloc] at this
  exact this
theorem wr_alloc (w : World) (b : Nat) (nv mv : Value) : Wr w.heap.size b (w.heap.size + 1) (w.alloc (.cells #[.pointer (some ⟨b, 0, none⟩), nv, mv, .pointer none, .slice none 0 0, .bool false] 96)) (.pointer none) (.slice none 0 0) [] :=
  ⟨⟨nv, mv, heap_at1 w _⟩, .inl rfl, World.ownsRow_nil _ _ _ _, by simp, by omega, by simp⟩
theorem wr_sets (w : World) (A b : Nat) (nv mv : Value) (h : w.heap[A]? = some (.cells #[.pointer none, .slice none 0 0, .map none, .pointer none, .slice none 0 0, .bool false] 96 (0, 0))) : Wr A b (A + 1) ((((((w.setCell ⟨A, 0, none⟩ (.pointer (some ⟨b, 0, none⟩))).setCell ⟨A, 1, none⟩ nv).setCell ⟨A, 2, none⟩ mv).setCell ⟨A, 3, none⟩ (.pointer none)).setCell ⟨A, 4, none⟩ (.slice none 0 0)).setCell ⟨A, 5, none⟩ (.bool false)) (.pointer none) (.slice none 0 0) [] := by
  have hA : A < w.heap.size := by
    rcases Nat.lt_or_ge A w.heap.size with h' | h'
    · exact h'
    · simp [Array.getElem?_eq_none h'] at h
  refine ⟨⟨nv, mv, ?_⟩, .inl rfl, World.ownsRow_nil _ _ _ _, by simp, by omega, by simp; omega⟩
  exact heap_setCell_same _ A 5 _ _ _ (heap_setCell_same _ A 4 _ _ _ (heap_setCell_same _ A 3 _ _ _ (heap_setCell_same _ A 2 _ _ _ (heap_setCell_same _ A 1 _ _ _ (heap_setCell_same w A 0 _ _ _ h)))))
theorem below_set6 {w w1 : World} {B A : Nat} (h : Below B w w1) (hA : B ≤ A) (v0 v1 v2 v3 v4 v5 : Value) : Below B w ((((((w1.setCell ⟨A, 0, none⟩ v0).setCell ⟨A, 1, none⟩ v1).setCell ⟨A, 2, none⟩ v2).setCell ⟨A, 3, none⟩ v3).setCell ⟨A, 4, none⟩ v4).setCell ⟨A, 5, none⟩ v5) :=
  (((((h.setCell (p := ⟨A, 0, none⟩) hA _).setCell (p := ⟨A, 1, none⟩) hA _).setCell (p := ⟨A, 2, none⟩) hA _).setCell (p := ⟨A, 3, none⟩) hA _).setCell (p := ⟨A, 4, none⟩) hA _).setCell (p := ⟨A, 5, none⟩) hA _

set_option maxRecDepth 100000 in
set_option maxHeartbeats 16000000 in
theorem text_arrow (b hi : Nat) (cv : Value) (cs : List Tc) (x a0 a1 : Nat) (d : Nat) (av : Value) (w : World) (hb : Bk b hi w cv cs) (hx : Good cs x) (hk : cs.getD (nw cs x) Tc.zero = tArrow av (a0 : Int) (a1 : Int)) (h0 : Good cs a0) (h1 : Good cs a1) (hk0 : cs.getD (nw cs a0) Tc.zero = tInt) (hk1 : cs.getD (nw cs a1) Tc.zero = tInt) (hok : Ok cs d (x : Int)) (hsz : siz cs d (x : Int) ≤ 2048) (hov : OkV cs (fun p => kindA cs p ≠ 1) d (x : Int)) :
    Calls Tryz.prog 15 #[.pointer (some ⟨b, 0, none⟩), .int .i64 (x : Int)] w fun e w' => e = .returned (.tuple #[.string ⟨#[105, 110, 116, 32, 45, 62, 32, 105, 110, 116]⟩, .int .i64 0]) ∧ Below w.heap.size w w' := by
  have CM := hide' (made_yes b w hb.c0)
  have hil := hb.hil
  obtain ⟨w1, hw1⟩ : ∃ w1, w.alloc (.cells #[.int .i64 (x : Int)] 3) = w1 := ⟨_, rfl⟩
  have B1 : Below w.heap.size w w1 := by rw [← hw1]; exact (Below.refl _ _).alloc (Nat.le_refl _) _
  have R1 := rd_new1 w (x : Int) 3
  rw [hw1] at R1
  have CH := hide' (has_yes b hi cv cs _ [(x : Int)] w1 (hb.below (B1.mono hil)) R1 (fun a ha => by rw [List.mem_singleton.1 ha]; exact ⟨by omega, by have := hx.1; omega⟩))
  obtain ⟨w2, hw2⟩ : ∃ w2, w1.alloc (.cells #[.int .i64 (x : Int)] 3) = w2 := ⟨_, rfl⟩
  have B2 : Below w.heap.size w w2 := by rw [← hw2]; exact B1.alloc B1.size _
  have S2 : w1.heap.size < w2.heap.size := by rw [← hw2]; simp
  have R2 := rd_new1 w1 (x : Int) 3
  rw [hw2] at R2
  have CL := hide' (large_no b hi cv cs d _ [(x : Int)] w2 (hb.below (B2.mono hil)) R2 (fun g hg => own1_lt S2 hg) (fun a ha => by rw [List.mem_singleton.1 ha]; exact hok) (fun a ha => by rw [List.mem_singleton.1 ha]; exact hsz))
  have HB := hide' hb
  have CF : Hid' (∀ W, Below w.heap.size w W → Calls Tryz.prog 34 #[.pointer (some ⟨b, 0, none⟩), .int .i64 (x : Int)] W fun e w' => e = .returned (.slice none 0 0) ∧ Below w.heap.size w w') := ⟨fun W hW => (free_none b hi cv cs d (x : Int) W (hb.below (hW.mono hil)) hov).mono fun e w' ⟨h1, h2⟩ => ⟨h1, hW.trans (h2.mono hW.size)⟩⟩
  have CN := hide' (fun W => names_none b W)
  have CW := hide' (fun W' F ad W (hW : Below w.heap.size w W) (hwr : Wr W' b F W ad (.slice none 0 0) []) (hh : hi ≤ W') => write_arrow W' b hi F cv cs ad x a0 a1 av W (hb.below (hW.mono hil)) hwr hh hx hk h0 h1 hk0 hk1)
  have HB2 := hide' B2
  have hmm : ∀ w : World, (Instr.makeMap 76 (some (.int .i64 0))).run Tryz.prog w = .ok (.map (some w.heap.size)) (w.alloc (.map #[] 0)) := fun _ => by kernel_rfl
  clear hb hx hk h0 h1 hk0 hk1 hok hsz hov B1 R1 R2 B2 S2
  go_enter Tryz.func15, Tryz.ntmps15
  go_upto_region 8 with (first | (go_at_call 24; refine CM.out.mono ?_; clear CM; rintro e w3 ⟨rfl, h9⟩; replace h9 := h9.symm; subst h9) | (go_at_call 29; refine CH.out.mono ?_; clear CH; rintro e w4 ⟨rfl, h9⟩; replace h9 := h9.symm; subst h9) | (go_at_call 33; refine CL.out.mono ?_; clear CL; rintro e w5 ⟨rfl, b5⟩; (have B5 := HB2.out.trans (b5.mono HB2.out.size))) | (go_at_call 34; refine (CF.out _ B5).mono ?_; clear CF; rintro e w6 ⟨rfl, b6⟩))
  go_cut [7] (fun v wx => ∃ W', v = .pointer (some ⟨W', 0, none⟩) ∧ Hid' (w.heap.size ≤ W' ∧ Wr W' b (W' + 1) wx (.pointer none) (.slice none 0 0) [] ∧ Below w.heap.size w wx))
  case first =>
    go_region_with (go_at_call 43; refine (CN.out _).mono ?_; rintro e w7 ⟨⟨gn, rfl⟩, b7⟩; (have s7 := b7.size); (try simp at s7); (have s7b : w6.heap.size ≤ w7.heap.size := by omega); (have n7 : ¬ w6.heap.size = w7.heap.size ∨ True := .inr trivial); clear n7; (have BW7 : Below w6.heap.size w6 w7 := by first | exact (Below.refl _ _).drew.trans b7 | exact (((Below.refl _ _).drew).alloc (Nat.le_refl _) _).trans (b7.mono (by simp)) | exact ((((Below.refl _ _).drew).alloc (Nat.le_refl _) _).alloc (by simp) _).trans (b7.mono (by simp; omega))); (try (refine (fun ac0 : w7.cell? ⟨w6.heap.size, 0, none⟩ = some (.pointer none) => ?_) ?_; rotate_left; solve | (refine Eq.trans (b7.cell (p := ⟨w6.heap.size, 0, none⟩) ?_) ?_ <;> first | (simp; done) | (simp; omega) | omega))); (try (refine (fun af0 : w7.frozen? ⟨w6.heap.size, 0, none⟩ = false => ?_) ?_; rotate_left; solve | (refine Eq.trans (b7.frozen (p := ⟨w6.heap.size, 0, none⟩) ?_) ?_ <;> first | (simp; done) | (simp; omega) | omega))); (try (refine (fun ac1 : w7.cell? ⟨w6.heap.size, 1, none⟩ = some (.slice none 0 0) => ?_) ?_; rotate_left; solve | (refine Eq.trans (b7.cell (p := ⟨w6.heap.size, 1, none⟩) ?_) ?_ <;> first | (simp; done) | (simp; omega) | omega))); (try (refine (fun af1 : w7.frozen? ⟨w6.heap.size, 1, none⟩ = false => ?_) ?_; rotate_left; solve | (refine Eq.trans (b7.frozen (p := ⟨w6.heap.size, 1, none⟩) ?_) ?_ <;> first | (simp; done) | (simp; omega) | omega))); (try (refine (fun ac2 : w7.cell? ⟨w6.heap.size, 2, none⟩ = some (.map none) => ?_) ?_; rotate_left; solve | (refine Eq.trans (b7.cell (p := ⟨w6.heap.size, 2, none⟩) ?_) ?_ <;> first | (simp; done) | (simp; omega) | omega))); (try (refine (fun af2 : w7.frozen? ⟨w6.heap.size, 2, none⟩ = false => ?_) ?_; rotate_left; solve | (refine Eq.trans (b7.frozen (p := ⟨w6.heap.size, 2, none⟩) ?_) ?_ <;> first | (simp; done) | (simp; omega) | omega))); (try (refine (fun ac3 : w7.cell? ⟨w6.heap.size, 3, none⟩ = some (.pointer none) => ?_) ?_; rotate_left; solve | (refine Eq.trans (b7.cell (p := ⟨w6.heap.size, 3, none⟩) ?_) ?_ <;> first | (simp; done) | (simp; omega) | omega))); (try (refine (fun af3 : w7.frozen? ⟨w6.heap.size, 3, none⟩ = false => ?_) ?_; rotate_left; solve | (refine Eq.trans (b7.frozen (p := ⟨w6.heap.size, 3, none⟩) ?_) ?_ <;> first | (simp; done) | (simp; omega) | omega))); (try (refine (fun ac4 : w7.cell? ⟨w6.heap.size, 4, none⟩ = some (.slice none 0 0) => ?_) ?_; rotate_left; solve | (refine Eq.trans (b7.cell (p := ⟨w6.heap.size, 4, none⟩) ?_) ?_ <;> first | (simp; done) | (simp; omega) | omega))); (try (refine (fun af4 : w7.frozen? ⟨w6.heap.size, 4, none⟩ = false => ?_) ?_; rotate_left; solve | (refine Eq.trans (b7.frozen (p := ⟨w6.heap.size, 4, none⟩) ?_) ?_ <;> first | (simp; done) | (simp; omega) | omega))); (try (refine (fun ac5 : w7.cell? ⟨w6.heap.size, 5, none⟩ = some (.bool false) => ?_) ?_; rotate_left; solve | (refine Eq.trans (b7.cell (p := ⟨w6.heap.size, 5, none⟩) ?_) ?_ <;> first | (simp; done) | (simp; omega) | omega))); (try (refine (fun af5 : w7.frozen? ⟨w6.heap.size, 5, none⟩ = false => ?_) ?_; rotate_left; solve | (refine Eq.trans (b7.frozen (p := ⟨w6.heap.size, 5, none⟩) ?_) ?_ <;> first | (simp; done) | (simp; omega) | omega))); (try (refine (fun ec0 : w7.cell? ⟨w6.heap.size + 1, 0, none⟩ = some (.pointer none) => ?_) ?_; rotate_left; solve | (refine Eq.trans (b7.cell (p := ⟨w6.heap.size + 1, 0, none⟩) ?_) ?_ <;> first | (simp; done) | (simp; omega) | omega))); (try (refine (fun ef0 : w7.frozen? ⟨w6.heap.size + 1, 0, none⟩ = false => ?_) ?_; rotate_left; solve | (refine Eq.trans (b7.frozen (p := ⟨w6.heap.size + 1, 0, none⟩) ?_) ?_ <;> first | (simp; done) | (simp; omega) | omega))); (try (refine (fun ec1 : w7.cell? ⟨w6.heap.size + 1, 1, none⟩ = some (.slice none 0 0) => ?_) ?_; rotate_left; solve | (refine Eq.trans (b7.cell (p := ⟨w6.heap.size + 1, 1, none⟩) ?_) ?_ <;> first | (simp; done) | (simp; omega) | omega))); (try (refine (fun ef1 : w7.frozen? ⟨w6.heap.size + 1, 1, none⟩ = false => ?_) ?_; rotate_left; solve | (refine Eq.trans (b7.frozen (p := ⟨w6.heap.size + 1, 1, none⟩) ?_) ?_ <;> first | (simp; done) | (simp; omega) | omega))); (try (refine (fun ec2 : w7.cell? ⟨w6.heap.size + 1, 2, none⟩ = some (.map none) => ?_) ?_; rotate_left; solve | (refine Eq.trans (b7.cell (p := ⟨w6.heap.size + 1, 2, none⟩) ?_) ?_ <;> first | (simp; done) | (simp; omega) | omega))); (try (refine (fun ef2 : w7.frozen? ⟨w6.heap.size + 1, 2, none⟩ = false => ?_) ?_; rotate_left; solve | (refine Eq.trans (b7.frozen (p := ⟨w6.heap.size + 1, 2, none⟩) ?_) ?_ <;> first | (simp; done) | (simp; omega) | omega))); (try (refine (fun ec3 : w7.cell? ⟨w6.heap.size + 1, 3, none⟩ = some (.pointer none) => ?_) ?_; rotate_left; solve | (refine Eq.trans (b7.cell (p := ⟨w6.heap.size + 1, 3, none⟩) ?_) ?_ <;> first | (simp; done) | (simp; omega) | omega))); (try (refine (fun ef3 : w7.frozen? ⟨w6.heap.size + 1, 3, none⟩ = false => ?_) ?_; rotate_left; solve | (refine Eq.trans (b7.frozen (p := ⟨w6.heap.size + 1, 3, none⟩) ?_) ?_ <;> first | (simp; done) | (simp; omega) | omega))); (try (refine (fun ec4 : w7.cell? ⟨w6.heap.size + 1, 4, none⟩ = some (.slice none 0 0) => ?_) ?_; rotate_left; solve | (refine Eq.trans (b7.cell (p := ⟨w6.heap.size + 1, 4, none⟩) ?_) ?_ <;> first | (simp; done) | (simp; omega) | omega))); (try (refine (fun ef4 : w7.frozen? ⟨w6.heap.size + 1, 4, none⟩ = false => ?_) ?_; rotate_left; solve | (refine Eq.trans (b7.frozen (p := ⟨w6.heap.size + 1, 4, none⟩) ?_) ?_ <;> first | (simp; done) | (simp; omega) | omega))); (try (refine (fun ec5 : w7.cell? ⟨w6.heap.size + 1, 5, none⟩ = some (.bool false) => ?_) ?_; rotate_left; solve | (refine Eq.trans (b7.cell (p := ⟨w6.heap.size + 1, 5, none⟩) ?_) ?_ <;> first | (simp; done) | (simp; omega) | omega))); (try (refine (fun ef5 : w7.frozen? ⟨w6.heap.size + 1, 5, none⟩ = false => ?_) ?_; rotate_left; solve | (refine Eq.trans (b7.frozen (p := ⟨w6.heap.size + 1, 5, none⟩) ?_) ?_ <;> first | (simp; done) | (simp; omega) | omega))); (try (refine (fun ab : w7.heap[w6.heap.size]? = some (.cells #[.pointer none, .slice none 0 0, .map none, .pointer none, .slice none 0 0, .bool false] 96 (0, 0)) => ?_) ?_; rotate_left; solve | (refine Eq.trans (b7.block _ ?_) ?_ <;> first | (simp; done) | (simp; omega) | omega | exact heap_at1 _ _ | exact heap_at2 _ _ _))); (try (refine (fun eb : w7.heap[w6.heap.size + 1]? = some (.cells #[.pointer none, .slice none 0 0, .map none, .pointer none, .slice none 0 0, .bool false] 96 (0, 0)) => ?_) ?_; rotate_left; solve | (refine Eq.trans (b7.block _ ?_) ?_ <;> first | (simp; done) | (simp; omega) | omega | exact heap_at3 _ _ _))); (try have m1 : ¬ w6.heap.size = w7.heap.size := by omega); (try have m2 : ¬ w7.heap.size = w6.heap.size := by omega); (try have m3 : ¬ w6.heap.size + 1 = w7.heap.size := by omega); (try have m4 : ¬ w7.heap.size = w6.heap.size + 1 := by omega); (try have m5 : w6.heap.size < w7.heap.size := by omega); (try have m6 : w6.heap.size + 1 < w7.heap.size := by omega))
    · go_wp2_with fail
      go_meet
      have B7 := b6.trans (BW7.mono b6.size)
      exact ⟨_, rfl, ⟨by have := B7.size; omega, by have h := wr_alloc (w7.alloc (.map #[] 0)) b (.slice (some ⟨gn, 0, none⟩) 0 0) (.map (some w7.heap.size)); rw [World.size_alloc] at h; exact h, (B7.alloc B7.size _).alloc (by have := B7.size; simp; omega) _⟩⟩
    · go_wp2_with fail
      go_meet
      have B7 := b6.trans (BW7.mono b6.size)
      exact ⟨_, rfl, ⟨B7.size, (wr_alloc w7 b _ _).below ((Below.refl _ _).alloc (Nat.le_refl _) _), (B7.alloc B7.size _).alloc (by have := B7.size; simp; omega) _⟩⟩
    · go_wp2_with fail
      go_meet
      have B7 := b6.trans (BW7.mono b6.size)
      exact ⟨_, rfl, ⟨B7.size, wr_alloc w7 b _ _, B7.alloc B7.size _⟩⟩
    · go_wp2_with fail
      go_meet
      have B7 := b6.trans (BW7.mono b6.size)
      exact ⟨_, rfl, ⟨by have := b6.size; omega, wr_sets w7 _ b _ _ eb, below_set6 B7 (by have := b6.size; omega) _ _ _ _ _ _⟩⟩
    · go_wp2_with fail
      go_meet
      have B7 := b6.trans (BW7.mono b6.size)
      exact ⟨_, rfl, ⟨b6.size, (wr_sets w7 _ b _ _ ab).below ((Below.refl _ _).alloc (Nat.le_refl _) _), (below_set6 B7 b6.size _ _ _ _ _ _).alloc (by have := B7.size; simp; omega) _⟩⟩
    · go_wp2_with fail
      go_meet
      have B7 := b6.trans (BW7.mono b6.size)
      exact ⟨_, rfl, ⟨b6.size, wr_sets w7 _ b _ _ ab, below_set6 B7 b6.size _ _ _ _ _ _⟩⟩
  case rest =>
    obtain ⟨W', rfl, HI⟩ := hcut
    obtain ⟨hWl, hwr, bc⟩ := HI.out
    have C9 := hide' (CW.out W' (W' + 1) _ wc bc hwr (Nat.le_trans hil hWl))
    have HBC := hide' bc
    clear CW hwr bc HI
    go_wp2
    go_loopw [38] (fun v wr => v = .int .i64 0 ∧ wr = wc) (fun _ _ => 0)
    case atStart => exact ⟨rfl, rfl⟩
    case round =>
      obtain ⟨rfl, hw⟩ := hrel
      obtain rfl : wc = _ := hw.symm
      go_upto_region 15 with (go_at_call 44; refine C9.out.mono ?_; clear C9; rintro e w8 ⟨rfl, ⟨F8, ad8, bv8, wr8⟩, b8⟩)
      have f8 := wr8.cell.2.2.2
      have C10 := hide' (string_any W' b F8 ad8 bv8 _ w8 wr8 (by simp))
      clear wr8
      go_wp2_with (go_at_call 45; refine C10.out.mono ?_; clear C10; rintro e w9 ⟨rfl, b9⟩)
      go_ret2
      exact ⟨rfl, HBC.out.trans ((b8.trans b9).mono hWl)⟩
end Go.Proofs.YtlijfkmcaccflaaGreatDoor
