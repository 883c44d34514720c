/- Unifiers: become. -/
import Derived.Test.YtlijfkmcaccflaaGreatDoorProg
import Derived.Test.YtlijfkmcaccflaaGreatDoorTy9
import Derived.WalkKit
import Derived.ProofKit
import Derived.OpenShut
import Derived.Below
import Derived.WalkLawsBesides
import Derived.OwnWalk
import Derived.BigQuiet
import Derived.Deep.QuietTactic
import Derived.Deep.MidRow
import Derived.Deep.RegionHeld
import Derived.Deep.RegionHeld3
import Derived.Deep.DeepCutAuto
import Derived.WalkSmall
namespace Go.Proofs.YtlijfkmcaccflaaGreatDoor
open Go.ChangeShapes Go.WideShapes Go.ChangeAt Go.RowKit

theorem own1_lt {b g n c B : Nat} (h : b < B) (hg : (Value.slice (some ⟨b, 0, none⟩) n c).ownBlock = some g) : g < B := by
  have e' : b = g := by simpa [Value.ownBlock] using hg
  omega
def tTo (p : Nat) : Tc := ⟨0, 0, 0, (p : Int), .slice none 0 0, []⟩
theorem Un.urel {t b : Nat} {w : World} {tv : Value} {n : Nat} (h : Un t b w tv n) : ∀ g, tv.ownBlock = some g → g < w.heap.size := fun g hg => by
  obtain ⟨xs, hx⟩ := h.row
  exact (hx.lt g hg).2

set_option maxRecDepth 100000 in
set_option maxHeartbeats 16000000 in
theorem become_fail (t b hi : Nat) (cv : Value) (cs : List Tc) (tv : Value) (n v x y : Nat) (r : List Int) (w : World) (hb : Bk b hi w cv cs) (hu : Un t b w tv n) (hg : Good cs x) (hne : nw cs x ≠ v) (hargs : argsA cs (nw cs x) = (y : Int) :: r) (hgy : Good cs y) (hv : nw cs y = v) :
    Calls Tryz.prog 91 #[.pointer (some ⟨t, 0, none⟩), .int .i64 (v : Int), .int .i64 (x : Int)] w fun e w' => e = .panicked [{ v := .iface 129 (.agg #[.int .i64 71]), recovered := false }] ∧ Below w.heap.size w w' := by
  obtain ⟨wm, hwm⟩ : ∃ wm, w.alloc (.cells #[.int .i64 (x : Int)] 3) = wm := ⟨_, rfl⟩
  have B1 : Below w.heap.size w wm := by rw [← hwm]; exact (Below.refl _ _).alloc (Nat.le_refl _) _
  have S1 : w.heap.size < wm.heap.size := by rw [← hwm]; simp
  have k1 : wm.cell? ⟨w.heap.size, 0, none⟩ = some (.int .i64 (x : Int)) := by rw [← hwm]; simp
  have CA := hide' (apart_fail t b hi cv cs tv n v x y r (some ⟨w.heap.size, 0, none⟩) 1 1 wm (hb.below (B1.mono hb.hil)) (hu.below B1) w.heap.size rfl S1 k1 (by omega) (by omega) hg hne hargs hgy hv)
  have HB1 := hide' B1
  clear hb hu hg hne hargs hgy hv k1 B1
  go_enter Tryz.func91, Tryz.ntmps91
  go_wp2_with (go_at_call 103; refine CA.out.mono ?_; clear CA; rintro e w1 ⟨rfl, h9⟩)
  exact ⟨rfl, rfl, HB1.out.trans (h9.mono HB1.out.size)⟩

set_option maxRecDepth 100000 in
set_option maxHeartbeats 16000000 in
theorem become_ok (t b hi : Nat) (cv : Value) (cs : List Tc) (tv : Value) (n v p d : Nat) (w : World) (hb : Bk b hi w cv cs) (hu : Un t b w tv n) (hht : hi ≤ t) (hl : n + 1 ≤ 10) (hv : v < cs.length) (hok1 : OkV cs (fun q => q ≠ v) d (p : Int)) (hok2 : OkV cs (fun q => kindA cs q ≠ 1) d (p : Int)) :
    Calls Tryz.prog 91 #[.pointer (some ⟨t, 0, none⟩), .int .i64 (v : Int), .int .i64 (p : Int)] w fun e w' => e = .returned (.tuple #[]) ∧ Bk b hi w' cv (cs.set v (tTo p)) ∧ (∃ tv', Un t b w' tv' (n + 1) ∧ Urel t cv tv tv' w w') := by
  obtain ⟨wm, hwm⟩ : ∃ wm, w.alloc (.cells #[.int .i64 (p : Int)] 3) = wm := ⟨_, rfl⟩
  have B1 : Below w.heap.size w wm := by rw [← hwm]; exact (Below.refl _ _).alloc (Nat.le_refl _) _
  have S1 : w.heap.size < wm.heap.size := by rw [← hwm]; simp
  have R1 := rd_new1 w (p : Int) 3
  rw [hwm] at R1
  have CA := hide' (apart_ok t b hi cv cs tv n v d _ [(p : Int)] wm (hb.below (B1.mono hb.hil)) (hu.below B1) R1 (fun g hg => own1_lt S1 hg) (fun a ha => by rw [List.mem_singleton.1 ha]; exact hok1))
  have HB1 := hide' B1
  have HB := hide' hb
  have HU := hide' hu
  have HOK2 := hide' hok2
  have hil := hb.hil
  clear hok1 hok2 R1 B1
  go_enter Tryz.func91, Tryz.ntmps91
  go_upto_region 1 with (go_at_call 103; refine CA.out.mono ?_; clear CA; rintro e w1 ⟨rfl, h9⟩)
  have B2 : Below w.heap.size w w1 := HB1.out.trans (h9.mono HB1.out.size)
  have hb1 := HB.out.below (B2.mono hil)
  have hu1 := HU.out.below B2
  obtain ⟨g, cap, hcv, _, _, hat⟩ := hb1.at hv
  have c2 := hb1.c2
  rw [hcv] at c2
  have u0 := hu1.c0
  have hsm := hb1.sm
  obtain ⟨ao3, cap3, hv3, _, _⟩ := (hb1.args _ hv).rd
  obtain ⟨r0, r1, r2, r3, r4, r5, r6, r7, r8, r9, r10, r11⟩ := hat
  rw [hv3] at r3
  have HCV := hide' hcv
  generalize (cs.getD v Tc.zero).args.length = A at *
  generalize (cs.getD v Tc.zero).kind = ok at *
  generalize (cs.getD v Tc.zero).con = on at *
  generalize (cs.getD v Tc.zero).level = ol at *
  generalize (cs.getD v Tc.zero).to = ot at *
  obtain ⟨N, hN⟩ : ∃ N, cs.length = N := ⟨_, rfl⟩
  have HN := hide' hN
  rw [hN] at c2 hv hsm
  obtain ⟨wn, hwn⟩ : ∃ wn, w1.alloc (.cells #[.int .i64 ok, .int .i64 on, .slice none 0 0, .slice ao3 A cap3, .bool false, .int .i64 0, .int .i64 ol, .string ⟨#[]⟩, .bool false, .bool false, .int .i64 ot, .int .i64 0] 71) = wn := ⟨_, rfl⟩
  have B3 : Below w1.heap.size w1 wn := by rw [← hwn]; exact (Below.refl _ _).alloc (Nat.le_refl _) _
  have X5 : wn.cell? ⟨w1.heap.size, 5, none⟩ = some (.int .i64 0) := by rw [← hwn]; simp
  have X8 : wn.cell? ⟨w1.heap.size, 8, none⟩ = some (.bool false) := by rw [← hwn]; simp
  have X4 : wn.cell? ⟨w1.heap.size, 4, none⟩ = some (.bool false) := by rw [← hwn]; simp
  have X6 : wn.cell? ⟨w1.heap.size, 6, none⟩ = some (.int .i64 ol) := by rw [← hwn]; simp
  have HB3 := hide' B3
  have HB2 := hide' B2
  have HWN := hide' hwn
  clear hb hu hb1 hu1 h9 hN hv3 B2 B3 HB1 hcv hwm S1 hwn
  go_upto_region 2 with fail
  try rw [HWN.out]
  clear HWN
  go_upto_region 6 with fail
  clear r0 r1 r2 r3 r4 r5 r6 r7 r8 r9 r10 r11 c2 u0
  go_quiet (fail)
  have B5 : Below w.heap.size w (wn.drewN nq) := (HB2.out.trans (HB3.out.mono HB2.out.size)).trans (below_drew _ _ _)
  have Y4 : (wn.drewN nq).cell? ⟨w1.heap.size, 4, none⟩ = some (.bool false) := X4
  have Y6 : (wn.drewN nq).cell? ⟨w1.heap.size, 6, none⟩ = some (.int .i64 ol) := X6
  clear X4 X5 X6 X8 HB2 HB3
  obtain ⟨W5, hW5⟩ : ∃ W5, wn.drewN nq = W5 := ⟨_, rfl⟩
  rw [hW5] at B5 Y4 Y6 ⊢
  clear hW5
  obtain ⟨W6, hW6⟩ : ∃ W6, W5.alloc (.cells #[.int .i64 (p : Int)] 3) = W6 := ⟨_, rfl⟩
  have B6 : Below W5.heap.size W5 W6 := by rw [← hW6]; exact (Below.refl _ _).alloc (Nat.le_refl _) _
  have S6 : W5.heap.size < W6.heap.size := by rw [← hW6]; simp
  have R6 := rd_new1 W5 (p : Int) 3
  rw [hW6] at R6
  have B7 : Below w.heap.size w W6 := B5.trans (B6.mono B5.size)
  have CL := hide' (lower_ok t b hi cv cs tv n d ol _ [(p : Int)] W6 (HB.out.below (B7.mono hil)) (HU.out.below B7) R6 (fun g hg => own1_lt S6 hg) (fun a ha => by rw [List.mem_singleton.1 ha]; exact HOK2.out))
  have CS := hide' (fun W (hW : Below W6.heap.size W6 W) => set_any t b hi cv cs tv n v (tTo p) W (HB.out.below ((B7.trans (hW.mono B7.size)).mono hil)) (HU.out.below (B7.trans (hW.mono B7.size))) hht (by rw [HN.out]; exact hv) (nums_nil _ _ _ _) hl)
  have HB7 := hide' B7
  unfold Tc.val tTo at CS
  simp only at CS
  clear B5 B6 R6 B7 HOK2 S6
  go_wp2_with (first | (go_at_call 106; refine CL.out.mono ?_; clear CL; rintro e w8 ⟨rfl, h8⟩) | (go_at_call 75; refine (CS.out _ h8).mono ?_; clear CS; rintro e w9 ⟨rfl, hbk, tv', hun, hur⟩))
  go_end0
  exact ⟨rfl, hbk, tv', hun, (Urel.of (HB7.out.trans (h8.mono HB7.out.size))).trans hur⟩
end Go.Proofs.YtlijfkmcaccflaaGreatDoor
