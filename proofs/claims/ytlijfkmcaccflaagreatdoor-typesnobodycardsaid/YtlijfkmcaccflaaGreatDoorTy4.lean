/- Books of types: makers. -/
import Derived.Test.YtlijfkmcaccflaaGreatDoorProg
import Derived.Test.YtlijfkmcaccflaaGreatDoorTy3
import Derived.WalkKit
import Derived.ProofKit
import Derived.OpenShut
import Derived.Below
import Derived.WalkLawsBesides
import Derived.OwnWalk
import Derived.BigQuiet
import Derived.Deep.MidRow
import Derived.Deep.RegionHeld
import Derived.Deep.RegionHeld3
import Derived.Deep.DeepCutAuto
import Derived.WalkSmall
namespace Go.Proofs.YtlijfkmcaccflaaGreatDoor
open Go.ChangeShapes Go.WideShapes Go.ChangeAt Go.RowKit

set_option maxRecDepth 100000 in
set_option maxHeartbeats 16000000 in
theorem build_any (b hi : Nat) (cv : Value) (cs : List Tc) (c : Tc) (d : Nat) (w : World) (h : Bk b hi w cv cs) (hn : Nums b hi cv.ownBlock w c.av c.args) (hl : cs.length + 1 ≤ 100) (hok : ∀ a ∈ c.args, Ok cs d a) (hsz : sizes cs d c.args ≤ 2047) :
    Calls Tryz.prog 27 #[.pointer (some ⟨b, 0, none⟩), c.val] w fun e w' => e = .returned (.tuple #[.int .i64 (cs.length : Int), .int .i64 0]) ∧ (∃ cv', Bk b w'.heap.size w' cv' (cs ++ [c])) ∧ Below b w w' := by
  obtain ⟨co, cc, hcv⟩ := own_some h.row
  obtain ⟨xo, xc, hav⟩ : ∃ ao cap, c.av = .slice ao c.args.length cap := by obtain ⟨ao, cap, hv, _⟩ := hn; exact ⟨ao, cap, hv⟩
  have hold := h.old
  have hil := h.hil
  obtain ⟨wm, hwm⟩ : ∃ wm, w.alloc (.cells #[.int .i64 c.kind, .int .i64 c.con, .slice none 0 0, c.av, .bool false, .int .i64 0, .int .i64 c.level, .string ⟨#[]⟩, .bool false, .bool false, .int .i64 c.to, .int .i64 0] 71) = wm := ⟨_, rfl⟩
  have TN := TcAt.new w c 71
  rw [hwm] at TN
  have B1 : Below hi w wm := by rw [← hwm]; exact (Below.refl _ _).alloc hil _
  have HM := hide' (h.below B1)
  have HNM := hide' (hn.below B1)
  have HB1 := hide' B1
  have c2 := HM.out.c2
  have CL := hide' (left_any b hi cv cs d c.av c.args 2047 wm HM.out HNM.out.rd hok (by omega) hsz)
  have CA := hide' (fun n => add_any b hi cv cs c (wm.drewN n) (HM.out.below (below_drew _ _ n)) (HNM.out.below (below_drew _ _ n)) hl)
  obtain ⟨R, hR⟩ : ∃ R, 2047 - sizes cs d c.args = R := ⟨_, rfl⟩
  rw [hR] at CL
  have hRl : decide ((R : Int) < 0) = false := by simp
  rw [hcv] at c2
  obtain ⟨N, hN⟩ : ∃ N, cs.length = N := ⟨_, rfl⟩
  obtain ⟨A, hA⟩ : ∃ A, c.args.length = A := ⟨_, rfl⟩
  rw [hN] at c2 hl CA ⊢
  obtain ⟨T, hT⟩ : ∃ T, w.heap.size = T := ⟨_, rfl⟩
  rw [hT] at TN
  obtain ⟨t0, t1, t2, t3, t4, t5, t6, t7, t8, t9, t10, t11⟩ := TN
  simp only [Nat.zero_add] at t0 t1 t2 t3 t4 t5 t6 t7 t8 t9 t10 t11
  unfold Tc.val at CA ⊢
  rw [hav, hA] at t3 hwm CA CL ⊢
  have hNm : decide ((N : Int) ≥ 1048576) = false := by simp; omega
  generalize c.kind = ck at *
  generalize c.con = cn at *
  generalize c.level = cl at *
  generalize c.to = ct at *
  have HT := hide' hT
  clear h hn hcv hN hA B1 hav hok hsz hR hT HM HNM
  go_enter Tryz.func27, Tryz.ntmps27
  go_upto_region 1 with fail
  try rw [hwm]
  try rw [HT.out]
  clear hwm
  go_wp2_with (first | (go_at_call 54; refine CL.out.mono ?_; clear CL; rintro e w1 ⟨rfl, n1, rfl⟩) | (go_at_call 55; refine (CA.out _).mono ?_; clear CA; rintro e w2 ⟨rfl, hbk, hbl⟩))
  go_ret2
  exact ⟨rfl, hbk, ((HB1.out.mono (by omega)).trans (below_drew _ _ _)).trans hbl⟩
end Go.Proofs.YtlijfkmcaccflaaGreatDoor
