/- The document's side: the least power of 10 above an amount. -/
import Derived.Test.YtbengmceiaejeaaGreatDoorFtR4
namespace Go.Proofs.YtbengmceiaejeaaGreatDoor
open Go.ChangeShapes Go.WideShapes Go.ChangeAt Go.RowKit

/-- A power of 10 and M times 2^P, both as whole numbers. -/
def upT (e P : Int) : Nat := 1 * 10 ^ e.toNat * 2 ^ (-P).toNat
def upM (M : Nat) (e P : Int) : Nat := M * 10 ^ (-e).toNat * 2 ^ P.toNat

theorem box_below (w : World) (o : Obj) : Below w.heap.size w (w.alloc o).drew := ((Below.refl _ _).alloc (Nat.le_refl _) _).trans (below_drewN _ _ 1)

theorem ag_one (xa : Option Addr) (xl xc M : Nat) (e P : Int) (z : Bool) (w wr : World) (hx : IsAmt w (.slice xa xl xc) M) (hM : M < 2 ^ 100) (hs : -400 ≤ e ∧ e ≤ 400) (hp : -1200 ≤ P ∧ P ≤ 1200) (y : Below w.heap.size w wr) (t : TypeId) :
    Calls Tryz.prog 73 #[.slice (some ⟨wr.heap.size, 0, none⟩) 1 1, .int .i64 e, .agg #[.bool z, .slice xa xl xc, .int .i64 P]] (wr.alloc (.cells #[.int .u16 1] t)) fun x w' => x = .returned (.int .i64 (cmpN (upT e P) (upM M e P))) ∧ Below wr.heap.size wr w' :=
  (against_any _ xa xl xc 1 M e P z _ (amt_one wr t) ((hx.below y).below ((Below.refl _ _).alloc (Nat.le_refl _) _)) (by decide) hM hs hp).mono fun x w' h => ⟨h.1, ((Below.refl _ _).alloc (Nat.le_refl _) _).trans (h.2.mono (by simp))⟩

theorem power_any (xa : Option Addr) (xl xc M : Nat) (P E e0 : Int) (z : Bool) (w : World) (hx : IsAmt w (.slice xa xl xc) M) (hM : M < 2 ^ 100) (hp : -1200 ≤ P ∧ P ≤ 1200)
    (heq : Int.tdiv ((((blen M : Nat) : Int) + P) * 30103) 100000 - 2 = e0) (hb : -390 ≤ e0) (hE : e0 ≤ E) (hE2 : E ≤ 390)
    (H1 : ∀ e, e0 ≤ e → e < E → upT e P ≤ upM M e P) (H2 : upM M E P < upT E P) :
    Calls Tryz.prog 47 #[.agg #[.bool z, .slice xa xl xc, .int .i64 P]] w fun e w' => e = .returned (.int .i64 E) ∧ Below w.heap.size w w' := by
  have hbl : blen M ≤ 100 := blen_le hM
  have hMB : M < BIG := big_of hM (by omega)
  have LB : ∀ w1, IsAmt w1 (.slice xa xl xc) M → Calls Tryz.prog 72 #[.slice xa xl xc] w1 fun e w' => e = .returned (.int .i64 ((blen M : Nat) : Int)) ∧ w' = w1 := fun w1 h => lenB_any _ _ w1 h hMB
  obtain ⟨B, eB⟩ : ∃ B, blen M = B := ⟨_, rfl⟩
  rw [eB] at LB heq hbl
  clear hMB eB
  obtain ⟨L, eL⟩ : ∃ L, (B : Int) + P = L := ⟨_, rfl⟩
  rw [eL] at heq
  have bL : -1200 ≤ L ∧ L ≤ 1300 := by omega
  obtain ⟨L2, eL2⟩ : ∃ L2, L * 30103 = L2 := ⟨_, rfl⟩
  rw [eL2] at heq
  have bL2 : -40000000 ≤ L2 ∧ L2 ≤ 40000000 := by omega
  obtain ⟨L3, eL3⟩ : ∃ L3, Int.tdiv L2 100000 = L3 := ⟨_, rfl⟩
  rw [eL3] at heq
  have bL3 : -400 ≤ L3 ∧ L3 ≤ 400 := by omega
  have w1 : IntKind.i64.wrap L = L := by rw [IntKind.wrap_i64]; omega
  have w2 : IntKind.i64.wrap L2 = L2 := by rw [IntKind.wrap_i64]; omega
  have w3 : IntKind.i64.wrap L3 = L3 := by rw [IntKind.wrap_i64]; omega
  have w4 : IntKind.i64.wrap e0 = e0 := by rw [IntKind.wrap_i64]; omega
  have HX := hide hx
  have HM := hide hM
  have h0 := hide H1
  have h2 := hide H2
  clear H1 H2 hM
  go_enter Tryz.func47, Tryz.ntmps47
  go_wp2
  go_region_with (go_at_call 72; refine (LB _ (HX.out.below (box_below w _))).mono ?_; rintro e w1 ⟨rfl, hw⟩; replace hw := hw.symm; subst hw)
  all_goals go_wp2
  all_goals go_simp
  all_goals go_loopw [3] (fun v wr => ∃ e : Int, e0 ≤ e ∧ e ≤ E ∧ v = .int .i64 e ∧ Below (w.alloc (.cells #[.bool z, .slice xa xl xc, .int .i64 P] 72)).heap.size (w.alloc (.cells #[.bool z, .slice xa xl xc, .int .i64 P] 72)) wr) (fun v _ => (E - intOf v).toNat)
  all_goals first
    | exact ⟨e0, by omega, hE, rfl, below_drewN _ _ 1⟩
    | skip
  all_goals
    obtain ⟨e, h1, h3, rfl, bw⟩ := hrel
    obtain ⟨x0, x1, x2, _, _, _, y1, z1⟩ := cell_kept bw
    have AG := fun t => ag_one xa xl xc M e P z w wr HX.out HM.out (by omega) hp y1 t
    by_cases hlt : e < E
    · have hcm : (decide (cmpN (upT e P) (upM M e P) ≤ 0)) = true := decide_eq_true (by have := h0.out e h1 hlt; unfold cmpN; split <;> (try split) <;> omega)
      obtain ⟨c, ec⟩ : ∃ c, cmpN (upT e P) (upM M e P) = c := ⟨_, rfl⟩
      rw [ec] at AG hcm
      clear ec
      go_wp2_with (go_at_call 73; refine (AG _).mono ?_; rintro x w5 ⟨rfl, b5⟩)
      go_roundw
      case rel => exact ⟨e + 1, by omega, by omega, by go_num, bw.trans (b5.mono bw.size)⟩
      case measure => simp [intOf]; omega
    · have hee : e = E := by omega
      have hcm : (decide (cmpN (upT e P) (upM M e P) ≤ 0)) = false := decide_eq_false (by have := h2.out; rw [hee]; unfold cmpN; split <;> (try split) <;> omega)
      obtain ⟨c, ec⟩ : ∃ c, cmpN (upT e P) (upM M e P) = c := ⟨_, rfl⟩
      rw [ec] at AG hcm
      have HE := hide hee
      clear ec hee
      go_wp2_with (go_at_call 73; refine (AG _).mono ?_; rintro x w5 ⟨rfl, b5⟩)
      go_ret
      exact ⟨by rw [← HE.out]; rfl, y1.trans (b5.mono y1.size)⟩
end Go.Proofs.YtbengmceiaejeaaGreatDoor
