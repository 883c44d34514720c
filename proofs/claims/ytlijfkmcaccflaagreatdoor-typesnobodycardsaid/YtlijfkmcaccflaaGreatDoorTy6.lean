/- Books of types: fail, walk. -/
import Derived.Test.YtlijfkmcaccflaaGreatDoorProg
import Derived.Test.YtlijfkmcaccflaaGreatDoorTy5
import Derived.WalkKit
import Derived.ProofKit
import Derived.OpenShut
import Derived.Below
import Derived.WalkLawsBesides
import Derived.OwnWalk
import Derived.BigQuiet
import Derived.Deep.MidRow
import Derived.Deep.RegionHeld
import Derived.Deep.RegionHeld3
import Derived.Deep.DeepCutAuto
import Derived.WalkSmall
import Derived.Laws.EntriesVeiled
namespace Go.Proofs.YtlijfkmcaccflaaGreatDoor
open Go.ChangeShapes Go.WideShapes Go.ChangeAt Go.RowKit

set_option maxRecDepth 100000 in
set_option maxHeartbeats 4000000 in
theorem fail_any (x : Int) (w : World) : Calls Tryz.prog 92 #[.int .i64 x] w fun e w' => e = .panicked [{ v := .iface 129 (.agg #[.int .i64 x]), recovered := false }] ∧ w' = w := by
  go_enter Tryz.func92, Tryz.ntmps92
  go_wp2
  exact ⟨rfl, rfl, rfl⟩
/-- A type all of whose parts are fit to be visited. -/
def OkV (cs : List Tc) (V : Nat → Prop) : Nat → Int → Prop
  | 0, _ => False
  | d + 1, t => 0 ≤ t ∧ Good cs t.toNat ∧ V (nw cs t.toNat) ∧ ∀ a ∈ argsA cs (nw cs t.toNat), OkV cs V d a

set_option maxRecDepth 100000 in
set_option maxHeartbeats 8000000 in
theorem walk_nil (b : Nat) (fv : Value) (ao : Option Addr) (cap : Nat) (w : World) : Calls Tryz.prog 58 #[.pointer (some ⟨b, 0, none⟩), fv, .slice ao 0 cap] w fun e w' => e = .returned (.tuple #[]) ∧ w' = w := by
  go_enter Tryz.func58, Tryz.ntmps58
  go_wp2
  go_loop [10] (fun vi => vi = .int .i64 0) (fun _ => 0)
  case atStart => rfl
  case round =>
    subst hrel
    go_wp2
    go_end0
    simp

set_option maxRecDepth 100000 in
set_option maxHeartbeats 8000000 in
theorem walk_apart (b hi : Nat) (cv : Value) (cs : List Tc) (q1 : Value) (Q : World → Prop) (V : Nat → Prop) (hQ : ∀ W, Q W → Bk b hi W cv cs)
    (hv : ∀ (p : Nat) W, V p → p < cs.length → Q W → Calls Tryz.prog 113 #[.int .i64 (p : Int), q1] W fun e w' => e = .returned (.tuple #[]) ∧ Q w') :
    ∀ (d : Nat) (v : Value) (l : List Int) (w : World), Q w → (∀ W, Q W → Rd W v l) → (∀ a ∈ l, OkV cs V d a) →
    Calls Tryz.prog 58 #[.pointer (some ⟨b, 0, none⟩), .func (.func 113) #[] #[q1], v] w fun e w' => e = .returned (.tuple #[]) ∧ Q w' := by
  intro d
  induction d with
  | zero =>
    intro v l w hq hr hok
    obtain ⟨ao, cap, hv', hl, hc⟩ := hr w hq
    have : l = [] := by
      cases l with
      | nil => rfl
      | cons a r => exact (hok a List.mem_cons_self).elim
    subst this
    subst hv'
    refine (walk_nil b _ ao cap w).mono ?_
    rintro e w' ⟨rfl, rfl⟩
    exact ⟨rfl, hq⟩
  | succ d ih =>
    intro v l w hq hr hok
    obtain ⟨ao, cap, hv', hl, hc⟩ := hr w hq
    subst hv'
    have HR := hide' hr
    have HQ := hide' hQ
    have HV := hide' hv
    have HOK := hide' hok
    have IH := hide' ih
    obtain ⟨L, hL⟩ : ∃ L, l.length = L := ⟨_, rfl⟩
    have HL := hide' hL
    rw [hL] at hl HR ⊢
    have hsm := (hQ w hq).sm
    obtain ⟨CL, hCL⟩ : ∃ CL, cs.length = CL := ⟨_, rfl⟩
    have HCL := hide' hCL
    rw [hCL] at hsm
    have HQ0 := hide' hq
    clear hc hok hL ih hr hQ hv hCL hq
    go_enter Tryz.func58, Tryz.ntmps58
    go_wp2
    go_loopw [10] (fun vi wr => ∃ (k : Nat), vi = .int .i64 (k : Int) ∧ k ≤ L ∧ Hid' (Q wr)) (fun vi _ => L - (intOf vi).toNat)
    case atStart => exact ⟨0, rfl, Nat.zero_le _, HQ0⟩
    case round =>
      obtain ⟨k, rfl, hk, HQW⟩ := hrel
      by_cases h1 : k < L
      · obtain ⟨ao', cap', e1, _, hc⟩ := HR.out wr HQW.out
        injection e1 with e1 e2 e3
        clear e2 e3
        subst e1
        obtain ⟨g, eg, hcell⟩ := hc k (by have := HL.out; omega)
        subst eg
        obtain ⟨hx0, hgood, hvv, hargs⟩ := HOK.out _ (getD_mem l k (by have := HL.out; omega))
        obtain ⟨x, hx⟩ : ∃ x : Nat, l.getD k 0 = (x : Int) := ⟨(l.getD k 0).toNat, by omega⟩
        rw [hx] at hcell
        rw [hx, Int.toNat_natCast] at hgood hvv hargs
        have CN := hide' (now_of b hi cv cs x wr (HQ.out _ HQW.out) hgood)
        have CV := hide' (HV.out (nw cs x) wr hvv hgood.2.1 HQW.out)
        have hnl := hgood.2.1
        rw [HCL.out] at hnl
        have HG := hide' hgood
        have HA := hide' hargs
        obtain ⟨y, hy⟩ : ∃ y, nw cs x = y := ⟨_, rfl⟩
        have HY := hide' hy
        rw [hy] at CN CV hnl
        clear hc hx0 hgood hvv hargs hx hy
        go_upto_region 4 with (go_at_call 48; refine CN.out.mono ?_; clear CN; rintro e w1 ⟨rfl, h9⟩; replace h9 := h9.symm; subst h9)
        go_upto_region 5 with (go_at_call 113; refine CV.out.mono ?_; clear CV; rintro e w1 ⟨rfl, hq1⟩)
        have hb1 := HQ.out _ hq1
        obtain ⟨g2, cap2, hcv, _, _, hat⟩ := hb1.at HG.out.2.1
        have c2 := hb1.c2
        have d3 := hat.c3
        obtain ⟨ao3, cap3, hv3, hl3, hc3⟩ := (hb1.args _ HG.out.2.1).rd
        have CR := hide' (IH.out (cs.getD (nw cs x) Tc.zero).av (argsA cs (nw cs x)) w1 hq1 (fun W hW => ((HQ.out W hW).args _ HG.out.2.1).rd) HA.out)
        rw [hv3] at d3 CR
        rw [HY.out] at d3 CR
        rw [hcv, HCL.out] at c2
        obtain ⟨A, hA⟩ : ∃ A, (cs.getD y Tc.zero).args.length = A := ⟨_, rfl⟩
        rw [hA] at d3 CR
        clear hb1 hcv hat hv3 hl3 hc3 hA hcell
        go_wp2_with (go_at_call 58; refine CR.out.mono ?_; clear CR; rintro e w2 ⟨rfl, hq2⟩)
        go_roundw
        case rel => exact ⟨k + 1, by go_num, by omega, ⟨hq2⟩⟩
        case measure => first | (simp [intOf]; done) | (simp [intOf]; omega)
      · obtain rfl : k = L := by omega
        clear h1
        go_wp2
        go_end0
        exact ⟨rfl, HQW.out⟩
set_option maxRecDepth 100000 in
set_option maxHeartbeats 8000000 in
theorem walk_lower (b hi : Nat) (cv : Value) (cs : List Tc) (q1 q2 : Value) (Q : World → Prop) (V : Nat → Prop) (hQ : ∀ W, Q W → Bk b hi W cv cs)
    (hv : ∀ (p : Nat) W, V p → p < cs.length → Q W → Calls Tryz.prog 116 #[.int .i64 (p : Int), q1, q2] W fun e w' => e = .returned (.tuple #[]) ∧ Q w') :
    ∀ (d : Nat) (v : Value) (l : List Int) (w : World), Q w → (∀ W, Q W → Rd W v l) → (∀ a ∈ l, OkV cs V d a) →
    Calls Tryz.prog 58 #[.pointer (some ⟨b, 0, none⟩), .func (.func 116) #[] #[q1, q2], v] w fun e w' => e = .returned (.tuple #[]) ∧ Q w' := by
  intro d
  induction d with
  | zero =>
    intro v l w hq hr hok
    obtain ⟨ao, cap, hv', hl, hc⟩ := hr w hq
    have : l = [] := by
      cases l with
      | nil => rfl
      | cons a r => exact (hok a List.mem_cons_self).elim
    subst this
    subst hv'
    refine (walk_nil b _ ao cap w).mono ?_
    rintro e w' ⟨rfl, rfl⟩
    exact ⟨rfl, hq⟩
  | succ d ih =>
    intro v l w hq hr hok
    obtain ⟨ao, cap, hv', hl, hc⟩ := hr w hq
    subst hv'
    have HR := hide' hr
    have HQ := hide' hQ
    have HV := hide' hv
    have HOK := hide' hok
    have IH := hide' ih
    obtain ⟨L, hL⟩ : ∃ L, l.length = L := ⟨_, rfl⟩
    have HL := hide' hL
    rw [hL] at hl HR ⊢
    have hsm := (hQ w hq).sm
    obtain ⟨CL, hCL⟩ : ∃ CL, cs.length = CL := ⟨_, rfl⟩
    have HCL := hide' hCL
    rw [hCL] at hsm
    have HQ0 := hide' hq
    clear hc hok hL ih hr hQ hv hCL hq
    go_enter Tryz.func58, Tryz.ntmps58
    go_wp2
    go_loopw [10] (fun vi wr => ∃ (k : Nat), vi = .int .i64 (k : Int) ∧ k ≤ L ∧ Hid' (Q wr)) (fun vi _ => L - (intOf vi).toNat)
    case atStart => exact ⟨0, rfl, Nat.zero_le _, HQ0⟩
    case round =>
      obtain ⟨k, rfl, hk, HQW⟩ := hrel
      by_cases h1 : k < L
      · obtain ⟨ao', cap', e1, _, hc⟩ := HR.out wr HQW.out
        injection e1 with e1 e2 e3
        clear e2 e3
        subst e1
        obtain ⟨g, eg, hcell⟩ := hc k (by have := HL.out; omega)
        subst eg
        obtain ⟨hx0, hgood, hvv, hargs⟩ := HOK.out _ (getD_mem l k (by have := HL.out; omega))
        obtain ⟨x, hx⟩ : ∃ x : Nat, l.getD k 0 = (x : Int) := ⟨(l.getD k 0).toNat, by omega⟩
        rw [hx] at hcell
        rw [hx, Int.toNat_natCast] at hgood hvv hargs
        have CN := hide' (now_of b hi cv cs x wr (HQ.out _ HQW.out) hgood)
        have CV := hide' (HV.out (nw cs x) wr hvv hgood.2.1 HQW.out)
        have hnl := hgood.2.1
        rw [HCL.out] at hnl
        have HG := hide' hgood
        have HA := hide' hargs
        obtain ⟨y, hy⟩ : ∃ y, nw cs x = y := ⟨_, rfl⟩
        have HY := hide' hy
        rw [hy] at CN CV hnl
        clear hc hx0 hgood hvv hargs hx hy
        go_upto_region 4 with (go_at_call 48; refine CN.out.mono ?_; clear CN; rintro e w1 ⟨rfl, h9⟩; replace h9 := h9.symm; subst h9)
        go_upto_region 5 with (go_at_call 116; refine CV.out.mono ?_; clear CV; rintro e w1 ⟨rfl, hq1⟩)
        have hb1 := HQ.out _ hq1
        obtain ⟨g2, cap2, hcv, _, _, hat⟩ := hb1.at HG.out.2.1
        have c2 := hb1.c2
        have d3 := hat.c3
        obtain ⟨ao3, cap3, hv3, hl3, hc3⟩ := (hb1.args _ HG.out.2.1).rd
        have CR := hide' (IH.out (cs.getD (nw cs x) Tc.zero).av (argsA cs (nw cs x)) w1 hq1 (fun W hW => ((HQ.out W hW).args _ HG.out.2.1).rd) HA.out)
        rw [hv3] at d3 CR
        rw [HY.out] at d3 CR
        rw [hcv, HCL.out] at c2
        obtain ⟨A, hA⟩ : ∃ A, (cs.getD y Tc.zero).args.length = A := ⟨_, rfl⟩
        rw [hA] at d3 CR
        clear hb1 hcv hat hv3 hl3 hc3 hA hcell
        go_wp2_with (go_at_call 58; refine CR.out.mono ?_; clear CR; rintro e w2 ⟨rfl, hq2⟩)
        go_roundw
        case rel => exact ⟨k + 1, by go_num, by omega, ⟨hq2⟩⟩
        case measure => first | (simp [intOf]; done) | (simp [intOf]; omega)
      · obtain rfl : k = L := by omega
        clear h1
        go_wp2
        go_end0
        exact ⟨rfl, HQW.out⟩
set_option maxRecDepth 100000 in
set_option maxHeartbeats 8000000 in
theorem walk_free (b hi : Nat) (cv : Value) (cs : List Tc) (q1 q2 q3 : Value) (Q : World → Prop) (V : Nat → Prop) (hQ : ∀ W, Q W → Bk b hi W cv cs)
    (hv : ∀ (p : Nat) W, V p → p < cs.length → Q W → Calls Tryz.prog 59 #[.int .i64 (p : Int), q1, q2, q3] W fun e w' => e = .returned (.tuple #[]) ∧ Q w') :
    ∀ (d : Nat) (v : Value) (l : List Int) (w : World), Q w → (∀ W, Q W → Rd W v l) → (∀ a ∈ l, OkV cs V d a) →
    Calls Tryz.prog 58 #[.pointer (some ⟨b, 0, none⟩), .func (.func 59) #[] #[q1, q2, q3], v] w fun e w' => e = .returned (.tuple #[]) ∧ Q w' := by
  intro d
  induction d with
  | zero =>
    intro v l w hq hr hok
    obtain ⟨ao, cap, hv', hl, hc⟩ := hr w hq
    have : l = [] := by
      cases l with
      | nil => rfl
      | cons a r => exact (hok a List.mem_cons_self).elim
    subst this
    subst hv'
    refine (walk_nil b _ ao cap w).mono ?_
    rintro e w' ⟨rfl, rfl⟩
    exact ⟨rfl, hq⟩
  | succ d ih =>
    intro v l w hq hr hok
    obtain ⟨ao, cap, hv', hl, hc⟩ := hr w hq
    subst hv'
    have HR := hide' hr
    have HQ := hide' hQ
    have HV := hide' hv
    have HOK := hide' hok
    have IH := hide' ih
    obtain ⟨L, hL⟩ : ∃ L, l.length = L := ⟨_, rfl⟩
    have HL := hide' hL
    rw [hL] at hl HR ⊢
    have hsm := (hQ w hq).sm
    obtain ⟨CL, hCL⟩ : ∃ CL, cs.length = CL := ⟨_, rfl⟩
    have HCL := hide' hCL
    rw [hCL] at hsm
    have HQ0 := hide' hq
    clear hc hok hL ih hr hQ hv hCL hq
    go_enter Tryz.func58, Tryz.ntmps58
    go_wp2
    go_loopw [10] (fun vi wr => ∃ (k : Nat), vi = .int .i64 (k : Int) ∧ k ≤ L ∧ Hid' (Q wr)) (fun vi _ => L - (intOf vi).toNat)
    case atStart => exact ⟨0, rfl, Nat.zero_le _, HQ0⟩
    case round =>
      obtain ⟨k, rfl, hk, HQW⟩ := hrel
      by_cases h1 : k < L
      · obtain ⟨ao', cap', e1, _, hc⟩ := HR.out wr HQW.out
        injection e1 with e1 e2 e3
        clear e2 e3
        subst e1
        obtain ⟨g, eg, hcell⟩ := hc k (by have := HL.out; omega)
        subst eg
        obtain ⟨hx0, hgood, hvv, hargs⟩ := HOK.out _ (getD_mem l k (by have := HL.out; omega))
        obtain ⟨x, hx⟩ : ∃ x : Nat, l.getD k 0 = (x : Int) := ⟨(l.getD k 0).toNat, by omega⟩
        rw [hx] at hcell
        rw [hx, Int.toNat_natCast] at hgood hvv hargs
        have CN := hide' (now_of b hi cv cs x wr (HQ.out _ HQW.out) hgood)
        have CV := hide' (HV.out (nw cs x) wr hvv hgood.2.1 HQW.out)
        have hnl := hgood.2.1
        rw [HCL.out] at hnl
        have HG := hide' hgood
        have HA := hide' hargs
        obtain ⟨y, hy⟩ : ∃ y, nw cs x = y := ⟨_, rfl⟩
        have HY := hide' hy
        rw [hy] at CN CV hnl
        clear hc hx0 hgood hvv hargs hx hy
        go_upto_region 4 with (go_at_call 48; refine CN.out.mono ?_; clear CN; rintro e w1 ⟨rfl, h9⟩; replace h9 := h9.symm; subst h9)
        go_upto_region 5 with (go_at_call 59; refine CV.out.mono ?_; clear CV; rintro e w1 ⟨rfl, hq1⟩)
        have hb1 := HQ.out _ hq1
        obtain ⟨g2, cap2, hcv, _, _, hat⟩ := hb1.at HG.out.2.1
        have c2 := hb1.c2
        have d3 := hat.c3
        obtain ⟨ao3, cap3, hv3, hl3, hc3⟩ := (hb1.args _ HG.out.2.1).rd
        have CR := hide' (IH.out (cs.getD (nw cs x) Tc.zero).av (argsA cs (nw cs x)) w1 hq1 (fun W hW => ((HQ.out W hW).args _ HG.out.2.1).rd) HA.out)
        rw [hv3] at d3 CR
        rw [HY.out] at d3 CR
        rw [hcv, HCL.out] at c2
        obtain ⟨A, hA⟩ : ∃ A, (cs.getD y Tc.zero).args.length = A := ⟨_, rfl⟩
        rw [hA] at d3 CR
        clear hb1 hcv hat hv3 hl3 hc3 hA hcell
        go_wp2_with (go_at_call 58; refine CR.out.mono ?_; clear CR; rintro e w2 ⟨rfl, hq2⟩)
        go_roundw
        case rel => exact ⟨k + 1, by go_num, by omega, ⟨hq2⟩⟩
        case measure => first | (simp [intOf]; done) | (simp [intOf]; omega)
      · obtain rfl : k = L := by omega
        clear h1
        go_wp2
        go_end0
        exact ⟨rfl, HQW.out⟩
end Go.Proofs.YtlijfkmcaccflaaGreatDoor
