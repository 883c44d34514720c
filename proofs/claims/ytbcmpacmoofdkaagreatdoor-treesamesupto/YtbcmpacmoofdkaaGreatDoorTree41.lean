/- match: a node's kids against the parts that it may have. -/
import Derived.Test.YtbcmpacmoofdkaaGreatDoorProg
import Derived.Test.YtbcmpacmoofdkaaGreatDoorTree4
import Derived.WalkKit
import Derived.ProofKit
import Derived.OpenShut
import Derived.Below
import Derived.WalkLawsBesides
import Derived.OwnWalk
import Derived.BigQuiet
import Derived.Deep.MidRow
import Derived.Deep.RegionHeld
import Derived.Deep.RegionHeld3
import Derived.WalkSmall
import Derived.Deep.DeepCutAuto
namespace Go.Proofs.YtbcmpacmoofdkaaGreatDoor
open Go.ChangeShapes Go.WideShapes Go.ChangeAt Go.RowKit

/-- Parts in memory. -/
def RdPt (B : Nat) (w : World) (pv : Value) (ps : List (Int × Int × Int)) : Prop :=
  ∃ ao cap, pv = .slice ao ps.length cap ∧ ps.length ≤ 1000 ∧ ∀ j, j < ps.length → ∃ g o : Nat, ao = some ⟨g, o, none⟩ ∧ g < B ∧ w.cell? ⟨g, o + j * 3, none⟩ = some (.int .i64 (ps.getD j (0, 0, 0)).1) ∧ w.cell? ⟨g, o + j * 3 + 1, none⟩ = some (.int .i64 (ps.getD j (0, 0, 0)).2.1) ∧ w.cell? ⟨g, o + j * 3 + 2, none⟩ = some (.int .i64 (ps.getD j (0, 0, 0)).2.2)
def sumL (ps : List (Int × Int × Int)) : Int := ps.foldl (fun a p => a + p.2.1) 0
def eatM (fit : Int → Int → Bool) (s most need : Int) : Int → List Int → Int × List Int
  | n, [] => (n, [])
  | n, k :: r => if n < most ∧ need < (r.length : Int) + 1 ∧ fit s k = true then eatM fit s most need (n + 1) r else (n, k :: r)
/-- What match answers: on the kinds of the kids. -/
def goM (fit : Int → Int → Bool) : Int → List (Int × Int × Int) → List Int → Bool
  | _, [], ks => ks.isEmpty
  | need, p :: ps, ks => if (eatM fit p.1 p.2.2 (need - p.2.1) 0 ks).1 < p.2.1 then false else goM fit (need - p.2.1) ps (eatM fit p.1 p.2.2 (need - p.2.1) 0 ks).2
theorem eatM_suffix (fit : Int → Int → Bool) (s most need : Int) : ∀ (l : List Int) (n : Int), ∃ m, (eatM fit s most need n l).2 = l.drop m
  | [], n => ⟨0, rfl⟩
  | k :: r, n => by
    unfold eatM
    split
    · obtain ⟨m, hm⟩ := eatM_suffix fit s most need r (n + 1)
      exact ⟨m + 1, by rw [hm]; rfl⟩
    · exact ⟨0, rfl⟩
theorem sumL_snoc (ps : List (Int × Int × Int)) (k : Nat) (h : k < ps.length) : sumL (ps.take (k + 1)) = sumL (ps.take k) + (ps.getD k (0, 0, 0)).2.1 := by
  unfold sumL
  rw [List.take_succ_eq_append_getElem h, List.foldl_append]
  simp [List.getD_eq_getElem?_getD, h]
theorem drop_cons_getD (ps : List (Int × Int × Int)) (k : Nat) (h : k < ps.length) : ps.drop k = ps.getD k (0, 0, 0) :: ps.drop (k + 1) := by
  rw [List.drop_eq_getElem_cons h]
  simp [List.getD_eq_getElem?_getD, h]
theorem sumL_bd (ps : List (Int × Int × Int)) (hb : ∀ p ∈ ps, 0 ≤ p.2.1 ∧ p.2.1 ≤ 1000) : ∀ k, k ≤ ps.length → 0 ≤ sumL (ps.take k) ∧ sumL (ps.take k) ≤ (k : Int) * 1000 := by
  intro k hk
  induction k with
  | zero => simp [sumL]
  | succ k ih =>
    obtain ⟨h1, h2⟩ := ih (by omega)
    rw [sumL_snoc ps k (by omega)]
    have := hb (ps.getD k (0, 0, 0)) (by rw [List.getD_eq_getElem?_getD]; simp [show k < ps.length by omega])
    omega

theorem below_drewN (B : Nat) (w : World) (n : Nat) : Below B w (w.drewN n) := ⟨rfl, rfl, rfl, Nat.le_refl _, fun _ _ => rfl⟩
theorem sumL_le (ps : List (Int × Int × Int)) (hb : ∀ p ∈ ps, 0 ≤ p.2.1 ∧ p.2.1 ≤ 1000) : ∀ d k, k + d = ps.length → sumL (ps.take k) ≤ sumL ps := by
  intro d
  induction d with
  | zero => intro k hk; rw [List.take_of_length_le (by omega)]; exact Int.le_refl _
  | succ d ih =>
    intro k hk
    have h1 := ih (k + 1) (by omega)
    rw [sumL_snoc ps k (by omega)] at h1
    have := hb (ps.getD k (0, 0, 0)) (by rw [List.getD_eq_getElem?_getD]; simp [show k < ps.length by omega])
    omega
def lenS : Value → Nat
  | .slice _ n _ => n
  | _ => 0
def headF (fit : Int → Int → Bool) (s : Int) : List Int → Bool
  | [] => false
  | k :: _ => fit s k
theorem eatM_no {fit : Int → Int → Bool} {s most need n : Int} {l : List Int} (h : (decide (n < most) && decide (need < (l.length : Int)) && headF fit s l) = false) : eatM fit s most need n l = (n, l) := by
  cases l with
  | nil => rfl
  | cons k r =>
    unfold eatM
    rw [if_neg]
    rintro ⟨h1, h2, h3⟩
    simp only [List.length_cons] at h
    have e1 : decide (n < most) = true := decide_eq_true h1
    have e2 : decide (need < ((r.length + 1 : Nat) : Int)) = true := decide_eq_true (by omega)
    rw [e1, e2] at h
    simp only [headF, h3] at h
    cases h
theorem eatM_yes {fit : Int → Int → Bool} {s most need n k : Int} {r : List Int} (h : (decide (n < most) && decide (need < ((k :: r).length : Int)) && headF fit s (k :: r)) = true) : eatM fit s most need n (k :: r) = eatM fit s most need (n + 1) r := by
  rw [eatM, if_pos]
  simp only [Bool.and_eq_true, decide_eq_true_eq, List.length_cons, headF] at h
  exact ⟨h.1.1, by have := h.1.2; omega, h.2⟩
theorem rdI_tail {B : Nat} {w : World} {a : Addr} {L cap : Nat} {k : Int} {r : List Int} (h : RdI B w (.slice (some a) L cap) (k :: r)) (hL : L = r.length + 1) : RdI B w (.slice (some (a.add 1)) r.length (cap - 1)) r := by
  obtain ⟨ao, c, hv, hm, hc⟩ := h
  injection hv with e1 e2 e3
  subst e1
  refine ⟨_, _, rfl, by simp at hm; omega, fun j hj => ?_⟩
  obtain ⟨a', ha, hb, hx⟩ := hc (j + 1) (by simp; omega)
  injection ha with ha
  subst ha
  refine ⟨_, rfl, by rw [addBlock]; exact hb, ?_⟩
  have e : (a.add 1).add j = a.add (j + 1) := by
    unfold Addr.add
    by_cases hj0 : j = 0
    · subst hj0; simp
    · simp [hj0]; omega
  rw [e, hx]
  simp

set_option maxRecDepth 100000 in
set_option maxHeartbeats 16000000 in
theorem match_any (v : Value) (l : List Nod) (ko : Option Addr) (kc : Nat) (ks : List Int) (pv : Value) (ps : List (Int × Int × Int)) (w : World) (hv : RdN w.heap.size w v l) (hk : RdI w.heap.size w (.slice ko ks.length kc) ks) (hkc : ks.length ≤ kc) (hp : RdPt w.heap.size w pv ps) (hin : ∀ j, j < ks.length → 0 ≤ ks.getD j 0 ∧ ks.getD j 0 < (l.length : Int)) (fit : Int → Int → Bool)
    (hb : ∀ p ∈ ps, 0 ≤ p.2.1 ∧ p.2.1 ≤ 1000) (hbm : ∀ p ∈ ps, 0 ≤ p.2.2 ∧ p.2.2 ≤ 9223372036854775807)
    (hf : ∀ i j W, i < ps.length → j < ks.length → Calls Tryz.prog 48 #[.int .i64 (ps.getD i (0, 0, 0)).1, .int .i64 (l.getD (ks.getD j 0).toNat Nod.zero).kind] W fun e w' => e = .returned (.bool (fit (ps.getD i (0, 0, 0)).1 (l.getD (ks.getD j 0).toNat Nod.zero).kind)) ∧ w' = W) :
    Calls Tryz.prog 25 #[v, .slice ko ks.length kc, pv] w fun e w' => e = .returned (.bool (goM fit (sumL ps) ps (ks.map fun k => (l.getD k.toNat Nod.zero).kind))) ∧ Below w.heap.size w w' := by
  obtain ⟨po, pc, hpv, hpl, hpc⟩ := hp
  subst hpv
  have HPC := hide' hpc
  have HF := hide' hf
  have HSB := hide' (sumL_bd ps hb)
  have HSE := hide' (sumL_le ps hb)
  obtain ⟨P, hP⟩ : ∃ P, ps.length = P := ⟨_, rfl⟩
  have HP := hide' hP
  rw [hP] at hpl ⊢
  have HK0 := hide' hk
  have HV0 := hide' hv
  have HIN := hide' hin
  have HB := hide' hb
  have HBM := hide' hbm
  obtain ⟨_, _, _, hkm, _⟩ := hk
  obtain ⟨KL, hKL⟩ : ∃ KL, ks.length = KL := ⟨_, rfl⟩
  have HKL := hide' hKL
  rw [hKL] at hkm hkc ⊢
  obtain ⟨R, hR⟩ : ∃ R, goM fit (sumL ps) ps (ks.map fun k => (l.getD k.toNat Nod.zero).kind) = R := ⟨_, rfl⟩
  rw [hR]
  have HR := hide' hR
  obtain ⟨vo, vc, hvv, hvl, hvc⟩ := hv
  subst hvv
  have HVC := hide' hvc
  obtain ⟨LL, hLL⟩ : ∃ LL, l.length = LL := ⟨_, rfl⟩
  have HLL := hide' hLL
  rw [hLL] at hvl ⊢
  clear hpc hf hP hin hb hbm hKL hR hvc hLL
  go_enter Tryz.func25, Tryz.ntmps25
  go_wp2_with fail
  go_loopw [7, 15] (fun v7 v15 wr => ∃ k : Nat, k ≤ P ∧ v15 = .int .i64 (k : Int) ∧ (∃ x : Int, v7 = .int .i64 x ∧ 0 ≤ x ∧ x ≤ 1000000 ∧ Hid' (x = sumL (ps.take k))) ∧ Below w.heap.size w wr) (fun _ v15 _ => P - (intOf v15).toNat)
  case atStart => exact ⟨0, Nat.zero_le _, rfl, ⟨0, rfl, by decide, by decide, ⟨rfl⟩⟩, Below.refl _ _⟩
  case round =>
    obtain ⟨k, hkP, rfl, ⟨x, rfl, hx0, hx1, HX⟩, bw⟩ := hrel
    by_cases hlt : k < P
    · obtain ⟨g, o, ea, hg, c0, c1, c2⟩ := HPC.out k (by have := HP.out; omega)
      subst ea
      have HSN := hide' (sumL_snoc ps k (by have := HP.out; omega))
      have hsb := HSB.out (k + 1) (by have := HP.out; omega)
      have d0 := (bw.cell (p := ⟨g, o + k * 3, none⟩) hg).trans c0
      have d1 := (bw.cell (p := ⟨g, o + k * 3 + 1, none⟩) hg).trans c1
      have d2 := (bw.cell (p := ⟨g, o + k * 3 + 2, none⟩) hg).trans c2
      generalize (ps.getD k (0, 0, 0)).1 = q0 at *
      generalize (ps.getD k (0, 0, 0)).2.1 = q1 at *
      generalize (ps.getD k (0, 0, 0)).2.2 = q2 at *
      have hq : x + q1 = sumL (ps.take (k + 1)) := by rw [HSN.out, HX.out]
      have hq0 : 0 ≤ x + q1 := by rw [hq]; exact hsb.1
      have hq1 : x + q1 ≤ 1000000 := by rw [hq]; have := hsb.2; omega
      have HQ := hide' hq
      clear c0 c1 c2 hsb hq
      go_wp2_with fail
      go_roundw
      case rel => exact ⟨k + 1, by omega, by go_num, ⟨x + q1, by first | rfl | go_num, hq0, hq1, HQ⟩, bw.alloc bw.size _⟩
      case measure => first | (simp [intOf]; done) | (simp [intOf]; omega)
    · have htk : ps.take k = ps := List.take_of_length_le (by have := HP.out; omega)
      rw [htk] at HX
      have hkm0 : ((0 : Nat) : Int) = 0 := rfl
      go_wp2_with fail
      go_loopw [1, 7, 26] (fun v1 v7 v26 wy => ∃ (k m : Nat) (x : Int) (ao : Option Addr) (cap L : Nat), k ≤ P ∧ v26 = .int .i64 (k : Int) ∧ v7 = .int .i64 x ∧ 0 ≤ x ∧ x ≤ 1000000 ∧ v1 = .slice ao L cap ∧ L ≤ cap ∧ L ≤ 9223372036854775807 ∧ Hid' (L = KL - m ∧ m ≤ KL ∧ RdI w.heap.size w (.slice ao L cap) (ks.drop m) ∧ x = sumL ps - sumL (ps.take k) ∧ goM fit x (ps.drop k) ((ks.drop m).map fun k => (l.getD k.toNat Nod.zero).kind) = R) ∧ Below w.heap.size w wy) (fun _ _ v26 _ => P - (intOf v26).toNat)
      case atStart =>
        refine ⟨0, 0, x, ko, kc, KL, Nat.zero_le _, rfl, rfl, hx0, hx1, rfl, hkc, hkm, ⟨rfl, Nat.zero_le _, by have := HK0.out; rw [HKL.out] at this; exact this, ?_, ?_⟩, bw⟩
        · rw [HX.out]; simp [sumL]
        · rw [HX.out]; exact HR.out
      case round =>
        clear HX hx0 hx1 bw htk
        obtain ⟨k, m, x, ao, cap, L, hkP, rfl, rfl, hx0, hx1, rfl, hLc, hLm, HI, bw⟩ := hrel
        by_cases hlt : k < P
        · obtain ⟨g, o, ea, hg, c0, c1, c2⟩ := HPC.out k (by have := HP.out; omega)
          subst ea
          have HDC := hide' (drop_cons_getD ps k (by have := HP.out; omega))
          have hsn := sumL_snoc ps k (by have := HP.out; omega)
          have hse := HSE.out (P - (k + 1)) (k + 1) (by have := HP.out; omega)
          have hpm : ps.getD k (0, 0, 0) ∈ ps := by rw [List.getD_eq_getElem?_getD]; simp [show k < ps.length by have := HP.out; omega]
          obtain ⟨hq10, hq11⟩ := HB.out _ hpm
          obtain ⟨hq20, hq21⟩ := HBM.out _ hpm
          have HFK := hide' (fun j W hj => HF.out k j W (by have := HP.out; omega) hj)
          have d0 := (bw.cell (p := ⟨g, o + k * 3, none⟩) hg).trans c0
          have d1 := (bw.cell (p := ⟨g, o + k * 3 + 1, none⟩) hg).trans c1
          have d2 := (bw.cell (p := ⟨g, o + k * 3 + 2, none⟩) hg).trans c2
          obtain ⟨⟨q0, q1, q2⟩, hpk⟩ : ∃ pk, ps.getD k (0, 0, 0) = pk := ⟨_, rfl⟩
          rw [hpk] at HDC hsn hq10 hq11 hq20 hq21 HFK d0 d1 d2
          simp only at hsn hq10 hq11 hq20 hq21 HFK d0 d1 d2
          have hxq : 0 ≤ x - q1 := by have := HI.out.2.2.2.1; omega
          have HXQ : Hid' (x - q1 = sumL ps - sumL (ps.take (k + 1))) := ⟨by have := HI.out.2.2.2.1; omega⟩
          have HGO : Hid' (goM fit x ((q0, q1, q2) :: ps.drop (k + 1)) ((ks.drop m).map fun k => (l.getD k.toNat Nod.zero).kind) = R) := ⟨by have := HI.out.2.2.2.2; rw [HDC.out] at this; exact this⟩
          obtain ⟨y, hy⟩ : ∃ y, x - q1 = y := ⟨_, rfl⟩
          rw [hy] at hxq HXQ
          have hyb : y ≤ 1000000 := by omega
          unfold goM at HGO
          simp only at HGO
          rw [hy] at HGO
          obtain ⟨EE, hEE⟩ : ∃ EE, eatM fit q0 q2 y 0 ((ks.drop m).map fun k => (l.getD k.toNat Nod.zero).kind) = EE := ⟨_, rfl⟩
          rw [hEE] at HGO
          have HEE := hide' hEE
          have HPK := hide' hpk
          obtain ⟨W1, hW1⟩ : ∃ W1, wr.alloc (.cells #[.int .i64 q0, .int .i64 q1, .int .i64 q2] 94) = W1 := ⟨_, rfl⟩
          have B1 : Below wr.heap.size wr W1 := by rw [← hW1]; exact (Below.refl _ _).alloc (Nat.le_refl _) _
          have u0 : W1.cell? ⟨wr.heap.size, 0, none⟩ = some (.int .i64 q0) := by rw [← hW1]; simp
          have u1 : W1.cell? ⟨wr.heap.size, 1, none⟩ = some (.int .i64 q1) := by rw [← hW1]; simp
          have u2 : W1.cell? ⟨wr.heap.size, 2, none⟩ = some (.int .i64 q2) := by rw [← hW1]; simp
          have sU : wr.heap.size < W1.heap.size := by rw [← hW1]; simp
          have BW1 := bw.trans (B1.mono bw.size)
          have HBW1 := hide' BW1
          clear hpk hEE c0 c1 c2 hsn hse hpm B1 BW1
          go_upto_region 10 with fail
          obtain ⟨U, hU⟩ : ∃ U, wr.heap.size = U := ⟨_, rfl⟩
          rw [hU] at u0 u1 u2 sU
          try rw [hW1]
          try rw [hU]
          clear hW1 d0 d1 d2
          go_wp2_with fail
          go_loopw [1, 12] (fun v1 v12 wz => ∃ (n : Int) (m' : Nat) (ao : Option Addr) (cap L : Nat), v12 = .int .i64 n ∧ 0 ≤ n ∧ n ≤ (m' : Int) ∧ v1 = .slice ao L cap ∧ L ≤ cap ∧ L ≤ 9223372036854775807 ∧ m' ≤ KL ∧ Hid' (L = KL - m' ∧ RdI w.heap.size w (.slice ao L cap) (ks.drop m') ∧ eatM fit q0 q2 y n ((ks.drop m').map fun k => (l.getD k.toNat Nod.zero).kind) = EE) ∧ Below W1.heap.size W1 wz) (fun v1 _ _ => lenS v1)
          case atStart => exact ⟨0, m, ao, cap, L, rfl, by decide, by omega, rfl, hLc, hLm, HI.out.2.1, ⟨HI.out.1, HI.out.2.2.1, HEE.out⟩, Below.refl _ _⟩
          case round =>
            clear HI HEE hLc hLm
            obtain ⟨n, m', ao, cap, L, rfl, hn0, hn1, rfl, hLc, hLm, hm', HJ, bz⟩ := hrel
            obtain ⟨wz, hwz⟩ : ∃ wz, wz = wr := ⟨_, rfl⟩
            subst hwz
            have a0 := (bz.cell (p := ⟨U, 0, none⟩) sU).trans u0
            have a1 := (bz.cell (p := ⟨U, 1, none⟩) sU).trans u1
            have a2 := (bz.cell (p := ⟨U, 2, none⟩) sU).trans u2
            have hUz : U < wz.heap.size := Nat.lt_of_lt_of_le sU bz.size
            have BZ : Below w.heap.size w wz := HBW1.out.trans (bz.mono HBW1.out.size)
            obtain ⟨T, hT⟩ : ∃ T : Bool, (decide (n < q2) && decide (y < (((ks.drop m').map fun k => (l.getD k.toNat Nod.zero).kind).length : Int)) && headF fit q0 ((ks.drop m').map fun k => (l.getD k.toNat Nod.zero).kind)) = T := ⟨_, rfl⟩
            have hdl : (ks.drop m').length = L := by rw [List.length_drop, HKL.out, HJ.out.1]
            rw [List.length_map, hdl] at hT
            have HT := hide' hT
            have HDL := hide' hdl
            have HBZ := hide' BZ
            clear hT hdl BZ
            go_upto_region 12 with fail
            go_cut [55] (fun vt wx => vt = .bool T ∧ Below wz.heap.size wz wx)
            case first =>
              by_cases h1 : n < q2
              · have e1 : decide (n < q2) = true := decide_eq_true h1
                by_cases h2 : y < (L : Int)
                · have e2 : decide (y < (L : Int)) = true := decide_eq_true h2
                  obtain ⟨kd, r, hkr⟩ : ∃ kd r, ks.drop m' = kd :: r := by
                    cases hd : ks.drop m' with
                    | nil => have := HDL.out; rw [hd] at this; simp at this; omega
                    | cons a r => exact ⟨a, r, rfl⟩
                  have hri := HJ.out.2.1
                  rw [hkr] at hri
                  obtain ⟨ao', c', hv', _, hcc⟩ := hri
                  injection hv' with e3 e4 e5
                  subst e3
                  clear e4 e5
                  obtain ⟨a, ea, hab, hcell⟩ := hcc 0 (by simp)
                  subst ea
                  have ha0 : a.add 0 = a := by unfold Addr.add; simp
                  rw [ha0, List.getD_cons_zero] at hcell
                  have hml : m' < ks.length := by
                    have := HDL.out
                    rw [hkr] at this
                    have h9 := congrArg List.length hkr
                    rw [List.length_drop] at h9
                    simp at h9
                    omega
                  have hkd : ks.getD m' 0 = kd := by
                    rw [List.getD_eq_getElem?_getD]
                    have h9 : (ks.drop m')[0]? = some kd := by rw [hkr]; rfl
                    rw [List.getElem?_drop, Nat.add_zero] at h9
                    rw [h9]; rfl
                  obtain ⟨hkd0, hkd1⟩ := HIN.out m' hml
                  rw [hkd] at hkd0 hkd1
                  have CFT := hide' (fun W => HFK.out m' W hml)
                  rw [hkd] at CFT
                  obtain ⟨kn, rfl⟩ : ∃ kn : Nat, kd = (kn : Int) := ⟨kd.toNat, by omega⟩
                  rw [Int.toNat_natCast] at CFT
                  have hknl : kn < l.length := by omega
                  obtain ⟨vg, vo', pv', kv', eo, hvg, hna⟩ := HVC.out kn hknl
                  subst eo
                  have n0 := (HBZ.out.cell (p := ⟨vg, vo' + kn * 6, none⟩) hvg).trans hna.c0
                  have k0 := (HBZ.out.cell (p := a) hab).trans hcell
                  have hT2 := HT.out
                  rw [e1, e2, hkr] at hT2
                  simp only [List.map_cons, Int.toNat_natCast, Bool.true_and, headF] at hT2
                  generalize (l.getD kn Nod.zero).kind = kk at *
                  have HT2 := hide' hT2
                  have hL0 : decide ((0 : Int) < (L : Int)) = true := decide_eq_true (by omega)
                  have hL1 : 0 < L := by omega
                  have hkl : decide ((kn : Int) < (LL : Int)) = true := decide_eq_true (by have := HLL.out; omega)
                  have hkl' : kn < LL := by have := HLL.out; omega
                  clear hT2 hkr hcc hna hcell hkd hml hkd0 hkd1 ha0
                  have hz1 := HBZ.out.size
                  go_quiet ((go_at_call 48; exact Calls.quiet_of_same (CFT.out _)))
                  go_wp2_with fail
                  go_meet
                  exact ⟨by rw [← HT2.out], below_drewN _ _ nq⟩
                · have e2 : decide (y < (L : Int)) = false := decide_eq_false h2
                  have hTf : T = false := by rw [← HT.out, e1, e2]; rfl
                  subst hTf
                  go_quiet (fail)
                  go_wp2_with fail
                  go_meet
                  exact ⟨rfl, below_drewN _ _ nq⟩
              · have e1 : decide (n < q2) = false := decide_eq_false h1
                have hTf : T = false := by rw [← HT.out, e1]; rfl
                subst hTf
                go_quiet (fail)
                go_wp2_with fail
                go_meet
                exact ⟨rfl, below_drewN _ _ nq⟩
            case rest =>
              obtain ⟨rfl, bc⟩ := hcut
              have b0 := (bc.cell (p := ⟨U, 0, none⟩) hUz).trans a0
              have b1 := (bc.cell (p := ⟨U, 1, none⟩) hUz).trans a1
              have b2 := (bc.cell (p := ⟨U, 2, none⟩) hUz).trans a2
              have BC := hide' (bz.trans (bc.mono bz.size))
              have BWC := hide' (HBZ.out.trans (bc.mono HBZ.out.size))
              clear a0 a1 a2 bc
              cases T
              · have hE : EE = (n, (ks.drop m').map fun k => (l.getD k.toNat Nod.zero).kind) := by
                  rw [← HJ.out.2.2]
                  refine eatM_no ?_
                  rw [List.length_map, HDL.out]
                  exact HT.out
                have hG := HGO.out
                rw [hE] at hG
                simp only at hG
                have HE := hide' hE
                clear hE
                by_cases h9 : n < q1
                · rw [if_pos h9] at hG
                  have e9 : decide (n < q1) = true := decide_eq_true h9
                  subst hG
                  go_wp2_with fail
                  go_ret
                  exact ⟨rfl, BWC.out⟩
                · rw [if_neg h9] at hG
                  have HG := hide' hG
                  have e9 : decide (n < q1) = false := decide_eq_false h9
                  clear hG
                  go_wp2_with fail
                  go_roundw
                  case rel => exact ⟨k + 1, m', y, ao, cap, L, by omega, by go_num, by first | rfl | go_num, hxq, hyb, rfl, hLc, hLm, ⟨HJ.out.1, hm', HJ.out.2.1, HXQ.out, HG.out⟩, BWC.out⟩
                  case measure => first | (simp [intOf]; done) | (simp [intOf]; omega)
              · have hT1 := HT.out
                have hL1 : y < (L : Int) := by
                  simp only [Bool.and_eq_true, decide_eq_true_eq] at hT1
                  exact hT1.1.2
                have hLp : 1 ≤ L := by omega
                obtain ⟨kd, r, hkr⟩ : ∃ kd r, ks.drop m' = kd :: r := by
                  cases hd : ks.drop m' with
                  | nil => have := HDL.out; rw [hd] at this; simp at this; omega
                  | cons a r => exact ⟨a, r, rfl⟩
                have hrl : L = r.length + 1 := by rw [← HDL.out, hkr]; simp
                have hri := HJ.out.2.1
                rw [hkr] at hri
                obtain ⟨a, ea⟩ : ∃ a, ao = some a := by
                  obtain ⟨ao', c', hv', _, hcc⟩ := hri
                  injection hv' with e3 e4 e5
                  subst e3
                  obtain ⟨a, ea, _⟩ := hcc 0 (by simp)
                  exact ⟨a, ea⟩
                subst ea
                have htl := rdI_tail hri hrl
                have hdr2 : ks.drop (m' + 1) = r := by
                  have h5 := congrArg List.tail hkr
                  rw [List.tail_drop] at h5
                  exact h5
                have hee : eatM fit q0 q2 y (n + 1) ((ks.drop (m' + 1)).map fun k => (l.getD k.toNat Nod.zero).kind) = EE := by
                  rw [hdr2, ← HJ.out.2.2, hkr]
                  symm
                  rw [List.map_cons]
                  refine eatM_yes ?_
                  rw [← List.map_cons (f := fun k : Int => (l.getD k.toNat Nod.zero).kind), ← hkr, List.length_map, HDL.out]
                  exact HT.out
                have hm2 : m' + 1 ≤ KL := by have := HJ.out.1; omega
                have HEE := hide' hee
                have HTL := hide' htl
                have HRL := hide' hrl
                have HDR := hide' hdr2
                have hLi : (1 : Int) ≤ (L : Int) := by omega
                have hnm : n + 1 ≤ 9223372036854775807 := by omega
                clear hkr hri htl hrl hdr2 hee hT1 hL1
                by_cases hc1 : cap = 1
                · subst hc1
                  obtain rfl : L = 1 := by omega
                  go_wp2_with fail
                  go_roundw
                  case rel =>
                    refine ⟨n + 1, m' + 1, some a, 0, 0, by first | rfl | go_num, by omega, by omega, by first | rfl | simp, Nat.le_refl _, by decide, hm2, ⟨by have := HJ.out.1; omega, ?_, HEE.out⟩, BC.out⟩
                    have h0 : r = [] := by have := HRL.out; cases r with
                      | nil => rfl
                      | cons _ _ => simp at this
                    rw [HDR.out, h0]
                    exact ⟨_, _, rfl, by simp, fun j hj => by simp at hj⟩
                  case measure => simp [lenS]
                · go_wp2_with fail
                  go_roundw
                  case rel =>
                    refine ⟨n + 1, m' + 1, some (a.add 1), cap - 1, L - 1, by first | rfl | go_num, by omega, by omega, by first | rfl | simp [hc1], by omega, by omega, hm2, ⟨by have := HJ.out.1; omega, ?_, HEE.out⟩, BC.out⟩
                    rw [HDR.out]
                    have h0 : L - 1 = r.length := by have := HRL.out; omega
                    rw [h0]
                    exact HTL.out
                  case measure => simp [lenS]; omega
        · have hdr : ps.drop k = [] := List.drop_eq_nil_iff.2 (by have := HP.out; omega)
          have hRR : ((L : Int) == 0) = R := by
            have h1 := HI.out.2.2.2.2
            rw [hdr] at h1
            rw [← h1]
            show _ = List.isEmpty _
            have h2 : (ks.drop m).length = L := by rw [List.length_drop, HKL.out, HI.out.1]
            rw [List.isEmpty_map]
            cases hd : ks.drop m with
            | nil => rw [hd] at h2; simp at h2; subst h2; rfl
            | cons a r => rw [hd] at h2; simp at h2; subst h2; simp; omega
          have HRR := hide' hRR
          clear hRR hdr
          go_wp2_with fail
          go_ret
          exact ⟨by rw [← HRR.out]; rfl, bw⟩
end Go.Proofs.YtbcmpacmoofdkaaGreatDoor
