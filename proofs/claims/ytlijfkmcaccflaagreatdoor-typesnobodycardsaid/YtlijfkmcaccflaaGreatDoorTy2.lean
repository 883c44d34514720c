/- Books of types: sizes, has. -/
import Derived.Test.YtlijfkmcaccflaaGreatDoorProg
import Derived.Test.YtlijfkmcaccflaaGreatDoorTy1
import Derived.WalkKit
import Derived.ProofKit
import Derived.OpenShut
import Derived.Below
import Derived.WalkLawsBesides
import Derived.OwnWalk
import Derived.BigQuiet
import Derived.Deep.QuietTactic
import Derived.WalkSmall
import Derived.Deep.DeepCutAuto
namespace Go.Proofs.YtlijfkmcaccflaaGreatDoor
open Go.ChangeShapes Go.WideShapes Go.ChangeAt Go.RowKit

/-- Numbers that can be read. -/
def Rd (w : World) (v : Value) (l : List Int) : Prop :=
  ∃ ao cap, v = .slice ao l.length cap ∧ l.length ≤ 100 ∧ ∀ j, j < l.length → ∃ g, ao = some ⟨g, 0, none⟩ ∧ w.cell? ⟨g, j, none⟩ = some (.int .i64 (l.getD j 0))
theorem Nums.rd {lo hi : Nat} {no : Option Nat} {w : World} {v : Value} {l : List Int} (h : Nums lo hi no w v l) : Rd w v l := by
  obtain ⟨ao, cap, hv, h1, h2, hc⟩ := h
  refine ⟨ao, cap, hv, h2, fun j hj => ?_⟩
  obtain ⟨g, ha, _, _, _, hx⟩ := hc j hj
  exact ⟨g, ha, hx⟩
theorem Rd.drew {w : World} {v : Value} {l : List Int} (h : Rd w v l) (n : Nat) : Rd (w.drewN n) v l := by
  obtain ⟨ao, cap, hv, h2, hc⟩ := h
  refine ⟨ao, cap, hv, h2, fun j hj => ?_⟩
  obtain ⟨g, ha, hx⟩ := hc j hj
  exact ⟨g, ha, hx⟩
theorem below_drew (B : Nat) (w : World) (n : Nat) : Below B w (w.drewN n) := ⟨rfl, rfl, rfl, Nat.le_refl _, fun _ _ => rfl⟩
theorem rd_nil (w : World) : Rd w (.slice none 0 0) [] := ⟨none, 0, rfl, by simp, fun j hj => absurd hj (Nat.not_lt_zero j)⟩
def kindA (cs : List Tc) (t : Nat) : Int := (cs.getD t Tc.zero).kind
def toA (cs : List Tc) (t : Nat) : Int := (cs.getD t Tc.zero).to
def argsA (cs : List Tc) (t : Nat) : List Int := (cs.getD t Tc.zero).args
/-- What a type is now. -/
def nw (cs : List Tc) (t : Nat) : Nat := if kindA cs t = 0 then (toA cs t).toNat else t
/-- A number that is a type of the book, one step at most from what it is. -/
def Good (cs : List Tc) (t : Nat) : Prop := t < cs.length ∧ nw cs t < cs.length ∧ kindA cs (nw cs t) ≠ 0 ∧ 0 ≤ toA cs t
instance (cs : List Tc) (t : Nat) : Decidable (Good cs t) := by unfold Good; infer_instance
theorem now_of (b hi : Nat) (cv : Value) (cs : List Tc) (t : Nat) (w : World) (h : Bk b hi w cv cs) (hg : Good cs t) : Calls Tryz.prog 48 #[.pointer (some ⟨b, 0, none⟩), .int .i64 (t : Int)] w fun e w' => e = .returned (.int .i64 (nw cs t : Nat)) ∧ w' = w := by
  obtain ⟨h1, h2, h3, h4⟩ := hg
  by_cases hk : kindA cs t = 0
  · have e : nw cs t = (toA cs t).toNat := if_pos hk
    rw [e] at h2 h3
    have hne : t ≠ (toA cs t).toNat := fun e' => h3 (by rw [← e']; exact hk)
    rw [e]
    exact now_one b hi cv cs t (toA cs t).toNat w h h1 h2 hk (by show toA cs t = _; omega) h3 hne
  · have e : nw cs t = t := if_neg hk
    rw [e]
    exact now_same b hi cv cs t w h h1 hk
def siz (cs : List Tc) : Nat → Int → Nat
  | 0, _ => 0
  | d + 1, t => 1 + ((argsA cs (nw cs t.toNat)).map (siz cs d)).sum
def Ok (cs : List Tc) : Nat → Int → Prop
  | 0, _ => False
  | d + 1, t => 0 ≤ t ∧ Good cs t.toNat ∧ ∀ a ∈ argsA cs (nw cs t.toNat), Ok cs d a
def sizes (cs : List Tc) (d : Nat) (l : List Int) : Nat := (l.map (siz cs d)).sum
theorem sizes_snoc (cs : List Tc) (d : Nat) (l : List Int) (k : Nat) (h : k < l.length) : sizes cs d (l.take (k + 1)) = sizes cs d (l.take k) + siz cs d (l.getD k 0) := by
  unfold sizes
  rw [List.take_succ_eq_append_getElem h, List.map_append, List.sum_append]
  simp [List.getD_eq_getElem?_getD, h]
theorem sizes_le (cs : List Tc) (d : Nat) (l : List Int) (k : Nat) : sizes cs d (l.take k) ≤ sizes cs d l := by
  unfold sizes
  conv => rhs; rw [← List.take_append_drop k l]
  rw [List.map_append, List.sum_append]
  omega
theorem getD_mem (l : List Int) (k : Nat) (h : k < l.length) : l.getD k 0 ∈ l := by
  rw [List.getD_eq_getElem?_getD, List.getElem?_eq_getElem h]
  exact List.getElem_mem h
theorem siz_pos (cs : List Tc) (d : Nat) (t : Int) : 1 ≤ siz cs (d + 1) t := by unfold siz; omega

set_option maxRecDepth 100000 in
set_option maxHeartbeats 8000000 in
theorem left_nil (b : Nat) (ao : Option Addr) (cap : Nat) (size : Nat) (w : World) :
    Calls Tryz.prog 54 #[.pointer (some ⟨b, 0, none⟩), .int .i64 (size : Int), .slice ao 0 cap] w fun e w' => e = .returned (.int .i64 (size : Int)) ∧ w' = w := by
  go_enter Tryz.func54, Tryz.ntmps54
  go_wp2
  go_loop [1, 11] (fun vs vi => vs = .int .i64 (size : Int) ∧ vi = .int .i64 0) (fun _ _ => 0)
  case atStart => exact ⟨rfl, rfl⟩
  case round =>
    obtain ⟨rfl, rfl⟩ := hrel
    go_wp2
    go_ret
    simp

set_option maxRecDepth 100000 in
set_option maxHeartbeats 8000000 in
theorem left_any (b hi : Nat) (cv : Value) (cs : List Tc) : ∀ (d : Nat) (v : Value) (l : List Int) (size : Nat) (w : World), Bk b hi w cv cs → Rd w v l → (∀ a ∈ l, Ok cs d a) → size ≤ 2048 → sizes cs d l ≤ size →
    Calls Tryz.prog 54 #[.pointer (some ⟨b, 0, none⟩), .int .i64 (size : Int), v] w fun e w' => e = .returned (.int .i64 ((size - sizes cs d l : Nat) : Int)) ∧ ∃ n, w' = w.drewN n := by
  intro d
  induction d with
  | zero =>
    intro v l size w hb hr hok hsz hle
    obtain ⟨ao, cap, hv, hl, hc⟩ := hr
    have : l = [] := by
      cases l with
      | nil => rfl
      | cons a r => exact (hok a List.mem_cons_self).elim
    subst this
    subst hv
    refine (left_nil b ao cap size w).mono ?_
    rintro e w' ⟨rfl, rfl⟩
    exact ⟨rfl, 0, rfl⟩
  | succ d ih =>
    intro v l size w hb hr hok hsz hle
    have HB := hide' hb
    have c2 := hb.c2
    have hsm := hb.sm
    obtain ⟨ao, cap, hv, hl, hc⟩ := hr
    subst hv
    have HC := hide' hc
    have HOK := hide' hok
    have HLE := hide' hle
    have IH := hide' ih
    obtain ⟨L, hL⟩ : ∃ L, l.length = L := ⟨_, rfl⟩
    have HL := hide' hL
    rw [hL] at hl ⊢
    obtain ⟨CL, hCL⟩ : ∃ CL, cs.length = CL := ⟨_, rfl⟩
    have HCL := hide' hCL
    obtain ⟨R, hR⟩ : ∃ R, size - sizes cs (d + 1) l = R := ⟨_, rfl⟩
    have HR := hide' hR
    rw [hR]
    rw [hCL] at hsm
    clear hc hok hb hL hle hCL ih hR
    go_enter Tryz.func54, Tryz.ntmps54
    go_wp2
    go_loopw [1, 11] (fun vs vi wr => ∃ (k m : Nat), vi = .int .i64 (k : Int) ∧ vs = .int .i64 (m : Int) ∧ k ≤ L ∧ m ≤ 2048 ∧ Hid' (m + sizes cs (d + 1) (l.take k) = size) ∧ ∃ n, wr = w.drewN n) (fun _ vi _ => L - (intOf vi).toNat)
    case atStart => exact ⟨0, size, rfl, rfl, Nat.zero_le _, hsz, ⟨by simp [sizes]⟩, 0, rfl⟩
    case round =>
      obtain ⟨k, m, rfl, rfl, hk, hm, HI, n, rfl⟩ := hrel
      by_cases h1 : k < L
      · obtain ⟨g, eg, hcell⟩ := HC.out k (by have := HL.out; omega)
        subst eg
        obtain ⟨hx0, hgood, hargs⟩ := HOK.out _ (getD_mem l k (by have := HL.out; omega))
        have HS := hide' (sizes_snoc cs (d + 1) l k (by have := HL.out; omega))
        have hsl := sizes_le cs (d + 1) l (k + 1)
        obtain ⟨x, hx⟩ : ∃ x : Nat, l.getD k 0 = (x : Int) := ⟨(l.getD k 0).toNat, by omega⟩
        rw [hx, Int.toNat_natCast] at hgood hargs
        rw [hx] at hcell HS
        have hone : siz cs (d + 1) (x : Int) = 1 + sizes cs d (argsA cs (nw cs x)) := rfl
        rw [hone] at HS
        obtain ⟨m', hm'⟩ : ∃ m' : Nat, m = m' + 1 := ⟨m - 1, by have := HI.out; have := HS.out; have := HLE.out; omega⟩
        subst hm'
        obtain ⟨g2, cap2, hcv, _, _, hat⟩ := HB.out.at hgood.2.1
        have d3 := hat.c3
        have hrd := (HB.out.args _ hgood.2.1).rd
        obtain ⟨ao3, cap3, hv3, hl3, hc3⟩ := hrd
        rw [hv3] at d3
        have hle2 : sizes cs d (argsA cs (nw cs x)) ≤ m' := by have := HI.out; have := HS.out; have := HLE.out; omega
        have CL2 := hide' (fun n' => IH.out (.slice ao3 (argsA cs (nw cs x)).length cap3) (argsA cs (nw cs x)) m' ((w.drewN n).drewN n') ((HB.out.below (below_drew _ _ _)).below (below_drew _ _ _)) ((Rd.drew ⟨ao3, cap3, rfl, hl3, hc3⟩ n).drew n') hargs (by omega) hle2)
        have CN := hide' (fun n' => now_of b hi cv cs x ((w.drewN n).drewN n') ((HB.out.below (below_drew _ _ _)).below (below_drew _ _ _)) hgood)
        have c2' := c2
        rw [hcv] at c2'
        have hnl := hgood.2.1
        rw [HCL.out] at hnl c2'
        have hms : ((m' + 1 : Nat) : Int) - 1 = (m' : Int) := by omega
        have hmp : decide (((m' + 1 : Nat) : Int) ≤ 0) = false := by simp
        obtain ⟨y, hy⟩ : ∃ y, nw cs x = y := ⟨_, rfl⟩
        rw [hy] at CN hnl
        obtain ⟨A, hA⟩ : ∃ A, (argsA cs (nw cs x)).length = A := ⟨_, rfl⟩
        rw [show (cs.getD (nw cs x) Tc.zero).args.length = A from hA, hy] at d3
        rw [hA] at CL2
        obtain ⟨q, hq⟩ : ∃ q, m' - sizes cs d (argsA cs (nw cs x)) = q := ⟨_, rfl⟩
        rw [hq] at CL2
        have HQ : Hid' (q + sizes cs (d + 1) (l.take (k + 1)) = size) := ⟨by have := HI.out; have := HS.out; omega⟩
        have hq2 : q ≤ 2048 := by omega
        obtain ⟨M, hM⟩ : ∃ M : Nat, m' + 1 = M := ⟨_, rfl⟩
        rw [hM] at hms hmp hm HI ⊢
        clear hat hgood hargs hv3 hl3 hc3 hle2 hx0 hx hcv c2 hy hA hq hone hsl hM
        replace hcell : (w.drewN n).cell? ⟨g, k, none⟩ = some (.int .i64 (x : Int)) := hcell
        replace c2' : (w.drewN n).cell? ⟨b, 2, none⟩ = some (.slice (some ⟨g2, 0, none⟩) CL cap2) := c2'
        replace d3 : (w.drewN n).cell? ⟨g2, y * 12 + 3, none⟩ = some (.slice ao3 A cap3) := d3
        obtain ⟨W, hW⟩ : ∃ W, w.drewN n = W := ⟨_, rfl⟩
        have HW := hide' hW
        rw [hW] at hcell c2' d3 CL2 CN ⊢
        clear hW
        go_upto_region 6 with fail
        go_quiet (first | (go_at_call 48; exact Calls.quiet_of_same (CN.out _)) | (go_at_call 54; exact Calls.quiet_of (CL2.out _)))
        go_wp2
        go_roundw
        case rel => exact ⟨k + 1, q, by go_num, rfl, by omega, hq2, HQ, n + nq, by rw [← HW.out, World.drewN_drewN]⟩
        case measure => first | (simp [intOf]; done) | (simp [intOf]; omega)
      · have hm2 : Hid' (m = R) := ⟨by have := HI.out; have := HR.out; have := HL.out; rw [List.take_of_length_le (by omega)] at HI; have := HI.out; omega⟩
        obtain rfl : k = L := by omega
        clear h1
        go_wp2
        go_ret
        exact ⟨by rw [← hm2.out]; rfl, n, rfl⟩
/-- A slice that was laid just now. -/
theorem rd_new1 (w : World) (x : Int) (t : TypeId) : Rd (w.alloc (.cells #[.int .i64 x] t)) (.slice (some ⟨w.heap.size, 0, none⟩) 1 1) [x] := by
  refine ⟨_, 1, rfl, by simp, fun j hj => ⟨w.heap.size, rfl, ?_⟩⟩
  have : j = 0 := by simp at hj; omega
  subst this
  simp
theorem rd_new2 (w : World) (x y : Int) (t : TypeId) : Rd (w.alloc (.cells #[.int .i64 x, .int .i64 y] t)) (.slice (some ⟨w.heap.size, 0, none⟩) 2 2) [x, y] := by
  refine ⟨_, 2, rfl, by simp, fun j hj => ⟨w.heap.size, rfl, ?_⟩⟩
  have : j = 0 ∨ j = 1 := by simp at hj; omega
  rcases this with rfl | rfl <;> simp
theorem Rd.below {B : Nat} {w w' : World} {v : Value} {l : List Int} (h : Rd w v l) (b : Below B w w') (hb : ∀ g, v.ownBlock = some g → g < B) : Rd w' v l := by
  obtain ⟨ao, cap, hv, h2, hc⟩ := h
  refine ⟨ao, cap, hv, h2, fun j hj => ?_⟩
  obtain ⟨g, ha, hx⟩ := hc j hj
  exact ⟨g, ha, (b.cell (p := ⟨g, j, none⟩) (hb g (by rw [hv, ha]; rfl))).trans hx⟩

set_option maxRecDepth 100000 in
set_option maxHeartbeats 8000000 in
theorem large_no (b hi : Nat) (cv : Value) (cs : List Tc) (d : Nat) (v : Value) (l : List Int) (w : World) (hb : Bk b hi w cv cs) (hr : Rd w v l) (hv : ∀ g, v.ownBlock = some g → g < w.heap.size) (hok : ∀ a ∈ l, Ok cs d a) (hsz : ∀ a ∈ l, siz cs d a ≤ 2048) :
    Calls Tryz.prog 33 #[.pointer (some ⟨b, 0, none⟩), v] w fun e w' => e = .returned (.bool false) ∧ Below w.heap.size w w' := by
  have HB := hide' hb
  have HR := hide' hr
  have HV := hide' hv
  obtain ⟨ao, cap, hv', hl, hc⟩ := hr
  subst hv'
  have HC := hide' hc
  have HOK := hide' hok
  have HSZ := hide' hsz
  obtain ⟨L, hL⟩ : ∃ L, l.length = L := ⟨_, rfl⟩
  have HL := hide' hL
  rw [hL] at hl HR HV ⊢
  clear hc hok hb hL hv hsz
  go_enter Tryz.func33, Tryz.ntmps33
  go_wp2
  go_loopw [9] (fun vi wr => ∃ (k : Nat), vi = .int .i64 (k : Int) ∧ k ≤ L ∧ Below w.heap.size w wr) (fun vi _ => L - (intOf vi).toNat)
  case atStart => exact ⟨0, rfl, Nat.zero_le _, Below.refl _ _⟩
  case round =>
    obtain ⟨k, rfl, hk, bel⟩ := hrel
    by_cases h1 : k < L
    · obtain ⟨g, eg, hcell⟩ := HC.out k (by have := HL.out; omega)
      subst eg
      have hok := HOK.out _ (getD_mem l k (by have := HL.out; omega))
      have hsz := HSZ.out _ (getD_mem l k (by have := HL.out; omega))
      have hcell' := (bel.cell (p := ⟨g, k, none⟩) (HV.out g rfl)).trans hcell
      generalize l.getD k 0 = x at *
      have hle : sizes cs d [x] ≤ 2048 := by simpa [sizes] using hsz
      obtain ⟨R, hR⟩ : ∃ R, 2048 - sizes cs d [x] = R := ⟨_, rfl⟩
      have hRl : decide ((R : Int) < 0) = false := by simp
      have CL := hide' (fun W (hb' : Bk b hi W cv cs) (hr' : Rd W (.slice (some ⟨wr.heap.size, 0, none⟩) 1 1) [x]) => left_any b hi cv cs d _ [x] 2048 W hb' hr' (fun a ha => by rw [List.mem_singleton.1 ha]; exact hok) (by omega) hle)
      rw [hR] at CL
      have hB1 : Bk b hi wr cv cs := HB.out.below (bel.mono HB.out.hil)
      have hB2 : Bk b hi (wr.alloc (.cells #[.int .i64 x] 3)) cv cs := hB1.below ((Below.refl _ _).alloc hB1.hil _)
      have hR2 := rd_new1 wr x 3
      have CL2 := hide' (CL.out _ hB2 hR2)
      have HBel := hide' bel
      clear hok hsz hcell hle hR bel CL hB1 hB2 hR2
      go_wp2_with (go_at_call 54; refine CL2.out.mono ?_; rintro e w1 ⟨rfl, n1, rfl⟩)
      go_roundw
      case rel => exact ⟨k + 1, by go_num, by omega, (HBel.out.alloc HBel.out.size _).trans (below_drew _ _ _)⟩
      case measure => first | (simp [intOf]; done) | (simp [intOf]; omega)
    · go_wp2
      go_ret
      exact ⟨rfl, bel⟩

set_option maxRecDepth 100000 in
set_option maxHeartbeats 8000000 in
theorem has_yes (b hi : Nat) (cv : Value) (cs : List Tc) (v : Value) (l : List Int) (w : World) (hb : Bk b hi w cv cs) (hr : Rd w v l) (hok : ∀ a ∈ l, 0 ≤ a ∧ a < (cs.length : Int)) :
    Calls Tryz.prog 29 #[.pointer (some ⟨b, 0, none⟩), v] w fun e w' => e = .returned (.bool true) ∧ w' = w := by
  obtain ⟨ao, cap, hv', hl, hc⟩ := hr
  subst hv'
  have HC := hide' hc
  have HOK := hide' hok
  obtain ⟨L, hL⟩ : ∃ L, l.length = L := ⟨_, rfl⟩
  have HL := hide' hL
  rw [hL] at hl ⊢
  have c2 := hb.c2
  obtain ⟨co, cc, hcv⟩ : ∃ co cc, cv = .slice co cs.length cc := by
    rcases hb.row.2 with ⟨hv, h0⟩ | ⟨g, cap, cur, hv, _⟩
    · exact ⟨none, 0, by rw [hv, h0]⟩
    · exact ⟨_, _, hv⟩
  rw [hcv] at c2
  have hsm := hb.sm
  obtain ⟨N, hN⟩ : ∃ N, cs.length = N := ⟨_, rfl⟩
  rw [hN] at c2 hsm HOK
  clear hc hok hb hL hN hcv
  go_enter Tryz.func29, Tryz.ntmps29
  go_wp2
  go_loop [9] (fun vi => ∃ (k : Nat), vi = .int .i64 (k : Int) ∧ k ≤ L) (fun vi => L - (intOf vi).toNat)
  case atStart => exact ⟨0, rfl, Nat.zero_le _⟩
  case round =>
    obtain ⟨k, rfl, hk⟩ := hrel
    by_cases h1 : k < L
    · obtain ⟨g, eg, hcell⟩ := HC.out k (by have := HL.out; omega)
      subst eg
      obtain ⟨h2, h3⟩ := HOK.out _ (getD_mem l k (by have := HL.out; omega))
      generalize l.getD k 0 = x at *
      have h4 : decide (x < 0) = false := by simp; omega
      have h5 : decide (x ≥ (N : Int)) = false := by simp; omega
      go_wp2
      go_round
      case rel => exact ⟨k + 1, by go_num, by omega⟩
      case measure => first | (simp [intOf]; done) | (simp [intOf]; omega)
    · go_wp2
      go_ret
      simp
end Go.Proofs.YtlijfkmcaccflaaGreatDoor
