/- alive: Scan, Parse and Check of `val x = 1 + 2 * 3`. -/
import Derived.Test.YtbcmpacmoofdkaaGreatDoorProg
import Derived.Test.YtbcmpacmoofdkaaGreatDoorTree46
import Derived.WalkKit
import Derived.ProofKit
import Derived.OpenShut
import Derived.Below
import Derived.WalkLawsBesides
import Derived.OwnWalk
import Derived.BigQuiet
import Derived.Deep.MidRow
import Derived.Deep.RegionHeld
import Derived.Deep.RegionHeld3
import Derived.WalkSmall
import Derived.Deep.DeepCutAuto
namespace Go.Proofs.YtbcmpacmoofdkaaGreatDoor
open Go.ChangeShapes Go.WideShapes Go.ChangeAt Go.RowKit

def pOf : Value → Option Addr × Nat
  | .slice a _ c => (a, c)
  | _ => (none, 0)
theorem pathNil {B : Nat} {w : World} {p : Value} (h : OwnS B p [] w) : p = .slice (pOf p).1 0 (pOf p).2 := by
  rcases h.2 with ⟨hv, _⟩ | ⟨g, cap, cur, hv, _⟩
  · rw [hv]; rfl
  · rw [hv]; rfl
def aliveT : List Tok := [⟨1, [118, 97, 108], [], 1, 1⟩, ⟨2, [120], [], 1, 5⟩, ⟨1, [61], [], 1, 7⟩, ⟨4, [49], [], 1, 9⟩, ⟨2, [43], [], 1, 11⟩, ⟨4, [50], [], 1, 13⟩, ⟨2, [42], [], 1, 15⟩, ⟨4, [51], [], 1, 17⟩]
theorem tks_row {B : Nat} {w : World} {v : Value} (h : TokRow B v aliveT w) : ∃ P, RdTk w.heap.size w v (tks P) := by
  obtain ⟨ps, hp, hr⟩ := h
  obtain ⟨p0, p1, p2, p3, p4, p5, p6, p7, rfl, h0, h1, h2, h3, h4, h5, h6, h7⟩ : ∃ p0 p1 p2 p3 p4 p5 p6 p7, ps = [p0, p1, p2, p3, p4, p5, p6, p7] ∧ OwnS B p0 [] w ∧ OwnS B p1 [] w ∧ OwnS B p2 [] w ∧ OwnS B p3 [] w ∧ OwnS B p4 [] w ∧ OwnS B p5 [] w ∧ OwnS B p6 [] w ∧ OwnS B p7 [] w := by
    match ps, hp with
    | [p0, p1, p2, p3, p4, p5, p6, p7], ⟨h0, h1, h2, h3, h4, h5, h6, h7, _⟩ => exact ⟨p0, p1, p2, p3, p4, p5, p6, p7, rfl, h0, h1, h2, h3, h4, h5, h6, h7⟩
  have q0 := pathNil h0
  have q1 := pathNil h1
  have q2 := pathNil h2
  have q3 := pathNil h3
  have q4 := pathNil h4
  have q5 := pathNil h5
  have q6 := pathNil h6
  have q7 := pathNil h7
  obtain ⟨g, cap, hv, hg, hlt⟩ := hr.form (by decide)
  subst hv
  have hcell : ∀ j u, j < 40 → (tokCells aliveT [p0, p1, p2, p3, p4, p5, p6, p7])[j]? = some u → w.cell? ⟨g, j, none⟩ = some u := fun j u hj hu => by
    rw [hr.cellAt j hj]; exact hu
  have rp : ∀ ao c, RdP w.heap.size w (.slice ao 0 c) [] := fun ao c => ⟨ao, c, rfl, by simp, fun j hj => absurd hj (by simp)⟩
  refine ⟨fun j => pOf ([p0, p1, p2, p3, p4, p5, p6, p7].getD j (.int .i64 0)), _, _, rfl, by simp [tks], fun j hj => ⟨g, 0, rfl, hlt, ?_⟩⟩
  match j, hj with
  | 0, _ => exact ⟨hcell 0 _ (by decide) rfl, hcell 1 _ (by decide) rfl, hcell 2 _ (by decide) (congrArg some q0), hcell 3 _ (by decide) rfl, hcell 4 _ (by decide) rfl, rp _ _⟩
  | 1, _ => exact ⟨hcell 5 _ (by decide) rfl, hcell 6 _ (by decide) rfl, hcell 7 _ (by decide) (congrArg some q1), hcell 8 _ (by decide) rfl, hcell 9 _ (by decide) rfl, rp _ _⟩
  | 2, _ => exact ⟨hcell 10 _ (by decide) rfl, hcell 11 _ (by decide) rfl, hcell 12 _ (by decide) (congrArg some q2), hcell 13 _ (by decide) rfl, hcell 14 _ (by decide) rfl, rp _ _⟩
  | 3, _ => exact ⟨hcell 15 _ (by decide) rfl, hcell 16 _ (by decide) rfl, hcell 17 _ (by decide) (congrArg some q3), hcell 18 _ (by decide) rfl, hcell 19 _ (by decide) rfl, rp _ _⟩
  | 4, _ => exact ⟨hcell 20 _ (by decide) rfl, hcell 21 _ (by decide) rfl, hcell 22 _ (by decide) (congrArg some q4), hcell 23 _ (by decide) rfl, hcell 24 _ (by decide) rfl, rp _ _⟩
  | 5, _ => exact ⟨hcell 25 _ (by decide) rfl, hcell 26 _ (by decide) rfl, hcell 27 _ (by decide) (congrArg some q5), hcell 28 _ (by decide) rfl, hcell 29 _ (by decide) rfl, rp _ _⟩
  | 6, _ => exact ⟨hcell 30 _ (by decide) rfl, hcell 31 _ (by decide) rfl, hcell 32 _ (by decide) (congrArg some q6), hcell 33 _ (by decide) rfl, hcell 34 _ (by decide) rfl, rp _ _⟩
  | 7, _ => exact ⟨hcell 35 _ (by decide) rfl, hcell 36 _ (by decide) rfl, hcell 37 _ (by decide) (congrArg some q7), hcell 38 _ (by decide) rfl, hcell 39 _ (by decide) rfl, rp _ _⟩
  | j + 8, hj => exact absurd hj (by simp [tks])

theorem tks_8 (P : Nat → Option Addr × Nat) {p : ITk → Prop} (h : ∀ t ∈ tks P, p t) : ∀ j, j < (tks P).length → p ((tks P).getD j ITk.zero) := fun j hj => by
  rw [List.getD_eq_getElem?_getD, List.getElem?_eq_getElem hj]
  exact h _ (List.getElem_mem hj)

theorem parse_alive (tv : Value) (w : World) (RD : Rdy w) (htab : Lib.TabIs Tryz.prog w "strings.asciiSpace" .u8 Lib.asciiSpaceTab) (P : Nat → Option Addr × Nat) (hr : RdTk w.heap.size w tv (tks P)) :
    Calls Tryz.prog 17 #[tv] w fun e w' => ∃ nv, e = .returned (.tuple #[nv, .int .i64 12, .int .i64 0, .int .i64 0, .int .i64 0]) ∧ RdN w'.heap.size w' nv ndE ∧ NCap w' nv ndE ∧ Below w.heap.size w w' :=
  parse_of tv (tks P) w RD htab hr (tks_8 P (p := fun t => t.path = []) (by simp [tks])) (tks_8 P (p := fun t => okW t.kind t.text t.path = true) (by
    intro t ht
    simp only [tks, List.mem_cons, List.not_mem_nil, or_false] at ht
    rcases ht with rfl | rfl | rfl | rfl | rfl | rfl | rfl | rfl <;> kernel_rfl)) 8 12 ndE dpE (by simp [tks]) (by simp [ndE]) (by decide)
    (fun b W g1 s => road_decs b tv P 0 _ _ _ W s (by decide))

theorem scan_alive_any (w : World) (RD : Rdy w) : Calls Tryz.prog 16 #[.string ⟨#[118, 97, 108, 32, 120, 32, 61, 32, 49, 32, 43, 32, 50, 32, 42, 32, 51]⟩] w fun e w' => ∃ v P, e = .returned (.tuple #[v, .int .i64 0, .int .i64 0, .int .i64 0]) ∧ RdTk w'.heap.size w' v (tks P) ∧ Below w.heap.size w w' :=
  (scan_any ⟨#[118, 97, 108, 32, 120, 32, 61, 32, 49, 32, 43, 32, 50, 32, 42, 32, 51]⟩ (by decide) w RD).mono (fun e w' x => by
    obtain ⟨⟨v, ht, he⟩, b⟩ := x
    rw [show (ByteArray.mk #[118, 97, 108, 32, 120, 32, 61, 32, 49, 32, 43, 32, 50, 32, 42, 32, 51]).data.toList = [118, 97, 108, 32, 120, 32, 61, 32, 49, 32, 43, 32, 50, 32, 42, 32, 51] from rfl, scan_alive] at ht he
    obtain ⟨P, hP⟩ := tks_row (v := v) ht
    exact ⟨v, P, he, hP, b⟩)

set_option maxRecDepth 100000 in
set_option maxHeartbeats 16000000 in
theorem alive_any (w : World) (RD : Rdy w) (htab : Lib.TabIs Tryz.prog w "strings.asciiSpace" .u8 Lib.asciiSpaceTab) : Calls Tryz.prog 8 #[] w fun e w' => e = .returned (.bool true) ∧ Below w.heap.size w w' := by
  have CS := hide' (scan_alive_any w RD)
  have CP := hide' (fun w1 (b1 : Below w.heap.size w w1) tv P hr => parse_alive tv w1 (RD.below b1) (tab_keep spaceG htab b1) P hr)
  clear RD htab
  go_enter Tryz.func8, Tryz.ntmps8
  go_upto_region 3 with (first
    | (go_at_call 16; refine CS.out.mono ?_; clear CS; rintro e w1 ⟨v, P, rfl, hr, b1⟩; (have HR := hide' hr); (have HB1 := hide' b1); clear hr b1)
    | (go_at_call 17; refine (CP.out _ HB1.out _ _ HR.out).mono ?_; clear CP; rintro e w2 ⟨nv, rfl, hn, hc, b2⟩))
  have CK := hide' (check_alive nv w2 hn hc)
  obtain ⟨ao, cap, hv, _, hcc⟩ := hn
  rw [show ndE.length = 13 from rfl] at hv hcc
  subst hv
  obtain ⟨g, o, pv, kv, ea, hg, hat⟩ := hcc 9 (by decide)
  subst ea
  have c0 : w2.cell? ⟨g, o + 54, none⟩ = some (.int .i64 17) := hat.c0
  clear hcc hat hc
  go_wp2_with (go_at_call 6; refine CK.out.mono ?_; clear CK; rintro e w3 ⟨rfl, b3⟩)
  go_ret
  exact ⟨rfl, (HB1.out.trans (b2.mono HB1.out.size)).trans (b3.mono (Nat.le_trans HB1.out.size b2.size))⟩
end Go.Proofs.YtbcmpacmoofdkaaGreatDoor
