/- The document's Same at any numbers; both answer the same. -/
import Derived.Test.YtbcmpacmoofdkaaGreatDoorProg
import Derived.Test.YtbcmpacmoofdkaaGreatDoorSam7
import Derived.Test.YtbcmpacmoofdkaaGreatDoorSam12
import Derived.WalkKit
import Derived.ProofKit
import Derived.OpenShut
import Derived.Below
import Derived.WalkLawsBesides
import Derived.OwnWalk
import Derived.BigQuiet
import Derived.WalkSmall
import Derived.Deep.DeepCutAuto
import Derived.Test.YtbcmpacmoofdkaaGreatDoorTree47
namespace Go.Proofs.YtbcmpacmoofdkaaGreatDoor
open Go.ChangeShapes Go.WideShapes Go.ChangeAt Go.RowKit

set_option maxRecDepth 100000 in
set_option maxHeartbeats 8000000 in
theorem rsameS_out (va vb : Value) (a b : List Nod) (i k : Int) (w : World) (ha : RdN w.heap.size w va a) (hb : RdN w.heap.size w vb b) (h : ¬ ((0 ≤ i ∧ i < (a.length : Int)) ∧ (0 ≤ k ∧ k < (b.length : Int)))) :
    Calls Tryz.prog 12 #[va, .int .i64 i, vb, .int .i64 k] w fun e w' => e = .returned (.bool false) ∧ Below w.heap.size w w' := by
  obtain ⟨ao, ac, hva, hal, _⟩ := ha
  subst hva
  obtain ⟨bo, bc, hvb, hbl, _⟩ := hb
  subst hvb
  generalize a.length = AL at *
  generalize b.length = BL at *
  by_cases h1 : i < 0
  · have f1 : decide (i < 0) = true := decide_eq_true h1
    clear h h1
    go_enter Tryz.func12, Tryz.ntmps12
    go_wp2
    go_ret
    exact ⟨rfl, Below.refl _ _⟩
  · have f1 : decide (i < 0) = false := decide_eq_false h1
    by_cases h2 : k < 0
    · have f2 : decide (k < 0) = true := decide_eq_true h2
      clear h h1 h2
      go_enter Tryz.func12, Tryz.ntmps12
      go_wp2
      go_ret
      exact ⟨rfl, Below.refl _ _⟩
    · have f2 : decide (k < 0) = false := decide_eq_false h2
      by_cases h3 : i ≥ (AL : Int)
      · have f3 : decide (i ≥ (AL : Int)) = true := decide_eq_true h3
        clear h h1 h2 h3
        go_enter Tryz.func12, Tryz.ntmps12
        go_wp2
        go_ret
        exact ⟨rfl, Below.refl _ _⟩
      · have f3 : decide (i ≥ (AL : Int)) = false := decide_eq_false h3
        have f4 : decide (k ≥ (BL : Int)) = true := decide_eq_true (by omega)
        clear h h1 h2 h3
        go_enter Tryz.func12, Tryz.ntmps12
        go_wp2
        go_ret
        exact ⟨rfl, Below.refl _ _⟩
theorem rsameS_any (va vb : Value) (a b : List Nod) (i k : Int) (w : World) (ha : RdN w.heap.size w va a) (hb : RdN w.heap.size w vb b) (hA20 : a.length ≤ 1048576) (hB20 : b.length ≤ 1048576) (hsa : ∀ j, j < a.length → SmallN (a.getD j Nod.zero)) (hsb : ∀ j, j < b.length → SmallN (b.getD j Nod.zero)) :
    Calls Tryz.prog 12 #[va, .int .i64 i, vb, .int .i64 k] w fun e w' => e = .returned (.bool (sameA a i b k)) ∧ Below w.heap.size w w' := by
  unfold sameA
  by_cases h : (0 ≤ i ∧ i < (a.length : Int)) ∧ (0 ≤ k ∧ k < (b.length : Int))
  · rw [if_pos h, same_same]
    obtain ⟨n, rfl⟩ : ∃ n : Nat, i = (n : Int) := ⟨i.toNat, by omega⟩
    obtain ⟨m, rfl⟩ : ∃ m : Nat, k = (m : Int) := ⟨k.toNat, by omega⟩
    rw [Int.toNat_natCast, Int.toNat_natCast]
    exact rsameS_in va vb a b n m w ha hb (by omega) (by omega) hA20 hB20 (fun j hj => (hsa j hj).kl) (fun j hj => (hsb j hj).kl)
  · rw [if_neg h]
    exact rsameS_out va vb a b i k w ha hb h
end Go.Proofs.YtbcmpacmoofdkaaGreatDoor
/- The law TreeSames, walked: whatever modest nodes and numbers, both tell the same of two trees. -/
namespace Go.Proofs.YtbcmpacmoofdkaaGreatDoor.treeSames
open Go.ChangeShapes Go.WideShapes Go.ChangeAt Go.RowKit

theorem powG : Tryz.prog.globalNamed "internal/strconv.uint64pow10" = some 3 := by kernel_rfl
set_option maxRecDepth 100000 in
set_option maxHeartbeats 8000000 in
theorem walk (va vb : Value) (a b : List Nod) (i k : Int) (w : World) (RD : Rdy w) (htab : Lib.TabIs Tryz.prog w "strings.asciiSpace" .u8 Lib.asciiSpaceTab) (hpow : Lib.TabIs Tryz.prog w "internal/strconv.uint64pow10" .u64 Lib.pow10Tab) (ha : RdN w.heap.size w va a) (hb : RdN w.heap.size w vb b) (hA20 : a.length ≤ 1048576) (hB20 : b.length ≤ 1048576) (hsa : ∀ j, j < a.length → SmallN (a.getD j Nod.zero)) (hsb : ∀ j, j < b.length → SmallN (b.getD j Nod.zero)) :
    Calls Tryz.prog 5 #[va, vb, .int .i64 i, .int .i64 k] w fun e w' => e = .returned (.bool true) ∧ Below w.heap.size w w' := by
  have hP : PowB w.heap.size w := fun w' b => tab_keep powG hpow b
  have C1 := hide' (sameP_any va vb a b i k w ha hb hP hsa hsb)
  have C2 := hide' (fun W (bw : Below w.heap.size w W) => rsameS_any va vb a b i k W (rdN_mono (rdN_below ha bw) bw.size) (rdN_mono (rdN_below hb bw) bw.size) hA20 hB20 hsa hsb)
  have C3 := hide' (fun W (bw : Below w.heap.size w W) => sameP_any va va a a i k W (rdN_mono (rdN_below ha bw) bw.size) (rdN_mono (rdN_below ha bw) bw.size) (hP.on bw bw.size) hsa hsa)
  have C4 := hide' (fun W (bw : Below w.heap.size w W) => rsameS_any va va a a i k W (rdN_mono (rdN_below ha bw) bw.size) (rdN_mono (rdN_below ha bw) bw.size) hA20 hA20 hsa hsa)
  have CL := hide' (fun W (bw : Below w.heap.size w W) => alive_any W (RD.below bw) (tab_keep spaceG htab bw))
  obtain ⟨p, hp⟩ : ∃ p, sameA a i b k = p := ⟨_, rfl⟩
  obtain ⟨q, hq⟩ : ∃ q, sameA a i a k = q := ⟨_, rfl⟩
  rw [hp] at C1 C2
  rw [hq] at C3 C4
  have e1 : (p == p) = true := by cases p <;> rfl
  have e2 : (q == q) = true := by cases q <;> rfl
  obtain ⟨ao, ac, hva, _, _⟩ := ha
  subst hva
  obtain ⟨bo, bc, hvb, _, _⟩ := hb
  subst hvb
  generalize a.length = AL at *
  generalize b.length = BL at *
  clear hp hq RD htab hpow hP hsa hsb
  go_enter Tryz.func5, Tryz.ntmps5
  go_wp2_with (first
    | (go_at_call 11; refine C1.out.mono ?_; clear C1; rintro e w1 ⟨rfl, b1⟩; (have B1 := hide' b1); clear b1)
    | (go_at_call 12; refine (C2.out _ B1.out).mono ?_; clear C2; rintro e w2 ⟨rfl, b2⟩; (have B2 : Hid' (Below w.heap.size w w2) := ⟨B1.out.trans (b2.mono B1.out.size)⟩); clear b2)
    | (go_at_call 11; refine (C3.out _ B2.out).mono ?_; clear C3; rintro e w3 ⟨rfl, b3⟩; (have B3 : Hid' (Below w.heap.size w w3) := ⟨B2.out.trans (b3.mono B2.out.size)⟩); clear b3)
    | (go_at_call 12; refine (C4.out _ B3.out).mono ?_; clear C4; rintro e w4 ⟨rfl, b4⟩; (have B4 : Hid' (Below w.heap.size w w4) := ⟨B3.out.trans (b4.mono B3.out.size)⟩); clear b4)
    | (go_at_call 8; refine (CL.out _ B4.out).mono ?_; clear CL; rintro e w5 ⟨rfl, b5⟩; (have B5 : Hid' (Below w.heap.size w w5) := ⟨B4.out.trans (b5.mono B4.out.size)⟩); clear b5))
  go_ret
  exact ⟨rfl, B5.out⟩
end Go.Proofs.YtbcmpacmoofdkaaGreatDoor.treeSames
