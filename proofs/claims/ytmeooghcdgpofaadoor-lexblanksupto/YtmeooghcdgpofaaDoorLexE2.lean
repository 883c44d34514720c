/- The program's writer: rows of strings that are read; which tokens are the same; which are too long. -/
import Derived.Test.YtmeooghcdgpofaaDoorProg
import Derived.Test.YtmeooghcdgpofaaDoorLexD16
import Derived.WalkKit
import Derived.ProofKit
import Derived.OpenShut
import Derived.Below
import Derived.WalkLawsBesides
import Derived.OwnWalk
import Derived.BigQuiet
import Derived.WalkSmall
import Derived.Deep.MidRow
import Derived.Deep.RegionHeld
import Derived.Deep.RegionHeld3
namespace Go.Proofs.YtmeooghcdgpofaaDoor
open Go.ChangeShapes Go.WideShapes Go.ChangeAt Go.RowKit

theorem add_block (a : Addr) (k : Nat) : (a.add k).block = a.block := by unfold Addr.add; split <;> rfl
/-- A slice of strings that can be read. -/
def RdS (w : World) (v : Value) (p : List (List UInt8)) : Prop :=
  ∃ ao cap, v = .slice ao p.length cap ∧ p.length ≤ 9223372036854775807 ∧ ∀ j, j < p.length → ∃ a : Addr, ao = some a ∧ a.block < w.heap.size ∧ w.cell? (a.add j) = some (.string ⟨(p.getD j []).toArray⟩)
theorem rdS_below {w w' : World} {v : Value} {p : List (List UInt8)} (h : RdS w v p) (b : Below w.heap.size w w') : RdS w' v p := by
  obtain ⟨ao, cap, hv, hm, hc⟩ := h
  refine ⟨ao, cap, hv, hm, fun j hj => ?_⟩
  obtain ⟨a, ha, hab, hcell⟩ := hc j hj
  exact ⟨a, ha, Nat.lt_of_lt_of_le hab b.size, by rw [b.cell (p := a.add j) (by rw [add_block]; exact hab)]; exact hcell⟩
theorem rdS_nil (w : World) : RdS w (.slice none 0 0) [] := ⟨none, 0, rfl, Nat.zero_le _, fun j hj => absurd hj (by simp)⟩
theorem rdS_own {B : Nat} {w : World} {v : Value} {p : List (List UInt8)} (h : OwnS B v p w) : RdS w v p := by
  rcases h.2 with ⟨hv, h0⟩ | ⟨g, cap, cur, hv, hb, hw, hr⟩
  · obtain rfl : p = [] := List.eq_nil_of_length_eq_zero h0
    rw [hv]; exact rdS_nil w
  · have hc := h.cells (g := g) (by rw [hv]; rfl)
    refine ⟨some ⟨g, 0, none⟩, cap, hv, (by have h1 := hr.1; have h2 := hr.2.1; unfold maxLen at h2; omega), fun j hj => ⟨_, rfl, ?_, ?_⟩⟩
    · rcases Nat.lt_or_ge g w.heap.size with x | x
      · exact x
      · rw [Array.getElem?_eq_none x] at hw; cases hw
    · refine hc j _ ?_
      simp [strCells, List.getD_eq_getElem?_getD, hj]
theorem take_eq_succ {p q : List (List UInt8)} {k : Nat} (hp : k < p.length) (hq : k < q.length) : p.take (k + 1) = q.take (k + 1) ↔ p.take k = q.take k ∧ p.getD k [] = q.getD k [] := by
  rw [List.take_succ_eq_append_getElem hp, List.take_succ_eq_append_getElem hq]
  have e1 : p.getD k [] = p[k] := by simp [List.getD_eq_getElem?_getD, hp]
  have e2 : q.getD k [] = q[k] := by simp [List.getD_eq_getElem?_getD, hq]
  rw [e1, e2]
  constructor
  · intro h
    have := List.append_inj' h rfl
    exact ⟨this.1, by simpa using this.2⟩
  · rintro ⟨h1, h2⟩; rw [h1, h2]
theorem str_eq {x y : List UInt8} {a b : ByteArray} (ha : ByteArray.mk x.toArray = a) (hb : ByteArray.mk y.toArray = b) : (a.toList == b.toList) = (x == y) := by
  subst ha hb
  rw [ByteArray.toList_eq, ByteArray.toList_eq]

set_option maxRecDepth 100000 in
set_option maxHeartbeats 8000000 in
theorem equal_any (v1 v2 : Value) (p q : List (List UInt8)) (w : World) (h1 : RdS w v1 p) (h2 : RdS w v2 q) : Calls Tryd.prog 36 #[v1, v2] w fun e w' => e = .returned (.bool (p == q)) ∧ Below w.heap.size w w' := by
  obtain ⟨ao, cap, rfl, hm, hc⟩ := h1
  obtain ⟨bo, cap2, rfl, hm2, hc2⟩ := h2
  obtain ⟨b, HB⟩ : ∃ b, Hid ((p == q) = b) := ⟨_, rfl⟩
  rw [HB.out]
  obtain ⟨L, hL⟩ : ∃ L, p.length = L := ⟨_, rfl⟩
  have HL := hide hL
  obtain ⟨M, hM⟩ : ∃ M, q.length = M := ⟨_, rfl⟩
  have HM := hide hM
  have HC := hide hc
  have HC2 := hide hc2
  rw [hL] at hm ⊢
  rw [hM] at hm2 ⊢
  clear hL hM hc hc2
  by_cases hLM : L = M
  · subst hLM
    go_enter Tryd.func36, Tryd.ntmps36
    go_wp2
    go_loopw [13] (fun vi wr => ∃ k : Nat, vi = .int .i64 (k : Int) ∧ k ≤ L ∧ Hid (p.take k = q.take k) ∧ Below w.heap.size w wr) (fun vi _ => L - (intOf vi).toNat)
    case atStart => exact ⟨0, rfl, Nat.zero_le _, rfl, Below.refl _ _⟩
    case round =>
      obtain ⟨k, rfl, hk, HI, bel⟩ := hrel
      by_cases hkL : k < L
      · obtain ⟨a1, ea1, hab1, hcell1⟩ := HC.out k (by have := HL.out; omega)
        obtain ⟨a2, ea2, hab2, hcell2⟩ := HC2.out k (by have := HM.out; omega)
        subst ea1 ea2
        obtain ⟨z1, ez1⟩ : ∃ z, ByteArray.mk (p.getD k []).toArray = z := ⟨_, rfl⟩
        obtain ⟨z2, ez2⟩ : ∃ z, ByteArray.mk (q.getD k []).toArray = z := ⟨_, rfl⟩
        have EE := hide (str_eq ez1 ez2)
        rw [ez1] at hcell1
        rw [ez2] at hcell2
        rw [← bel.cell (p := a1.add k) (by rw [add_block]; exact hab1)] at hcell1
        rw [← bel.cell (p := a2.add k) (by rw [add_block]; exact hab2)] at hcell2
        have TS := hide (take_eq_succ (p := p) (q := q) (k := k) (by have := HL.out; omega) (by have := HM.out; omega))
        clear ez1 ez2
        by_cases he : p.getD k [] = q.getD k []
        · have g : (z1.toList == z2.toList) = true := by rw [EE.out, he]; simp
          have HI2 : Hid (p.take (k + 1) = q.take (k + 1)) := TS.out.2 ⟨HI.out, he⟩
          clear he HI EE TS
          go_wp2
          go_quiet (fail)
          go_wp2
          go_roundw
          case rel => exact ⟨k + 1, by go_num, by omega, HI2, below_drewN bel _⟩
          case measure => simp [intOf]; omega
        · have g : (z1.toList == z2.toList) = false := by rw [EE.out]; simpa using he
          have HF : Hid (b = false) := by
            show _ = _
            rw [← HB.out]
            refine beq_eq_false_iff_ne.2 fun e => he ?_
            rw [e]
          clear he HI EE TS
          go_wp2
          go_quiet (fail)
          go_wp2
          go_ret
          rw [HF.out]
          exact ⟨rfl, below_drewN bel _⟩
      · obtain rfl : k = L := by omega
        have HF : Hid (b = true) := by
          show _ = _
          rw [← HB.out]
          have h := HI.out
          rw [List.take_of_length_le (by have := HL.out; omega), List.take_of_length_le (by have := HM.out; omega)] at h
          rw [h]; simp
        clear HI
        go_wp2
        go_ret
        rw [HF.out]
        exact ⟨rfl, bel⟩
  · have HF : Hid (b = false) := by
      show _ = _
      rw [← HB.out]
      refine beq_eq_false_iff_ne.2 fun e => hLM ?_
      rw [← HL.out, ← HM.out, e]
    have g : ((L : Int) != (M : Int)) = true := by simp; omega
    clear hLM
    go_enter Tryd.func36, Tryd.ntmps36
    go_wp2
    go_ret
    rw [HF.out]
    exact ⟨rfl, Below.refl _ _⟩
end Go.Proofs.YtmeooghcdgpofaaDoor
/- The program's writer: which tokens are the same; which are too long. -/
namespace Go.Proofs.YtmeooghcdgpofaaDoor
open Go.ChangeShapes Go.WideShapes Go.ChangeAt Go.RowKit

theorem toS_eq {a b : ByteArray} : (a.toList == b.toList) = (a.data.toList == b.data.toList) := by rw [ByteArray.toList_eq, ByteArray.toList_eq]

set_option maxRecDepth 100000 in
set_option maxHeartbeats 8000000 in
theorem same_any (k1 k2 x1 y1 x2 y2 : Int) (z1 z2 : ByteArray) (v1 v2 : Value) (p q : List (List UInt8)) (w : World) (h1 : RdS w v1 p) (h2 : RdS w v2 q) :
    Calls Tryd.prog 21 #[.agg #[.int .i64 k1, .string z1, v1, .int .i64 x1, .int .i64 y1], .agg #[.int .i64 k2, .string z2, v2, .int .i64 x2, .int .i64 y2]] w fun e w' => e = .returned (.bool (k1 == k2 && z1.data.toList == z2.data.toList && p == q)) ∧ Below w.heap.size w w' := by
  have CE := hide (fun W (b : Below w.heap.size w W) => equal_any v1 v2 p q W (rdS_below h1 b) (rdS_below h2 b))
  obtain ⟨ao, cap, rfl, hm, hc⟩ := h1
  obtain ⟨bo, cap2, rfl, hm2, hc2⟩ := h2
  clear hm hc hm2 hc2
  rw [← toS_eq]
  obtain ⟨b, hb⟩ : ∃ b, (p == q) = b := ⟨_, rfl⟩
  rw [hb] at CE ⊢
  generalize p.length = L at CE ⊢
  generalize q.length = M at CE ⊢
  clear hb
  cases g1 : (k1 == k2)
  · go_enter Tryd.func21, Tryd.ntmps21
    go_wp2
    go_ret
    exact ⟨rfl, ((Below.refl _ _).alloc (Nat.le_refl _) _).alloc (by simp) _⟩
  · cases g2 : (z1.toList == z2.toList)
    · go_enter Tryd.func21, Tryd.ntmps21
      go_wp2
      go_ret
      exact ⟨rfl, ((Below.refl _ _).alloc (Nat.le_refl _) _).alloc (by simp) _⟩
    · go_enter Tryd.func21, Tryd.ntmps21
      go_wp2_with (go_at_call 36; refine (CE.out _ (((Below.refl _ _).alloc (Nat.le_refl _) _).alloc (by simp) _)).mono ?_; rintro e w1 ⟨rfl, b1⟩)
      go_ret
      refine ⟨by cases b <;> rfl, ?_⟩
      exact (((Below.refl _ _).alloc (Nat.le_refl _) _).alloc (by simp) _).trans (b1.mono (by simp; omega))

/-- How many bytes a token's path has, with its points. -/
def sumN (p : List (List UInt8)) : Nat := (p.map fun x => x.length + 1).sum
theorem sumN_succ {p : List (List UInt8)} {k : Nat} (h : k < p.length) : sumN (p.take (k + 1)) = sumN (p.take k) + ((p.getD k []).length + 1) := by
  rw [List.take_succ_eq_append_getElem h]
  have e1 : p.getD k [] = p[k] := by simp [List.getD_eq_getElem?_getD, h]
  rw [e1]
  unfold sumN
  rw [List.map_append, List.sum_append]
  rfl
theorem sumN_take_le (p : List (List UInt8)) (k : Nat) : sumN (p.take k) ≤ sumN p := by
  conv => rhs; rw [← List.take_append_drop k p]
  unfold sumN
  rw [List.map_append, List.sum_append]
  omega
def tooB (n : Nat) (p : List (List UInt8)) : Bool := decide (1048576 < n + sumN p)

set_option maxRecDepth 100000 in
set_option maxHeartbeats 8000000 in
theorem tooLong_any (k1 x1 y1 : Int) (z1 : ByteArray) (v1 : Value) (p : List (List UInt8)) (w : World) (h1 : RdS w v1 p) (hz : z1.size ≤ 281474976710656) (hp : ∀ j, j < p.length → (p.getD j []).length ≤ 281474976710656) :
    Calls Tryd.prog 19 #[.agg #[.int .i64 k1, .string z1, v1, .int .i64 x1, .int .i64 y1]] w fun e w' => e = .returned (.bool (tooB z1.size p)) ∧ Below w.heap.size w w' := by
  obtain ⟨ao, cap, rfl, hm, hc⟩ := h1
  have HC := hide hc
  have HP := hide hp
  obtain ⟨L, hL⟩ : ∃ L, p.length = L := ⟨_, rfl⟩
  have HL := hide hL
  rw [hL] at hm ⊢
  obtain ⟨b, HB⟩ : ∃ b, Hid (tooB z1.size p = b) := ⟨_, rfl⟩
  rw [HB.out]
  clear hL hc hp
  go_enter Tryd.func19, Tryd.ntmps19
  go_wp2
  generalize hW0 : w.alloc (.cells #[.int .i64 k1, .string z1, .slice ao L cap, .int .i64 x1, .int .i64 y1] 34) = W0
  have B0 : Below w.heap.size w W0 := by rw [← hW0]; exact (Below.refl _ _).alloc (Nat.le_refl _) _
  clear hW0
  go_loop [3, 12] (fun vs vi => ∃ k m : Nat, vi = .int .i64 (k : Int) ∧ vs = .int .i64 (m : Int) ∧ k ≤ L ∧ m ≤ 281474976710656 ∧ Hid (m = z1.size + sumN (p.take k))) (fun _ vi => L - (intOf vi).toNat)
  case atStart => exact ⟨0, z1.size, rfl, rfl, Nat.zero_le _, hz, by show _ = _; simp [sumN]⟩
  case round =>
    obtain ⟨k, m, rfl, rfl, hk, hmm, HI⟩ := hrel
    by_cases hkL : k < L
    · obtain ⟨a1, ea1, hab1, hcell1⟩ := HC.out k (by have := HL.out; omega)
      subst ea1
      have hpk := HP.out k (by have := HL.out; omega)
      have HS := hide (sumN_succ (p := p) (k := k) (by have := HL.out; omega))
      obtain ⟨z2, ez2⟩ : ∃ z, ByteArray.mk (p.getD k []).toArray = z := ⟨_, rfl⟩
      have hz2 : (p.getD k []).length = z2.size := by rw [← ez2]; simp [ByteArray.size]
      rw [ez2] at hcell1
      rw [hz2] at hpk HS
      obtain ⟨n, hn⟩ : ∃ n, z2.size = n := ⟨_, rfl⟩
      rw [hn] at hpk HS
      obtain ⟨m2, hm2⟩ : ∃ m2, m + (n + 1) = m2 := ⟨_, rfl⟩
      have hm2i : (m : Int) + ((n : Int) + 1) = (m2 : Int) := by omega
      have HM2 := hide hm2
      have hm2b : m2 ≤ 562949953421313 := by omega
      rw [← B0.cell (p := a1.add k) (by rw [add_block]; exact hab1)] at hcell1
      clear ez2 hz2 hm2
      by_cases hbig : 1048576 < m2
      · have HF : Hid (b = true) := by
          show _ = _
          rw [← HB.out]
          have := sumN_take_le p (k + 1)
          have h1 := HI.out
          have h2 := HS.out
          have h3 := HM2.out
          unfold tooB
          rw [decide_eq_true (by omega)]
        clear HI HS HM2
        go_wp2
        go_ret
        rw [HF.out]
        exact ⟨rfl, B0⟩
      · have HI2 : Hid (m2 = z1.size + sumN (p.take (k + 1))) := by show _ = _; have h1 := HI.out; have h2 := HS.out; have h3 := HM2.out; omega
        clear HI HS HM2
        go_wp2
        go_round
        case rel => exact ⟨k + 1, m2, by go_num, rfl, by omega, by omega, HI2⟩
        case measure => simp [intOf]; omega
    · obtain rfl : k = L := by omega
      have HF : Hid (b = decide (1048576 < m)) := by
        show _ = _
        rw [← HB.out]
        have h := HI.out
        rw [List.take_of_length_le (by have := HL.out; omega)] at h
        unfold tooB
        rw [h]
      clear HI
      go_wp2
      go_ret
      refine ⟨ret_bool ?_, B0⟩
      rw [HF.out]
      exact decide_eq_decide.2 (by omega)
end Go.Proofs.YtmeooghcdgpofaaDoor
