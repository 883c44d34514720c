/- The program's writer: rows of strings that are read; which tokens are the same; which are too long. -/
import Derived.Test.YtbcmpacmoofdkaaGreatDoorProg
import Derived.Test.YtbcmpacmoofdkaaGreatDoorLexD16
import Derived.WalkKit
import Derived.ProofKit
import Derived.OpenShut
import Derived.Below
import Derived.WalkLawsBesides
import Derived.OwnWalk
import Derived.BigQuiet
import Derived.WalkSmall
import Derived.Deep.MidRow
import Derived.Deep.RegionHeld
import Derived.Deep.RegionHeld3
import Derived.Test.YtbcmpacmoofdkaaGreatDoorLexB
import Derived.Laws.IdiomStrings
import Derived.Laws.OwnMore
import Derived.Lib.AppendStr
import Derived.Lib.IndexBytes
namespace Go.Proofs.YtbcmpacmoofdkaaGreatDoor
open Go.ChangeShapes Go.WideShapes Go.ChangeAt Go.RowKit

theorem add_block (a : Addr) (k : Nat) : (a.add k).block = a.block := by unfold Addr.add; split <;> rfl
/-- A slice of strings that can be read. -/
def RdS (w : World) (v : Value) (p : List (List UInt8)) : Prop :=
  ∃ ao cap, v = .slice ao p.length cap ∧ p.length ≤ 9223372036854775807 ∧ ∀ j, j < p.length → ∃ a : Addr, ao = some a ∧ a.block < w.heap.size ∧ w.cell? (a.add j) = some (.string ⟨(p.getD j []).toArray⟩)
theorem rdS_below {w w' : World} {v : Value} {p : List (List UInt8)} (h : RdS w v p) (b : Below w.heap.size w w') : RdS w' v p := by
  obtain ⟨ao, cap, hv, hm, hc⟩ := h
  refine ⟨ao, cap, hv, hm, fun j hj => ?_⟩
  obtain ⟨a, ha, hab, hcell⟩ := hc j hj
  exact ⟨a, ha, Nat.lt_of_lt_of_le hab b.size, by rw [b.cell (p := a.add j) (by rw [add_block]; exact hab)]; exact hcell⟩
theorem rdS_nil (w : World) : RdS w (.slice none 0 0) [] := ⟨none, 0, rfl, Nat.zero_le _, fun j hj => absurd hj (by simp)⟩
theorem rdS_own {B : Nat} {w : World} {v : Value} {p : List (List UInt8)} (h : OwnS B v p w) : RdS w v p := by
  rcases h.2 with ⟨hv, h0⟩ | ⟨g, cap, cur, hv, hb, hw, hr⟩
  · obtain rfl : p = [] := List.eq_nil_of_length_eq_zero h0
    rw [hv]; exact rdS_nil w
  · have hc := h.cells (g := g) (by rw [hv]; rfl)
    refine ⟨some ⟨g, 0, none⟩, cap, hv, (by have h1 := hr.1; have h2 := hr.2.1; unfold maxLen at h2; omega), fun j hj => ⟨_, rfl, ?_, ?_⟩⟩
    · rcases Nat.lt_or_ge g w.heap.size with x | x
      · exact x
      · rw [Array.getElem?_eq_none x] at hw; cases hw
    · refine hc j _ ?_
      simp [strCells, List.getD_eq_getElem?_getD, hj]
theorem take_eq_succ {p q : List (List UInt8)} {k : Nat} (hp : k < p.length) (hq : k < q.length) : p.take (k + 1) = q.take (k + 1) ↔ p.take k = q.take k ∧ p.getD k [] = q.getD k [] := by
  rw [List.take_succ_eq_append_getElem hp, List.take_succ_eq_append_getElem hq]
  have e1 : p.getD k [] = p[k] := by simp [List.getD_eq_getElem?_getD, hp]
  have e2 : q.getD k [] = q[k] := by simp [List.getD_eq_getElem?_getD, hq]
  rw [e1, e2]
  constructor
  · intro h
    have := List.append_inj' h rfl
    exact ⟨this.1, by simpa using this.2⟩
  · rintro ⟨h1, h2⟩; rw [h1, h2]
theorem strE_eq {x y : List UInt8} {a b : ByteArray} (ha : ByteArray.mk x.toArray = a) (hb : ByteArray.mk y.toArray = b) : (a.toList == b.toList) = (x == y) := by
  subst ha hb
  rw [ByteArray.toList_eq, ByteArray.toList_eq]

set_option maxRecDepth 100000 in
set_option maxHeartbeats 8000000 in
theorem equal_any (v1 v2 : Value) (p q : List (List UInt8)) (w : World) (h1 : RdS w v1 p) (h2 : RdS w v2 q) : Calls Tryz.prog 134 #[v1, v2] w fun e w' => e = .returned (.bool (p == q)) ∧ Below w.heap.size w w' := by
  obtain ⟨ao, cap, rfl, hm, hc⟩ := h1
  obtain ⟨bo, cap2, rfl, hm2, hc2⟩ := h2
  obtain ⟨b, HB⟩ : ∃ b, Hid ((p == q) = b) := ⟨_, rfl⟩
  rw [HB.out]
  obtain ⟨L, hL⟩ : ∃ L, p.length = L := ⟨_, rfl⟩
  have HL := hide hL
  obtain ⟨M, hM⟩ : ∃ M, q.length = M := ⟨_, rfl⟩
  have HM := hide hM
  have HC := hide hc
  have HC2 := hide hc2
  rw [hL] at hm ⊢
  rw [hM] at hm2 ⊢
  clear hL hM hc hc2
  by_cases hLM : L = M
  · subst hLM
    go_enter Tryz.func134, Tryz.ntmps134
    go_wp2
    go_loopw [13] (fun vi wr => ∃ k : Nat, vi = .int .i64 (k : Int) ∧ k ≤ L ∧ Hid (p.take k = q.take k) ∧ Below w.heap.size w wr) (fun vi _ => L - (intOf vi).toNat)
    case atStart => exact ⟨0, rfl, Nat.zero_le _, rfl, Below.refl _ _⟩
    case round =>
      obtain ⟨k, rfl, hk, HI, bel⟩ := hrel
      by_cases hkL : k < L
      · obtain ⟨a1, ea1, hab1, hcell1⟩ := HC.out k (by have := HL.out; omega)
        obtain ⟨a2, ea2, hab2, hcell2⟩ := HC2.out k (by have := HM.out; omega)
        subst ea1 ea2
        obtain ⟨z1, ez1⟩ : ∃ z, ByteArray.mk (p.getD k []).toArray = z := ⟨_, rfl⟩
        obtain ⟨z2, ez2⟩ : ∃ z, ByteArray.mk (q.getD k []).toArray = z := ⟨_, rfl⟩
        have EE := hide (strE_eq ez1 ez2)
        rw [ez1] at hcell1
        rw [ez2] at hcell2
        rw [← bel.cell (p := a1.add k) (by rw [add_block]; exact hab1)] at hcell1
        rw [← bel.cell (p := a2.add k) (by rw [add_block]; exact hab2)] at hcell2
        have TS := hide (take_eq_succ (p := p) (q := q) (k := k) (by have := HL.out; omega) (by have := HM.out; omega))
        clear ez1 ez2
        by_cases he : p.getD k [] = q.getD k []
        · have g : (z1.toList == z2.toList) = true := by rw [EE.out, he]; simp
          have HI2 : Hid (p.take (k + 1) = q.take (k + 1)) := TS.out.2 ⟨HI.out, he⟩
          clear he HI EE TS
          go_wp2
          go_quiet (fail)
          go_wp2
          go_roundw
          case rel => exact ⟨k + 1, by go_num, by omega, HI2, below_drewN bel _⟩
          case measure => simp [intOf]; omega
        · have g : (z1.toList == z2.toList) = false := by rw [EE.out]; simpa using he
          have HF : Hid (b = false) := by
            show _ = _
            rw [← HB.out]
            refine beq_eq_false_iff_ne.2 fun e => he ?_
            rw [e]
          clear he HI EE TS
          go_wp2
          go_quiet (fail)
          go_wp2
          go_ret
          rw [HF.out]
          exact ⟨rfl, below_drewN bel _⟩
      · obtain rfl : k = L := by omega
        have HF : Hid (b = true) := by
          show _ = _
          rw [← HB.out]
          have h := HI.out
          rw [List.take_of_length_le (by have := HL.out; omega), List.take_of_length_le (by have := HM.out; omega)] at h
          rw [h]; simp
        clear HI
        go_wp2
        go_ret
        rw [HF.out]
        exact ⟨rfl, bel⟩
  · have HF : Hid (b = false) := by
      show _ = _
      rw [← HB.out]
      refine beq_eq_false_iff_ne.2 fun e => hLM ?_
      rw [← HL.out, ← HM.out, e]
    have g : ((L : Int) != (M : Int)) = true := by simp; omega
    clear hLM
    go_enter Tryz.func134, Tryz.ntmps134
    go_wp2
    go_ret
    rw [HF.out]
    exact ⟨rfl, Below.refl _ _⟩
end Go.Proofs.YtbcmpacmoofdkaaGreatDoor
/- The program's writer: which tokens are the same; which are too long. -/
namespace Go.Proofs.YtbcmpacmoofdkaaGreatDoor
open Go.ChangeShapes Go.WideShapes Go.ChangeAt Go.RowKit

theorem toS_eq {a b : ByteArray} : (a.toList == b.toList) = (a.data.toList == b.data.toList) := by rw [ByteArray.toList_eq, ByteArray.toList_eq]

set_option maxRecDepth 100000 in
set_option maxHeartbeats 8000000 in
theorem same_any (k1 k2 x1 y1 x2 y2 : Int) (z1 z2 : ByteArray) (v1 v2 : Value) (p q : List (List UInt8)) (w : World) (h1 : RdS w v1 p) (h2 : RdS w v2 q) :
    Calls Tryz.prog 119 #[.agg #[.int .i64 k1, .string z1, v1, .int .i64 x1, .int .i64 y1], .agg #[.int .i64 k2, .string z2, v2, .int .i64 x2, .int .i64 y2]] w fun e w' => e = .returned (.bool (k1 == k2 && z1.data.toList == z2.data.toList && p == q)) ∧ Below w.heap.size w w' := by
  have CE := hide (fun W (b : Below w.heap.size w W) => equal_any v1 v2 p q W (rdS_below h1 b) (rdS_below h2 b))
  obtain ⟨ao, cap, rfl, hm, hc⟩ := h1
  obtain ⟨bo, cap2, rfl, hm2, hc2⟩ := h2
  clear hm hc hm2 hc2
  rw [← toS_eq]
  obtain ⟨b, hb⟩ : ∃ b, (p == q) = b := ⟨_, rfl⟩
  rw [hb] at CE ⊢
  generalize p.length = L at CE ⊢
  generalize q.length = M at CE ⊢
  clear hb
  cases g1 : (k1 == k2)
  · go_enter Tryz.func119, Tryz.ntmps119
    go_wp2
    go_ret
    exact ⟨rfl, ((Below.refl _ _).alloc (Nat.le_refl _) _).alloc (by simp) _⟩
  · cases g2 : (z1.toList == z2.toList)
    · go_enter Tryz.func119, Tryz.ntmps119
      go_wp2
      go_ret
      exact ⟨rfl, ((Below.refl _ _).alloc (Nat.le_refl _) _).alloc (by simp) _⟩
    · go_enter Tryz.func119, Tryz.ntmps119
      go_wp2_with (go_at_call 134; refine (CE.out _ (((Below.refl _ _).alloc (Nat.le_refl _) _).alloc (by simp) _)).mono ?_; rintro e w1 ⟨rfl, b1⟩)
      go_ret
      refine ⟨by cases b <;> rfl, ?_⟩
      exact (((Below.refl _ _).alloc (Nat.le_refl _) _).alloc (by simp) _).trans (b1.mono (by simp; omega))

/-- How many bytes a token's path has, with its points. -/
def sumN (p : List (List UInt8)) : Nat := (p.map fun x => x.length + 1).sum
theorem sumN_succ {p : List (List UInt8)} {k : Nat} (h : k < p.length) : sumN (p.take (k + 1)) = sumN (p.take k) + ((p.getD k []).length + 1) := by
  rw [List.take_succ_eq_append_getElem h]
  have e1 : p.getD k [] = p[k] := by simp [List.getD_eq_getElem?_getD, h]
  rw [e1]
  unfold sumN
  rw [List.map_append, List.sum_append]
  rfl
theorem sumN_take_le (p : List (List UInt8)) (k : Nat) : sumN (p.take k) ≤ sumN p := by
  conv => rhs; rw [← List.take_append_drop k p]
  unfold sumN
  rw [List.map_append, List.sum_append]
  omega
def tooB (n : Nat) (p : List (List UInt8)) : Bool := decide (1048576 < n + sumN p)

set_option maxRecDepth 100000 in
set_option maxHeartbeats 8000000 in
theorem tooLong_any (k1 x1 y1 : Int) (z1 : ByteArray) (v1 : Value) (p : List (List UInt8)) (w : World) (h1 : RdS w v1 p) (hz : z1.size ≤ 281474976710656) (hp : ∀ j, j < p.length → (p.getD j []).length ≤ 281474976710656) :
    Calls Tryz.prog 117 #[.agg #[.int .i64 k1, .string z1, v1, .int .i64 x1, .int .i64 y1]] w fun e w' => e = .returned (.bool (tooB z1.size p)) ∧ Below w.heap.size w w' := by
  obtain ⟨ao, cap, rfl, hm, hc⟩ := h1
  have HC := hide hc
  have HP := hide hp
  obtain ⟨L, hL⟩ : ∃ L, p.length = L := ⟨_, rfl⟩
  have HL := hide hL
  rw [hL] at hm ⊢
  obtain ⟨b, HB⟩ : ∃ b, Hid (tooB z1.size p = b) := ⟨_, rfl⟩
  rw [HB.out]
  clear hL hc hp
  go_enter Tryz.func117, Tryz.ntmps117
  go_wp2
  generalize hW0 : w.alloc (.cells #[.int .i64 k1, .string z1, .slice ao L cap, .int .i64 x1, .int .i64 y1] 72) = W0
  have B0 : Below w.heap.size w W0 := by rw [← hW0]; exact (Below.refl _ _).alloc (Nat.le_refl _) _
  clear hW0
  go_loop [3, 12] (fun vs vi => ∃ k m : Nat, vi = .int .i64 (k : Int) ∧ vs = .int .i64 (m : Int) ∧ k ≤ L ∧ m ≤ 281474976710656 ∧ Hid (m = z1.size + sumN (p.take k))) (fun _ vi => L - (intOf vi).toNat)
  case atStart => exact ⟨0, z1.size, rfl, rfl, Nat.zero_le _, hz, by show _ = _; simp [sumN]⟩
  case round =>
    obtain ⟨k, m, rfl, rfl, hk, hmm, HI⟩ := hrel
    by_cases hkL : k < L
    · obtain ⟨a1, ea1, hab1, hcell1⟩ := HC.out k (by have := HL.out; omega)
      subst ea1
      have hpk := HP.out k (by have := HL.out; omega)
      have HS := hide (sumN_succ (p := p) (k := k) (by have := HL.out; omega))
      obtain ⟨z2, ez2⟩ : ∃ z, ByteArray.mk (p.getD k []).toArray = z := ⟨_, rfl⟩
      have hz2 : (p.getD k []).length = z2.size := by rw [← ez2]; simp [ByteArray.size]
      rw [ez2] at hcell1
      rw [hz2] at hpk HS
      obtain ⟨n, hn⟩ : ∃ n, z2.size = n := ⟨_, rfl⟩
      rw [hn] at hpk HS
      obtain ⟨m2, hm2⟩ : ∃ m2, m + (n + 1) = m2 := ⟨_, rfl⟩
      have hm2i : (m : Int) + ((n : Int) + 1) = (m2 : Int) := by omega
      have HM2 := hide hm2
      have hm2b : m2 ≤ 562949953421313 := by omega
      rw [← B0.cell (p := a1.add k) (by rw [add_block]; exact hab1)] at hcell1
      clear ez2 hz2 hm2
      by_cases hbig : 1048576 < m2
      · have HF : Hid (b = true) := by
          show _ = _
          rw [← HB.out]
          have := sumN_take_le p (k + 1)
          have h1 := HI.out
          have h2 := HS.out
          have h3 := HM2.out
          unfold tooB
          rw [decide_eq_true (by omega)]
        clear HI HS HM2
        go_wp2
        go_ret
        rw [HF.out]
        exact ⟨rfl, B0⟩
      · have HI2 : Hid (m2 = z1.size + sumN (p.take (k + 1))) := by show _ = _; have h1 := HI.out; have h2 := HS.out; have h3 := HM2.out; omega
        clear HI HS HM2
        go_wp2
        go_round
        case rel => exact ⟨k + 1, m2, by go_num, rfl, by omega, by omega, HI2⟩
        case measure => simp [intOf]; omega
    · obtain rfl : k = L := by omega
      have HF : Hid (b = decide (1048576 < m)) := by
        show _ = _
        rw [← HB.out]
        have h := HI.out
        rw [List.take_of_length_le (by have := HL.out; omega)] at h
        unfold tooB
        rw [h]
      clear HI
      go_wp2
      go_ret
      refine ⟨ret_bool ?_, B0⟩
      rw [HF.out]
      exact decide_eq_decide.2 (by omega)
end Go.Proofs.YtbcmpacmoofdkaaGreatDoor
/- The program's writer: how a string's bytes are spelt. -/
namespace Go.Proofs.YtbcmpacmoofdkaaGreatDoor
open Go.ChangeShapes Go.WideShapes Go.ChangeAt Go.RowKit

theorem quotL_take_len (s : ByteArray) (k : Nat) : (quotL (s.data.toList.take k)).length ≤ 4 * k := by
  have := quotL_len (s.data.toList.take k)
  have h2 : (s.data.toList.take k).length ≤ k := List.length_take_le _ _
  omega
theorem quotL_snoc (s : ByteArray) (k : Nat) (h : k < s.size) : quotL (s.data.toList.take (k + 1)) = quotL (s.data.toList.take k) ++ quot1 (s[k]'h) := by
  have hl : k < s.data.toList.length := by simpa using h
  rw [List.take_succ_eq_append_getElem hl]
  simp only [quotL, List.flatMap_append]
  simp
  rfl
theorem quot_q {c : UInt8} {n : Nat} (hn : c.toNat = n) (h : n = 34 ∨ n = 92) : Lib.byteCells (quot1 c) = [.int .u8 92, .int .u8 (n : Int)] := by
  unfold quot1; rw [if_pos (by omega)]; simp [Lib.byteCells, hn]
theorem quot_p {c : UInt8} {n : Nat} (hn : c.toNat = n) (h : n ≠ 34 ∧ n ≠ 92) (g : 32 ≤ n ∧ n ≤ 126) : Lib.byteCells (quot1 c) = [.int .u8 (n : Int)] := by
  unfold quot1; rw [if_neg (by omega), if_pos (by omega)]; simp [Lib.byteCells, hn]
theorem quot_d {c : UInt8} {n : Nat} (hn : c.toNat = n) (_h : n ≠ 34 ∧ n ≠ 92) (g : ¬ (32 ≤ n ∧ n ≤ 126)) : Lib.byteCells (quot1 c) = [.int .u8 92, .int .u8 (48 + (n : Int) / 100), .int .u8 (48 + (n : Int) / 10 % 10), .int .u8 (48 + (n : Int) % 10)] := by
  have hc := c.toNat_lt
  unfold quot1; rw [if_neg (by omega), if_neg (by omega), hn]
  simp [Lib.byteCells]
  omega
theorem own_more {B : Nat} {v : Value} {l o : List UInt8} {w : World} {L : Nat} {xs : List Value} (e : l.length = L) (ho : Lib.byteCells o = xs) (h : w.ownsRow B 5 1 v (L + xs.length) (Lib.byteCells l ++ xs)) : Own B v (l ++ o) w := by
  unfold Own
  rw [byteCells_snoc, List.length_append, ho, e, ← Lib.byteCells_length o, ho]
  exact h

set_option maxHeartbeats 8000000 in
set_option maxRecDepth 100000 in
theorem spellString_any (B : Nat) (v : Value) (acc : List UInt8) (s : ByteArray) (w : World) (ho : Own B v acc w) (hB : B ≤ w.heap.size) (ha : acc.length ≤ 1073741824) (hs : s.size ≤ 1073741824) :
    Calls Tryz.prog 133 #[v, .string s] w fun e w' => ∃ v', e = .returned v' ∧ Own B v' (acc ++ 34 :: quotL s.data.toList ++ [34]) w' ∧ Below B w w' := by
  obtain ⟨i0, hi, hz0, hz1, hz2⟩ := info_parts infoByte
  obtain ⟨A, eA⟩ : ∃ A, acc.length = A := ⟨_, rfl⟩
  have EA := hide eA
  have HW0 := hide (own_row ho eA)
  rw [eA] at ha
  clear eA ho
  go_enter Tryz.func133, Tryz.ntmps133
  go_wp2_with (at_builtin; refine wpList_append_own _ rfl _ _ 120 rfl B 5 i0 (.int .u8 0) 1 1 Tryz.underlying120 hi hz0 hz1 hz2 rfl (by decide) _ _ _ rfl (HW0.out.alloc _) ⟨_, 0, none⟩ 1 1 [.int .u8 34] rfl rfl (cells_new _ _ _) (by simp [Value.oneCell']) (by unfold maxLen; omega) (by omega) (by simp; omega) ?_; intro v1 w1 o1 g1 _; have H1 := hide o1; clear o1; have B1 := ((Below.refl B w).alloc hB _).grown g1 (by simp; omega) (fun j hj => (HW0.out.lt j hj).1))
  have O1 : Hid (Own B v1 (acc ++ [34]) w1) := own_more (o := [34]) EA.out rfl H1.out
  have S1 := B1.size
  clear H1 g1
  go_loopw [0, 12] (fun vt vi wr => ∃ k : Nat, vi = .int .i64 (k : Int) ∧ k ≤ s.size ∧ Hid (Own B vt (acc ++ [34] ++ quotL (s.data.toList.take k)) wr) ∧ Below B w wr) (fun _ vi _ => s.size - (intOf vi).toNat)
  case atStart => exact ⟨0, rfl, Nat.zero_le _, by show Own _ _ _ _; rw [List.take_zero]; show Own _ _ (_ ++ []) _; rw [List.append_nil]; exact O1.out, B1⟩
  case round =>
    obtain ⟨k, rfl, hk, HI, bel⟩ := hrel
    clear O1 S1 B1 HW0
    have hl := quotL_take_len s k
    have bsz := Nat.le_trans hB bel.size
    by_cases h1 : k < s.size
    · have HS := hide (quotL_snoc s k h1)
      obtain ⟨c, hc⟩ : ∃ c, s[k]'h1 = c := ⟨_, rfl⟩
      obtain ⟨n, hn⟩ : ∃ n, c.toNat = n := ⟨_, rfl⟩
      have hcn : (s[k]'h1).toNat = n := by rw [hc, hn]
      have hn2 : n < 256 := by rw [← hn]; exact c.toNat_lt
      rw [hc] at HS
      obtain ⟨L, eL⟩ : ∃ L, (acc ++ [34] ++ quotL (s.data.toList.take k)).length = L := ⟨_, rfl⟩
      have hL : L ≤ A + 1 + 4 * k := by rw [← eL, List.length_append, List.length_append, EA.out]; simp; omega
      have EL := hide eL
      have HW := hide (own_row HI.out eL)
      have HN := hide hn
      clear hc eL hn HI hl
      by_cases hq : n = 34 ∨ n = 92
      · have HQ := hide (quot_q HN.out hq)
        rcases hq with hq | hq
        all_goals
          subst hq
          go_wp2_with (first | (at_builtin; refine wpList_append_own _ rfl _ _ 120 rfl B 5 i0 (.int .u8 0) 1 1 Tryz.underlying120 hi hz0 hz1 hz2 rfl (by decide) _ _ _ rfl (HW.out.alloc _) ⟨_, 0, none⟩ 1 1 [.int .u8 92] rfl rfl (cells_new _ _ _) (by simp [Value.oneCell']) (by unfold maxLen; omega) (by omega) (by simp; omega) ?_; intro v2 w2 o2 g2 _; have H2 := hide o2; clear o2; have B2 := (bel.alloc bsz _).grown g2 (by simp; omega) (fun j hj => (HW.out.lt j hj).1); have S2 := Nat.le_trans hB B2.size; clear HW) | (at_builtin; refine wpList_append_own _ rfl _ _ 120 rfl B 5 i0 (.int .u8 0) 1 1 Tryz.underlying120 hi hz0 hz1 hz2 rfl (by decide) _ _ _ rfl (H2.out.alloc _) ⟨_, 0, none⟩ 1 1 [.int .u8 _] rfl rfl (cells_new _ _ _) (by simp [Value.oneCell']) (by unfold maxLen; omega) (by omega) (by simp; omega) ?_; intro v3 w3 o3 g3 _; have H3 := hide o3; clear o3; have B3 := (B2.alloc S2 _).grown g3 (by simp; omega) (fun j hj => (H2.out.lt j hj).1)))
          go_roundw
          case rel => exact ⟨k + 1, by go_num, by omega, by show Own _ _ _ _; rw [HS.out, ← List.append_assoc]; exact own_more EL.out HQ.out (by simpa [List.append_assoc, Nat.add_assoc] using H3.out), B3⟩
          case measure => simp [intOf]; omega
      · have f1 : ((n : Int) == 34) = false := by simp; omega
        have f2 : ((n : Int) == 92) = false := by simp; omega
        by_cases hp : 32 ≤ n ∧ n ≤ 126
        · have HQ := hide (quot_p HN.out (by omega) hp)
          clear hq
          go_wp2_with (at_builtin; refine wpList_append_own _ rfl _ _ 120 rfl B 5 i0 (.int .u8 0) 1 1 Tryz.underlying120 hi hz0 hz1 hz2 rfl (by decide) _ _ _ rfl (HW.out.alloc _) ⟨_, 0, none⟩ 1 1 [.int .u8 (n : Int)] rfl rfl (cells_new _ _ _) (by simp [Value.oneCell']) (by unfold maxLen; omega) (by omega) (by simp; omega) ?_; intro v2 w2 o2 g2 _; have H2 := hide o2; clear o2)
          go_roundw
          case rel => exact ⟨k + 1, by go_num, by omega, by show Own _ _ _ _; rw [HS.out, ← List.append_assoc]; exact own_more EL.out HQ.out H2.out, (bel.alloc bsz _).grown g2 (by simp; omega) (fun j hj => (HW.out.lt j hj).1)⟩
          case measure => simp [intOf]; omega
        · have HQ := hide (quot_d HN.out (by omega) hp)
          have cs : n < 32 ∨ 126 < n := by omega
          clear hq hp
          rcases cs with hp | hp
          all_goals
            go_wp2_with (at_builtin; refine wpList_append_own _ rfl _ _ 120 rfl B 5 i0 (.int .u8 0) 1 1 Tryz.underlying120 hi hz0 hz1 hz2 rfl (by decide) _ _ _ rfl (HW.out.alloc _) ⟨_, 0, none⟩ 4 4 [.int .u8 92, .int .u8 (48 + (n : Int) / 100), .int .u8 (48 + (n : Int) / 10 % 10), .int .u8 (48 + (n : Int) % 10)] rfl rfl (cells_new _ _ _) (by simp [Value.oneCell']) (by unfold maxLen; omega) (by omega) (by simp; omega) ?_; intro v2 w2 o2 g2 _; have H2 := hide o2; clear o2)
            go_roundw
            case rel => exact ⟨k + 1, by go_num, by omega, by show Own _ _ _ _; rw [HS.out, ← List.append_assoc]; exact own_more EL.out HQ.out H2.out, (bel.alloc bsz _).grown g2 (by simp; omega) (fun j hj => (HW.out.lt j hj).1)⟩
            case measure => simp [intOf]; omega
    · have HT : Hid (s.data.toList.take k = s.data.toList) := List.take_of_length_le (by simp; omega)
      obtain ⟨M, eM⟩ : ∃ M, (acc ++ [34] ++ quotL s.data.toList).length = M := ⟨_, rfl⟩
      have hM : M ≤ A + 1 + 4 * s.size := by
        have := quotL_len s.data.toList
        rw [size_list] at this
        rw [← eM, List.length_append, List.length_append, EA.out]; simp; omega
      rw [HT.out] at HI
      have EM := hide eM
      have HW := hide (own_row HI.out eM)
      clear eM HI hl
      go_wp2_with (at_builtin; refine wpList_append_own _ rfl _ _ 120 rfl B 5 i0 (.int .u8 0) 1 1 Tryz.underlying120 hi hz0 hz1 hz2 rfl (by decide) _ _ _ rfl (HW.out.alloc _) ⟨_, 0, none⟩ 1 1 [.int .u8 34] rfl rfl (cells_new _ _ _) (by simp [Value.oneCell']) (by unfold maxLen; omega) (by omega) (by simp; omega) ?_; intro v2 w2 o2 g2 _; have H2 := hide o2; clear o2)
      go_ret
      refine ⟨_, rfl, ?_, (bel.alloc bsz _).grown g2 (by simp; omega) (fun j hj => (HW.out.lt j hj).1)⟩
      have := own_more (o := [34]) EM.out rfl H2.out
      simpa [List.append_assoc] using this
end Go.Proofs.YtbcmpacmoofdkaaGreatDoor
/- The program's writer: how a token is spelt. -/
namespace Go.Proofs.YtbcmpacmoofdkaaGreatDoor
open Go.ChangeShapes Go.WideShapes Go.ChangeAt Go.RowKit

def pathL (p : List (List UInt8)) : List UInt8 := p.flatMap (· ++ [46])
/-- A token of any kind as it would be written. -/
def spellI (k : Int) (t : List UInt8) (p : List (List UInt8)) : List UInt8 :=
  if k = 7 then 35 :: 34 :: quotL t ++ [34] else if k = 6 then 34 :: quotL t ++ [34] else pathL p ++ t
theorem pathL_len (p : List (List UInt8)) : (pathL p).length = sumN p := by
  induction p with
  | nil => rfl
  | cons a r ih =>
    have e : pathL (a :: r) = (a ++ [46]) ++ pathL r := rfl
    rw [e, List.length_append, ih]
    simp [sumN]
theorem pathL_succ {p : List (List UInt8)} {k : Nat} (h : k < p.length) : pathL (p.take (k + 1)) = pathL (p.take k) ++ p.getD k [] ++ [46] := by
  rw [List.take_succ_eq_append_getElem h]
  have e1 : p.getD k [] = p[k] := by simp [List.getD_eq_getElem?_getD, h]
  rw [e1]
  unfold pathL
  rw [List.flatMap_append]
  simp
theorem own_str {B : Nat} {v : Value} {l : List UInt8} {w : World} {L : Nat} {z : ByteArray} (e : l.length = L) (h : w.ownsRow B 5 1 v (L + z.size) (Lib.byteCells l ++ Lib.strCells z)) : Own B v (l ++ z.data.toList) w := by
  unfold Own
  have eb : Lib.byteCells (l ++ z.data.toList) = Lib.byteCells l ++ Lib.strCells z := by simp [Lib.byteCells, Lib.strCells]
  rw [eb, List.length_append, e, size_list]
  exact h

theorem cells_at {w : World} {B : Nat} (hB : w.heap.size = B) (xs : List Value) (e : TypeId) : ∀ j u, xs[j]? = some u → (w.alloc (.cells xs.toArray e)).cell? ((⟨B, 0, none⟩ : Addr).add j) = some u := by subst hB; exact cells_new w xs e
theorem cell5' {w w1 : World} {c0 c1 c2 c3 c4 : Value} {t : TypeId} (h : Below (w.heap.size + 1) (w.alloc (.cells #[c0, c1, c2, c3, c4] t)) w1) :
    w1.cell? ⟨w.heap.size, 0, none⟩ = some c0 ∧ w1.cell? ⟨w.heap.size, 1, none⟩ = some c1 ∧ w1.cell? ⟨w.heap.size, 2, none⟩ = some c2 ∧ w1.cell? ⟨w.heap.size, 3, none⟩ = some c3 ∧ w1.cell? ⟨w.heap.size, 4, none⟩ = some c4 := by
  have e : (w.alloc (.cells #[c0, c1, c2, c3, c4] t)).heap.size = w.heap.size + 1 := by simp
  rw [← e] at h
  exact (cell5 h).1

set_option maxHeartbeats 8000000 in
set_option maxRecDepth 100000 in
theorem spell_any (k x y : Int) (z : ByteArray) (v : Value) (p : List (List UInt8)) (w : World) (hv : RdS w v p) (hz : z.size + sumN p ≤ 1048576) :
    Calls Tryz.prog 118 #[.agg #[.int .i64 k, .string z, v, .int .i64 x, .int .i64 y]] w fun e w' => e = .returned (.string ⟨(spellI k z.data.toList p).toArray⟩) ∧ Below w.heap.size w w' := by
  obtain ⟨i0, hi, hz0, hz1, hz2⟩ := info_parts infoByte
  obtain ⟨ao, cap, rfl, hm, hc⟩ := hv
  have HC := hide hc
  obtain ⟨L, hL⟩ : ∃ L, p.length = L := ⟨_, rfl⟩
  have HL := hide hL
  rw [hL] at hm ⊢
  clear hL hc
  by_cases h7 : k = 7
  · subst h7
    obtain ⟨tx, htx⟩ : ∃ tx : ByteArray, ByteArray.mk (spellI 7 z.data.toList p).toArray = tx := ⟨_, rfl⟩
    have HTX : Hid (ByteArray.mk ([35] ++ 34 :: quotL z.data.toList ++ [34]).toArray = tx) := htx
    rw [htx]
    clear htx
    obtain ⟨M, hM⟩ : ∃ M, ([35] ++ 34 :: quotL z.data.toList ++ [34]).length = M := ⟨_, rfl⟩
    have HM := hide hM
    clear hM
    go_enter Tryz.func118, Tryz.ntmps118
    have CS := hide (fun (W : World) (u : Value) (o : Own (w.heap.size + 1) u [35] W) (hb : (w.heap.size + 1) ≤ W.heap.size) => spellString_any (w.heap.size + 1) u [35] z W o hb (by simp) (by omega))
    have HW0 := hide (own_row (L := 0) (own_nil (w.heap.size + 1) (w.alloc (.cells #[.int .i64 7, .string z, .slice ao L cap, .int .i64 x, .int .i64 y] 72))) rfl)
    go_wp2_with (first | (at_builtin; refine wpList_append_own _ rfl _ _ 120 rfl (w.heap.size + 1) 5 i0 (.int .u8 0) 1 1 Tryz.underlying120 hi hz0 hz1 hz2 rfl (by decide) _ _ _ rfl (HW0.out.alloc _) ⟨_, 0, none⟩ 1 1 [.int .u8 35] rfl rfl (cells_at (by simp) _ _) (by simp [Value.oneCell']) (by unfold maxLen; omega) (by omega) (by first | (simp; done) | (simp; omega)) ?_; intro v1 w1 o1 g1 _; (have S0 : (w.alloc (.cells #[.int .i64 7, .string z, .slice ao L cap, .int .i64 x, .int .i64 y] 72)).heap.size = w.heap.size + 1 := by simp); have B1 := ((Below.refl (w.heap.size + 1) (w.alloc (.cells #[.int .i64 7, .string z, .slice ao L cap, .int .i64 x, .int .i64 y] 72))).alloc (by omega) _).grown g1 (by simp) (fun j hj => (HW0.out.lt j hj).1); have O1 : Hid (Own (w.heap.size + 1) v1 [35] w1) := own_more (l := []) (o := [35]) rfl rfl o1; clear o1 HW0; have S1 := B1.size; rw [S0] at S1; obtain ⟨e0, e1, e2, e3, e4⟩ := cell5' B1) | (go_at_call 133; refine (CS.out _ _ O1.out S1).mono ?_; rintro e w2 ⟨v2, rfl, o2, b2⟩; have B2 := B1.trans b2; (obtain ⟨ao2, cap2, hv2⟩ := own_slice o2); subst hv2; have hcv := own_string o2; rw [HTX.out, HM.out] at hcv; rw [HM.out]; clear o2))
    go_ret
    exact ⟨rfl, ((Below.refl _ _).alloc (Nat.le_refl _) _).trans (B2.mono (by omega))⟩
  · by_cases h6 : k = 6
    · subst h6
      obtain ⟨tx, htx⟩ : ∃ tx : ByteArray, ByteArray.mk (spellI 6 z.data.toList p).toArray = tx := ⟨_, rfl⟩
      have HTX : Hid (ByteArray.mk ([] ++ 34 :: quotL z.data.toList ++ [34]).toArray = tx) := htx
      rw [htx]
      clear htx h7
      obtain ⟨M, hM⟩ : ∃ M, ([] ++ 34 :: quotL z.data.toList ++ [34]).length = M := ⟨_, rfl⟩
      have HM := hide hM
      clear hM
      go_enter Tryz.func118, Tryz.ntmps118
      have CS := hide (fun (W : World) (u : Value) (o : Own (w.heap.size + 1) u [] W) (hb : (w.heap.size + 1) ≤ W.heap.size) => spellString_any (w.heap.size + 1) u [] z W o hb (by simp) (by omega))
      go_wp2_with (go_at_call 133; refine (CS.out _ _ (own_nil _ _) (by simp)).mono ?_; rintro e w2 ⟨v2, rfl, o2, B2⟩; (obtain ⟨ao2, cap2, hv2⟩ := own_slice o2); subst hv2; have hcv := own_string o2; rw [HTX.out, HM.out] at hcv; rw [HM.out]; clear o2)
      go_ret
      exact ⟨rfl, ((Below.refl _ _).alloc (Nat.le_refl _) _).trans (B2.mono (by omega))⟩
    · obtain ⟨tx, htx⟩ : ∃ tx : ByteArray, ByteArray.mk (spellI k z.data.toList p).toArray = tx := ⟨_, rfl⟩
      have HTX : Hid (ByteArray.mk (pathL p ++ z.data.toList).toArray = tx) := by show _ = _; rw [← htx]; unfold spellI; rw [if_neg h7, if_neg h6]
      rw [htx]
      have g7 : (k == 7) = false := by simp; omega
      have g6 : (k == 6) = false := by simp; omega
      clear htx h7 h6
      go_enter Tryz.func118, Tryz.ntmps118
      go_wp2
      generalize hW0 : w.alloc (.cells #[.int .i64 k, .string z, .slice ao L cap, .int .i64 x, .int .i64 y] 72) = W0
      have C5 : Hid (∀ w1, Below W0.heap.size W0 w1 → _) := fun w1 (h : Below W0.heap.size W0 w1) => cell5 (w := w) (w1 := w1) (c0 := .int .i64 k) (c1 := .string z) (c2 := .slice ao L cap) (c3 := .int .i64 x) (c4 := .int .i64 y) (t := 72) (by rw [hW0]; exact h)
      have hW0s : w.heap.size < W0.heap.size := by rw [← hW0]; simp
      have HB0 : Hid (Below w.heap.size w W0) := by rw [← hW0]; exact (Below.refl _ _).alloc (Nat.le_refl _) _
      clear hW0
      obtain ⟨⟨c0, c1, c2, c3, c4⟩, _, _, _⟩ := C5.out W0 (Below.refl _ _)
      go_loopw [3, 23] (fun vt vi wr => ∃ j : Nat, vi = .int .i64 (j : Int) ∧ j ≤ L ∧ Hid (Own W0.heap.size vt (pathL (p.take j)) wr) ∧ Below W0.heap.size W0 wr) (fun _ vi _ => L - (intOf vi).toNat)
      case atStart => exact ⟨0, rfl, Nat.zero_le _, own_nil _ _, Below.refl _ _⟩
      case round =>
        obtain ⟨j, rfl, hj, HI, bel⟩ := hrel
        have hsum := sumN_take_le p j
        obtain ⟨⟨e0, e1, e2, e3, e4⟩, _, _, _⟩ := C5.out wr bel
        obtain ⟨A, eA⟩ : ∃ A, (pathL (p.take j)).length = A := ⟨_, rfl⟩
        have hA : A ≤ 1048576 := by rw [← eA, pathL_len]; omega
        have EA := hide eA
        have HW := hide (own_row HI.out eA)
        have bsz := bel.size
        clear eA
        by_cases h1 : j < L
        · obtain ⟨a1, ea1, hab1, hcell1⟩ := HC.out j (by have := HL.out; omega)
          subst ea1
          have HP := hide (pathL_succ (p := p) (k := j) (by have := HL.out; omega))
          have hs1 := sumN_succ (p := p) (k := j) (by have := HL.out; omega)
          have hs2 := sumN_take_le p (j + 1)
          obtain ⟨z2, ez2⟩ : ∃ z, ByteArray.mk (p.getD j []).toArray = z := ⟨_, rfl⟩
          have hzs2 : z2.size ≤ 1048576 := by
            have : (p.getD j []).length = z2.size := by rw [← ez2]; simp [ByteArray.size]
            omega
          have HZ2 : Hid (p.getD j [] = z2.data.toList) := by show _ = _; rw [← ez2]
          rw [ez2] at hcell1
          rw [← (HB0.out.trans (bel.mono (Nat.le_of_lt hW0s))).cell (p := a1.add j) (by rw [add_block]; exact hab1)] at hcell1
          obtain ⟨n2, hn2⟩ : ∃ n, z2.size = n := ⟨_, rfl⟩
          clear ez2 hs1 hs2 hsum HI
          go_wp2_with (first | (at_builtin; refine Lib.wpList_append_own_string _ rfl _ _ 120 9 rfl W0.heap.size 5 i0 Tryz.underlying120 Tryz.underlying9 hi hz0 hz1 hz2 _ _ _ rfl HW.out z2 rfl (by unfold maxLen; omega) (by omega) (by omega) ?_; intro v1 w1 o1 g1 _; have B1 := bel.grown g1 bsz (fun j hj => (HW.out.lt j hj).1); have O1 := hide (own_row (own_str EA.out o1) (show _ = A + n2 by rw [List.length_append, EA.out, size_list]; omega)); have S1 := B1.size; clear o1 HW) | (at_builtin; refine wpList_append_own _ rfl _ _ 120 rfl W0.heap.size 5 i0 (.int .u8 0) 1 1 Tryz.underlying120 hi hz0 hz1 hz2 rfl (by decide) _ _ _ rfl (O1.out.alloc _) ⟨_, 0, none⟩ 1 1 [.int .u8 46] rfl rfl (cells_new _ _ _) (by simp [Value.oneCell']) (by unfold maxLen; omega) (by omega) (by first | (simp; done) | (simp; omega)) ?_; intro v2 w2 o2 g2 _; have B2 := (B1.alloc S1 _).grown g2 (by simp; omega) (fun j hj => (O1.out.lt j hj).1); have O2 := hide o2; clear o2))
          go_roundw
          case rel =>
            refine ⟨j + 1, by go_num, by omega, ?_, B2⟩
            show Own _ _ _ _
            rw [HP.out, HZ2.out]
            exact own_more (o := [46]) (show _ = A + n2 by rw [List.length_append, EA.out, size_list]; omega) rfl O2.out
          case measure => simp [intOf]; omega
        · have HT : Hid (p.take j = p) := List.take_of_length_le (by have := HL.out; omega)
          rw [HT.out] at HW EA
          have hzs : z.size ≤ 1048576 := by omega
          obtain ⟨nz, hnz⟩ : ∃ n, z.size = n := ⟨_, rfl⟩
          clear HI hsum
          go_wp2_with (at_builtin; refine Lib.wpList_append_own_string _ rfl _ _ 120 9 rfl W0.heap.size 5 i0 Tryz.underlying120 Tryz.underlying9 hi hz0 hz1 hz2 _ _ _ rfl HW.out z rfl (by unfold maxLen; omega) (by omega) (by omega) ?_; intro v1 w1 o1 g1 _; have B1 := bel.grown g1 bsz (fun j hj => (HW.out.lt j hj).1); have o2 := own_str EA.out o1; clear o1; (obtain ⟨ao2, cap2, hv2⟩ := own_slice o2); subst hv2; have hcv := own_string o2; rw [HTX.out, List.length_append, EA.out, size_list, hnz] at hcv; rw [List.length_append, EA.out, size_list, hnz]; clear o2)
          go_ret
          exact ⟨rfl, HB0.out.trans (B1.mono (Nat.le_of_lt hW0s))⟩
end Go.Proofs.YtbcmpacmoofdkaaGreatDoor
