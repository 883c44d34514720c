/- The program's scanner: places. -/
import Derived.Test.YtmeooghcdgpofaaDoorProg
import Derived.Test.YtmeooghcdgpofaaDoorLexD4
import Derived.Test.YtmeooghcdgpofaaDoorShelf2
import Derived.WalkKit
import Derived.ProofKit
import Derived.OpenShut
import Derived.Below
import Derived.WalkLawsBesides
import Derived.OwnWalk
import Derived.BigQuiet
import Derived.Lib.IndexBytes
import Derived.Deep.MidRow
import Derived.Deep.RegionHeld3
namespace Go.Proofs.YtmeooghcdgpofaaDoor
open Go.ChangeShapes Go.WideShapes Go.ChangeAt Go.RowKit

/-- The place of a list's last byte 10; -1: there is none. -/
def lastI (l : List UInt8) : Nat → Int
  | 0 => -1
  | k + 1 => if l[k]? = some 10 then (k : Int) else lastI l k

set_option maxRecDepth 100000 in
set_option maxHeartbeats 4000000 in
theorem lastByte_any (s : ByteArray) (hs : s.size ≤ 1073741824) (w : World) : Calls Tryd.prog 49 #[.string s, .int .u8 10] w fun e w' => e = .returned (.int .i64 (lastI s.data.toList s.size)) ∧ w' = w := by
  obtain ⟨T, HT⟩ : ∃ T, Hid (lastI s.data.toList s.size = T) := ⟨_, rfl⟩
  rw [HT.out]
  go_enter Tryd.func49, Tryd.ntmps49
  go_wp2
  go_loop [5] (fun vi => ∃ k : Nat, vi = .int .i64 ((k : Int) - 1) ∧ k ≤ s.size ∧ Hid (T = lastI s.data.toList k)) (fun vi => (intOf vi + 1).toNat)
  case atStart => exact ⟨s.size, rfl, Nat.le_refl _, HT.out.symm⟩
  case round =>
    obtain ⟨k, rfl, hk, HI⟩ := hrel
    cases k with
    | zero =>
      have HE : Hid (T = -1) := HI.out
      go_wp2
      go_ret
      exact ⟨by rw [HE.out]; rfl, rfl⟩
    | succ k =>
      have hlt : k < s.size := by omega
      have e1 : ((k + 1 : Nat) : Int) - 1 = (k : Int) := by omega
      rw [e1]
      have hl : s.data.toList[k]? = some (s[k]'hlt) := by
        rw [List.getElem?_eq_getElem (by simpa using hlt)]; rfl
      obtain ⟨n, hn⟩ : ∃ n, (s[k]'hlt).toNat = n := ⟨_, rfl⟩
      have HE : Hid (T = if n = 10 then (k : Int) else lastI s.data.toList k) := by
        show _ = _
        rw [HI.out]
        show (if s.data.toList[k]? = some 10 then _ else _) = _
        rw [hl]
        have : (some (s[k]'hlt) = some (10 : UInt8)) = (n = 10) := by
          rw [← hn]
          simp only [Option.some.injEq]
          exact propext UInt8.toNat_inj.symm
        simp only [this]
      clear HI hl
      by_cases h10 : n = 10
      · have HF : Hid (T = (k : Int)) := by show _ = _; rw [HE.out, if_pos h10]
        subst h10
        clear HE
        go_wp2
        go_ret
        exact ⟨by rw [HF.out]; rfl, rfl⟩
      · have HF : Hid (T = lastI s.data.toList k) := by show _ = _; rw [HE.out, if_neg h10]
        have g : ((n : Int) == 10) = false := by simp; omega
        clear HE
        go_wp2
        go_round
        case rel => exact ⟨k, rfl, by omega, HF⟩
        case measure => simp [intOf]
end Go.Proofs.YtmeooghcdgpofaaDoor
/- The program's scanner: the place behind some bytes. -/
namespace Go.Proofs.YtmeooghcdgpofaaDoor
open Go.ChangeShapes Go.WideShapes Go.ChangeAt Go.RowKit

theorem lastI_app (l : List UInt8) (c : UInt8) : ∀ k, k ≤ l.length → lastI (l ++ [c]) k = lastI l k := by
  intro k
  induction k with
  | zero => intro _; rfl
  | succ k ih =>
    intro h
    unfold lastI
    rw [List.getElem?_append_left (by omega), ih (by omega)]
theorem lastI_snoc (l : List UInt8) (c : UInt8) : lastI (l ++ [c]) (l.length + 1) = if c = 10 then (l.length : Int) else lastI l l.length := by
  conv => lhs; unfold lastI
  rw [List.getElem?_append_right (Nat.le_refl _), Nat.sub_self, lastI_app l c l.length (Nat.le_refl _)]
  simp only [List.getElem?_cons_zero, Option.some.injEq]
theorem lastI_bd (l : List UInt8) : ∀ k, -1 ≤ lastI l k ∧ lastI l k < k := by
  intro k
  induction k with
  | zero => exact ⟨Int.le_refl _, by show (-1 : Int) < 0; decide⟩
  | succ k ih =>
    unfold lastI
    split <;> omega
/-- The place behind some bytes: what counts is the last byte 10. -/
theorem place_last (x y : Nat) : ∀ (n : Nat) (l : List UInt8), l.length = n → (lastI l l.length < 0 → placeL (x, y) l = (x, y + l.length) ∧ l.count 10 = 0) ∧ (0 ≤ lastI l l.length → (placeL (x, y) l).1 = x + l.count 10 ∧ ((placeL (x, y) l).2 : Int) = l.length - lastI l l.length) := by
  intro n
  induction n with
  | zero =>
    intro l hl
    obtain rfl : l = [] := List.eq_nil_of_length_eq_zero hl
    exact ⟨fun _ => ⟨rfl, rfl⟩, fun h => absurd h (by decide)⟩
  | succ n ih =>
    intro l hl
    obtain ⟨r, c, rfl⟩ : ∃ r c, l = r ++ [c] := ⟨l.dropLast, l.getLast (by intro e; rw [e] at hl; simp at hl), (List.dropLast_concat_getLast _).symm⟩
    have hr : r.length = n := by simpa using hl
    obtain ⟨i1, i2⟩ := ih r hr
    have e1 : (r ++ [c]).length = r.length + 1 := by simp
    have e2 : placeL (x, y) (r ++ [c]) = stepP (placeL (x, y) r) c := placeL_app _ _ _
    have e3 : (r ++ [c]).count 10 = r.count 10 + (if c = 10 then 1 else 0) := by
      rw [List.count_append, List.count_singleton]
      simp
    rw [e1, lastI_snoc, e2, e3]
    have hb := lastI_bd r r.length
    by_cases hc : c = 10
    · subst hc
      rw [if_pos rfl, if_pos rfl]
      refine ⟨fun h => by omega, fun _ => ?_⟩
      have s1 : stepP (placeL (x, y) r) 10 = ((placeL (x, y) r).1 + 1, 1) := rfl
      rw [s1]
      refine ⟨?_, by show ((1 : Nat) : Int) = ((r.length + 1 : Nat) : Int) - (r.length : Int); omega⟩
      show (placeL (x, y) r).1 + 1 = _
      rcases Int.lt_or_le (lastI r r.length) 0 with g | g
      · obtain ⟨j1, j2⟩ := i1 g; rw [j1, j2]
      · obtain ⟨j1, _⟩ := i2 g; rw [j1]; omega
    · rw [if_neg hc, if_neg hc]
      have hcn : ¬ c.toNat = 10 := fun e => hc (UInt8.toNat_inj.1 e)
      have s1 : stepP (placeL (x, y) r) c = ((placeL (x, y) r).1, (placeL (x, y) r).2 + 1) := by unfold stepP; rw [if_neg hcn]
      rw [s1]
      refine ⟨fun h => ?_, fun h => ?_⟩
      · obtain ⟨j1, j2⟩ := i1 h; rw [j1, j2]; exact ⟨rfl, rfl⟩
      · obtain ⟨j1, j2⟩ := i2 h
        refine ⟨by show (placeL (x, y) r).1 = _; rw [j1]; omega, ?_⟩
        show (((placeL (x, y) r).2 + 1 : Nat) : Int) = _
        omega

theorem last_any (s : ByteArray) (hs : s.size ≤ 1073741824) (w : World) : Calls Tryd.prog 33 #[.string s, .int .u8 10] w fun e w' => e = .returned (.int .i64 (lastI s.data.toList s.size)) ∧ w' = w := by
  have C := hide (fun W => lastByte_any s hs W)
  generalize lastI s.data.toList s.size = T at *
  go_enter Tryd.func33, Tryd.ntmps33
  go_wp2_with (go_at_call 49; refine (C.out _).mono ?_; rintro e w1 ⟨rfl, rfl⟩)
  go_ret
  exact ⟨rfl, rfl⟩

set_option maxRecDepth 100000 in
set_option maxHeartbeats 4000000 in
theorem behind_any (x y : Nat) (s : ByteArray) (hx : x ≤ 1073741824) (hy : y ≤ 1073741824) (hs : s.size ≤ 1073741824) (w : World) : Calls Tryd.prog 17 #[.agg #[.int .i64 (x : Int), .int .i64 (y : Int)], .string s] w fun e w' => e = .returned (.agg #[.int .i64 ((placeL (x, y) s.data.toList).1 : Nat), .int .i64 ((placeL (x, y) s.data.toList).2 : Nat)]) ∧ Below w.heap.size w w' := by
  have CL := hide (fun W => last_any s hs W)
  have CC := hide (fun W => Tryd.strings_Count_one s 10 W)
  obtain ⟨p1, p2⟩ := place_last x y _ s.data.toList rfl
  have hb := lastI_bd s.data.toList s.size
  rw [size_list] at p1 p2
  have hcl : s.data.toList.count 10 ≤ s.size := by have := List.count_le_length (a := (10 : UInt8)) (l := s.data.toList); rwa [size_list] at this
  have e0 : Lib.countByte s.data.toList 10 = s.data.toList.count 10 := rfl
  rw [e0] at CC
  generalize s.data.toList.count 10 = cn at *
  generalize lastI s.data.toList s.size = la at *
  obtain ⟨P, hP⟩ : ∃ P, placeL (x, y) s.data.toList = P := ⟨_, rfl⟩
  rw [hP] at p1 p2 ⊢
  clear hP e0
  by_cases hl : la < 0
  · obtain ⟨q1, _⟩ := p1 hl
    have HE := hide q1
    clear p1 p2 q1 CC
    go_enter Tryd.func17, Tryd.ntmps17
    go_wp2_with (go_at_call 33; refine (CL.out _).mono ?_; rintro e w1 ⟨rfl, h9⟩; replace h9 := h9.symm; subst h9)
    refine bodyPost_ret (results_cell_row rfl _ _ (w.heap.size + 1) 51 _ (0, 0) _ rfl (heap_alloc2_new w _ _) Tryd.underlying51 rfl (by kernel_rfl)) rfl ?_
    refine ⟨?_, ((Below.refl _ _).alloc (Nat.le_refl _) _).alloc (by simp) _⟩
    rw [HE.out]
    go_num
  · obtain ⟨q1, q2⟩ := p2 (by omega)
    have HE := hide (And.intro q1 q2)
    have hl0 : 0 ≤ la := by omega
    clear p1 p2 q1 q2
    go_enter Tryd.func17, Tryd.ntmps17
    go_wp2_with (go_at_call 33; refine (CL.out _).mono ?_; rintro e w1 ⟨rfl, h9⟩; replace h9 := h9.symm; subst h9)
    go_region_held3 (fun w' => w'.cell? ⟨w.heap.size, 0, none⟩ = some (.int .i64 (x : Int))) (go_keep) (first
      | (go_at_call 34; refine (CC.out _).mono ?_; rintro e w1 ⟨rfl, h9⟩; replace h9 := h9.symm; subst h9))
    go_wp2_with fail
    refine bodyPost_ret (results_cell_row rfl _ _ (w.heap.size + 1) 51 _ (0, 0) _ rfl (show _ from heap_alloc2_new w _ _) Tryd.underlying51 rfl (by kernel_rfl)) rfl ?_
    refine ⟨?_, (((Below.refl _ _).alloc (Nat.le_refl _) _).alloc (by simp) _).drew⟩
    have z1 : IntKind.i64.wrap ((x : Int) + (cn : Int)) = (P.1 : Nat) := by rw [HE.out.1, IntKind.wrap_i64]; omega
    have z2 : IntKind.i64.wrap ((s.size : Int) - la) = (P.2 : Nat) := by rw [HE.out.2, IntKind.wrap_i64]; omega
    rw [z1, z2]
end Go.Proofs.YtmeooghcdgpofaaDoor
