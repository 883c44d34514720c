/- The public reader of whole numbers, and package str's reader of a character's number. -/
import Derived.Test.YtmeooghcdgpofaaDoorProg
import Derived.Test.YtmeooghcdgpofaaDoorShelf
import Derived.Test.YtmeooghcdgpofaaDoorLexS10
import Derived.Test.YtmeooghcdgpofaaDoorLexS11
import Derived.WalkKit
import Derived.ProofKit
import Derived.OpenShut
import Derived.Below
import Derived.WalkLawsBesides
import Derived.OwnWalk
import Derived.Lib.IndexBytes
import Derived.Shelf.Pu.ToError
import Derived.Shelf.Pu.ToErrorRange
namespace Go.Proofs.YtmeooghcdgpofaaDoor
open Go.ChangeShapes Go.WideShapes Go.ChangeAt Go.RowKit

theorem foldN_ge (b : Nat) (hb : 1 ≤ b) : ∀ (l : List UInt8) (v x : Nat), foldN b v l = some x → v ≤ x := by
  intro l
  induction l with
  | nil => intro v x h; cases h; exact Nat.le_refl _
  | cons c r ih =>
    intro v x h
    unfold foldN at h
    split at h
    · have h1 := ih _ _ h
      have h2 : v * 1 ≤ v * b := Nat.mul_le_mul_left v hb
      omega
    · cases h
theorem pu_fold (b : Nat) (hb : 1 ≤ b) : ∀ (l : List UInt8) (v : Nat), v ≤ 255 → pu b v l = match foldN b v l with
    | none => none
    | some x => if 255 < x then none else some x := by
  intro l
  induction l with
  | nil => intro v h; simp [pu, foldN]; omega
  | cons c r ih =>
    intro v h
    unfold pu foldN
    by_cases hw : worthN c < b
    · rw [if_pos hw, if_pos hw]
      by_cases ho : 255 < v * b + worthN c
      · rw [if_pos ho]
        cases hf : foldN b (v * b + worthN c) r with
        | none => rfl
        | some x => have := foldN_ge b hb _ _ _ hf; simp; omega
      · rw [if_neg ho]
        exact ih _ (by omega)
    · rw [if_neg hw, if_neg hw]
/-- The document's number, in the reader's words. -/
theorem numP_pu {l : List UInt8} {n b : Nat} (hb : 1 ≤ b) (hn : n ≤ l.length) : numP l n b = match pu b 0 (l.take n) with
    | none => -1
    | some u => (u : Int) := by
  unfold numP
  rw [if_neg (by omega), pu_fold b hb _ 0 (by omega)]
  cases foldN b 0 (l.take n) with
  | none => rfl
  | some x =>
    by_cases h : 255 < x
    · simp [h]
    · simp [h]

theorem pu_le (b : Nat) : ∀ (l : List UInt8) (v u : Nat), v ≤ 255 → pu b v l = some u → u ≤ 255 := by
  intro l
  induction l with
  | nil => intro v u h e; cases e; exact h
  | cons c r ih =>
    intro v u h e
    unfold pu at e
    split at e
    · split at e
      · cases e
      · exact ih _ _ (by omega) e
    · cases e

/-- What is read of the library's variables: the two errors. -/
structure Rdy (w : World) : Prop where
  syn : ∃ ev, w.cell? ⟨1, 0, none⟩ = some ev ∧ (ev = .nilIface ∨ ∃ te pe, ev = .iface te pe)
  rng : ∃ ev, w.cell? ⟨2, 0, none⟩ = some ev ∧ (ev = .nilIface ∨ ∃ te pe, ev = .iface te pe)
  lt1 : 1 < w.heap.size
  lt2 : 2 < w.heap.size
theorem Rdy.below {w w' : World} (h : Rdy w) (b : Below w.heap.size w w') : Rdy w' := by
  refine ⟨?_, ?_, Nat.lt_of_lt_of_le h.lt1 b.size, Nat.lt_of_lt_of_le h.lt2 b.size⟩
  · rw [b.cell (p := ⟨1, 0, none⟩) h.lt1]; exact h.syn
  · rw [b.cell (p := ⟨2, 0, none⟩) h.lt2]; exact h.rng

theorem toError_any (fn s : ByteArray) (base bits k : Int) (w : World) (hk : k = 2 ∨ k = 1) (hlim : s.size ≤ 281474976710656) (R : Rdy w) :
    Calls Tryd.prog 75 #[.string fn, .string s, .int .i64 base, .int .i64 bits, .iface 100 (.int .i64 k)] w fun e w' => ∃ te pe, e = .returned (.iface te pe) ∧ Below w.heap.size w w' := by
  rcases hk with rfl | rfl
  · obtain ⟨ev, hv, hev⟩ := R.syn
    have h : Calls Tryd.prog 75 #[.string fn, .string s, .int .i64 base, .int .i64 bits, .iface 100 (.int .i64 2)] w _ := AnyPu.strconv_toError_syntax { Tryd.laysPu14 with } fn s base bits ev w hlim hv hev
    refine h.mono ?_
    rintro e w' ⟨N, rfl, _, _, b⟩
    exact ⟨_, _, rfl, b⟩
  · obtain ⟨ev, hv, hev⟩ := R.rng
    have h : Calls Tryd.prog 75 #[.string fn, .string s, .int .i64 base, .int .i64 bits, .iface 100 (.int .i64 1)] w _ := AnyPu.strconv_toError_range { Tryd.laysPu14 with } fn s base bits ev w hlim hv hev
    refine h.mono ?_
    rintro e w' ⟨N, rfl, _, _, b⟩
    exact ⟨_, _, rfl, b⟩

set_option maxRecDepth 100000 in
theorem pub10_ok (t : ByteArray) (hne : t.size ≠ 0) (hmax : t.size ≤ 1000) (u : Nat) (h : pu 10 0 t.data.toList = some u) (w : World) : Calls Tryd.prog 73 #[.string t, .int .i64 10, .int .i64 8] w fun e w' => e = .returned (.tuple #[.int .u64 (u : Int), .nilIface]) ∧ Below w.heap.size w w' := by
  have C := hide (ipu10_any t hne hmax w)
  rw [h] at C
  clear h
  go_enter Tryd.func73, Tryd.ntmps73
  go_wp2_with (go_at_call 74; refine (C.out).mono ?_; rintro e w1 ⟨he, b1⟩; obtain rfl := (show e = _ from he))
  go_ret2
  exact ⟨rfl, b1⟩

set_option maxRecDepth 100000 in
theorem pub10_bad (t : ByteArray) (hne : t.size ≠ 0) (hmax : t.size ≤ 1000) (h : pu 10 0 t.data.toList = none) (w : World) (R : Rdy w) : Calls Tryd.prog 73 #[.string t, .int .i64 10, .int .i64 8] w fun e w' => (∃ x te pe, e = .returned (.tuple #[.int .u64 x, .iface te pe])) ∧ Below w.heap.size w w' := by
  have C := hide (ipu10_any t hne hmax w)
  rw [h] at C
  have HM := hide hmax
  clear h hmax
  go_enter Tryd.func73, Tryd.ntmps73
  go_wp2_with (first | (go_at_call 74; refine (C.out).mono ?_; rintro e w1 ⟨he, b1⟩; obtain ⟨x, k, hk, rfl⟩ := (show ∃ (x k : Int), (k = 2 ∨ k = 1) ∧ e = _ from he)) | (go_at_call 75; refine (toError_any _ _ _ _ _ _ hk (by have := HM.out; omega) (R.below b1)).mono ?_; rintro e w2 ⟨te, pe, rfl, b2⟩))
  go_ret2
  exact ⟨⟨_, _, _, rfl⟩, b1.trans (b2.mono b1.size)⟩

set_option maxRecDepth 100000 in
theorem pub16_ok (t : ByteArray) (hne : t.size ≠ 0) (hmax : t.size ≤ 1000) (u : Nat) (h : pu 16 0 t.data.toList = some u) (w : World) : Calls Tryd.prog 73 #[.string t, .int .i64 16, .int .i64 8] w fun e w' => e = .returned (.tuple #[.int .u64 (u : Int), .nilIface]) ∧ Below w.heap.size w w' := by
  have C := hide (ipu16_any t hne hmax w)
  rw [h] at C
  clear h
  go_enter Tryd.func73, Tryd.ntmps73
  go_wp2_with (go_at_call 74; refine (C.out).mono ?_; rintro e w1 ⟨he, b1⟩; obtain rfl := (show e = _ from he))
  go_ret2
  exact ⟨rfl, b1⟩

set_option maxRecDepth 100000 in
theorem pub16_bad (t : ByteArray) (hne : t.size ≠ 0) (hmax : t.size ≤ 1000) (h : pu 16 0 t.data.toList = none) (w : World) (R : Rdy w) : Calls Tryd.prog 73 #[.string t, .int .i64 16, .int .i64 8] w fun e w' => (∃ x te pe, e = .returned (.tuple #[.int .u64 x, .iface te pe])) ∧ Below w.heap.size w w' := by
  have C := hide (ipu16_any t hne hmax w)
  rw [h] at C
  have HM := hide hmax
  clear h hmax
  go_enter Tryd.func73, Tryd.ntmps73
  go_wp2_with (first | (go_at_call 74; refine (C.out).mono ?_; rintro e w1 ⟨he, b1⟩; obtain ⟨x, k, hk, rfl⟩ := (show ∃ (x k : Int), (k = 2 ∨ k = 1) ∧ e = _ from he)) | (go_at_call 75; refine (toError_any _ _ _ _ _ _ hk (by have := HM.out; omega) (R.below b1)).mono ?_; rintro e w2 ⟨te, pe, rfl, b2⟩))
  go_ret2
  exact ⟨⟨_, _, _, rfl⟩, b1.trans (b2.mono b1.size)⟩

set_option maxRecDepth 100000 in
theorem num3_any (s : ByteArray) (w : World) (R : Rdy w) (x : Int) (hx : numP (s.data.toList.drop 0) 3 10 = x) (hs : s.size ≤ maxLen) (h0 : 0 < s.size) : Calls Tryd.prog 70 #[.string s, .int .i64 0, .int .i64 3, .int .i64 10] w fun e w' => e = .returned (if x < 0 then .tuple #[.int .i64 (-1), .int .i64 0] else .tuple #[.int .i64 x, .int .i64 3]) ∧ Below w.heap.size w w' := by
  unfold maxLen at hs
  by_cases h1 : s.size < 3
  · have hx1 : x = -1 := by
      rw [← hx, numP, if_pos (by rw [List.length_drop, ← Lib.size_eq]; omega)]
    subst hx1
    rw [if_pos (by decide)]
    clear hx
    go_enter Tryd.func70, Tryd.ntmps70
    go_wp2
    go_ret2
    exact ⟨rfl, Below.refl _ _⟩
  · rw [numP_pu (by decide) (by rw [List.length_drop, ← Lib.size_eq]; omega)] at hx
    obtain ⟨t, ht⟩ : ∃ t, s.extract 0 3 = t := ⟨_, rfl⟩
    have htl : (s.data.toList.drop 0).take 3 = t.data.toList := by rw [← ht]; simp [ByteArray.data_extract]
    have htz : t.size = 3 := by rw [← ht]; simp; omega
    rw [htl] at hx
    have HZ := hide htz
    clear htz htl
    cases hp : pu 10 0 t.data.toList with
    | none =>
      rw [hp] at hx
      obtain rfl : x = -1 := hx.symm
      rw [if_pos (by decide)]
      have C := hide (fun W => pub10_bad t (by rw [HZ.out]; decide) (by rw [HZ.out]; decide) hp W)
      clear hx hp
      go_enter Tryd.func70, Tryd.ntmps70
      go_wp2_with (go_at_call 73; refine (C.out _ R).mono ?_; rintro e w1 ⟨⟨y, te, pe, rfl⟩, b1⟩)
      go_ret2
      exact ⟨rfl, b1⟩
    | some u =>
      rw [hp] at hx
      obtain rfl : x = (u : Int) := hx.symm
      rw [if_neg (by omega)]
      have C := hide (fun W => pub10_ok t (by rw [HZ.out]; decide) (by rw [HZ.out]; decide) u hp W)
      have hu : u ≤ 255 := pu_le 10 _ _ _ (by decide) hp
      clear hx hp
      go_enter Tryd.func70, Tryd.ntmps70
      go_wp2_with (go_at_call 73; refine (C.out _).mono ?_; rintro e w1 ⟨rfl, b1⟩)
      go_ret2
      exact ⟨rfl, b1⟩

set_option maxRecDepth 100000 in
theorem num4_any (s : ByteArray) (w : World) (R : Rdy w) (x : Int) (hx : numP (s.data.toList.drop 1) 4 16 = x) (hs : s.size ≤ maxLen) (h0 : 0 < s.size) : Calls Tryd.prog 70 #[.string s, .int .i64 1, .int .i64 5, .int .i64 16] w fun e w' => e = .returned (if x < 0 then .tuple #[.int .i64 (-1), .int .i64 0] else .tuple #[.int .i64 x, .int .i64 5]) ∧ Below w.heap.size w w' := by
  unfold maxLen at hs
  by_cases h1 : s.size < 5
  · have hx1 : x = -1 := by
      rw [← hx, numP, if_pos (by rw [List.length_drop, ← Lib.size_eq]; omega)]
    subst hx1
    rw [if_pos (by decide)]
    clear hx
    go_enter Tryd.func70, Tryd.ntmps70
    go_wp2
    go_ret2
    exact ⟨rfl, Below.refl _ _⟩
  · rw [numP_pu (by decide) (by rw [List.length_drop, ← Lib.size_eq]; omega)] at hx
    obtain ⟨t, ht⟩ : ∃ t, s.extract 1 5 = t := ⟨_, rfl⟩
    have htl : (s.data.toList.drop 1).take 4 = t.data.toList := by rw [← ht]; simp [ByteArray.data_extract]
    have htz : t.size = 4 := by rw [← ht]; simp; omega
    rw [htl] at hx
    have HZ := hide htz
    clear htz htl
    cases hp : pu 16 0 t.data.toList with
    | none =>
      rw [hp] at hx
      obtain rfl : x = -1 := hx.symm
      rw [if_pos (by decide)]
      have C := hide (fun W => pub16_bad t (by rw [HZ.out]; decide) (by rw [HZ.out]; decide) hp W)
      clear hx hp
      go_enter Tryd.func70, Tryd.ntmps70
      go_wp2_with (go_at_call 73; refine (C.out _ R).mono ?_; rintro e w1 ⟨⟨y, te, pe, rfl⟩, b1⟩)
      go_ret2
      exact ⟨rfl, b1⟩
    | some u =>
      rw [hp] at hx
      obtain rfl : x = (u : Int) := hx.symm
      rw [if_neg (by omega)]
      have C := hide (fun W => pub16_ok t (by rw [HZ.out]; decide) (by rw [HZ.out]; decide) u hp W)
      have hu : u ≤ 255 := pu_le 16 _ _ _ (by decide) hp
      clear hx hp
      go_enter Tryd.func70, Tryd.ntmps70
      go_wp2_with (go_at_call 73; refine (C.out _).mono ?_; rintro e w1 ⟨rfl, b1⟩)
      go_ret2
      exact ⟨rfl, b1⟩
end Go.Proofs.YtmeooghcdgpofaaDoor
