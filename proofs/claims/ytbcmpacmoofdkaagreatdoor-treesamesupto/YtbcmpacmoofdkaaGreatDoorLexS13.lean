/- The program's scanner: escapes of control bytes, gaps. -/
import Derived.Test.YtbcmpacmoofdkaaGreatDoorProg
import Derived.Test.YtbcmpacmoofdkaaGreatDoorShelf
import Derived.Test.YtbcmpacmoofdkaaGreatDoorLexB
import Derived.Test.YtbcmpacmoofdkaaGreatDoorStrM
import Derived.Test.YtbcmpacmoofdkaaGreatDoorLexD6
import Derived.WalkKit
import Derived.ProofKit
import Derived.OpenShut
import Derived.Below
import Derived.WalkLawsBesides
import Derived.OwnWalk
import Derived.Lib.IndexBytes
import Derived.Test.YtbcmpacmoofdkaaGreatDoorLexS10
import Derived.Shelf.Pu.ToError
import Derived.Shelf.Pu.ToErrorRange
namespace Go.Proofs.YtbcmpacmoofdkaaGreatDoor
open Go.ChangeShapes Go.WideShapes Go.ChangeAt Go.RowKit

/-- Behind a backslash and a '^'. -/
def ctlP : List UInt8 → Int × Nat
  | [] => (-1, 0)
  | d :: _ => if 64 ≤ d.toNat ∧ d.toNat ≤ 95 then ((d.toNat : Int) - 64, 2) else (-1, 0)

set_option maxRecDepth 100000 in
set_option maxHeartbeats 1000000 in
theorem controlled_any (s : ByteArray) (w : World) (x : Int) (k : Nat) (hx : ctlP (s.data.toList.drop 1) = (x, k)) (hs : s.size ≤ maxLen) (h0 : 0 < s.size) : Calls Tryz.prog 149 #[.string s] w fun e w' => e = .returned (.tuple #[.int .i64 x, .int .i64 (k : Int)]) ∧ w' = w := by
  unfold maxLen at hs
  by_cases h1 : 1 < s.size
  · rw [drop_at s 1 h1, ctlP] at hx
    obtain ⟨n, hn⟩ : ∃ n, (s[1]'h1).toNat = n := ⟨_, rfl⟩
    have hn2 : n < 256 := by rw [← hn]; exact (s[1]'h1).toNat_lt
    rw [hn] at hx
    by_cases h2 : 64 ≤ n ∧ n ≤ 95
    · rw [if_pos h2] at hx
      obtain ⟨rfl, rfl⟩ := Prod.mk.inj hx
      clear hx
      go_enter Tryz.func149, Tryz.ntmps149
      go_wp2
      go_ret2
      exact ⟨rfl, rfl⟩
    · rw [if_neg h2] at hx
      obtain ⟨rfl, rfl⟩ := Prod.mk.inj hx
      clear hx
      have cs : n < 64 ∨ (¬ n < 64 ∧ 96 ≤ n) := by omega
      clear h2
      rcases cs with h2 | ⟨h2, h3⟩
      all_goals
        go_enter Tryz.func149, Tryz.ntmps149
        go_wp2
        go_ret2
        exact ⟨rfl, rfl⟩
  · rw [drop_end s 1 h1, ctlP] at hx
    obtain ⟨rfl, rfl⟩ := Prod.mk.inj hx
    clear hx
    go_enter Tryz.func149, Tryz.ntmps149
    go_wp2
    go_ret2
    exact ⟨rfl, rfl⟩

theorem lblank_eq : lblankB = blankB := rfl
theorem head_pre (l : List UInt8) (x : UInt8) : ([x] : List UInt8).isPrefixOf l = decide (l.head? = some x) := by
  cases l with
  | nil => rfl
  | cons c r =>
    rw [List.isPrefixOf_cons_cons, List.isPrefixOf_nil_left, Bool.and_true, Bool.eq_iff_iff]
    simp
    exact eq_comm

set_option maxRecDepth 100000 in
set_option maxHeartbeats 1000000 in
theorem gap_any (s : ByteArray) (w : World) (g : Nat) (hg : gapN s.data.toList = g) (hs : s.size ≤ 1073741824) (hb : (s.data.toList.takeWhile blankB).length ≠ 0) : Calls Tryz.prog 150 #[.string s] w fun e w' => e = .returned (.int .i64 (g : Int)) ∧ Below w.heap.size w w' := by
  have CR := hide (fun W => run_any s 1 (by decide) (by omega) W)
  rw [isK_blank, lblank_eq] at CR
  have hle := runP_le blankB s.data.toList
  rw [size_list] at hle
  unfold gapN at hg
  rw [if_neg hb] at hg
  have hru : runP blankB s.data.toList = (s.data.toList.takeWhile blankB).length := rfl
  rw [← hru] at hg
  generalize runP blankB s.data.toList = n at *
  obtain ⟨t, ht⟩ : ∃ t, s.extract n s.size = t := ⟨_, rfl⟩
  have hl : t.data.toList = s.data.toList.drop n := by rw [← ht]; exact ext_list s n
  have CB := hide (fun W => Tryz.strings_HasPrefix t ⟨#[92]⟩ W)
  have e0 : Lib.hasPrefix t.data.toList (ByteArray.mk #[92]).data.toList = ([92] : List UInt8).isPrefixOf t.data.toList := rfl
  simp only [e0] at CB
  rw [head_pre, hl] at CB
  clear hl hru hb e0
  by_cases hh : (s.data.toList.drop n).head? = some 92
  · rw [if_pos hh] at hg
    rw [decide_eq_true hh] at CB
    subst hg
    clear hh
    go_enter Tryz.func150, Tryz.ntmps150
    go_wp2_with (first | (go_at_call 85; refine (CR.out _).mono ?_; rintro e w1 ⟨rfl, h0⟩; replace h0 := h0.symm; subst h0) | (go_at_call 92; refine (CB.out _).mono ?_; rintro e w1 ⟨rfl, h0⟩; replace h0 := h0.symm; subst h0))
    go_ret
    exact ⟨by go_num, Below.refl _ _⟩
  · rw [if_neg hh] at hg
    rw [decide_eq_false hh] at CB
    subst hg
    clear hh
    go_enter Tryz.func150, Tryz.ntmps150
    go_wp2_with (first | (go_at_call 85; refine (CR.out _).mono ?_; rintro e w1 ⟨rfl, h0⟩; replace h0 := h0.symm; subst h0) | (go_at_call 92; refine (CB.out _).mono ?_; rintro e w1 ⟨rfl, h0⟩; replace h0 := h0.symm; subst h0))
    go_ret
    exact ⟨rfl, Below.refl _ _⟩
end Go.Proofs.YtbcmpacmoofdkaaGreatDoor
/- The public reader of whole numbers, and package str's reader of a character's number. -/
namespace Go.Proofs.YtbcmpacmoofdkaaGreatDoor
open Go.ChangeShapes Go.WideShapes Go.ChangeAt Go.RowKit

theorem foldN_ge (b : Nat) (hb : 1 ≤ b) : ∀ (l : List UInt8) (v x : Nat), foldN b v l = some x → v ≤ x := by
  intro l
  induction l with
  | nil => intro v x h; cases h; exact Nat.le_refl _
  | cons c r ih =>
    intro v x h
    unfold foldN at h
    split at h
    · have h1 := ih _ _ h
      have h2 : v * 1 ≤ v * b := Nat.mul_le_mul_left v hb
      omega
    · cases h
theorem pu_fold (b : Nat) (hb : 1 ≤ b) : ∀ (l : List UInt8) (v : Nat), v ≤ 255 → pu b v l = match foldN b v l with
    | none => none
    | some x => if 255 < x then none else some x := by
  intro l
  induction l with
  | nil => intro v h; simp [pu, foldN]; omega
  | cons c r ih =>
    intro v h
    unfold pu foldN
    by_cases hw : worthN c < b
    · rw [if_pos hw, if_pos hw]
      by_cases ho : 255 < v * b + worthN c
      · rw [if_pos ho]
        cases hf : foldN b (v * b + worthN c) r with
        | none => rfl
        | some x => have := foldN_ge b hb _ _ _ hf; simp; omega
      · rw [if_neg ho]
        exact ih _ (by omega)
    · rw [if_neg hw, if_neg hw]
/-- The document's number, in the reader's words. -/
theorem numP_pu {l : List UInt8} {n b : Nat} (hb : 1 ≤ b) (hn : n ≤ l.length) : numP l n b = match pu b 0 (l.take n) with
    | none => -1
    | some u => (u : Int) := by
  unfold numP
  rw [if_neg (by omega), pu_fold b hb _ 0 (by omega)]
  cases foldN b 0 (l.take n) with
  | none => rfl
  | some x =>
    by_cases h : 255 < x
    · simp [h]
    · simp [h]

theorem pu_le (b : Nat) : ∀ (l : List UInt8) (v u : Nat), v ≤ 255 → pu b v l = some u → u ≤ 255 := by
  intro l
  induction l with
  | nil => intro v u h e; cases e; exact h
  | cons c r ih =>
    intro v u h e
    unfold pu at e
    split at e
    · split at e
      · cases e
      · exact ih _ _ (by omega) e
    · cases e

/-- What is read of the library's variables: the two errors. -/
structure Rdy (w : World) : Prop where
  syn : ∃ ev, w.cell? ⟨6, 0, none⟩ = some ev ∧ (ev = .nilIface ∨ ∃ te pe, ev = .iface te pe)
  rng : ∃ ev, w.cell? ⟨7, 0, none⟩ = some ev ∧ (ev = .nilIface ∨ ∃ te pe, ev = .iface te pe)
  lt1 : 6 < w.heap.size
  lt2 : 7 < w.heap.size
theorem Rdy.below {w w' : World} (h : Rdy w) (b : Below w.heap.size w w') : Rdy w' := by
  refine ⟨?_, ?_, Nat.lt_of_lt_of_le h.lt1 b.size, Nat.lt_of_lt_of_le h.lt2 b.size⟩
  · rw [b.cell (p := ⟨6, 0, none⟩) h.lt1]; exact h.syn
  · rw [b.cell (p := ⟨7, 0, none⟩) h.lt2]; exact h.rng

theorem toError_any (fn s : ByteArray) (base bits k : Int) (w : World) (hk : k = 2 ∨ k = 1) (hlim : s.size ≤ 281474976710656) (R : Rdy w) :
    Calls Tryz.prog 200 #[.string fn, .string s, .int .i64 base, .int .i64 bits, .iface 227 (.int .i64 k)] w fun e w' => ∃ te pe, e = .returned (.iface te pe) ∧ Below w.heap.size w w' := by
  rcases hk with rfl | rfl
  · obtain ⟨ev, hv, hev⟩ := R.syn
    have h : Calls Tryz.prog 200 #[.string fn, .string s, .int .i64 base, .int .i64 bits, .iface 227 (.int .i64 2)] w _ := AnyPu.strconv_toError_syntax { Tryz.laysPu14 with } fn s base bits ev w hlim hv hev
    refine h.mono ?_
    rintro e w' ⟨N, rfl, _, _, b⟩
    exact ⟨_, _, rfl, b⟩
  · obtain ⟨ev, hv, hev⟩ := R.rng
    have h : Calls Tryz.prog 200 #[.string fn, .string s, .int .i64 base, .int .i64 bits, .iface 227 (.int .i64 1)] w _ := AnyPu.strconv_toError_range { Tryz.laysPu14 with } fn s base bits ev w hlim hv hev
    refine h.mono ?_
    rintro e w' ⟨N, rfl, _, _, b⟩
    exact ⟨_, _, rfl, b⟩

set_option maxRecDepth 100000 in
theorem pub10_ok (t : ByteArray) (hne : t.size ≠ 0) (hmax : t.size ≤ 1000) (u : Nat) (h : pu 10 0 t.data.toList = some u) (w : World) : Calls Tryz.prog 176 #[.string t, .int .i64 10, .int .i64 8] w fun e w' => e = .returned (.tuple #[.int .u64 (u : Int), .nilIface]) ∧ Below w.heap.size w w' := by
  have C := hide (ipu10_any t hne hmax w)
  rw [h] at C
  clear h
  go_enter Tryz.func176, Tryz.ntmps176
  go_wp2_with (go_at_call 199; refine (C.out).mono ?_; rintro e w1 ⟨he, b1⟩; obtain rfl := (show e = _ from he))
  go_ret2
  exact ⟨rfl, b1⟩

set_option maxRecDepth 100000 in
theorem pub10_bad (t : ByteArray) (hne : t.size ≠ 0) (hmax : t.size ≤ 1000) (h : pu 10 0 t.data.toList = none) (w : World) (R : Rdy w) : Calls Tryz.prog 176 #[.string t, .int .i64 10, .int .i64 8] w fun e w' => (∃ x te pe, e = .returned (.tuple #[.int .u64 x, .iface te pe])) ∧ Below w.heap.size w w' := by
  have C := hide (ipu10_any t hne hmax w)
  rw [h] at C
  have HM := hide hmax
  clear h hmax
  go_enter Tryz.func176, Tryz.ntmps176
  go_wp2_with (first | (go_at_call 199; refine (C.out).mono ?_; rintro e w1 ⟨he, b1⟩; obtain ⟨x, k, hk, rfl⟩ := (show ∃ (x k : Int), (k = 2 ∨ k = 1) ∧ e = _ from he)) | (go_at_call 200; refine (toError_any _ _ _ _ _ _ hk (by have := HM.out; omega) (R.below b1)).mono ?_; rintro e w2 ⟨te, pe, rfl, b2⟩))
  go_ret2
  exact ⟨⟨_, _, _, rfl⟩, b1.trans (b2.mono b1.size)⟩

set_option maxRecDepth 100000 in
theorem pub16_ok (t : ByteArray) (hne : t.size ≠ 0) (hmax : t.size ≤ 1000) (u : Nat) (h : pu 16 0 t.data.toList = some u) (w : World) : Calls Tryz.prog 176 #[.string t, .int .i64 16, .int .i64 8] w fun e w' => e = .returned (.tuple #[.int .u64 (u : Int), .nilIface]) ∧ Below w.heap.size w w' := by
  have C := hide (ipu16_any t hne hmax w)
  rw [h] at C
  clear h
  go_enter Tryz.func176, Tryz.ntmps176
  go_wp2_with (go_at_call 199; refine (C.out).mono ?_; rintro e w1 ⟨he, b1⟩; obtain rfl := (show e = _ from he))
  go_ret2
  exact ⟨rfl, b1⟩

set_option maxRecDepth 100000 in
theorem pub16_bad (t : ByteArray) (hne : t.size ≠ 0) (hmax : t.size ≤ 1000) (h : pu 16 0 t.data.toList = none) (w : World) (R : Rdy w) : Calls Tryz.prog 176 #[.string t, .int .i64 16, .int .i64 8] w fun e w' => (∃ x te pe, e = .returned (.tuple #[.int .u64 x, .iface te pe])) ∧ Below w.heap.size w w' := by
  have C := hide (ipu16_any t hne hmax w)
  rw [h] at C
  have HM := hide hmax
  clear h hmax
  go_enter Tryz.func176, Tryz.ntmps176
  go_wp2_with (first | (go_at_call 199; refine (C.out).mono ?_; rintro e w1 ⟨he, b1⟩; obtain ⟨x, k, hk, rfl⟩ := (show ∃ (x k : Int), (k = 2 ∨ k = 1) ∧ e = _ from he)) | (go_at_call 200; refine (toError_any _ _ _ _ _ _ hk (by have := HM.out; omega) (R.below b1)).mono ?_; rintro e w2 ⟨te, pe, rfl, b2⟩))
  go_ret2
  exact ⟨⟨_, _, _, rfl⟩, b1.trans (b2.mono b1.size)⟩

set_option maxRecDepth 100000 in
theorem num3_any (s : ByteArray) (w : World) (R : Rdy w) (x : Int) (hx : numP (s.data.toList.drop 0) 3 10 = x) (hs : s.size ≤ maxLen) (h0 : 0 < s.size) : Calls Tryz.prog 151 #[.string s, .int .i64 0, .int .i64 3, .int .i64 10] w fun e w' => e = .returned (if x < 0 then .tuple #[.int .i64 (-1), .int .i64 0] else .tuple #[.int .i64 x, .int .i64 3]) ∧ Below w.heap.size w w' := by
  unfold maxLen at hs
  by_cases h1 : s.size < 3
  · have hx1 : x = -1 := by
      rw [← hx, numP, if_pos (by rw [List.length_drop, ← Lib.size_eq]; omega)]
    subst hx1
    rw [if_pos (by decide)]
    clear hx
    go_enter Tryz.func151, Tryz.ntmps151
    go_wp2
    go_ret2
    exact ⟨rfl, Below.refl _ _⟩
  · rw [numP_pu (by decide) (by rw [List.length_drop, ← Lib.size_eq]; omega)] at hx
    obtain ⟨t, ht⟩ : ∃ t, s.extract 0 3 = t := ⟨_, rfl⟩
    have htl : (s.data.toList.drop 0).take 3 = t.data.toList := by rw [← ht]; simp [ByteArray.data_extract]
    have htz : t.size = 3 := by rw [← ht]; simp; omega
    rw [htl] at hx
    have HZ := hide htz
    clear htz htl
    cases hp : pu 10 0 t.data.toList with
    | none =>
      rw [hp] at hx
      obtain rfl : x = -1 := hx.symm
      rw [if_pos (by decide)]
      have C := hide (fun W => pub10_bad t (by rw [HZ.out]; decide) (by rw [HZ.out]; decide) hp W)
      clear hx hp
      go_enter Tryz.func151, Tryz.ntmps151
      go_wp2_with (go_at_call 176; refine (C.out _ R).mono ?_; rintro e w1 ⟨⟨y, te, pe, rfl⟩, b1⟩)
      go_ret2
      exact ⟨rfl, b1⟩
    | some u =>
      rw [hp] at hx
      obtain rfl : x = (u : Int) := hx.symm
      rw [if_neg (by omega)]
      have C := hide (fun W => pub10_ok t (by rw [HZ.out]; decide) (by rw [HZ.out]; decide) u hp W)
      have hu : u ≤ 255 := pu_le 10 _ _ _ (by decide) hp
      clear hx hp
      go_enter Tryz.func151, Tryz.ntmps151
      go_wp2_with (go_at_call 176; refine (C.out _).mono ?_; rintro e w1 ⟨rfl, b1⟩)
      go_ret2
      exact ⟨rfl, b1⟩

set_option maxRecDepth 100000 in
theorem num4_any (s : ByteArray) (w : World) (R : Rdy w) (x : Int) (hx : numP (s.data.toList.drop 1) 4 16 = x) (hs : s.size ≤ maxLen) (h0 : 0 < s.size) : Calls Tryz.prog 151 #[.string s, .int .i64 1, .int .i64 5, .int .i64 16] w fun e w' => e = .returned (if x < 0 then .tuple #[.int .i64 (-1), .int .i64 0] else .tuple #[.int .i64 x, .int .i64 5]) ∧ Below w.heap.size w w' := by
  unfold maxLen at hs
  by_cases h1 : s.size < 5
  · have hx1 : x = -1 := by
      rw [← hx, numP, if_pos (by rw [List.length_drop, ← Lib.size_eq]; omega)]
    subst hx1
    rw [if_pos (by decide)]
    clear hx
    go_enter Tryz.func151, Tryz.ntmps151
    go_wp2
    go_ret2
    exact ⟨rfl, Below.refl _ _⟩
  · rw [numP_pu (by decide) (by rw [List.length_drop, ← Lib.size_eq]; omega)] at hx
    obtain ⟨t, ht⟩ : ∃ t, s.extract 1 5 = t := ⟨_, rfl⟩
    have htl : (s.data.toList.drop 1).take 4 = t.data.toList := by rw [← ht]; simp [ByteArray.data_extract]
    have htz : t.size = 4 := by rw [← ht]; simp; omega
    rw [htl] at hx
    have HZ := hide htz
    clear htz htl
    cases hp : pu 16 0 t.data.toList with
    | none =>
      rw [hp] at hx
      obtain rfl : x = -1 := hx.symm
      rw [if_pos (by decide)]
      have C := hide (fun W => pub16_bad t (by rw [HZ.out]; decide) (by rw [HZ.out]; decide) hp W)
      clear hx hp
      go_enter Tryz.func151, Tryz.ntmps151
      go_wp2_with (go_at_call 176; refine (C.out _ R).mono ?_; rintro e w1 ⟨⟨y, te, pe, rfl⟩, b1⟩)
      go_ret2
      exact ⟨rfl, b1⟩
    | some u =>
      rw [hp] at hx
      obtain rfl : x = (u : Int) := hx.symm
      rw [if_neg (by omega)]
      have C := hide (fun W => pub16_ok t (by rw [HZ.out]; decide) (by rw [HZ.out]; decide) u hp W)
      have hu : u ≤ 255 := pu_le 16 _ _ _ (by decide) hp
      clear hx hp
      go_enter Tryz.func151, Tryz.ntmps151
      go_wp2_with (go_at_call 176; refine (C.out _).mono ?_; rintro e w1 ⟨rfl, b1⟩)
      go_ret2
      exact ⟨rfl, b1⟩
end Go.Proofs.YtbcmpacmoofdkaaGreatDoor
/- What package str's reader of an escape answers, for every text. -/
namespace Go.Proofs.YtbcmpacmoofdkaaGreatDoor
open Go.ChangeShapes Go.WideShapes Go.ChangeAt Go.RowKit

theorem escP_ctl (c : UInt8) (r : List UInt8) (h : c.toNat = 94) : escP (c :: r) = ctlP r := by
  unfold escP
  simp only [h]
  simp
  cases r <;> rfl
theorem escP_u (c : UInt8) (r : List UInt8) (h : c.toNat = 117) : escP (c :: r) = if numP r 4 16 < 0 then (-1, 0) else (numP r 4 16, 5) := by
  unfold escP
  simp [h]
theorem escP_dig (c : UInt8) (r : List UInt8) (h : 48 ≤ c.toNat ∧ c.toNat ≤ 57) : escP (c :: r) = if numP (c :: r) 3 10 < 0 then (-1, 0) else (numP (c :: r) 3 10, 3) := by
  simp only [escP]
  rw [if_neg (show ¬ c.toNat = 97 by omega), if_neg (show ¬ c.toNat = 98 by omega), if_neg (show ¬ c.toNat = 116 by omega), if_neg (show ¬ c.toNat = 110 by omega), if_neg (show ¬ c.toNat = 118 by omega), if_neg (show ¬ c.toNat = 102 by omega), if_neg (show ¬ c.toNat = 114 by omega), if_neg (show ¬ (c.toNat = 34 ∨ c.toNat = 92) by omega), if_neg (show ¬ c.toNat = 94 by omega), if_neg (show ¬ c.toNat = 117 by omega), if_pos h]
theorem escP_blank (c : UInt8) (r : List UInt8) (h : blankB c = true) : escP (c :: r) = (-1, gapN (c :: r)) := by
  have hn : c.toNat = 9 ∨ c.toNat = 10 ∨ c.toNat = 12 ∨ c.toNat = 13 ∨ c.toNat = 32 := by
    unfold blankB at h
    simp at h
    omega
  simp only [escP]
  rw [if_neg (show ¬ c.toNat = 97 by omega), if_neg (show ¬ c.toNat = 98 by omega), if_neg (show ¬ c.toNat = 116 by omega), if_neg (show ¬ c.toNat = 110 by omega), if_neg (show ¬ c.toNat = 118 by omega), if_neg (show ¬ c.toNat = 102 by omega), if_neg (show ¬ c.toNat = 114 by omega), if_neg (show ¬ (c.toNat = 34 ∨ c.toNat = 92) by omega), if_neg (show ¬ c.toNat = 94 by omega), if_neg (show ¬ c.toNat = 117 by omega), if_neg (show ¬ (48 ≤ c.toNat ∧ c.toNat ≤ 57) by omega), if_pos h]
theorem escP_other (c : UInt8) (r : List UInt8) (n : Nat) (hn : c.toNat = n) (h1 : n ≠ 97 ∧ n ≠ 98 ∧ n ≠ 116 ∧ n ≠ 110 ∧ n ≠ 118 ∧ n ≠ 102 ∧ n ≠ 114) (h2 : n ≠ 34 ∧ n ≠ 92 ∧ n ≠ 94 ∧ n ≠ 117) (h3 : ¬ (48 ≤ n ∧ n ≤ 57)) (h4 : n ≠ 9 ∧ n ≠ 10 ∧ n ≠ 12 ∧ n ≠ 13 ∧ n ≠ 32) : escP (c :: r) = (-1, 0) := by
  have hb : blankB c = false := by
    unfold blankB
    simp
    omega
  simp only [escP]
  rw [if_neg (show ¬ c.toNat = 97 by omega), if_neg (show ¬ c.toNat = 98 by omega), if_neg (show ¬ c.toNat = 116 by omega), if_neg (show ¬ c.toNat = 110 by omega), if_neg (show ¬ c.toNat = 118 by omega), if_neg (show ¬ c.toNat = 102 by omega), if_neg (show ¬ c.toNat = 114 by omega), if_neg (show ¬ (c.toNat = 34 ∨ c.toNat = 92) by omega), if_neg (show ¬ c.toNat = 94 by omega), if_neg (show ¬ c.toNat = 117 by omega), if_neg (show ¬ (48 ≤ c.toNat ∧ c.toNat ≤ 57) by omega), if_neg (by rw [hb]; decide)]
theorem escP_quote (c : UInt8) (r : List UInt8) (h : c.toNat = 34 ∨ c.toNat = 92) : escP (c :: r) = ((c.toNat : Int), 1) := by
  simp only [escP]
  rw [if_neg (show ¬ c.toNat = 97 by omega), if_neg (show ¬ c.toNat = 98 by omega), if_neg (show ¬ c.toNat = 116 by omega), if_neg (show ¬ c.toNat = 110 by omega), if_neg (show ¬ c.toNat = 118 by omega), if_neg (show ¬ c.toNat = 102 by omega), if_neg (show ¬ c.toNat = 114 by omega), if_pos h]
theorem blank_first (c : UInt8) (r : List UInt8) (h : blankB c = true) : ((c :: r).takeWhile blankB).length ≠ 0 := by
  rw [List.takeWhile_cons, h]; simp

set_option maxRecDepth 100000 in
set_option maxHeartbeats 4000000 in
theorem escape_one (s : ByteArray) (w : World) (R : Rdy w) (x : Int) (k : Nat) (hx : escP s.data.toList = (x, k)) (hs : s.size ≤ maxLen) (hb : s.size ≤ 1073741824) : Calls Tryz.prog 128 #[.string s] w fun e w' => e = .returned (.tuple #[.int .i64 x, .int .i64 (k : Int)]) ∧ Below w.heap.size w w' := by
  have HS := hide hs
  unfold maxLen at hs
  have HB9 := hide hb
  clear hb
  by_cases h0 : 0 < s.size
  · have hemp : s.toList.isEmpty = false := by
      rw [← decide_eq_emptyBytes]
      exact decide_eq_false (fun h => by rw [h] at h0; exact absurd h0 (by decide))
    have hd : s.data.toList = s[0] :: s.data.toList.drop 1 := by have := drop_at s 0 h0; simpa using this
    rw [hd] at hx
    obtain ⟨n, hn⟩ : ∃ n, (s[0]'h0).toNat = n := ⟨_, rfl⟩
    have hn2 : n < 256 := by rw [← hn]; exact (s[0]'h0).toNat_lt
    have cs : n = 97 ∨ n = 98 ∨ n = 116 ∨ n = 110 ∨ n = 118 ∨ n = 102 ∨ n = 114 ∨ n = 34 ∨ n = 92 ∨ n = 94 ∨ n = 117 ∨ n = 9 ∨ n = 10 ∨ n = 12 ∨ n = 13 ∨ n = 32 ∨ (48 ≤ n ∧ n ≤ 57) ∨ ((n ≠ 97 ∧ n ≠ 98 ∧ n ≠ 116 ∧ n ≠ 110 ∧ n ≠ 118 ∧ n ≠ 102 ∧ n ≠ 114) ∧ (n ≠ 34 ∧ n ≠ 92 ∧ n ≠ 94 ∧ n ≠ 117) ∧ ¬ (48 ≤ n ∧ n ≤ 57) ∧ (n ≠ 9 ∧ n ≠ 10 ∧ n ≠ 12 ∧ n ≠ 13 ∧ n ≠ 32)) := by
      by_cases a1 : n = 97 ∨ n = 98 ∨ n = 116 ∨ n = 110 ∨ n = 118 ∨ n = 102 ∨ n = 114
      · omega
      · by_cases a2 : n = 34 ∨ n = 92 ∨ n = 94 ∨ n = 117
        · omega
        · by_cases a3 : 48 ≤ n ∧ n ≤ 57
          · simp [a3]
          · by_cases a4 : n = 9 ∨ n = 10 ∨ n = 12 ∨ n = 13 ∨ n = 32
            · omega
            · simp only [not_or] at a1 a2 a4
              simp [a1, a2, a3, a4]
    rcases cs with rfl | rfl | rfl | rfl | rfl | rfl | rfl | rfl | rfl | rfl | rfl | rfl | rfl | rfl | rfl | rfl | hdig | ⟨o1, o2, o3, o4⟩
    · have hx2 : escP (s[0] :: s.data.toList.drop 1) = (7, 1) := by unfold escP; simp [hn]
      rw [hx2] at hx
      obtain ⟨rfl, rfl⟩ := Prod.mk.inj hx
      have HX : Hid (Lib.indexByte (ByteArray.mk #[97, 98, 116, 110, 118, 102, 114]).data.toList ((97 : Int).toNat.toUInt8) = 0) := by show _ = _; decide +kernel
      clear hx hx2 hd
      go_enter Tryz.func128, Tryz.ntmps128
      go_wp2_with (go_at_call 148; refine (Tryz.strings_IndexByte _ _ _).mono ?_; rintro e w1 ⟨rfl, hw⟩; replace hw := hw.symm; subst hw; first | rw [HX.out] | skip)
      go_ret2
      exact ⟨rfl, Below.refl _ _⟩
    · have hx2 : escP (s[0] :: s.data.toList.drop 1) = (8, 1) := by unfold escP; simp [hn]
      rw [hx2] at hx
      obtain ⟨rfl, rfl⟩ := Prod.mk.inj hx
      have HX : Hid (Lib.indexByte (ByteArray.mk #[97, 98, 116, 110, 118, 102, 114]).data.toList ((98 : Int).toNat.toUInt8) = 1) := by show _ = _; decide +kernel
      clear hx hx2 hd
      go_enter Tryz.func128, Tryz.ntmps128
      go_wp2_with (go_at_call 148; refine (Tryz.strings_IndexByte _ _ _).mono ?_; rintro e w1 ⟨rfl, hw⟩; replace hw := hw.symm; subst hw; first | rw [HX.out] | skip)
      go_ret2
      exact ⟨rfl, Below.refl _ _⟩
    · have hx2 : escP (s[0] :: s.data.toList.drop 1) = (9, 1) := by unfold escP; simp [hn]
      rw [hx2] at hx
      obtain ⟨rfl, rfl⟩ := Prod.mk.inj hx
      have HX : Hid (Lib.indexByte (ByteArray.mk #[97, 98, 116, 110, 118, 102, 114]).data.toList ((116 : Int).toNat.toUInt8) = 2) := by show _ = _; decide +kernel
      clear hx hx2 hd
      go_enter Tryz.func128, Tryz.ntmps128
      go_wp2_with (go_at_call 148; refine (Tryz.strings_IndexByte _ _ _).mono ?_; rintro e w1 ⟨rfl, hw⟩; replace hw := hw.symm; subst hw; first | rw [HX.out] | skip)
      go_ret2
      exact ⟨rfl, Below.refl _ _⟩
    · have hx2 : escP (s[0] :: s.data.toList.drop 1) = (10, 1) := by unfold escP; simp [hn]
      rw [hx2] at hx
      obtain ⟨rfl, rfl⟩ := Prod.mk.inj hx
      have HX : Hid (Lib.indexByte (ByteArray.mk #[97, 98, 116, 110, 118, 102, 114]).data.toList ((110 : Int).toNat.toUInt8) = 3) := by show _ = _; decide +kernel
      clear hx hx2 hd
      go_enter Tryz.func128, Tryz.ntmps128
      go_wp2_with (go_at_call 148; refine (Tryz.strings_IndexByte _ _ _).mono ?_; rintro e w1 ⟨rfl, hw⟩; replace hw := hw.symm; subst hw; first | rw [HX.out] | skip)
      go_ret2
      exact ⟨rfl, Below.refl _ _⟩
    · have hx2 : escP (s[0] :: s.data.toList.drop 1) = (11, 1) := by unfold escP; simp [hn]
      rw [hx2] at hx
      obtain ⟨rfl, rfl⟩ := Prod.mk.inj hx
      have HX : Hid (Lib.indexByte (ByteArray.mk #[97, 98, 116, 110, 118, 102, 114]).data.toList ((118 : Int).toNat.toUInt8) = 4) := by show _ = _; decide +kernel
      clear hx hx2 hd
      go_enter Tryz.func128, Tryz.ntmps128
      go_wp2_with (go_at_call 148; refine (Tryz.strings_IndexByte _ _ _).mono ?_; rintro e w1 ⟨rfl, hw⟩; replace hw := hw.symm; subst hw; first | rw [HX.out] | skip)
      go_ret2
      exact ⟨rfl, Below.refl _ _⟩
    · have hx2 : escP (s[0] :: s.data.toList.drop 1) = (12, 1) := by unfold escP; simp [hn]
      rw [hx2] at hx
      obtain ⟨rfl, rfl⟩ := Prod.mk.inj hx
      have HX : Hid (Lib.indexByte (ByteArray.mk #[97, 98, 116, 110, 118, 102, 114]).data.toList ((102 : Int).toNat.toUInt8) = 5) := by show _ = _; decide +kernel
      clear hx hx2 hd
      go_enter Tryz.func128, Tryz.ntmps128
      go_wp2_with (go_at_call 148; refine (Tryz.strings_IndexByte _ _ _).mono ?_; rintro e w1 ⟨rfl, hw⟩; replace hw := hw.symm; subst hw; first | rw [HX.out] | skip)
      go_ret2
      exact ⟨rfl, Below.refl _ _⟩
    · have hx2 : escP (s[0] :: s.data.toList.drop 1) = (13, 1) := by unfold escP; simp [hn]
      rw [hx2] at hx
      obtain ⟨rfl, rfl⟩ := Prod.mk.inj hx
      have HX : Hid (Lib.indexByte (ByteArray.mk #[97, 98, 116, 110, 118, 102, 114]).data.toList ((114 : Int).toNat.toUInt8) = 6) := by show _ = _; decide +kernel
      clear hx hx2 hd
      go_enter Tryz.func128, Tryz.ntmps128
      go_wp2_with (go_at_call 148; refine (Tryz.strings_IndexByte _ _ _).mono ?_; rintro e w1 ⟨rfl, hw⟩; replace hw := hw.symm; subst hw; first | rw [HX.out] | skip)
      go_ret2
      exact ⟨rfl, Below.refl _ _⟩
    · rw [escP_quote _ _ (by omega), hn] at hx
      obtain ⟨rfl, rfl⟩ := Prod.mk.inj hx
      clear hx hd
      go_enter Tryz.func128, Tryz.ntmps128
      go_wp2
      go_ret2
      exact ⟨rfl, Below.refl _ _⟩
    · rw [escP_quote _ _ (by omega), hn] at hx
      obtain ⟨rfl, rfl⟩ := Prod.mk.inj hx
      clear hx hd
      go_enter Tryz.func128, Tryz.ntmps128
      go_wp2
      go_ret2
      exact ⟨rfl, Below.refl _ _⟩
    · rw [escP_ctl _ _ hn] at hx
      have C := hide (fun W => controlled_any s W x k hx HS.out h0)
      clear hx hd
      go_enter Tryz.func128, Tryz.ntmps128
      go_wp2_with (go_at_call 149; refine (C.out _).mono ?_; rintro e w1 ⟨rfl, hw⟩; replace hw := hw.symm; subst hw)
      go_ret2
      exact ⟨rfl, Below.refl _ _⟩
    · rw [escP_u _ _ hn] at hx
      obtain ⟨X, hX⟩ : ∃ X, numP (s.data.toList.drop 1) 4 16 = X := ⟨_, rfl⟩
      rw [hX] at hx
      have C := hide (fun (W : World) (RR : Rdy W) => num4_any s W RR X hX HS.out h0)
      clear hd hX
      by_cases hneg : X < 0
      · rw [if_pos hneg] at hx
        obtain ⟨rfl, rfl⟩ := Prod.mk.inj hx
        rw [if_pos hneg] at C
        clear hx hneg
        go_enter Tryz.func128, Tryz.ntmps128
        go_wp2_with (go_at_call 151; refine (C.out _ R).mono ?_; rintro e w1 ⟨rfl, b1⟩)
        go_ret2
        exact ⟨rfl, b1⟩
      · rw [if_neg hneg] at hx
        obtain ⟨rfl, rfl⟩ := Prod.mk.inj hx
        rw [if_neg hneg] at C
        clear hx hneg
        go_enter Tryz.func128, Tryz.ntmps128
        go_wp2_with (go_at_call 151; refine (C.out _ R).mono ?_; rintro e w1 ⟨rfl, b1⟩)
        go_ret2
        exact ⟨rfl, b1⟩
    · have hbl : blankB s[0] = true := by unfold blankB; rw [hn]; rfl
      rw [escP_blank _ _ hbl] at hx
      obtain ⟨rfl, hk⟩ := Prod.mk.inj hx
      have C := hide (fun W => gap_any s W k (by rw [hd]; exact hk) HB9.out (by rw [hd]; exact blank_first _ _ hbl))
      clear hx hd hbl hk
      go_enter Tryz.func128, Tryz.ntmps128
      go_wp2_with (go_at_call 150; refine (C.out _).mono ?_; rintro e w1 ⟨rfl, b1⟩)
      go_ret2
      exact ⟨rfl, b1⟩
    · have hbl : blankB s[0] = true := by unfold blankB; rw [hn]; rfl
      rw [escP_blank _ _ hbl] at hx
      obtain ⟨rfl, hk⟩ := Prod.mk.inj hx
      have C := hide (fun W => gap_any s W k (by rw [hd]; exact hk) HB9.out (by rw [hd]; exact blank_first _ _ hbl))
      clear hx hd hbl hk
      go_enter Tryz.func128, Tryz.ntmps128
      go_wp2_with (go_at_call 150; refine (C.out _).mono ?_; rintro e w1 ⟨rfl, b1⟩)
      go_ret2
      exact ⟨rfl, b1⟩
    · have hbl : blankB s[0] = true := by unfold blankB; rw [hn]; rfl
      rw [escP_blank _ _ hbl] at hx
      obtain ⟨rfl, hk⟩ := Prod.mk.inj hx
      have C := hide (fun W => gap_any s W k (by rw [hd]; exact hk) HB9.out (by rw [hd]; exact blank_first _ _ hbl))
      clear hx hd hbl hk
      go_enter Tryz.func128, Tryz.ntmps128
      go_wp2_with (go_at_call 150; refine (C.out _).mono ?_; rintro e w1 ⟨rfl, b1⟩)
      go_ret2
      exact ⟨rfl, b1⟩
    · have hbl : blankB s[0] = true := by unfold blankB; rw [hn]; rfl
      rw [escP_blank _ _ hbl] at hx
      obtain ⟨rfl, hk⟩ := Prod.mk.inj hx
      have C := hide (fun W => gap_any s W k (by rw [hd]; exact hk) HB9.out (by rw [hd]; exact blank_first _ _ hbl))
      clear hx hd hbl hk
      go_enter Tryz.func128, Tryz.ntmps128
      go_wp2_with (go_at_call 150; refine (C.out _).mono ?_; rintro e w1 ⟨rfl, b1⟩)
      go_ret2
      exact ⟨rfl, b1⟩
    · have hbl : blankB s[0] = true := by unfold blankB; rw [hn]; rfl
      rw [escP_blank _ _ hbl] at hx
      obtain ⟨rfl, hk⟩ := Prod.mk.inj hx
      have C := hide (fun W => gap_any s W k (by rw [hd]; exact hk) HB9.out (by rw [hd]; exact blank_first _ _ hbl))
      clear hx hd hbl hk
      go_enter Tryz.func128, Tryz.ntmps128
      go_wp2_with (go_at_call 150; refine (C.out _).mono ?_; rintro e w1 ⟨rfl, b1⟩)
      go_ret2
      exact ⟨rfl, b1⟩
    · have dd : n = 48 ∨ n = 49 ∨ n = 50 ∨ n = 51 ∨ n = 52 ∨ n = 53 ∨ n = 54 ∨ n = 55 ∨ n = 56 ∨ n = 57 := by omega
      rcases dd with rfl | rfl | rfl | rfl | rfl | rfl | rfl | rfl | rfl | rfl
      all_goals
        rw [escP_dig _ _ (by omega)] at hx
        obtain ⟨X, hX⟩ : ∃ X, numP (s[0] :: s.data.toList.drop 1) 3 10 = X := ⟨_, rfl⟩
        rw [hX] at hx
        have C := hide (fun (W : World) (RR : Rdy W) => num3_any s W RR X (show numP (s.data.toList.drop 0) 3 10 = X by rw [← hX, ← hd]; rfl) HS.out h0)
        clear hd hX
        by_cases hneg : X < 0
        · rw [if_pos hneg] at hx
          obtain ⟨rfl, rfl⟩ := Prod.mk.inj hx
          rw [if_pos hneg] at C
          clear hx hneg
          go_enter Tryz.func128, Tryz.ntmps128
          go_wp2_with (go_at_call 151; refine (C.out _ R).mono ?_; rintro e w1 ⟨rfl, b1⟩)
          go_ret2
          exact ⟨rfl, b1⟩
        · rw [if_neg hneg] at hx
          obtain ⟨rfl, rfl⟩ := Prod.mk.inj hx
          rw [if_neg hneg] at C
          clear hx hneg
          go_enter Tryz.func128, Tryz.ntmps128
          go_wp2_with (go_at_call 151; refine (C.out _ R).mono ?_; rintro e w1 ⟨rfl, b1⟩)
          go_ret2
          exact ⟨rfl, b1⟩
    · rw [escP_other _ _ n hn o1 o2 o3 o4] at hx
      obtain ⟨rfl, rfl⟩ := Prod.mk.inj hx
      have g97 : ((n : Int) == 97) = false := by simp; omega
      have g98 : ((n : Int) == 98) = false := by simp; omega
      have g116 : ((n : Int) == 116) = false := by simp; omega
      have g110 : ((n : Int) == 110) = false := by simp; omega
      have g118 : ((n : Int) == 118) = false := by simp; omega
      have g102 : ((n : Int) == 102) = false := by simp; omega
      have g114 : ((n : Int) == 114) = false := by simp; omega
      have g34 : ((n : Int) == 34) = false := by simp; omega
      have g92 : ((n : Int) == 92) = false := by simp; omega
      have g94 : ((n : Int) == 94) = false := by simp; omega
      have g117 : ((n : Int) == 117) = false := by simp; omega
      have g9 : ((n : Int) == 9) = false := by simp; omega
      have g10 : ((n : Int) == 10) = false := by simp; omega
      have g12 : ((n : Int) == 12) = false := by simp; omega
      have g13 : ((n : Int) == 13) = false := by simp; omega
      have g32 : ((n : Int) == 32) = false := by simp; omega
      have g48 : ((n : Int) == 48) = false := by simp; omega
      have g49 : ((n : Int) == 49) = false := by simp; omega
      have g50 : ((n : Int) == 50) = false := by simp; omega
      have g51 : ((n : Int) == 51) = false := by simp; omega
      have g52 : ((n : Int) == 52) = false := by simp; omega
      have g53 : ((n : Int) == 53) = false := by simp; omega
      have g54 : ((n : Int) == 54) = false := by simp; omega
      have g55 : ((n : Int) == 55) = false := by simp; omega
      have g56 : ((n : Int) == 56) = false := by simp; omega
      have g57 : ((n : Int) == 57) = false := by simp; omega
      clear hx hd o1 o2 o3 o4
      go_enter Tryz.func128, Tryz.ntmps128
      go_wp2
      go_ret2
      exact ⟨rfl, Below.refl _ _⟩
  · have hd : s.data.toList = [] := by have := drop_end s 0 h0; simpa using this
    rw [hd] at hx
    obtain ⟨rfl, rfl⟩ := Prod.mk.inj (show ((-1 : Int), 0) = (x, k) from hx)
    have hemp : s.toList.isEmpty = true := by
      have : s.size = 0 := by omega
      have e2 : s.toList = [] := by rw [← hd]; exact Lib.toList_data s
      rw [e2]; rfl
    clear hx hd
    go_enter Tryz.func128, Tryz.ntmps128
    go_wp2
    go_ret2
    exact ⟨rfl, Below.refl _ _⟩
end Go.Proofs.YtbcmpacmoofdkaaGreatDoor
