/- Characters and parts of strings on both sides: Sub, Cut, Chr, Cmp. -/
import Derived.Test.YtgjcbgconkiedaaDoorProg
import Derived.Test.YtgjcbgconkiedaaDoorShelf
import Derived.Test.YtgjcbgconkiedaaDoorStr1
import Derived.WalkKit
import Derived.ProofKit
import Derived.OpenShut
import Derived.Below
import Derived.WalkLawsBesides
import Derived.OwnWalk
import Derived.BigQuiet
import Derived.Lib.IndexBytes
import Derived.Laws.IdiomStrings
namespace Go.Proofs.YtgjcbgconkiedaaDoor
open Go.ChangeShapes Go.WideShapes Go.ChangeAt Go.RowKit

theorem bytes_at (w : World) (C : Array Value) (l : List UInt8) (e : TypeId) (cap : Nat) (hC : C = (l.map fun b => Value.int .u8 (b.toNat : Int)).toArray) (_he : e = 5) :
    (convert 50 9 (.slice (some ⟨w.heap.size, 0, none⟩) l.length cap)).run Tryd.prog (w.alloc (.cells C e)) = .ok (.string ⟨l.toArray⟩) (w.alloc (.cells C e)) := by
  refine run_convert_bytes_back _ _ _ 5 _ _ l Tryd.underlying50 Tryd.underlying5 Tryd.underlying9 fun j hj => ?_
  rw [show (⟨w.heap.size, 0, none⟩ : Addr).add j = ⟨w.heap.size, j, none⟩ from by unfold Addr.add; simp; omega, World.cell?_alloc_mark, hC]
  simp [hj]

def chrE (c : Int) : Int := if c < 0 ∨ 255 < c then 1 else 0
def chrS (c : Int) : ByteArray := if c < 0 ∨ 255 < c then ⟨#[]⟩ else ⟨#[c.toNat.toUInt8]⟩
set_option maxRecDepth 100000 in
theorem chr_any (c : Int) (w : World) : Calls Tryd.prog 16 #[.int .i64 c] w fun e w' => e = .returned (.tuple #[.string (chrS c), .int .i64 (chrE c)]) ∧ Below w.heap.size w w' := by
  by_cases h : c < 0 ∨ 255 < c
  · have H1 : Hid (chrS c = ⟨#[]⟩) := by show _ = _; simp [chrS, h]
    have H2 : Hid (chrE c = 1) := by show _ = _; simp [chrE, h]
    rcases h with h | h
    all_goals
      go_enter Tryd.func16, Tryd.ntmps16
      go_wp2
      go_ret2
      exact ⟨ret_si H1.out.symm H2.out.symm, Below.refl _ _⟩
  · have H1 : Hid (chrS c = ⟨#[c.toNat.toUInt8]⟩) := by show _ = _; simp [chrS, h]
    have H2 : Hid (chrE c = 0) := by show _ = _; simp [chrE, h]
    have h0 : 0 ≤ c := by omega
    have h1 : c ≤ 255 := by omega
    have hcv := bytes_at w #[.int .u8 c] [c.toNat.toUInt8] 5 1 (by simp; omega) rfl
    obtain ⟨r, HR⟩ : ∃ r, Hid (ByteArray.mk #[c.toNat.toUInt8] = r) := ⟨_, rfl⟩
    have hcv : (convert 50 9 (.slice (some ⟨w.heap.size, 0, none⟩) 1 1)).run Tryd.prog (w.alloc (.cells #[.int .u8 c] 5)) = .ok (.string r) (w.alloc (.cells #[.int .u8 c] 5)) := by rw [← HR.out]; exact hcv
    go_enter Tryd.func16, Tryd.ntmps16
    go_wp2
    go_ret2
    exact ⟨ret_si (by rw [← HR.out, H1.out]) H2.out.symm, (Below.refl _ _).alloc (Nat.le_refl _) _⟩

set_option maxRecDepth 100000 in
theorem rchr_any (c : Int) (w : World) : Calls Tryd.prog 17 #[.int .i64 c] w fun e w' => e = .returned (.tuple #[.string (chrS c), .int .i64 (chrE c)]) ∧ Below w.heap.size w w' := by
  by_cases h : c < 0 ∨ 255 < c
  · have H1 : Hid (chrS c = ⟨#[]⟩) := by show _ = _; simp [chrS, h]
    have H2 : Hid (chrE c = 1) := by show _ = _; simp [chrE, h]
    rcases h with h | h
    all_goals
      go_enter Tryd.func17, Tryd.ntmps17
      go_wp2
      go_ret2
      exact ⟨ret_si H1.out.symm H2.out.symm, Below.refl _ _⟩
  · have H1 : Hid (chrS c = ⟨#[c.toNat.toUInt8]⟩) := by show _ = _; simp [chrS, h]
    have H2 : Hid (chrE c = 0) := by show _ = _; simp [chrE, h]
    have h0 : 0 ≤ c := by omega
    have h1 : c ≤ 255 := by omega
    have hcv := bytes_at w #[.int .u8 c] [c.toNat.toUInt8] 5 1 (by simp; omega) rfl
    obtain ⟨r, HR⟩ : ∃ r, Hid (ByteArray.mk #[c.toNat.toUInt8] = r) := ⟨_, rfl⟩
    have hcv : (convert 50 9 (.slice (some ⟨w.heap.size, 0, none⟩) 1 1)).run Tryd.prog (w.alloc (.cells #[.int .u8 c] 5)) = .ok (.string r) (w.alloc (.cells #[.int .u8 c] 5)) := by rw [← HR.out]; exact hcv
    go_enter Tryd.func17, Tryd.ntmps17
    go_wp2
    go_ret2
    exact ⟨ret_si (by rw [← HR.out, H1.out]) H2.out.symm, (Below.refl _ _).alloc (Nat.le_refl _) _⟩

def subE (s : ByteArray) (i : Int) : Int := if ¬ s.size ≤ 65536 then 1 else if i < 0 ∨ (s.size : Int) ≤ i then 32 else 0
def subV (s : ByteArray) (i : Int) : Int := if ¬ s.size ≤ 65536 then 0 else if h : 0 ≤ i ∧ i.toNat < s.size then ((s[i.toNat]'h.2).toNat : Int) else 0
theorem subV_at {s : ByteArray} {k : Nat} (hr : s.size ≤ 65536) (h : k < s.size) : subV s (k : Int) = ((s[k]'h).toNat : Int) := by
  unfold subV
  rw [if_neg (by omega), dif_pos ⟨by omega, by simpa using h⟩]
  simp
theorem subE_at {s : ByteArray} {k : Nat} (hr : s.size ≤ 65536) (h : k < s.size) : subE s (k : Int) = 0 := by
  unfold subE
  rw [if_neg (by omega), if_neg (by omega)]

set_option maxRecDepth 100000 in
theorem sub_any (s : ByteArray) (i : Int) (w : World) (hs : s.size ≤ maxLen) : Calls Tryd.prog 12 #[.string s, .int .i64 i] w fun e w' => e = .returned (.tuple #[.int .i64 (subV s i), .int .i64 (subE s i)]) ∧ w' = w := by
  unfold maxLen at hs
  by_cases hr : s.size ≤ 65536
  · have HR : Hid (decide (s.size ≤ 65536) = true) := by show _ = _; simp [hr]
    by_cases hb : i < 0 ∨ (s.size : Int) ≤ i
    · have H1 : Hid (subV s i = 0) := by
        show _ = _; unfold subV; rw [if_neg (by omega), dif_neg (by omega)]
      have H2 : Hid (subE s i = 32) := by show _ = _; unfold subE; rw [if_neg (by omega), if_pos hb]
      clear hr
      rcases hb with hb | hb
      · go_enter Tryd.func12, Tryd.ntmps12
        go_wp2_with (go_at_call 20; refine (right_any _ _).mono ?_; rintro e w' ⟨rfl, rfl⟩; rw [HR.out])
        go_ret2
        exact ⟨ret_two H1.out.symm H2.out.symm, rfl⟩
      · have hb0 : ¬ i < 0 := by omega
        go_enter Tryd.func12, Tryd.ntmps12
        go_wp2_with (go_at_call 20; refine (right_any _ _).mono ?_; rintro e w' ⟨rfl, rfl⟩; rw [HR.out])
        go_ret2
        exact ⟨ret_two H1.out.symm H2.out.symm, rfl⟩
    · obtain ⟨k, rfl⟩ : ∃ k : Nat, i = k := ⟨i.toNat, by omega⟩
      have hk : k < s.size := by omega
      have H1 := hide (subV_at hr hk)
      have H2 := hide (subE_at hr hk)
      have H3 : Hid ((s[k]'hk).toNat < 256) := (s[k]'hk).toNat_lt
      clear hr hb
      go_enter Tryd.func12, Tryd.ntmps12
      go_wp2_with (go_at_call 20; refine (right_any _ _).mono ?_; rintro e w' ⟨rfl, rfl⟩; rw [HR.out])
      go_ret2
      exact ⟨ret_two (by rw [H1.out]; have := H3.out; unfold wrap64; omega) H2.out.symm, rfl⟩
  · have HR : Hid (decide (s.size ≤ 65536) = false) := by show _ = _; simp; omega
    have H1 : Hid (subV s i = 0) := by show _ = _; unfold subV; rw [if_pos hr]
    have H2 : Hid (subE s i = 1) := by show _ = _; unfold subE; rw [if_pos hr]
    clear hr
    go_enter Tryd.func12, Tryd.ntmps12
    go_wp2_with (go_at_call 20; refine (right_any _ _).mono ?_; rintro e w' ⟨rfl, rfl⟩; rw [HR.out])
    go_ret2
    exact ⟨ret_two H1.out.symm H2.out.symm, rfl⟩

set_option maxRecDepth 100000 in
theorem rsub_any (s : ByteArray) (i : Int) (w : World) (hs : s.size ≤ maxLen) : Calls Tryd.prog 13 #[.string s, .int .i64 i] w fun e w' => e = .returned (.tuple #[.int .i64 (subV s i), .int .i64 (subE s i)]) ∧ w' = w := by
  unfold maxLen at hs
  by_cases hr : s.size ≤ 65536
  · have HR : Hid (decide (s.size ≤ 65536) = true) := by show _ = _; simp [hr]
    by_cases hb : i < 0 ∨ (s.size : Int) ≤ i
    · have H1 : Hid (subV s i = 0) := by
        show _ = _; unfold subV; rw [if_neg (by omega), dif_neg (by omega)]
      have H2 : Hid (subE s i = 32) := by show _ = _; unfold subE; rw [if_neg (by omega), if_pos hb]
      clear hr
      rcases hb with hb | hb
      · go_enter Tryd.func13, Tryd.ntmps13
        go_wp2_with (go_at_call 21; refine (rright_any _ _).mono ?_; rintro e w' ⟨rfl, rfl⟩; rw [HR.out])
        go_ret2
        exact ⟨ret_two H1.out.symm H2.out.symm, rfl⟩
      · have hb0 : ¬ i < 0 := by omega
        go_enter Tryd.func13, Tryd.ntmps13
        go_wp2_with (go_at_call 21; refine (rright_any _ _).mono ?_; rintro e w' ⟨rfl, rfl⟩; rw [HR.out])
        go_ret2
        exact ⟨ret_two H1.out.symm H2.out.symm, rfl⟩
    · obtain ⟨k, rfl⟩ : ∃ k : Nat, i = k := ⟨i.toNat, by omega⟩
      have hk : k < s.size := by omega
      have H1 := hide (subV_at hr hk)
      have H2 := hide (subE_at hr hk)
      have H3 : Hid ((s[k]'hk).toNat < 256) := (s[k]'hk).toNat_lt
      clear hr hb
      go_enter Tryd.func13, Tryd.ntmps13
      go_wp2_with (go_at_call 21; refine (rright_any _ _).mono ?_; rintro e w' ⟨rfl, rfl⟩; rw [HR.out])
      go_ret2
      exact ⟨ret_two (by rw [H1.out]; have := H3.out; unfold wrap64; omega) H2.out.symm, rfl⟩
  · have HR : Hid (decide (s.size ≤ 65536) = false) := by show _ = _; simp; omega
    have H1 : Hid (subV s i = 0) := by show _ = _; unfold subV; rw [if_pos hr]
    have H2 : Hid (subE s i = 1) := by show _ = _; unfold subE; rw [if_pos hr]
    clear hr
    go_enter Tryd.func13, Tryd.ntmps13
    go_wp2_with (go_at_call 21; refine (rright_any _ _).mono ?_; rintro e w' ⟨rfl, rfl⟩; rw [HR.out])
    go_ret2
    exact ⟨ret_two H1.out.symm H2.out.symm, rfl⟩

theorem clone_any (s : ByteArray) (w : World) (hs : s.size ≤ 281474976710656) : Calls Tryd.prog 29 #[.string s] w fun e w' => e = .returned (.string s) ∧ Below w.heap.size w w' := by
  go_enter Tryd.func29, Tryd.ntmps29
  go_wp2_with (go_at_call 36; refine (Tryd.stringslite_Clone _ _ hs).mono ?_; rintro e w1 ⟨rfl, g1⟩)
  go_ret
  exact ⟨rfl, g1⟩

def cutE (s : ByteArray) (i n : Int) : Int := if ¬ s.size ≤ 65536 then 1 else if i < 0 ∨ n < 0 ∨ (s.size : Int) < i + n then 32 else 0
def cutS (s : ByteArray) (i n : Int) : ByteArray := if ¬ s.size ≤ 65536 then ⟨#[]⟩ else if i < 0 ∨ n < 0 ∨ (s.size : Int) < i + n then ⟨#[]⟩ else s.extract i.toNat (i + n).toNat
theorem cut_at {s : ByteArray} {a b : Nat} (hr : s.size ≤ 65536) (h : a + b ≤ s.size) : cutE s a b = 0 ∧ cutS s a b = s.extract a (a + b) := by
  unfold cutE cutS
  rw [if_neg (by omega), if_neg (by omega), if_neg (by omega), if_neg (by omega)]
  exact ⟨rfl, by congr 1⟩

set_option maxRecDepth 100000 in
theorem cut_any (s : ByteArray) (i n : Int) (w : World) (hs : s.size ≤ maxLen) (hi : -9223372036854775808 ≤ i ∧ i ≤ 9223372036854775807) (hn : -9223372036854775808 ≤ n ∧ n ≤ 9223372036854775807) : Calls Tryd.prog 14 #[.string s, .int .i64 i, .int .i64 n] w fun e w' => e = .returned (.tuple #[.string (cutS s i n), .int .i64 (cutE s i n)]) ∧ Below w.heap.size w w' := by
  unfold maxLen at hs
  by_cases hr : s.size ≤ 65536
  · have HR : Hid (decide (s.size ≤ 65536) = true) := by show _ = _; simp [hr]
    by_cases hb : i < 0 ∨ n < 0 ∨ (s.size : Int) < i + n
    · have H1 : Hid (cutS s i n = ⟨#[]⟩) := by show _ = _; unfold cutS; rw [if_neg (by omega), if_pos hb]
      have H2 : Hid (cutE s i n = 32) := by show _ = _; unfold cutE; rw [if_neg (by omega), if_pos hb]
      have cs : i < 0 ∨ (¬ i < 0 ∧ n < 0) ∨ (¬ i < 0 ∧ ¬ n < 0 ∧ (s.size : Int) - i < n) := by omega
      clear hb
      rcases cs with hb | ⟨hb0, hb⟩ | ⟨hb0, hb1, hb⟩
      all_goals
        go_enter Tryd.func14, Tryd.ntmps14
        go_wp2_with (go_at_call 20; refine (right_any _ _).mono ?_; rintro e w' ⟨rfl, rfl⟩; rw [HR.out])
        go_ret2
        exact ⟨ret_si H1.out.symm H2.out.symm, Below.refl _ _⟩
    · obtain ⟨a, rfl⟩ : ∃ k : Nat, i = k := ⟨i.toNat, by omega⟩
      obtain ⟨b, rfl⟩ : ∃ k : Nat, n = k := ⟨n.toNat, by omega⟩
      have hab : a + b ≤ s.size := by omega
      have H1 := hide (cut_at hr hab)
      obtain ⟨f, hf⟩ : ∃ f : Nat, a + b = f := ⟨_, rfl⟩
      have hf2 : (a : Int) + (b : Int) = (f : Int) := by omega
      rw [hf] at H1
      have h1 : a ≤ f := by omega
      have h2 : f ≤ s.size := by omega
      have h3 : f ≤ 65536 := by omega
      have h4 : ¬ ((s.size : Int) - a < b) := by omega
      obtain ⟨r, HT⟩ : ∃ r, Hid (s.extract a f = r) := ⟨_, rfl⟩
      have hsl : s.extract a f = r := HT.out
      have HZ : Hid (r.size ≤ 281474976710656) := by show _ ≤ _; rw [← hsl]; simp; omega
      clear hr hb hi hn hab hf
      go_enter Tryd.func14, Tryd.ntmps14
      go_wp2_with (first | (go_at_call 20; refine (right_any _ _).mono ?_; rintro e w' ⟨rfl, rfl⟩; rw [HR.out]) | (go_at_call 29; refine (clone_any _ _ HZ.out).mono ?_; rintro e w1 ⟨rfl, g1⟩))
      go_ret2
      exact ⟨ret_si (by rw [H1.out.2, HT.out]) H1.out.1.symm, g1⟩
  · have HR : Hid (decide (s.size ≤ 65536) = false) := by show _ = _; simp; omega
    have H1 : Hid (cutS s i n = ⟨#[]⟩) := by show _ = _; unfold cutS; rw [if_pos hr]
    have H2 : Hid (cutE s i n = 1) := by show _ = _; unfold cutE; rw [if_pos hr]
    clear hr
    go_enter Tryd.func14, Tryd.ntmps14
    go_wp2_with (go_at_call 20; refine (right_any _ _).mono ?_; rintro e w' ⟨rfl, rfl⟩; rw [HR.out])
    go_ret2
    exact ⟨ret_si H1.out.symm H2.out.symm, Below.refl _ _⟩

set_option maxRecDepth 100000 in
theorem rcut_any (s : ByteArray) (i n : Int) (w : World) (hs : s.size ≤ maxLen) (hi : -9223372036854775808 ≤ i ∧ i ≤ 9223372036854775807) (hn : -9223372036854775808 ≤ n ∧ n ≤ 9223372036854775807) : Calls Tryd.prog 15 #[.string s, .int .i64 i, .int .i64 n] w fun e w' => e = .returned (.tuple #[.string (cutS s i n), .int .i64 (cutE s i n)]) ∧ w' = w := by
  unfold maxLen at hs
  by_cases hr : s.size ≤ 65536
  · have HR : Hid (decide (s.size ≤ 65536) = true) := by show _ = _; simp [hr]
    by_cases hb : i < 0 ∨ n < 0 ∨ (s.size : Int) < i + n
    · have H1 : Hid (cutS s i n = ⟨#[]⟩) := by show _ = _; unfold cutS; rw [if_neg (by omega), if_pos hb]
      have H2 : Hid (cutE s i n = 32) := by show _ = _; unfold cutE; rw [if_neg (by omega), if_pos hb]
      have cs : i < 0 ∨ (¬ i < 0 ∧ n < 0) ∨ (¬ i < 0 ∧ ¬ n < 0 ∧ (s.size : Int) < i) ∨ (¬ i < 0 ∧ ¬ n < 0 ∧ ¬ (s.size : Int) < i ∧ (s.size : Int) - i < n) := by omega
      clear hb
      rcases cs with hb | ⟨hb0, hb⟩ | ⟨hb0, hb1, hb⟩ | ⟨hb0, hb1, hb2, hb⟩
      all_goals
        go_enter Tryd.func15, Tryd.ntmps15
        go_wp2_with (go_at_call 21; refine (rright_any _ _).mono ?_; rintro e w' ⟨rfl, rfl⟩; rw [HR.out])
        go_ret2
        exact ⟨ret_si H1.out.symm H2.out.symm, rfl⟩
    · obtain ⟨a, rfl⟩ : ∃ k : Nat, i = k := ⟨i.toNat, by omega⟩
      obtain ⟨b, rfl⟩ : ∃ k : Nat, n = k := ⟨n.toNat, by omega⟩
      have hab : a + b ≤ s.size := by omega
      have H1 := hide (cut_at hr hab)
      obtain ⟨f, hf⟩ : ∃ f : Nat, a + b = f := ⟨_, rfl⟩
      have hf2 : (a : Int) + (b : Int) = (f : Int) := by omega
      rw [hf] at H1
      have h1 : a ≤ f := by omega
      have h2 : f ≤ s.size := by omega
      have h3 : f ≤ 65536 := by omega
      have h4 : ¬ ((s.size : Int) - a < b) := by omega
      have h5 : ¬ ((s.size : Int) < a) := by omega
      obtain ⟨r, HT⟩ : ∃ r, Hid (s.extract a f = r) := ⟨_, rfl⟩
      have hsl : s.extract a f = r := HT.out
      clear hr hb hi hn hab hf
      go_enter Tryd.func15, Tryd.ntmps15
      go_wp2_with (go_at_call 21; refine (rright_any _ _).mono ?_; rintro e w' ⟨rfl, rfl⟩; rw [HR.out])
      go_ret2
      exact ⟨ret_si (by rw [H1.out.2, HT.out]) H1.out.1.symm, rfl⟩
  · have HR : Hid (decide (s.size ≤ 65536) = false) := by show _ = _; simp; omega
    have H1 : Hid (cutS s i n = ⟨#[]⟩) := by show _ = _; unfold cutS; rw [if_pos hr]
    have H2 : Hid (cutE s i n = 1) := by show _ = _; unfold cutE; rw [if_pos hr]
    clear hr
    go_enter Tryd.func15, Tryd.ntmps15
    go_wp2_with (go_at_call 21; refine (rright_any _ _).mono ?_; rintro e w' ⟨rfl, rfl⟩; rw [HR.out])
    go_ret2
    exact ⟨ret_si H1.out.symm H2.out.symm, rfl⟩
end Go.Proofs.YtgjcbgconkiedaaDoor
