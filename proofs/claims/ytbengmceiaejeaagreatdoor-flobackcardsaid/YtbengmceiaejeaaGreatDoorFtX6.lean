/- The program's withPoint and wholeText. -/
import Derived.Test.YtbengmceiaejeaaGreatDoorFtX5
import Derived.Test.YtbengmceiaejeaaGreatDoorFtS
namespace Go.Proofs.YtbengmceiaejeaaGreatDoor
open Go.ChangeShapes Go.WideShapes Go.ChangeAt Go.RowKit

theorem ba_of {s : ByteArray} {l : List UInt8} (h : s.data.toList = l) : s = ⟨l.toArray⟩ := by
  rw [← h]
theorem ba_cat (a b : ByteArray) : (a ++ b).data.toList = a.data.toList ++ b.data.toList := by
  rw [ByteArray.data_append, Array.toList_append]
theorem ba_cut (s : ByteArray) (i j : Nat) : (s.extract i j).data.toList = (s.data.toList.take j).drop i := by
  rw [ByteArray.data_extract, Array.toList_extract, List.extract]
  rw [List.drop_take]

def wpL (l : List UInt8) (n : Nat) : List UInt8 :=
  if l.length ≤ n then l ++ Lib.repeatL [48] (n - l.length) ++ [46, 48] else l.take n ++ [46] ++ l.drop n

theorem rep_any (w : World) (c : Nat) (hc : c ≤ 400) :
    Calls Tryz.prog 19 #[.string ⟨#[48]⟩, .int .i64 (c : Int)] w fun e w' => (∃ z : ByteArray, e = .returned (.string z) ∧ z.data.toList = Lib.repeatL [48] c ∧ z.size = c) ∧ Below w.heap.size w w' := by
  refine (Tryz.strings_Repeat ⟨#[48]⟩ c w (by omega) (by show 1 * c ≤ _; omega)).mono ?_
  rintro e w1 ⟨rfl, b1⟩
  refine ⟨⟨_, rfl, rfl, ?_⟩, b1⟩
  show (Lib.repeatL [48] c).toArray.size = c
  simp [Lib.repeatL_length]

theorem wp_long (s : ByteArray) (n k : Nat) (hs : s.size = k) (hn : n < k) (hk : k ≤ 400) (w : World) :
    Calls Tryz.prog 17 #[.string s, .int .i64 (n : Int)] w fun e w' => e = .returned (.string ⟨(wpL s.data.toList n).toArray⟩) ∧ Below w.heap.size w w' := by
  obtain ⟨A, hA⟩ : ∃ A : ByteArray, s.extract 0 n = A := ⟨_, rfl⟩
  obtain ⟨B, hB⟩ : ∃ B : ByteArray, s.extract n k = B := ⟨_, rfl⟩
  have lA : A.size = n := by rw [← hA, ByteArray.size_extract]; omega
  have lB : B.size = k - n := by rw [← hB, ByteArray.size_extract]; omega
  obtain ⟨j, hj⟩ : ∃ j, k - n = j := ⟨_, rfl⟩
  rw [hj] at lB
  have hj4 : j ≤ 400 := by omega
  have HF : Hid ((⟨(wpL s.data.toList n).toArray⟩ : ByteArray) = A ++ ⟨#[46]⟩ ++ B) := by
    refine Eq.symm (ba_of ?_)
    have hl : s.data.toList.length = k := by rw [Array.length_toList]; exact hs
    rw [ba_cat, ba_cat, ← hA, ← hB, ba_cut, ba_cut, wpL, if_neg (by omega), List.take_of_length_le (by omega : s.data.toList.length ≤ k)]
    rfl
  have h1 : (k ≤ n) = False := eq_false (by omega)
  have h2 : Instr.slice 9 (.string s) none (some (.int .i64 (n : Int))) none = (pure (.string A) : Sem Value) ∨ True := Or.inr trivial
  clear h2
  have hSl1 : ∀ W : World, (Instr.slice 9 (.string s) none (some (.int .i64 (n : Int))) none).run Tryz.prog W = .ok (.string A) W := by
    intro W
    rw [run_slice_string_to_if W 9 s .i64 n (by kernel_rfl), if_pos (by omega), Int.toNat_natCast, hA]
  have hSl2 : ∀ W : World, (Instr.slice 9 (.string s) (some (.int .i64 (n : Int))) none none).run Tryz.prog W = .ok (.string B) W := by
    intro W
    rw [run_slice_string_from_if W 9 s .i64 n (by kernel_rfl), if_pos (by omega), Int.toNat_natCast, hs, hB]
  clear hA hB hj
  go_enter Tryz.func17, Tryz.ntmps17
  go_wp2
  go_region_with fail
  go_wp2
  go_ret
  exact ⟨by rw [HF.out]; rfl, below_drewN _ w 1⟩

theorem wp_short (s : ByteArray) (n c : Nat) (hn : s.size + c = n) (hk : n ≤ 400) (w : World) :
    Calls Tryz.prog 17 #[.string s, .int .i64 (n : Int)] w fun e w' => e = .returned (.string ⟨(wpL s.data.toList n).toArray⟩) ∧ Below w.heap.size w w' := by
  obtain ⟨k, hs⟩ : ∃ k, s.size = k := ⟨_, rfl⟩
  have HF : Hid (∀ z : ByteArray, z.data.toList = Lib.repeatL [48] c → (⟨(wpL s.data.toList n).toArray⟩ : ByteArray) = s ++ z ++ ⟨#[46, 48]⟩) := by
    intro z hz
    refine Eq.symm (ba_of ?_)
    have hl : s.data.toList.length = k := by rw [Array.length_toList]; exact hs
    rw [ba_cat, ba_cat, hz, wpL, if_pos (by omega), (by omega : n - s.data.toList.length = c)]
  have h2 : (n : Int) - (k : Int) = (c : Int) := by omega
  have h1 : (k ≤ n) = True := eq_true (by omega)
  have RE := fun w => rep_any w c (by omega)
  have h3 : (9223372036854775807 < k + c) = False := eq_false (by omega)
  have h4 : (9223372036854775807 < k + c + 2) = False := eq_false (by omega)
  clear hn
  go_enter Tryz.func17, Tryz.ntmps17
  go_wp2_with (go_at_call 19; refine (RE _).mono ?_; rintro e w1 ⟨⟨z, rfl, hz, zs⟩, b1⟩)
  go_ret
  exact ⟨by rw [HF.out z hz]; rfl, b1⟩

theorem wp_any (s : ByteArray) (n : Nat) (hs : s.size ≤ 400) (hn : n ≤ 400) (w : World) :
    Calls Tryz.prog 17 #[.string s, .int .i64 (n : Int)] w fun e w' => e = .returned (.string ⟨(wpL s.data.toList n).toArray⟩) ∧ Below w.heap.size w w' := by
  by_cases h : n < s.size
  · exact wp_long s n s.size rfl h hs w
  · exact wp_short s n (n - s.size) (by omega) hn w

structure RdyX (w : World) : Prop where
  t : RdyT w
  tab : Lib.TabIs Tryz.prog w "internal/strconv.uint64pow10" .u64 Lib.pow10Tab

theorem RdyX.below {w w' : World} (h : RdyX w) (b : Below w.heap.size w w') : RdyX w' :=
  ⟨h.t.below b, var?_below (g := 9) b (by kernel_rfl) h.t.s2 h.tab⟩

def wtB (E : Int) : List UInt8 := if E < 0 then 126 :: Lib.decDigits E.natAbs else Lib.decDigits E.natAbs

theorem dec_ge (u : Nat) : ∀ b ∈ Lib.decDigits u, 48 ≤ b.toNat := by
  induction u using Nat.strongRecOn with
  | _ u ih =>
    rw [Lib.decDigits]
    split
    · intro b hb
      simp only [List.mem_singleton] at hb
      subst hb
      rw [UInt8.toNat_ofNat']; omega
    · intro b hb
      rcases List.mem_append.1 hb with h | h
      · exact ih (u / 10) (by omega) b h
      · simp only [List.mem_singleton] at h
        subst h
        rw [UInt8.toNat_ofNat']; omega

theorem dec_no (u : Nat) {c : UInt8} (hc : c.toNat < 48) : c ∉ Lib.decDigits u := fun h => by have := dec_ge u c h; omega

theorem index_no {s : List UInt8} {c : UInt8} (h : c ∉ s) : Lib.index s [c] = -1 := by
  refine Lib.index_none fun j hj => ?_
  unfold Lib.occAt
  rw [Bool.eq_false_iff]
  intro hp
  obtain ⟨t, ht⟩ := List.isPrefixOf_iff_prefix.1 hp
  apply h
  have : c ∈ s.drop j := by rw [← ht]; simp
  exact List.mem_of_mem_drop this

theorem replace_minus (E : Int) : Lib.replace (Lib.itoa E) [45] [126] 1 = wtB E := by
  have hne : (([45] : List UInt8) == [126]) = false := by decide
  have hno := dec_no E.natAbs (c := 45) (by decide)
  have hin := index_no hno
  have hc : Lib.count (Lib.decDigits E.natAbs) [45] = 0 := by
    unfold Lib.count Lib.countFrom
    rw [hin]; rfl
  unfold Lib.replace
  rw [hne]
  simp only [Bool.false_eq_true, if_false]
  unfold Lib.itoa wtB
  by_cases h : E < 0
  · rw [if_pos h, if_pos h]
    have hi : Lib.index (45 :: Lib.decDigits E.natAbs) [45] = ((0 : Nat) : Int) := index_app 45 [] (Lib.decDigits E.natAbs) (by simp)
    have hcp : 1 ≤ Lib.count (45 :: Lib.decDigits E.natAbs) [45] := by
      unfold Lib.count Lib.countFrom
      rw [hi]
      simp
    have hrn : Lib.replaceNum (45 :: Lib.decDigits E.natAbs) [45] 1 = 1 := by
      unfold Lib.replaceNum
      split <;> omega
    rw [hrn, Lib.replaceK_hit _ _ 0 _ 0 hi]
    simp [Lib.replaceK]
  · rw [if_neg h, if_neg h, (by omega : E.toNat = E.natAbs)]
    unfold Lib.replaceNum
    rw [hc]
    simp [Lib.replaceK]

theorem itoa_len {E : Int} (hE : E.natAbs < 1000) : (Lib.itoa E).length ≤ 4 := by
  have h : (Lib.decDigits E.natAbs).length ≤ 3 := by
    rw [Lib.decDigits_length]
    unfold Lib.nDigits
    split
    · omega
    · unfold Lib.nDigits
      split
      · omega
      · unfold Lib.nDigits
        rw [dif_pos (by omega)]
        decide
  unfold Lib.itoa
  split
  · simp; omega
  · rw [(by omega : E.toNat = E.natAbs)]; omega

theorem grow_below (w : World) (k : Nat) (os : Array Obj) : Below w.heap.size w (Sort.grow (w.drewN k) os) :=
  ⟨rfl, rfl, rfl, by show w.heap.size ≤ (w.heap ++ os).size; rw [Array.size_append]; omega, fun j hj => by show (w.heap ++ os)[j]? = _; rw [Array.getElem?_append_left hj]⟩

theorem wt_any (w : World) (R : RdyX w) (E : Int) (hE : E.natAbs < 1000) :
    Calls Tryz.prog 18 #[.int .i64 E] w fun e w' => e = .returned (.string ⟨(wtB E).toArray⟩) ∧ Below w.heap.size w w' := by
  have hl := itoa_len hE
  have IT := Tryz.strconv_Itoa E (by omega) (by omega) w R.tab
  have RP : ∀ w1, RdyX w1 → Calls Tryz.prog 37 #[.string ⟨(Lib.itoa E).toArray⟩, .string ⟨#[45]⟩, .string ⟨#[126]⟩, .int .i64 1] w1 fun e w' => e = .returned (.string ⟨(wtB E).toArray⟩) ∧ Below w1.heap.size w1 w' := by
    intro w1 R1
    obtain ⟨m, hm⟩ := R1.t.m
    refine (Tryz.strings_Replace _ _ _ _ m w1 ?_ hm (by decide) ?_).mono ?_
    · show (Lib.itoa E).toArray.size < _
      simp
      omega
    · show (Lib.itoa E).toArray.size + Lib.countB ⟨(Lib.itoa E).toArray⟩ ⟨#[45]⟩ * 1 ≤ _
      have := Lib.countB_le ⟨#[45]⟩ (by decide) _ (⟨(Lib.itoa E).toArray⟩ : ByteArray) (Nat.le_refl _)
      have e : (⟨(Lib.itoa E).toArray⟩ : ByteArray).size = (Lib.itoa E).length := by show (Lib.itoa E).toArray.size = _; simp
      have e2 : (Lib.itoa E).toArray.size = (Lib.itoa E).length := by simp
      omega
    · rintro e w' ⟨rfl, b⟩
      refine ⟨?_, b⟩
      show Ending.returned (.string ⟨(Lib.replace (Lib.itoa E).toArray.toList [45] [126] 1).toArray⟩) = _
      rw [List.toList_toArray, replace_minus]
  have IB : Calls Tryz.prog 39 #[.int .i64 E] w fun e w' => e = .returned (.string ⟨(Lib.itoa E).toArray⟩) ∧ Below w.heap.size w w' := by
    refine IT.mono ?_
    rintro e w1 ⟨rfl, k, os, rfl⟩
    exact ⟨rfl, grow_below w k os⟩
  clear IT
  obtain ⟨L, eL⟩ : ∃ L, (Lib.itoa E).toArray = L := ⟨_, rfl⟩
  obtain ⟨M, eM⟩ : ∃ L, (wtB E).toArray = L := ⟨_, rfl⟩
  rw [eL] at IB RP
  rw [eM] at RP ⊢
  clear eL eM hl
  go_enter Tryz.func18, Tryz.ntmps18
  go_wp2_with (first
    | (go_at_call 39; refine IB.mono ?_; rintro e w1 ⟨rfl, b1⟩)
    | (go_at_call 37; refine (RP _ (R.below b1)).mono ?_; rintro e w2 ⟨rfl, b2⟩; have b12 : Below w.heap.size w w2 := b1.trans (b2.mono b1.size)))
  go_ret
  exact ⟨rfl, b12⟩
end Go.Proofs.YtbengmceiaejeaaGreatDoor
