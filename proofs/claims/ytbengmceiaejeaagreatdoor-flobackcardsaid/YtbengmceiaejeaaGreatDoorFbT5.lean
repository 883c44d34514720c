/- The library's ParseFloat around what it reads: special, atof64, ParseFloat. -/
import Derived.Test.YtbengmceiaejeaaGreatDoorFbR1
import Derived.Handy
import Derived.Test.YtbengmceiaejeaaGreatDoorFbS
import Derived.Test.YtbengmceiaejeaaGreatDoorFtX6
import Derived.Lib.CountLaws
import Derived.Lib.SplitLaws
import Derived.Lib.SlTrimSet
import Derived.Test.YtbengmceiaejeaaGreatDoorFbT1
import Derived.Test.YtbengmceiaejeaaGreatDoorFtX7
namespace Go.Proofs.YtbengmceiaejeaaGreatDoor
open Go.ChangeShapes Go.WideShapes Go.ChangeAt Go.RowKit

theorem cpl_any (s : ByteArray) (hs : s.size ≤ 1100) (h0 : 0 < s.size) (c : Nat) (ec : (s[0]'h0).toNat = c) (hc : 48 ≤ c ∧ c ≤ 57) (w : World) :
    Calls Tryz.prog 174 #[.string s, .string ⟨#[105, 110, 102, 105, 110, 105, 116, 121]⟩] w fun x w' => x = .returned (.int .i64 0) ∧ w' = w := by
  obtain ⟨n, en⟩ : ∃ n : Nat, min 8 s.size = n := ⟨_, rfl⟩
  have hn : 1 ≤ n := by omega
  have hm : min (8 : Int) (s.size : Int) = (n : Int) := by omega
  have g : ((c : Int) != 105) = true := by simp; omega
  have z0 : ((⟨#[105, 110, 102, 105, 110, 105, 116, 121]⟩ : ByteArray)[0]'(by decide)).toNat = 105 := rfl
  go_enter Tryz.func174, Tryz.ntmps174
  go_wp2
  go_loop [6] (fun i => i = .int .i64 0) (fun _ => 0)
  case atStart => rfl
  case round =>
    subst hrel
    go_wp2
    go_ret
    exact ⟨rfl, rfl⟩

theorem special0 (s : ByteArray) (h0 : 0 < s.size) (c : Nat) (ec : (s[0]'h0).toNat = c) (hc : 48 ≤ c ∧ c ≤ 57) (w : World) :
    Calls Tryz.prog 135 #[.string s] w fun x w' => x = .returned (.tuple #[.float .f64 0, .int .i64 0, .bool false]) ∧ w' = w := by
  have hemp : ¬ s = ByteArray.empty := fun h => by rw [h] at h0; exact absurd h0 (by decide)
  have g1 : ((c : Int) == 43) = false := by simp; omega
  have g2 : ((c : Int) == 45) = false := by simp; omega
  have g3 : ((c : Int) == 105) = false := by simp; omega
  have g4 : ((c : Int) == 73) = false := by simp; omega
  have g5 : ((c : Int) == 110) = false := by simp; omega
  have g6 : ((c : Int) == 78) = false := by simp; omega
  go_enter Tryz.func135, Tryz.ntmps135
  go_wp2
  go_ret3
  exact ⟨rfl, rfl⟩

theorem special1 (s : ByteArray) (h1 : 1 < s.size) (hs : s.size ≤ 1100) (ec : (s[0]'(by omega)).toNat = 45) (c : Nat) (e1 : (s[1]'h1).toNat = c) (hc : 48 ≤ c ∧ c ≤ 57) (w : World) :
    Calls Tryz.prog 135 #[.string s] w fun x w' => x = .returned (.tuple #[.float .f64 0, .int .i64 0, .bool false]) ∧ w' = w := by
  have hemp : ¬ s = ByteArray.empty := fun h => by rw [h] at h1; exact absurd h1 (by decide)
  have h2 : 0 < (s.extract 1 s.size).size := by rw [ByteArray.size_extract]; omega
  have CP := fun w => cpl_any (s.extract 1 s.size) (by rw [ByteArray.size_extract]; omega) h2 c (by rw [ByteArray.getElem_extract]; exact e1) hc w
  go_enter Tryz.func135, Tryz.ntmps135
  go_wp2_with (go_at_call 174; refine (CP _).mono ?_; rintro e w' ⟨rfl, hw⟩; replace hw := hw.symm; subst hw)
  go_ret3
  exact ⟨rfl, rfl⟩

/-- By what it calls. -/
theorem atof_by (s : ByteArray) (ng : Bool) (V m Q : Nat) (X : Int) (hV0 : 0 < V) (hV : V < 100000000000000000) (hX : -345 ≤ X ∧ X ≤ 310) (w : World) (R : RdyT w) (P : RdyP w) (hm0 : 0 < m) (hm : m < 9007199254740992) (hQ : Q ≤ 2045) (hsub : Q = 0 ∨ 4503599627370496 ≤ m) (hf : Q * 4503599627370496 + m < 9218868437227405312) (hw : decR V X = Q * 4503599627370496 + m)
    (SP : ∀ w, Calls Tryz.prog 135 #[.string s] w fun x w' => x = .returned (.tuple #[.float .f64 0, .int .i64 0, .bool false]) ∧ w' = w)
    (RF : ∀ w, Calls Tryz.prog 136 #[.string s] w fun x w' => x = .returned (.tuple #[.int .u64 (V : Int), .int .i64 X, .bool ng, .bool false, .bool false, .int .i64 (s.size : Int), .bool true]) ∧ w' = w) :
    Calls Tryz.prog 107 #[.string s] w fun x w' => x = .returned (.tuple #[.float .f64 (wordD ng (Q * 4503599627370496 + m)), .int .i64 (s.size : Int), .nilIface]) ∧ Below w.heap.size w w' := by
  have EX := exact_any w P ng V m Q X hV0 (by omega) hm0 hm hsub hf hw
  have hopt := P.opt
  obtain ⟨sg, esg, hsg⟩ : ∃ sg : Nat, (sg = 0 ∨ sg = 9223372036854775808) ∧ (sg = if ng then 9223372036854775808 else 0) := by cases ng <;> simp
  have PF := p64_any w R sg V m Q X esg hV0 hV hX.1 hX.2 hm0 hm hQ hsub hf hw
  have eW : sg + (Q * 4503599627370496 + m) = wordD ng (Q * 4503599627370496 + m) := by
    rw [hsg]; unfold wordD; cases ng <;> simp
  rw [eW] at PF
  obtain ⟨W, eWW⟩ : ∃ W, wordD ng (Q * 4503599627370496 + m) = W := ⟨_, rfl⟩
  rw [eWW] at PF EX ⊢
  have hVn : ((V : Int) == 0) = false := by simp; omega
  have B2 := fun w => b2_any ng w
  have b0 : Below w.heap.size w w := Below.refl _ _
  clear eW eWW hw hf hsub hm hm0 hQ hV0 R P
  cases ng
  all_goals
    simp only [if_true, if_false, Bool.false_eq_true] at hsg
    subst hsg
    go_enter Tryz.func107, Tryz.ntmps107
    go_wp2_with (first
      | (go_at_call 135; refine (SP _).mono ?_; rintro e w' ⟨rfl, hw⟩; replace hw := hw.symm; subst hw; clear SP)
      | (go_at_call 136; refine (RF _).mono ?_; rintro e w' ⟨rfl, hw⟩; replace hw := hw.symm; subst hw; clear RF)
      | (go_at_call 144; refine (B2 _).mono ?_; rintro e w' ⟨rfl, hw⟩; replace hw := hw.symm; subst hw; clear B2)
      | (go_at_call 146; refine EX.mono ?_; rintro e w' ⟨⟨f, ok, rfl, hok⟩, hw⟩; replace hw := hw.symm; subst hw; clear EX; cases ok)
      | (go_at_call 147; refine PF.mono ?_; rintro e w' ⟨rfl, b0⟩; clear PF))
  all_goals go_ret3
  all_goals first
    | exact ⟨rfl, b0⟩
    | exact ⟨by rw [hok rfl], b0⟩

theorem atof_zero (s : ByteArray) (ng : Bool) (w : World) (P : RdyP w)
    (SP : ∀ w, Calls Tryz.prog 135 #[.string s] w fun x w' => x = .returned (.tuple #[.float .f64 0, .int .i64 0, .bool false]) ∧ w' = w)
    (RF : ∀ w, Calls Tryz.prog 136 #[.string s] w fun x w' => x = .returned (.tuple #[.int .u64 0, .int .i64 0, .bool ng, .bool false, .bool false, .int .i64 (s.size : Int), .bool true]) ∧ w' = w) :
    Calls Tryz.prog 107 #[.string s] w fun x w' => x = .returned (.tuple #[.float .f64 (wordD ng 0), .int .i64 (s.size : Int), .nilIface]) ∧ Below w.heap.size w w' := by
  have hopt := P.opt
  have B2 := fun w => b2_any ng w
  have b0 : Below w.heap.size w w := Below.refl _ _
  have F0 := x_ffb 0
  have F1 := x_ffb 9223372036854775808
  have O0 : bits .or .u64 (0 : Int) 0 = 0 := by decide
  have O1 : bits .or .u64 (9223372036854775808 : Int) 0 = 9223372036854775808 := by decide
  clear P
  cases ng
  all_goals
    go_enter Tryz.func107, Tryz.ntmps107
    go_wp2_with (first
      | (go_at_call 135; refine (SP _).mono ?_; rintro e w' ⟨rfl, hw⟩; replace hw := hw.symm; subst hw; clear SP)
      | (go_at_call 136; refine (RF _).mono ?_; rintro e w' ⟨rfl, hw⟩; replace hw := hw.symm; subst hw; clear RF)
      | (go_at_call 144; refine (B2 _).mono ?_; rintro e w' ⟨rfl, hw⟩; replace hw := hw.symm; subst hw; clear B2))
  all_goals go_ret3
  all_goals exact ⟨rfl, b0⟩

theorem pf_any (s : ByteArray) (f : Nat) (w : World)
    (AT : Calls Tryz.prog 107 #[.string s] w fun x w' => x = .returned (.tuple #[.float .f64 f, .int .i64 (s.size : Int), .nilIface]) ∧ Below w.heap.size w w') :
    Calls Tryz.prog 28 #[.string s, .int .i64 64] w fun x w' => x = .returned (.tuple #[.float .f64 f, .nilIface]) ∧ Below w.heap.size w w' := by
  have PP : Calls Tryz.prog 82 #[.string s, .int .i64 64] w fun x w' => x = .returned (.tuple #[.float .f64 f, .int .i64 (s.size : Int), .nilIface]) ∧ Below w.heap.size w w' := by
    go_enter Tryz.func82, Tryz.ntmps82
    go_wp2_with (go_at_call 107; refine AT.mono ?_; rintro e w' ⟨rfl, b0⟩; clear AT)
    go_ret3
    exact ⟨rfl, b0⟩
  clear AT
  have PI : Calls Tryz.prog 58 #[.string s, .int .i64 64] w fun x w' => x = .returned (.tuple #[.float .f64 f, .nilIface]) ∧ Below w.heap.size w w' := by
    go_enter Tryz.func58, Tryz.ntmps58
    go_wp2_with (go_at_call 82; refine PP.mono ?_; rintro e w' ⟨rfl, b0⟩; clear PP)
    go_ret2
    exact ⟨rfl, b0⟩
  clear PP
  go_enter Tryz.func28, Tryz.ntmps28
  go_wp2_with (go_at_call 58; refine PI.mono ?_; rintro e w' ⟨rfl, b0⟩; clear PI)
  go_ret2
  exact ⟨rfl, b0⟩
end Go.Proofs.YtbengmceiaejeaaGreatDoor
/- The program's Parse around the library's: the form of a real, and its signs. -/
namespace Go.Proofs.YtbengmceiaejeaaGreatDoor
open Go.ChangeShapes Go.WideShapes Go.ChangeAt Go.RowKit

/-- Every 126 made a 45. -/
def rep (l : List UInt8) : List UInt8 := l.map fun c => if c = 126 then 45 else c

theorem rep_none : ∀ (l : List UInt8), (126 : UInt8) ∉ l → rep l = l
  | [], _ => rfl
  | c :: l, h => by
    have hc : c ≠ 126 := fun e => h (by simp [e])
    have hl : (126 : UInt8) ∉ l := fun e => h (by simp [e])
    unfold rep
    rw [List.map_cons, if_neg hc]
    congr 1
    exact rep_none l hl

theorem index_noB {s : List UInt8} (c : UInt8) (h : c ∉ s) : Lib.index s [c] = -1 := by
  refine Lib.index_none fun j hj => ?_
  unfold Lib.occAt
  rw [Bool.eq_false_iff]
  intro hp
  apply h
  have := List.isPrefixOf_iff_prefix.1 hp
  obtain ⟨t, ht⟩ := this
  exact List.mem_of_mem_drop (by rw [← ht]; simp)

theorem split_first (c : UInt8) : ∀ (l : List UInt8), c ∈ l → ∃ a b, l = a ++ c :: b ∧ c ∉ a
  | [], h => by simp at h
  | x :: l, h => by
    by_cases e : x = c
    · exact ⟨[], l, by rw [e]; rfl, by simp⟩
    · obtain ⟨a, b, rfl, ha⟩ := split_first c l (by simpa [Ne.symm e] using h)
      exact ⟨x :: a, b, rfl, by simp [ha, Ne.symm e]⟩

theorem replaceK_rep : ∀ (n : Nat) (l : List UInt8), l.length ≤ n → Lib.replaceK [126] [45] (Lib.count l [126]) l = rep l
  | n, l, hn => by
    by_cases h : (126 : UInt8) ∈ l
    · obtain ⟨a, b, rfl, ha⟩ := split_first 126 l h
      have hi := index_app 126 a b ha
      rw [Lib.count_hit (by decide) hi, Nat.add_comm, Lib.replaceK_hit _ _ _ _ _ hi]
      have ht : (a ++ 126 :: b).take a.length = a := by simp
      have hd : (a ++ 126 :: b).drop (a.length + ([126] : List UInt8).length) = b := by
        rw [show a.length + ([126] : List UInt8).length = a.length + 1 from rfl, ← List.drop_drop]
        simp
      rw [ht, hd]
      cases n with
      | zero => simp at hn
      | succ n =>
        rw [replaceK_rep n b (by simp at hn; omega)]
        unfold rep
        rw [List.map_append, List.map_cons, if_pos rfl]
        have := rep_none a ha
        unfold rep at this
        rw [this]
        simp
    · rw [Lib.count_miss (index_noB 126 h), rep_none l h]
      rfl

theorem replaceAll_rep (l : List UInt8) : Lib.replaceAll l [126] [45] = rep l := by
  unfold Lib.replaceAll Lib.replace
  rw [show (([126] : List UInt8) == [45]) = false from rfl]
  simp only [Bool.false_eq_true, if_false]
  have : Lib.replaceNum l [126] (-1) = Lib.count l [126] := by unfold Lib.replaceNum; rw [if_pos (Or.inl (by decide))]
  rw [this]
  exact replaceK_rep _ l (Nat.le_refl _)

theorem repAll_any (w : World) (R : RdyT w) (s : ByteArray) (hs : s.size ≤ 1100) :
    Calls Tryz.prog 29 #[.string s, .string ⟨#[126]⟩, .string ⟨#[45]⟩] w fun x w' => x = .returned (.string ⟨(rep s.data.toList).toArray⟩) ∧ Below w.heap.size w w' := by
  obtain ⟨m, hm⟩ := R.m
  have hc : Lib.countB s ⟨#[126]⟩ ≤ 1101 := by
    have := Lib.count_le s.data.toList [126]
    have hl : s.data.toList.length = s.size := by rw [Array.length_toList]; rfl
    unfold Lib.countB
    show Lib.count s.data.toList [126] ≤ 1101
    omega
  refine (Tryz.strings_ReplaceAll s ⟨#[126]⟩ ⟨#[45]⟩ m w (by omega) hm (by decide) ?_).mono ?_
  · show s.size + Lib.countB s ⟨#[126]⟩ * 1 ≤ _
    omega
  · rintro x w' ⟨rfl, b⟩
    refine ⟨?_, b⟩
    rw [show (⟨#[126]⟩ : ByteArray).data.toList = [126] from rfl, show (⟨#[45]⟩ : ByteArray).data.toList = [45] from rfl, replaceAll_rep]

/-- What stands behind the digits. -/
def dgs : List UInt8 := [48, 49, 50, 51, 52, 53, 54, 55, 56, 57]
def past (l : List UInt8) : List UInt8 := Lib.trimLeftS l dgs

theorem dgs_low : ∀ b ∈ (⟨#[48, 49, 50, 51, 52, 53, 54, 55, 56, 57]⟩ : ByteArray).data.toList, b.toNat < 128 := by decide

theorem past_any (s t : ByteArray) (ht : t = ⟨(past s.data.toList).toArray⟩) (w : World) :
    Calls Tryz.prog 55 #[.string s] w fun x w' => x = .returned (.tuple #[.string t, .bool (decide (t.size < s.size))]) ∧ Below w.heap.size w w' := by
  have TL : ∀ w, Calls Tryz.prog 79 #[.string s, .string ⟨#[48, 49, 50, 51, 52, 53, 54, 55, 56, 57]⟩] w fun x w' => x = .returned (.string t) ∧ Below w.heap.size w w' := by
    intro w
    have h := Any.strings_TrimLeft_laid Tryz.lays161 (by kernel_rfl) s ⟨#[48, 49, 50, 51, 52, 53, 54, 55, 56, 57]⟩ w (by decide) (by intro j b hb; exact dgs_low b (List.mem_of_getElem? hb))
    rw [ht]
    exact h
  obtain ⟨a, ea⟩ : ∃ a, t.size = a := ⟨_, rfl⟩
  obtain ⟨c, ec⟩ : ∃ c, s.size = c := ⟨_, rfl⟩
  rw [ea, ec]
  have hI : decide ((a : Int) < (c : Int)) = decide (a < c) := decide_eq_decide.2 (by omega)
  clear ht
  go_enter Tryz.func55, Tryz.ntmps55
  go_wp2_with (go_at_call 79; refine (TL _).mono ?_; rintro e w1 ⟨rfl, b1⟩; clear TL)
  go_ret2
  exact ⟨rfl, b1⟩
end Go.Proofs.YtbengmceiaejeaaGreatDoor
/- The program's isReal and Parse, by what they call. -/
namespace Go.Proofs.YtbengmceiaejeaaGreatDoor
open Go.ChangeShapes Go.WideShapes Go.ChangeAt Go.RowKit

theorem real_no (s u0 u1 : ByteArray) (w : World)
    (TP : ∀ w, Calls Tryz.prog 56 #[.string s, .string ⟨#[126]⟩] w fun x w' => x = .returned (.string u0) ∧ w' = w)
    (P1 : ∀ w, Calls Tryz.prog 55 #[.string u0] w fun x w' => x = .returned (.tuple #[.string u1, .bool false]) ∧ Below w.heap.size w w') :
    Calls Tryz.prog 27 #[.string s] w fun x w' => x = .returned (.bool false) ∧ Below w.heap.size w w' := by
  go_enter Tryz.func27, Tryz.ntmps27
  go_wp2_with (first
    | (go_at_call 56; refine (TP _).mono ?_; rintro e w' ⟨rfl, hw⟩; replace hw := hw.symm; subst hw; clear TP)
    | (go_at_call 55; refine (P1 _).mono ?_; rintro e w1 ⟨rfl, b1⟩; clear P1))
  go_ret
  exact ⟨rfl, b1⟩

theorem real_plain (s u0 u1 u2 : ByteArray) (w : World)
    (TP : ∀ w, Calls Tryz.prog 56 #[.string s, .string ⟨#[126]⟩] w fun x w' => x = .returned (.string u0) ∧ w' = w)
    (P1 : ∀ w, Calls Tryz.prog 55 #[.string u0] w fun x w' => x = .returned (.tuple #[.string u1, .bool true]) ∧ Below w.heap.size w w')
    (CP : ∀ w, Calls Tryz.prog 57 #[.string u1, .string ⟨#[46]⟩] w fun x w' => x = .returned (.tuple #[.string u2, .bool true]) ∧ w' = w)
    (P2 : ∀ w, Calls Tryz.prog 55 #[.string u2] w fun x w' => x = .returned (.tuple #[.string ⟨#[]⟩, .bool true]) ∧ Below w.heap.size w w') :
    Calls Tryz.prog 27 #[.string s] w fun x w' => x = .returned (.bool true) ∧ Below w.heap.size w w' := by
  go_enter Tryz.func27, Tryz.ntmps27
  go_wp2_with (first
    | (go_at_call 56; refine (TP _).mono ?_; rintro e w' ⟨rfl, hw⟩; replace hw := hw.symm; subst hw; clear TP)
    | (go_at_call 57; refine (CP _).mono ?_; rintro e w' ⟨rfl, hw⟩; replace hw := hw.symm; subst hw; clear CP)
    | (go_at_call 55; refine (P1 _).mono ?_; rintro e w1 ⟨rfl, b1⟩; clear P1)
    | (go_at_call 55; refine (P2 _).mono ?_; rintro e w2 ⟨rfl, b2⟩; have b12 : Below w.heap.size w w2 := b1.trans (b2.mono b1.size); clear P2))
  go_ret
  exact ⟨rfl, b12⟩

theorem real_exp (s u0 u1 u2 u3 u4 u5 : ByteArray) (w : World) (h3 : 0 < u3.size) (e69 : (u3[0]'h3).toNat = 69) (h4 : u3.extract 1 u3.size = u4)
    (TP : ∀ w, Calls Tryz.prog 56 #[.string s, .string ⟨#[126]⟩] w fun x w' => x = .returned (.string u0) ∧ w' = w)
    (P1 : ∀ w, Calls Tryz.prog 55 #[.string u0] w fun x w' => x = .returned (.tuple #[.string u1, .bool true]) ∧ Below w.heap.size w w')
    (CP : ∀ w, Calls Tryz.prog 57 #[.string u1, .string ⟨#[46]⟩] w fun x w' => x = .returned (.tuple #[.string u2, .bool true]) ∧ w' = w)
    (P2 : ∀ w, Calls Tryz.prog 55 #[.string u2] w fun x w' => x = .returned (.tuple #[.string u3, .bool true]) ∧ Below w.heap.size w w')
    (TQ : ∀ w, Calls Tryz.prog 56 #[.string u4, .string ⟨#[126]⟩] w fun x w' => x = .returned (.string u5) ∧ w' = w)
    (P3 : ∀ w, Calls Tryz.prog 55 #[.string u5] w fun x w' => x = .returned (.tuple #[.string ⟨#[]⟩, .bool true]) ∧ Below w.heap.size w w') :
    Calls Tryz.prog 27 #[.string s] w fun x w' => x = .returned (.bool true) ∧ Below w.heap.size w w' := by
  have hemp : ¬ u3 = ByteArray.empty := fun h => by rw [h] at h3; exact absurd h3 (by decide)
  have hem2 : u3.toList.isEmpty = false := by
    rw [Lib.toList_data]
    have hsz : u3.data.toList.length = u3.size := by rw [Array.length_toList]; rfl
    cases h : u3.data.toList with
    | nil => rw [h] at hsz; simp at hsz; omega
    | cons a l => rfl
  go_enter Tryz.func27, Tryz.ntmps27
  go_wp2_with (first
    | (go_at_call 56; refine (TP _).mono ?_; rintro e w' ⟨rfl, hw⟩; replace hw := hw.symm; subst hw; clear TP)
    | (go_at_call 56; refine (TQ _).mono ?_; rintro e w' ⟨rfl, hw⟩; replace hw := hw.symm; subst hw; clear TQ)
    | (go_at_call 57; refine (CP _).mono ?_; rintro e w' ⟨rfl, hw⟩; replace hw := hw.symm; subst hw; clear CP)
    | (go_at_call 55; refine (P1 _).mono ?_; rintro e w1 ⟨rfl, b1⟩; clear P1)
    | (go_at_call 55; refine (P2 _).mono ?_; rintro e w2 ⟨rfl, b2⟩; have b12 : Below w.heap.size w w2 := b1.trans (b2.mono b1.size); clear P2)
    | (go_at_call 55; refine (P3 _).mono ?_; rintro e w3 ⟨rfl, b3⟩; have b13 : Below w.heap.size w w3 := b12.trans (b3.mono b12.size); clear P3))
  go_ret
  exact ⟨rfl, b13⟩

theorem parse_no (s : ByteArray) (hs : s.size ≤ 1100) (w : World)
    (IR : Calls Tryz.prog 27 #[.string s] w fun x w' => x = .returned (.bool false) ∧ Below w.heap.size w w') :
    Calls Tryz.prog 9 #[.string s] w fun x w' => x = .returned (.tuple #[.float .f64 0, .int .i64 21]) ∧ Below w.heap.size w w' := by
  go_enter Tryz.func9, Tryz.ntmps9
  go_wp2_with (go_at_call 27; refine IR.mono ?_; rintro e w1 ⟨rfl, b1⟩; clear IR)
  go_ret2
  exact ⟨rfl, b1⟩

theorem parse_yes (s t : ByteArray) (hs : s.size ≤ 1100) (f : Nat) (w : World)
    (IR : ∀ w, Calls Tryz.prog 27 #[.string s] w fun x w' => x = .returned (.bool true) ∧ Below w.heap.size w w')
    (RA : ∀ w1, Below w.heap.size w w1 → Calls Tryz.prog 29 #[.string s, .string ⟨#[126]⟩, .string ⟨#[45]⟩] w1 fun x w' => x = .returned (.string t) ∧ Below w.heap.size w w')
    (PF : ∀ w1, Below w.heap.size w w1 → Calls Tryz.prog 28 #[.string t, .int .i64 64] w1 fun x w' => x = .returned (.tuple #[.float .f64 f, .nilIface]) ∧ Below w.heap.size w w') :
    Calls Tryz.prog 9 #[.string s] w fun x w' => x = .returned (.tuple #[.float .f64 f, .int .i64 0]) ∧ Below w.heap.size w w' := by
  go_enter Tryz.func9, Tryz.ntmps9
  go_wp2_with (first
    | (go_at_call 27; refine (IR _).mono ?_; rintro e w1 ⟨rfl, b1⟩; clear IR)
    | (go_at_call 29; refine (RA _ b1).mono ?_; rintro e w2 ⟨rfl, b2⟩; clear RA)
    | (go_at_call 28; refine (PF _ b2).mono ?_; rintro e w3 ⟨rfl, b3⟩; clear PF))
  go_ret2
  exact ⟨rfl, b3⟩
end Go.Proofs.YtbengmceiaejeaaGreatDoor
/- The texts that Text writes, as digits with a point and perhaps an exponent; and the number that they are. -/
namespace Go.Proofs.YtbengmceiaejeaaGreatDoor

def AllD (l : List UInt8) : Prop := ∀ c ∈ l, 48 ≤ c.toNat ∧ c.toNat ≤ 57

theorem AllD.append {a b : List UInt8} (ha : AllD a) (hb : AllD b) : AllD (a ++ b) := fun c hc => by
  rcases List.mem_append.1 hc with h | h
  · exact ha c h
  · exact hb c h

theorem rdF_dig : ∀ (l : List UInt8) (v : Nat), AllD l → l.foldl rdS1 v = v * 10 ^ l.length + rdV l
  | [], v, _ => by simp [rdV]
  | c :: l, v, h => by
    have hc := h c (by simp)
    have hl : AllD l := fun x hx => h x (by simp [hx])
    have e : ∀ u, rdS1 u c = u * 10 + (c.toNat - 48) := fun u => by unfold rdS1; rw [if_neg (by omega)]
    unfold rdV
    rw [List.foldl_cons, List.foldl_cons, rdF_dig l _ hl, rdF_dig l _ hl, e, e, List.length_cons, Nat.pow_succ, Nat.add_mul, Nat.mul_assoc, Nat.mul_comm 10]
    simp only [Nat.zero_mul, Nat.zero_add]
    omega

theorem rdV_app {a b : List UInt8} (hb : AllD b) : rdV (a ++ b) = rdV a * 10 ^ b.length + rdV b := by
  have : rdV (a ++ b) = b.foldl rdS1 (rdV a) := by unfold rdV; rw [List.foldl_append]
  rw [this, rdF_dig b _ hb]

theorem rdV_dot (a b : List UInt8) : rdV (a ++ 46 :: b) = rdV (a ++ b) := by
  unfold rdV
  rw [List.foldl_append, List.foldl_append, List.foldl_cons]
  rfl

theorem allD_zeros : ∀ k, AllD (Lib.repeatL [48] k)
  | 0 => fun c hc => by simp [Lib.repeatL] at hc
  | k + 1 => by
    unfold Lib.repeatL
    exact AllD.append (fun c hc => by simp at hc; subst hc; decide) (allD_zeros k)

theorem rdV_zeros : ∀ k, rdV (Lib.repeatL [48] k) = 0
  | 0 => rfl
  | k + 1 => by
    unfold Lib.repeatL
    rw [rdV_app (allD_zeros k), rdV_zeros k]
    show rdV [48] * _ + 0 = 0
    have : rdV [48] = 0 := by decide
    rw [this, Nat.zero_mul]

theorem zeros_len (k : Nat) : (Lib.repeatL [48] k).length = k := by rw [Lib.repeatL_length]; simp

theorem dig_nat {x : Nat} (h : x < 10) : (UInt8.ofNat (48 + x)).toNat = 48 + x := by
  rw [UInt8.toNat_ofNat']
  omega

theorem dec_all (g : Nat) : AllD (Lib.decDigits g) ∧ rdV (Lib.decDigits g) = g := by
  induction g using Nat.strongRecOn with
  | _ g ih =>
    rw [Lib.decDigits]
    have one : ∀ x, x < 10 → AllD [UInt8.ofNat (48 + x)] ∧ rdV [UInt8.ofNat (48 + x)] = x := by
      intro x hx
      refine ⟨fun c hc => ?_, ?_⟩
      · simp only [List.mem_singleton] at hc
        rw [hc, dig_nat hx]; omega
      · show rdS1 0 (UInt8.ofNat (48 + x)) = x
        unfold rdS1
        rw [dig_nat hx, if_neg (by omega)]; omega
    split
    · rename_i h
      exact one g h
    · rename_i h
      obtain ⟨a, b⟩ := ih (g / 10) (by omega)
      obtain ⟨c, d⟩ := one (g % 10) (by omega)
      refine ⟨a.append c, ?_⟩
      rw [rdV_app c, b, d]
      simp only [List.length_singleton, Nat.pow_one]
      omega

/-- An exponent as it is written. -/
structure Xp (xs : List UInt8) (E : Int) : Prop where
  is : (xs = [] ∧ E = 0) ∨ ∃ (ng : Bool) (dl : List UInt8), xs = 69 :: (sgL ng ++ dl) ∧ AllD dl ∧ 1 ≤ dl.length ∧ dl.length ≤ 3 ∧ rdV dl < 1000 ∧ E = if ng then -((rdV dl : Nat) : Int) else ((rdV dl : Nat) : Int)

theorem wt_xp {E : Int} (hE : E.natAbs < 1000) : Xp (69 :: wtB E) E := by
  obtain ⟨a, b⟩ := dec_all E.natAbs
  have hl : (Lib.decDigits E.natAbs).length = Lib.nDigits E.natAbs := Lib.decDigits_length _
  have h3 : Lib.nDigits E.natAbs ≤ 3 := by
    rcases Nat.lt_or_ge 3 (Lib.nDigits E.natAbs) with h | h
    · exfalso
      rcases Nat.eq_zero_or_pos E.natAbs with h0 | h0
      · rw [h0] at h; simp [Lib.nDigits] at h
      · have h1 := pow_nd h0
        have := Nat.pow_le_pow_right (n := 10) (by decide) (show 3 ≤ Lib.nDigits E.natAbs - 1 by omega)
        omega
    · exact h
  have h1 := Lib.nDigits_pos E.natAbs
  refine ⟨Or.inr ⟨decide (E < 0), Lib.decDigits E.natAbs, ?_, a, by omega, by omega, by rw [b]; exact hE, ?_⟩⟩
  · unfold wtB sgL
    by_cases h : E < 0
    · rw [if_pos h, decide_eq_true h]; rfl
    · rw [if_neg h, decide_eq_false h]; rfl
  · rw [b]
    by_cases h : E < 0
    · rw [decide_eq_true h, if_pos rfl]; omega
    · rw [decide_eq_false h, if_neg (by decide)]; omega

/-- The parts of what Text writes. -/
theorem body_shape {m Q d n i g r : Nat} {T dp : Int} (hm0 : 0 < m) (hm : m < 9007199254740992) (hQ : Q ≤ 2045) (hsub : Q = 0 ∨ 4503599627370496 ≤ m) (hf : Q * 4503599627370496 + m < 9218868437227405312) (sh : Shows m Q d n i g r T dp) :
    ∃ (I F xs : List UInt8) (E : Int), bodyL (digsB d n r) dp = I ++ 46 :: F ++ xs ∧ AllD I ∧ AllD F ∧ 1 ≤ I.length ∧ 1 ≤ F.length ∧ I.length + F.length ≤ 400 ∧ Xp xs E ∧ 0 < rdV (I ++ 46 :: F) ∧ rdV (I ++ 46 :: F) < 100000000000000000 ∧ decR (rdV (I ++ 46 :: F)) (E - F.length) = Q * 4503599627370496 + m := by
  obtain ⟨h1, h2, h3, h4, h5⟩ := g_reads hm0 hm hQ hsub hf sh
  obtain ⟨s1, s2, s3, s4, s5⟩ := shows_small hm0 hm hQ hsub sh
  obtain ⟨a, b⟩ := dec_all g
  have hl : (Lib.decDigits g).length = r + 1 := by rw [Lib.decDigits_length, h4]
  have hr20 : r ≤ 16 := by have := sh.hr; omega
  rw [h2]
  obtain ⟨D, eD⟩ : ∃ D, Lib.decDigits g = D := ⟨_, rfl⟩
  rw [eD] at a b hl ⊢
  have zero1 : AllD [48] := fun c hc => by simp at hc; subst hc; decide
  have cut : ∀ k, 1 ≤ k → k < r + 1 → AllD (D.take k) ∧ AllD (D.drop k) ∧ (D.take k).length = k ∧ (D.drop k).length = r + 1 - k ∧ rdV (D.take k ++ 46 :: D.drop k) = g := by
    intro k k1 k2
    refine ⟨fun c hc => a c (List.mem_of_mem_take hc), fun c hc => a c (List.mem_of_mem_drop hc), by rw [List.length_take]; omega, by rw [List.length_drop]; omega, ?_⟩
    rw [rdV_dot, List.take_append_drop, b]
  unfold bodyL
  by_cases c1 : dp < -3 ∨ 15 < dp
  · rw [if_pos c1]
    have hx := wt_xp (E := dp - 1) (by omega)
    unfold wpL
    by_cases hl1 : r = 0
    · rw [if_pos (by omega)]
      have hz : 1 - D.length = 0 := by omega
      rw [hz]
      refine ⟨D, [48], 69 :: wtB (dp - 1), dp - 1, by simp [Lib.repeatL], a, zero1, by omega, by decide, by simp; omega, hx, ?_, ?_, ?_⟩
      all_goals rw [rdV_dot, rdV_app zero1, b, show rdV [48] = 0 from rfl, show ([48] : List UInt8).length = 1 from rfl, Nat.add_zero]
      · omega
      · have : Lib.nDigits g = 1 := by omega
        have := Lib.lt_pow_nDigits g
        rw [‹Lib.nDigits g = 1›] at this
        omega
      · refine (dec_shift hm0 hm hsub hf).2 ?_
        rw [show dp - 1 - ((1 : Nat) : Int) + ((1 : Nat) : Int) = dp - (r + 1) by omega]
        exact h1
    · rw [if_neg (by omega)]
      obtain ⟨t1, t2, t3, t4, t5⟩ := cut 1 (by omega) (by omega)
      refine ⟨D.take 1, D.drop 1, 69 :: wtB (dp - 1), dp - 1, by simp, t1, t2, by omega, by omega, by omega, hx, by omega, by omega, ?_⟩
      rw [t5, t4, show dp - 1 - ((r + 1 - 1 : Nat) : Int) = dp - (r + 1) by omega]
      exact h1
  · rw [if_neg c1]
    by_cases c2 : 0 < dp
    · rw [if_pos c2]
      obtain ⟨k, ek⟩ : ∃ k : Nat, dp = (k : Int) := ⟨dp.toNat, by omega⟩
      rw [show dp.toNat = k by omega]
      unfold wpL
      by_cases hl1 : r + 1 ≤ k
      · rw [if_pos (by omega)]
        have az := allD_zeros (k - D.length)
        have lz := zeros_len (k - D.length)
        refine ⟨D ++ Lib.repeatL [48] (k - D.length), [48], [], 0, by simp, a.append az, zero1, by rw [List.length_append]; omega, by decide, by rw [List.length_append, lz]; simp; omega, ⟨Or.inl ⟨rfl, rfl⟩⟩, ?_, ?_, ?_⟩
        all_goals rw [rdV_dot, rdV_app zero1, rdV_app az, b, rdV_zeros, show rdV [48] = 0 from rfl, show ([48] : List UInt8).length = 1 from rfl, Nat.add_zero, Nat.add_zero, lz]
        · exact Nat.mul_pos (Nat.mul_pos h3 (Nat.pow_pos (by decide))) (by decide)
        · have q1 := Lib.lt_pow_nDigits g
          rw [h4] at q1
          have q2 : g * 10 ^ (k - D.length) < 10 ^ (r + 1) * 10 ^ (k - D.length) := Nat.mul_lt_mul_of_pos_right q1 (Nat.pow_pos (by decide))
          rw [← Nat.pow_add] at q2
          have q3 : (10 : Nat) ^ (r + 1 + (k - D.length)) ≤ 10 ^ 15 := Nat.pow_le_pow_right (by decide) (by omega)
          have q4 : (10 : Nat) ^ 15 = 1000000000000000 := by decide
          omega
        · rw [Nat.mul_assoc, ← Nat.pow_add]
          refine (dec_shift hm0 hm hsub hf).2 ?_
          rw [show (0 : Int) - ((1 : Nat) : Int) + ((k - D.length + 1 : Nat) : Int) = dp - (r + 1) by omega]
          exact h1
      · rw [if_neg (by omega)]
        obtain ⟨t1, t2, t3, t4, t5⟩ := cut k (by omega) (by omega)
        refine ⟨D.take k, D.drop k, [], 0, by simp, t1, t2, by omega, by omega, by omega, ⟨Or.inl ⟨rfl, rfl⟩⟩, by omega, by omega, ?_⟩
        rw [t5, t4, show (0 : Int) - ((r + 1 - k : Nat) : Int) = dp - (r + 1) by omega]
        exact h1
    · rw [if_neg c2]
      have az := allD_zeros (-dp).toNat
      have lz := zeros_len (-dp).toNat
      have hV : rdV ([48] ++ 46 :: (Lib.repeatL [48] (-dp).toNat ++ D)) = g := by
        rw [rdV_dot, ← List.append_assoc, rdV_app a, rdV_app az, rdV_zeros, b, show rdV [48] = 0 from rfl]
        simp
      refine ⟨[48], Lib.repeatL [48] (-dp).toNat ++ D, [], 0, by simp, zero1, az.append a, by decide, by rw [List.length_append]; omega, by rw [List.length_append, lz]; simp; omega, ⟨Or.inl ⟨rfl, rfl⟩⟩, by omega, by omega, ?_⟩
      rw [hV, List.length_append, lz, hl, show (0 : Int) - (((-dp).toNat + (r + 1) : Nat) : Int) = dp - (r + 1) by omega]
      exact h1
end Go.Proofs.YtbengmceiaejeaaGreatDoor
/- The program's Parse at a text of this form. -/
namespace Go.Proofs.YtbengmceiaejeaaGreatDoor
open Go.ChangeShapes Go.WideShapes Go.ChangeAt Go.RowKit

def T346 : Nat := 10 ^ 173 * 10 ^ 173
theorem T346_le {k : Nat} (h : 346 ≤ k) : T346 ≤ 10 ^ k := by
  obtain ⟨j, rfl⟩ : ∃ j, k = 173 + (173 + j) := ⟨k - 346, by omega⟩
  unfold T346
  rw [Nat.pow_add 10 173, Nat.pow_add 10 173]
  exact Nat.mul_le_mul_left _ (Nat.le_mul_of_pos_right _ (Nat.pow_pos (by decide)))
theorem low_num : 4 * 100000000000000000 * EE ≤ 2 * T346 := by decide +kernel
def T311 : Nat := 10 ^ 155 * 10 ^ 156
theorem T311_le {k : Nat} (h : 311 ≤ k) : T311 ≤ 10 ^ k := by
  obtain ⟨j, rfl⟩ : ∃ j, k = 155 + (156 + j) := ⟨k - 311, by omega⟩
  unfold T311
  rw [Nat.pow_add 10 155, Nat.pow_add 10 156]
  exact Nat.mul_le_mul_left _ (Nat.le_mul_of_pos_right _ (Nat.pow_pos (by decide)))
def P26 (k : Nat) : Nat := 2 ^ k
theorem top_num : P26 1026 < 4 * T311 := by decide +kernel
theorem top_le {k : Nat} (h : k = 1026) : 2 ^ k < 4 * T311 := by
  have := top_num
  rw [← h] at this
  exact this

theorem dec_bounds {V m Q : Nat} {X : Int} (hV0 : 0 < V) (hV : V < 100000000000000000) (hm0 : 0 < m) (hm : m < 9007199254740992) (hQ : Q ≤ 2045) (hsub : Q = 0 ∨ 4503599627370496 ≤ m) (hf : Q * 4503599627370496 + m < 9218868437227405312) (hw : decR V X = Q * 4503599627370496 + m) : -345 ≤ X ∧ X ≤ 310 := by
  have hi := (dec_iff E0_eq hm0 hm hsub hf).1 hw
  constructor
  · rcases Int.lt_or_le X (-345) with h | h
    · exfalso
      have hmore := inW_more hm0 (Nat.pow_pos (by decide)) hsub hi
      rw [(by omega : X.toNat = 0), Nat.pow_zero, Nat.mul_one] at hmore
      have t1 : T346 ≤ 10 ^ (-X).toNat := T346_le (by omega)
      have t2 := low_num
      have t3 : V * 2 ^ E0 ≤ 100000000000000000 * EE := Nat.mul_le_mul (Nat.le_of_lt hV) (Nat.le_refl _)
      generalize 10 ^ (-X).toNat = a at hmore t1
      generalize T346 = b at t1 t2
      generalize V * 2 ^ E0 = c at hmore t3
      rw [Nat.mul_assoc] at t2
      generalize 100000000000000000 * EE = e at t2 t3
      omega
    · exact h
  · rcases Int.lt_or_le 310 X with h | h
    · exfalso
      obtain ⟨⟨_, h2⟩, _⟩ := hi
      rw [(by omega : (-X).toNat = 0), Nat.pow_zero, Nat.mul_one] at h2
      have t1 : T311 ≤ V * 10 ^ X.toNat := Nat.le_trans (T311_le (by omega)) (Nat.le_mul_of_pos_left _ hV0)
      obtain ⟨k, ek⟩ : ∃ k : Nat, k = 1026 := ⟨_, rfl⟩
      have t2 := top_le ek
      have t3 : (4 * m + 2) * 2 ^ Q ≤ 2 ^ 55 * 2 ^ (971 + E0) := Nat.mul_le_mul (by omega) (Nat.pow_le_pow_right (by decide) (by rw [E0_eq]; omega))
      have t4 : 2 ^ 55 * 2 ^ (971 + E0) = 2 ^ k * 2 ^ E0 := by
        rw [← Nat.pow_add, ← Nat.pow_add]
        congr 1
        omega
      have t5 : 4 * (V * 10 ^ X.toNat * 2 ^ E0) = 4 * (V * 10 ^ X.toNat) * 2 ^ E0 := (Nat.mul_assoc _ _ _).symm
      rw [t5] at h2
      rw [t4] at t3
      have t6 := Nat.le_of_mul_le_mul_right (Nat.le_trans h2 t3) (Nat.two_pow_pos E0)
      generalize V * 10 ^ X.toNat = a at t1 t6
      generalize T311 = b at t1 t2
      generalize 2 ^ k = c at t2 t6
      omega
    · exact h

theorem dig_in : ∀ n : Fin 256, 48 ≤ n.val ∧ n.val ≤ 57 → dgs.contains (UInt8.ofNat n.val) = true := by decide +kernel
theorem dig_contains {c : UInt8} (h : 48 ≤ c.toNat ∧ c.toNat ≤ 57) : dgs.contains c = true := by
  have := dig_in ⟨c.toNat, c.toNat_lt⟩ h
  simpa using this

theorem past_app : ∀ (D r : List UInt8), AllD D → (r = [] ∨ ∃ c q, r = c :: q ∧ dgs.contains c = false) → past (D ++ r) = r
  | [], r, _, hr => by
    rcases hr with rfl | ⟨c, q, rfl, hc⟩
    · rfl
    · unfold past Lib.trimLeftS
      rw [List.nil_append, List.dropWhile_cons, hc]; rfl
  | c :: D, r, h, hr => by
    have hc := dig_contains (h c (by simp))
    have := past_app D r (fun x hx => h x (by simp [hx])) hr
    unfold past Lib.trimLeftS at this ⊢
    rw [List.cons_append, List.dropWhile_cons, hc, if_pos rfl]
    exact this

theorem cut_sg (b : Bool) (l : List UInt8) (hl : ∃ c q, l = c :: q ∧ c ≠ 126) : Lib.trimPrefix (sgL b ++ l) [126] = l := by
  obtain ⟨c, q, rfl, hc⟩ := hl
  cases b
  · unfold Lib.trimPrefix Lib.hasPrefix sgL
    have : ([126] : List UInt8).isPrefixOf (c :: q) = false := by
      simp [List.isPrefixOf]
      exact fun h => absurd h.symm hc
    simp [this]
  · unfold Lib.trimPrefix Lib.hasPrefix sgL
    simp [List.isPrefixOf]

theorem head_dig {l : List UInt8} (h : AllD l) (h1 : 1 ≤ l.length) (r : List UInt8) : ∃ c q, l ++ r = c :: q ∧ c ≠ 126 := by
  cases l with
  | nil => simp at h1
  | cons c q => exact ⟨c, q ++ r, rfl, fun e => by have := h c (by simp); rw [e] at this; exact absurd this (by decide)⟩

theorem ba_list (l : List UInt8) : (⟨l.toArray⟩ : ByteArray).data.toList = l := by simp
theorem ba_sizeL (l : List UInt8) : (⟨l.toArray⟩ : ByteArray).size = l.length := by show l.toArray.size = _; simp

theorem byte_at {t : List UInt8} {q : Nat} (h : q < (⟨t.toArray⟩ : ByteArray).size) : ((⟨t.toArray⟩ : ByteArray)[q]'h) = t.getD q 0 := by
  have h2 : q < t.length := by rw [ba_sizeL] at h; exact h
  rw [List.getD_eq_getElem?_getD, List.getElem?_eq_getElem h2]
  show t.toArray[q] = _
  simp

theorem getD_mid (p l x : List UInt8) (j : Nat) (hj : j < l.length) : (p ++ l ++ x).getD (p.length + j) 0 = l.getD j 0 := by
  rw [List.getD_eq_getElem?_getD, List.getD_eq_getElem?_getD, List.append_assoc, List.getElem?_append_right (by omega), Nat.add_sub_cancel_left, List.getElem?_append_left hj]

/-- The form holds. -/
theorem isReal_yes (b : Bool) (I F xs : List UInt8) (E : Int) (hI : AllD I) (hF : AllD F) (i1 : 1 ≤ I.length) (f1 : 1 ≤ F.length) (hx : Xp xs E) (w : World) :
    Calls Tryz.prog 27 #[.string ⟨(sgL b ++ (I ++ 46 :: F ++ xs)).toArray⟩] w fun x w' => x = .returned (.bool true) ∧ Below w.heap.size w w' := by
  have e0 : Lib.trimPrefix (sgL b ++ (I ++ 46 :: F ++ xs)) [126] = I ++ 46 :: F ++ xs := cut_sg b _ (by rw [List.append_assoc]; exact head_dig hI i1 _)
  have e1 : past (I ++ 46 :: F ++ xs) = 46 :: F ++ xs := by
    rw [List.append_assoc]
    exact past_app I _ hI (Or.inr ⟨46, F ++ xs, rfl, by decide⟩)
  have TP : ∀ w, Calls Tryz.prog 56 #[.string ⟨(sgL b ++ (I ++ 46 :: F ++ xs)).toArray⟩, .string ⟨#[126]⟩] w fun x w' => x = .returned (.string ⟨(I ++ 46 :: F ++ xs).toArray⟩) ∧ w' = w := by
    intro w
    have := Tryz.strings_TrimPrefix ⟨(sgL b ++ (I ++ 46 :: F ++ xs)).toArray⟩ ⟨#[126]⟩ w
    rw [ba_list, show (⟨#[126]⟩ : ByteArray).data.toList = [126] from rfl, e0] at this
    exact this
  have P1 : ∀ w, Calls Tryz.prog 55 #[.string ⟨(I ++ 46 :: F ++ xs).toArray⟩] w fun x w' => x = .returned (.tuple #[.string ⟨(46 :: F ++ xs).toArray⟩, .bool true]) ∧ Below w.heap.size w w' := by
    intro w
    have := past_any ⟨(I ++ 46 :: F ++ xs).toArray⟩ ⟨(46 :: F ++ xs).toArray⟩ (by rw [ba_list, e1]) w
    rw [ba_sizeL, ba_sizeL, decide_eq_true (by simp only [List.length_append, List.length_cons]; omega)] at this
    exact this
  have CP : ∀ w, Calls Tryz.prog 57 #[.string ⟨(46 :: F ++ xs).toArray⟩, .string ⟨#[46]⟩] w fun x w' => x = .returned (.tuple #[.string ⟨(F ++ xs).toArray⟩, .bool true]) ∧ w' = w := by
    intro w
    have := Tryz.strings_CutPrefix ⟨(46 :: F ++ xs).toArray⟩ ⟨#[46]⟩ w
    rw [ba_list, show (⟨#[46]⟩ : ByteArray).data.toList = [46] from rfl, show Lib.trimPrefix (46 :: F ++ xs) [46] = F ++ xs by simp [Lib.trimPrefix, Lib.hasPrefix, List.isPrefixOf], show Lib.hasPrefix (46 :: F ++ xs) [46] = true by simp [Lib.hasPrefix, List.isPrefixOf]] at this
    exact this
  have P2 : ∀ e2 : past (F ++ xs) = xs, ∀ w, Calls Tryz.prog 55 #[.string ⟨(F ++ xs).toArray⟩] w fun x w' => x = .returned (.tuple #[.string ⟨xs.toArray⟩, .bool true]) ∧ Below w.heap.size w w' := by
    intro e2 w
    have := past_any ⟨(F ++ xs).toArray⟩ ⟨xs.toArray⟩ (by rw [ba_list, e2]) w
    rw [ba_sizeL, ba_sizeL, decide_eq_true (by simp only [List.length_append]; omega)] at this
    exact this
  rcases hx.is with ⟨rfl, _⟩ | ⟨ng, dl, rfl, hd, d1, d3, _, _⟩
  · exact real_plain _ _ _ _ w TP P1 CP (P2 (past_app F [] hF (Or.inl rfl)))
  · have h3 : 0 < (⟨(69 :: (sgL ng ++ dl)).toArray⟩ : ByteArray).size := by rw [ba_sizeL]; simp
    have TQ : ∀ w, Calls Tryz.prog 56 #[.string ⟨(sgL ng ++ dl).toArray⟩, .string ⟨#[126]⟩] w fun x w' => x = .returned (.string ⟨dl.toArray⟩) ∧ w' = w := by
      intro w
      have := Tryz.strings_TrimPrefix ⟨(sgL ng ++ dl).toArray⟩ ⟨#[126]⟩ w
      have hh := head_dig hd d1 []
      rw [List.append_nil] at hh
      rw [ba_list, show (⟨#[126]⟩ : ByteArray).data.toList = [126] from rfl, cut_sg ng dl hh] at this
      exact this
    have P3 : ∀ w, Calls Tryz.prog 55 #[.string ⟨dl.toArray⟩] w fun x w' => x = .returned (.tuple #[.string ⟨#[]⟩, .bool true]) ∧ Below w.heap.size w w' := by
      intro w
      have e3 := past_app dl [] hd (Or.inl rfl)
      rw [List.append_nil] at e3
      have := past_any ⟨dl.toArray⟩ ⟨#[]⟩ (by rw [ba_list, e3]) w
      rw [ba_sizeL dl, show (⟨#[]⟩ : ByteArray).size = 0 from rfl, decide_eq_true (by omega)] at this
      exact this
    refine real_exp _ _ _ _ _ ⟨(sgL ng ++ dl).toArray⟩ _ w h3 (by rw [byte_at]; rfl) ?_ TP P1 CP (P2 (past_app F _ hF (Or.inr ⟨69, _, rfl, by decide⟩))) TQ P3
    apply ba_of
    rw [ba_cut, ba_list, ba_sizeL]
    simp only [List.length_cons, List.take_succ_cons, List.drop_succ_cons, List.drop_zero, List.take_length]
end Go.Proofs.YtbengmceiaejeaaGreatDoor
/- The program's Parse of what Text writes, by what the library's readFloat reads. -/
namespace Go.Proofs.YtbengmceiaejeaaGreatDoor
open Go.ChangeShapes Go.WideShapes Go.ChangeAt Go.RowKit

/-- What readFloat answers at a text of this form (proved in FbR2, FbR3). -/
def ReadsAt (p0 : Nat) (neg : Bool) : Prop := ∀ (w : World) (s : ByteArray) (l : List UInt8) (z : Nat) (E : Int), s.size ≤ 1100 → rdV l < 100000000000000000 → Txt s p0 l z → ((p0 + l.length = s.size ∧ E = 0) ∨ (0 < rdV l ∧ ∃ r ng dl, Exp s (p0 + l.length) r ng dl ∧ E = if ng then -((rdV dl : Nat) : Int) else ((rdV dl : Nat) : Int))) → (neg = true → ∀ h : 0 < s.size, (s[0]'h).toNat = 45) →
  Calls Tryz.prog 136 #[.string s] w fun x w' => x = .returned (.tuple #[.int .u64 ((rdV l : Nat) : Int), .int .i64 (if rdV l = 0 then 0 else E - ((l.length : Int) - 1 - (z : Int))), .bool neg, .bool false, .bool false, .int .i64 (s.size : Int), .bool true]) ∧ w' = w

def mnL (b : Bool) : List UInt8 := if b then [45] else []
theorem mn_len (b : Bool) : (mnL b).length = b.toNat := by cases b <;> rfl
theorem sg_len (b : Bool) : (sgL b).length = b.toNat := by cases b <;> rfl
theorem rep_sg (b : Bool) : rep (sgL b) = mnL b := by cases b <;> rfl
theorem rep_dig {l : List UInt8} (h : AllD l) : rep l = l := rep_none l fun hc => by have := h _ hc; exact absurd this (by decide)
theorem rep_app (a b : List UInt8) : rep (a ++ b) = rep a ++ rep b := by unfold rep; exact List.map_append
theorem rep_dot (l : List UInt8) : rep (46 :: l) = 46 :: rep l := rfl

theorem getD_l (I F : List UInt8) : (I ++ 46 :: F).getD I.length 0 = 46 := by
  rw [List.getD_eq_getElem?_getD, List.getElem?_append_right (Nat.le_refl _), Nat.sub_self]; rfl

theorem getD_dig {I F : List UInt8} (hI : AllD I) (hF : AllD F) (j : Nat) (hj : j < (I ++ 46 :: F).length) (hz : j ≠ I.length) : 48 ≤ ((I ++ 46 :: F).getD j 0).toNat ∧ ((I ++ 46 :: F).getD j 0).toNat ≤ 57 := by
  rw [List.getD_eq_getElem?_getD]
  rcases Nat.lt_or_ge j I.length with h | h
  · rw [List.getElem?_append_left h, List.getElem?_eq_getElem h]
    exact hI _ (List.getElem_mem h)
  · obtain ⟨k, rfl⟩ : ∃ k, j = I.length + (k + 1) := ⟨j - I.length - 1, by omega⟩
    rw [List.getElem?_append_right (by omega), Nat.add_sub_cancel_left, List.getElem?_cons_succ]
    have hk : k < F.length := by simp only [List.length_append, List.length_cons] at hj; omega
    rw [List.getElem?_eq_getElem hk]
    exact hF _ (List.getElem_mem hk)

theorem txt_of (b : Bool) (I F xs : List UInt8) (hI : AllD I) (hF : AllD F) (i1 : 1 ≤ I.length) (f1 : 1 ≤ F.length) : Txt ⟨(mnL b ++ (I ++ 46 :: F) ++ xs).toArray⟩ b.toNat (I ++ 46 :: F) I.length := by
  refine ⟨?_, ?_, i1, ?_, by rw [getD_l]; rfl, fun j hj hz => getD_dig hI hF j hj hz⟩
  · rw [ba_sizeL]; simp only [List.length_append, mn_len]; omega
  · intro j q hj hq h
    rw [byte_at, ← hq, ← mn_len b, getD_mid _ _ _ _ hj]
  · simp only [List.length_append, List.length_cons]; omega

theorem exp_of (b ng : Bool) (l dl : List UInt8) (hd : AllD dl) (d1 : 1 ≤ dl.length) (h3 : rdV dl < 1000) : Exp ⟨(mnL b ++ l ++ 69 :: (mnL ng ++ dl)).toArray⟩ (b.toNat + l.length) (b.toNat + l.length + 1 + ng.toNat) ng dl := by
  have hp : (mnL b ++ l).length = b.toNat + l.length := by rw [List.length_append, mn_len]
  have hp2 : (mnL b ++ l ++ 69 :: mnL ng).length = b.toNat + l.length + 1 + ng.toNat := by rw [List.length_append, hp, List.length_cons, mn_len]; omega
  have e1 : mnL b ++ l ++ 69 :: (mnL ng ++ dl) = (mnL b ++ l) ++ [69] ++ (mnL ng ++ dl) := by simp
  have e2 : mnL b ++ l ++ 69 :: (mnL ng ++ dl) = (mnL b ++ l ++ 69 :: mnL ng) ++ dl ++ [] := by simp
  refine ⟨?_, rfl, ?_, ?_, d1, ?_, ?_, h3⟩
  · intro h
    rw [byte_at, e1, ← hp]
    have := getD_mid (mnL b ++ l) [69] (mnL ng ++ dl) 0 (by decide)
    rw [Nat.add_zero] at this
    rw [this]; rfl
  · intro hn h
    subst hn
    have e3 : mnL b ++ l ++ 69 :: (mnL true ++ dl) = (mnL b ++ l ++ [69]) ++ [45] ++ dl := by simp [mnL]
    have hp3 : (mnL b ++ l ++ [69]).length = b.toNat + l.length + 1 := by rw [List.length_append, hp]; rfl
    rw [byte_at, e3, ← hp3]
    have := getD_mid (mnL b ++ l ++ [69]) [45] dl 0 (by decide)
    rw [Nat.add_zero] at this
    rw [this]; rfl
  · rw [ba_sizeL, e2, List.append_nil, List.length_append, hp2]
  · intro j p hj hpj h
    rw [byte_at, e2, ← hpj, ← hp2, getD_mid _ _ _ _ hj]
  · intro j hj
    rw [List.getD_eq_getElem?_getD, List.getElem?_eq_getElem hj]
    exact hd _ (List.getElem_mem hj)

/-- What Parse reads of a text of this form. -/
theorem parse_shape (R0 : ReadsAt 0 false) (R1 : ReadsAt 1 true) (w : World) (R : RdyT w) (P : RdyP w) (b : Bool) (I F xs : List UInt8) (E : Int) {m Q : Nat} (hI : AllD I) (hF : AllD F) (i1 : 1 ≤ I.length) (f1 : 1 ≤ F.length) (hl : I.length + F.length ≤ 400) (hx : Xp xs E) (v0 : 0 < rdV (I ++ 46 :: F)) (v17 : rdV (I ++ 46 :: F) < 100000000000000000)
    (hm0 : 0 < m) (hm : m < 9007199254740992) (hQ : Q ≤ 2045) (hsub : Q = 0 ∨ 4503599627370496 ≤ m) (hf : Q * 4503599627370496 + m < 9218868437227405312) (hw : decR (rdV (I ++ 46 :: F)) (E - F.length) = Q * 4503599627370496 + m) :
    Calls Tryz.prog 9 #[.string ⟨(sgL b ++ (I ++ 46 :: F ++ xs)).toArray⟩] w fun x w' => x = .returned (.tuple #[.float .f64 (wordD b (Q * 4503599627370496 + m)), .int .i64 0]) ∧ Below w.heap.size w w' := by
  obtain ⟨ys, hys, hy5⟩ : ∃ ys, rep xs = ys ∧ ys.length ≤ 5 ∧ xs.length ≤ 5 ∧ ((ys = [] ∧ E = 0) ∨ ∃ (ng : Bool) (dl : List UInt8), ys = 69 :: (mnL ng ++ dl) ∧ AllD dl ∧ 1 ≤ dl.length ∧ rdV dl < 1000 ∧ E = if ng then -((rdV dl : Nat) : Int) else ((rdV dl : Nat) : Int)) := by
    rcases hx.is with ⟨rfl, hE⟩ | ⟨ng, dl, rfl, hd, d1, d3, hs, hE⟩
    · exact ⟨[], rfl, by decide, by decide, Or.inl ⟨rfl, hE⟩⟩
    · refine ⟨_, rfl, ?_, ?_, Or.inr ⟨ng, dl, ?_, hd, d1, hs, hE⟩⟩
      · unfold rep; rw [List.length_map, List.length_cons, List.length_append, sg_len]; cases ng <;> simp <;> omega
      · rw [List.length_cons, List.length_append, sg_len]; cases ng <;> simp <;> omega
      · have : rep (69 :: (sgL ng ++ dl)) = 69 :: rep (sgL ng ++ dl) := rfl
        rw [this, rep_app, rep_sg, rep_dig hd]
  obtain ⟨y1, y2, y3⟩ := hy5
  have hrep : rep (sgL b ++ (I ++ 46 :: F ++ xs)) = mnL b ++ (I ++ 46 :: F) ++ ys := by
    rw [rep_app, rep_app, rep_app, rep_dot, rep_sg, rep_dig hI, rep_dig hF, hys, ← List.append_assoc]
  have hsz : (⟨(sgL b ++ (I ++ 46 :: F ++ xs)).toArray⟩ : ByteArray).size ≤ 1100 := by
    rw [ba_sizeL]
    simp only [List.length_append, List.length_cons, sg_len]
    cases b <;> simp <;> omega
  have T := txt_of b I F ys hI hF i1 f1
  obtain ⟨t, et⟩ : ∃ t, mnL b ++ (I ++ 46 :: F) ++ ys = t := ⟨_, rfl⟩
  have htz : (⟨t.toArray⟩ : ByteArray).size ≤ 1100 := by
    rw [ba_sizeL, ← et]
    simp only [List.length_append, List.length_cons, mn_len]
    cases b <;> simp <;> omega
  have hB := dec_bounds v0 v17 hm0 hm hQ hsub hf hw
  have hX : (b.toNat + (I ++ 46 :: F).length = (⟨t.toArray⟩ : ByteArray).size ∧ E = 0) ∨ (0 < rdV (I ++ 46 :: F) ∧ ∃ r ng dl, Exp ⟨t.toArray⟩ (b.toNat + (I ++ 46 :: F).length) r ng dl ∧ E = if ng then -((rdV dl : Nat) : Int) else ((rdV dl : Nat) : Int)) := by
    rcases y3 with ⟨rfl, hE⟩ | ⟨ng, dl, rfl, hd, d1, hs, hE⟩
    · exact Or.inl ⟨by rw [ba_sizeL, ← et, List.append_nil]; simp only [List.length_append, mn_len], hE⟩
    · exact Or.inr ⟨v0, _, ng, dl, by rw [← et]; exact exp_of b ng _ dl hd d1 hs, hE⟩
  rw [et] at T hrep
  have hll : ((I ++ 46 :: F).length : Int) - 1 - (I.length : Int) = F.length := by rw [List.length_append, List.length_cons]; omega
  have a0 := T.at_ 0 b.toNat (by rw [List.length_append]; omega) rfl
  have d0 := T.dig 0 (by rw [List.length_append]; omega) (by omega)
  have SP : ∀ w, Calls Tryz.prog 135 #[.string ⟨t.toArray⟩] w fun x w' => x = .returned (.tuple #[.float .f64 0, .int .i64 0, .bool false]) ∧ w' = w := by
    intro w
    have hfit := T.fit
    rw [List.length_append, List.length_cons] at hfit
    cases b
    · exact special0 _ (by simp at hfit; omega) _ (a0 (by simp at hfit; simp; omega)) d0 w
    · refine special1 _ (by simp at hfit; omega) htz ?_ _ (a0 (by simp at hfit; simp; omega)) d0 w
      rw [byte_at, ← et]; rfl
  have RF : ∀ w, Calls Tryz.prog 136 #[.string ⟨t.toArray⟩] w fun x w' => x = .returned (.tuple #[.int .u64 ((rdV (I ++ 46 :: F) : Nat) : Int), .int .i64 (E - F.length), .bool b, .bool false, .bool false, .int .i64 ((⟨t.toArray⟩ : ByteArray).size : Int), .bool true]) ∧ w' = w := by
    intro w
    cases b
    · have := R0 w ⟨t.toArray⟩ _ _ E htz v17 T hX (fun h => by cases h)
      rw [if_neg (by omega), hll] at this
      exact this
    · have := R1 w ⟨t.toArray⟩ _ _ E htz v17 T hX (fun _ h => by rw [byte_at, ← et]; rfl)
      rw [if_neg (by omega), hll] at this
      exact this
  refine parse_yes _ ⟨t.toArray⟩ hsz _ w (fun w => isReal_yes b I F xs E hI hF i1 f1 hx w) ?_ ?_
  · intro w1 b1
    have := repAll_any w1 (R.below b1) ⟨(sgL b ++ (I ++ 46 :: F ++ xs)).toArray⟩ hsz
    rw [ba_list, hrep] at this
    exact this.mono fun x w' ⟨h1, h2⟩ => ⟨h1, b1.trans (h2.mono b1.size)⟩
  · intro w1 b1
    have := pf_any ⟨t.toArray⟩ _ w1 (atof_by ⟨t.toArray⟩ b _ m Q _ v0 v17 hB w1 (R.below b1) (P.below b1) hm0 hm hQ hsub hf hw SP RF)
    exact this.mono fun x w' ⟨h1, h2⟩ => ⟨h1, b1.trans (h2.mono b1.size)⟩
end Go.Proofs.YtbengmceiaejeaaGreatDoor
/- Parse of the other texts that Text writes: nan, inf, 0.0. -/
namespace Go.Proofs.YtbengmceiaejeaaGreatDoor
open Go.ChangeShapes Go.WideShapes Go.ChangeAt Go.RowKit

theorem parse_word_no (b : Bool) (l : List UInt8) (hl : l.length ≤ 10) (h1 : ∃ c q, l = c :: q ∧ c ≠ 126 ∧ dgs.contains c = false) (w : World) :
    Calls Tryz.prog 9 #[.string ⟨(sgL b ++ l).toArray⟩] w fun x w' => x = .returned (.tuple #[.float .f64 0, .int .i64 21]) ∧ Below w.heap.size w w' := by
  obtain ⟨c, q, rfl, hc, hd⟩ := h1
  have hsz : (⟨(sgL b ++ c :: q).toArray⟩ : ByteArray).size ≤ 1100 := by
    rw [ba_sizeL, List.length_append, sg_len]
    cases b <;> simp at * <;> omega
  refine parse_no _ hsz w (real_no _ ⟨(c :: q).toArray⟩ ⟨(c :: q).toArray⟩ w ?_ ?_)
  · intro w
    have := Tryz.strings_TrimPrefix ⟨(sgL b ++ c :: q).toArray⟩ ⟨#[126]⟩ w
    rw [ba_list, show (⟨#[126]⟩ : ByteArray).data.toList = [126] from rfl, cut_sg b _ ⟨c, q, rfl, hc⟩] at this
    exact this
  · intro w
    have e3 := past_app [] (c :: q) (fun x hx => by simp at hx) (Or.inr ⟨c, q, rfl, hd⟩)
    rw [List.nil_append] at e3
    have := past_any ⟨(c :: q).toArray⟩ ⟨(c :: q).toArray⟩ (by rw [ba_list, e3]) w
    rw [decide_eq_false (Nat.lt_irrefl _)] at this
    exact this

theorem parse_zero (R0 : ReadsAt 0 false) (R1 : ReadsAt 1 true) (w : World) (R : RdyT w) (P : RdyP w) (b : Bool) :
    Calls Tryz.prog 9 #[.string ⟨(sgL b ++ [48, 46, 48]).toArray⟩] w fun x w' => x = .returned (.tuple #[.float .f64 (wordD b 0), .int .i64 0]) ∧ Below w.heap.size w w' := by
  have z1 : AllD [48] := fun c hc => by simp at hc; subst hc; decide
  have T := txt_of b [48] [48] [] z1 z1 (by decide) (by decide)
  rw [List.append_nil] at T
  have hv : rdV ([48] ++ 46 :: [48]) = 0 := by decide
  have hrep : rep (sgL b ++ [48, 46, 48]) = mnL b ++ ([48] ++ 46 :: [48]) := by cases b <;> rfl
  have htz : (⟨(mnL b ++ ([48] ++ 46 :: [48])).toArray⟩ : ByteArray).size ≤ 1100 := by cases b <;> decide
  have hsz : (⟨(sgL b ++ [48, 46, 48]).toArray⟩ : ByteArray).size ≤ 1100 := by cases b <;> decide
  obtain ⟨t, et⟩ : ∃ t, mnL b ++ ([48] ++ 46 :: [48]) = t := ⟨_, rfl⟩
  have hX : (b.toNat + ([48] ++ 46 :: [48] : List UInt8).length = (⟨t.toArray⟩ : ByteArray).size ∧ (0 : Int) = 0) := ⟨by rw [← et]; cases b <;> rfl, rfl⟩
  rw [et] at T hrep htz
  have SP : ∀ w, Calls Tryz.prog 135 #[.string ⟨t.toArray⟩] w fun x w' => x = .returned (.tuple #[.float .f64 0, .int .i64 0, .bool false]) ∧ w' = w := by
    intro w
    have hfit := T.fit
    have a0 := T.at_ 0 b.toNat (by decide) rfl
    cases b
    · exact special0 _ (by simp at hfit; omega) _ (a0 (by simp at hfit; simp; omega)) (by decide) w
    · refine special1 _ (by simp at hfit; omega) htz ?_ _ (a0 (by simp at hfit; simp; omega)) (by decide) w
      rw [byte_at, ← et]; rfl
  have RF : ∀ w, Calls Tryz.prog 136 #[.string ⟨t.toArray⟩] w fun x w' => x = .returned (.tuple #[.int .u64 0, .int .i64 0, .bool b, .bool false, .bool false, .int .i64 ((⟨t.toArray⟩ : ByteArray).size : Int), .bool true]) ∧ w' = w := by
    intro w
    cases b
    · have := R0 w ⟨t.toArray⟩ _ _ 0 htz (by rw [hv]; decide) T (Or.inl hX) (fun h => by cases h)
      rw [hv, if_pos rfl] at this
      exact this
    · have := R1 w ⟨t.toArray⟩ _ _ 0 htz (by rw [hv]; decide) T (Or.inl hX) (fun _ h => by rw [byte_at, ← et]; rfl)
      rw [hv, if_pos rfl] at this
      exact this
  have IR := fun w => isReal_yes b [48] [48] [] 0 z1 z1 (by decide) (by decide) ⟨Or.inl ⟨rfl, rfl⟩⟩ w
  refine parse_yes _ ⟨t.toArray⟩ hsz _ w IR ?_ ?_
  · intro w1 b1
    have := repAll_any w1 (R.below b1) ⟨(sgL b ++ [48, 46, 48]).toArray⟩ hsz
    rw [ba_list, hrep] at this
    exact this.mono fun x w' ⟨h1, h2⟩ => ⟨h1, b1.trans (h2.mono b1.size)⟩
  · intro w1 b1
    have := pf_any ⟨t.toArray⟩ _ w1 (atof_zero ⟨t.toArray⟩ b w1 (P.below b1) SP RF)
    exact this.mono fun x w' ⟨h1, h2⟩ => ⟨h1, b1.trans (h2.mono b1.size)⟩
end Go.Proofs.YtbengmceiaejeaaGreatDoor
