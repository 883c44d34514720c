/- What package fix's and the document's own readers of constants answer, for every text. -/
import Derived.Test.YtjlogbpnehbbbabDoorProg
import Derived.Test.YtjlogbpnehbbbabDoorBase
import Derived.Test.YtjlogbpnehbbbabDoorRight
import Derived.Test.YtjlogbpnehbbbabDoorDiv
import Derived.Test.YtjlogbpnehbbbabDoorAdd
import Derived.Test.YtjlogbpnehbbbabDoorRef
import Derived.Test.YtjlogbpnehbbbabDoorLead
import Derived.WalkKit
import Derived.ProofKit
import Derived.OpenShut
import Derived.Below
import Derived.WalkLawsBesides
import Derived.Lib.IndexBytes
namespace Go.Proofs.YtjlogbpnehbbbabDoor
open Go.ChangeShapes Go.WideShapes Go.ChangeAt Go.RowKit

theorem fsigned_any (m : Int) (below : Bool) (w : World) (hm : 0 ≤ m ∧ m ≤ 4611686018427387905) : Calls Tryd.prog 14 #[.int .u64 m, .bool below] w fun e w' => e = .returned (.tuple #[.int .i64 (ansV (sgn m below)), .int .i64 (ansE (sgn m below))]) ∧ w' = w := by
  cases below
  all_goals
    go_enter Tryd.func14, Tryd.ntmps14
    go_wp2_with (go_at_call 20; refine (answer_any _ _).mono ?_; rintro e w' ⟨rfl, rfl⟩)
    go_ret2
    exact ⟨rfl, rfl⟩

/-- Does s begin with p? As the walk spells it. -/
def hpB (s p : ByteArray) : Bool := decide (p.size ≤ s.size) && ((s.extract 0 p.size).toList == p.toList)
theorem hasPrefix_any (s p : ByteArray) (w : World) : Calls Tryd.prog 32 #[.string s, .string p] w fun e w' => e = .returned (.bool (hpB s p)) ∧ w' = w := by
  by_cases h : p.size ≤ s.size
  · have H : Hid (hpB s p = ((s.extract 0 p.size).toList == p.toList)) := by show _ = _; simp [hpB, h]
    go_enter Tryd.func32, Tryd.ntmps32
    go_wp2
    go_ret
    exact ⟨ret_bool H.out.symm, rfl⟩
  · have H : Hid (hpB s p = false) := by show _ = _; simp [hpB, h]
    go_enter Tryd.func32, Tryd.ntmps32
    go_wp2
    go_ret
    exact ⟨ret_bool H.out.symm, rfl⟩

/-- What is left behind a beginning. -/
def cutS (s p : ByteArray) : ByteArray := if hpB s p then s.extract p.size s.size else s
theorem hpB_size {s p : ByteArray} (h : hpB s p = true) : p.size ≤ s.size := by
  unfold hpB at h; simp at h; exact h.1
theorem ret_cut {s t : ByteArray} {a b : Bool} (h : s = t) (g : a = b) : Ending.returned (.tuple #[.string s, .bool a]) = .returned (.tuple #[.string t, .bool b]) := by rw [h, g]
theorem cut1_any (s p : ByteArray) (w : World) : Calls Tryd.prog 21 #[.string s, .string p] w fun e w' => e = .returned (.tuple #[.string (cutS s p), .bool (hpB s p)]) ∧ w' = w := by
  cases h : hpB s p
  · have H : Hid (cutS s p = s) := by show _ = _; simp [cutS, h]
    go_enter Tryd.func21, Tryd.ntmps21
    go_wp2_with (go_at_call 32; refine (hasPrefix_any _ _ _).mono ?_; rintro e w' ⟨rfl, rfl⟩)
    go_ret2
    exact ⟨ret_cut H.out.symm rfl, rfl⟩
  · have H : Hid (cutS s p = s.extract p.size s.size) := by show _ = _; simp [cutS, h]
    have hle := hpB_size h
    go_enter Tryd.func21, Tryd.ntmps21
    go_wp2_with (go_at_call 32; refine (hasPrefix_any _ _ _).mono ?_; rintro e w' ⟨rfl, rfl⟩)
    go_ret2
    exact ⟨ret_cut H.out.symm rfl, rfl⟩
theorem cut_any (s p : ByteArray) (w : World) : Calls Tryd.prog 12 #[.string s, .string p] w fun e w' => e = .returned (.tuple #[.string (cutS s p), .bool (hpB s p)]) ∧ w' = w := by
  go_enter Tryd.func12, Tryd.ntmps12
  go_wp2_with (go_at_call 21; refine (cut1_any _ _ _).mono ?_; rintro e w' ⟨rfl, rfl⟩)
  go_ret2
  exact ⟨rfl, rfl⟩

/-- Are all of these digits of a base? -/
def digsB (base : Int) (l : List UInt8) : Bool := l.all fun c => decide (digI c.toNat < base)
theorem digs_snoc (base : Int) (s : ByteArray) (k : Nat) (h : k < s.size) : digsB base (s.data.toList.take (k + 1)) = (digsB base (s.data.toList.take k) && decide (digI (s[k].toNat : Int) < base)) := by
  have e : s.data.toList.take (k + 1) = s.data.toList.take k ++ [s[k]] := by
    rw [List.take_succ_eq_append_getElem (by simpa using h)]; rfl
  rw [e]; unfold digsB; rw [List.all_append]; simp
theorem digs_out (base : Int) (s : ByteArray) (k : Nat) (h : k < s.size) (g : base ≤ digI (s[k].toNat : Int)) : digsB base s.data.toList = false := by
  unfold digsB
  rw [List.all_eq_false]
  refine ⟨s[k], List.getElem_mem (l := s.data.toList) (by simpa using h), ?_⟩
  simpa using g
theorem digs_at (base : Int) (s : ByteArray) (k : Nat) (h : k < s.size) (g : digsB base s.data.toList = true) : digI (s[k].toNat : Int) < base := by
  unfold digsB at g
  rw [List.all_eq_true] at g
  have := g s[k] (List.getElem_mem (l := s.data.toList) (by simpa using h))
  simpa using this
theorem nil_isEmpty (s : ByteArray) : s.toList.isEmpty = decide (s.size = 0) := by
  rw [Lib.toList_data, Lib.size_eq]
  generalize s.data.toList = l
  cases l <;> simp

/-- The document's number of digits, held a little above 2^62. -/
def numGo (base n : Int) : List UInt8 → Int
  | [] => n
  | c :: r => if 4611686018427387904 / base < n then 4611686018427387905 else numGo base (n * base + digI c.toNat) r
theorem numGo_at (base n : Int) (s : ByteArray) (k : Nat) (h : k < s.size) :
    numGo base n (s.data.toList.drop k) = if 4611686018427387904 / base < n then 4611686018427387905 else numGo base (n * base + digI (s[k].toNat : Int)) (s.data.toList.drop (k + 1)) := by
  have e : s.data.toList.drop k = s[k] :: s.data.toList.drop (k + 1) := by
    rw [List.drop_eq_getElem_cons (by simpa using h)]; rfl
  rw [e, numGo]

/-! Plain facts: both ways of reading digits say the same number, or both say that it is too great. -/
def valGo (base n : Int) : List UInt8 → Int
  | [] => n
  | c :: r => valGo base (n * base + digI c.toNat) r
def clip (v : Int) : Int := if v ≤ 4611686018427387905 then v else 4611686018427387905
theorem clip_step {base v d : Int} (hb : 2 ≤ base ∧ base ≤ 16) (hv : 0 ≤ v) (hd : 0 ≤ d ∧ d ≤ 16) : stepI base (clip v) d = clip (v * base + d) := by
  have hb0 : 0 < base := by omega
  by_cases h : v ≤ 4611686018427387905
  · have e : clip v = v := by simp [clip, h]
    rw [e]
    unfold stepI
    have iff := @Int.le_ediv_iff_mul_le v (4611686018427387904 - d) base hb0
    by_cases g : v ≤ (4611686018427387904 - d) / base
    · have := iff.mp g
      rw [if_neg (by omega)]; unfold clip; rw [if_pos (by omega)]
    · have : ¬ v * base ≤ 4611686018427387904 - d := fun x => g (iff.mpr x)
      rw [if_pos (by omega)]; unfold clip; split <;> omega
  · have e : clip v = 4611686018427387905 := by simp [clip, h]
    rw [e]
    have h2 : v * 1 ≤ v * base := Int.mul_le_mul_of_nonneg_left (by omega) hv
    have h3 : (4611686018427387904 - d) / base < 4611686018427387905 := by
      have := Int.ediv_le_self base (show 0 ≤ 4611686018427387904 - d by omega)
      omega
    unfold stepI
    rw [if_pos h3]
    unfold clip; split <;> omega
theorem val_nonneg {base : Int} (hb : 2 ≤ base ∧ base ≤ 16) (l : List UInt8) : ∀ n : Int, 0 ≤ n → n ≤ valGo base n l := by
  induction l with
  | nil => intro n _; exact Int.le_refl _
  | cons c r ih =>
    intro n hn
    have hd := digI_bd (c.toNat : Int)
    have h2 : n * 1 ≤ n * base := Int.mul_le_mul_of_nonneg_left (by omega) hn
    have := ih (n * base + digI c.toNat) (by omega)
    show n ≤ valGo base (n * base + digI c.toNat) r
    omega
theorem lead_all {base : Int} (hb : 2 ≤ base ∧ base ≤ 16) (l : List UInt8) : ∀ (v : Int) (i : Nat), 0 ≤ v → digsB base l = true → leadGo base (clip v) i l = (clip (valGo base v l), i + l.length) := by
  induction l with
  | nil => intro v i _ _; rfl
  | cons c r ih =>
    intro v i hv h
    have hd := digI_bd (c.toNat : Int)
    unfold digsB at h
    rw [List.all_cons, Bool.and_eq_true] at h
    have h1 : ¬ base ≤ digI c.toNat := by have := h.1; simp at this; omega
    have h2 := Int.mul_nonneg hv (show 0 ≤ base by omega)
    rw [leadGo, if_neg h1, clip_step hb hv hd, ih _ _ (by omega) h.2, valGo]
    simp only [List.length_cons]
    congr 1
    omega
theorem lead_not {base : Int} (l : List UInt8) : ∀ (v : Int) (i : Nat), digsB base l = false → (leadGo base v i l).2 < i + l.length := by
  induction l with
  | nil => intro v i h; simp [digsB] at h
  | cons c r ih =>
    intro v i h
    rw [leadGo]
    by_cases g : base ≤ digI c.toNat
    · rw [if_pos g]; simp
    · rw [if_neg g]
      have h2 : digsB base r = false := by
        unfold digsB at h
        rw [List.all_cons] at h
        have : decide (digI (c.toNat : Int) < base) = true := by simp; omega
        rw [this] at h
        simpa [digsB] using h
      have := ih (stepI base v (digI c.toNat)) (i + 1) h2
      simp only [List.length_cons]
      omega
theorem num_all {base : Int} (hb : 2 ≤ base ∧ base ≤ 16) (l : List UInt8) : ∀ n : Int, 0 ≤ n → n ≤ 4611686018427387920 → 0 ≤ numGo base n l ∧ numGo base n l ≤ 4611686018427387920 ∧ (numGo base n l = valGo base n l ∨ 4611686018427387905 ≤ numGo base n l ∧ 4611686018427387905 ≤ valGo base n l) := by
  induction l with
  | nil => intro n h1 h2; exact ⟨h1, h2, Or.inl rfl⟩
  | cons c r ih =>
    intro n h1 h2
    have hd := digI_bd (c.toNat : Int)
    rw [numGo, valGo]
    have iff := @Int.le_ediv_iff_mul_le n 4611686018427387904 base (by omega)
    have hm := Int.mul_nonneg h1 (show 0 ≤ base by omega)
    by_cases g : n ≤ 4611686018427387904 / base
    · have := iff.mp g
      rw [if_neg (by omega)]
      exact ih _ (by omega) (by omega)
    · have g2 : ¬ n * base ≤ 4611686018427387904 := fun x => g (iff.mpr x)
      rw [if_pos (by omega)]
      have := val_nonneg hb r (n * base + digI c.toNat) (by omega)
      refine ⟨by omega, by omega, Or.inr ⟨by omega, by omega⟩⟩
theorem same_ans {x y : Int} (h : x = y ∨ 4611686018427387905 ≤ x ∧ 4611686018427387905 ≤ y) (b : Bool) : ansV (sgn x b) = ansV (sgn y b) ∧ ansE (sgn x b) = ansE (sgn y b) := by
  rcases h with rfl | ⟨hx, hy⟩
  · exact ⟨rfl, rfl⟩
  · have h1 : rightB (sgn x b) = false := right_no (by unfold sgn; split <;> omega)
    have h2 : rightB (sgn y b) = false := right_no (by unfold sgn; split <;> omega)
    rw [ansV_no h1, ansV_no h2, ansE_no h1, ansE_no h2]
    exact ⟨rfl, rfl⟩
/-- The number of digits of a base, with a sign: what is told, and the error. -/
def numV (base : Int) (l : List UInt8) (below : Bool) : Int := ansV (sgn (numGo base 0 l) below)
def numE (base : Int) (l : List UInt8) (below : Bool) : Int := ansE (sgn (numGo base 0 l) below)
theorem lead_num {base : Int} (hb : 2 ≤ base ∧ base ≤ 16) (l : List UInt8) (b : Bool) (h : digsB base l = true) :
    (leadGo base 0 0 l).2 = l.length ∧ (0 ≤ (leadGo base 0 0 l).1 ∧ (leadGo base 0 0 l).1 ≤ 4611686018427387905) ∧ ansV (sgn (leadGo base 0 0 l).1 b) = numV base l b ∧ ansE (sgn (leadGo base 0 0 l).1 b) = numE base l b := by
  have e := lead_all hb l 0 0 (by omega) h
  have c0 : clip 0 = 0 := by decide
  rw [c0] at e
  have hv := val_nonneg hb l 0 (by omega)
  have hn := num_all hb l 0 (by omega) (by omega)
  rw [e]
  have hs := @same_ans (clip (valGo base 0 l)) (numGo base 0 l) (by unfold clip; split <;> omega) b
  exact ⟨by simp, by show 0 ≤ clip _ ∧ clip _ ≤ _; unfold clip; split <;> omega, hs.1, hs.2⟩
end Go.Proofs.YtjlogbpnehbbbabDoor
