/- Plain facts on scanning: no Go in sight. -/
import Derived.Test.YtjlogbpnehbbbabDoorConst
import Derived.Lib.SlTrimSet
namespace Go.Proofs.YtjlogbpnehbbbabDoor
open Go.ChangeShapes Go.WideShapes Go.ChangeAt Go.RowKit

theorem ret_three {a b c d e f : Int} (h : a = b) (g : c = d) (k : e = f) : Ending.returned (.tuple #[.int .i64 a, .int .i64 c, .int .i64 e]) = .returned (.tuple #[.int .i64 b, .int .i64 d, .int .i64 f]) := by rw [h, g, k]
/-- The decimal digits with which a text begins. -/
def dOf (r : List UInt8) : List UInt8 := r.takeWhile fun c => decide (digI c.toNat < 10)
theorem dOf_digs (r : List UInt8) : digsB 10 (dOf r) = true := by
  unfold digsB dOf
  exact List.all_takeWhile
theorem dOf_cons_yes {c : UInt8} {r : List UInt8} (h : digI c.toNat < 10) : dOf (c :: r) = c :: dOf r := by
  unfold dOf; rw [List.takeWhile_cons, if_pos (by simpa using h)]
theorem dOf_cons_no {c : UInt8} {r : List UInt8} (h : ¬ digI c.toNat < 10) : dOf (c :: r) = [] := by
  unfold dOf; rw [List.takeWhile_cons, if_neg (by simpa using h)]
theorem dOf_le (r : List UInt8) : (dOf r).length ≤ r.length := by
  unfold dOf; exact (List.takeWhile_prefix _).length_le
theorem lead_dOf (r : List UInt8) : ∀ (v : Int) (i : Nat), 0 ≤ v → leadGo 10 (clip v) i r = (clip (valGo 10 v (dOf r)), i + (dOf r).length) := by
  induction r with
  | nil => intro v i _; rfl
  | cons c r ih =>
    intro v i hv
    have hd := digI_bd (c.toNat : Int)
    rw [leadGo]
    by_cases h : digI c.toNat < 10
    · rw [if_neg (by omega), clip_step (by omega) hv hd, ih _ _ (by omega), dOf_cons_yes h, valGo]
      simp only [List.length_cons]
      congr 1
      omega
    · rw [if_pos (by omega), dOf_cons_no h]
      rfl
theorem lead_scan (r : List UInt8) (b : Bool) :
    (leadGo 10 0 0 r).2 = (dOf r).length ∧ (0 ≤ (leadGo 10 0 0 r).1 ∧ (leadGo 10 0 0 r).1 ≤ 4611686018427387905) ∧ ansV (sgn (leadGo 10 0 0 r).1 b) = numV 10 (dOf r) b ∧ ansE (sgn (leadGo 10 0 0 r).1 b) = numE 10 (dOf r) b := by
  have e := lead_dOf r 0 0 (by omega)
  have c0 : clip 0 = 0 := by decide
  rw [c0] at e
  have hv := val_nonneg (base := 10) (by omega) (dOf r) 0 (by omega)
  have hn := num_all (base := 10) (by omega) (dOf r) 0 (by omega) (by omega)
  rw [e]
  have hs := @same_ans (clip (valGo 10 0 (dOf r))) (numGo 10 0 (dOf r)) (by unfold clip; split <;> omega) b
  exact ⟨by simp, by show 0 ≤ clip _ ∧ clip _ ≤ _; unfold clip; split <;> omega, hs.1, hs.2⟩

/-- Is it a blank? -/
def blankI (c : Int) : Bool := decide (9 ≤ c ∧ c ≤ 13 ∨ c = 32)
/-- Behind the blanks. -/
def behind (l : List UInt8) : List UInt8 := l.dropWhile fun c => blankI c.toNat
theorem behind_trim (l : List UInt8) : Lib.trimLeftS l [9, 10, 11, 12, 13, 32] = behind l := by
  unfold Lib.trimLeftS behind
  congr 1
  funext c
  unfold blankI
  rw [Bool.eq_iff_iff]
  simp only [List.contains_cons, List.contains_nil, Bool.or_eq_true, beq_iff_eq, Bool.or_false, decide_eq_true_eq]
  have e : ∀ n : Nat, n < 256 → (c = UInt8.ofNat n ↔ c.toNat = n) := fun n hn => by
    constructor
    · rintro rfl; simp [UInt8.toNat_ofNat', Nat.mod_eq_of_lt hn]
    · intro h; rw [← h]; simp
  have e9 := e 9 (by omega)
  have e10 := e 10 (by omega)
  have e11 := e 11 (by omega)
  have e12 := e 12 (by omega)
  have e13 := e 13 (by omega)
  have e32 := e 32 (by omega)
  simp only [UInt8.reduceOfNat] at e9 e10 e11 e12 e13 e32
  rw [e9, e10, e11, e12, e13, e32]
  omega
theorem behind_le (l : List UInt8) : (behind l).length ≤ l.length := by
  unfold behind; exact (List.dropWhile_suffix _).length_le
theorem behind_yes {c : UInt8} {r : List UInt8} (h : blankI c.toNat = true) : behind (c :: r) = behind r := by
  unfold behind; rw [List.dropWhile_cons, if_pos h]
theorem behind_no {c : UInt8} {r : List UInt8} (h : blankI c.toNat = false) : behind (c :: r) = c :: r := by
  unfold behind; rw [List.dropWhile_cons, if_neg (by rw [h]; simp)]
theorem drop_at (s : ByteArray) (k : Nat) (h : k < s.size) : s.data.toList.drop k = s[k] :: s.data.toList.drop (k + 1) := by
  rw [List.drop_eq_getElem_cons (by simpa using h)]; rfl
theorem drop_end (s : ByteArray) (k : Nat) (h : ¬ k < s.size) : s.data.toList.drop k = [] := List.drop_of_length_le (by simp; omega)
theorem behind_at_yes (s : ByteArray) (k : Nat) (h : k < s.size) (g : blankI (s[k].toNat : Int) = true) : behind (s.data.toList.drop (k + 1)) = behind (s.data.toList.drop k) := by
  rw [drop_at s k h, behind_yes g]
theorem behind_at_no (s : ByteArray) (k : Nat) (h : k < s.size) (g : blankI (s[k].toNat : Int) = false) : behind (s.data.toList.drop k) = s.data.toList.drop k := by
  rw [drop_at s k h, behind_no g]
theorem dOf_at_yes (s : ByteArray) (f k : Nat) (hf : f ≤ k) (h : k < s.size) (g : digI (s[k].toNat : Int) < 10)
    (e : dOf (s.data.toList.drop f) = (s.data.toList.drop f).take (k - f) ++ dOf (s.data.toList.drop k)) : dOf (s.data.toList.drop f) = (s.data.toList.drop f).take (k + 1 - f) ++ dOf (s.data.toList.drop (k + 1)) := by
  have e2 : (s.data.toList.drop f).take (k + 1 - f) = (s.data.toList.drop f).take (k - f) ++ [s[k]] := by
    have hl : k - f < (s.data.toList.drop f).length := by rw [List.length_drop]; have := Lib.size_eq s; omega
    rw [show k + 1 - f = (k - f) + 1 by omega, List.take_succ_eq_append_getElem hl]
    congr 2
    rw [List.getElem_drop]
    have : f + (k - f) = k := by omega
    simp only [this]
    rfl
  rw [e, e2, drop_at s k h, dOf_cons_yes g, List.append_assoc]; rfl
theorem dOf_at_no (s : ByteArray) (f k : Nat) (g : ∀ h : k < s.size, ¬ digI (s[k].toNat : Int) < 10)
    (e : dOf (s.data.toList.drop f) = (s.data.toList.drop f).take (k - f) ++ dOf (s.data.toList.drop k)) : dOf (s.data.toList.drop f) = (s.data.toList.drop f).take (k - f) := by
  by_cases h : k < s.size
  · rw [drop_at s k h, dOf_cons_no (g h), List.append_nil] at e; exact e
  · rw [drop_end s k h] at e; rw [e]; simp [dOf]

/-- How many bytes the sign is, and whether it says below 0. -/
def signN : List UInt8 → Nat
  | [] => 0
  | c :: _ => if (c.toNat : Int) = 126 ∨ (c.toNat : Int) = 45 ∨ (c.toNat : Int) = 43 then 1 else 0
def signB : List UInt8 → Bool
  | [] => false
  | c :: _ => decide ((c.toNat : Int) = 126 ∨ (c.toNat : Int) = 45)
/-- What Scan tells: the number, how many bytes, the error. -/
def scan3 (l : List UInt8) : Int × Nat × Int :=
  if (dOf ((behind l).drop (signN (behind l)))).length = 0 then (0, 0, 12)
  else (numV 10 (dOf ((behind l).drop (signN (behind l)))) (signB (behind l)), l.length - ((behind l).drop (signN (behind l))).length + (dOf ((behind l).drop (signN (behind l)))).length, numE 10 (dOf ((behind l).drop (signN (behind l)))) (signB (behind l)))
theorem scan_at (s : ByteArray) (k f : Nat) (b : Bool) (h1 : s.data.toList.drop k = behind s.data.toList) (h2 : f = k + signN (s.data.toList.drop k)) (h3 : b = signB (s.data.toList.drop k)) (hf : f ≤ s.size) :
    scan3 s.data.toList = if (dOf (s.data.toList.drop f)).length = 0 then (0, 0, 12) else (numV 10 (dOf (s.data.toList.drop f)) b, f + (dOf (s.data.toList.drop f)).length, numE 10 (dOf (s.data.toList.drop f)) b) := by
  have e : (behind s.data.toList).drop (signN (behind s.data.toList)) = s.data.toList.drop f := by
    rw [← h1, List.drop_drop, h2]
  have hl : s.data.toList.length - (s.data.toList.drop f).length = f := by
    rw [List.length_drop]; have := Lib.size_eq s; omega
  unfold scan3
  rw [e, hl, h3, h1]
theorem sign_at (s : ByteArray) (k : Nat) (h : k < s.size) : signN (s.data.toList.drop k) = (if (s[k].toNat : Int) = 126 ∨ (s[k].toNat : Int) = 45 ∨ (s[k].toNat : Int) = 43 then 1 else 0) ∧ signB (s.data.toList.drop k) = decide ((s[k].toNat : Int) = 126 ∨ (s[k].toNat : Int) = 45) := by
  rw [drop_at s k h]; exact ⟨rfl, rfl⟩
theorem sign_end (s : ByteArray) (k : Nat) (h : ¬ k < s.size) : signN (s.data.toList.drop k) = 0 ∧ signB (s.data.toList.drop k) = false := by
  rw [drop_end s k h]; exact ⟨rfl, rfl⟩
theorem digI_lt (c : Int) : digI c < 10 ↔ 48 ≤ c ∧ c ≤ 57 := by unfold digI; split <;> (try split) <;> (try split) <;> omega
end Go.Proofs.YtjlogbpnehbbbabDoor
