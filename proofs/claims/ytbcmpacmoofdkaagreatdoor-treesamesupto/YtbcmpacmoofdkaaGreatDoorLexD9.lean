/- The program's scanner: strings and characters. -/
import Derived.Test.YtbcmpacmoofdkaaGreatDoorProg
import Derived.Test.YtbcmpacmoofdkaaGreatDoorLexD8
import Derived.Test.YtbcmpacmoofdkaaGreatDoorLexS13
import Derived.Test.YtbcmpacmoofdkaaGreatDoorShelf
import Derived.WalkKit
import Derived.ProofKit
import Derived.OpenShut
import Derived.Below
import Derived.WalkLawsBesides
import Derived.OwnWalk
import Derived.Laws.IdiomStrings
import Derived.Laws.OwnMore
import Derived.BigQuiet
import Derived.Lib.IndexBytes
import Derived.Deep.MidRow
namespace Go.Proofs.YtbcmpacmoofdkaaGreatDoor
open Go.ChangeShapes Go.WideShapes Go.ChangeAt Go.RowKit

theorem escP_bd (l : List UInt8) : (escP l).1 ≤ 255 ∧ -1 ≤ (escP l).1 := by
  have np : ∀ l n b, -1 ≤ numP l n b ∧ numP l n b ≤ 255 := by
    intro l n b
    unfold numP
    split
    · omega
    · split
      · omega
      · split <;> omega
  cases l with
  | nil => exact ⟨by decide, by decide⟩
  | cons c r =>
    have hc := c.toNat_lt
    have h1 := np r 4 16
    have h2 := np (c :: r) 3 10
    simp only [escP]
    by_cases k0 : c.toNat = 97 ∨ c.toNat = 98 ∨ c.toNat = 116 ∨ c.toNat = 110 ∨ c.toNat = 118 ∨ c.toNat = 102 ∨ c.toNat = 114
    · rcases k0 with h | h | h | h | h | h | h <;> simp [h]
    · simp only [not_or] at k0
      obtain ⟨a1, a2, a3, a4, a5, a6, a7⟩ := k0
      simp only [a1, a2, a3, a4, a5, a6, a7, if_false]
      split
      · constructor <;> (simp only []; omega)
      · split
        · cases r with
          | nil => exact ⟨by decide, by decide⟩
          | cons d u => simp only []; split <;> (constructor <;> (simp only []; omega))
        · split
          · split <;> (constructor <;> (simp only []; omega))
          · split
            · split <;> (constructor <;> (simp only []; omega))
            · split <;> (constructor <;> (simp only []; omega))

/-- What is in a string says ahead, and how many bytes that has. -/
def oneP : List UInt8 → Int × Nat
  | [] => (-1, 0)
  | c :: r => if c.toNat < 32 ∨ 126 < c.toNat then (-1, 0) else if c.toNat ≠ 92 then ((c.toNat : Int), 1) else if (escP r).2 = 0 then (-1, 0) else ((escP r).1, 1 + (escP r).2)
theorem stepN_cons (c : UInt8) (r : List UInt8) : stepN (c :: r) = if plainB c then 1 else if c.toNat = 92 then (if (escP r).2 = 0 then 0 else 1 + (escP r).2) else 0 := rfl
theorem stepO_cons (c : UInt8) (r : List UInt8) : stepO (c :: r) = if plainB c then [c] else if c.toNat = 92 then (if (escP r).2 = 0 then [] else if (escP r).1 < 0 then [] else [(escP r).1.toNat.toUInt8]) else [] := rfl
theorem oneP_cons (c : UInt8) (r : List UInt8) : oneP (c :: r) = if c.toNat < 32 ∨ 126 < c.toNat then (-1, 0) else if c.toNat ≠ 92 then ((c.toNat : Int), 1) else if (escP r).2 = 0 then (-1, 0) else ((escP r).1, 1 + (escP r).2) := rfl
theorem oneP_step (c : UInt8) (r : List UInt8) (h : c.toNat ≠ 34) : stepN (c :: r) = (oneP (c :: r)).2 ∧ stepO (c :: r) = (if (oneP (c :: r)).2 = 0 then [] else if (oneP (c :: r)).1 < 0 then [] else [(oneP (c :: r)).1.toNat.toUInt8]) := by
  rw [stepN_cons, stepO_cons, oneP_cons]
  by_cases h1 : c.toNat < 32 ∨ 126 < c.toNat
  · have e : plainB c = false := by
      unfold plainB
      rcases h1 with h1 | h1
      · rw [decide_eq_false (show ¬ 32 ≤ c.toNat by omega)]; rfl
      · rw [decide_eq_false (show ¬ c.toNat ≤ 126 by omega)]; simp
    have h92 : ¬ c.toNat = 92 := by omega
    simp only [if_pos h1, e, h92, if_false, Bool.false_eq_true]
    exact ⟨trivial, rfl⟩
  · by_cases h2 : c.toNat = 92
    · have e : plainB c = false := by unfold plainB; rw [decide_eq_false (show ¬ c.toNat ≠ 92 by omega)]; simp
      have h3' : ¬ c.toNat ≠ 92 := by omega
      simp only [if_neg h1, e, if_pos h2, if_neg h3', Bool.false_eq_true, if_false]
      by_cases h3 : (escP r).2 = 0
      · simp only [if_pos h3]; exact ⟨trivial, rfl⟩
      · simp only [if_neg h3]
        have h4 : ¬ 1 + (escP r).2 = 0 := by omega
        simp only [if_neg h4]
        exact ⟨trivial, trivial⟩
    · have e : plainB c = true := by
        unfold plainB
        rw [decide_eq_true (show 32 ≤ c.toNat by omega), decide_eq_true (show c.toNat ≤ 126 by omega), decide_eq_true h, decide_eq_true h2]; rfl
      have h3' : c.toNat ≠ 92 := h2
      simp only [if_neg h1, e, if_pos h3', if_true]
      refine ⟨trivial, ?_⟩
      rw [if_neg (by decide), if_neg (by omega)]
      simp
theorem oneP_bd (l : List UInt8) : (oneP l).1 ≤ 255 ∧ -1 ≤ (oneP l).1 ∧ (oneP l).2 ≤ l.length := by
  cases l with
  | nil => exact ⟨by decide, by decide, by decide⟩
  | cons c r =>
    have h1 := escP_bd r
    have h2 := escP_le r
    have h3 := c.toNat_lt
    rw [oneP_cons]
    repeat' split
    all_goals (refine ⟨?_, ?_, ?_⟩ <;> simp only [List.length_cons] <;> omega)

set_option maxRecDepth 100000 in
set_option maxHeartbeats 4000000 in
theorem one_any (s : ByteArray) (w : World) (RD : Rdy w) (x : Int) (k : Nat) (hx : oneP s.data.toList = (x, k)) (h0 : 0 < s.size) (hs : s.size ≤ 1073741824) : Calls Tryz.prog 115 #[.string s] w fun e w' => e = .returned (.tuple #[.int .i64 x, .int .i64 (k : Int)]) ∧ Below w.heap.size w w' := by
  have hd : s.data.toList = s[0] :: s.data.toList.drop 1 := by have := drop_at s 0 h0; simpa using this
  rw [hd, oneP_cons] at hx
  obtain ⟨n, hn⟩ : ∃ n, (s[0]'h0).toNat = n := ⟨_, rfl⟩
  rw [hn] at hx
  have hn2 : n < 256 := by rw [← hn]; exact (s[0]'h0).toNat_lt
  by_cases h1 : n < 32 ∨ 126 < n
  · rw [if_pos h1] at hx
    obtain ⟨rfl, rfl⟩ := Prod.mk.inj hx
    clear hx hd
    rcases h1 with h1 | h1
    all_goals
      go_enter Tryz.func115, Tryz.ntmps115
      go_wp2
      go_ret2
      exact ⟨rfl, Below.refl _ _⟩
  · rw [if_neg h1] at hx
    have ha : ¬ n < 32 := by omega
    have hb : ¬ 126 < n := by omega
    by_cases h2 : n = 92
    · rw [if_neg (by omega)] at hx
      obtain ⟨u, hu⟩ : ∃ u, s.extract 1 s.size = u := ⟨_, rfl⟩
      have hul : s.data.toList.drop 1 = u.data.toList := by rw [← hu]; exact (ext_list s 1).symm
      have hus : u.size = s.size - 1 := sub_size hul.symm
      rw [hul] at hx
      obtain ⟨x2, k2, hxk⟩ : ∃ x k, escP u.data.toList = (x, k) := ⟨_, _, rfl⟩
      have hkl := escP_le u.data.toList
      rw [hxk] at hx hkl
      simp only at hx hkl
      rw [size_list] at hkl
      have CE := hide (fun (W : World) (RR : Rdy W) => escape_one u W RR x2 k2 hxk (by unfold maxLen; omega) (by omega))
      clear hxk hul hd h1
      subst h2
      by_cases hk0 : k2 = 0
      · rw [if_pos hk0] at hx
        obtain ⟨rfl, rfl⟩ := Prod.mk.inj hx
        subst hk0
        clear hx
        go_enter Tryz.func115, Tryz.ntmps115
        go_wp2_with (go_at_call 128; refine (CE.out _ RD).mono ?_; rintro e w1 ⟨rfl, b1⟩)
        go_ret2
        exact ⟨rfl, b1⟩
      · rw [if_neg hk0] at hx
        obtain ⟨rfl, rfl⟩ := Prod.mk.inj hx
        have gk : ((k2 : Int) == 0) = false := by simp; omega
        clear hx hk0
        go_enter Tryz.func115, Tryz.ntmps115
        go_wp2_with (go_at_call 128; refine (CE.out _ RD).mono ?_; rintro e w1 ⟨rfl, b1⟩)
        go_ret2
        exact ⟨by go_num, b1⟩
    · rw [if_pos h2] at hx
      obtain ⟨rfl, rfl⟩ := Prod.mk.inj hx
      have g92 : ((n : Int) != 92) = true := by simp; omega
      clear hx hd h1
      go_enter Tryz.func115, Tryz.ntmps115
      go_wp2
      go_ret2
      exact ⟨rfl, Below.refl _ _⟩

/-- What is said from a place in a string on. -/
def QuoAt (Q : Option (List UInt8 × Nat)) (L : List UInt8) (acc : List UInt8) (i : Nat) : Prop := ∃ f, (L.drop i).length ≤ f ∧ Q = quoF f i acc (L.drop i)
theorem QuoAt.none {Q : Option (List UInt8 × Nat)} {L acc : List UInt8} {i : Nat} (h : QuoAt Q L acc i) (hi : L.length ≤ i) : Q = Option.none := by
  obtain ⟨f, _, hQ⟩ := h
  rw [List.drop_eq_nil_of_le hi] at hQ
  cases f <;> exact hQ
theorem QuoAt.step {Q : Option (List UInt8 × Nat)} {s : ByteArray} {acc : List UInt8} {i : Nat} (h : QuoAt Q s.data.toList acc i) (hi : i < s.size) :
    ((s[i]'hi).toNat = 34 → Q = some (acc, i + 1)) ∧ ((s[i]'hi).toNat ≠ 34 → (oneP (s.data.toList.drop i)).2 = 0 → Q = Option.none)
    ∧ ((s[i]'hi).toNat ≠ 34 → (oneP (s.data.toList.drop i)).2 ≠ 0 → QuoAt Q s.data.toList (acc ++ (if (oneP (s.data.toList.drop i)).1 < 0 then [] else [(oneP (s.data.toList.drop i)).1.toNat.toUInt8])) (i + (oneP (s.data.toList.drop i)).2)) := by
  obtain ⟨f, hf, hQ⟩ := h
  have d1 := drop_at s i hi
  rw [d1] at hf hQ ⊢
  obtain ⟨f, rfl⟩ : ∃ g, f = g + 1 := ⟨f - 1, by simp at hf; omega⟩
  unfold quoF at hQ
  refine ⟨fun x => ?_, fun x y => ?_, fun x y => ?_⟩
  · rw [if_pos x] at hQ; exact hQ
  · rw [if_neg x, if_pos (by rw [(oneP_step _ _ x).1]; exact y)] at hQ; exact hQ
  · have o := oneP_step _ (s.data.toList.drop (i + 1)) x
    rw [if_neg x, if_neg (by rw [o.1]; exact y), o.1, o.2, if_neg y] at hQ
    have hb := (oneP_bd (s[i] :: s.data.toList.drop (i + 1))).2.2
    simp only [List.length_cons] at hf hb
    generalize oneP (s[i] :: s.data.toList.drop (i + 1)) = K at *
    refine ⟨f, ?_, ?_⟩
    · rw [← List.drop_drop, d1, List.length_drop]
      simp only [List.length_cons]
      omega
    · rw [← List.drop_drop, d1]
      exact hQ
end Go.Proofs.YtbcmpacmoofdkaaGreatDoor
