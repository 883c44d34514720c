/- The tokens of a text, on lists of bytes: what stands at its beginning, and all of them with their places. No program is named here. -/
import Derived.WalkKit
import Derived.ProofKit
import Derived.Test.YtbcmpacmoofdkaaGreatDoorStrM
namespace Go.Proofs.YtbcmpacmoofdkaaGreatDoor

def aloneB (c : UInt8) : Bool := ([41, 91, 93, 123, 125, 44, 59, 95] : List UInt8).contains c
/-- The kinds of a byte, a bit each. -/
def kindsN (c : UInt8) : Nat :=
  if lblankB c then 1 else if digitB c then 28 else if letterB c then (if hexB c then 26 else 18) else if signB c then 32
  else if c = 40 then 64 else if c = 95 then 144 else if aloneB c then 128 else if c = 46 then 256 else if c = 39 then 528 else if c = 34 then 1024 else 0
def isK (k : Nat) (c : UInt8) : Bool := kindsN c &&& k != 0
theorem kinds_all : ∀ n : Fin 256, isK 1 (UInt8.ofFin n) = lblankB (UInt8.ofFin n) ∧ isK 2 (UInt8.ofFin n) = letterB (UInt8.ofFin n) ∧ isK 4 (UInt8.ofFin n) = digitB (UInt8.ofFin n) ∧ isK 8 (UInt8.ofFin n) = hexB (UInt8.ofFin n) ∧ isK 16 (UInt8.ofFin n) = wordB (UInt8.ofFin n) ∧ isK 32 (UInt8.ofFin n) = signB (UInt8.ofFin n)
    ∧ isK 64 (UInt8.ofFin n) = decide (UInt8.ofFin n = 40) ∧ isK 128 (UInt8.ofFin n) = aloneB (UInt8.ofFin n) ∧ isK 256 (UInt8.ofFin n) = decide (UInt8.ofFin n = 46) ∧ isK 512 (UInt8.ofFin n) = decide (UInt8.ofFin n = 39) ∧ isK 1024 (UInt8.ofFin n) = decide (UInt8.ofFin n = 34) := by decide +kernel
theorem isK_blank : isK 1 = lblankB := funext fun c => (kinds_all c.toFin).1
theorem isK_letter : isK 2 = letterB := funext fun c => (kinds_all c.toFin).2.1
theorem isK_digit : isK 4 = digitB := funext fun c => (kinds_all c.toFin).2.2.1
theorem isK_hex : isK 8 = hexB := funext fun c => (kinds_all c.toFin).2.2.2.1
theorem isK_word : isK 16 = wordB := funext fun c => (kinds_all c.toFin).2.2.2.2.1
theorem isK_sign : isK 32 = signB := funext fun c => (kinds_all c.toFin).2.2.2.2.2.1
theorem isK_open : isK 64 = fun c => decide (c = 40) := funext fun c => (kinds_all c.toFin).2.2.2.2.2.2.1
theorem isK_alone : isK 128 = aloneB := funext fun c => (kinds_all c.toFin).2.2.2.2.2.2.2.1
theorem isK_point : isK 256 = fun c => decide (c = 46) := funext fun c => (kinds_all c.toFin).2.2.2.2.2.2.2.2.1
theorem isK_prime : isK 512 = fun c => decide (c = 39) := funext fun c => (kinds_all c.toFin).2.2.2.2.2.2.2.2.2.1
theorem isK_quote : isK 1024 = fun c => decide (c = 34) := funext fun c => (kinds_all c.toFin).2.2.2.2.2.2.2.2.2.2

/-- Is there a first byte of a kind? -/
def begP (P : UInt8 → Bool) : List UInt8 → Bool
  | [] => false
  | c :: _ => P c
/-- How many bytes of a kind stand ahead. -/
def runP (P : UInt8 → Bool) (l : List UInt8) : Nat := (l.takeWhile P).length
/-- How many bytes a prefix and the bytes of a kind behind it have; 0: it does not begin so. -/
def preN (p : List UInt8) (P : UInt8 → Bool) (l : List UInt8) : Nat := if p.isPrefixOf l && begP P (l.drop p.length) then p.length + runP P (l.drop p.length) else 0
def tildeN (l : List UInt8) : Nat := if ([126] : List UInt8).isPrefixOf l then 1 else 0
def expN (l : List UInt8) : Nat :=
  if 0 < preN [69] digitB l then preN [69] digitB l else if 0 < preN [101] digitB l then preN [101] digitB l
  else if 0 < preN [69, 126] digitB l then preN [69, 126] digitB l else preN [101, 126] digitB l
def partN (l : List UInt8) : Nat := preN [46] digitB l + expN (l.drop (preN [46] digitB l))
def meas2 (l : List UInt8) (d : Nat) : Nat × Nat := if 0 < partN (l.drop d) then (5, d + partN (l.drop d)) else (4, d)
/-- The kind of the number ahead, and how many bytes it has. -/
def measN (l : List UInt8) : Nat × Nat :=
  if 0 < preN [48, 120] hexB (l.drop (tildeN l)) then (4, tildeN l + preN [48, 120] hexB (l.drop (tildeN l)))
  else meas2 l (tildeN l + runP digitB (l.drop (tildeN l)))

/-- What is read: a fault, or a token's kind (0: it says nothing), text and path, and how many bytes it has. -/
inductive Rd where
  | bad (e : Nat)
  | got (k : Nat) (t : List UInt8) (p : List (List UInt8)) (n : Nat)
def numR (l : List UInt8) : Rd := if begP wordB (l.drop (measN l).2) then .bad 43 else if 4096 < (measN l).2 then .bad 2 else .got (measN l).1 (l.take (measN l).2) [] (measN l).2

/-- What a string says from a place in it on, behind what is there, and the place behind it; none: it is none. -/
def quoF : Nat → Nat → List UInt8 → List UInt8 → Option (List UInt8 × Nat)
  | 0, _, _, _ => none
  | _ + 1, _, _, [] => none
  | f + 1, i, acc, c :: r => if c.toNat = 34 then some (acc, i + 1) else if stepN (c :: r) = 0 then none else quoF f (i + stepN (c :: r)) (acc ++ stepO (c :: r)) ((c :: r).drop (stepN (c :: r)))
def quoN (l : List UInt8) : Option (List UInt8 × Nat) := quoF l.length 1 [] (l.drop 1)
def strR (l : List UInt8) : Rd := match quoN l with
  | none => .bad 42
  | some (t, n) => if 65536 < t.length then .bad 2 else .got 6 t [] n
def chrR (l : List UInt8) : Rd := match quoN (l.drop 1) with
  | none => .bad 42
  | some (t, n) => if t.length = 1 then .got 7 t [] (1 + n) else .bad 42

/-- How many bytes a comment has, from a place in it on; 0: it does not end. -/
def comG : Nat → Nat → Int → List UInt8 → Nat
  | f + 1, i, o, a :: b :: r =>
    if a.toNat = 40 ∧ b.toNat = 42 then (if o + 1 = 0 then i + 2 else comG f (i + 2) (o + 1) r)
    else if a.toNat = 42 ∧ b.toNat = 41 then (if o - 1 = 0 then i + 2 else comG f (i + 2) (o - 1) r)
    else comG f (i + 1) o (b :: r)
  | _, _, _, _ => 0
def comL (l : List UInt8) : Nat := comG l.length 0 0 l
def cutR (k : Nat) (l : List UInt8) (n : Nat) : Rd := .got k (l.take n) [] n
def parR (l : List UInt8) : Rd := if ([40, 42] : List UInt8).isPrefixOf l then (if comL l = 0 then .bad 41 else .got 0 [] [] (comL l)) else cutR 1 l 1
def poiR (l : List UInt8) : Rd := if ([46, 46, 46] : List UInt8).isPrefixOf l then cutR 1 l 3 else .bad 40

/-- How many bytes the name ahead has. -/
def nameN (l : List UInt8) : Nat := if begP letterB l then runP wordB l else runP signB l
/-- A long name's parts from one on, behind those of the path, which end at place n. -/
def longF : Nat → List (List UInt8) → Nat → List UInt8 → Rd
  | 0, _, _, _ => .bad 44
  | f + 1, p, n, l =>
    if begP letterB l && begP (fun c => decide (c = 46)) (l.drop (nameN l)) then
      (if nameN (l.drop (nameN l + 1)) = 0 ∨ resL ((l.drop (nameN l + 1)).take (nameN (l.drop (nameN l + 1)))) = true then .bad 44
       else longF f (p ++ [l.take (nameN l)]) (n + (nameN l + 1)) (l.drop (nameN l + 1)))
    else .got 2 (l.take (nameN l)) p (n + nameN l)
def wordR (l : List UInt8) : Rd := if resL (l.take (nameN l)) then cutR 1 l (nameN l) else longF (l.length + 1) [] 0 l
def sigR (l : List UInt8) : Rd :=
  if l.head? = some 126 ∧ begP digitB (l.drop 1) = true then numR l
  else if l.head? = some 35 ∧ begP (fun c => decide (c = 34)) (l.drop 1) = true then chrR l
  else if resL (l.take (runP signB l)) then cutR 1 l (runP signB l) else cutR 2 l (runP signB l)
/-- What a text begins with. -/
def rdL (l : List UInt8) : Rd :=
  if begP lblankB l then .got 0 [] [] (runP lblankB l) else if begP letterB l then wordR l else if begP digitB l then numR l else if begP signB l then sigR l
  else if begP (fun c => decide (c = 40)) l then parR l else if begP aloneB l then cutR 1 l 1 else if begP (fun c => decide (c = 46)) l then poiR l
  else if begP (fun c => decide (c = 39)) l then cutR 3 l (runP wordB l) else if begP (fun c => decide (c = 34)) l then strR l else .bad 40

structure Tok where
  kind : Nat
  text : List UInt8
  path : List (List UInt8)
  line : Nat
  column : Nat
/-- The place behind a byte. -/
def stepP (p : Nat × Nat) (c : UInt8) : Nat × Nat := if c.toNat = 10 then (p.1 + 1, 1) else (p.1, p.2 + 1)
def placeL (p : Nat × Nat) (l : List UInt8) : Nat × Nat := l.foldl stepP p
/-- The tokens of a text from a place on, and its fault. -/
def scanF : Nat → Nat × Nat → List UInt8 → List Tok × Option (Nat × Nat × Nat)
  | 0, _, _ => ([], none)
  | _ + 1, _, [] => ([], none)
  | f + 1, p, c :: r => match rdL (c :: r) with
    | .bad e => ([], some (p.1, p.2, e))
    | .got k t q n =>
      (if k = 0 then (scanF f (placeL p ((c :: r).take n)) ((c :: r).drop n)).1 else ⟨k, t, q, p.1, p.2⟩ :: (scanF f (placeL p ((c :: r).take n)) ((c :: r).drop n)).1, (scanF f (placeL p ((c :: r).take n)) ((c :: r).drop n)).2)
def scanP (p : Nat × Nat) (l : List UInt8) : List Tok × Option (Nat × Nat × Nat) := scanF l.length p l
/-- Tokens, line, column, fault. -/
def scanL (l : List UInt8) : List Tok × Nat × Nat × Nat :=
  if 1048576 < l.length then ([], 0, 0, 2) else match (scanP (1, 1) l).2 with
    | none => ((scanP (1, 1) l).1, 0, 0, 0)
    | some (x, y, e) => ([], x, y, e)

/-- A token as it would be written. -/
def spellL (k : Nat) (t : List UInt8) (p : List (List UInt8)) : List UInt8 :=
  if k = 7 then 35 :: 34 :: quotL t ++ [34] else if k = 6 then 34 :: quotL t ++ [34] else p.flatMap (· ++ [46]) ++ t
def alike (a b : Tok) : Bool := a.kind == b.kind && a.text == b.text && a.path == b.path

theorem scan_awake : scanL [118, 97, 108, 32, 120, 61, 32, 126, 53, 40, 42, 97, 42, 41, 65, 46, 98] = ([⟨1, [118, 97, 108], [], 1, 1⟩, ⟨2, [120], [], 1, 5⟩, ⟨1, [61], [], 1, 6⟩, ⟨4, [126, 53], [], 1, 8⟩, ⟨2, [98], [[65]], 1, 15⟩], 0, 0, 0) := by kernel_rfl
end Go.Proofs.YtbcmpacmoofdkaaGreatDoor
/- Tokens of a text, on lists of bytes: each has a byte at least and no more than there are; a step of the scan. No program is named here. -/
namespace Go.Proofs.YtbcmpacmoofdkaaGreatDoor

theorem runP_le (P : UInt8 → Bool) (l : List UInt8) : runP P l ≤ l.length := List.Sublist.length_le (List.takeWhile_sublist P)
theorem runP_pos {P : UInt8 → Bool} {l : List UInt8} (h : begP P l = true) : 1 ≤ runP P l := by
  cases l with
  | nil => cases h
  | cons c r => unfold runP; rw [List.takeWhile_cons, if_pos (show P c = true from h)]; simp
theorem runP_zero {P : UInt8 → Bool} {l : List UInt8} (h : begP P l = false) : runP P l = 0 := by
  cases l with
  | nil => rfl
  | cons c r => unfold runP; rw [List.takeWhile_cons, if_neg (by rw [show P c = false from h]; decide)]; rfl
theorem begP_len {P : UInt8 → Bool} {l : List UInt8} (h : begP P l = true) : 1 ≤ l.length := by
  cases l with
  | nil => cases h
  | cons c r => simp
theorem preN_le (p : List UInt8) (P : UInt8 → Bool) (l : List UInt8) : preN p P l ≤ l.length := by
  unfold preN
  split
  · rename_i h
    rw [Bool.and_eq_true] at h
    have h1 := (List.isPrefixOf_iff_prefix.1 h.1).length_le
    have h2 := runP_le P (l.drop p.length)
    rw [List.length_drop] at h2
    omega
  · exact Nat.zero_le _
theorem tildeN_le (l : List UInt8) : tildeN l ≤ l.length := by
  unfold tildeN
  split
  · rename_i h
    have := (List.isPrefixOf_iff_prefix.1 h).length_le
    simpa using this
  · exact Nat.zero_le _
theorem expN_le (l : List UInt8) : expN l ≤ l.length := by
  unfold expN
  repeat' split
  all_goals exact preN_le _ _ _
theorem partN_le (l : List UInt8) : partN l ≤ l.length := by
  unfold partN
  have h1 := preN_le [46] digitB l
  have h2 := expN_le (l.drop (preN [46] digitB l))
  rw [List.length_drop] at h2
  omega
theorem meas2_le (l : List UInt8) (d : Nat) (h : d ≤ l.length) : (meas2 l d).2 ≤ l.length ∧ d ≤ (meas2 l d).2 := by
  unfold meas2
  have h2 := partN_le (l.drop d)
  rw [List.length_drop] at h2
  split
  · show d + partN (l.drop d) ≤ _ ∧ d ≤ d + partN (l.drop d); omega
  · exact ⟨h, Nat.le_refl _⟩
theorem measN_le (l : List UInt8) : (measN l).2 ≤ l.length := by
  unfold measN
  have h1 := tildeN_le l
  have h2 := preN_le [48, 120] hexB (l.drop (tildeN l))
  have h3 := runP_le digitB (l.drop (tildeN l))
  rw [List.length_drop] at h2 h3
  split
  · show tildeN l + preN [48, 120] hexB (l.drop (tildeN l)) ≤ _; omega
  · exact (meas2_le l _ (by omega)).1
theorem measN_pos {l : List UInt8} (h : begP digitB (l.drop (tildeN l)) = true) : 1 ≤ (measN l).2 := by
  unfold measN
  have h1 := tildeN_le l
  have h3 := runP_le digitB (l.drop (tildeN l))
  have h4 := runP_pos h
  rw [List.length_drop] at h3
  split
  · rename_i h5; show 1 ≤ tildeN l + preN [48, 120] hexB (l.drop (tildeN l)); omega
  · have := (meas2_le l (tildeN l + runP digitB (l.drop (tildeN l))) (by omega)).2; omega

theorem quoF_le : ∀ (f i : Nat) (acc l t : List UInt8) (n : Nat), quoF f i acc l = some (t, n) → i + 1 ≤ n ∧ n ≤ i + l.length := by
  intro f
  induction f with
  | zero => intro i acc l t n h; cases h
  | succ f ih =>
    intro i acc l t n h
    cases l with
    | nil => cases h
    | cons c r =>
      unfold quoF at h
      split at h
      · cases h; simp
      · split at h
        · cases h
        · have h1 := ih _ _ _ _ _ h
          have h2 := stepN_le (c :: r)
          rw [List.length_drop] at h1
          omega
theorem quoN_le {l t : List UInt8} {n : Nat} (h : quoN l = some (t, n)) : 2 ≤ n ∧ n ≤ l.length := by
  have h1 := quoF_le _ _ _ _ _ _ h
  rw [List.length_drop] at h1
  omega
theorem comG_le : ∀ (f i : Nat) (o : Int) (l : List UInt8), comG f i o l ≤ i + l.length := by
  intro f
  induction f with
  | zero => intro i o l; unfold comG; exact Nat.zero_le _
  | succ f ih =>
    intro i o l
    match l with
    | [] => exact Nat.zero_le _
    | [_] => exact Nat.zero_le _
    | a :: b :: r =>
      unfold comG
      have h1 := ih (i + 2) (o + 1) r
      have h2 := ih (i + 2) (o - 1) r
      have h3 := ih (i + 1) o (b :: r)
      simp only [List.length_cons] at h3 ⊢
      repeat' split
      all_goals omega
theorem comL_le (l : List UInt8) : comL l ≤ l.length := by have := comG_le l.length 0 0 l; unfold comL; omega
theorem nameN_le (l : List UInt8) : nameN l ≤ l.length := by
  unfold nameN
  split <;> exact runP_le _ _
theorem longF_le : ∀ (f : Nat) (p : List (List UInt8)) (m : Nat) (l : List UInt8) (k : Nat) (t : List UInt8) (q : List (List UInt8)) (n : Nat), longF f p m l = .got k t q n → k = 2 ∧ m + nameN l ≤ n ∧ n ≤ m + l.length := by
  intro f
  induction f with
  | zero => intro p m l k t q n h; cases h
  | succ f ih =>
    intro p m l k t q n h
    unfold longF at h
    split at h
    · split at h
      · cases h
      · have h1 := ih _ _ _ _ _ _ _ h
        rename_i h3 h4
        rw [Bool.and_eq_true] at h3
        have h2 := begP_len h3.2
        rw [List.length_drop] at h1 h2
        omega
    · cases h
      have := nameN_le l
      omega
/-- A token has a byte at least, and no more than there are. -/
theorem rdL_le {l : List UInt8} {k : Nat} {t : List UInt8} {q : List (List UInt8)} {n : Nat} (h : rdL l = .got k t q n) : 1 ≤ n ∧ n ≤ l.length := by
  have num : numR l = .got k t q n → begP digitB (l.drop (tildeN l)) = true → 1 ≤ n ∧ n ≤ l.length := by
    intro h g
    unfold numR at h
    split at h
    · cases h
    · split at h
      · cases h
      · cases h; exact ⟨measN_pos g, measN_le l⟩
  unfold rdL at h
  split at h
  · rename_i g; cases h; exact ⟨runP_pos g, runP_le _ _⟩
  split at h
  · rename_i g
    have hp : 1 ≤ nameN l := by unfold nameN; rw [if_pos g]; refine runP_pos ?_; cases l with
      | nil => cases g
      | cons c r => show wordB c = true; unfold wordB; rw [show letterB c = true from g]; rfl
    unfold wordR at h
    split at h
    · cases h; exact ⟨hp, nameN_le l⟩
    · have := longF_le _ _ _ _ _ _ _ _ h; omega
  split at h
  · rename_i g
    refine num h ?_
    have e : tildeN l = 0 := by
      cases l with
      | nil => rfl
      | cons c r =>
        unfold tildeN
        rw [if_neg]
        intro x
        rw [List.isPrefixOf_cons_cons, Bool.and_eq_true] at x
        have : (126 : UInt8) = c := eq_of_beq x.1
        subst this
        exact absurd (show digitB 126 = true from g) (by decide)
    rw [e]; exact g
  split at h
  · rename_i g
    unfold sigR at h
    split at h
    · rename_i g2
      refine num h ?_
      cases l with
      | nil => cases g
      | cons c r =>
        have : c = 126 := by simpa using g2.1
        subst this
        exact g2.2
    split at h
    · unfold chrR at h
      split at h
      · cases h
      · rename_i t' n' e
        have := quoN_le e
        rw [List.length_drop] at this
        split at h
        · cases h; omega
        · cases h
    split at h
    · cases h; exact ⟨runP_pos g, runP_le _ _⟩
    · cases h; exact ⟨runP_pos g, runP_le _ _⟩
  split at h
  · rename_i g
    unfold parR at h
    split at h
    · split at h
      · cases h
      · cases h; have := comL_le l; omega
    · cases h; exact ⟨Nat.le_refl _, begP_len g⟩
  split at h
  · rename_i g; cases h; exact ⟨Nat.le_refl _, begP_len g⟩
  split at h
  · unfold poiR at h
    split at h
    · rename_i g; cases h; have := (List.isPrefixOf_iff_prefix.1 g).length_le; simp at this; omega
    · cases h
  split at h
  · rename_i g
    cases h
    refine ⟨runP_pos ?_, runP_le _ _⟩
    cases l with
    | nil => cases g
    | cons c r => have : c = 39 := of_decide_eq_true g; subst this; rfl
  split at h
  · unfold strR at h
    split at h
    · cases h
    · rename_i t' n' e
      have := quoN_le e
      split at h
      · cases h
      · cases h; omega
  · cases h

theorem scanF_fuel : ∀ (f g : Nat) (p : Nat × Nat) (l : List UInt8), l.length ≤ f → l.length ≤ g → scanF f p l = scanF g p l := by
  intro f
  induction f with
  | zero => intro g p l h h2; obtain rfl : l = [] := List.eq_nil_of_length_eq_zero (by omega); cases g <;> rfl
  | succ f ih =>
    intro g p l h h2
    cases l with
    | nil => cases g <;> rfl
    | cons c r =>
      cases g with
      | zero => simp at h2
      | succ g =>
        unfold scanF
        cases e : rdL (c :: r) with
        | bad e => rfl
        | got k t q n =>
          have hn := rdL_le e
          have hd : ((c :: r).drop n).length = (c :: r).length - n := List.length_drop
          simp only [List.length_cons] at h h2 hd hn
          have e2 := ih g (placeL p ((c :: r).take n)) ((c :: r).drop n) (by omega) (by omega)
          simp only [e2]
theorem scanP_nil (p : Nat × Nat) : scanP p [] = ([], none) := rfl
theorem scanP_bad {p : Nat × Nat} {l : List UInt8} {e : Nat} (h0 : l ≠ []) (h : rdL l = .bad e) : scanP p l = ([], some (p.1, p.2, e)) := by
  cases l with
  | nil => exact absurd rfl h0
  | cons c r => unfold scanP; rw [List.length_cons]; unfold scanF; rw [h]
theorem scanP_got {p : Nat × Nat} {l : List UInt8} {k : Nat} {t : List UInt8} {q : List (List UInt8)} {n : Nat} (h : rdL l = .got k t q n) :
    scanP p l = (if k = 0 then (scanP (placeL p (l.take n)) (l.drop n)).1 else ⟨k, t, q, p.1, p.2⟩ :: (scanP (placeL p (l.take n)) (l.drop n)).1, (scanP (placeL p (l.take n)) (l.drop n)).2) := by
  have hn := rdL_le h
  cases l with
  | nil => simp at hn; omega
  | cons c r =>
    have hd : ((c :: r).drop n).length = (c :: r).length - n := List.length_drop
    simp only [List.length_cons] at hd hn
    conv => lhs; unfold scanP; rw [List.length_cons]; unfold scanF; rw [h]
    show _ = _
    unfold scanP
    have e2 := scanF_fuel r.length ((c :: r).drop n).length (placeL p ((c :: r).take n)) ((c :: r).drop n) (by omega) (by omega)
    simp only [e2]
theorem placeL_app (p : Nat × Nat) (a b : List UInt8) : placeL p (a ++ b) = placeL (placeL p a) b := List.foldl_append ..
end Go.Proofs.YtbcmpacmoofdkaaGreatDoor
