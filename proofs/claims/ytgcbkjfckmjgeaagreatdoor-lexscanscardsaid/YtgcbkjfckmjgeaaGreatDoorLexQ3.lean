/- What is joined of tokens is scanned as these tokens: on lists of bytes. -/
import Derived.Test.YtgcbkjfckmjgeaaGreatDoorLexU
import Derived.Test.YtgcbkjfckmjgeaaGreatDoorLexE7
import Derived.Test.YtgcbkjfckmjgeaaGreatDoorLexE8
namespace Go.Proofs.YtgcbkjfckmjgeaaGreatDoor

/-- The same token, wherever it stands. -/
def AlikeT (a : Tok) (b : ITok) : Prop := (a.kind : Int) = b.kind ∧ a.text = b.text ∧ a.path = b.path
def AlikeL : List Tok → List ITok → Prop
  | [], [] => True
  | a :: r, b :: s => AlikeT a b ∧ AlikeL r s
  | _, _ => False
theorem AlikeL.app : ∀ {a : List Tok} {b : List ITok} {c : List Tok} {d : List ITok}, AlikeL a b → AlikeL c d → AlikeL (a ++ c) (b ++ d)
  | [], [], _, _, _, h => h
  | _ :: _, _ :: _, _, _, h, g => ⟨h.1, AlikeL.app h.2 g⟩
  | [], _ :: _, _, _, h, _ => h.elim
  | _ :: _, [], _, _, h, _ => h.elim
/-- Two scans of one text from two places differ in places alone. -/
def Same2 : List Tok → List Tok → Prop
  | [], [] => True
  | a :: r, b :: s => (a.kind = b.kind ∧ a.text = b.text ∧ a.path = b.path) ∧ Same2 r s
  | _, _ => False
theorem Same2.alike : ∀ {a b : List Tok} {c : List ITok}, Same2 a b → AlikeL a c → AlikeL b c
  | [], [], _, _, h => h
  | _ :: _, _ :: _, _ :: _, h, g => ⟨by
      obtain ⟨⟨h1, h2, h3⟩, _⟩ := h
      obtain ⟨⟨g1, g2, g3⟩, _⟩ := g
      exact ⟨by rw [← h1]; exact g1, by rw [← h2]; exact g2, by rw [← h3]; exact g3⟩, Same2.alike h.2 g.2⟩
  | _ :: _, _ :: _, [], _, g => g.elim
  | [], _ :: _, _, h, _ => h.elim
  | _ :: _, [], _, h, _ => h.elim
theorem scanF_place : ∀ (f : Nat) (p q : Nat × Nat) (l : List UInt8), Same2 (scanF f p l).1 (scanF f q l).1 ∧ ((scanF f p l).2 = none → (scanF f q l).2 = none) := by
  intro f
  induction f with
  | zero => intro p q l; exact ⟨trivial, fun _ => rfl⟩
  | succ f ih =>
    intro p q l
    cases l with
    | nil => exact ⟨trivial, fun _ => rfl⟩
    | cons c r =>
      unfold scanF
      cases rdL (c :: r) with
      | bad e => exact ⟨trivial, fun h => by cases h⟩
      | got k t q' n =>
        have i := ih (placeL p ((c :: r).take n)) (placeL q ((c :: r).take n)) ((c :: r).drop n)
        refine ⟨?_, i.2⟩
        simp only
        by_cases k0 : k = 0
        · rw [if_pos k0, if_pos k0]; exact i.1
        · rw [if_neg k0, if_neg k0]; exact ⟨⟨rfl, rfl, rfl⟩, i.1⟩
theorem scanP_place (p q : Nat × Nat) (l : List UInt8) : Same2 (scanP p l).1 (scanP q l).1 ∧ ((scanP p l).2 = none → (scanP q l).2 = none) := scanF_place _ p q l

theorem scanL_ok {l : List UInt8} {ts : List Tok} {x y : Nat} (h : scanL l = (ts, x, y, 0)) : (scanP (1, 1) l).2 = none ∧ (scanP (1, 1) l).1 = ts ∧ l.length ≤ 1048576 := by
  by_cases hl : 1048576 < l.length
  · unfold scanL at h; rw [if_pos hl] at h; simp at h
  · have F := scanL_of hl rfl
    cases hs : (scanP (1, 1) l).2 with
    | none =>
      rw [F.1 hs] at h
      simp only [Prod.mk.injEq] at h
      exact ⟨rfl, h.1, by omega⟩
    | some q =>
      obtain ⟨a, b, e⟩ := q
      rw [F.2 a b e hs] at h
      simp only [Prod.mk.injEq] at h
      obtain ⟨_, _, _, rfl⟩ := h
      exfalso
      have : ∀ (f : Nat) (p : Nat × Nat) (l : List UInt8) (a b : Nat), (scanF f p l).2 ≠ some (a, b, 0) := by
        intro f
        induction f with
        | zero => intro p l a b h; cases h
        | succ f ih =>
          intro p l a b h
          cases l with
          | nil => cases h
          | cons c r =>
            unfold scanF at h
            cases hr : rdL (c :: r) with
            | bad e =>
              rw [hr] at h
              simp only [Option.some.injEq, Prod.mk.injEq] at h
              have := rdL_err hr
              omega
            | got k t q n =>
              rw [hr] at h
              exact ih _ _ _ _ h
      exact this _ _ _ _ _ hs
theorem scanL_eq {l : List UInt8} {ts : List Tok} (h : scanP (1, 1) l = (ts, none)) (hl : l.length ≤ 1048576) : scanL l = (ts, 0, 0, 0) := by
  have := (scanL_of (L := l) (by omega) h).1 rfl
  exact this

/-- What a token that is written is scanned as. -/
theorem write_scan {k : Int} {t : List UInt8} {p : List (List UInt8)} {x : List UInt8} (h : writeL k t p = (x, 0)) : (scanP (1, 1) x).2 = none ∧ AlikeL (scanP (1, 1) x).1 [⟨k, t, p, 0, 0⟩] ∧ x.length ≤ 1048576 := by
  unfold writeL at h
  split at h
  · rename_i ho
    obtain ⟨rfl, _⟩ := Prod.mk.inj h
    unfold okW at ho
    rw [Bool.and_eq_true, Bool.and_eq_true] at ho
    obtain ⟨_, h0, h1⟩ := ho
    obtain ⟨ts, a, b, e, hS⟩ : ∃ ts a b e, scanL (spellI k t p) = (ts, a, b, e) := ⟨_, _, _, _, rfl⟩
    rw [hS] at h0 h1
    obtain rfl : e = 0 := by simpa using h0
    obtain ⟨g1, g2, g3⟩ := scanL_ok hS
    refine ⟨g1, ?_, g3⟩
    rw [g2]
    match ts, h1 with
    | [a], h1 =>
      simp only [oneTok, Bool.and_eq_true, beq_iff_eq] at h1
      exact ⟨⟨h1.1.1, h1.1.2, h1.2⟩, trivial⟩
    | [], h1 => cases h1
    | _ :: _ :: _, h1 => cases h1
  · have := congrArg Prod.snd h
    simp at this
theorem writeL_two (k : Int) (t : List UInt8) (p : List (List UInt8)) : (writeL k t p).2 = 0 ∨ writeL k t p = ([], 1) := by
  unfold writeL
  split
  · exact .inl rfl
  · exact .inr rfl

theorem alike_one {a : List Tok} {t : ITok} (h : AlikeL a [⟨t.kind, t.text, t.path, 0, 0⟩]) : AlikeL a [t] := by
  match a, h with
  | [_], h => exact ⟨h.1, trivial⟩
  | _ :: _ :: _, h => exact h.2.elim
/-- What is joined is scanned as the tokens. -/
theorem join_go : ∀ (l : List ITok) (acc gap : List UInt8) (done : List ITok) (s : List UInt8), acc.length ≤ 1048576 → (gap = [] ∧ acc = [] ∧ done = [] ∨ gap = [32]) → (scanP (1, 1) acc).2 = none → AlikeL (scanP (1, 1) acc).1 done → joinF false acc gap l = (s, 0) →
    (scanP (1, 1) s).2 = none ∧ AlikeL (scanP (1, 1) s).1 (done ++ l) ∧ s.length ≤ 1048576 := by
  intro l
  induction l with
  | nil =>
    intro acc gap done s hl _ h1 h2 h
    rw [joinF_nil] at h
    obtain ⟨rfl, _⟩ := Prod.mk.inj h
    rw [List.append_nil]
    exact ⟨h1, h2, hl⟩
  | cons t r ih =>
    intro acc gap done s hl hg h1 h2 h
    obtain ⟨x, e, hw⟩ : ∃ x e, writeL t.kind t.text t.path = (x, e) := ⟨_, _, rfl⟩
    rw [joinF_cons _ _ _ _ _ x e hw] at h
    by_cases he : e ≠ 0
    · rw [if_pos he] at h
      exact absurd (congrArg Prod.snd h) he
    · rw [if_neg he] at h
      obtain rfl : e = 0 := by omega
      have W := write_scan hw
      split at h
      · have : ∀ (l : List ITok) (acc gap s : List UInt8), joinF true acc gap l ≠ (s, 0) := by
          intro l
          induction l with
          | nil => intro acc gap s h; rw [joinF_nil] at h; have := congrArg Prod.snd h; simp at this
          | cons t r ih =>
            intro acc gap s h
            obtain ⟨x, e, hw⟩ : ∃ x e, writeL t.kind t.text t.path = (x, e) := ⟨_, _, rfl⟩
            rw [joinF_cons _ _ _ _ _ x e hw] at h
            by_cases he : e ≠ 0
            · rw [if_pos he] at h; exact absurd (congrArg Prod.snd h) he
            · rw [if_neg he, if_pos (Bool.true_or _)] at h; exact ih _ _ _ h
        exact absurd h (this _ _ _ _)
      · rename_i hlg
        have hlen : acc.length + gap.length + x.length ≤ 1048576 := by
          have : ¬ 1048576 < acc.length + gap.length + x.length := fun g => hlg (by simp [g])
          omega
        rw [show done ++ t :: r = (done ++ [t]) ++ r by simp]
        refine ih (acc ++ gap ++ x) [32] (done ++ [t]) s (by simp only [List.length_append]; omega) (.inr rfl) ?_ ?_ h
        · rcases hg with ⟨rfl, rfl, rfl⟩ | rfl
          · simpa using W.1
          · have := scan_app _ (1, 1) acc 32 x (Nat.le_refl _) (by decide) h1
            rw [List.append_assoc, show [32] ++ x = (32 : UInt8) :: x from rfl, this]
            exact (scanP_place _ _ _).2 W.1
        · have e1 : AlikeL (scanP (1, 1) x).1 [t] := alike_one W.2.1
          rcases hg with ⟨rfl, rfl, rfl⟩ | rfl
          · simpa using e1
          · have := scan_app _ (1, 1) acc 32 x (Nat.le_refl _) (by decide) h1
            rw [List.append_assoc, show [32] ++ x = (32 : UInt8) :: x from rfl, this]
            exact AlikeL.app h2 ((scanP_place _ _ _).1.alike e1)
theorem join_scan {l : List ITok} {s : List UInt8} (h : joinL l = (s, 0)) : ∃ ts, scanL s = (ts, 0, 0, 0) ∧ AlikeL ts l := by
  have := join_go l [] [] [] s (by simp) (.inl ⟨rfl, rfl, rfl⟩) rfl trivial h
  refine ⟨(scanP (1, 1) s).1, scanL_eq ?_ this.2.2, this.2.1⟩
  rw [← this.1]
end Go.Proofs.YtgcbkjfckmjgeaaGreatDoor
/- A token that was scanned can be written: on lists of bytes. -/
namespace Go.Proofs.YtgcbkjfckmjgeaaGreatDoor

theorem quot_all : ∀ n : Fin 256, stepN (quot1 (UInt8.ofFin n)) = (quot1 (UInt8.ofFin n)).length ∧ stepO (quot1 (UInt8.ofFin n)) = [UInt8.ofFin n] ∧ 1 ≤ (quot1 (UInt8.ofFin n)).length ∧ ((quot1 (UInt8.ofFin n)).head?.map UInt8.toNat) ≠ some 34 := by decide +kernel
theorem quot_step (c : UInt8) : stepN (quot1 c) = (quot1 c).length ∧ stepO (quot1 c) = [c] ∧ 1 ≤ (quot1 c).length ∧ ((quot1 c).head?.map UInt8.toNat) ≠ some 34 := quot_all c.toFin
theorem quotL_cons (c : UInt8) (r : List UInt8) : quotL (c :: r) = quot1 c ++ quotL r := by simp [quotL]
/-- What is quoted says its bytes. -/
theorem quoF_quot : ∀ (t : List UInt8) (f i : Nat) (acc rest : List UInt8), (quotL t).length + 1 ≤ f → quoF f i acc (quotL t ++ 34 :: rest) = some (acc ++ t, i + (quotL t).length + 1) := by
  intro t
  induction t with
  | nil =>
    intro f i acc rest hf
    obtain ⟨f, rfl⟩ : ∃ g, f = g + 1 := ⟨f - 1, by simp [quotL] at hf; omega⟩
    show quoF (f + 1) i acc (34 :: rest) = _
    unfold quoF
    rw [if_pos (by decide)]
    simp [quotL]
  | cons c r ih =>
    intro f i acc rest hf
    obtain ⟨q1, q2, q3, q4⟩ := quot_step c
    rw [quotL_cons] at hf ⊢
    rw [List.length_append] at hf
    obtain ⟨f, rfl⟩ : ∃ g, f = g + 1 := ⟨f - 1, by omega⟩
    rw [List.append_assoc]
    have hst := stepN_app (l := quot1 c) (r := quotL r ++ 34 :: rest) (by omega)
    have hso := stepO_app (l := quot1 c) (r := quotL r ++ 34 :: rest) (by omega)
    rw [q1] at hst
    rw [q2] at hso
    have hdr : (quot1 c ++ (quotL r ++ 34 :: rest)).drop (quot1 c).length = quotL r ++ 34 :: rest := by simp
    obtain ⟨d, u, hd⟩ : ∃ d u, quot1 c = d :: u := by
      cases h : quot1 c with
      | nil => rw [h] at q3; simp at q3
      | cons d u => exact ⟨d, u, rfl⟩
    have hd34 : ¬ d.toNat = 34 := by
      rw [hd] at q4
      simpa using q4
    have e : quot1 c ++ (quotL r ++ 34 :: rest) = d :: (u ++ (quotL r ++ 34 :: rest)) := by rw [hd]; rfl
    rw [e] at hst hso hdr ⊢
    unfold quoF
    rw [if_neg hd34, hst, if_neg (by omega), hso, hdr, ih f _ _ rest (by omega)]
    simp only [List.length_append, Option.some.injEq, Prod.mk.injEq]
    exact ⟨by simp, by omega⟩
theorem quoN_quot (t rest : List UInt8) : quoN (34 :: quotL t ++ 34 :: rest) = some (t, (quotL t).length + 2) := by
  unfold quoN
  have e : (34 :: quotL t ++ 34 :: rest : List UInt8).drop 1 = quotL t ++ 34 :: rest := rfl
  rw [e, quoF_quot t _ 1 [] rest (by simp)]
  simp only [List.nil_append, Option.some.injEq, Prod.mk.injEq]
  exact ⟨trivial, by omega⟩
theorem rdL_str {t : List UInt8} (h : t.length ≤ 65536) : rdL (34 :: quotL t ++ [34]) = .got 6 t [] ((quotL t).length + 2) := by
  unfold rdL
  have b : ∀ P : UInt8 → Bool, begP P (34 :: quotL t ++ [34]) = P 34 := fun _ => rfl
  simp only [b]
  rw [if_neg (by decide), if_neg (by decide), if_neg (by decide), if_neg (by decide), if_neg (by decide), if_neg (by decide), if_neg (by decide), if_neg (by decide), if_pos (by decide)]
  unfold strR
  rw [quoN_quot t []]
  simp only
  rw [if_neg (by omega)]
theorem rdL_chr {t : List UInt8} (h : t.length = 1) : rdL (35 :: 34 :: quotL t ++ [34]) = .got 7 t [] ((quotL t).length + 3) := by
  unfold rdL
  have b : ∀ P : UInt8 → Bool, begP P (35 :: 34 :: quotL t ++ [34]) = P 35 := fun _ => rfl
  simp only [b]
  rw [if_neg (by decide), if_neg (by decide), if_neg (by decide), if_pos (by decide)]
  unfold sigR
  rw [if_neg (by rintro ⟨h1, _⟩; cases h1), if_pos ⟨rfl, rfl⟩]
  unfold chrR
  have e : (35 :: 34 :: quotL t ++ [34] : List UInt8).drop 1 = 34 :: quotL t ++ [34] := rfl
  rw [e, quoN_quot t []]
  simp only
  rw [if_pos h]
  congr 1
  omega
theorem pathL_snoc (p : List (List UInt8)) (a : List UInt8) : pathL (p ++ [a]) = pathL p ++ (a ++ [46]) := by simp [pathL]
/-- A name's own bytes. -/
theorem longF_bytes : ∀ (f : Nat) (p : List (List UInt8)) (m : Nat) (l : List UInt8) (k : Nat) (t : List UInt8) (q : List (List UInt8)) (n : Nat) (pre : List UInt8), longF f p m l = .got k t q n → pre.length = m → pathL p = pre → pathL q ++ t = pre ++ l.take (n - m) := by
  intro f
  induction f with
  | zero => intro p m l k t q n pre h; cases h
  | succ f ih =>
    intro p m l k t q n pre h hm hp
    unfold longF at h
    split at h
    · rename_i hc
      split at h
      · cases h
      · rw [Bool.and_eq_true] at hc
        have h46 : l.drop (nameN l) = 46 :: l.drop (nameN l + 1) := by
          have hb := hc.2
          rw [← List.drop_drop]
          cases e : l.drop (nameN l) with
          | nil => rw [e] at hb; cases hb
          | cons c r =>
            rw [e] at hb
            have : c = 46 := by simpa [begP] using hb
            subst this; rfl
        have hn := nameN_le l
        have hle := longF_le _ _ _ _ _ _ _ _ h
        have hpl : pathL (p ++ [l.take (nameN l)]) = pre ++ l.take (nameN l + 1) := by
          rw [pathL_snoc, hp]
          congr 1
          have : l.take (nameN l + 1) = l.take (nameN l) ++ (l.drop (nameN l)).take 1 := by rw [List.take_add]
          rw [this, h46]; rfl
        have hd : (l.drop (nameN l)).length = l.length - nameN l := List.length_drop
        rw [h46] at hd
        simp only [List.length_cons] at hd
        have := ih _ _ _ _ _ _ _ (pre ++ l.take (nameN l + 1)) h (by rw [List.length_append, List.length_take, hm]; omega) hpl
        rw [this, List.append_assoc]
        congr 1
        have e2 : n - m = (nameN l + 1) + (n - (m + (nameN l + 1))) := by omega
        rw [e2]
        exact (List.take_add (l := l) (i := nameN l + 1) (j := n - (m + (nameN l + 1)))).symm
    · cases h
      have : m + nameN l - m = nameN l := by omega
      rw [hp, this]
/-- A token that is no string has its own bytes. -/
theorem rdL_bytes {a : List UInt8} {k : Nat} {t : List UInt8} {q : List (List UInt8)} {n : Nat} (h : rdL a = .got k t q n) (hk : k ≠ 0 ∧ k ≠ 6 ∧ k ≠ 7) : pathL q ++ t = a.take n := by
  have cut : ∀ k' m, cutR k' a m = .got k t q n → pathL q ++ t = a.take n := by
    intro k' m e; cases e; rfl
  have num : numR a = .got k t q n → pathL q ++ t = a.take n := by
    intro e
    unfold numR at e
    split at e
    · cases e
    · split at e
      · cases e
      · cases e; rfl
  unfold rdL at h
  split at h
  · cases h; exact absurd rfl hk.1
  split at h
  · unfold wordR at h
    split at h
    · exact cut _ _ h
    · have := longF_bytes _ _ _ _ _ _ _ _ [] h rfl rfl
      simpa using this
  split at h
  · exact num h
  split at h
  · unfold sigR at h
    split at h
    · exact num h
    split at h
    · unfold chrR at h
      split at h
      · cases h
      · split at h
        · cases h; exact absurd rfl hk.2.2
        · cases h
    split at h
    · exact cut _ _ h
    · exact cut _ _ h
  split at h
  · unfold parR at h
    split at h
    · split at h
      · cases h
      · cases h; exact absurd rfl hk.1
    · exact cut _ _ h
  split at h
  · exact cut _ _ h
  split at h
  · unfold poiR at h
    split at h
    · exact cut _ _ h
    · cases h
  split at h
  · exact cut _ _ h
  split at h
  · unfold strR at h
    split at h
    · cases h
    · split at h
      · cases h
      · cases h; exact absurd rfl hk.2.1
  · cases h
theorem quoF_len : ∀ (f i : Nat) (acc l t : List UInt8) (n : Nat), quoF f i acc l = some (t, n) → t.length + i + 1 ≤ n + acc.length := by
  intro f
  induction f with
  | zero => intro i acc l t n h; cases h
  | succ f ih =>
    intro i acc l t n h
    cases l with
    | nil => cases h
    | cons c r =>
      unfold quoF at h
      split at h
      · simp only [Option.some.injEq, Prod.mk.injEq] at h
        obtain ⟨rfl, rfl⟩ := h
        omega
      · split at h
        · cases h
        · have := ih _ _ _ _ _ h
          have h2 := stepO_le (c :: r)
          rw [List.length_append] at this
          omega
theorem quoN_len {l t : List UInt8} {n : Nat} (h : quoN l = some (t, n)) : t.length + 2 ≤ n := by
  have := quoF_len _ _ _ _ _ _ h
  simpa using this
/-- What a token that is a string or a character says. -/
theorem rdL_said {a : List UInt8} {k : Nat} {t : List UInt8} {q : List (List UInt8)} {n : Nat} (h : rdL a = .got k t q n) (hk : k = 6 ∨ k = 7) : q = [] ∧ t.length ≤ 65536 ∧ (k = 7 → t.length = 1) ∧ t.length + 2 ≤ n := by
  have num : numR a ≠ .got k t q n := by
    intro e
    have : (measN a).1 = 4 ∨ (measN a).1 = 5 := by
      unfold measN
      split
      · exact .inl rfl
      · unfold meas2
        split
        · exact .inr rfl
        · exact .inl rfl
    unfold numR at e
    split at e
    · cases e
    · split at e
      · cases e
      · cases e; omega
  have cut : ∀ k' m, k' < 6 → cutR k' a m ≠ .got k t q n := by
    intro k' m hk' e; cases e; omega
  unfold rdL at h
  split at h
  · cases h; omega
  split at h
  · unfold wordR at h
    split at h
    · exact absurd h (cut _ _ (by decide))
    · have := (longF_le _ _ _ _ _ _ _ _ h).1; omega
  split at h
  · exact absurd h num
  split at h
  · unfold sigR at h
    split at h
    · exact absurd h num
    split at h
    · unfold chrR at h
      split at h
      · cases h
      · rename_i t' n' hq
        split at h
        · rename_i h1
          have := quoN_len hq
          cases h
          exact ⟨rfl, by omega, fun _ => h1, by omega⟩
        · cases h
    split at h
    · exact absurd h (cut _ _ (by decide))
    · exact absurd h (cut _ _ (by decide))
  split at h
  · unfold parR at h
    split at h
    · split at h
      · cases h
      · cases h; omega
    · exact absurd h (cut _ _ (by decide))
  split at h
  · exact absurd h (cut _ _ (by decide))
  split at h
  · unfold poiR at h
    split at h
    · exact absurd h (cut _ _ (by decide))
    · cases h
  split at h
  · exact absurd h (cut _ _ (by decide))
  split at h
  · unfold strR at h
    split at h
    · cases h
    · rename_i t' n' hq
      split at h
      · cases h
      · have := quoN_len hq
        cases h
        exact ⟨rfl, by omega, fun g => by omega, by omega⟩
  · cases h
/-- How long a token's spelling is. -/
theorem spell_len {a : List UInt8} {k : Nat} {t : List UInt8} {q : List (List UInt8)} {n : Nat} (h : rdL a = .got k t q n) (hk : k ≠ 0) : (spellI (k : Int) t q).length ≤ 4 * n ∧ t.length + sumN q ≤ n := by
  have hn := rdL_le h
  by_cases h6 : k = 6 ∨ k = 7
  · obtain ⟨rfl, h1, h2, h3⟩ := rdL_said h h6
    have hq := quotL_len t
    refine ⟨?_, by simp [sumN]; omega⟩
    unfold spellI
    rcases h6 with rfl | rfl
    · rw [if_neg (by decide), if_pos (by decide)]
      simp only [List.length_cons, List.length_append, List.length_nil]; omega
    · rw [if_pos (by decide)]
      have := h2 rfl
      simp only [List.length_cons, List.length_append, List.length_nil]; omega
  · have hb := rdL_bytes h ⟨hk, fun e => h6 (.inl e), fun e => h6 (.inr e)⟩
    have hl := congrArg List.length hb
    rw [List.length_append, List.length_take, pathL_len] at hl
    have e : spellI (k : Int) t q = pathL q ++ t := by
      unfold spellI
      rw [if_neg (by omega), if_neg (by omega)]
    rw [e, List.length_append, pathL_len]
    omega
/-- A token that was scanned can be written. -/
theorem rdL_write {a : List UInt8} {k : Nat} {t : List UInt8} {q : List (List UInt8)} {n : Nat} (h : rdL a = .got k t q n) (hk : k ≠ 0) (ha : a.length ≤ 1048576) : writeL (k : Int) t q = (spellI (k : Int) t q, 0) := by
  have hn := rdL_le h
  have hs := spell_len h hk
  have key : scanL (spellI (k : Int) t q) = ([⟨k, t, q, 1, 1⟩], 0, 0, 0) := by
    have one : ∀ (x : List UInt8) (m : Nat), rdL x = .got k t q m → m = x.length → x.length ≤ 1048576 → scanL x = ([⟨k, t, q, 1, 1⟩], 0, 0, 0) := by
      intro x m hx hm hl
      refine scanL_eq ?_ hl
      rw [scanP_got hx, if_neg hk, hm, List.drop_length]
      rfl
    by_cases h6 : k = 6 ∨ k = 7
    · obtain ⟨rfl, h1, h2, h3⟩ := rdL_said h h6
      have hq := quotL_len t
      unfold spellI
      rcases h6 with rfl | rfl
      · rw [if_neg (by decide), if_pos (by decide)]
        exact one _ _ (rdL_str h1) (by simp) (by simp only [List.length_cons, List.length_append, List.length_nil]; omega)
      · rw [if_pos (by decide)]
        have := h2 rfl
        exact one _ _ (rdL_chr this) (by simp) (by simp only [List.length_cons, List.length_append, List.length_nil]; omega)
    · have hk6 : k ≠ 0 ∧ k ≠ 6 ∧ k ≠ 7 := ⟨hk, fun e => h6 (.inl e), fun e => h6 (.inr e)⟩
      have hb := rdL_bytes h hk6
      have e : spellI (k : Int) t q = a.take n := by
        unfold spellI
        rw [if_neg (by omega), if_neg (by omega), hb]
      have hr := rdL_less h hk6 (Less.nil (a.drop n))
      rw [List.append_nil] at hr
      rw [e]
      exact one _ _ hr (by rw [List.length_take]; omega) (by rw [List.length_take]; omega)
  unfold writeL
  rw [if_pos]
  unfold okW
  have ht : tooB t.length q = false := by unfold tooB; rw [decide_eq_false]; omega
  rw [ht, key]
  simp [oneTok]
end Go.Proofs.YtgcbkjfckmjgeaaGreatDoor
/- The tokens of a text rise by their places, and what is joined of them is not too long: on lists of bytes. -/
namespace Go.Proofs.YtgcbkjfckmjgeaaGreatDoor

def ltP (a b : Nat × Nat) : Prop := a.1 < b.1 ∨ (a.1 = b.1 ∧ a.2 < b.2)
def leP (a b : Nat × Nat) : Prop := a = b ∨ ltP a b
theorem ltP_step (p : Nat × Nat) (c : UInt8) : ltP p (stepP p c) := by
  unfold stepP ltP
  split
  · exact .inl (Nat.lt_succ_self _)
  · exact .inr ⟨rfl, Nat.lt_succ_self _⟩
theorem ltP_trans {a b c : Nat × Nat} (h : ltP a b) (g : ltP b c) : ltP a c := by
  unfold ltP at *
  omega
theorem ltP_le {a b c : Nat × Nat} (h : ltP a b) (g : leP b c) : ltP a c := by
  rcases g with rfl | g
  · exact h
  · exact ltP_trans h g
theorem leP_place : ∀ (l : List UInt8) (p : Nat × Nat), leP p (placeL p l) := by
  intro l
  induction l with
  | nil => intro p; exact .inl rfl
  | cons c r ih => intro p; exact .inr (ltP_le (ltP_step p c) (ih _))
theorem ltP_place {l : List UInt8} (h : l ≠ []) (p : Nat × Nat) : ltP p (placeL p l) := by
  cases l with
  | nil => exact absurd rfl h
  | cons c r => exact ltP_le (ltP_step p c) (leP_place r _)
/-- Tokens that rise, from a place on. -/
def Rise : Nat × Nat → List Tok → Prop
  | _, [] => True
  | p, t :: r => leP p (t.line, t.column) ∧ (match r with
    | [] => True
    | u :: _ => ltP (t.line, t.column) (u.line, u.column)) ∧ Rise (t.line, t.column) r
theorem Rise.from {p q : Nat × Nat} {l : List Tok} (h : Rise q l) (g : leP p q) : Rise p l := by
  cases l with
  | nil => trivial
  | cons t r =>
    obtain ⟨h1, h2, h3⟩ := h
    refine ⟨?_, h2, h3⟩
    rcases g with rfl | g
    · exact h1
    · exact .inr (ltP_le g h1)
theorem scanF_rise : ∀ (f : Nat) (p : Nat × Nat) (l : List UInt8), Rise p (scanF f p l).1 := by
  intro f
  induction f with
  | zero => intro p l; trivial
  | succ f ih =>
    intro p l
    cases l with
    | nil => trivial
    | cons c r =>
      unfold scanF
      cases hr : rdL (c :: r) with
      | bad e => trivial
      | got k t q n =>
        have hn := rdL_le hr
        have hne : (c :: r).take n ≠ [] := by
          intro e
          have := congrArg List.length e
          rw [List.length_take] at this
          simp at this
          simp at hn
          omega
        have i := ih (placeL p ((c :: r).take n)) ((c :: r).drop n)
        have hlt := ltP_place hne p
        simp only
        by_cases k0 : k = 0
        · rw [if_pos k0]
          exact i.from (.inr hlt)
        · rw [if_neg k0]
          refine ⟨.inl rfl, ?_, i.from (.inr hlt)⟩
          revert i
          generalize (scanF f (placeL p ((c :: r).take n)) ((c :: r).drop n)).1 = ts
          intro i
          cases ts with
          | nil => trivial
          | cons u s => exact ltP_le hlt i.1
theorem scan_rise (p : Nat × Nat) (l : List UInt8) : Rise p (scanP p l).1 := scanF_rise _ _ _
theorem Rise.at : ∀ {p : Nat × Nat} {l : List Tok} {i : Nat} {a b : Tok}, Rise p l → l[i]? = some a → l[i + 1]? = some b → ltP (a.line, a.column) (b.line, b.column)
  | _, _ :: _ :: _, 0, _, _, h, h1, h2 => by cases h1; cases h2; exact h.2.1
  | _, _ :: r, i + 1, _, _, h, h1, h2 => Rise.at (l := r) (i := i) h.2.2 h1 h2
  | _, [], _, _, _, _, h1, _ => by simp at h1
  | _, [_], 0, _, _, _, _, h2 => by simp at h2

/-- A token that can be written, and is not too long. -/
def GoodT (t : Tok) : Prop := writeL (t.kind : Int) t.text t.path = (spellI (t.kind : Int) t.text t.path, 0) ∧ t.text.length + sumN t.path ≤ 1048576
def totT (l : List Tok) : Nat := (l.map fun t => (spellI (t.kind : Int) t.text t.path).length + 1).sum
theorem scanF_good : ∀ (f : Nat) (p : Nat × Nat) (l : List UInt8), l.length ≤ 1048576 → (∀ t ∈ (scanF f p l).1, GoodT t) ∧ totT (scanF f p l).1 ≤ 5 * l.length := by
  intro f
  induction f with
  | zero => intro p l _; exact ⟨fun t h => (by cases h), by show 0 ≤ _; omega⟩
  | succ f ih =>
    intro p l hl
    cases l with
    | nil => exact ⟨fun t h => (by cases h), by show 0 ≤ _; omega⟩
    | cons c r =>
      unfold scanF
      cases hr : rdL (c :: r) with
      | bad e => exact ⟨fun t h => (by cases h), by show 0 ≤ _; omega⟩
      | got k t q n =>
        have hn := rdL_le hr
        have i := ih (placeL p ((c :: r).take n)) ((c :: r).drop n) (by rw [List.length_drop]; omega)
        rw [List.length_drop] at i
        simp only
        by_cases k0 : k = 0
        · rw [if_pos k0]
          exact ⟨i.1, by omega⟩
        · rw [if_neg k0]
          have s := spell_len hr k0
          refine ⟨fun u hu => ?_, ?_⟩
          · rcases List.mem_cons.1 hu with rfl | hu
            · exact ⟨rdL_write hr k0 hl, by simp only; omega⟩
            · exact i.1 u hu
          · have e : totT ((⟨k, t, q, p.1, p.2⟩ : Tok) :: (scanF f (placeL p ((c :: r).take n)) ((c :: r).drop n)).1) = ((spellI (k : Int) t q).length + 1) + totT (scanF f (placeL p ((c :: r).take n)) ((c :: r).drop n)).1 := by simp [totT]
            rw [e]
            omega
theorem scan_good {p : Nat × Nat} {l : List UInt8} (h : l.length ≤ 1048576) : (∀ t ∈ (scanP p l).1, GoodT t) ∧ totT (scanP p l).1 ≤ 5 * l.length := scanF_good _ _ _ h
theorem part_le {q : List (List UInt8)} {x : List UInt8} (h : x ∈ q) : x.length ≤ sumN q := by
  induction q with
  | nil => cases h
  | cons a r ih =>
    have e : sumN (a :: r) = (a.length + 1) + sumN r := by simp [sumN]
    rw [e]
    rcases List.mem_cons.1 h with rfl | h
    · omega
    · have := ih h; omega
theorem good_modest {l : List Tok} (h : ∀ t ∈ l, GoodT t) : Modest l := by
  intro t ht
  have g := (h t ht).2
  exact ⟨by omega, fun q hq => by have := part_le hq; omega⟩
/-- Tokens that can be written are joined, or are too long. -/
theorem join_good : ∀ (l : List Tok) (acc gap : List UInt8), gap.length ≤ 1 → (∀ t ∈ l, GoodT t) → (∃ s, joinF false acc gap (l.map Tok.toI) = (s, 0)) ∨ (joinF false acc gap (l.map Tok.toI) = ([], 2) ∧ 1048576 < acc.length + totT l) := by
  have long : ∀ (l : List Tok) (acc gap : List UInt8), (∀ t ∈ l, GoodT t) → joinF true acc gap (l.map Tok.toI) = ([], 2) := by
    intro l
    induction l with
    | nil => intro acc gap _; rfl
    | cons t r ih =>
      intro acc gap h
      have g := (h t (List.mem_cons_self ..)).1
      rw [List.map_cons, joinF_cons _ _ _ _ _ _ 0 (show writeL t.toI.kind t.toI.text t.toI.path = _ from g), if_neg (by simp), if_pos (Bool.true_or _)]
      exact ih _ _ fun u hu => h u (List.mem_cons_of_mem _ hu)
  intro l
  induction l with
  | nil => intro acc gap _ _; exact .inl ⟨_, rfl⟩
  | cons t r ih =>
    intro acc gap hg h
    have g := (h t (List.mem_cons_self ..)).1
    have hr : ∀ u ∈ r, GoodT u := fun u hu => h u (List.mem_cons_of_mem _ hu)
    have e : totT (t :: r) = ((spellI (t.kind : Int) t.text t.path).length + 1) + totT r := by simp [totT]
    rw [List.map_cons, joinF_cons _ _ _ _ _ _ 0 (show writeL t.toI.kind t.toI.text t.toI.path = _ from g), if_neg (by simp)]
    by_cases hl : 1048576 < acc.length + gap.length + (spellI (t.kind : Int) t.text t.path).length
    · rw [if_pos (by simp; exact hl)]
      exact .inr ⟨long r _ _ hr, by rw [e]; omega⟩
    · rw [if_neg (by simp; omega)]
      rcases ih (acc ++ gap ++ spellI (t.kind : Int) t.text t.path) [32] (by simp) hr with ⟨s, hs⟩ | ⟨hs, hlt⟩
      · exact .inl ⟨s, hs⟩
      · refine .inr ⟨hs, ?_⟩
        simp only [List.length_append] at hlt
        rw [e]
        omega
theorem join_again {l : List UInt8} {ts : List Tok} {x y : Nat} (h : scanL l = (ts, x, y, 0)) : (∀ t ∈ ts, GoodT t) ∧ Rise (1, 1) ts ∧ ((∃ s, joinL (ts.map Tok.toI) = (s, 0)) ∨ (joinL (ts.map Tok.toI) = ([], 2) ∧ 209715 < l.length)) := by
  obtain ⟨h1, h2, h3⟩ := scanL_ok h
  have g := scan_good (p := (1, 1)) h3
  have r := scan_rise (1, 1) l
  rw [h2] at g r
  refine ⟨g.1, r, ?_⟩
  rcases join_good ts [] [] (by simp) g.1 with hs | ⟨hs, hl⟩
  · exact .inl hs
  · exact .inr ⟨hs, by simp at hl; omega⟩
end Go.Proofs.YtgcbkjfckmjgeaaGreatDoor
