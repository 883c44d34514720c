/- What stands behind a token does not change it, if no byte of it could go on with it. No program is named here. -/
import Derived.WalkKit
import Derived.ProofKit
import Derived.Test.YtgcbkjfckmjgeaaGreatDoorLexX
namespace Go.Proofs.YtgcbkjfckmjgeaaGreatDoor

/-- v begins with nothing, a blank, or as u does. -/
structure Less (v u : List UInt8) : Prop where
  hd : ∀ c r, v = c :: r → lblankB c = true ∨ ∃ r', u = c :: r'
  pt : ∀ c r, v = 46 :: c :: r → digitB c = true → ∃ r', u = 46 :: c :: r'
theorem Less.nil (u : List UInt8) : Less [] u := by
  constructor
  · intro c r h; cases h
  · intro c r h; cases h
theorem blank_no : ∀ n : Fin 256, lblankB (UInt8.ofFin n) = true → wordB (UInt8.ofFin n) = false ∧ signB (UInt8.ofFin n) = false ∧ digitB (UInt8.ofFin n) = false ∧ hexB (UInt8.ofFin n) = false ∧ letterB (UInt8.ofFin n) = false ∧ UInt8.ofFin n ≠ 46 ∧ UInt8.ofFin n ≠ 34 ∧ UInt8.ofFin n ≠ 42 := by decide +kernel
theorem blank_nos (c : UInt8) (h : lblankB c = true) : wordB c = false ∧ signB c = false ∧ digitB c = false ∧ hexB c = false ∧ letterB c = false ∧ c ≠ 46 ∧ c ≠ 34 ∧ c ≠ 42 := blank_no c.toFin h
theorem digit_word (c : UInt8) (h : digitB c = true) : wordB c = true := by unfold wordB; rw [h]; simp
theorem letter_word (c : UInt8) (h : letterB c = true) : wordB c = true := by unfold wordB; rw [h]; simp
theorem hex_words : ∀ n : Fin 256, hexB (UInt8.ofFin n) = true → wordB (UInt8.ofFin n) = true := by decide +kernel
theorem hex_word (c : UInt8) (h : hexB c = true) : wordB c = true := hex_words c.toFin h
theorem Less.beg {v u : List UInt8} (h : Less v u) {P : UInt8 → Bool} (hP : ∀ c, lblankB c = true → P c = false) (hu : begP P u = false) : begP P v = false := by
  cases v with
  | nil => rfl
  | cons c r =>
    rcases h.hd c r rfl with g | ⟨r', rfl⟩
    · exact hP c g
    · exact hu
theorem begP_sub {P Q : UInt8 → Bool} (h : ∀ c, P c = true → Q c = true) {l : List UInt8} (hl : begP Q l = false) : begP P l = false := by
  cases l with
  | nil => rfl
  | cons c r =>
    cases hp : P c
    · exact hp
    · have := h c hp; rw [show Q c = false from hl] at this; cases this
theorem begP_take {P : UInt8 → Bool} {l v : List UInt8} {n : Nat} (h : 1 ≤ n) (hn : n ≤ l.length) : begP P (l.take n ++ v) = begP P l := by
  cases l with
  | nil => simp at hn; omega
  | cons c r =>
    obtain ⟨m, rfl⟩ : ∃ m, n = m + 1 := ⟨n - 1, by omega⟩
    rfl
theorem runP_app {P : UInt8 → Bool} {x v : List UInt8} (h : ∀ c ∈ x, P c = true) : runP P (x ++ v) = x.length + runP P v := by
  unfold runP
  induction x with
  | nil => simp
  | cons c r ih =>
    rw [List.cons_append, List.takeWhile_cons, if_pos (h c (by simp)), List.length_cons, List.length_cons, ih (fun d hd => h d (by simp [hd]))]
    omega
theorem take_run (P : UInt8 → Bool) (l : List UInt8) : l.take (runP P l) = l.takeWhile P := by
  unfold runP
  induction l with
  | nil => rfl
  | cons c r ih =>
    rw [List.takeWhile_cons]
    split
    · rw [List.length_cons, List.take_succ_cons, ih]
    · rfl
theorem mem_run {P : UInt8 → Bool} {l : List UInt8} {n : Nat} (h : n ≤ runP P l) : ∀ c ∈ l.take n, P c = true := by
  intro c hc
  have h1 : l.take n = (l.takeWhile P).take n := by rw [← take_run, List.take_take, Nat.min_eq_left h]
  rw [h1] at hc
  have h2 := List.mem_of_mem_take hc
  have h3 := List.all_takeWhile (l := l) (p := P)
  exact List.all_eq_true.1 h3 c h2
theorem beg_run (P : UInt8 → Bool) (l : List UInt8) : begP P (l.drop (runP P l)) = false := by
  unfold runP
  induction l with
  | nil => rfl
  | cons c r ih =>
    rw [List.takeWhile_cons]
    split
    · rw [List.length_cons, List.drop_succ_cons]; exact ih
    · rename_i h; exact Bool.eq_false_iff.2 h
theorem drop_take_app {l v : List UInt8} {m n : Nat} (h : m ≤ n) (hn : n ≤ l.length) : (l.take n ++ v).drop m = (l.drop m).take (n - m) ++ v := by
  rw [List.drop_append_of_le_length (by rw [List.length_take]; omega), List.drop_take]
theorem take_take_app {l v : List UInt8} {m n : Nat} (h : m ≤ n) (hn : n ≤ l.length) : (l.take n ++ v).take m = l.take m := by
  rw [List.take_append_of_le_length (by rw [List.length_take]; omega), List.take_take, Nat.min_eq_left h]
/-- A run that ends ahead of place n, or there. -/
theorem run_take {P : UInt8 → Bool} {l v : List UInt8} {n : Nat} (hn : n ≤ l.length) (h : runP P l < n ∨ (runP P l = n ∧ begP P v = false)) : runP P (l.take n ++ v) = runP P l := by
  have hle : runP P l ≤ n := by omega
  have e : l.take n ++ v = l.take (runP P l) ++ ((l.drop (runP P l)).take (n - runP P l) ++ v) := by
    rw [← drop_take_app hle hn, ← take_take_app (v := v) hle hn, List.take_append_drop]
  rw [e, runP_app (mem_run (Nat.le_refl _)), List.length_take, Nat.min_eq_left (runP_le _ _)]
  have hz : begP P ((l.drop (runP P l)).take (n - runP P l) ++ v) = false := by
    rcases h with h | ⟨h, g⟩
    · rw [begP_take (by omega) (by rw [List.length_drop]; omega)]; exact beg_run P l
    · rw [h, Nat.sub_self, List.take_zero, List.nil_append]; exact g
  rw [runP_zero hz, Nat.add_zero]
theorem pre_take {p l v : List UInt8} {n : Nat} (h : p.length ≤ n) (hn : n ≤ l.length) : p.isPrefixOf (l.take n ++ v) = p.isPrefixOf l := by
  rw [Bool.eq_iff_iff, List.isPrefixOf_iff_prefix, List.isPrefixOf_iff_prefix, List.prefix_iff_eq_take, List.prefix_iff_eq_take, take_take_app h hn]
theorem preN_pos {p : List UInt8} {P : UInt8 → Bool} {l : List UInt8} (h : 0 < preN p P l) : p.isPrefixOf l = true ∧ begP P (l.drop p.length) = true ∧ preN p P l = p.length + runP P (l.drop p.length) := by
  unfold preN at h ⊢
  split at h
  · rename_i g; rw [if_pos g]; rw [Bool.and_eq_true] at g; exact ⟨g.1, g.2, rfl⟩
  · omega
/-- A prefix and a run behind it that ends ahead of place n, or there. -/
theorem preN_take {p : List UInt8} {P : UInt8 → Bool} {l v : List UInt8} {n : Nat} (hp : 0 < preN p P l) (hn : n ≤ l.length) (h : preN p P l < n ∨ (preN p P l = n ∧ begP P v = false)) : preN p P (l.take n ++ v) = preN p P l := by
  obtain ⟨h1, h2, h3⟩ := preN_pos hp
  have h4 := runP_pos h2
  have e : (l.take n ++ v).drop p.length = (l.drop p.length).take (n - p.length) ++ v := drop_take_app (by omega) hn
  have h5 : (l.drop p.length).length = l.length - p.length := List.length_drop
  have h6 : runP P (l.drop p.length) < n - p.length ∨ (runP P (l.drop p.length) = n - p.length ∧ begP P v = false) := by
    rcases h with h | ⟨h, g⟩
    · exact .inl (by omega)
    · exact .inr ⟨by omega, g⟩
  rw [h3]
  unfold preN
  rw [e, pre_take (by omega) hn, h1, begP_take (by omega) (by omega), h2, run_take (by omega) h6]
  rfl
theorem preN_zero {x : UInt8} {P : UInt8 → Bool} {l : List UInt8} (h : ¬ (begP (fun c => decide (c = x)) l = true ∧ begP P (l.drop 1) = true)) : preN [x] P l = 0 := by
  unfold preN
  rw [if_neg]
  intro g
  rw [Bool.and_eq_true] at g
  refine h ⟨?_, g.2⟩
  cases l with
  | nil => exact absurd g.1 (by simp)
  | cons c r =>
    have : x = c := by simpa using g.1
    exact decide_eq_true this.symm
theorem preN_one {x : UInt8} {P : UInt8 → Bool} {l : List UInt8} (h : begP (fun c => decide (c = x)) l = true) (g : begP P (l.drop 1) = true) : 0 < preN [x] P l := by
  unfold preN
  rw [if_pos]
  · simp; omega
  · rw [Bool.and_eq_true]
    refine ⟨?_, g⟩
    cases l with
    | nil => cases h
    | cons c r => have : c = x := of_decide_eq_true h; subst this; simp
theorem exp_word {l : List UInt8} (h : begP wordB l = false) : expN l = 0 := by
  have z : ∀ p : List UInt8, (p.head? = some 69 ∨ p.head? = some 101) → preN p digitB l = 0 := by
    intro p hp
    unfold preN
    rw [if_neg]
    intro g
    rw [Bool.and_eq_true] at g
    cases l with
    | nil =>
      cases p with
      | nil => simp at hp
      | cons a b => exact absurd g.1 (by simp)
    | cons c r =>
      cases p with
      | nil => simp at hp
      | cons a b =>
        rw [List.isPrefixOf_cons_cons, Bool.and_eq_true] at g
        have : a = c := eq_of_beq g.1.1
        subst this
        have hp : a = 69 ∨ a = 101 := by simpa using hp
        rcases hp with rfl | rfl
        · exact absurd (show wordB 69 = false from h) (by decide)
        · exact absurd (show wordB 101 = false from h) (by decide)
  unfold expN
  rw [z [69] (.inl rfl), z [101] (.inr rfl), z [69, 126] (.inl rfl), z [101, 126] (.inr rfl)]
  rfl
theorem expN_take {l v : List UInt8} (h : 0 < expN l) (hv : begP digitB v = false) : expN (l.take (expN l) ++ v) = expN l := by
  have hle := expN_le l
  generalize hN : expN l = N at *
  unfold expN at hN
  -- the first two bytes stay
  have two : ∀ (x : UInt8) (m : Nat), 2 ≤ m → m ≤ l.length → preN [x] digitB l = 0 → preN [x] digitB (l.take m ++ v) = 0 := by
    intro x m h1 h2 h3
    refine preN_zero fun g => ?_
    rw [begP_take (by omega) h2, drop_take_app (by omega) h2, begP_take (by omega) (by rw [List.length_drop]; omega)] at g
    have := preN_one g.1 g.2
    omega
  have full : ∀ p : List UInt8, 0 < preN p digitB l → preN p digitB (l.take (preN p digitB l) ++ v) = preN p digitB l := fun p hp => preN_take hp (preN_le _ _ _) (.inr ⟨rfl, hv⟩)
  have size2 : ∀ p : List UInt8, 1 ≤ p.length → 0 < preN p digitB l → 2 ≤ preN p digitB l := by
    intro p h1 h2
    obtain ⟨_, g2, g3⟩ := preN_pos h2
    have := runP_pos g2
    omega
  split at hN
  · rename_i h1
    subst hN
    unfold expN
    rw [full _ h1, if_pos h1]
  · rename_i h1
    split at hN
    · rename_i h2
      have s := size2 _ (by simp) h2
      subst hN
      unfold expN
      rw [two 69 _ s (preN_le _ _ _) (by omega), full _ h2, if_neg (by omega), if_pos h2]
    · rename_i h2
      split at hN
      · rename_i h3
        have s := size2 _ (by simp) h3
        subst hN
        unfold expN
        rw [two 69 _ s (preN_le _ _ _) (by omega), two 101 _ s (preN_le _ _ _) (by omega), full _ h3, if_neg (by omega), if_neg (by omega), if_pos h3]
      · rename_i h3
        subst hN
        have s := size2 [101, 126] (by simp) h
        have hz : preN [69, 126] digitB (l.take (preN [101, 126] digitB l) ++ v) = 0 := by
          obtain ⟨g1, _, _⟩ := preN_pos h
          unfold preN
          rw [if_neg]
          have hs := preN_le [101, 126] digitB l
          unfold preN at s hs
          rw [pre_take (show ([69, 126] : List UInt8).length ≤ _ from s) hs]
          intro g
          rw [Bool.and_eq_true] at g
          cases l with
          | nil => exact absurd g.1 (by simp)
          | cons c r =>
            rw [List.isPrefixOf_cons_cons, Bool.and_eq_true] at g1
            have g2 := g.1
            rw [List.isPrefixOf_cons_cons, Bool.and_eq_true] at g2
            have e1 : (101 : UInt8) = c := eq_of_beq g1.1
            have e2 : (69 : UInt8) = c := eq_of_beq g2.1
            rw [← e1] at e2
            exact absurd e2 (by decide)
        unfold expN
        rw [two 69 _ s hle (by omega), two 101 _ s hle (by omega), hz, full _ h, if_neg (by omega), if_neg (by omega), if_neg (by omega)]
end Go.Proofs.YtgcbkjfckmjgeaaGreatDoor
/- What stands behind a token does not change it: numbers, names, and all. No program is named here. -/
namespace Go.Proofs.YtgcbkjfckmjgeaaGreatDoor

theorem two_take {l v : List UInt8} (x : UInt8) (m : Nat) (h1 : 2 ≤ m) (h2 : m ≤ l.length) (h3 : preN [x] digitB l = 0) : preN [x] digitB (l.take m ++ v) = 0 := by
  refine preN_zero fun g => ?_
  rw [begP_take (by omega) h2, drop_take_app (by omega) h2, begP_take (by omega) (by rw [List.length_drop]; omega)] at g
  have := preN_one g.1 g.2
  omega
theorem expN_two {l : List UInt8} (h : 0 < expN l) : 2 ≤ expN l := by
  have size2 : ∀ p : List UInt8, 1 ≤ p.length → 0 < preN p digitB l → 2 ≤ preN p digitB l := by
    intro p h1 h2
    obtain ⟨_, g2, g3⟩ := preN_pos h2
    have := runP_pos g2
    omega
  unfold expN at h ⊢
  repeat' split
  all_goals (refine size2 _ (by simp) ?_; first | assumption | (simp_all))
theorem partN_take {l v : List UInt8} (h : 0 < partN l) (hv : begP wordB v = false) : partN (l.take (partN l) ++ v) = partN l := by
  have hd : begP digitB v = false := begP_sub digit_word hv
  have hle := partN_le l
  by_cases h1 : preN [46] digitB l = 0
  · have e : partN l = expN l := by unfold partN; rw [h1]; simp
    rw [e] at h hle ⊢
    have h2 := expN_two h
    unfold partN
    rw [two_take 46 _ h2 hle h1]
    simp [expN_take h hd]
  · have e : partN l = preN [46] digitB l + expN (l.drop (preN [46] digitB l)) := rfl
    generalize hp : preN [46] digitB l = p1 at *
    generalize he : expN (l.drop p1) = e1 at *
    rw [e] at hle ⊢
    have hpre : preN [46] digitB (l.take (p1 + e1) ++ v) = p1 := by
      have := preN_take (p := [46]) (P := digitB) (l := l) (v := v) (n := p1 + e1) (by omega) hle (by
        rcases Nat.eq_zero_or_pos e1 with g | g
        · exact .inr ⟨by omega, hd⟩
        · exact .inl (by omega))
      rw [this, hp]
    unfold partN
    rw [hpre, drop_take_app (by omega) hle, show p1 + e1 - p1 = e1 by omega]
    rcases Nat.eq_zero_or_pos e1 with g | g
    · subst g
      rw [List.take_zero, List.nil_append, exp_word hv]
    · have := expN_take (l := l.drop p1) (v := v) (by omega) hd
      rw [he] at this
      rw [this]
theorem pair_eta {a b : Nat} {p : Nat × Nat} (h : p = (a, b)) : p.1 = a ∧ p.2 = b := by subst h; exact ⟨rfl, rfl⟩
theorem measN_less {a v : List UInt8} {k n : Nat} (h : measN a = (k, n)) (hw : begP wordB (a.drop n) = false) (hd : begP digitB (a.drop (tildeN a)) = true) (hv : Less v (a.drop n)) : measN (a.take n ++ v) = (k, n) := by
  have vw : begP wordB v = false := hv.beg (fun c g => (blank_nos c g).1) hw
  have vd : begP digitB v = false := begP_sub digit_word vw
  have vh : begP hexB v = false := begP_sub hex_word vw
  have hn1 : 1 ≤ n := by have := measN_pos hd; rw [h] at this; exact this
  have hn2 : n ≤ a.length := by have := measN_le a; rw [h] at this; exact this
  have ht : tildeN (a.take n ++ v) = tildeN a := by unfold tildeN; rw [pre_take (by simpa using hn1) hn2]
  have hr := runP_pos hd
  have hzl := tildeN_le a
  have hdl : (a.drop (tildeN a)).length = a.length - tildeN a := List.length_drop
  unfold measN at h ⊢
  rw [ht]
  generalize tildeN a = z at *
  by_cases g : 0 < preN [48, 120] hexB (a.drop z)
  · rw [if_pos g] at h
    obtain ⟨rfl, hn⟩ := pair_eta h.symm
    have hn : n = z + preN [48, 120] hexB (a.drop z) := hn
    have e := preN_take (v := v) g (preN_le _ _ _) (.inr ⟨rfl, vh⟩)
    rw [drop_take_app (by omega) hn2, show n - z = preN [48, 120] hexB (a.drop z) by omega, e, if_pos g, ← hn]
  · rw [if_neg g] at h
    generalize hd' : z + runP digitB (a.drop z) = d at *
    have hrl := runP_le digitB (a.drop z)
    have hml := meas2_le a d (by omega)
    rw [h] at hml
    have hdn : d ≤ n := hml.2
    have hno : ([48, 120] : List UInt8).isPrefixOf (a.drop z) = false := by
      refine Bool.eq_false_iff.2 fun hp => ?_
      have hpre := List.isPrefixOf_iff_prefix.1 hp
      obtain ⟨r, hr2⟩ := hpre
      have e1 : runP digitB (a.drop z) = 1 := by rw [← hr2]; rfl
      have e2 : a.drop d = 120 :: r := by
        rw [← hd', e1, ← List.drop_drop, ← hr2]; rfl
      have e3 : partN (a.drop d) = 0 := by
        rw [e2]
        have : preN [46] digitB (120 :: r) = 0 := preN_zero (by intro g; have : (120 : UInt8) = 46 := of_decide_eq_true g.1; exact absurd this (by decide))
        unfold partN
        rw [this]
        have z : ∀ p : List UInt8, (p.head? = some 69 ∨ p.head? = some 101) → preN p digitB (120 :: r) = 0 := by
          intro p hp
          unfold preN
          rw [if_neg]
          intro g
          rw [Bool.and_eq_true] at g
          cases p with
          | nil => simp at hp
          | cons a b =>
            rw [List.isPrefixOf_cons_cons, Bool.and_eq_true] at g
            have : a = 120 := eq_of_beq g.1.1
            subst this
            simp at hp
        show 0 + expN (120 :: r) = 0
        unfold expN
        rw [z [69] (.inl rfl), z [101] (.inr rfl), z [69, 126] (.inl rfl), z [101, 126] (.inr rfl)]
        rfl
      unfold meas2 at h
      rw [e3, if_neg (by omega)] at h
      obtain ⟨_, hn⟩ := pair_eta h.symm
      have hn : n = d := hn
      rw [hn, e2] at hw
      exact absurd (show wordB 120 = false from hw) (by decide)
    have hz0 : preN [48, 120] hexB ((a.drop z).take (n - z) ++ v) = 0 := by
      unfold preN
      rw [if_neg]
      intro g
      rw [Bool.and_eq_true] at g
      by_cases h2 : 2 ≤ n - z
      · rw [pre_take (by simpa using h2) (by omega), hno] at g
        cases g.1
      · have e1 : n - z = 1 := by omega
        rw [e1] at g
        cases hl : a.drop z with
        | nil => rw [hl] at hdl; simp at hdl; omega
        | cons c r =>
          rw [hl] at g
          have g1 : ([48, 120] : List UInt8).isPrefixOf (c :: v) = true := g.1
          rw [List.isPrefixOf_cons_cons, Bool.and_eq_true] at g1
          cases v with
          | nil => exact absurd g1.2 (by simp)
          | cons x y =>
            have g2 := g1.2
            rw [List.isPrefixOf_cons_cons, Bool.and_eq_true] at g2
            have : (120 : UInt8) = x := eq_of_beq g2.1
            subst this
            exact absurd (show wordB 120 = false from vw) (by decide)
    rw [drop_take_app (by omega) hn2, hz0, if_neg (by omega), run_take (by omega) (by
      rcases Nat.lt_or_ge (runP digitB (a.drop z)) (n - z) with g | g
      · exact .inl g
      · exact .inr ⟨by omega, vd⟩), hd']
    unfold meas2 at h ⊢
    rw [drop_take_app hdn hn2]
    by_cases hp : 0 < partN (a.drop d)
    · rw [if_pos hp] at h
      obtain ⟨rfl, hn⟩ := pair_eta h.symm
      have hn : n = d + partN (a.drop d) := hn
      rw [show n - d = partN (a.drop d) by omega, partN_take hp vw, if_pos hp, ← hn]
    · rw [if_neg hp] at h
      obtain ⟨rfl, hn⟩ := pair_eta h.symm
      have hn : n = d := hn
      subst hn
      rw [Nat.sub_self, List.take_zero, List.nil_append]
      have e0 : preN [46] digitB v = 0 := by
        refine preN_zero fun g => ?_
        match v, g with
        | [], g => cases g.1
        | [x], g => cases g.2
        | x :: y :: r, g =>
          have : x = 46 := of_decide_eq_true g.1
          subst this
          obtain ⟨r', hr'⟩ := hv.pt y r rfl g.2
          have := preN_one (x := 46) (P := digitB) (l := a.drop n) (by rw [hr']; rfl) (by rw [hr']; exact g.2)
          unfold partN at hp
          omega
      have e1 : partN v = 0 := by unfold partN; rw [e0]; simp [exp_word vw]
      rw [e1, if_neg (by omega)]
theorem drop_len_app {l v : List UInt8} {n : Nat} (hn : n ≤ l.length) : (l.take n ++ v).drop n = v := by
  rw [drop_take_app (Nat.le_refl _) hn, Nat.sub_self]; rfl
theorem numR_less {a v : List UInt8} {k : Nat} {t : List UInt8} {q : List (List UInt8)} {n : Nat} (h : numR a = .got k t q n) (hd : begP digitB (a.drop (tildeN a)) = true) (hv : Less v (a.drop n)) : numR (a.take n ++ v) = .got k t q n := by
  have hle := measN_le a
  cases hm : measN a with
  | mk k' n' =>
    unfold numR at h
    rw [hm] at h hle
    split at h
    · cases h
    · rename_i hw
      have hw : begP wordB (a.drop n') = false := Bool.eq_false_iff.2 hw
      split at h
      · cases h
      · rename_i h4
        cases h
        have vw : begP wordB v = false := hv.beg (fun c g => (blank_nos c g).1) hw
        have e := measN_less hm hw hd hv
        unfold numR
        rw [e]
        show (if begP wordB ((a.take n' ++ v).drop n') = true then _ else if 4096 < n' then _ else Rd.got k' ((a.take n' ++ v).take n') [] n') = _
        rw [drop_len_app hle, vw, if_neg (by decide), if_neg h4, take_take_app (Nat.le_refl _) hle]
theorem nameN_less {l v : List UInt8} {n : Nat} (h1 : 1 ≤ n) (hn : n ≤ l.length) (h : nameN l < n ∨ (nameN l = n ∧ Less v (l.drop n))) : nameN (l.take n ++ v) = nameN l := by
  unfold nameN at h ⊢
  rw [begP_take h1 hn]
  split
  · rename_i g
    rw [if_pos g] at h
    refine run_take hn ?_
    rcases h with h | ⟨h, hv⟩
    · exact .inl h
    · exact .inr ⟨h, hv.beg (fun c g => (blank_nos c g).1) (by rw [← h]; exact beg_run _ _)⟩
  · rename_i g
    rw [if_neg g] at h
    refine run_take hn ?_
    rcases h with h | ⟨h, hv⟩
    · exact .inl h
    · exact .inr ⟨h, hv.beg (fun c g => (blank_nos c g).2.1) (by rw [← h]; exact beg_run _ _)⟩
theorem longF_less : ∀ (f : Nat) (p : List (List UInt8)) (m : Nat) (l v : List UInt8) (k : Nat) (t : List UInt8) (q : List (List UInt8)) (n : Nat), longF f p m l = .got k t q n → 1 ≤ nameN l → Less v (l.drop (n - m)) → ∀ f', (n - m) + v.length < f' → longF f' p m (l.take (n - m) ++ v) = .got k t q n := by
  intro f
  induction f with
  | zero => intro p m l v k t q n h; cases h
  | succ f ih =>
    intro p m l v k t q n h h1 hv f' hf
    obtain ⟨f', rfl⟩ : ∃ g, f' = g + 1 := ⟨f' - 1, by omega⟩
    have hle := longF_le _ _ _ _ _ _ _ _ h
    have hnm : n - m ≤ l.length := by omega
    unfold longF at h ⊢
    split at h
    · rename_i hc
      split at h
      · cases h
      · rename_i hno
        have hle2 := longF_le _ _ _ _ _ _ _ _ h
        have h0 : 1 ≤ nameN (l.drop (nameN l + 1)) := by omega
        have hl1 : (l.drop (nameN l + 1)).length = l.length - (nameN l + 1) := List.length_drop
        rw [nameN_less (by omega) hnm (.inl (by omega)), begP_take (by omega) hnm, drop_take_app (by omega) hnm, drop_take_app (by omega) hnm, begP_take (by omega) (by rw [List.length_drop]; omega), if_pos hc]
        have e1 : n - m - (nameN l + 1) = n - (m + (nameN l + 1)) := by omega
        have hv2 : Less v ((l.drop (nameN l + 1)).drop (n - (m + (nameN l + 1)))) := by
          rw [List.drop_drop, show nameN l + 1 + (n - (m + (nameN l + 1))) = n - m by omega]; exact hv
        have e2 : nameN ((l.drop (nameN l + 1)).take (n - (m + (nameN l + 1))) ++ v) = nameN (l.drop (nameN l + 1)) := by
          refine nameN_less (by omega) (by omega) ?_
          rcases Nat.lt_or_ge (nameN (l.drop (nameN l + 1))) (n - (m + (nameN l + 1))) with g | g
          · exact .inl g
          · exact .inr ⟨by omega, hv2⟩
        rw [e1, e2, take_take_app (by omega) (by omega), if_neg hno, take_take_app (by omega) hnm]
        exact ih _ _ _ _ _ _ _ _ h h0 hv2 _ (by omega)
    · rename_i hc
      cases h
      have e : m + nameN l - m = nameN l := by omega
      rw [e] at hv hnm ⊢
      rw [nameN_less h1 hnm (.inr ⟨rfl, hv⟩), begP_take h1 hnm, drop_len_app hnm, take_take_app (Nat.le_refl _) hnm, if_neg]
      intro hc2
      rw [Bool.and_eq_true] at hc2
      have : begP (fun c => decide (c = 46)) v = false := hv.beg (fun c g => decide_eq_false (blank_nos c g).2.2.2.2.2.1) (by
        cases hx : begP (fun c => decide (c = 46)) (l.drop (nameN l))
        · rfl
        · exact absurd (by rw [hc2.1, hx]; rfl) hc)
      rw [hc2.2] at this
      cases this
theorem tilde_digit {l : List UInt8} (g : begP digitB l = true) : tildeN l = 0 := by
  cases l with
  | nil => rfl
  | cons c r =>
    unfold tildeN
    rw [if_neg]
    intro x
    rw [List.isPrefixOf_cons_cons, Bool.and_eq_true] at x
    have : (126 : UInt8) = c := eq_of_beq x.1
    subst this
    exact absurd (show digitB 126 = true from g) (by decide)
theorem head_take {l v : List UInt8} {n : Nat} (h : 1 ≤ n) (hn : n ≤ l.length) : (l.take n ++ v).head? = l.head? := by
  cases l with
  | nil => simp at hn; omega
  | cons c r =>
    obtain ⟨m, rfl⟩ : ∃ m, n = m + 1 := ⟨n - 1, by omega⟩
    rfl
/-- A token that is no string goes on with nothing that v begins with. -/
theorem rdL_less {a v : List UInt8} {k : Nat} {t : List UInt8} {q : List (List UInt8)} {n : Nat} (h : rdL a = .got k t q n) (hk : k ≠ 0 ∧ k ≠ 6 ∧ k ≠ 7) (hv : Less v (a.drop n)) : rdL (a.take n ++ v) = .got k t q n := by
  obtain ⟨hn1, hn⟩ := rdL_le h
  have B : ∀ P, begP P (a.take n ++ v) = begP P a := fun P => begP_take hn1 hn
  unfold rdL at h ⊢
  simp only [B]
  by_cases g1 : begP lblankB a = true
  · rw [if_pos g1] at h; cases h; exact absurd rfl hk.1
  rw [if_neg g1] at h ⊢
  by_cases g2 : begP letterB a = true
  · rw [if_pos g2] at h ⊢
    have h1 : 1 ≤ nameN a := by
      unfold nameN; rw [if_pos g2]; refine runP_pos ?_
      cases a with
      | nil => cases g2
      | cons c r => exact letter_word c g2
    unfold wordR at h ⊢
    by_cases g : resL (a.take (nameN a)) = true
    · rw [if_pos g] at h
      cases h
      rw [nameN_less h1 hn (.inr ⟨rfl, hv⟩), take_take_app (Nat.le_refl _) hn, if_pos g]
      unfold cutR
      rw [take_take_app (Nat.le_refl _) hn]
    · rw [if_neg g] at h
      have hle := longF_le _ _ _ _ _ _ _ _ h
      have e : nameN (a.take n ++ v) = nameN a := by
        refine nameN_less hn1 hn ?_
        rcases Nat.lt_or_ge (nameN a) n with x | x
        · exact .inl x
        · exact .inr ⟨by omega, hv⟩
      rw [e, take_take_app (by omega) hn, if_neg g]
      have := longF_less _ _ _ _ v _ _ _ _ h h1 (by rw [Nat.sub_zero]; exact hv) ((a.take n ++ v).length + 1) (by rw [List.length_append, List.length_take]; omega)
      rw [Nat.sub_zero] at this
      exact this
  rw [if_neg g2] at h ⊢
  by_cases g3 : begP digitB a = true
  · rw [if_pos g3] at h ⊢
    exact numR_less h (by rw [tilde_digit g3]; exact g3) hv
  rw [if_neg g3] at h ⊢
  by_cases g4 : begP signB a = true
  · rw [if_pos g4] at h ⊢
    have beh : ∀ P : UInt8 → Bool, (∀ c, lblankB c = true → P c = false) → begP P (a.drop 1) = false → begP P ((a.take n ++ v).drop 1) = false := by
      intro P hP hf
      rw [drop_take_app hn1 hn]
      by_cases g : n = 1
      · subst g
        rw [Nat.sub_self, List.take_zero, List.nil_append]
        exact hv.beg hP hf
      · rw [begP_take (by omega) (by rw [List.length_drop]; omega)]; exact hf
    unfold sigR at h ⊢
    rw [head_take hn1 hn]
    by_cases s1 : a.head? = some 126 ∧ begP digitB (a.drop 1) = true
    · rw [if_pos s1] at h
      have hd : begP digitB (a.drop (tildeN a)) = true := by
        cases a with
        | nil => cases g4
        | cons c r =>
          have : c = 126 := by simpa using s1.1
          subst this
          exact s1.2
      have hn2 : 2 ≤ n := by
        have e : tildeN a = 1 := by
          cases a with
          | nil => cases g4
          | cons c r =>
            have : c = 126 := by simpa using s1.1
            subst this
            rfl
        have hm : 2 ≤ (measN a).2 := by
          unfold measN
          rw [e] at hd ⊢
          have h4 := runP_pos hd
          have h3 := runP_le digitB (a.drop 1)
          rw [List.length_drop] at h3
          split
          · rename_i h5; show 2 ≤ 1 + preN [48, 120] hexB (a.drop 1); omega
          · have := (meas2_le a (1 + runP digitB (a.drop 1)) (by omega)).2; omega
        unfold numR at h
        split at h
        · cases h
        · split at h
          · cases h
          · cases h; exact hm
      rw [if_pos ⟨s1.1, by rw [drop_take_app hn1 hn, begP_take (by omega) (by rw [List.length_drop]; omega)]; exact s1.2⟩]
      exact numR_less h hd hv
    rw [if_neg s1] at h
    have s1' : ¬ (a.head? = some 126 ∧ begP digitB ((a.take n ++ v).drop 1) = true) := by
      intro x
      by_cases y : begP digitB (a.drop 1) = true
      · exact s1 ⟨x.1, y⟩
      · rw [beh digitB (fun c g => (blank_nos c g).2.2.1) (Bool.eq_false_iff.2 y)] at x; cases x.2
    rw [if_neg s1']
    by_cases s2 : a.head? = some 35 ∧ begP (fun c => decide (c = 34)) (a.drop 1) = true
    · rw [if_pos s2] at h
      unfold chrR at h
      split at h
      · cases h
      · split at h
        · cases h; exact absurd rfl hk.2.2
        · cases h
    rw [if_neg s2] at h
    have s2' : ¬ (a.head? = some 35 ∧ begP (fun c => decide (c = 34)) ((a.take n ++ v).drop 1) = true) := by
      intro x
      by_cases y : begP (fun c => decide (c = 34)) (a.drop 1) = true
      · exact s2 ⟨x.1, y⟩
      · rw [beh (fun c => decide (c = 34)) (fun c g => decide_eq_false (blank_nos c g).2.2.2.2.2.2.1) (Bool.eq_false_iff.2 y)] at x; cases x.2
    rw [if_neg s2']
    have hs : runP signB a = n := by
      split at h
      · cases h; rfl
      · cases h; rfl
    have e : runP signB (a.take n ++ v) = n := by
      rw [run_take hn (.inr ⟨hs, hv.beg (fun c g => (blank_nos c g).2.1) (by rw [← hs]; exact beg_run _ _)⟩), hs]
    rw [e, take_take_app (Nat.le_refl _) hn]
    rw [hs] at h
    unfold cutR at h ⊢
    rw [take_take_app (Nat.le_refl _) hn]
    exact h
  rw [if_neg g4] at h ⊢
  by_cases g5 : begP (fun c => decide (c = 40)) a = true
  · rw [if_pos g5] at h ⊢
    unfold parR at h ⊢
    by_cases s1 : ([40, 42] : List UInt8).isPrefixOf a = true
    · rw [if_pos s1] at h
      split at h
      · cases h
      · cases h; exact absurd rfl hk.1
    · rw [if_neg s1] at h
      cases h
      rw [if_neg]
      · unfold cutR; rw [take_take_app (Nat.le_refl _) hn]
      · intro x
        cases a with
        | nil => cases g5
        | cons c r =>
          have : c = 40 := of_decide_eq_true g5
          subst this
          have x : ([40, 42] : List UInt8).isPrefixOf (40 :: v) = true := x
          cases v with
          | nil => exact absurd x (by decide)
          | cons y z =>
            have hy0 : 42 = y := by simpa using x
            have hy : y = 42 := hy0.symm
            subst hy
            rcases hv.hd 42 z rfl with b | ⟨r', hr'⟩
            · exact absurd b (by decide)
            · have hr' : r = 42 :: r' := hr'
              rw [hr'] at s1
              exact s1 (by simp)
  rw [if_neg g5] at h ⊢
  by_cases g6 : begP aloneB a = true
  · rw [if_pos g6] at h ⊢
    cases h
    unfold cutR
    rw [take_take_app (Nat.le_refl _) hn]
  rw [if_neg g6] at h ⊢
  by_cases g7 : begP (fun c => decide (c = 46)) a = true
  · rw [if_pos g7] at h ⊢
    unfold poiR at h ⊢
    split at h
    · rename_i s1
      cases h
      rw [pre_take (by simp) hn, if_pos s1]
      unfold cutR
      rw [take_take_app (Nat.le_refl _) hn]
    · cases h
  rw [if_neg g7] at h ⊢
  by_cases g8 : begP (fun c => decide (c = 39)) a = true
  · rw [if_pos g8] at h ⊢
    cases h
    rw [run_take hn (.inr ⟨rfl, hv.beg (fun c g => (blank_nos c g).1) (beg_run _ _)⟩)]
    unfold cutR
    rw [take_take_app (Nat.le_refl _) hn]
  rw [if_neg g8] at h ⊢
  by_cases g9 : begP (fun c => decide (c = 34)) a = true
  · rw [if_pos g9] at h
    unfold strR at h
    split at h
    · cases h
    · split at h
      · cases h
      · cases h; exact absurd rfl hk.2.1
  · rw [if_neg g9] at h; cases h
end Go.Proofs.YtgcbkjfckmjgeaaGreatDoor
/- Tokens of texts one behind the other. No program is named here. -/
namespace Go.Proofs.YtgcbkjfckmjgeaaGreatDoor

theorem quoF_ext : ∀ (f i : Nat) (acc l m t : List UInt8) (n : Nat), quoF f i acc l = some (t, n) → ∀ f', l.length ≤ f' → quoF f' i acc (l ++ m) = some (t, n) := by
  intro f
  induction f with
  | zero => intro i acc l m t n h; cases h
  | succ f ih =>
    intro i acc l m t n h f' hf
    cases l with
    | nil => cases h
    | cons c r =>
      obtain ⟨f', rfl⟩ : ∃ g, f' = g + 1 := ⟨f' - 1, by simp at hf; omega⟩
      rw [List.cons_append]
      unfold quoF at h ⊢
      split at h
      · rename_i g; rw [if_pos g]; exact h
      · rename_i g
        rw [if_neg g]
        split at h
        · cases h
        · rename_i g2
          have e1 : stepN (c :: (r ++ m)) = stepN (c :: r) := stepN_app (l := c :: r) g2
          have e2 : stepO (c :: (r ++ m)) = stepO (c :: r) := stepO_app (l := c :: r) g2
          have hle := stepN_le (c :: r)
          rw [e1, e2, if_neg g2, ← List.cons_append, List.drop_append_of_le_length hle]
          refine ih _ _ _ _ _ _ h _ ?_
          rw [List.length_drop]
          simp only [List.length_cons] at hf ⊢
          omega
theorem quoN_ext {l m t : List UInt8} {n : Nat} (h : quoN l = some (t, n)) : quoN (l ++ m) = some (t, n) := by
  have hle := quoN_le h
  unfold quoN at h ⊢
  rw [List.drop_append_of_le_length (by omega)]
  exact quoF_ext _ _ _ _ _ _ _ h _ (by rw [List.length_drop, List.length_append]; omega)
theorem comG_ext : ∀ (f i : Nat) (o : Int) (l m : List UInt8), comG f i o l ≠ 0 → ∀ f', l.length ≤ f' → comG f' i o (l ++ m) = comG f i o l := by
  intro f
  induction f with
  | zero => intro i o l m h; exact absurd (by unfold comG; rfl) h
  | succ f ih =>
    intro i o l m h f' hf
    match l, h, hf with
    | [], h, _ => exact absurd rfl h
    | [_], h, _ => exact absurd rfl h
    | a :: b :: r, h, hf =>
      obtain ⟨f', rfl⟩ : ∃ g, f' = g + 1 := ⟨f' - 1, by simp at hf; omega⟩
      simp only [List.length_cons] at hf
      rw [List.cons_append, List.cons_append]
      unfold comG at h ⊢
      by_cases c1 : a.toNat = 40 ∧ b.toNat = 42
      · rw [if_pos c1] at h ⊢
        rw [if_pos c1]
        by_cases c2 : o + 1 = 0
        · rw [if_pos c2, if_pos c2]
        · rw [if_neg c2] at h ⊢
          rw [if_neg c2]
          exact ih _ _ _ _ h _ (by omega)
      · rw [if_neg c1] at h ⊢
        rw [if_neg c1]
        by_cases c3 : a.toNat = 42 ∧ b.toNat = 41
        · rw [if_pos c3] at h ⊢
          rw [if_pos c3]
          by_cases c2 : o - 1 = 0
          · rw [if_pos c2, if_pos c2]
          · rw [if_neg c2] at h ⊢
            rw [if_neg c2]
            exact ih _ _ _ _ h _ (by omega)
        · rw [if_neg c3] at h ⊢
          rw [if_neg c3]
          exact ih _ _ (b :: r) _ h _ (by simp; omega)
theorem comL_ext {l m : List UInt8} (h : comL l ≠ 0) : comL (l ++ m) = comL l := comG_ext _ _ _ _ _ h _ (by simp)
theorem pre_ext {p l m : List UInt8} (h : p.isPrefixOf l = true) : p.isPrefixOf (l ++ m) = true := List.isPrefixOf_iff_prefix.2 ((List.isPrefixOf_iff_prefix.1 h).trans (List.prefix_append _ _))
/-- A token, whatever it is, goes on with nothing that stands behind. -/
theorem rdL_ext {a m : List UInt8} {k : Nat} {t : List UInt8} {q : List (List UInt8)} {n : Nat} (hb : begP lblankB a = false) (h : rdL a = .got k t q n) (hv : Less (a.drop n ++ m) (a.drop n)) : rdL (a ++ m) = .got k t q n := by
  by_cases hk : k ≠ 0 ∧ k ≠ 6 ∧ k ≠ 7
  · have := rdL_less h hk hv
    rwa [← List.append_assoc, List.take_append_drop] at this
  have hn := rdL_le h
  have B : ∀ P, begP P (a ++ m) = begP P a := by
    intro P
    cases a with
    | nil => simp at hn; omega
    | cons c r => rfl
  have nk : ∀ {k' t' q' n'}, Rd.got k t q n = Rd.got k' t' q' n' → k' ≠ 0 → k' ≠ 6 → k' ≠ 7 → False := by
    intro k' t' q' n' e h1 h2 h3
    cases e
    exact hk ⟨h1, h2, h3⟩
  have nm : ¬ numR a = .got k t q n := by
    intro h
    have : (measN a).1 = 4 ∨ (measN a).1 = 5 := by
      unfold measN
      split
      · exact .inl rfl
      · unfold meas2
        split
        · exact .inr rfl
        · exact .inl rfl
    unfold numR at h
    split at h
    · cases h
    · split at h
      · cases h
      · exact nk h.symm (by omega) (by omega) (by omega)
  unfold rdL at h ⊢
  simp only [B]
  rw [if_neg (by rw [hb]; decide)] at h ⊢
  by_cases g2 : begP letterB a = true
  · rw [if_pos g2] at h
    unfold wordR at h
    split at h
    · exact (nk h.symm (by decide) (by decide) (by decide)).elim
    · have := (longF_le _ _ _ _ _ _ _ _ h).1
      subst this
      exact absurd ⟨by decide, by decide, by decide⟩ hk
  rw [if_neg g2] at h ⊢
  by_cases g3 : begP digitB a = true
  · rw [if_pos g3] at h; exact absurd h nm
  rw [if_neg g3] at h ⊢
  by_cases g4 : begP signB a = true
  · rw [if_pos g4] at h ⊢
    unfold sigR at h ⊢
    by_cases s1 : a.head? = some 126 ∧ begP digitB (a.drop 1) = true
    · rw [if_pos s1] at h; exact absurd h nm
    rw [if_neg s1] at h
    by_cases s2 : a.head? = some 35 ∧ begP (fun c => decide (c = 34)) (a.drop 1) = true
    · rw [if_pos s2] at h
      have ha : 1 ≤ a.length := by cases a with
        | nil => cases g4
        | cons c r => simp
      have hh : (a ++ m).head? = some 35 := by
        cases a with
        | nil => cases g4
        | cons c r => exact s2.1
      have hd : begP (fun c => decide (c = 34)) ((a ++ m).drop 1) = true := by
        rw [List.drop_append_of_le_length ha]
        have := s2.2
        cases hx : a.drop 1 with
        | nil => rw [hx] at this; cases this
        | cons c r => rw [hx] at this; exact this
      rw [if_neg (by rw [hh]; intro x; exact absurd x.1 (by decide)), if_pos ⟨hh, hd⟩]
      unfold chrR at h ⊢
      cases e : quoN (a.drop 1) with
      | none => rw [e] at h; cases h
      | some p =>
        obtain ⟨t', n'⟩ := p
        rw [e] at h
        rw [List.drop_append_of_le_length ha, quoN_ext e]
        exact h
    rw [if_neg s2] at h
    split at h
    · exact (nk h.symm (by decide) (by decide) (by decide)).elim
    · exact (nk h.symm (by decide) (by decide) (by decide)).elim
  rw [if_neg g4] at h ⊢
  by_cases g5 : begP (fun c => decide (c = 40)) a = true
  · rw [if_pos g5] at h ⊢
    unfold parR at h ⊢
    by_cases s1 : ([40, 42] : List UInt8).isPrefixOf a = true
    · rw [if_pos s1] at h
      rw [if_pos (pre_ext s1)]
      by_cases c : comL a = 0
      · rw [if_pos c] at h; cases h
      · rw [if_neg c] at h
        rw [comL_ext c, if_neg c]
        exact h
    · rw [if_neg s1] at h
      exact (nk h.symm (by decide) (by decide) (by decide)).elim
  rw [if_neg g5] at h ⊢
  by_cases g6 : begP aloneB a = true
  · rw [if_pos g6] at h
    exact (nk h.symm (by decide) (by decide) (by decide)).elim
  rw [if_neg g6] at h ⊢
  by_cases g7 : begP (fun c => decide (c = 46)) a = true
  · rw [if_pos g7] at h
    unfold poiR at h
    split at h
    · exact (nk h.symm (by decide) (by decide) (by decide)).elim
    · cases h
  rw [if_neg g7] at h ⊢
  by_cases g8 : begP (fun c => decide (c = 39)) a = true
  · rw [if_pos g8] at h
    exact (nk h.symm (by decide) (by decide) (by decide)).elim
  rw [if_neg g8] at h ⊢
  by_cases g9 : begP (fun c => decide (c = 34)) a = true
  · rw [if_pos g9] at h ⊢
    unfold strR at h ⊢
    cases e : quoN a with
    | none => rw [e] at h; cases h
    | some p =>
      obtain ⟨t', n'⟩ := p
      rw [e] at h
      rw [quoN_ext e]
      exact h
  · rw [if_neg g9] at h; cases h

/-- One blank is a step by itself. -/
theorem scanP_blank (p : Nat × Nat) (c : UInt8) (r : List UInt8) (h : lblankB c = true) : scanP p (c :: r) = scanP (stepP p c) r := by
  have e1 : rdL (c :: r) = .got 0 [] [] (runP lblankB r + 1) := by
    unfold rdL
    rw [if_pos (show begP lblankB (c :: r) = true from h)]
    unfold runP
    rw [List.takeWhile_cons, if_pos h, List.length_cons]
  rw [scanP_got e1, if_pos rfl, List.take_succ_cons, List.drop_succ_cons]
  show (scanP (placeL (stepP p c) (r.take (runP lblankB r))) (r.drop (runP lblankB r))) = _
  cases hr : begP lblankB r
  · rw [runP_zero hr]; rfl
  · have e2 : rdL r = .got 0 [] [] (runP lblankB r) := by unfold rdL; rw [if_pos hr]
    rw [scanP_got e2, if_pos rfl]
theorem less_blank (u : List UInt8) {b : UInt8} (y : List UInt8) (h : lblankB b = true) : Less (u ++ b :: y) u := by
  constructor
  · intro c r e
    cases u with
    | nil => cases e; exact .inl h
    | cons d s => cases e; exact .inr ⟨s, rfl⟩
  · intro c r e hd
    cases u with
    | nil =>
      have : b = 46 := by injection e
      subst this
      exact absurd h (by decide)
    | cons d s =>
      cases s with
      | nil =>
        have e2 : [d] ++ b :: y = d :: b :: y := rfl
        rw [e2] at e
        injection e with e3 e4
        injection e4 with e5 e6
        subst e5
        rw [(blank_nos _ h).2.2.1] at hd
        cases hd
      | cons d2 s2 =>
        injection e with e3 e4
        injection e4 with e5 e6
        subst e3 e5
        exact ⟨s2, rfl⟩
/-- A text behind a right one and a blank is scanned by itself. -/
theorem scan_app : ∀ (f : Nat) (p : Nat × Nat) (a : List UInt8) (b : UInt8) (y : List UInt8), a.length ≤ f → lblankB b = true → (scanP p a).2 = none → scanP p (a ++ b :: y) = ((scanP p a).1 ++ (scanP (placeL p (a ++ [b])) y).1, (scanP (placeL p (a ++ [b])) y).2) := by
  intro f
  induction f with
  | zero =>
    intro p a b y hf hb _
    obtain rfl : a = [] := List.eq_nil_of_length_eq_zero (by omega)
    rw [List.nil_append, scanP_blank _ _ _ hb]
    rfl
  | succ f ih =>
    intro p a b y hf hb ho
    cases a with
    | nil => rw [List.nil_append, scanP_blank _ _ _ hb]; rfl
    | cons c r =>
      by_cases hc : lblankB c = true
      · rw [List.cons_append, scanP_blank _ _ _ hc, scanP_blank _ _ _ hc]
        rw [scanP_blank _ _ _ hc] at ho
        exact ih _ _ _ _ (by simp at hf; omega) hb ho
      · cases e : rdL (c :: r) with
        | bad e' => rw [scanP_bad (by simp) e] at ho; cases ho
        | got k t q n =>
          have hn := rdL_le e
          have e2 := rdL_ext (m := b :: y) (show begP lblankB (c :: r) = false from Bool.eq_false_iff.2 hc) e (less_blank _ _ hb)
          rw [scanP_got e] at ho
          rw [scanP_got e, scanP_got e2]
          have i1 := ih (placeL p ((c :: r).take n)) ((c :: r).drop n) b y (by rw [List.length_drop]; omega) hb ho
          rw [List.drop_append_of_le_length hn.2, List.take_append_of_le_length hn.2, i1]
          have e3 : placeL (placeL p ((c :: r).take n)) ((c :: r).drop n ++ [b]) = placeL p (c :: r ++ [b]) := by
            rw [← placeL_app, ← List.append_assoc, List.take_append_drop]
          rw [e3]
          by_cases k0 : k = 0
          · rw [if_pos k0, if_pos k0]
          · rw [if_neg k0, if_neg k0]; rfl
end Go.Proofs.YtgcbkjfckmjgeaaGreatDoor
