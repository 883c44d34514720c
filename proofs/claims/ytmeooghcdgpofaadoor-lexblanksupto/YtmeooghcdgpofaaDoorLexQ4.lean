/- Blanks and comments between tokens change nothing but places: on lists of bytes. -/
import Derived.Test.YtmeooghcdgpofaaDoorLexQ3
namespace Go.Proofs.YtmeooghcdgpofaaDoor

/-- A word that may stand in a comment here. -/
def NoCom (w : List UInt8) : Prop := ∀ c ∈ w, c.toNat ≠ 42 ∧ c.toNat ≠ 40 ∧ c.toNat ≠ 41
theorem comG_word : ∀ (w : List UInt8) (f i : Nat) (o : Int) (a b : UInt8) (r : List UInt8), NoCom w → comG (f + w.length) i o (w ++ a :: b :: r) = comG f (i + w.length) o (a :: b :: r) := by
  intro w
  induction w with
  | nil => intro f i o a b r _; rfl
  | cons c u ih =>
    intro f i o a b r h
    have hc := h c (List.mem_cons_self ..)
    have hu : NoCom u := fun d hd => h d (List.mem_cons_of_mem _ hd)
    have e : f + (c :: u).length = (f + u.length) + 1 := by simp; omega
    have i1 := ih f (i + 1) o a b r hu
    rw [e, show i + (c :: u).length = i + 1 + u.length by simp; omega, ← i1]
    cases u with
    | nil =>
      show comG (f + 0 + 1) i o (c :: a :: b :: r) = _
      conv => lhs; unfold comG
      rw [if_neg (by omega), if_neg (by omega)]
      rfl
    | cons d v =>
      show comG (f + (d :: v).length + 1) i o (c :: d :: (v ++ a :: b :: r)) = _
      conv => lhs; unfold comG
      rw [if_neg (by omega), if_neg (by omega)]
      rfl
/-- What stands behind each token: the end of its line, and a comment with a comment in it. -/
def comW (w : List UInt8) : List UInt8 := 40 :: 42 :: (w ++ 40 :: 42 :: 42 :: 41 :: (w ++ [42, 41]))
theorem comW_len (w : List UInt8) : (comW w).length = 2 * w.length + 8 := by simp [comW]; omega
theorem comL_comW (w : List UInt8) (h : NoCom w) (more : List UInt8) : comL (comW w ++ more) = (comW w).length := by
  have e : comW w ++ more = 40 :: 42 :: (w ++ 40 :: 42 :: (42 :: 41 :: (w ++ 42 :: 41 :: more))) := by simp [comW]
  have hl : (comW w ++ more).length = ((((((more.length + 4) + 1) + w.length) + 1) + 1) + w.length) + 1 := by rw [List.length_append, comW_len]; omega
  have s1 : ∀ f i o r, comG (f + 1) i o (40 :: 42 :: r) = if o + 1 = 0 then i + 2 else comG f (i + 2) (o + 1) r := by
    intro f i o r; conv => lhs; unfold comG
    rw [if_pos ⟨rfl, rfl⟩]
  have s2 : ∀ f i o r, comG (f + 1) i o (42 :: 41 :: r) = if o - 1 = 0 then i + 2 else comG f (i + 2) (o - 1) r := by
    intro f i o r; conv => lhs; unfold comG
    rw [if_neg (by rintro ⟨h, _⟩; exact absurd h (by decide)), if_pos ⟨rfl, rfl⟩]
  unfold comL
  rw [hl, e, comW_len]
  rw [s1, if_neg (by decide), comG_word w _ _ _ _ _ _ h, s1, if_neg (by decide), s2, if_neg (by decide), comG_word w _ _ _ _ _ _ h, s2, if_pos (by decide)]
  omega
theorem rdL_comW (w : List UInt8) (h : NoCom w) (more : List UInt8) : rdL (comW w ++ more) = .got 0 [] [] (comW w).length := by
  have hc := comL_comW w h more
  have e : comW w ++ more = 40 :: 42 :: ((w ++ 40 :: 42 :: 42 :: 41 :: (w ++ [42, 41])) ++ more) := rfl
  unfold rdL
  have b : ∀ P : UInt8 → Bool, begP P (comW w ++ more) = P 40 := fun _ => rfl
  simp only [b]
  rw [if_neg (by decide), if_neg (by decide), if_neg (by decide), if_neg (by decide), if_pos (by decide)]
  unfold parR
  have hp : ([40, 42] : List UInt8).isPrefixOf (comW w ++ more) = true := by rw [e]; rfl
  rw [if_pos hp, hc, if_neg (by rw [comW_len]; omega)]
/-- One token with its blanks and its comment. -/
def partW (w x : List UInt8) : List UInt8 := 9 :: (x ++ 13 :: 10 :: comW w)
theorem partW_scan (w : List UInt8) (h : NoCom w) (x more : List UInt8) (t : ITok) (p : Nat × Nat) (h1 : (scanP (1, 1) x).2 = none) (h2 : AlikeL (scanP (1, 1) x).1 [t]) :
    ∃ ts q, AlikeL ts [t] ∧ scanP p (partW w x ++ more) = (ts ++ (scanP q more).1, (scanP q more).2) := by
  have e : partW w x ++ more = 9 :: (x ++ 13 :: (10 :: (comW w ++ more))) := by simp [partW]
  rw [e, scanP_blank _ _ _ (by decide)]
  have hx := (scanP_place (1, 1) (stepP p 9) x)
  rw [scan_app _ _ x 13 _ (Nat.le_refl _) (by decide) (hx.2 h1), scanP_blank _ 10 _ (by decide), scanP_got (rdL_comW w h more), if_pos rfl, List.drop_append_of_le_length (Nat.le_refl _), List.drop_length, List.nil_append]
  exact ⟨_, _, hx.1.alike h2, rfl⟩
/-- All tokens so. -/
def blankF (w : List UInt8) : List ITok → List UInt8
  | [] => []
  | t :: r => partW w (writeL t.kind t.text t.path).1 ++ blankF w r
theorem blankF_snoc (w : List UInt8) (l : List ITok) (t : ITok) : blankF w (l ++ [t]) = blankF w l ++ partW w (writeL t.kind t.text t.path).1 := by
  induction l with
  | nil => simp [blankF]
  | cons a r ih => show _ ++ blankF w (r ++ [t]) = _; rw [ih, ← List.append_assoc]; rfl
theorem blank_scan (w : List UInt8) (h : NoCom w) : ∀ (l : List ITok) (p : Nat × Nat), (∀ t ∈ l, (writeL t.kind t.text t.path).2 = 0) → (scanP p (blankF w l)).2 = none ∧ AlikeL (scanP p (blankF w l)).1 l := by
  intro l
  induction l with
  | nil => intro p _; exact ⟨rfl, trivial⟩
  | cons t r ih =>
    intro p hw
    have ht : writeL t.kind t.text t.path = ((writeL t.kind t.text t.path).1, 0) := by rw [← hw t (List.mem_cons_self ..)]
    obtain ⟨s1, s2, _⟩ := write_scan ht
    obtain ⟨ts, q, a1, a2⟩ := partW_scan w h _ (blankF w r) t p s1 (alike_one s2)
    show (scanP p (partW w _ ++ blankF w r)).2 = none ∧ AlikeL (scanP p (partW w _ ++ blankF w r)).1 (t :: r)
    rw [a2]
    have i := ih q fun u hu => hw u (List.mem_cons_of_mem _ hu)
    exact ⟨i.1, AlikeL.app a1 i.2⟩
/-- Tokens that are joined can each be written. -/
theorem join_all : ∀ (l : List ITok) (lng : Bool) (acc gap s : List UInt8), joinF lng acc gap l = (s, 0) → ∀ t ∈ l, (writeL t.kind t.text t.path).2 = 0 := by
  intro l
  induction l with
  | nil => intro lng acc gap s _ t ht; cases ht
  | cons a r ih =>
    intro lng acc gap s h t ht
    obtain ⟨x, e, hw⟩ : ∃ x e, writeL a.kind a.text a.path = (x, e) := ⟨_, _, rfl⟩
    rw [joinF_cons _ _ _ _ _ x e hw] at h
    by_cases he : e ≠ 0
    · rw [if_pos he] at h; exact absurd (congrArg Prod.snd h) he
    · rw [if_neg he] at h
      rcases List.mem_cons.1 ht with rfl | ht
      · rw [hw]; show e = 0; omega
      · split at h
        · exact ih _ _ _ _ h t ht
        · exact ih _ _ _ _ h t ht
end Go.Proofs.YtmeooghcdgpofaaDoor
