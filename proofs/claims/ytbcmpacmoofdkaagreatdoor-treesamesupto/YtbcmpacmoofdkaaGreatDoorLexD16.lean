/- Rows of tokens in memory. -/
import Derived.Test.YtbcmpacmoofdkaaGreatDoorProg
import Derived.Test.YtbcmpacmoofdkaaGreatDoorLexD14
import Derived.WalkKit
import Derived.ProofKit
import Derived.OpenShut
import Derived.Below
import Derived.WalkLawsBesides
import Derived.OwnWalk
import Derived.Deep.MidRow
import Derived.Deep.RegionHeld
namespace Go.Proofs.YtbcmpacmoofdkaaGreatDoor
open Go.ChangeShapes Go.WideShapes Go.ChangeAt Go.RowKit

theorem infoTok3 : (Tryz.prog.info? 72).map (fun i => (i.zero, i.size, i.bytes)) = some (some (.agg #[.int .i64 0, .string ⟨#[]⟩, .slice none 0 0, .int .i64 0, .int .i64 0]), 5, 64) := by kernel_rfl
/-- The cells of tokens, their paths given. -/
def tokCells : List Tok → List Value → List Value
  | t :: r, p :: ps => .int .i64 (t.kind : Int) :: .string ⟨t.text.toArray⟩ :: p :: .int .i64 (t.line : Int) :: .int .i64 (t.column : Int) :: tokCells r ps
  | _, _ => []
def PathsOk (B : Nat) (w : World) : List Tok → List Value → Prop
  | [], [] => True
  | t :: r, p :: ps => OwnS B p t.path w ∧ PathsOk B w r ps
  | _, _ => False
def TokRow (B : Nat) (v : Value) (l : List Tok) (w : World) : Prop := ∃ ps, PathsOk B w l ps ∧ w.ownsRow B 72 5 v l.length (tokCells l ps)
theorem tokRow_nil (B : Nat) (w : World) : TokRow B (.slice none 0 0) [] w := ⟨[], trivial, World.ownsRow_nil _ _ _ _⟩
theorem tokRow_slice {B : Nat} {v : Value} {l : List Tok} {w : World} (h : TokRow B v l w) : ∃ ao cap, v = .slice ao l.length cap := by
  obtain ⟨ps, _, h⟩ := h
  rcases h.2 with ⟨hv, h0⟩ | ⟨g, cap, cur, hv, _⟩
  · exact ⟨none, 0, by rw [hv, h0]⟩
  · exact ⟨_, _, hv⟩
theorem PathsOk.mono {B : Nat} {w w' : World} : ∀ {l : List Tok} {ps : List Value}, (∀ p q, OwnS B p q w → OwnS B p q w') → PathsOk B w l ps → PathsOk B w' l ps
  | [], [], _, _ => trivial
  | _ :: _, _ :: _, f, h => ⟨f _ _ h.1, PathsOk.mono f h.2⟩
  | [], _ :: _, _, h => h.elim
  | _ :: _, [], _, h => h.elim
theorem PathsOk.snoc {B : Nat} {w : World} {t : Tok} {p : Value} : ∀ {l : List Tok} {ps : List Value}, PathsOk B w l ps → OwnS B p t.path w → PathsOk B w (l ++ [t]) (ps ++ [p])
  | [], [], _, h => ⟨h, trivial⟩
  | _ :: _, _ :: _, h, g => ⟨h.1, PathsOk.snoc h.2 g⟩
  | [], _ :: _, h, _ => h.elim
  | _ :: _, [], h, _ => h.elim
theorem PathsOk.length {B : Nat} {w : World} : ∀ {l : List Tok} {ps : List Value}, PathsOk B w l ps → ps.length = l.length
  | [], [], _ => rfl
  | _ :: _, _ :: _, h => by rw [List.length_cons, List.length_cons, PathsOk.length h.2]
  | [], _ :: _, h => h.elim
  | _ :: _, [], h => h.elim
theorem tokCells_snoc {t : Tok} {p : Value} : ∀ {l : List Tok} {ps : List Value}, ps.length = l.length → tokCells (l ++ [t]) (ps ++ [p]) = tokCells l ps ++ [.int .i64 (t.kind : Int), .string ⟨t.text.toArray⟩, p, .int .i64 (t.line : Int), .int .i64 (t.column : Int)]
  | [], [], _ => rfl
  | a :: l, b :: ps, h => by
    have := tokCells_snoc (t := t) (p := p) (l := l) (ps := ps) (by simpa using h)
    show _ :: _ :: _ :: _ :: _ :: tokCells (l ++ [t]) (ps ++ [p]) = _
    rw [this]; rfl
  | [], _ :: _, h => by simp at h
  | _ :: _, [], h => by simp at h
/-- Rows stay where a call only lays new blocks. -/
theorem tokRow_below {B : Nat} {v : Value} {l : List Tok} {w w' : World} (h : TokRow B v l w) (b : Below w.heap.size w w') : TokRow B v l w' := by
  obtain ⟨ps, h1, h2⟩ := h
  refine ⟨ps, PathsOk.mono (fun p q hq => ownS_below hq b) h1, h2.1, ?_⟩
  rcases h2.2 with h0 | ⟨g, cap, cur, hv, hb, hg, hr⟩
  · exact .inl h0
  · refine .inr ⟨g, cap, cur, hv, hb, ?_, hr⟩
    rw [b.block g (by rcases Nat.lt_or_ge g w.heap.size with x | x
                      · exact x
                      · rw [Array.getElem?_eq_none x] at hg; cases hg)]
    exact hg
/-- A row of tokens stays where cells of an elder block are written. -/
theorem tokRow_set {B b k : Nat} {v u : Value} {l : List Tok} {w : World} (h : TokRow B v l w) (hb : b < B) : TokRow B v l (w.setCell ⟨b, k, none⟩ u) := by
  obtain ⟨ps, h1, h2⟩ := h
  refine ⟨ps, PathsOk.mono (fun p q hq => ownS_set hq hb) h1, h2.1, ?_⟩
  rcases h2.2 with h0 | ⟨g, cap, cur, hv, hg, hw, hr⟩
  · exact .inl h0
  · refine .inr ⟨g, cap, cur, hv, hg, ?_, hr⟩
    rw [Below.heap_setCell _ _ _ _ (by show g ≠ b; omega)]
    exact hw
end Go.Proofs.YtbcmpacmoofdkaaGreatDoor
/- The program's scanner: what Scan answers, made ready. -/
namespace Go.Proofs.YtbcmpacmoofdkaaGreatDoor
open Go.ChangeShapes Go.WideShapes Go.ChangeAt Go.RowKit

theorem ownS_grown {B n : Nat} {p v : Value} {q : List (List UInt8)} {xs : List Value} {w w' : World} (h : OwnS B p q w) (hv : w.ownsRow B 72 5 v n xs) (g : w.grownBy w' v.ownBlock) : OwnS B p q w' := by
  refine ⟨h.1, ?_⟩
  rcases h.2 with h0 | ⟨b, cap, cur, hp, hb, hw, hr⟩
  · exact .inl h0
  · refine .inr ⟨b, cap, cur, hp, hb, ?_, hr⟩
    have hlt : b < w.heap.size := by
      rcases Nat.lt_or_ge b w.heap.size with x | x
      · exact x
      · rw [Array.getElem?_eq_none x] at hw; cases hw
    rw [g.block b hlt ?_]
    · exact hw
    · intro e
      rcases hv.2 with ⟨h1, _⟩ | ⟨b2, cap2, cur2, h1, _, hw2, _⟩
      · rw [h1] at e; cases e
      · rw [h1] at e
        have : b = b2 := by simpa [Value.ownBlock] using e
        subst this
        rw [hw] at hw2
        injection hw2 with hw3
        injection hw3 with _ h9
        exact absurd h9 (by decide)
/-- One token more behind a row. -/
theorem tokRow_push {B : Nat} {v v' pv : Value} {l : List Tok} {t : Tok} {ps : List Value} {w w' : World} {n : Nat} (hn : l.length = n) (hp : PathsOk B w l ps) (hv : w.ownsRow B 72 5 v n (tokCells l ps)) (hpv : OwnS B pv t.path w) (g : w.grownBy w' v.ownBlock)
    (h : w'.ownsRow B 72 5 v' (n + 1) (tokCells l ps ++ [.int .i64 (t.kind : Int), .string ⟨t.text.toArray⟩, pv, .int .i64 (t.line : Int), .int .i64 (t.column : Int)])) : TokRow B v' (l ++ [t]) w' := by
  refine ⟨ps ++ [pv], PathsOk.snoc (PathsOk.mono (fun p q hq => ownS_grown hq hv g) hp) (ownS_grown hpv hv g), ?_⟩
  rw [tokCells_snoc hp.length, List.length_append, hn]
  exact h
theorem results_tmp4 {fn : Func} {t u v x : Tmp} (h : fn.results = #[.tmp t, .tmp u, .tmp v, .tmp x]) (tmps : Array Value) (P : Program) (w : World) :
    (results fn tmps).run P w = .ok (.tuple #[tmps.getD t undef, tmps.getD u undef, tmps.getD v undef, tmps.getD x undef]) w := by
  simp [results, h]
theorem rdL_err {l : List UInt8} {e : Nat} (h : rdL l = .bad e) : 1 ≤ e ∧ e ≤ 44 := by
  have N : ∀ l e, numR l = .bad e → 1 ≤ e ∧ e ≤ 44 := by
    intro l e h
    unfold numR at h
    split at h
    · cases h; omega
    · split at h
      · cases h; omega
      · cases h
  have LF : ∀ f p m l e, longF f p m l = .bad e → 1 ≤ e ∧ e ≤ 44 := by
    intro f
    induction f with
    | zero => intro p m l e h; cases h; omega
    | succ f ih =>
      intro p m l e h
      unfold longF at h
      split at h
      · split at h
        · cases h; omega
        · exact ih _ _ _ _ h
      · cases h
  unfold rdL at h
  split at h
  · cases h
  split at h
  · unfold wordR at h
    split at h
    · cases h
    · exact LF _ _ _ _ _ h
  split at h
  · exact N _ _ h
  split at h
  · unfold sigR at h
    split at h
    · exact N _ _ h
    split at h
    · unfold chrR at h
      split at h
      · cases h; omega
      · split at h
        · cases h
        · cases h; omega
    split at h
    · cases h
    · cases h
  split at h
  · unfold parR at h
    split at h
    · split at h
      · cases h; omega
      · cases h
    · cases h
  split at h
  · cases h
  split at h
  · unfold poiR at h
    split at h
    · cases h
    · cases h; omega
  split at h
  · cases h
  split at h
  · unfold strR at h
    split at h
    · cases h; omega
    · split at h
      · cases h; omega
      · cases h
  · cases h; omega
theorem rdL_kind {l : List UInt8} {k n : Nat} {t : List UInt8} {q : List (List UInt8)} (h : rdL l = .got k t q n) : k ≤ 7 := by
  have N : ∀ l, numR l = .got k t q n → k ≤ 7 := by
    intro l h
    have : (measN l).1 ≤ 5 := by
      unfold measN meas2
      repeat' split
      all_goals (show _ ≤ 5; simp)
    unfold numR at h
    split at h
    · cases h
    · split at h
      · cases h
      · cases h; omega
  unfold rdL at h
  split at h
  · cases h; omega
  split at h
  · unfold wordR at h
    split at h
    · cases h; omega
    · have := (longF_le _ _ _ _ _ _ _ _ h).1; omega
  split at h
  · exact N _ h
  split at h
  · unfold sigR at h
    split at h
    · exact N _ h
    split at h
    · unfold chrR at h
      split at h
      · cases h
      · split at h
        · cases h; omega
        · cases h
    split at h
    · cases h; omega
    · cases h; omega
  split at h
  · unfold parR at h
    split at h
    · split at h
      · cases h
      · cases h; omega
    · cases h; omega
  split at h
  · cases h; omega
  split at h
  · unfold poiR at h
    split at h
    · cases h; omega
    · cases h
  split at h
  · cases h; omega
  split at h
  · unfold strR at h
    split at h
    · cases h
    · split at h
      · cases h
      · cases h; omega
  · cases h
/-- What Scan answers: its tokens lie in memory behind B. -/
def ScanV (B : Nat) (r : List Tok × Nat × Nat × Nat) (e : Ending) (w' : World) : Prop := ∃ v, TokRow B v r.1 w' ∧ e = .returned (.tuple #[v, .int .i64 (r.2.1 : Int), .int .i64 (r.2.2.1 : Int), .int .i64 (r.2.2.2 : Int)])
/-- How far the scan has come. -/
def ScanAt (S : List Tok × Option (Nat × Nat × Nat)) (L : List UInt8) (ts : List Tok) (x y i : Nat) : Prop := S = (ts ++ (scanP (x, y) (L.drop i)).1, (scanP (x, y) (L.drop i)).2) ∧ 1 ≤ x ∧ x ≤ i + 1 ∧ 1 ≤ y ∧ y ≤ i + 1 ∧ ts.length ≤ i
theorem placeL_bd : ∀ (l : List UInt8) (x y b : Nat), 1 ≤ x → x ≤ b → 1 ≤ y → y ≤ b → 1 ≤ (placeL (x, y) l).1 ∧ (placeL (x, y) l).1 ≤ b + l.length ∧ 1 ≤ (placeL (x, y) l).2 ∧ (placeL (x, y) l).2 ≤ b + l.length := by
  intro l
  induction l with
  | nil => intro x y b h1 h2 h3 h4; exact ⟨h1, h2, h3, h4⟩
  | cons c r ih =>
    intro x y b h1 h2 h3 h4
    have e : placeL (x, y) (c :: r) = placeL (stepP (x, y) c) r := rfl
    rw [e, List.length_cons]
    by_cases hc : c.toNat = 10
    · have e1 : stepP (x, y) c = (x + 1, 1) := by unfold stepP; rw [if_pos hc]
      rw [e1]
      have := ih (x + 1) 1 (b + 1) (by omega) (by omega) (by omega) (by omega); omega
    · have e1 : stepP (x, y) c = (x, y + 1) := by unfold stepP; rw [if_neg hc]
      rw [e1]
      have := ih x (y + 1) (b + 1) (by omega) (by omega) (by omega) (by omega); omega
theorem ScanAt.bad {S : List Tok × Option (Nat × Nat × Nat)} {L : List UInt8} {ts : List Tok} {x y i e : Nat} (h : ScanAt S L ts x y i) (hi : i < L.length) (he : rdL (L.drop i) = .bad e) : S.2 = some (x, y, e) := by
  rw [h.1, scanP_bad (by intro g; have := congrArg List.length g; rw [List.length_drop] at this; simp at this; omega) he]
theorem ScanAt.done {S : List Tok × Option (Nat × Nat × Nat)} {L : List UInt8} {ts : List Tok} {x y i : Nat} (h : ScanAt S L ts x y i) (hi : L.length ≤ i) : S = (ts, none) := by
  rw [h.1, List.drop_eq_nil_of_le hi, scanP_nil, List.append_nil]
theorem ScanAt.skip {S : List Tok × Option (Nat × Nat × Nat)} {L : List UInt8} {ts : List Tok} {x y i n : Nat} {t : List UInt8} {q : List (List UInt8)} (h : ScanAt S L ts x y i) (he : rdL (L.drop i) = .got 0 t q n) : ScanAt S L ts (placeL (x, y) ((L.drop i).take n)).1 (placeL (x, y) ((L.drop i).take n)).2 (i + n) := by
  obtain ⟨h1, h2, h3, h4, h5, h6⟩ := h
  have hn := rdL_le he
  have hb := placeL_bd ((L.drop i).take n) x y (i + 1) h2 h3 h4 h5
  rw [List.length_take, Nat.min_eq_left hn.2] at hb
  refine ⟨?_, by omega, by omega, by omega, by omega, by omega⟩
  rw [h1, scanP_got he, if_pos rfl, List.drop_drop]
theorem ScanAt.more {S : List Tok × Option (Nat × Nat × Nat)} {L : List UInt8} {ts : List Tok} {x y i k n : Nat} {t : List UInt8} {q : List (List UInt8)} (h : ScanAt S L ts x y i) (hk : k ≠ 0) (he : rdL (L.drop i) = .got k t q n) : ScanAt S L (ts ++ [⟨k, t, q, x, y⟩]) (placeL (x, y) ((L.drop i).take n)).1 (placeL (x, y) ((L.drop i).take n)).2 (i + n) := by
  obtain ⟨h1, h2, h3, h4, h5, h6⟩ := h
  have hn := rdL_le he
  have hb := placeL_bd ((L.drop i).take n) x y (i + 1) h2 h3 h4 h5
  rw [List.length_take, Nat.min_eq_left hn.2] at hb
  refine ⟨?_, by omega, by omega, by omega, by omega, by rw [List.length_append]; simp; omega⟩
  rw [h1, scanP_got he, if_neg hk, List.drop_drop, List.append_assoc]
  rfl
end Go.Proofs.YtbcmpacmoofdkaaGreatDoor
