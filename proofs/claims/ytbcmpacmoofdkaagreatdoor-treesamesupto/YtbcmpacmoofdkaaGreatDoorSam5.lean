/- Both ways to tell whether two trees are the same, on lists: they are one. -/
import Derived.Test.YtbcmpacmoofdkaaGreatDoorTree2
import Derived.Lib.ItoaMem
import Derived.Test.YtbcmpacmoofdkaaGreatDoorProg
import Derived.Test.YtbcmpacmoofdkaaGreatDoorShelf4
import Derived.Test.YtbcmpacmoofdkaaGreatDoorLexB
import Derived.WalkKit
import Derived.ProofKit
import Derived.OpenShut
import Derived.Below
import Derived.WalkLawsBesides
import Derived.OwnWalk
import Derived.Laws.IdiomStrings
import Derived.Laws.OwnMore
import Derived.Lib.AppendStr
import Derived.Maps.OwnSet
namespace Go.Proofs.YtbcmpacmoofdkaaGreatDoor
/-- What is marked: a root, or a lower kid of what is marked. -/
theorem markF_iff (K : Nat → List Int) : ∀ (n : Nat) (M : Nat → Bool) (j : Nat), markF K n M j = true ↔ (M j = true ∨ ∃ p, p < n ∧ j < p ∧ markF K n M p = true ∧ hitI (K p) j = true)
  | 0, M, j => by
    constructor
    · intro h; exact .inl h
    · rintro (h | ⟨p, hp, _⟩)
      · exact h
      · omega
  | n + 1, M, j => by
    have ih := markF_iff K n (markS K n M) j
    have hn : markF K n (markS K n M) n = M n := by rw [markF_high K n n _ (Nat.le_refl _), markS_high (Nat.le_refl _)]
    show markF K n (markS K n M) j = true ↔ (M j = true ∨ ∃ p, p < n + 1 ∧ j < p ∧ markF K n (markS K n M) p = true ∧ hitI (K p) j = true)
    rw [ih]
    constructor
    · rintro (h | ⟨p, hp, h1, h2, h3⟩)
      · unfold markS at h
        rw [Bool.or_eq_true, Bool.and_eq_true, Bool.and_eq_true, decide_eq_true_eq] at h
        rcases h with h | ⟨h1, h2, h3⟩
        · exact .inl h
        · exact .inr ⟨n, by omega, h2, by rw [hn]; exact h1, h3⟩
      · exact .inr ⟨p, by omega, h1, h2, h3⟩
    · rintro (h | ⟨p, hp, h1, h2, h3⟩)
      · left; unfold markS; rw [h]; rfl
      · by_cases e : p = n
        · subst e
          left
          rw [hn] at h2
          unfold markS
          rw [h2, h3, decide_eq_true h1]
          simp
        · exact .inr ⟨p, by omega, h1, h2, h3⟩
theorem hitI_iff (l : List Int) (j : Nat) : hitI l j = true ↔ (j : Int) ∈ l := by
  unfold hitI
  rw [List.any_eq_true]
  constructor
  · rintro ⟨x, hx, e⟩
    rw [beq_iff_eq] at e
    rw [← e]; exact hx
  · intro h
    exact ⟨_, h, by simp⟩
/-- The nodes below r. -/
def belowR (K : Nat → List Int) (r : Nat) : List Nat := belowN K (r + 1) [(r : Int)]
theorem belowR_mem (K : Nat → List Int) (r j : Nat) : j ∈ belowR K r ↔ (j ≤ r ∧ (j = r ∨ ∃ p, p ∈ belowR K r ∧ j < p ∧ (j : Int) ∈ K p)) := by
  have hm : ∀ j, j ∈ belowR K r ↔ (j < r + 1 ∧ markF K (r + 1) (rootsM (r + 1) [(r : Int)]) j = true) := fun j => by
    unfold belowR belowN
    rw [List.mem_filter, List.mem_range]
  rw [hm, markF_iff]
  have h0 : rootsM (r + 1) [(r : Int)] j = true ↔ j = r := by
    unfold rootsM
    rw [Bool.and_eq_true, decide_eq_true_eq, hitI_iff]
    simp
    omega
  rw [h0]
  constructor
  · rintro ⟨h1, h2 | ⟨p, hp, h3, h4, h5⟩⟩
    · exact ⟨by omega, .inl h2⟩
    · exact ⟨by omega, .inr ⟨p, (hm p).2 ⟨hp, h4⟩, h3, (hitI_iff _ _).1 h5⟩⟩
  · rintro ⟨h1, h2 | ⟨p, hp, h3, h4⟩⟩
    · exact ⟨by omega, .inl h2⟩
    · exact ⟨by omega, .inr ⟨p, ((hm p).1 hp).1, h3, ((hm p).1 hp).2, (hitI_iff _ _).2 h4⟩⟩
theorem belowR_root (K : Nat → List Int) (r : Nat) : r ∈ belowR K r := (belowR_mem K r r).2 ⟨Nat.le_refl _, .inl rfl⟩
theorem belowR_le {K : Nat → List Int} {r j : Nat} (h : j ∈ belowR K r) : j ≤ r := ((belowR_mem K r j).1 h).1
theorem belowR_kid {K : Nat → List Int} {r p : Nat} (h : p ∈ belowR K r) {k : Int} (hk : k ∈ K p) (h0 : 0 ≤ k) (h1 : k < (p : Int)) : k.toNat ∈ belowR K r :=
  (belowR_mem K r k.toNat).2 ⟨by have := belowR_le h; omega, .inr ⟨p, h, by omega, by rw [Int.toNat_of_nonneg h0]; exact hk⟩⟩
theorem belowR_up {K : Nat → List Int} {r j : Nat} (h : j ∈ belowR K r) (hj : j ≠ r) : ∃ p, p ∈ belowR K r ∧ j < p ∧ (j : Int) ∈ K p := by
  rcases ((belowR_mem K r j).1 h).2 with e | e
  · exact absurd e hj
  · exact e
theorem belowR_rise (K : Nat → List Int) (r : Nat) : (belowR K r).Pairwise (· < ·) := by
  unfold belowR belowN
  exact List.Pairwise.filter _ List.pairwise_lt_range

/-- What a node is, its kids by the program's numbers. -/
abbrev Look := Int × List UInt8 × List (List UInt8) × List Nat
def updN {α : Type} (f : Nat → α) (i : Nat) (a : α) : Nat → α := fun j => if j = i then a else f j
theorem updN_same {α : Type} (f : Nat → α) (i : Nat) (a : α) : updN f i a i = a := by simp [updN]
theorem updN_other {α : Type} (f : Nat → α) {i j : Nat} (a : α) (h : j ≠ i) : updN f i a j = f j := by simp [updN, h]
def lowB (i : Nat) (ks : List Int) : Bool := ks.all fun k => decide (0 ≤ k) && decide (k < (i : Int))
theorem lowB_mem {i : Nat} {ks : List Int} (h : lowB i ks = true) {k : Int} (hk : k ∈ ks) : 0 ≤ k ∧ k < (i : Int) := by
  have := List.all_eq_true.1 h k hk
  simpa using this
def lookN (nd : Nod) (f : Nat → Nat) : Look := (nd.kind, nd.text, nd.path, nd.kids.map fun k => f k.toNat)
/-- The program: numbers by what has been met. -/
def runPs (l : List Nod) : List Nat → List Look → (Nat → Nat) → Option (List Look × (Nat → Nat))
  | [], D, f => some (D, f)
  | i :: r, D, f => if lowB i (l.getD i Nod.zero).kids = true then
      runPs l r (if lookN (l.getD i Nod.zero) f ∈ D then D else D ++ [lookN (l.getD i Nod.zero) f]) (updN f i (D.idxOf (lookN (l.getD i Nod.zero) f)))
    else none
/-- The document: classes. -/
def turnM (ks : List Int) (i : Nat) (g : Nat → Int) : List Int := ks.map fun k => if 0 ≤ k ∧ k < (i : Int) then g k.toNat else -1
def eqNod (e : Nod) (kind : Int) (text : List UInt8) (path : List (List UInt8)) (ks : List Int) : Bool := decide (e.kind = kind) && (decide (e.text = text) && (decide (e.path = path) && decide (e.kids = ks)))
def seekM (nd : Nod) (ks : List Int) (d : Int) : List Nod → List Int → Int
  | [], _ => d
  | e :: E, C => if eqNod e nd.kind nd.text nd.path ks = true then C.headD 0 else seekM nd ks d E C.tail
def classM (nd : Nod) (i : Nat) (g : Nat → Int) (E : List Nod) (C : List Int) : Int :=
  if (turnM nd.kids i g).any (fun k => decide (k < 0)) = true then -1 else seekM nd (turnM nd.kids i g) (E.length : Int) E C
structure StR where
  E : List Nod
  C : List Int
  g : Nat → Int
def stepR (l : List Nod) (s : StR) (i : Nat) : StR :=
  ⟨s.E ++ [{ l.getD i Nod.zero with kids := turnM (l.getD i Nod.zero).kids i s.g }], s.C ++ [classM (l.getD i Nod.zero) i s.g s.E s.C], updN s.g i (classM (l.getD i Nod.zero) i s.g s.E s.C)⟩
def runRs (l : List Nod) (L : List Nat) (s : StR) : StR := L.foldl (stepR l) s
theorem runR_g (l : List Nod) : ∀ (L : List Nat) (s : StR) (j : Nat), j ∉ L → (runRs l L s).g j = s.g j
  | [], _, _, _ => rfl
  | i :: L, s, j, h => by
    rw [List.mem_cons, not_or] at h
    show (runRs l L (stepR l s i)).g j = s.g j
    rw [runR_g l L _ j h.2]
    exact updN_other _ _ h.1
/-- A node with a kid that has no class has none. -/
theorem runR_bad (l : List Nod) : ∀ (L : List Nat) (s : StR), L.Pairwise (· < ·) → ∀ p ∈ L, (turnM (l.getD p Nod.zero).kids p (runRs l L s).g).any (fun k => decide (k < 0)) = true → (runRs l L s).g p = -1
  | [], _, _, p, hp, _ => absurd hp (by simp)
  | i :: L, s, hL, p, hp, ht => by
    rw [List.pairwise_cons] at hL
    show (runRs l L (stepR l s i)).g p = -1
    replace ht : (turnM (l.getD p Nod.zero).kids p (runRs l L (stepR l s i)).g).any (fun k => decide (k < 0)) = true := ht
    by_cases e : p = i
    · subst e
      have hn : p ∉ L := fun h => Nat.lt_irrefl _ (hL.1 p h)
      rw [runR_g l L _ p hn]
      show updN s.g p (classM (l.getD p Nod.zero) p s.g s.E s.C) p = -1
      rw [updN_same]
      have : turnM (l.getD p Nod.zero).kids p (runRs l L (stepR l s p)).g = turnM (l.getD p Nod.zero).kids p s.g := by
        unfold turnM
        refine List.map_congr_left fun k _ => ?_
        by_cases hk : 0 ≤ k ∧ k < (p : Int)
        · rw [if_pos hk, if_pos hk, runR_g l L _ k.toNat (fun h => by have := hL.1 _ h; omega)]
          exact updN_other _ _ (by omega)
        · rw [if_neg hk, if_neg hk]
      rw [this] at ht
      unfold classM
      rw [if_pos ht]
    · rcases List.mem_cons.1 hp with h | h
      · exact absurd h e
      · exact runR_bad l L _ hL.2 p h ht
theorem turn_bad {ks : List Int} {i : Nat} {g : Nat → Int} (h : lowB i ks = false) : (turnM ks i g).any (fun k => decide (k < 0)) = true := by
  unfold lowB at h
  rw [List.all_eq_false] at h
  obtain ⟨k, hk, hb⟩ := h
  rw [List.any_eq_true]
  refine ⟨-1, ?_, by decide⟩
  unfold turnM
  rw [List.mem_map]
  refine ⟨k, hk, ?_⟩
  rw [if_neg]
  intro hc
  apply hb
  simp [hc.1, hc.2]
theorem turn_kid {ks : List Int} {i j : Nat} {g : Nat → Int} (h : (j : Int) ∈ ks) (hj : j < i) (hg : g j = -1) : (turnM ks i g).any (fun k => decide (k < 0)) = true := by
  rw [List.any_eq_true]
  refine ⟨-1, ?_, by decide⟩
  unfold turnM
  rw [List.mem_map]
  refine ⟨j, h, ?_⟩
  rw [if_pos ⟨by omega, by omega⟩, Int.toNat_natCast, hg]
/-- One node below the root whose kids are not all lower: the root has no class. -/
theorem root_bad (l : List Nod) (r : Nat) (s : StR) (x : Nat) (hx : x ∈ belowR (fun i => (l.getD i Nod.zero).kids) r) (hb : lowB x (l.getD x Nod.zero).kids = false) : (runRs l (belowR (fun i => (l.getD i Nod.zero).kids) r) s).g r = -1 := by
  have hR := belowR_rise (fun i => (l.getD i Nod.zero).kids) r
  have up : ∀ (d j : Nat), r - j ≤ d → j ∈ belowR (fun i => (l.getD i Nod.zero).kids) r → (runRs l (belowR (fun i => (l.getD i Nod.zero).kids) r) s).g j = -1 → (runRs l (belowR (fun i => (l.getD i Nod.zero).kids) r) s).g r = -1 := by
    intro d
    induction d with
    | zero =>
      intro j hd hj hg
      have : j = r := by have := belowR_le hj; omega
      rw [this] at hg; exact hg
    | succ d ih =>
      intro j hd hj hg
      by_cases e : j = r
      · rw [e] at hg; exact hg
      · obtain ⟨p, hp, hjp, hk⟩ := belowR_up hj e
        exact ih p (by have := belowR_le hp; omega) hp (runR_bad l _ s hR p hp (turn_kid hk hjp hg))
  exact up (r - x) x (Nat.le_refl _) hx (runR_bad l _ s hR x hx (turn_bad hb))
theorem runP_none (l : List Nod) : ∀ (L : List Nat) (D : List Look) (f : Nat → Nat), runPs l L D f = none → ∃ x ∈ L, lowB x (l.getD x Nod.zero).kids = false
  | [], _, _, h => absurd h (by simp [runPs])
  | i :: L, D, f, h => by
    unfold runPs at h
    by_cases hl : lowB i (l.getD i Nod.zero).kids = true
    · rw [if_pos hl] at h
      obtain ⟨x, hx, hb⟩ := runP_none l L _ _ h
      exact ⟨x, List.mem_cons_of_mem _ hx, hb⟩
    · exact ⟨i, List.mem_cons_self, by simpa using hl⟩

/-- Both have met the same: Q all looks, one behind the other; D each once; ph the program's numbers as classes. -/
structure InvS (Q D : List Look) (ph : Nat → Nat) (E : List Nod) (C : List Int) : Prop where
  e : E.map (fun n => (n.kind, n.text, n.path, n.kids)) = Q.map fun q => (q.1, q.2.1, q.2.2.1, q.2.2.2.map fun m => (ph m : Int))
  c : C = Q.map fun q => (ph (D.idxOf q) : Int)
  inj : ∀ a b, a < D.length → b < D.length → ph a = ph b → a = b
  lt : ∀ a, a < D.length → ph a < Q.length
  qd : ∀ q, q ∈ Q ↔ q ∈ D
  kid : ∀ q ∈ Q, ∀ m ∈ q.2.2.2, m < D.length
theorem map_inj {ph : Nat → Nat} {n : Nat} (inj : ∀ a b, a < n → b < n → ph a = ph b → a = b) : ∀ (a b : List Nat), (∀ m ∈ a, m < n) → (∀ m ∈ b, m < n) → (a.map fun m => (ph m : Int)) = (b.map fun m => (ph m : Int)) → a = b
  | [], [], _, _, _ => rfl
  | [], _ :: _, _, _, h => absurd h (by simp)
  | _ :: _, [], _, _, h => absurd h (by simp)
  | x :: a, y :: b, ha, hb, h => by
    rw [List.map_cons, List.map_cons, List.cons.injEq] at h
    rw [map_inj inj a b (fun m hm => ha m (List.mem_cons_of_mem _ hm)) (fun m hm => hb m (List.mem_cons_of_mem _ hm)) h.2, inj x y (ha x List.mem_cons_self) (hb y List.mem_cons_self) (by have := h.1; omega)]
theorem eqNod_iff (e : Nod) (kind : Int) (text : List UInt8) (path : List (List UInt8)) (ks : List Int) : eqNod e kind text path ks = true ↔ (e.kind, e.text, e.path, e.kids) = (kind, text, path, ks) := by
  unfold eqNod
  simp only [Bool.and_eq_true, decide_eq_true_eq, Prod.mk.injEq]
theorem seek_inv (nd : Nod) (ph : Nat → Nat) (n : Nat) (v : Look → Int) (d : Int) (q : Look) (hq : nd.kind = q.1 ∧ nd.text = q.2.1 ∧ nd.path = q.2.2.1) (hqk : ∀ m ∈ q.2.2.2, m < n) (inj : ∀ a b, a < n → b < n → ph a = ph b → a = b) :
    ∀ (Q : List Look) (E : List Nod) (C : List Int), (∀ q' ∈ Q, ∀ m ∈ q'.2.2.2, m < n) → E.map (fun n => (n.kind, n.text, n.path, n.kids)) = (Q.map fun q => (q.1, q.2.1, q.2.2.1, q.2.2.2.map fun m => (ph m : Int))) → C = Q.map v →
      seekM nd (q.2.2.2.map fun m => (ph m : Int)) d E C = if q ∈ Q then v q else d
  | [], [], _, _, _, _ => by simp [seekM]
  | [], _ :: _, _, _, h, _ => absurd h (by simp)
  | _ :: _, [], _, _, h, _ => absurd h (by simp)
  | p :: Q, e :: E, C, hk, he, hc => by
    rw [List.map_cons, List.map_cons, List.cons.injEq] at he
    subst hc
    have ih := seek_inv nd ph n v d q hq hqk inj Q E (Q.map v) (fun q' h => hk q' (List.mem_cons_of_mem _ h)) he.2 rfl
    unfold seekM
    by_cases hpq : p = q
    · subst hpq
      rw [if_pos ((eqNod_iff _ _ _ _ _).2 (he.1.trans (by rw [hq.1, hq.2.1, hq.2.2]))), if_pos List.mem_cons_self]
      rfl
    · rw [if_neg (fun h => hpq ?_)]
      · show seekM nd _ d E (Q.map v) = _
        rw [ih]
        by_cases hm : q ∈ Q
        · rw [if_pos hm, if_pos (List.mem_cons_of_mem _ hm)]
        · rw [if_neg hm, if_neg (by rw [List.mem_cons, not_or]; exact ⟨fun e => hpq e.symm, hm⟩)]
      · have h1 := he.1.symm.trans ((eqNod_iff _ _ _ _ _).1 h)
        simp only [Prod.mk.injEq] at h1
        obtain ⟨h1, h2, h3, h4⟩ := h1
        have h5 := map_inj inj _ _ (hk p List.mem_cons_self) hqk h4
        obtain ⟨p1, p2, p3, p4⟩ := p
        obtain ⟨q1, q2, q3, q4⟩ := q
        simp only at h1 h2 h3 h5 hq
        rw [h1, h2, h3, h5, hq.1, hq.2.1, hq.2.2]
theorem idxOf_app {α : Type} [BEq α] [LawfulBEq α] (D : List α) (x q : α) (h : q ∈ D) : (D ++ [x]).idxOf q = D.idxOf q := by rw [List.idxOf_append, if_pos h]
theorem idxOf_new {α : Type} [BEq α] [LawfulBEq α] (D : List α) (q : α) (h : q ∉ D) : D.idxOf q = D.length := List.idxOf_eq_length h
/-- The numbers of what has been gone over. -/
def RelS (P : List Nat) (D : List Look) (ph : Nat → Nat) (f : Nat → Nat) (g : Nat → Int) : Prop := ∀ j ∈ P, f j < D.length ∧ g j = (ph (f j) : Int)
theorem sim (l : List Nod) : ∀ (L P : List Nat) (Q D : List Look) (ph : Nat → Nat) (E : List Nod) (C : List Int) (f : Nat → Nat) (g : Nat → Int) (D' : List Look) (f' : Nat → Nat),
    InvS Q D ph E C → RelS P D ph f g → (∀ L1 i L2, L = L1 ++ i :: L2 → ∀ k ∈ (l.getD i Nod.zero).kids, 0 ≤ k → k < (i : Int) → k.toNat ∈ P ∨ k.toNat ∈ L1) → runPs l L D f = some (D', f') →
    ∃ (Q' : List Look) (ph' : Nat → Nat), InvS Q' D' ph' (runRs l L ⟨E, C, g⟩).E (runRs l L ⟨E, C, g⟩).C ∧ RelS (P ++ L) D' ph' f' (runRs l L ⟨E, C, g⟩).g ∧ (∀ a, a < D.length → ph' a = ph a) ∧ D.length ≤ D'.length
  | [], P, Q, D, ph, E, C, f, g, D', f', hI, hR, _, h => by
    unfold runPs at h
    injection h with h
    injection h with h1 h2
    subst h1 h2
    exact ⟨Q, ph, hI, by rw [List.append_nil]; exact hR, fun _ _ => rfl, Nat.le_refl _⟩
  | i :: L, P, Q, D, ph, E, C, f, g, D', f', hI, hR, hK, h => by
    unfold runPs at h
    by_cases hl : lowB i (l.getD i Nod.zero).kids = true
    · rw [if_pos hl] at h
      obtain ⟨q, hq⟩ : ∃ q, lookN (l.getD i Nod.zero) f = q := ⟨_, rfl⟩
      rw [hq] at h
      have hkp : ∀ k ∈ (l.getD i Nod.zero).kids, k.toNat ∈ P := fun k hk => by
        have hb := lowB_mem hl hk
        rcases hK [] i L rfl k hk hb.1 hb.2 with h | h
        · exact h
        · exact absurd h (by simp)
      have hq4 : q.2.2.2 = (l.getD i Nod.zero).kids.map fun k => f k.toNat := by rw [← hq]; rfl
      have hqk : ∀ m ∈ q.2.2.2, m < D.length := fun m hm => by
        rw [hq4, List.mem_map] at hm
        obtain ⟨k, hk, rfl⟩ := hm
        exact (hR _ (hkp k hk)).1
      have ht : turnM (l.getD i Nod.zero).kids i g = q.2.2.2.map fun m => (ph m : Int) := by
        rw [hq4, List.map_map]
        unfold turnM
        refine List.map_congr_left fun k hk => ?_
        have hb := lowB_mem hl hk
        rw [if_pos hb]
        exact (hR _ (hkp k hk)).2
      have hlen : E.length = Q.length := by have := congrArg List.length hI.e; simpa using this
      have hc : classM (l.getD i Nod.zero) i g E C = if q ∈ Q then (ph (D.idxOf q) : Int) else (Q.length : Int) := by
        unfold classM
        rw [ht, if_neg, hlen]
        · exact seek_inv _ ph D.length (fun q => (ph (D.idxOf q) : Int)) _ q (by rw [← hq]; exact ⟨rfl, rfl, rfl⟩) hqk hI.inj Q E C hI.kid hI.e hI.c
        · rw [Bool.not_eq_true, List.any_eq_false]
          intro x hx
          rw [List.mem_map] at hx
          obtain ⟨m, _, rfl⟩ := hx
          simp
      have hcl : ∀ {R : StR}, runRs l (i :: L) R = runRs l L (stepR l R i) := rfl
      rw [hcl]
      have hst : stepR l ⟨E, C, g⟩ i = ⟨E ++ [{ l.getD i Nod.zero with kids := turnM (l.getD i Nod.zero).kids i g }], C ++ [classM (l.getD i Nod.zero) i g E C], updN g i (classM (l.getD i Nod.zero) i g E C)⟩ := rfl
      rw [hst]
      have hK' : ∀ L1 i' L2, L = L1 ++ i' :: L2 → ∀ k ∈ (l.getD i' Nod.zero).kids, 0 ≤ k → k < (i' : Int) → k.toNat ∈ P ++ [i] ∨ k.toNat ∈ L1 := fun L1 i' L2 e k hk h0 h1 => by
        rcases hK (i :: L1) i' L2 (by rw [e]; rfl) k hk h0 h1 with h | h
        · exact .inl (List.mem_append_left _ h)
        · rcases List.mem_cons.1 h with h | h
          · exact .inl (by rw [h]; simp)
          · exact .inr h
      by_cases hm : q ∈ D
      · rw [if_pos hm] at h
        rw [if_pos ((hI.qd q).2 hm)] at hc
        have hi : InvS (Q ++ [q]) D ph (E ++ [{ l.getD i Nod.zero with kids := turnM (l.getD i Nod.zero).kids i g }]) (C ++ [classM (l.getD i Nod.zero) i g E C]) := by
          refine ⟨?_, ?_, hI.inj, fun a ha => by have := hI.lt a ha; rw [List.length_append]; omega, fun q' => ?_, fun q' hq' m hm' => ?_⟩
          · rw [List.map_append, List.map_append, hI.e, List.map_cons, List.map_cons, List.map_nil, List.map_nil]
            show _ ++ [((l.getD i Nod.zero).kind, (l.getD i Nod.zero).text, (l.getD i Nod.zero).path, turnM (l.getD i Nod.zero).kids i g)] = _
            rw [ht, ← hq]; rfl
          · rw [List.map_append, ← hI.c, hc]; rfl
          · rw [List.mem_append, hI.qd]
            constructor
            · rintro (h | h)
              · exact h
              · rw [List.mem_singleton] at h; rw [h]; exact hm
            · exact .inl
          · rcases List.mem_append.1 hq' with h | h
            · exact hI.kid q' h m hm'
            · rw [List.mem_singleton] at h; subst h; exact hqk m hm'
        have hr : RelS (P ++ [i]) D ph (updN f i (D.idxOf q)) (updN g i (classM (l.getD i Nod.zero) i g E C)) := fun j hj => by
          by_cases e : j = i
          · subst e
            rw [updN_same, updN_same, hc]
            exact ⟨List.idxOf_lt_length_of_mem hm, rfl⟩
          · rw [updN_other _ _ e, updN_other _ _ e]
            rcases List.mem_append.1 hj with h | h
            · exact hR j h
            · exact absurd (List.mem_singleton.1 h) e
        obtain ⟨Q', ph', i1, i2, i3, i4⟩ := sim l L (P ++ [i]) _ D ph _ _ _ _ D' f' hi hr hK' h
        exact ⟨Q', ph', i1, by rw [List.append_assoc] at i2; exact i2, i3, i4⟩
      · rw [if_neg hm] at h
        rw [if_neg (fun hh => hm ((hI.qd q).1 hh))] at hc
        have hph : ∀ m, m < D.length → updN ph D.length Q.length m = ph m := fun m hm' => updN_other _ _ (by omega)
        have hi : InvS (Q ++ [q]) (D ++ [q]) (updN ph D.length Q.length) (E ++ [{ l.getD i Nod.zero with kids := turnM (l.getD i Nod.zero).kids i g }]) (C ++ [classM (l.getD i Nod.zero) i g E C]) := by
          refine ⟨?_, ?_, fun a b ha hb hab => ?_, fun a ha => ?_, fun q' => ?_, fun q' hq' m hm' => ?_⟩
          · rw [List.map_append, List.map_append, hI.e, List.map_cons, List.map_cons, List.map_nil, List.map_nil]
            show _ ++ [((l.getD i Nod.zero).kind, (l.getD i Nod.zero).text, (l.getD i Nod.zero).path, turnM (l.getD i Nod.zero).kids i g)] = _
            congr 1
            · refine List.map_congr_left fun q' hq' => ?_
              have : (q'.2.2.2.map fun m => (ph m : Int)) = (q'.2.2.2.map fun m => ((updN ph D.length Q.length m : Nat) : Int)) := List.map_congr_left fun m hm' => by rw [hph m (hI.kid q' hq' m hm')]
              rw [this]
            · have : (q.2.2.2.map fun m => (ph m : Int)) = (q.2.2.2.map fun m => ((updN ph D.length Q.length m : Nat) : Int)) := List.map_congr_left fun m hm' => by rw [hph m (hqk m hm')]
              rw [ht, this, ← hq]; rfl
          · rw [List.map_append, hc, hI.c]
            congr 1
            · refine List.map_congr_left fun q' hq' => ?_
              rw [idxOf_app D q q' ((hI.qd q').1 hq'), hph _ (List.idxOf_lt_length_of_mem ((hI.qd q').1 hq'))]
            · show [(Q.length : Int)] = [((updN ph D.length Q.length ((D ++ [q]).idxOf q) : Nat) : Int)]
              have : (D ++ [q]).idxOf q = D.length := by
                rw [List.idxOf_append, if_neg hm]
                simp
              rw [this, updN_same]
          · rw [List.length_append, List.length_singleton] at ha hb
            by_cases ea : a = D.length
            · by_cases eb : b = D.length
              · omega
              · rw [ea, updN_same, hph b (by omega)] at hab
                have := hI.lt b (by omega)
                omega
            · by_cases eb : b = D.length
              · rw [eb, updN_same, hph a (by omega)] at hab
                have := hI.lt a (by omega)
                omega
              · rw [hph a (by omega), hph b (by omega)] at hab
                exact hI.inj a b (by omega) (by omega) hab
          · rw [List.length_append, List.length_singleton] at ha ⊢
            by_cases ea : a = D.length
            · rw [ea, updN_same]; omega
            · rw [hph a (by omega)]
              have := hI.lt a (by omega)
              omega
          · rw [List.mem_append, List.mem_append, hI.qd]
          · rw [List.length_append]
            rcases List.mem_append.1 hq' with h | h
            · have := hI.kid q' h m hm'; omega
            · rw [List.mem_singleton] at h; subst h; have := hqk m hm'; omega
        have hr : RelS (P ++ [i]) (D ++ [q]) (updN ph D.length Q.length) (updN f i (D.idxOf q)) (updN g i (classM (l.getD i Nod.zero) i g E C)) := fun j hj => by
          by_cases e : j = i
          · subst e
            rw [updN_same, updN_same, hc, idxOf_new D q hm, updN_same, List.length_append]
            exact ⟨by simp, rfl⟩
          · rw [updN_other _ _ e, updN_other _ _ e]
            rcases List.mem_append.1 hj with h | h
            · have := hR j h
              rw [hph _ this.1, List.length_append]
              exact ⟨by omega, this.2⟩
            · exact absurd (List.mem_singleton.1 h) e
        obtain ⟨Q', ph', i1, i2, i3, i4⟩ := sim l L (P ++ [i]) _ (D ++ [q]) _ _ _ _ _ D' f' hi hr hK' h
        rw [List.length_append, List.length_singleton] at i3 i4
        exact ⟨Q', ph', i1, by rw [List.append_assoc] at i2; exact i2, fun a ha => by rw [i3 a (by omega), hph a ha], by omega⟩
    · rw [if_neg hl] at h
      exact absurd h (by simp)
theorem before_of_rise {L L1 L2 : List Nat} {i x : Nat} (hL : L.Pairwise (· < ·)) (e : L = L1 ++ i :: L2) (hx : x ∈ L) (hxi : x < i) : x ∈ L1 := by
  subst e
  rcases List.mem_append.1 hx with h | h
  · exact h
  · rcases List.mem_cons.1 h with h | h
    · omega
    · rw [List.pairwise_append] at hL
      have := (List.pairwise_cons.1 hL.2.1).1 x h
      omega

/-- What the program's Same answers. -/
def sameP (a : List Nod) (i : Nat) (b : List Nod) (k : Nat) : Bool :=
  match runPs a (belowR (fun j => (a.getD j Nod.zero).kids) i) [] (fun _ => 0) with
  | none => false
  | some (D, f) => match runPs b (belowR (fun j => (b.getD j Nod.zero).kids) k) D (fun _ => 0) with
    | none => false
    | some (_, f') => decide (f i = f' k)
/-- What the document's Same answers. -/
def sameR (a : List Nod) (i : Nat) (b : List Nod) (k : Nat) : Bool :=
  decide (0 ≤ (runRs a (belowR (fun j => (a.getD j Nod.zero).kids) i) ⟨[], [], fun _ => 0⟩).g i) &&
  decide ((runRs a (belowR (fun j => (a.getD j Nod.zero).kids) i) ⟨[], [], fun _ => 0⟩).g i = (runRs b (belowR (fun j => (b.getD j Nod.zero).kids) k) ⟨(runRs a (belowR (fun j => (a.getD j Nod.zero).kids) i) ⟨[], [], fun _ => 0⟩).E, (runRs a (belowR (fun j => (a.getD j Nod.zero).kids) i) ⟨[], [], fun _ => 0⟩).C, fun _ => 0⟩).g k)
theorem same_same (a : List Nod) (i : Nat) (b : List Nod) (k : Nat) : sameP a i b k = sameR a i b k := by
  unfold sameP sameR
  cases h1 : runPs a (belowR (fun j => (a.getD j Nod.zero).kids) i) [] (fun _ => 0) with
  | none =>
    obtain ⟨x, hx, hb⟩ := runP_none a _ _ _ h1
    rw [root_bad a i _ x hx hb]
    rfl
  | some s =>
    obtain ⟨D, f⟩ := s
    obtain ⟨Q, ph, i1, i2, _, _⟩ := sim a (belowR (fun j => (a.getD j Nod.zero).kids) i) [] [] [] (fun _ => 0) [] [] (fun _ => 0) (fun _ => 0) D f ⟨rfl, rfl, fun _ _ h => absurd h (by simp), fun _ h => absurd h (by simp), fun _ => by simp, fun _ h => absurd h (by simp)⟩ (fun _ h => absurd h (by simp))
      (fun L1 p L2 e x hx h0 h1 => .inr (before_of_rise (belowR_rise _ i) e (belowR_kid (by rw [e]; simp) hx h0 h1) (by omega))) h1
    rw [List.nil_append] at i2
    obtain ⟨f1, f2⟩ := i2 i (belowR_root _ i)
    generalize (runRs a (belowR (fun j => (a.getD j Nod.zero).kids) i) ⟨[], [], fun _ => 0⟩) = R1 at *
    rw [f2, decide_eq_true (show (0 : Int) ≤ (ph (f i) : Int) by omega), Bool.true_and]
    show (match runPs b (belowR (fun j => (b.getD j Nod.zero).kids) k) D (fun _ => 0) with
    | none => false
    | some (_, f') => decide (f i = f' k)) = _
    cases h2 : runPs b (belowR (fun j => (b.getD j Nod.zero).kids) k) D (fun _ => 0) with
    | none =>
      obtain ⟨x, hx, hb⟩ := runP_none b _ _ _ h2
      rw [root_bad b k _ x hx hb, decide_eq_false (by omega)]
    | some s =>
      obtain ⟨D', f'⟩ := s
      obtain ⟨Q', ph', j1, j2, j3, j4⟩ := sim b (belowR (fun j => (b.getD j Nod.zero).kids) k) [] Q D ph R1.E R1.C (fun _ => 0) (fun _ => 0) D' f' i1 (fun _ h => absurd h (by simp))
        (fun L1 p L2 e x hx h0 h1 => .inr (before_of_rise (belowR_rise _ k) e (belowR_kid (by rw [e]; simp) hx h0 h1) (by omega))) h2
      rw [List.nil_append] at j2
      obtain ⟨g1, g2⟩ := j2 k (belowR_root _ k)
      rw [g2]
      show decide (f i = f' k) = _
      by_cases e : f i = f' k
      · rw [decide_eq_true e, decide_eq_true (by rw [← e, j3 _ f1])]
      · rw [decide_eq_false e, decide_eq_false]
        intro he
        apply e
        refine j1.inj _ _ (by omega) g1 ?_
        rw [j3 _ f1]
        omega
end Go.Proofs.YtbcmpacmoofdkaaGreatDoor
/- What a node is, as a text that no other node has. -/
namespace Go.Proofs.YtbcmpacmoofdkaaGreatDoor
def valD (l : List UInt8) : Nat := l.foldl (fun a b => a * 10 + (b.toNat - 48)) 0
theorem valD_snoc (l : List UInt8) (b : UInt8) : valD (l ++ [b]) = valD l * 10 + (b.toNat - 48) := by unfold valD; rw [List.foldl_append]; rfl
theorem digit_nat (d : Nat) (h : d < 10) : (UInt8.ofNat (48 + d)).toNat = 48 + d := by
  rw [UInt8.toNat_ofNat']; omega
theorem valD_dec (u : Nat) : valD (Lib.decDigits u) = u := by
  induction u using Nat.strongRecOn with
  | _ u ih =>
    rw [Lib.decDigits]
    by_cases h : u < 10
    · rw [dif_pos h]
      show 0 * 10 + ((UInt8.ofNat (48 + u)).toNat - 48) = u
      rw [digit_nat u h]; omega
    · rw [dif_neg h, valD_snoc, ih (u / 10) (by omega), digit_nat _ (by omega)]
      omega
theorem dec_range (u : Nat) : ∀ b ∈ Lib.decDigits u, 48 ≤ b.toNat ∧ b.toNat ≤ 57 := by
  induction u using Nat.strongRecOn with
  | _ u ih =>
    rw [Lib.decDigits]
    by_cases h : u < 10
    · rw [dif_pos h]
      intro b hb
      rw [List.mem_singleton] at hb
      subst hb
      rw [digit_nat u h]; omega
    · rw [dif_neg h]
      intro b hb
      rcases List.mem_append.1 hb with hb | hb
      · exact ih (u / 10) (by omega) b hb
      · rw [List.mem_singleton] at hb
        subst hb
        rw [digit_nat _ (by omega)]; omega
theorem dec_inj {a b : Nat} (h : Lib.decDigits a = Lib.decDigits b) : a = b := by rw [← valD_dec a, h, valD_dec]
theorem itoa_blank (n : Int) : ∀ b ∈ Lib.itoa n, b ≠ 32 := by
  intro b hb
  unfold Lib.itoa at hb
  have hd : ∀ u, b ∈ Lib.decDigits u → b ≠ 32 := fun u h e => by have := dec_range u b h; rw [e] at this; exact absurd this.1 (by decide)
  split at hb
  · rcases List.mem_cons.1 hb with rfl | h
    · decide
    · exact hd _ h
  · exact hd _ hb
theorem itoa_inj {a b : Int} (h : Lib.itoa a = Lib.itoa b) : a = b := by
  have hd : ∀ u r, Lib.decDigits u ≠ 45 :: r := fun u r e => by
    have := dec_range u 45 (by rw [e]; exact List.mem_cons_self)
    exact absurd this.1 (by decide)
  unfold Lib.itoa at h
  by_cases ha : a < 0
  · by_cases hb : b < 0
    · rw [if_pos ha, if_pos hb, List.cons.injEq] at h
      have := dec_inj h.2
      omega
    · rw [if_pos ha, if_neg hb] at h
      exact absurd h.symm (hd _ _)
  · by_cases hb : b < 0
    · rw [if_neg ha, if_pos hb] at h
      exact absurd h (hd _ _)
    · rw [if_neg ha, if_neg hb] at h
      have := dec_inj h
      omega
/-- Nothing, or a blank ahead. -/
def Blank1 (r : List UInt8) : Prop := r = [] ∨ ∃ s, r = 32 :: s
theorem blank_cut : ∀ (x y r s : List UInt8), (∀ b ∈ x, b ≠ 32) → (∀ b ∈ y, b ≠ 32) → Blank1 r → Blank1 s → x ++ r = y ++ s → x = y ∧ r = s
  | [], [], r, s, _, _, _, _, h => ⟨rfl, h⟩
  | [], y :: ys, r, s, _, hy, hr, _, h => by
    exfalso
    rw [List.nil_append] at h
    rcases hr with rfl | ⟨t, rfl⟩
    · exact absurd h (by simp)
    · rw [List.cons_append, List.cons.injEq] at h
      exact hy y List.mem_cons_self h.1.symm
  | x :: xs, [], r, s, hx, _, _, hs, h => by
    exfalso
    rw [List.nil_append] at h
    rcases hs with rfl | ⟨t, rfl⟩
    · exact absurd h (by simp)
    · rw [List.cons_append, List.cons.injEq] at h
      exact hx x List.mem_cons_self h.1
  | x :: xs, y :: ys, r, s, hx, hy, hr, hs, h => by
    rw [List.cons_append, List.cons_append, List.cons.injEq] at h
    obtain ⟨e1, e2⟩ := blank_cut xs ys r s (fun b hb => hx b (List.mem_cons_of_mem _ hb)) (fun b hb => hy b (List.mem_cons_of_mem _ hb)) hr hs h.2
    exact ⟨by rw [h.1, e1], e2⟩
theorem itoa_cut {a b : Int} {r s : List UInt8} (hr : Blank1 r) (hs : Blank1 s) (h : Lib.itoa a ++ r = Lib.itoa b ++ s) : a = b ∧ r = s := by
  obtain ⟨h1, h2⟩ := blank_cut _ _ r s (itoa_blank a) (itoa_blank b) hr hs h
  exact ⟨itoa_inj h1, h2⟩
def nmbB (n : Int) : List UInt8 := 32 :: Lib.itoa n
def txtB (s : List UInt8) : List UInt8 := nmbB (s.length : Int) ++ 32 :: s
def encP (p : List (List UInt8)) : List UInt8 := p.flatMap txtB
def encK (ns : List Nat) : List UInt8 := ns.flatMap fun n : Nat => nmbB (n : Int)
def encL (q : Look) : List UInt8 := Lib.itoa q.1 ++ (txtB q.2.1 ++ (nmbB (q.2.2.1.length : Int) ++ (encP q.2.2.1 ++ encK q.2.2.2)))
theorem txt_cut {a b r s : List UInt8} (h : txtB a ++ r = txtB b ++ s) : a = b ∧ r = s := by
  unfold txtB nmbB at h
  simp only [List.append_assoc, List.cons_append, List.cons.injEq, true_and] at h
  obtain ⟨h1, h2⟩ := itoa_cut (.inr ⟨_, rfl⟩) (.inr ⟨_, rfl⟩) h
  rw [List.cons.injEq] at h2
  exact List.append_inj h2.2 (by omega)
theorem nmb_cut {a b : Int} {r s : List UInt8} (hr : Blank1 r) (hs : Blank1 s) (h : nmbB a ++ r = nmbB b ++ s) : a = b ∧ r = s := by
  unfold nmbB at h
  rw [List.cons_append, List.cons_append, List.cons.injEq] at h
  exact itoa_cut hr hs h.2
theorem encK_blank : ∀ ns, Blank1 (encK ns)
  | [] => .inl rfl
  | n :: r => .inr ⟨Lib.itoa n ++ encK r, rfl⟩
theorem encP_blank (p : List (List UInt8)) (r : List UInt8) (hr : Blank1 r) : Blank1 (encP p ++ r) := by
  cases p with
  | nil => exact hr
  | cons a p => exact .inr ⟨_, rfl⟩
theorem encK_inj : ∀ {a b : List Nat}, encK a = encK b → a = b
  | [], [], _ => rfl
  | [], _ :: _, h => absurd h (by simp [encK, nmbB])
  | _ :: _, [], h => absurd h (by simp [encK, nmbB])
  | x :: a, y :: b, h => by
    have h' : nmbB (x : Int) ++ encK a = nmbB (y : Int) ++ encK b := h
    obtain ⟨h1, h2⟩ := nmb_cut (encK_blank a) (encK_blank b) h'
    rw [encK_inj h2, show x = y by omega]
theorem encP_cut : ∀ {a b : List (List UInt8)} {r s : List UInt8}, a.length = b.length → encP a ++ r = encP b ++ s → a = b ∧ r = s
  | [], [], _, _, _, h => ⟨rfl, h⟩
  | [], _ :: _, _, _, hl, _ => absurd hl (by simp)
  | _ :: _, [], _, _, hl, _ => absurd hl (by simp)
  | x :: a, y :: b, r, s, hl, h => by
    have h' : txtB x ++ (encP a ++ r) = txtB y ++ (encP b ++ s) := by
      have e : ∀ z p, encP (z :: p) = txtB z ++ encP p := fun _ _ => rfl
      rw [e, e, List.append_assoc, List.append_assoc] at h
      exact h
    obtain ⟨h1, h2⟩ := txt_cut h'
    obtain ⟨h3, h4⟩ := encP_cut (by simpa using hl) h2
    exact ⟨by rw [h1, h3], h4⟩
theorem encL_inj {a b : Look} (h : encL a = encL b) : a = b := by
  obtain ⟨a1, a2, a3, a4⟩ := a
  obtain ⟨b1, b2, b3, b4⟩ := b
  unfold encL at h
  obtain ⟨h1, h2⟩ := itoa_cut (.inr ⟨_, rfl⟩) (.inr ⟨_, rfl⟩) h
  obtain ⟨h3, h4⟩ := txt_cut h2
  obtain ⟨h5, h6⟩ := nmb_cut (encP_blank _ _ (encK_blank _)) (encP_blank _ _ (encK_blank _)) h4
  obtain ⟨h7, h8⟩ := encP_cut (by change ((a3.length : Nat) : Int) = (b3.length : Int) at h5; show a3.length = b3.length; omega) h6
  have h9 := encK_inj h8
  simp only at h1 h3 h7 h9
  rw [h1, h3, h7, h9]
theorem enc_idx (D : List Look) (q : Look) : (D.map encL).idxOf (encL q) = D.idxOf q := by
  induction D with
  | nil => rfl
  | cons a D ih =>
    rw [List.map_cons, List.idxOf_cons, List.idxOf_cons, ih]
    by_cases h : a = q
    · subst h; simp
    · have : (encL a == encL q) = false := by rw [beq_eq_false_iff_ne]; exact fun e => h (encL_inj e)
      rw [this, (beq_eq_false_iff_ne).2 h]
theorem enc_mem (D : List Look) (q : Look) : encL q ∈ D.map encL ↔ q ∈ D := by
  rw [List.mem_map]
  constructor
  · rintro ⟨x, hx, e⟩
    rw [← encL_inj e]; exact hx
  · intro h
    exact ⟨q, h, rfl⟩
end Go.Proofs.YtbcmpacmoofdkaaGreatDoor
/- appendNumber and appendText: a number and a text behind a row of bytes. -/
namespace Go.Proofs.YtbcmpacmoofdkaaGreatDoor
open Go.ChangeShapes Go.WideShapes Go.ChangeAt Go.RowKit

theorem own_strS {B : Nat} {v : Value} {l : List UInt8} {w : World} {L : Nat} {z : ByteArray} (e : l.length = L) (h : w.ownsRow B 5 1 v (L + z.size) (Lib.byteCells l ++ Lib.strCells z)) : Own B v (l ++ z.data.toList) w := by
  unfold Own
  have eb : Lib.byteCells (l ++ z.data.toList) = Lib.byteCells l ++ Lib.strCells z := by simp [Lib.byteCells, Lib.strCells]
  have ez : z.data.toList.length = z.size := Array.length_toList
  rw [eb, List.length_append, e, ez]
  exact h
/-- The table of powers of ten, also behind calls that write behind B alone. -/
def PowB (B : Nat) (w : World) : Prop := Lib.TabBelow Tryz.prog B w "internal/strconv.uint64pow10" .u64 Lib.pow10Tab
theorem PowB.on {B C : Nat} {w w' : World} (h : PowB B w) (b : Below B w w') (hC : B ≤ C) : PowB C w' := fun w'' h'' => h w'' (b.trans (h''.mono hC))
theorem itoa_len (n : Int) (h0 : -9223372036854775808 ≤ n) (h1 : n ≤ 9223372036854775807) : (Lib.itoa n).length ≤ 20 := by
  have hd : ∀ u : Nat, u ≤ 9223372036854775808 → (Lib.decDigits u).length ≤ 19 := fun u hu => by
    rw [Lib.decDigits_length]
    have : ∀ k u : Nat, u < 10 ^ (k + 1) → Lib.nDigits u ≤ k + 1 := by
      intro k
      induction k with
      | zero => intro u h; rw [Lib.nDigits_small (by simpa using h)]; exact Nat.le_refl _
      | succ k ih =>
        intro u h
        by_cases h10 : u < 10
        · rw [Lib.nDigits_small h10]; omega
        · rw [Lib.nDigits_big h10]
          have := ih (u / 10) (by rw [Nat.pow_succ] at h; omega)
          omega
    exact this 18 u (Nat.lt_of_le_of_lt hu (by decide))
  unfold Lib.itoa
  split
  · rw [List.length_cons]; have := hd n.natAbs (by omega); omega
  · have := hd n.toNat (by omega); omega

set_option maxHeartbeats 2000000 in
set_option maxRecDepth 100000 in
theorem appendNumber_any (B : Nat) (v : Value) (l : List UInt8) (n : Int) (h0 : -9223372036854775808 ≤ n) (h1 : n ≤ 9223372036854775807) (w : World) (hv : Own B v l w) (hl : l.length ≤ 100000000000000) (hB : B ≤ w.heap.size) (hP : PowB B w) :
    Calls Tryz.prog 78 #[v, .int .i64 n] w fun e w' => ∃ v', e = .returned v' ∧ Own B v' (l ++ nmbB n) w' ∧ Below B w w' := by
  obtain ⟨i0, hi, hz0, hz1, hz2⟩ := info_parts infoByte
  obtain ⟨L, eL⟩ : ∃ L, l.length = L := ⟨_, rfl⟩
  have HW : Hid (w.ownsRow B 5 1 v L (Lib.byteCells l)) := by rw [← eL]; exact hv
  have EL := hide eL
  rw [eL] at hl
  obtain ⟨ao, cap, hvs⟩ := own_slice hv
  rw [eL] at hvs
  subst hvs
  have CA := hide (fun W sv xs (o : W.ownsRow B 5 1 sv (L + 1) xs) (b : Below B w W) (s : B ≤ W.heap.size) => Tryz.strconv_AppendInt_10 B (L + 1) n h0 h1 sv xs W o s (by omega) (Lib.TabBelow.on hP b))
  clear hP hv eL
  go_enter Tryz.func78, Tryz.ntmps78
  go_wp2_with (first
    | (at_builtin; refine wpList_append_own _ rfl _ _ 120 rfl B 5 i0 (.int .u8 0) 1 1 Tryz.underlying120 hi hz0 hz1 hz2 rfl (by decide) _ _ _ rfl (HW.out.alloc _) ⟨_, 0, none⟩ 1 1 [.int .u8 32] rfl rfl (cells_new _ _ _) (by simp [Value.oneCell']) (by unfold maxLen; omega) (by omega) (by simp; omega) ?_; intro v1 w1 o1 g1 _; (have B1 := ((Below.refl B w).alloc hB _).grown g1 (by simp; omega) (fun j hj => (HW.out.lt j hj).1)); (have S1 := Nat.le_trans hB B1.size); (have O1 := hide o1); clear o1 g1 HW)
    | (go_at_call 76; refine (CA.out _ _ _ O1.out B1 S1).mono ?_; clear CA; rintro e w2 ⟨v2, rfl, o2, b2, _⟩; (have O2 := hide o2); clear o2))
  go_ret
  refine ⟨_, rfl, ?_, B1.trans b2⟩
  have o := O2.out
  unfold Own nmbB
  rw [byteCells_snoc, List.length_append, EL.out, List.length_cons]
  rw [List.append_assoc] at o
  have e : L + ((Lib.itoa n).length + 1) = L + 1 + (Lib.itoa n).length := by omega
  rw [e]
  exact o

set_option maxHeartbeats 2000000 in
set_option maxRecDepth 100000 in
theorem appendText_any (B : Nat) (v : Value) (l : List UInt8) (s : ByteArray) (w : World) (hv : Own B v l w) (hl : l.length ≤ 90000000000000) (hs : s.size ≤ 1048576) (hB : B ≤ w.heap.size) (hP : PowB B w) :
    Calls Tryz.prog 77 #[v, .string s] w fun e w' => ∃ v', e = .returned v' ∧ Own B v' (l ++ txtB s.data.toList) w' ∧ Below B w w' := by
  obtain ⟨i0, hi, hz0, hz1, hz2⟩ := info_parts infoByte
  obtain ⟨N, hN⟩ : ∃ N, s.size = N := ⟨_, rfl⟩
  have hNl : s.data.toList.length = N := by rw [← hN]; exact Array.length_toList
  have CA := hide (appendNumber_any B v l (N : Int) (by omega) (by omega) w hv (by omega) hB hP)
  obtain ⟨ao, cap, hvs⟩ := own_slice hv
  obtain ⟨L, eL⟩ : ∃ L, l.length = L := ⟨_, rfl⟩
  have hi20 := itoa_len (N : Int) (by omega) (by omega)
  obtain ⟨M, hM⟩ : ∃ M, (l ++ nmbB (N : Int)).length = M := ⟨_, rfl⟩
  have hML : M = L + ((Lib.itoa (N : Int)).length + 1) := by rw [← hM, List.length_append, eL]; unfold nmbB; rw [List.length_cons]
  have HM := hide hM
  rw [eL] at hl hvs
  subst hvs
  rw [hN] at hs
  have HN := hide hNl
  obtain ⟨A, hA⟩ : ∃ A, l ++ nmbB (N : Int) = A := ⟨_, rfl⟩
  have HA := hide hA
  rw [hA] at CA HM
  have hMl : M ≤ 90000000001000 := by omega
  clear hP hv eL hM hML hi20 hNl hA
  go_enter Tryz.func77, Tryz.ntmps77
  go_wp2_with (first
    | (go_at_call 78; refine (CA.out).mono ?_; clear CA; rintro e w1 ⟨v1, rfl, o1, b1⟩; (have S1 := Nat.le_trans hB b1.size); (obtain ⟨ao1, cap1, hv1⟩ := own_slice o1); rw [HM.out] at hv1; subst hv1; (have O1 := hide (own_row o1 HM.out)); clear o1)
    | (at_builtin; refine wpList_append_own _ rfl _ _ 120 rfl B 5 i0 (.int .u8 0) 1 1 Tryz.underlying120 hi hz0 hz1 hz2 rfl (by decide) _ _ _ rfl (O1.out.alloc _) ⟨_, 0, none⟩ 1 1 [.int .u8 32] rfl rfl (cells_new _ _ _) (by simp [Value.oneCell']) (by unfold maxLen; omega) (by omega) (by simp; omega) ?_; intro v2 w2 o2 g2 _; (have B2 := (b1.alloc S1 _).grown g2 (by simp; omega) (fun j hj => (O1.out.lt j hj).1)); (have S2 := Nat.le_trans hB B2.size); (have O2 := hide o2); clear o2 g2 O1)
    | (at_builtin; refine Lib.wpList_append_own_string _ rfl _ _ 120 9 rfl B 5 i0 Tryz.underlying120 Tryz.underlying9 hi hz0 hz1 hz2 _ _ _ rfl O2.out s rfl (by unfold maxLen; omega) (by omega) (by omega) ?_; intro v3 w3 o3 g3 _; (have B3 := B2.grown g3 S2 (fun j hj => (O2.out.lt j hj).1)); (have O3 := hide o3); clear o3 g3))
  go_ret
  refine ⟨_, rfl, ?_, B3⟩
  have o := O3.out
  have e : l ++ txtB s.data.toList = (A ++ [32]) ++ s.data.toList := by
    unfold txtB
    rw [HN.out, ← HA.out, List.append_assoc, List.append_assoc]
    rfl
  rw [e]
  refine own_strS (L := M + 1) (by rw [List.length_append, HM.out]; rfl) ?_
  rw [byteCells_snoc]
  exact o
end Go.Proofs.YtbcmpacmoofdkaaGreatDoor
/- Rows of numbers that are written, and the map of looks. -/
namespace Go.Proofs.YtbcmpacmoofdkaaGreatDoor
open Go.ChangeShapes Go.WideShapes Go.ChangeAt Go.RowKit

/-- Numbers in a block of their own. -/
structure IntR (w : World) (g n : Nat) (f : Nat → Int) : Prop where
  cells : ∀ j, j < n → w.cell? ⟨g, j, none⟩ = some (.int .i64 (f j))
  froze : ∀ j, j < n → w.frozen? ⟨g, j, none⟩ = false
theorem IntR.below {w w' : World} {g n B : Nat} {f : Nat → Int} (h : IntR w g n f) (b : Below B w w') (hg : g < B) : IntR w' g n f :=
  ⟨fun j hj => by rw [b.cell (p := ⟨g, j, none⟩) hg]; exact h.cells j hj, fun j hj => by rw [b.frozen (p := ⟨g, j, none⟩) hg]; exact h.froze j hj⟩
theorem IntR.congr {w : World} {g n : Nat} {f f' : Nat → Int} (h : IntR w g n f) (e : ∀ j, j < n → f' j = f j) : IntR w g n f' :=
  ⟨fun j hj => by rw [e j hj]; exact h.cells j hj, h.froze⟩
theorem IntR.set {w : World} {g n m : Nat} {f : Nat → Int} (h : IntR w g n f) (hm : m < n) (x : Int) : IntR (w.setCell ⟨g, m, none⟩ (.int .i64 x)) g n (updN f m x) := by
  refine ⟨fun j hj => ?_, fun j hj => by rw [World.frozen?_setCell]; exact h.froze j hj⟩
  by_cases e : j = m
  · subst e
    rw [updN_same]
    exact World.cell?_setCell_same _ _ _ (h.cells j hj)
  · rw [updN_other _ _ e]
    exact (World.cell?_setCell_other _ _ _ _ (by simp <;> omega)).trans (h.cells j hj)
theorem IntR.setOther {w : World} {g n : Nat} {f : Nat → Int} (h : IntR w g n f) {a : Addr} (ha : g ≠ a.block) (x : Value) : IntR (w.setCell a x) g n f :=
  ⟨fun j hj => (World.cell?_setCell_other _ _ _ _ (fun e => ha (by rw [e]))).trans (h.cells j hj), fun j hj => by rw [World.frozen?_setCell]; exact h.froze j hj⟩
theorem IntR.grown {w w' : World} {g n : Nat} {f : Nat → Int} {row : Option Nat} (h : IntR w g n f) (hg : w.grownBy w' row) (hlt : g < w.heap.size) (hne : some g ≠ row) : IntR w' g n f :=
  ⟨fun j hj => (World.cell?_of_block (a := ⟨g, j, none⟩) (hg.block g hlt hne)).trans (h.cells j hj), fun j hj => (World.frozen?_of_block (a := ⟨g, j, none⟩) (hg.block g hlt hne)).trans (h.froze j hj)⟩
theorem IntR.rdI {w : World} {g n B : Nat} {f : Nat → Int} (h : IntR w g n f) (hg : g < B) (hn : n ≤ 9223372036854775807) : RdI B w (.slice (some ⟨g, 0, none⟩) n n) ((List.range n).map f) := by
  refine ⟨some ⟨g, 0, none⟩, n, by simp, by simpa using hn, fun j hj => ⟨⟨g, 0, none⟩, rfl, hg, ?_⟩⟩
  rw [List.length_map, List.length_range] at hj
  rw [show (⟨g, 0, none⟩ : Addr).add j = ⟨g, j, none⟩ from by unfold Addr.add; simp; omega]
  rw [h.cells j hj]
  simp [List.getD, hj]
theorem int_made {w : World} {B g n : Nat} (h : w.ownsRow B 3 1 (.slice (some ⟨g, 0, none⟩) n n) n (madeCells (Value.int .i64 0).cells (n * 1)).toList) : IntR w g n (fun _ => 0) := by
  rw [Nat.mul_one] at h
  have e : (madeCells (Value.int .i64 0).cells n).toList = List.replicate n (.int .i64 0) := toList_madeCells_one (.int .i64 0) n
  rw [e] at h
  refine ⟨fun j hj => ?_, fun j _ => h.frozenAt j⟩
  rw [h.cellAt j (by omega)]
  simp [hj]

/-- A map of the program that reads as the looks that have been met, each with its number. -/
def MapL (D : DataW Unit) (Ds : List Look) : Prop := Maps.Tidy D ∧ Maps.size D = Ds.length ∧ ∀ q : Look, Maps.has D (.string (encL q)) = decide (q ∈ Ds) ∧ (q ∈ Ds → ∀ z, D.atKey (.string (encL q)) z = .lit (.int .i64 (Ds.idxOf q : Nat)))
theorem mapL_nil : MapL (.map []) [] := ⟨Maps.tidy_empty, rfl, fun q => ⟨by simp [Maps.has], fun h => absurd h (by simp)⟩⟩
theorem mapL_put {D : DataW Unit} {Ds : List Look} (h : MapL D Ds) {q : Look} (hq : q ∉ Ds) : MapL (D.put (.string (encL q)) (.lit (.int .i64 (Ds.length : Nat)))) (Ds ++ [q]) := by
  obtain ⟨ht, hs, hl⟩ := h
  have hk : WideAt.IsKeyLit (.string (encL q)) := by unfold WideAt.IsKeyLit; trivial
  have h0 : Maps.has D (.string (encL q)) = false := by rw [(hl q).1]; exact decide_eq_false hq
  refine ⟨ht.put hk _, ?_, fun q' => ?_⟩
  · rw [Maps.size_put ht, h0, hs, List.length_append]
    rfl
  · by_cases e : q' = q
    · subst e
      refine ⟨by rw [Maps.has_put_same ht.isMap hk]; simp, fun _ z => ?_⟩
      rw [Maps.atKey_put_same ht.isMap hk, List.idxOf_append, if_neg hq]
      simp
    · have hne : (Lit.string (encL q')) ≠ .string (encL q) := fun h => e (encL_inj (by injection h))
      refine ⟨by rw [Maps.has_put_other hne, (hl q').1]; simp [e], fun hm z => ?_⟩
      have hm' : q' ∈ Ds := by
        rcases List.mem_append.1 hm with h | h
        · exact h
        · exact absurd (List.mem_singleton.1 h) e
      rw [Maps.atKey_put_other hne, (hl q').2 hm' z, idxOf_app Ds q q' hm']
theorem ownsMap_below {P : Program} {k : TypeId} {R : Value → Option (DataW Unit × List MemPlace)} {w w' : World} {b n : Nat} {D : DataW Unit} (h : w.ownsMap P k R b n D) (bl : Below w.heap.size w w') : w'.ownsMap P k R b n D := by
  have hlt := h.lt
  obtain ⟨es, clock, hb, F, hs, hD⟩ := h
  exact ⟨es, clock, (bl.block b hlt).trans hb, F, hs, hD⟩
theorem keyedS : Maps.Keyed Tryz.prog 9 := Maps.string_keyed Tryz.underlying9
theorem zeroS (w : World) : (zeroValue 3).run Tryz.prog w = .ok (.int .i64 0) w := by kernel_rfl
end Go.Proofs.YtbcmpacmoofdkaaGreatDoor
