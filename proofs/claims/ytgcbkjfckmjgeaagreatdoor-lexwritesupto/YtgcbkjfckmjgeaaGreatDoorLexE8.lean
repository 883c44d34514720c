/- The laws' closed call: it answers true. -/
import Derived.Test.YtgcbkjfckmjgeaaGreatDoorProg
import Derived.Test.YtgcbkjfckmjgeaaGreatDoorLexE7
import Derived.Test.YtgcbkjfckmjgeaaGreatDoorShelf
import Derived.WalkKit
import Derived.ProofKit
import Derived.OpenShut
import Derived.Below
import Derived.WalkLawsBesides
import Derived.OwnWalk
import Derived.BigQuiet
import Derived.WalkSmall
import Derived.Deep.MidRow
import Derived.Deep.RegionHeld
import Derived.Deep.RegionHeld3
namespace Go.Proofs.YtgcbkjfckmjgeaaGreatDoor
open Go.ChangeShapes Go.WideShapes Go.ChangeAt Go.RowKit

def Tok.toI (t : Tok) : ITok := ⟨(t.kind : Int), t.text, t.path, (t.line : Int), (t.column : Int)⟩
/-- The texts of tokens are not too long. -/
def Modest (l : List Tok) : Prop := ∀ t ∈ l, t.text.length ≤ 281474976710656 ∧ ∀ q ∈ t.path, q.length ≤ 281474976710656
theorem tokCells_at : ∀ (l : List Tok) (ps : List Value) (j : Nat), ps.length = l.length → j < l.length → ∃ t pv, l[j]? = some t ∧ ps[j]? = some pv
    ∧ (tokCells l ps)[j * 5]? = some (.int .i64 (t.kind : Int)) ∧ (tokCells l ps)[j * 5 + 1]? = some (.string ⟨t.text.toArray⟩) ∧ (tokCells l ps)[j * 5 + 2]? = some pv ∧ (tokCells l ps)[j * 5 + 3]? = some (.int .i64 (t.line : Int)) ∧ (tokCells l ps)[j * 5 + 4]? = some (.int .i64 (t.column : Int)) := by
  intro l
  induction l with
  | nil => intro ps j _ h; simp at h
  | cons t r ih =>
    intro ps j hl hj
    match ps, hl with
    | p :: ps, hl =>
      cases j with
      | zero => exact ⟨t, p, rfl, rfl, rfl, rfl, rfl, rfl, rfl⟩
      | succ j =>
        obtain ⟨t', pv, h1, h2, h3, h4, h5, h6, h7⟩ := ih ps j (by simpa using hl) (by simpa using hj)
        have e : ∀ i, (tokCells (t :: r) (p :: ps))[(j + 1) * 5 + i]? = (tokCells r ps)[j * 5 + i]? := by
          intro i
          have : (j + 1) * 5 + i = (j * 5 + i) + 5 := by omega
          rw [this]
          rfl
        refine ⟨t', pv, h1, h2, ?_, ?_, ?_, ?_, ?_⟩
        · have := e 0; simp only [Nat.add_zero] at this; rw [this]; exact h3
        · rw [e]; exact h4
        · rw [e]; exact h5
        · rw [e]; exact h6
        · rw [e]; exact h7
theorem PathsOk.at {B : Nat} {w : World} : ∀ {l : List Tok} {ps : List Value} {j : Nat} {t : Tok} {pv : Value}, PathsOk B w l ps → l[j]? = some t → ps[j]? = some pv → OwnS B pv t.path w
  | _ :: _, _ :: _, 0, _, _, h, h1, h2 => by cases h1; cases h2; exact h.1
  | _ :: _, _ :: _, _ + 1, _, _, h, h1, h2 => PathsOk.at h.2 h1 h2
  | [], [], _, _, _, _, h1, _ => by simp at h1
  | [], _ :: _, _, _, _, h, _, _ => h.elim
  | _ :: _, [], _, _, _, h, _, _ => h.elim
/-- A row of tokens that a scan made can be read. -/
theorem rdT_tok {B : Nat} {w : World} {v : Value} {l : List Tok} (h : TokRow B v l w) (hm : Modest l) : RdT w v (l.map Tok.toI) := by
  obtain ⟨ps, hp, hr⟩ := h
  rcases hr.2 with ⟨hv, h0⟩ | ⟨g, cap, cur, hv, hb, hw, hr2⟩
  · obtain rfl : l = [] := List.eq_nil_of_length_eq_zero h0
    rw [hv]
    exact ⟨none, 0, rfl, Nat.zero_le _, fun j hj => absurd hj (by simp)⟩
  · have hc := hr.cells (g := g) (by rw [hv]; rfl)
    have ea : ∀ j : Nat, (⟨g, 0, none⟩ : Addr).add j = ⟨g, j, none⟩ := fun j => by unfold Addr.add; simp; omega
    refine ⟨some ⟨g, 0, none⟩, cap, by rw [hv, List.length_map], by rw [List.length_map]; have h1 := hr2.1; have h2 := hr2.2.1; unfold maxLen at h2; omega, fun j hj => ?_⟩
    rw [List.length_map] at hj
    obtain ⟨t, pv, h1, h2, h3, h4, h5, h6, h7⟩ := tokCells_at l ps j hp.length hj
    have et : (l.map Tok.toI).getD j ITok.zero = t.toI := by simp [List.getD_eq_getElem?_getD, h1]
    rw [et]
    refine ⟨g, 0, pv, rfl, ?_, ?_⟩
    · rcases Nat.lt_or_ge g w.heap.size with x | x
      · exact x
      · rw [Array.getElem?_eq_none x] at hw; cases hw
    · have hmt := hm t (List.mem_of_getElem? h1)
      rw [Nat.zero_add]
      refine ⟨?_, ?_, ?_, ?_, ?_, rdS_own (hp.at h1 h2), hmt.1, fun i hi => hmt.2 _ ?_⟩
      · have := hc _ _ h3; rwa [ea] at this
      · have := hc _ _ h4; rwa [ea] at this
      · have := hc _ _ h5; rwa [ea] at this
      · have := hc _ _ h6; rwa [ea] at this
      · have := hc _ _ h7; rwa [ea] at this
      · rw [List.getD_eq_getElem?_getD, List.getElem?_eq_getElem (show i < t.toI.path.length from hi)]
        exact List.getElem_mem _

def awakeToks : List Tok := [⟨1, [118, 97, 108], [], 1, 1⟩, ⟨2, [120], [], 1, 5⟩, ⟨1, [61], [], 1, 6⟩, ⟨4, [126, 53], [], 1, 8⟩, ⟨2, [98], [[65]], 1, 15⟩]
theorem awake_join : joinL (awakeToks.map Tok.toI) = ([118, 97, 108, 32, 120, 32, 61, 32, 126, 53, 32, 65, 46, 98], 0) := by kernel_rfl
theorem awake_modest : Modest awakeToks := by
  intro t ht
  simp only [awakeToks, List.mem_cons, List.not_mem_nil, or_false] at ht
  rcases ht with rfl | rfl | rfl | rfl | rfl
  all_goals (refine ⟨by simp, fun q hq => ?_⟩; simp at hq; try (subst hq; simp))
theorem awake_row {B : Nat} {v : Value} {w : World} (h : TokRow B v awakeToks w) : ∃ g cap pc po, v = .slice (some ⟨g, 0, none⟩) 5 cap ∧ g < w.heap.size ∧ w.cell? ⟨g, 15, none⟩ = some (.int .i64 4) ∧ w.cell? ⟨g, 19, none⟩ = some (.int .i64 8) ∧ w.cell? ⟨g, 22, none⟩ = some (.slice po 1 pc) := by
  obtain ⟨ps, hp, hr⟩ := h
  rcases hr.2 with ⟨hv, h0⟩ | ⟨g, cap, cur, hv, hb, hw, hr2⟩
  · cases h0
  · have hc := hr.cells (g := g) (by rw [hv]; rfl)
    have ea : ∀ j : Nat, (⟨g, 0, none⟩ : Addr).add j = ⟨g, j, none⟩ := fun j => by unfold Addr.add; simp; omega
    obtain ⟨t, pv, h1, h2, h3, h4, h5, h6, h7⟩ := tokCells_at awakeToks ps 3 hp.length (by decide)
    obtain ⟨t', pv', k1, k2, k3, k4, k5, k6, k7⟩ := tokCells_at awakeToks ps 4 hp.length (by decide)
    cases h1
    cases k1
    obtain ⟨po, pc, hpe⟩ := ownS_slice (hp.at (j := 4) rfl k2)
    subst hpe
    refine ⟨g, cap, pc, po, hv, ?_, ?_, ?_, ?_⟩
    · rcases Nat.lt_or_ge g w.heap.size with x | x
      · exact x
      · rw [Array.getElem?_eq_none x] at hw; cases hw
    · have := hc _ _ h3; rw [ea] at this; exact this
    · have := hc _ _ h7; rw [ea] at this; exact this
    · have := hc _ _ k5; rw [ea] at this; exact this

set_option maxHeartbeats 16000000 in
set_option maxRecDepth 100000 in
theorem awake_any (w : World) (RD : Rdy w) : Calls Tryz.prog 9 #[] w fun e w' => e = .returned (.bool true) ∧ Below w.heap.size w w' := by
  have CS := hide (scan_any ⟨#[118, 97, 108, 32, 120, 61, 32, 126, 53, 40, 42, 97, 42, 41, 65, 46, 98]⟩ (by decide) w RD)
  have e1 : scanL (ByteArray.mk #[118, 97, 108, 32, 120, 61, 32, 126, 53, 40, 42, 97, 42, 41, 65, 46, 98]).data.toList = (awakeToks, 0, 0, 0) := scan_awake
  rw [e1] at CS
  have CJ : Hid (∀ (W : World) (v : Value), Rdy W → TokRow w.heap.size v awakeToks W → Calls Tryz.prog 14 #[v] W fun e w' => e = .returned (.tuple #[.string ⟨#[118, 97, 108, 32, 120, 32, 61, 32, 126, 53, 32, 65, 46, 98]⟩, .int .i64 0]) ∧ Below W.heap.size W w') := by
    intro W v R h
    have := join_any v (awakeToks.map Tok.toI) W R (rdT_tok h awake_modest)
    rw [awake_join] at this
    exact this
  have CR : Hid (∀ W, Calls Tryz.prog 12 #[.string ⟨#[97, 110, 100, 97, 108, 115, 111]⟩] W fun e w' => e = .returned (.bool true) ∧ w' = W) := by
    intro W
    have := dreserved_any ⟨#[97, 110, 100, 97, 108, 115, 111]⟩ W
    exact this
  have RDh := hide RD
  clear e1 RD
  go_enter Tryz.func9, Tryz.ntmps9
  go_wp2_with (first
    | (go_at_call 6; refine CS.out.mono ?_; rintro e w1 ⟨⟨tv, htv, hret⟩, b1⟩; (have hret2 : e = .returned (.tuple #[tv, .int .i64 0, .int .i64 0, .int .i64 0]) := hret); subst hret2; clear hret; (have HTV := hide htv); (obtain ⟨g, cap, pc, po, htt, hg, d0, d1, d2⟩ := awake_row htv); subst htt; clear htv)
    | (go_at_call 14; refine (CJ.out _ _ (RDh.out.below b1) HTV.out).mono ?_; rintro e w2 ⟨rfl, b2⟩; (have d0' := (b2.cell (p := ⟨g, 15, none⟩) hg).trans d0); (have d1' := (b2.cell (p := ⟨g, 19, none⟩) hg).trans d1); (have d2' := (b2.cell (p := ⟨g, 22, none⟩) hg).trans d2); (have B2 := b1.trans (b2.mono b1.size)))
    | (go_at_call 12; refine (CR.out _).mono ?_; rintro e w3 ⟨rfl, h9⟩; replace h9 := h9.symm; subst h9))
  go_ret
  exact ⟨rfl, B2⟩
end Go.Proofs.YtgcbkjfckmjgeaaGreatDoor
