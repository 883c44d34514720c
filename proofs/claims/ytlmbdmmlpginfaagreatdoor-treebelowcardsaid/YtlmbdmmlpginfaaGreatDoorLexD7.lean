/- The program's scanner: names and signs. -/
import Derived.Test.YtlmbdmmlpginfaaGreatDoorProg
import Derived.Test.YtlmbdmmlpginfaaGreatDoorLexD6
import Derived.Test.YtlmbdmmlpginfaaGreatDoorLexR
import Derived.Test.YtlmbdmmlpginfaaGreatDoorLexB
import Derived.Test.YtlmbdmmlpginfaaGreatDoorShelf
import Derived.WalkKit
import Derived.ProofKit
import Derived.OpenShut
import Derived.Below
import Derived.WalkLawsBesides
import Derived.OwnWalk
import Derived.BigQuiet
import Derived.Lib.IndexBytes
import Derived.Deep.MidRow
namespace Go.Proofs.YtlmbdmmlpginfaaGreatDoor
open Go.ChangeShapes Go.WideShapes Go.ChangeAt Go.RowKit

set_option maxRecDepth 100000 in
set_option maxHeartbeats 4000000 in
theorem reserved_cut (s : ByteArray) (n : Nat) (hn : n ≤ s.size) (w : World) : Calls Tryz.prog 87 #[.string s, .int .i64 (n : Int)] w fun e w' => e = .returned (.bool (resL (s.data.toList.take n))) ∧ w' = w := by
  obtain ⟨t, ht⟩ : ∃ t, s.extract 0 n = t := ⟨_, rfl⟩
  have htl : t.data.toList = s.data.toList.take n := by rw [← ht, ext_take]
  have CR := hide (fun W => dreserved_any t W)
  rw [htl] at CR
  clear htl
  go_enter Tryz.func87, Tryz.ntmps87
  go_wp2_with (go_at_call 109; refine (CR.out _).mono ?_; rintro e w1 ⟨rfl, rfl⟩)
  go_ret
  exact ⟨rfl, rfl⟩

/-- A row of strings that a call has made. -/
theorem infoStr : (Tryz.prog.info? 9).map (fun i => (i.zero, i.size, i.bytes)) = some (some (.string ⟨#[]⟩), 1, 16) := by kernel_rfl
def strCells (l : List (List UInt8)) : List Value := l.map fun t => .string ⟨t.toArray⟩
def OwnS (B : Nat) (v : Value) (l : List (List UInt8)) (w : World) : Prop := w.ownsRow B 9 1 v l.length (strCells l)
theorem ownS_nil (B : Nat) (w : World) : OwnS B (.slice none 0 0) [] w := World.ownsRow_nil _ _ _ _
theorem ownS_below {B : Nat} {v : Value} {l : List (List UInt8)} {w w' : World} (h : OwnS B v l w) (b : Below w.heap.size w w') : OwnS B v l w' := by
  refine ⟨h.1, ?_⟩
  rcases h.2 with h0 | ⟨g, cap, cur, hv, hb, hg, hr⟩
  · exact .inl h0
  · refine .inr ⟨g, cap, cur, hv, hb, ?_, hr⟩
    rw [b.block g (by rcases Nat.lt_or_ge g w.heap.size with x | x
                      · exact x
                      · rw [Array.getElem?_eq_none x] at hg; cases hg)]
    exact hg
theorem ownS_slice {B : Nat} {v : Value} {l : List (List UInt8)} {w : World} (h : OwnS B v l w) : ∃ ao cap, v = .slice ao l.length cap := by
  rcases h.2 with ⟨hv, h0⟩ | ⟨g, cap, cur, hv, _⟩
  · exact ⟨none, 0, by rw [hv, h0]⟩
  · exact ⟨_, _, hv⟩
theorem ownS_mono {B B' : Nat} {v : Value} {l : List (List UInt8)} {w : World} (h : OwnS B v l w) (hb : B' ≤ B) : OwnS B' v l w := by
  refine ⟨h.1, ?_⟩
  rcases h.2 with h0 | ⟨g, cap, cur, hv, hg, hr⟩
  · exact .inl h0
  · exact .inr ⟨g, cap, cur, hv, Nat.le_trans hb hg, hr⟩
theorem strCells_len (l : List (List UInt8)) : (strCells l).length = l.length := by simp [strCells]
theorem ownS_row {B : Nat} {v : Value} {l : List (List UInt8)} {w : World} {L : Nat} (h : OwnS B v l w) (e : l.length = L) : w.ownsRow B 9 1 v L (strCells l) := by rw [← e]; exact h
theorem ownS_snoc {B : Nat} {v : Value} {l : List (List UInt8)} {w : World} {L : Nat} {c : List UInt8} {x : Value} (e : l.length = L) (hx : x = .string ⟨c.toArray⟩) (h : w.ownsRow B 9 1 v (L + 1) (strCells l ++ [x])) : OwnS B v (l ++ [c]) w := by
  subst hx
  unfold OwnS
  have : strCells (l ++ [c]) = strCells l ++ [.string ⟨c.toArray⟩] := by simp [strCells]
  rw [this, List.length_append, e]
  exact h
/-- What a reader answers, its path in memory laid behind B. -/
def GivesP (B : Nat) (r : Rd) (e : Ending) (w' : World) : Prop := match r with
  | .bad n => e = .returned (.tuple #[tokV 0 [] (.slice none 0 0) 0 0, .int .i64 0, .int .i64 (n : Int)])
  | .got k t q n => ∃ v, OwnS B v q w' ∧ e = .returned (.tuple #[tokV k t v 0 0, .int .i64 (n : Int), .int .i64 0])
theorem longF_fuel : ∀ (f : Nat) (p : List (List UInt8)) (m : Nat) (l : List UInt8) (g : Nat), l.length < f → l.length < g → longF f p m l = longF g p m l := by
  intro f
  induction f with
  | zero => intro p m l g h; omega
  | succ f ih =>
    intro p m l g h h2
    obtain ⟨g, rfl⟩ : ∃ k, g = k + 1 := ⟨g - 1, by omega⟩
    unfold longF
    split
    · rename_i hc
      split
      · rfl
      · rw [Bool.and_eq_true] at hc
        have h3 := begP_len hc.2
        rw [List.length_drop] at h3
        exact ih _ _ _ _ (by rw [List.length_drop]; omega) (by rw [List.length_drop]; omega)
    · rfl
/-- A long name's parts from a place on. -/
def LongAt (R : Rd) (L : List UInt8) (p : List (List UInt8)) (la : Nat) : Prop := R = longF (L.length + 1) p la (L.drop la)
theorem LongAt.step {R : Rd} {L : List UInt8} {p : List (List UInt8)} {la sz : Nat} (h : LongAt R L p la) (hs : sz = la + nameN (L.drop la)) :
    (begP letterB (L.drop la) = true → begP (fun c => decide (c = 46)) (L.drop sz) = true → (nameN (L.drop (sz + 1)) = 0 ∨ resL ((L.drop (sz + 1)).take (nameN (L.drop (sz + 1)))) = true → R = .bad 44)
      ∧ (¬ (nameN (L.drop (sz + 1)) = 0 ∨ resL ((L.drop (sz + 1)).take (nameN (L.drop (sz + 1)))) = true) → LongAt R L (p ++ [(L.drop la).take (sz - la)]) (sz + 1)))
    ∧ (¬ (begP letterB (L.drop la) = true ∧ begP (fun c => decide (c = 46)) (L.drop sz) = true) → R = .got 2 ((L.drop la).take (sz - la)) p sz) := by
  unfold LongAt at h
  have e1 : sz - la = nameN (L.drop la) := by omega
  have e2 : (L.drop la).drop (nameN (L.drop la)) = L.drop sz := by rw [List.drop_drop, hs]
  have e3 : (L.drop la).drop (nameN (L.drop la) + 1) = L.drop (sz + 1) := by rw [List.drop_drop, hs]; congr 1
  unfold longF at h
  rw [e2, e3] at h
  rw [e1]
  refine ⟨fun a b => ⟨fun c => ?_, fun c => ?_⟩, fun a => ?_⟩
  · rw [a, b, if_pos (show (true && true) = true from rfl), if_pos c] at h; exact h
  · rw [a, b, if_pos (show (true && true) = true from rfl), if_neg c] at h
    have h3 := begP_len b
    rw [List.length_drop] at h3
    unfold LongAt
    rw [h, show la + (nameN (L.drop la) + 1) = sz + 1 by omega]
    exact longF_fuel _ _ _ _ _ (by rw [List.length_drop]; omega) (by rw [List.length_drop]; omega)
  · rw [if_neg (by rw [Bool.and_eq_true]; exact a)] at h
    rw [h, ← hs]
end Go.Proofs.YtlmbdmmlpginfaaGreatDoor
