/- The program's scanner: names and signs. -/
import Derived.Test.YtbcmpacmoofdkaaGreatDoorProg
import Derived.Test.YtbcmpacmoofdkaaGreatDoorLexD6
import Derived.Test.YtbcmpacmoofdkaaGreatDoorLexR
import Derived.Test.YtbcmpacmoofdkaaGreatDoorLexB
import Derived.Test.YtbcmpacmoofdkaaGreatDoorShelf
import Derived.WalkKit
import Derived.ProofKit
import Derived.OpenShut
import Derived.Below
import Derived.WalkLawsBesides
import Derived.OwnWalk
import Derived.BigQuiet
import Derived.Lib.IndexBytes
import Derived.Deep.MidRow
namespace Go.Proofs.YtbcmpacmoofdkaaGreatDoor
open Go.ChangeShapes Go.WideShapes Go.ChangeAt Go.RowKit

set_option maxRecDepth 100000 in
set_option maxHeartbeats 4000000 in
theorem reserved_cut (s : ByteArray) (n : Nat) (hn : n ≤ s.size) (w : World) : Calls Tryz.prog 87 #[.string s, .int .i64 (n : Int)] w fun e w' => e = .returned (.bool (resL (s.data.toList.take n))) ∧ w' = w := by
  obtain ⟨t, ht⟩ : ∃ t, s.extract 0 n = t := ⟨_, rfl⟩
  have htl : t.data.toList = s.data.toList.take n := by rw [← ht, ext_take]
  have CR := hide (fun W => dreserved_any t W)
  rw [htl] at CR
  clear htl
  go_enter Tryz.func87, Tryz.ntmps87
  go_wp2_with (go_at_call 109; refine (CR.out _).mono ?_; rintro e w1 ⟨rfl, rfl⟩)
  go_ret
  exact ⟨rfl, rfl⟩

/-- A row of strings that a call has made. -/
theorem infoStr : (Tryz.prog.info? 9).map (fun i => (i.zero, i.size, i.bytes)) = some (some (.string ⟨#[]⟩), 1, 16) := by kernel_rfl
def strCells (l : List (List UInt8)) : List Value := l.map fun t => .string ⟨t.toArray⟩
def OwnS (B : Nat) (v : Value) (l : List (List UInt8)) (w : World) : Prop := w.ownsRow B 9 1 v l.length (strCells l)
theorem ownS_nil (B : Nat) (w : World) : OwnS B (.slice none 0 0) [] w := World.ownsRow_nil _ _ _ _
theorem ownS_below {B : Nat} {v : Value} {l : List (List UInt8)} {w w' : World} (h : OwnS B v l w) (b : Below w.heap.size w w') : OwnS B v l w' := by
  refine ⟨h.1, ?_⟩
  rcases h.2 with h0 | ⟨g, cap, cur, hv, hb, hg, hr⟩
  · exact .inl h0
  · refine .inr ⟨g, cap, cur, hv, hb, ?_, hr⟩
    rw [b.block g (by rcases Nat.lt_or_ge g w.heap.size with x | x
                      · exact x
                      · rw [Array.getElem?_eq_none x] at hg; cases hg)]
    exact hg
theorem ownS_slice {B : Nat} {v : Value} {l : List (List UInt8)} {w : World} (h : OwnS B v l w) : ∃ ao cap, v = .slice ao l.length cap := by
  rcases h.2 with ⟨hv, h0⟩ | ⟨g, cap, cur, hv, _⟩
  · exact ⟨none, 0, by rw [hv, h0]⟩
  · exact ⟨_, _, hv⟩
theorem ownS_mono {B B' : Nat} {v : Value} {l : List (List UInt8)} {w : World} (h : OwnS B v l w) (hb : B' ≤ B) : OwnS B' v l w := by
  refine ⟨h.1, ?_⟩
  rcases h.2 with h0 | ⟨g, cap, cur, hv, hg, hr⟩
  · exact .inl h0
  · exact .inr ⟨g, cap, cur, hv, Nat.le_trans hb hg, hr⟩
theorem strCells_len (l : List (List UInt8)) : (strCells l).length = l.length := by simp [strCells]
theorem ownS_row {B : Nat} {v : Value} {l : List (List UInt8)} {w : World} {L : Nat} (h : OwnS B v l w) (e : l.length = L) : w.ownsRow B 9 1 v L (strCells l) := by rw [← e]; exact h
theorem ownS_snoc {B : Nat} {v : Value} {l : List (List UInt8)} {w : World} {L : Nat} {c : List UInt8} {x : Value} (e : l.length = L) (hx : x = .string ⟨c.toArray⟩) (h : w.ownsRow B 9 1 v (L + 1) (strCells l ++ [x])) : OwnS B v (l ++ [c]) w := by
  subst hx
  unfold OwnS
  have : strCells (l ++ [c]) = strCells l ++ [.string ⟨c.toArray⟩] := by simp [strCells]
  rw [this, List.length_append, e]
  exact h
/-- What a reader answers, its path in memory laid behind B. -/
def GivesP (B : Nat) (r : Rd) (e : Ending) (w' : World) : Prop := match r with
  | .bad n => e = .returned (.tuple #[tokV 0 [] (.slice none 0 0) 0 0, .int .i64 0, .int .i64 (n : Int)])
  | .got k t q n => ∃ v, OwnS B v q w' ∧ e = .returned (.tuple #[tokV k t v 0 0, .int .i64 (n : Int), .int .i64 0])
theorem longF_fuel : ∀ (f : Nat) (p : List (List UInt8)) (m : Nat) (l : List UInt8) (g : Nat), l.length < f → l.length < g → longF f p m l = longF g p m l := by
  intro f
  induction f with
  | zero => intro p m l g h; omega
  | succ f ih =>
    intro p m l g h h2
    obtain ⟨g, rfl⟩ : ∃ k, g = k + 1 := ⟨g - 1, by omega⟩
    unfold longF
    split
    · rename_i hc
      split
      · rfl
      · rw [Bool.and_eq_true] at hc
        have h3 := begP_len hc.2
        rw [List.length_drop] at h3
        exact ih _ _ _ _ (by rw [List.length_drop]; omega) (by rw [List.length_drop]; omega)
    · rfl
/-- A long name's parts from a place on. -/
def LongAt (R : Rd) (L : List UInt8) (p : List (List UInt8)) (la : Nat) : Prop := R = longF (L.length + 1) p la (L.drop la)
theorem LongAt.step {R : Rd} {L : List UInt8} {p : List (List UInt8)} {la sz : Nat} (h : LongAt R L p la) (hs : sz = la + nameN (L.drop la)) :
    (begP letterB (L.drop la) = true → begP (fun c => decide (c = 46)) (L.drop sz) = true → (nameN (L.drop (sz + 1)) = 0 ∨ resL ((L.drop (sz + 1)).take (nameN (L.drop (sz + 1)))) = true → R = .bad 44)
      ∧ (¬ (nameN (L.drop (sz + 1)) = 0 ∨ resL ((L.drop (sz + 1)).take (nameN (L.drop (sz + 1)))) = true) → LongAt R L (p ++ [(L.drop la).take (sz - la)]) (sz + 1)))
    ∧ (¬ (begP letterB (L.drop la) = true ∧ begP (fun c => decide (c = 46)) (L.drop sz) = true) → R = .got 2 ((L.drop la).take (sz - la)) p sz) := by
  unfold LongAt at h
  have e1 : sz - la = nameN (L.drop la) := by omega
  have e2 : (L.drop la).drop (nameN (L.drop la)) = L.drop sz := by rw [List.drop_drop, hs]
  have e3 : (L.drop la).drop (nameN (L.drop la) + 1) = L.drop (sz + 1) := by rw [List.drop_drop, hs]; congr 1
  unfold longF at h
  rw [e2, e3] at h
  rw [e1]
  refine ⟨fun a b => ⟨fun c => ?_, fun c => ?_⟩, fun a => ?_⟩
  · rw [a, b, if_pos (show (true && true) = true from rfl), if_pos c] at h; exact h
  · rw [a, b, if_pos (show (true && true) = true from rfl), if_neg c] at h
    have h3 := begP_len b
    rw [List.length_drop] at h3
    unfold LongAt
    rw [h, show la + (nameN (L.drop la) + 1) = sz + 1 by omega]
    exact longF_fuel _ _ _ _ _ (by rw [List.length_drop]; omega) (by rw [List.length_drop]; omega)
  · rw [if_neg (by rw [Bool.and_eq_true]; exact a)] at h
    rw [h, ← hs]
end Go.Proofs.YtbcmpacmoofdkaaGreatDoor
/- The program's scanner: reserved words, names, long names. -/
namespace Go.Proofs.YtbcmpacmoofdkaaGreatDoor
open Go.ChangeShapes Go.WideShapes Go.ChangeAt Go.RowKit

theorem ext_mid (s : ByteArray) (a b : Nat) : (s.extract a b) = ⟨((s.data.toList.drop a).take (b - a)).toArray⟩ := by
  apply ByteArray.ext
  rw [ByteArray.data_extract]
  apply Array.ext'
  simp

theorem ownS_alloc {B : Nat} {v : Value} {l : List (List UInt8)} {w : World} (h : OwnS B v l w) (o : Obj) : OwnS B v l (w.alloc o) := ownS_below h ((Below.refl _ _).alloc (Nat.le_refl _) _)
theorem ownS_set {B b k : Nat} {v u : Value} {l : List (List UInt8)} {w : World} (h : OwnS B v l w) (hb : b < B) : OwnS B v l (w.setCell ⟨b, k, none⟩ u) := by
  refine ⟨h.1, ?_⟩
  rcases h.2 with h0 | ⟨g, cap, cur, hv, hg, hw, hr⟩
  · exact .inl h0
  · refine .inr ⟨g, cap, cur, hv, hg, ?_, hr⟩
    rw [Below.heap_setCell _ _ _ _ (by show g ≠ b; omega)]
    exact hw
theorem ownS_set5 {B b : Nat} {v : Value} {l : List (List UInt8)} {w : World} (h : OwnS B v l w) (hb : b < B) (v0 v1 v2 v3 v4 : Value) : OwnS B v l (((((w.setCell ⟨b, 0, none⟩ v0).setCell ⟨b, 1, none⟩ v1).setCell ⟨b, 2, none⟩ v2).setCell ⟨b, 3, none⟩ v3).setCell ⟨b, 4, none⟩ v4) :=
  ownS_set (ownS_set (ownS_set (ownS_set (ownS_set h hb) hb) hb) hb) hb

set_option maxRecDepth 100000 in
set_option maxHeartbeats 8000000 in
theorem word_any (s : ByteArray) (hb : begP letterB s.data.toList = true) (hs : s.size ≤ 1073741824) (w : World) : Calls Tryz.prog 57 #[.string s] w fun e w' => GivesP w.heap.size (wordR s.data.toList) e w' ∧ Below w.heap.size w w' := by
  obtain ⟨i0, hi, hz0, hz1, hz2⟩ := info_parts infoStr
  have CN := hide (fun W => name_any s (by omega) W)
  have hnl := nameN_le s.data.toList
  rw [size_list] at hnl
  have hnp : 1 ≤ nameN s.data.toList := by
    unfold nameN; rw [if_pos hb]; refine runP_pos ?_
    cases e : s.data.toList with
    | nil => rw [e] at hb; cases hb
    | cons c r => rw [e] at hb; show wordB c = true; unfold wordB; rw [show letterB c = true from hb]; rfl
  obtain ⟨R, HR⟩ : ∃ R, Hid (wordR s.data.toList = R) := ⟨_, rfl⟩
  rw [HR.out]
  have HN : Hid (R = if resL (s.data.toList.take (nameN s.data.toList)) then cutR 1 s.data.toList (nameN s.data.toList) else longF (s.data.toList.length + 1) [] 0 s.data.toList) := HR.out.symm
  obtain ⟨n, hn⟩ : ∃ n, nameN s.data.toList = n := ⟨_, rfl⟩
  have HNN := hide hn
  rw [hn] at CN hnl hnp HN
  have CRS := hide (fun W => reserved_cut s n hnl W)
  have CC := hide (fun W => cut_any s 1 n (by decide) hnl hs W)
  clear HR hn
  cases hr : resL (s.data.toList.take n)
  · have HL : Hid (LongAt R s.data.toList [] 0) := by show LongAt _ _ _ _; unfold LongAt; rw [HN.out, hr]; rfl
    rw [hr] at CRS
    clear HN CC
    go_enter Tryz.func57, Tryz.ntmps57
    go_wp2_with (first | (go_at_call 86; refine (CN.out _).mono ?_; rintro e w1 ⟨rfl, h0⟩; replace h0 := h0.symm; subst h0) | (go_at_call 87; refine (CRS.out _).mono ?_; rintro e w1 ⟨rfl, h0⟩; replace h0 := h0.symm; subst h0))
    generalize hW0 : w.alloc (.cells #[.int .i64 0, .string ⟨#[]⟩, .slice none 0 0, .int .i64 0, .int .i64 0] 72) = W0
    have C5 : Hid (∀ w1, Below W0.heap.size W0 w1 → _) := fun w1 (h : Below W0.heap.size W0 w1) => cell5 (w := w) (w1 := w1) (c0 := .int .i64 0) (c1 := .string ⟨#[]⟩) (c2 := .slice none 0 0) (c3 := .int .i64 0) (c4 := .int .i64 0) (t := 72) (by rw [hW0]; exact h)
    have hW0s : w.heap.size < W0.heap.size := by rw [← hW0]; simp
    clear hW0 CN CRS
    go_loopw [5, 6, 7] (fun vsz vp vla wr => ∃ (la sz : Nat) (p : List (List UInt8)), vsz = .int .i64 (sz : Int) ∧ vla = .int .i64 (la : Int) ∧ la ≤ sz ∧ sz ≤ s.size ∧ Hid (p.length ≤ la ∧ sz = la + nameN (s.data.toList.drop la) ∧ LongAt R s.data.toList p la ∧ OwnS W0.heap.size vp p wr) ∧ Below W0.heap.size W0 wr) (fun vsz _ _ _ => s.size - (intOf vsz).toNat)
    case atStart => exact ⟨0, n, [], rfl, rfl, Nat.zero_le _, hnl, ⟨Nat.zero_le _, by rw [List.drop_zero, HNN.out, Nat.zero_add], HL.out, ownS_nil _ _⟩, Below.refl _ _⟩
    case round =>
      obtain ⟨la, sz, p, rfl, rfl, hls, hss, HI, bel⟩ := hrel
      obtain ⟨hpl, hsz, hlong, hown⟩ := HI.out
      have hlas : la ≤ s.size := by omega
      have ST := hide (hlong.step hsz)
      have HO := hide hown
      obtain ⟨PL, ePL⟩ : ∃ k, p.length = k := ⟨_, rfl⟩
      have EL := hide ePL
      rw [ePL] at hpl
      obtain ⟨ao, cap, hvp⟩ := ownS_slice hown
      subst hvp
      rw [ePL] at HO ⊢
      have HSZ := hide hsz
      clear HI HL hlong hown ePL HNN hsz
      obtain ⟨t1, ht1⟩ : ∃ t, s.extract la s.size = t := ⟨_, rfl⟩
      have hl1 : t1.data.toList = s.data.toList.drop la := by rw [← ht1]; exact ext_list s la
      have hs1 := sub_size hl1
      have CB1 := hide (fun W => begins_any t1 2 (by decide) W)
      rw [isK_letter, hl1] at CB1
      obtain ⟨t2, ht2⟩ : ∃ t, s.extract sz s.size = t := ⟨_, rfl⟩
      have hl2 : t2.data.toList = s.data.toList.drop sz := by rw [← ht2]; exact ext_list s sz
      have CB2 := hide (fun W => begins_any t2 256 (by decide) W)
      rw [isK_point, hl2] at CB2
      by_cases hb1 : begP letterB (s.data.toList.drop la) = true ∧ begP (fun c => decide (c = 46)) (s.data.toList.drop sz) = true
      · rw [hb1.1] at CB1
        rw [hb1.2] at CB2
        have hlt : sz < s.size := by
          have := begP_len hb1.2
          rw [List.length_drop, size_list] at this
          omega
        obtain ⟨t3, ht3⟩ : ∃ t, s.extract la sz = t := ⟨_, rfl⟩
        have h3l : t3 = ⟨((s.data.toList.drop la).take (sz - la)).toArray⟩ := by rw [← ht3, ext_mid]
        have h3s : t3.size ≤ 281474976710656 := by rw [← ht3, ByteArray.size_extract]; omega
        have H3 := hide h3l
        obtain ⟨z1, hz1'⟩ : ∃ z, sz + 1 = z := ⟨_, rfl⟩
        have hz1i : (sz : Int) + 1 = (z1 : Int) := by omega
        obtain ⟨t4, ht4⟩ : ∃ t, s.extract z1 s.size = t := ⟨_, rfl⟩
        have hl4 : t4.data.toList = s.data.toList.drop z1 := by rw [← ht4]; exact ext_list s z1
        have hs4 := sub_size hl4
        have CN4 := hide (fun W => name_any t4 (by omega) W)
        have hn4 := nameN_le t4.data.toList
        rw [size_list] at hn4
        have STA := hide (ST.out.1 hb1.1 hb1.2)
        rw [hz1', ← hl4] at STA
        obtain ⟨pt, hpt⟩ : ∃ k, nameN t4.data.toList = k := ⟨_, rfl⟩
        rw [hpt] at CN4 hn4 STA
        have CR4 := hide (fun W => reserved_cut t4 pt hn4 W)
        have HPT : Hid (pt = nameN (s.data.toList.drop z1)) := by show _ = _; rw [← hpt, hl4]
        have hz1s : z1 ≤ s.size := by omega
        clear ST hb1 hl1 hl2 hl4 hpt h3l
        by_cases hp0 : pt = 0
        · have HE : Hid (R = .bad 44) := STA.out.1 (.inl hp0)
          subst hp0
          clear STA CR4
          go_wp2_with (first | (go_at_call 65; refine (CB1.out _).mono ?_; rintro e w0 ⟨rfl, h0⟩; replace h0 := h0.symm; subst h0; clear CB1) | (go_at_call 65; refine (CB2.out _).mono ?_; rintro e w0 ⟨rfl, h0⟩; replace h0 := h0.symm; subst h0) | (go_at_call 89; refine (clone_any _ _ h3s).mono ?_; rintro e w1 ⟨rfl, b1⟩; have HW1 := hide (ownS_row (ownS_below HO.out b1) EL.out); have bel1 := bel.trans (b1.mono bel.size); have hbz := bel1.size) | (at_builtin; refine wpList_append_own _ rfl _ _ 35 rfl W0.heap.size 9 i0 (.string ⟨#[]⟩) 1 16 Tryz.underlying35 hi hz0 hz1 hz2 rfl (by decide) _ _ _ rfl (HW1.out.alloc _) ⟨_, 0, none⟩ 1 1 [.string t3] rfl rfl (cells_new _ _ _) (by simp [Value.oneCell']) (by unfold maxLen; omega) (by omega) (by simp; omega) ?_; intro v1 w2 o1 g1 _; have H1 := hide o1; clear o1; (have B2 : Below W0.heap.size W0 w2 := (bel1.alloc bel1.size _).grown g1 (by simp; omega) (fun j hj => (HW1.out.lt j hj).1)); obtain ⟨⟨c0, c1, c2, c3, c4⟩, ⟨f0, f1, f2, f3, f4⟩, d1, d2⟩ := C5.out w2 B2) | (go_at_call 86; refine (CN4.out _).mono ?_; rintro e w0 ⟨rfl, h0⟩; replace h0 := h0.symm; subst h0))
          refine tok_end rfl (some5 ⟨c0, c1, c2, c3, c4⟩) ⟨f0, f1, f2, f3, f4⟩ rfl d1 fun g => ?_
          rw [HE.out]
          exact ⟨rfl, g⟩
        · have g0 : ((pt : Int) == 0) = false := by simp; omega
          cases hr4 : resL (t4.data.toList.take pt)
          · have HE : Hid (LongAt R s.data.toList (p ++ [(s.data.toList.drop la).take (sz - la)]) z1) := STA.out.2 (fun x => x.elim hp0 (fun y => by rw [hr4] at y; cases y))
            rw [hr4] at CR4
            have h1p : 1 ≤ pt := by omega
            clear STA hp0
            go_wp2_with (first | (go_at_call 65; refine (CB1.out _).mono ?_; rintro e w0 ⟨rfl, h0⟩; replace h0 := h0.symm; subst h0; clear CB1) | (go_at_call 65; refine (CB2.out _).mono ?_; rintro e w0 ⟨rfl, h0⟩; replace h0 := h0.symm; subst h0) | (go_at_call 89; refine (clone_any _ _ h3s).mono ?_; rintro e w1 ⟨rfl, b1⟩; have HW1 := hide (ownS_row (ownS_below HO.out b1) EL.out); have bel1 := bel.trans (b1.mono bel.size); have hbz := bel1.size) | (at_builtin; refine wpList_append_own _ rfl _ _ 35 rfl W0.heap.size 9 i0 (.string ⟨#[]⟩) 1 16 Tryz.underlying35 hi hz0 hz1 hz2 rfl (by decide) _ _ _ rfl (HW1.out.alloc _) ⟨_, 0, none⟩ 1 1 [.string t3] rfl rfl (cells_new _ _ _) (by simp [Value.oneCell']) (by unfold maxLen; omega) (by omega) (by simp; omega) ?_; intro v1 w2 o1 g1 _; have H1 := hide o1; clear o1; (have B2 : Below W0.heap.size W0 w2 := (bel1.alloc bel1.size _).grown g1 (by simp; omega) (fun j hj => (HW1.out.lt j hj).1)); obtain ⟨⟨c0, c1, c2, c3, c4⟩, ⟨f0, f1, f2, f3, f4⟩, d1, d2⟩ := C5.out w2 B2) | (go_at_call 86; refine (CN4.out _).mono ?_; rintro e w0 ⟨rfl, h0⟩; replace h0 := h0.symm; subst h0) | (go_at_call 87; refine (CR4.out _).mono ?_; rintro e w0 ⟨rfl, h0⟩; replace h0 := h0.symm; subst h0))
            go_roundw
            case rel => exact ⟨z1, z1 + pt, _, by go_num, rfl, by omega, by omega, ⟨by rw [List.length_append, EL.out]; simp; omega, by rw [← HPT.out], HE.out, ownS_snoc EL.out (by rw [H3.out]) H1.out⟩, B2⟩
            case measure => simp [intOf]; omega
          · have HE : Hid (R = .bad 44) := STA.out.1 (.inr hr4)
            rw [hr4] at CR4
            clear STA hp0
            go_wp2_with (first | (go_at_call 65; refine (CB1.out _).mono ?_; rintro e w0 ⟨rfl, h0⟩; replace h0 := h0.symm; subst h0; clear CB1) | (go_at_call 65; refine (CB2.out _).mono ?_; rintro e w0 ⟨rfl, h0⟩; replace h0 := h0.symm; subst h0) | (go_at_call 89; refine (clone_any _ _ h3s).mono ?_; rintro e w1 ⟨rfl, b1⟩; have HW1 := hide (ownS_row (ownS_below HO.out b1) EL.out); have bel1 := bel.trans (b1.mono bel.size); have hbz := bel1.size) | (at_builtin; refine wpList_append_own _ rfl _ _ 35 rfl W0.heap.size 9 i0 (.string ⟨#[]⟩) 1 16 Tryz.underlying35 hi hz0 hz1 hz2 rfl (by decide) _ _ _ rfl (HW1.out.alloc _) ⟨_, 0, none⟩ 1 1 [.string t3] rfl rfl (cells_new _ _ _) (by simp [Value.oneCell']) (by unfold maxLen; omega) (by omega) (by simp; omega) ?_; intro v1 w2 o1 g1 _; have H1 := hide o1; clear o1; (have B2 : Below W0.heap.size W0 w2 := (bel1.alloc bel1.size _).grown g1 (by simp; omega) (fun j hj => (HW1.out.lt j hj).1)); obtain ⟨⟨c0, c1, c2, c3, c4⟩, ⟨f0, f1, f2, f3, f4⟩, d1, d2⟩ := C5.out w2 B2) | (go_at_call 86; refine (CN4.out _).mono ?_; rintro e w0 ⟨rfl, h0⟩; replace h0 := h0.symm; subst h0) | (go_at_call 87; refine (CR4.out _).mono ?_; rintro e w0 ⟨rfl, h0⟩; replace h0 := h0.symm; subst h0))
            refine tok_end rfl (some5 ⟨c0, c1, c2, c3, c4⟩) ⟨f0, f1, f2, f3, f4⟩ rfl d1 fun g => ?_
            rw [HE.out]
            exact ⟨rfl, g⟩
      · have HE : Hid (R = .got 2 ((s.data.toList.drop la).take (sz - la)) p sz) := ST.out.2 hb1
        obtain ⟨d, hd⟩ : ∃ d, sz - la = d := ⟨_, rfl⟩
        have hdi : (sz : Int) - (la : Int) = (d : Int) := by omega
        have hd1 : d ≤ t1.size := by omega
        rw [hd] at HE
        have CC := hide (fun W => cut_any t1 2 d (by decide) hd1 (by omega) W)
        rw [hl1] at CC
        obtain ⟨tx, htx⟩ : ∃ tx : ByteArray, ByteArray.mk ((s.data.toList.drop la).take d).toArray = tx := ⟨_, rfl⟩
        unfold tokV at CC
        rw [htx] at CC
        have HTX := hide htx
        clear ST hl1 hl2 hd htx
        cases hx : begP letterB (s.data.toList.drop la)
        · rw [hx] at CB1
          clear CB2
          go_wp2_with (first | (go_at_call 65; refine (CB1.out _).mono ?_; rintro e w0 ⟨rfl, h0⟩; replace h0 := h0.symm; subst h0; clear CB1) | (go_at_call 88; refine (CC.out _).mono ?_; rintro e w1 ⟨rfl, b1⟩; have B1 := bel.trans (b1.mono bel.size); have K := fun o => C5.out _ (B1.alloc B1.size o); have k0 := fun o => (K o).1.1; have k1 := fun o => (K o).1.2.1; have k2 := fun o => (K o).1.2.2.1; have k3 := fun o => (K o).1.2.2.2.1; have k4 := fun o => (K o).1.2.2.2.2; have j0 := fun o => (K o).2.1.1; have j1 := fun o => (K o).2.1.2.1; have j2 := fun o => (K o).2.1.2.2.1; have j3 := fun o => (K o).2.1.2.2.2.1; have j4 := fun o => (K o).2.1.2.2.2.2; have K5 := hide (fun o => (K o).2.2.1); have PO := hide (ownS_below HO.out b1); clear K))
          refine tok_end rfl ⟨by rw [k0]; rfl, by rw [k1]; rfl, by rw [k2]; rfl, by rw [k3]; rfl, by rw [k4]; rfl⟩ ⟨j0 _, j1 _, j2 _, j3 _, j4 _⟩ rfl (K5.out _) fun g => ?_
          rw [HE.out]
          refine ⟨⟨_, ownS_mono (ownS_set5 (ownS_alloc PO.out _) hW0s _ _ _ _ _) (Nat.le_of_lt hW0s), ?_⟩, g⟩
          unfold tokV
          rw [HTX.out]
          rfl
        · have hy : begP (fun c => decide (c = 46)) (s.data.toList.drop sz) = false := Bool.eq_false_iff.2 fun y => hb1 ⟨hx, y⟩
          rw [hx] at CB1
          rw [hy] at CB2
          go_wp2_with (first | (go_at_call 65; refine (CB1.out _).mono ?_; rintro e w0 ⟨rfl, h0⟩; replace h0 := h0.symm; subst h0; clear CB1) | (go_at_call 65; refine (CB2.out _).mono ?_; rintro e w0 ⟨rfl, h0⟩; replace h0 := h0.symm; subst h0) | (go_at_call 88; refine (CC.out _).mono ?_; rintro e w1 ⟨rfl, b1⟩; have B1 := bel.trans (b1.mono bel.size); have K := fun o => C5.out _ (B1.alloc B1.size o); have k0 := fun o => (K o).1.1; have k1 := fun o => (K o).1.2.1; have k2 := fun o => (K o).1.2.2.1; have k3 := fun o => (K o).1.2.2.2.1; have k4 := fun o => (K o).1.2.2.2.2; have j0 := fun o => (K o).2.1.1; have j1 := fun o => (K o).2.1.2.1; have j2 := fun o => (K o).2.1.2.2.1; have j3 := fun o => (K o).2.1.2.2.2.1; have j4 := fun o => (K o).2.1.2.2.2.2; have K5 := hide (fun o => (K o).2.2.1); have PO := hide (ownS_below HO.out b1); clear K))
          refine tok_end rfl ⟨by rw [k0]; rfl, by rw [k1]; rfl, by rw [k2]; rfl, by rw [k3]; rfl, by rw [k4]; rfl⟩ ⟨j0 _, j1 _, j2 _, j3 _, j4 _⟩ rfl (K5.out _) fun g => ?_
          rw [HE.out]
          refine ⟨⟨_, ownS_mono (ownS_set5 (ownS_alloc PO.out _) hW0s _ _ _ _ _) (Nat.le_of_lt hW0s), ?_⟩, g⟩
          unfold tokV
          rw [HTX.out]
          rfl
  · have HE : Hid (R = cutR 1 s.data.toList n) := by show _ = _; rw [HN.out, hr]; rfl
    rw [hr] at CRS
    clear HN
    go_enter Tryz.func57, Tryz.ntmps57
    go_wp2_with (first | (go_at_call 86; refine (CN.out _).mono ?_; rintro e w1 ⟨rfl, h0⟩; replace h0 := h0.symm; subst h0) | (go_at_call 87; refine (CRS.out _).mono ?_; rintro e w1 ⟨rfl, h0⟩; replace h0 := h0.symm; subst h0) | (go_at_call 88; refine (CC.out _).mono ?_; rintro e w1 ⟨rfl, g1⟩; obtain ⟨⟨c0, c1, c2, c3, c4⟩, ⟨f0, f1, f2, f3, f4⟩, b1, b2⟩ := cell5 g1; clear g1; unfold tokV))
    refine tok_end rfl (some5 ⟨c0, c1, c2, c3, c4⟩) ⟨f0, f1, f2, f3, f4⟩ rfl b1 fun g => ?_
    rw [HE.out]
    exact ⟨⟨_, ownS_nil _ _, rfl⟩, g⟩
end Go.Proofs.YtbcmpacmoofdkaaGreatDoor
