/- The document's scanner: names. -/
import Derived.Test.YtgcbkjfckmjgeaaGreatDoorProg
import Derived.Test.YtgcbkjfckmjgeaaGreatDoorLexH3
import Derived.Test.YtgcbkjfckmjgeaaGreatDoorLex4
import Derived.Test.YtgcbkjfckmjgeaaGreatDoorLex7
import Derived.Test.YtgcbkjfckmjgeaaGreatDoorLexD8
import Derived.Test.YtgcbkjfckmjgeaaGreatDoorLexG2
import Derived.WalkKit
import Derived.ProofKit
import Derived.OpenShut
import Derived.Below
import Derived.WalkLawsBesides
import Derived.OwnWalk
import Derived.BigQuiet
import Derived.Lib.IndexBytes
import Derived.Deep.MidRow
import Derived.Deep.RegionHeld3
import Derived.WalkSmall
namespace Go.Proofs.YtgcbkjfckmjgeaaGreatDoor
open Go.ChangeShapes Go.WideShapes Go.ChangeAt Go.RowKit

/-- Five cells of a block that may be written. -/
structure Five (W : World) (b : Nat) (v0 v1 v2 v3 v4 : Value) : Prop where
  c0 : W.cell? ⟨b, 0, none⟩ = some v0
  c1 : W.cell? ⟨b, 1, none⟩ = some v1
  c2 : W.cell? ⟨b, 2, none⟩ = some v2
  c3 : W.cell? ⟨b, 3, none⟩ = some v3
  c4 : W.cell? ⟨b, 4, none⟩ = some v4
  f0 : W.frozen? ⟨b, 0, none⟩ = false
  f1 : W.frozen? ⟨b, 1, none⟩ = false
  f2 : W.frozen? ⟨b, 2, none⟩ = false
  f3 : W.frozen? ⟨b, 3, none⟩ = false
  f4 : W.frozen? ⟨b, 4, none⟩ = false
theorem Five.below {W W' : World} {b B : Nat} {v0 v1 v2 v3 v4 : Value} (h : Five W b v0 v1 v2 v3 v4) (g : Below B W W') (hb : b < B) : Five W' b v0 v1 v2 v3 v4 :=
  ⟨by rw [g.cell (p := ⟨b, 0, none⟩) hb]; exact h.c0, by rw [g.cell (p := ⟨b, 1, none⟩) hb]; exact h.c1, by rw [g.cell (p := ⟨b, 2, none⟩) hb]; exact h.c2, by rw [g.cell (p := ⟨b, 3, none⟩) hb]; exact h.c3, by rw [g.cell (p := ⟨b, 4, none⟩) hb]; exact h.c4,
   by rw [g.frozen (p := ⟨b, 0, none⟩) hb]; exact h.f0, by rw [g.frozen (p := ⟨b, 1, none⟩) hb]; exact h.f1, by rw [g.frozen (p := ⟨b, 2, none⟩) hb]; exact h.f2, by rw [g.frozen (p := ⟨b, 3, none⟩) hb]; exact h.f3, by rw [g.frozen (p := ⟨b, 4, none⟩) hb]; exact h.f4⟩
theorem Five.set {W : World} {b b' j : Nat} {v v0 v1 v2 v3 v4 : Value} (h : Five W b v0 v1 v2 v3 v4) (hb : b < b') : Five (W.setCell ⟨b', j, none⟩ v) b v0 v1 v2 v3 v4 := h.below ((Below.refl b' W).setCell (Nat.le_refl _) _) hb
theorem Five.set2 {W : World} {b : Nat} {v v0 v1 v2 v3 v4 : Value} (h : Five W b v0 v1 v2 v3 v4) : Five (W.setCell ⟨b, 2, none⟩ v) b v0 v1 v v3 v4 := by
  obtain ⟨c0, c1, c2, c3, c4, f0, f1, f2, f3, f4⟩ := h
  exact ⟨(World.cell?_setCell_other _ _ _ _ (by simp)).trans c0, (World.cell?_setCell_other _ _ _ _ (by simp)).trans c1, World.cell?_setCell_same _ _ _ c2, (World.cell?_setCell_other _ _ _ _ (by simp)).trans c3, (World.cell?_setCell_other _ _ _ _ (by simp)).trans c4,
    by rw [World.frozen?_setCell]; exact f0, by rw [World.frozen?_setCell]; exact f1, by rw [World.frozen?_setCell]; exact f2, by rw [World.frozen?_setCell]; exact f3, by rw [World.frozen?_setCell]; exact f4⟩
theorem at_kind (P : UInt8 → Bool) (hP : P 0 = false) (s : ByteArray) (q : Nat) : ∃ c : UInt8, c.toNat = atN s q ∧ P c = begP P (s.data.toList.drop q) := by
  by_cases h : q < s.size
  · refine ⟨s[q]'h, ?_, ?_⟩
    · unfold atN; rw [dif_pos h]
    · rw [drop_at s q h]; rfl
  · refine ⟨0, ?_, ?_⟩
    · unfold atN; rw [dif_neg h]; rfl
    · rw [drop_end s q h, hP]; rfl
theorem nameN_letter {l : List UInt8} (h : begP letterB l = true) : runP wordB l = nameN l ∧ 0 < nameN l := by
  have h1 : runP wordB l = nameN l := by unfold nameN; rw [if_pos h]
  refine ⟨h1, ?_⟩
  rw [← h1]
  refine runP_pos ?_
  cases l with
  | nil => cases h
  | cons c r => show wordB c = true; unfold wordB; rw [show letterB c = true from h]; rfl
theorem nameN_sign {l : List UInt8} (h : begP letterB l = false) : runP signB l = nameN l := by unfold nameN; rw [if_neg (by rw [h]; simp)]
theorem name_digit {l : List UInt8} (h : 0 < nameN l) : begP digitB l = false := by
  cases l with
  | nil => rfl
  | cons c r =>
    show digitB c = false
    cases hd : digitB c with
    | false => rfl
    | true =>
      have hl : letterB c = false ∧ signB c = false := by
        have : ∀ n : Fin 256, digitB (UInt8.ofFin n) = true → letterB (UInt8.ofFin n) = false ∧ signB (UInt8.ofFin n) = false := by decide +kernel
        exact this c.toFin hd
      unfold nameN at h
      rw [if_neg (by show ¬ letterB c = true; rw [hl.1]; simp)] at h
      unfold runP at h
      rw [List.takeWhile_cons, hl.2] at h
      simp at h
/-- A long name's parts from a place on, the one there not yet looked at. -/
def LNm (R : Rd) (L : List UInt8) (q : List (List UInt8)) (la : Nat) : Prop := (nameN (L.drop la) = 0 ∨ resL ((L.drop la).take (nameN (L.drop la))) = true → R = .bad 44) ∧ (¬ (nameN (L.drop la) = 0 ∨ resL ((L.drop la).take (nameN (L.drop la))) = true) → LongAt R L q la)
/-- What name answers. -/
def NamV (B : Nat) (r : Rd) (e : Ending) (w' : World) : Prop := match r with
  | .bad _ => ∃ ao L cap n, e = .returned (.tuple #[.agg #[.int .i64 2, .string ⟨#[]⟩, .slice ao L cap, .int .i64 0, .int .i64 0], .int .i64 n, .bool false])
  | .got k t q n => ∃ v, OwnS B v q w' ∧ e = .returned (.tuple #[tokV k t v 0 0, .int .i64 (n : Int), .bool true])
theorem namV_got {B k n : Nat} {c : List UInt8} {q : List (List UInt8)} {e : Ending} {tx : ByteArray} {v : Value} {w' : World} (h : ByteArray.mk c.toArray = tx) (ho : OwnS B v q w') (he : e = .returned (.tuple #[.agg #[.int .i64 (k : Int), .string tx, v, .int .i64 0, .int .i64 0], .int .i64 (n : Int), .bool true])) : NamV B (.got k c q n) e w' := by subst h; exact ⟨v, ho, he⟩

set_option maxRecDepth 100000 in
set_option maxHeartbeats 16000000 in
theorem rname_any (b : Nat) (s : ByteArray) (p : Nat) (w : World) (h : IsSc w b s p) (R : Rd) (hR : LNm R (s.data.toList.drop p) [] 0) : Calls Tryz.prog 73 #[.pointer (some ⟨b, 0, none⟩)] w fun e w' => NamV w.heap.size R e w' ∧ Below w.heap.size w w' := by
  obtain ⟨i0, hi, hz0, hz1, hz2⟩ := info_parts infoStr
  have HS := hide h
  have hs := h.small
  have hps := h.inside
  have HR := hide hR
  have F1 : Five ((w.alloc (.cells #[.int .i64 0, .string ⟨#[]⟩, .slice none 0 0, .int .i64 0, .int .i64 0] 34)).alloc (.cells #[.int .i64 2, .string ⟨#[]⟩, .slice none 0 0, .int .i64 0, .int .i64 0] 34)) w.heap.size (.int .i64 0) (.string ⟨#[]⟩) (.slice none 0 0) (.int .i64 0) (.int .i64 0) := by constructor <;> simp [World.cell?_alloc_some]
  have F2 : Five ((w.alloc (.cells #[.int .i64 0, .string ⟨#[]⟩, .slice none 0 0, .int .i64 0, .int .i64 0] 34)).alloc (.cells #[.int .i64 2, .string ⟨#[]⟩, .slice none 0 0, .int .i64 0, .int .i64 0] 34)) (w.heap.size + 1) (.int .i64 2) (.string ⟨#[]⟩) (.slice none 0 0) (.int .i64 0) (.int .i64 0) := by constructor <;> simp
  have B0 : Below w.heap.size w ((w.alloc (.cells #[.int .i64 0, .string ⟨#[]⟩, .slice none 0 0, .int .i64 0, .int .i64 0] 34)).alloc (.cells #[.int .i64 2, .string ⟨#[]⟩, .slice none 0 0, .int .i64 0, .int .i64 0] 34)) := ((Below.refl _ _).alloc (Nat.le_refl _) _).alloc (by simp) _
  have S0 : ((w.alloc (.cells #[.int .i64 0, .string ⟨#[]⟩, .slice none 0 0, .int .i64 0, .int .i64 0] 34)).alloc (.cells #[.int .i64 2, .string ⟨#[]⟩, .slice none 0 0, .int .i64 0, .int .i64 0] 34)).heap.size = w.heap.size + 2 := by simp
  have HF1 := hide F1
  have HF2 := hide F2
  have HB0 := hide B0
  have HS0 := hide S0
  clear hR h F1 F2 B0 S0
  go_enter Tryz.func73, Tryz.ntmps73
  go_wp2
  generalize (w.alloc (.cells #[.int .i64 0, .string ⟨#[]⟩, .slice none 0 0, .int .i64 0, .int .i64 0] 34)).alloc (.cells #[.int .i64 2, .string ⟨#[]⟩, .slice none 0 0, .int .i64 0, .int .i64 0] 34) = W0 at *
  go_loopw [6] (fun vn wr => ∃ (la : Nat) (v : Value) (qs : List (List UInt8)), vn = .int .i64 (la : Int) ∧ p + la ≤ s.size ∧ Hid (qs.length ≤ la ∧ LNm R (s.data.toList.drop p) qs la ∧ OwnS (w.heap.size + 2) v qs wr) ∧ Hid (Five wr w.heap.size (.int .i64 0) (.string ⟨#[]⟩) (.slice none 0 0) (.int .i64 0) (.int .i64 0)) ∧ Hid (Five wr (w.heap.size + 1) (.int .i64 2) (.string ⟨#[]⟩) v (.int .i64 0) (.int .i64 0)) ∧ Below w.heap.size w wr ∧ w.heap.size + 2 ≤ wr.heap.size) (fun vn _ => s.size - (intOf vn).toNat)
  case atStart => exact ⟨0, .slice none 0 0, [], rfl, by omega, ⟨Nat.zero_le _, HR.out, ownS_nil _ _⟩, HF1, HF2, HB0.out, Nat.le_of_eq HS0.out.symm⟩
  case round =>
    obtain ⟨la, v, qs, rfl, hla, HI, G1, G2, bel, hsz⟩ := hrel
    obtain ⟨hql, hln, hown⟩ := HI.out
    obtain ⟨QL, eQL⟩ : ∃ k, qs.length = k := ⟨_, rfl⟩
    have EL := hide eQL
    rw [eQL] at hql
    obtain ⟨ao, cap, hv⟩ := ownS_slice hown
    rw [eQL] at hv
    subst hv
    have HO := hide hown
    have HL := hide hln
    clear HI hln hown eQL HF1 HF2 HB0 HS0 HR
    obtain ⟨q, hq⟩ : ∃ q, p + la = q := ⟨_, rfl⟩
    have hqi : (p : Int) + (la : Int) = (q : Int) := by omega
    rw [hq] at hla
    have SC := HS.out.below bel
    have HSC := hide SC
    obtain ⟨l, hl⟩ : ∃ l, s.data.toList.drop q = l := ⟨_, rfl⟩
    have hl2 : (s.data.toList.drop p).drop la = l := by rw [List.drop_drop, hq, hl]
    have hkl := nameN_le l
    have hll : l.length = s.size - q := by rw [← hl, List.length_drop, size_list]
    have hlp := hide hl2
    unfold LNm at HL
    rw [hl2] at HL
    obtain ⟨k, hk⟩ : ∃ k, nameN l = k := ⟨_, rfl⟩
    rw [hk] at HL hkl
    obtain ⟨z, hz⟩ : ∃ z, q + k = z := ⟨_, rfl⟩
    have hzi : (q : Int) + (k : Int) = (z : Int) := by omega
    have hzs : z ≤ s.size := by omega
    have hqz : q ≤ z := by omega
    obtain ⟨f, hf⟩ : ∃ f, la + k = f := ⟨_, rfl⟩
    have hfi : (la : Int) + (k : Int) = (f : Int) := by omega
    obtain ⟨t, ht⟩ : ∃ t, s.extract q z = t := ⟨_, rfl⟩
    have htl : t.data.toList = l.take k := by rw [← ht, ext_mid, hl]; simp; omega
    have hlb : la ≤ 1048576 := by omega
    have HTT : Hid (ByteArray.mk (l.take k).toArray = t) := by
      apply ByteArray.ext
      apply Array.ext'
      rw [htl]
    have CRV : Hid (∀ W, Below wr.heap.size wr W → Calls Tryz.prog 13 #[.string t] W fun e w' => e = .returned (.bool (resL (l.take k))) ∧ Below wr.heap.size wr w') := by
      intro W bW
      refine (reserved_any t W).mono ?_
      rintro e w' ⟨rfl, g⟩
      exact ⟨by unfold resB; rw [htl], bW.trans (g.mono bW.size)⟩
    have CR1 : Hid (∀ W, Below wr.heap.size wr W → Calls Tryz.prog 47 #[.pointer (some ⟨b, 0, none⟩), .int .i64 (la : Int), .int .i64 1] W fun e w' => e = .returned (.int .i64 ((runP wordB l : Nat) : Int)) ∧ Below wr.heap.size wr w') := by
      intro W bW
      refine (run1_any b s p la W (SC.below bW) (by omega)).mono ?_
      rintro e w' ⟨rfl, g⟩
      refine ⟨?_, bW.trans (g.mono bW.size)⟩
      rw [hq, (runN_P s q).1, hl]
    have CR2 : Hid (∀ W, Below wr.heap.size wr W → Calls Tryz.prog 47 #[.pointer (some ⟨b, 0, none⟩), .int .i64 (la : Int), .int .i64 2] W fun e w' => e = .returned (.int .i64 ((runP signB l : Nat) : Int)) ∧ Below wr.heap.size wr w') := by
      intro W bW
      refine (run2_any b s p la W (SC.below bW) (by omega)).mono ?_
      rintro e w' ⟨rfl, g⟩
      refine ⟨?_, bW.trans (g.mono bW.size)⟩
      rw [hq, (runN_P s q).2.1, hl]
    obtain ⟨cl, hcl, hlt⟩ := at_kind letterB (by decide) s q
    obtain ⟨cd, hcd, hdg⟩ := at_kind digitB (by decide) s q
    rw [hl] at hlt hdg
    have CL := hide (fun W => rletter_any cl W)
    have CDG := hide (fun W => rdigit_any cd W)
    rw [hcl, hlt] at CL
    rw [hcd, hdg] at CDG
    obtain ⟨a0, ha0⟩ : ∃ a, atN s q = a := ⟨_, rfl⟩
    rw [ha0] at CL CDG
    have CA0 : Hid (∀ W, Below wr.heap.size wr W → Calls Tryz.prog 20 #[.pointer (some ⟨b, 0, none⟩), .int .i64 (la : Int)] W fun e w' => e = .returned (.int .u8 (a0 : Int)) ∧ Below wr.heap.size wr w') := by
      intro W bW
      refine (at_any b s p la W (SC.below bW) (by omega)).mono ?_
      rintro e w' ⟨rfl, g⟩
      exact ⟨by rw [hq, ha0], bW.trans (g.mono bW.size)⟩
    obtain ⟨a1, ha1⟩ : ∃ a, atN s z = a := ⟨_, rfl⟩
    have CA1 : Hid (∀ W, Below wr.heap.size wr W → Calls Tryz.prog 20 #[.pointer (some ⟨b, 0, none⟩), .int .i64 (f : Int)] W fun e w' => e = .returned (.int .u8 (a1 : Int)) ∧ Below wr.heap.size wr w') := by
      intro W bW
      refine (at_any b s p f W (SC.below bW) (by omega)).mono ?_
      rintro e w' ⟨rfl, g⟩
      exact ⟨by rw [show p + f = z by omega, ha1], bW.trans (g.mono bW.size)⟩
    have hzl : a1 = 46 → z < s.size := by
      intro x
      rcases Nat.lt_or_ge z s.size with y | y
      · exact y
      · unfold atN at ha1; rw [dif_neg (by omega)] at ha1; omega
    have bc := Below.refl wr.heap.size wr
    have ST : Hid (¬ (k = 0 ∨ resL (l.take k) = true) → ((begP letterB l = true → a1 = 46 → LNm R (s.data.toList.drop p) (qs ++ [l.take k]) (f + 1)) ∧ (¬ (begP letterB l = true ∧ a1 = 46) → R = .got 2 (l.take k) qs f))) := by
      intro hno
      have hst := (HL.out.2 hno).step (sz := f) (by rw [hl2, hk]; omega)
      rw [hl2, show f - la = k by omega, show (s.data.toList.drop p).drop f = s.data.toList.drop z by rw [List.drop_drop]; congr 1; omega] at hst
      have hbg := atN_beg (s := s) (i := z) (x := 46) (by decide)
      rw [ha1] at hbg
      refine ⟨fun x y => hst.1 x (hbg.1 y), fun x => hst.2 fun y => x ⟨y.1, hbg.2 y.2⟩⟩
    cases hbl : begP letterB l
    · rw [hbl] at CL ST
      rw [nameN_sign hbl, hk] at CR2
      obtain ⟨k1, hk1⟩ : ∃ k1, runP wordB l = k1 := ⟨_, rfl⟩
      rw [hk1] at CR1
      have CDG2 := fun (x : 0 < k) => name_digit (l := l) (by rw [hk]; exact x)
      have hk1b : k1 ≤ 1048576 := by have := runP_le wordB l; omega
      clear SC hl hl2 hk htl hcl hlt hcd hdg ha0 ha1 hbl hkl hll hk1 CA1
      by_cases hk0 : k = 0
      · have HE : Hid (R = .bad 44) := HL.out.1 (.inl hk0)
        subst hk0
        clear HL ST CDG2
        by_cases hx : k1 = 0
        · subst hx
          go_upto_region 7 with (first | (go_at_call 47; refine (CR1.out _ bc).mono ?_; clear bc CR1; rintro e w1 ⟨rfl, bc⟩) | (go_at_call 47; refine (CR2.out _ bc).mono ?_; clear bc CR2; rintro e w1 ⟨rfl, bc⟩) | (go_at_call 20; refine (CA0.out _ bc).mono ?_; clear bc ; rintro e w1 ⟨rfl, bc⟩) | (go_at_call 49; refine (CL.out _).mono ?_; rintro e w0 ⟨rfl, h0⟩; replace h0 := h0.symm; subst h0) | (go_at_call 45; refine (CDG.out _).mono ?_; rintro e w0 ⟨rfl, h0⟩; replace h0 := h0.symm; subst h0) | (go_at_call 13; refine (CRV.out _ bc).mono ?_; clear bc ; rintro e w1 ⟨rfl, bc⟩))
          obtain ⟨c0, c1, _, _, _⟩ := HSC.out.below bc
          go_quiet (fail)
          clear c0 c1
          replace bc := below_drewN bc nq
          go_upto_region 9 with fail
          have T2 := G2.out.below bc (by omega)
          have T1 := G1.out.below bc (by omega)
          obtain ⟨c0, c1, c2, c3, c4, f0, f1, f2, f3, f4⟩ := T2
          obtain ⟨d0, d1, d2, d3, d4, g0, g1, g2, g3, g4⟩ := T1
          go_wp2
          refine tok_end rfl (some5 ⟨d0, d1, d2, d3, d4⟩) ⟨g0, g1, g2, g3, g4⟩ rfl (bel.trans (bc.mono (by omega))) fun g => ?_
          rw [HE.out]
          exact ⟨⟨_, _, _, _, rfl⟩, g⟩
        · have hx1 : decide ((k1 : Int) > 0) = true := by simp; omega
          go_upto_region 7 with (first | (go_at_call 47; refine (CR1.out _ bc).mono ?_; clear bc CR1; rintro e w1 ⟨rfl, bc⟩) | (go_at_call 47; refine (CR2.out _ bc).mono ?_; clear bc CR2; rintro e w1 ⟨rfl, bc⟩) | (go_at_call 20; refine (CA0.out _ bc).mono ?_; clear bc ; rintro e w1 ⟨rfl, bc⟩) | (go_at_call 49; refine (CL.out _).mono ?_; rintro e w0 ⟨rfl, h0⟩; replace h0 := h0.symm; subst h0) | (go_at_call 45; refine (CDG.out _).mono ?_; rintro e w0 ⟨rfl, h0⟩; replace h0 := h0.symm; subst h0) | (go_at_call 13; refine (CRV.out _ bc).mono ?_; clear bc ; rintro e w1 ⟨rfl, bc⟩))
          obtain ⟨c0, c1, _, _, _⟩ := HSC.out.below bc
          go_quiet (fail)
          clear c0 c1
          replace bc := below_drewN bc nq
          go_upto_region 9 with fail
          have T2 := G2.out.below bc (by omega)
          have T1 := G1.out.below bc (by omega)
          obtain ⟨c0, c1, c2, c3, c4, f0, f1, f2, f3, f4⟩ := T2
          obtain ⟨d0, d1, d2, d3, d4, g0, g1, g2, g3, g4⟩ := T1
          go_wp2
          refine tok_end rfl (some5 ⟨d0, d1, d2, d3, d4⟩) ⟨g0, g1, g2, g3, g4⟩ rfl (bel.trans (bc.mono (by omega))) fun g => ?_
          rw [HE.out]
          exact ⟨⟨_, _, _, _, rfl⟩, g⟩
      · rw [CDG2 (by omega)] at CDG
        have hkn : ((k : Int) == 0) = false := by simp; omega
        cases hres : resL (l.take k)
        · have HE := hide ((ST.out (by rw [hres]; simp; omega)).2 (by simp))
          rw [hres] at CRV
          clear ST hres HL CDG2 hzl
          by_cases hx : k1 = 0
          · subst hx
            go_upto_region 7 with (first | (go_at_call 47; refine (CR1.out _ bc).mono ?_; clear bc CR1; rintro e w1 ⟨rfl, bc⟩) | (go_at_call 47; refine (CR2.out _ bc).mono ?_; clear bc CR2; rintro e w1 ⟨rfl, bc⟩) | (go_at_call 20; refine (CA0.out _ bc).mono ?_; clear bc ; rintro e w1 ⟨rfl, bc⟩) | (go_at_call 49; refine (CL.out _).mono ?_; rintro e w0 ⟨rfl, h0⟩; replace h0 := h0.symm; subst h0) | (go_at_call 45; refine (CDG.out _).mono ?_; rintro e w0 ⟨rfl, h0⟩; replace h0 := h0.symm; subst h0) | (go_at_call 13; refine (CRV.out _ bc).mono ?_; clear bc ; rintro e w1 ⟨rfl, bc⟩))
            obtain ⟨c0, c1, _, _, _⟩ := HSC.out.below bc
            go_quiet (fail)
            clear c0 c1
            replace bc := below_drewN bc nq
            go_upto_region 12 with (first | (go_at_call 47; refine (CR1.out _ bc).mono ?_; clear bc CR1; rintro e w1 ⟨rfl, bc⟩) | (go_at_call 47; refine (CR2.out _ bc).mono ?_; clear bc CR2; rintro e w1 ⟨rfl, bc⟩) | (go_at_call 20; refine (CA0.out _ bc).mono ?_; clear bc ; rintro e w1 ⟨rfl, bc⟩) | (go_at_call 49; refine (CL.out _).mono ?_; rintro e w0 ⟨rfl, h0⟩; replace h0 := h0.symm; subst h0) | (go_at_call 45; refine (CDG.out _).mono ?_; rintro e w0 ⟨rfl, h0⟩; replace h0 := h0.symm; subst h0) | (go_at_call 13; refine (CRV.out _ bc).mono ?_; clear bc ; rintro e w1 ⟨rfl, bc⟩))
            have T2 := G2.out.below bc (by omega)
            have T1 := G1.out.below bc (by omega)
            have OW := hide (ownS_below HO.out bc)
            have T1' := hide (T1.set (b' := w.heap.size + 1) (j := 1) (v := .string t) (by omega))
            obtain ⟨c0, c1, c2, c3, c4, f0, f1, f2, f3, f4⟩ := T2
            obtain ⟨d0, d1, d2, d3, d4, g0, g1, g2, g3, g4⟩ := T1
            go_wp2
            obtain ⟨d0, d1, d2, d3, d4, g0, g1, g2, g3, g4⟩ := T1'.out
            refine tok_end (w1 := w1.setCell ⟨w.heap.size + 1, 1, none⟩ (.string t)) rfl (some5 ⟨d0, d1, d2, d3, d4⟩) ⟨g0, g1, g2, g3, g4⟩ rfl ((bel.trans (bc.mono (by omega))).setCell (Nat.le_succ _) _) fun g => ?_
            rw [HE.out]
            exact ⟨namV_got HTT.out (ownS_mono (ownS_set5 (ownS_set OW.out (by omega)) (by omega) _ _ _ _ _) (by omega)) rfl, g⟩
          · have hx1 : decide ((k1 : Int) > 0) = true := by simp; omega
            go_upto_region 7 with (first | (go_at_call 47; refine (CR1.out _ bc).mono ?_; clear bc CR1; rintro e w1 ⟨rfl, bc⟩) | (go_at_call 47; refine (CR2.out _ bc).mono ?_; clear bc CR2; rintro e w1 ⟨rfl, bc⟩) | (go_at_call 20; refine (CA0.out _ bc).mono ?_; clear bc ; rintro e w1 ⟨rfl, bc⟩) | (go_at_call 49; refine (CL.out _).mono ?_; rintro e w0 ⟨rfl, h0⟩; replace h0 := h0.symm; subst h0) | (go_at_call 45; refine (CDG.out _).mono ?_; rintro e w0 ⟨rfl, h0⟩; replace h0 := h0.symm; subst h0) | (go_at_call 13; refine (CRV.out _ bc).mono ?_; clear bc ; rintro e w1 ⟨rfl, bc⟩))
            obtain ⟨c0, c1, _, _, _⟩ := HSC.out.below bc
            go_quiet (fail)
            clear c0 c1
            replace bc := below_drewN bc nq
            go_upto_region 12 with (first | (go_at_call 47; refine (CR1.out _ bc).mono ?_; clear bc CR1; rintro e w1 ⟨rfl, bc⟩) | (go_at_call 47; refine (CR2.out _ bc).mono ?_; clear bc CR2; rintro e w1 ⟨rfl, bc⟩) | (go_at_call 20; refine (CA0.out _ bc).mono ?_; clear bc ; rintro e w1 ⟨rfl, bc⟩) | (go_at_call 49; refine (CL.out _).mono ?_; rintro e w0 ⟨rfl, h0⟩; replace h0 := h0.symm; subst h0) | (go_at_call 45; refine (CDG.out _).mono ?_; rintro e w0 ⟨rfl, h0⟩; replace h0 := h0.symm; subst h0) | (go_at_call 13; refine (CRV.out _ bc).mono ?_; clear bc ; rintro e w1 ⟨rfl, bc⟩))
            have T2 := G2.out.below bc (by omega)
            have T1 := G1.out.below bc (by omega)
            have OW := hide (ownS_below HO.out bc)
            have T1' := hide (T1.set (b' := w.heap.size + 1) (j := 1) (v := .string t) (by omega))
            obtain ⟨c0, c1, c2, c3, c4, f0, f1, f2, f3, f4⟩ := T2
            obtain ⟨d0, d1, d2, d3, d4, g0, g1, g2, g3, g4⟩ := T1
            go_wp2
            obtain ⟨d0, d1, d2, d3, d4, g0, g1, g2, g3, g4⟩ := T1'.out
            refine tok_end (w1 := w1.setCell ⟨w.heap.size + 1, 1, none⟩ (.string t)) rfl (some5 ⟨d0, d1, d2, d3, d4⟩) ⟨g0, g1, g2, g3, g4⟩ rfl ((bel.trans (bc.mono (by omega))).setCell (Nat.le_succ _) _) fun g => ?_
            rw [HE.out]
            exact ⟨namV_got HTT.out (ownS_mono (ownS_set5 (ownS_set OW.out (by omega)) (by omega) _ _ _ _ _) (by omega)) rfl, g⟩
        · have HE : Hid (R = .bad 44) := HL.out.1 (.inr hres)
          rw [hres] at CRV
          clear hres HL ST CDG2 hzl
          by_cases hx : k1 = 0
          · subst hx
            go_upto_region 7 with (first | (go_at_call 47; refine (CR1.out _ bc).mono ?_; clear bc CR1; rintro e w1 ⟨rfl, bc⟩) | (go_at_call 47; refine (CR2.out _ bc).mono ?_; clear bc CR2; rintro e w1 ⟨rfl, bc⟩) | (go_at_call 20; refine (CA0.out _ bc).mono ?_; clear bc ; rintro e w1 ⟨rfl, bc⟩) | (go_at_call 49; refine (CL.out _).mono ?_; rintro e w0 ⟨rfl, h0⟩; replace h0 := h0.symm; subst h0) | (go_at_call 45; refine (CDG.out _).mono ?_; rintro e w0 ⟨rfl, h0⟩; replace h0 := h0.symm; subst h0) | (go_at_call 13; refine (CRV.out _ bc).mono ?_; clear bc ; rintro e w1 ⟨rfl, bc⟩))
            obtain ⟨c0, c1, _, _, _⟩ := HSC.out.below bc
            go_quiet (fail)
            clear c0 c1
            replace bc := below_drewN bc nq
            go_upto_region 9 with (first | (go_at_call 47; refine (CR1.out _ bc).mono ?_; clear bc CR1; rintro e w1 ⟨rfl, bc⟩) | (go_at_call 47; refine (CR2.out _ bc).mono ?_; clear bc CR2; rintro e w1 ⟨rfl, bc⟩) | (go_at_call 20; refine (CA0.out _ bc).mono ?_; clear bc ; rintro e w1 ⟨rfl, bc⟩) | (go_at_call 49; refine (CL.out _).mono ?_; rintro e w0 ⟨rfl, h0⟩; replace h0 := h0.symm; subst h0) | (go_at_call 45; refine (CDG.out _).mono ?_; rintro e w0 ⟨rfl, h0⟩; replace h0 := h0.symm; subst h0) | (go_at_call 13; refine (CRV.out _ bc).mono ?_; clear bc ; rintro e w1 ⟨rfl, bc⟩))
            have T2 := G2.out.below bc (by omega)
            have T1 := G1.out.below bc (by omega)
            obtain ⟨c0, c1, c2, c3, c4, f0, f1, f2, f3, f4⟩ := T2
            obtain ⟨d0, d1, d2, d3, d4, g0, g1, g2, g3, g4⟩ := T1
            go_wp2
            refine tok_end rfl (some5 ⟨d0, d1, d2, d3, d4⟩) ⟨g0, g1, g2, g3, g4⟩ rfl (bel.trans (bc.mono (by omega))) fun g => ?_
            rw [HE.out]
            exact ⟨⟨_, _, _, _, rfl⟩, g⟩
          · have hx1 : decide ((k1 : Int) > 0) = true := by simp; omega
            go_upto_region 7 with (first | (go_at_call 47; refine (CR1.out _ bc).mono ?_; clear bc CR1; rintro e w1 ⟨rfl, bc⟩) | (go_at_call 47; refine (CR2.out _ bc).mono ?_; clear bc CR2; rintro e w1 ⟨rfl, bc⟩) | (go_at_call 20; refine (CA0.out _ bc).mono ?_; clear bc ; rintro e w1 ⟨rfl, bc⟩) | (go_at_call 49; refine (CL.out _).mono ?_; rintro e w0 ⟨rfl, h0⟩; replace h0 := h0.symm; subst h0) | (go_at_call 45; refine (CDG.out _).mono ?_; rintro e w0 ⟨rfl, h0⟩; replace h0 := h0.symm; subst h0) | (go_at_call 13; refine (CRV.out _ bc).mono ?_; clear bc ; rintro e w1 ⟨rfl, bc⟩))
            obtain ⟨c0, c1, _, _, _⟩ := HSC.out.below bc
            go_quiet (fail)
            clear c0 c1
            replace bc := below_drewN bc nq
            go_upto_region 9 with (first | (go_at_call 47; refine (CR1.out _ bc).mono ?_; clear bc CR1; rintro e w1 ⟨rfl, bc⟩) | (go_at_call 47; refine (CR2.out _ bc).mono ?_; clear bc CR2; rintro e w1 ⟨rfl, bc⟩) | (go_at_call 20; refine (CA0.out _ bc).mono ?_; clear bc ; rintro e w1 ⟨rfl, bc⟩) | (go_at_call 49; refine (CL.out _).mono ?_; rintro e w0 ⟨rfl, h0⟩; replace h0 := h0.symm; subst h0) | (go_at_call 45; refine (CDG.out _).mono ?_; rintro e w0 ⟨rfl, h0⟩; replace h0 := h0.symm; subst h0) | (go_at_call 13; refine (CRV.out _ bc).mono ?_; clear bc ; rintro e w1 ⟨rfl, bc⟩))
            have T2 := G2.out.below bc (by omega)
            have T1 := G1.out.below bc (by omega)
            obtain ⟨c0, c1, c2, c3, c4, f0, f1, f2, f3, f4⟩ := T2
            obtain ⟨d0, d1, d2, d3, d4, g0, g1, g2, g3, g4⟩ := T1
            go_wp2
            refine tok_end rfl (some5 ⟨d0, d1, d2, d3, d4⟩) ⟨g0, g1, g2, g3, g4⟩ rfl (bel.trans (bc.mono (by omega))) fun g => ?_
            rw [HE.out]
            exact ⟨⟨_, _, _, _, rfl⟩, g⟩
    · obtain ⟨hw1, hk0⟩ := nameN_letter hbl
      rw [hk] at hw1 hk0
      rw [hw1] at CR1
      rw [hbl] at CL ST
      rw [name_digit (by rw [hk]; exact hk0)] at CDG
      have hkn : ((k : Int) == 0) = false := by simp; omega
      have hk1 : decide ((k : Int) > 0) = true := by simp; omega
      clear SC hl hl2 hk htl hcl hlt hcd hdg ha0 ha1 hw1 hbl hkl hll CR2
      cases hres : resL (l.take k)
      · have ST2 := hide (ST.out (by rw [hres]; simp; omega))
        rw [hres] at CRV
        clear ST hres HL
        by_cases h46 : a1 = 46
        · have HE := hide (ST2.out.1 rfl h46)
          have hzz := hzl h46
          subst h46
          clear hzl
          clear ST2
          go_upto_region 7 with (first | (go_at_call 47; refine (CR1.out _ bc).mono ?_; clear bc CR1; rintro e w1 ⟨rfl, bc⟩) | (go_at_call 47; refine (CR2.out _ bc).mono ?_; clear bc CR2; rintro e w1 ⟨rfl, bc⟩) | (go_at_call 20; refine (CA0.out _ bc).mono ?_; clear bc ; rintro e w1 ⟨rfl, bc⟩) | (go_at_call 49; refine (CL.out _).mono ?_; rintro e w0 ⟨rfl, h0⟩; replace h0 := h0.symm; subst h0) | (go_at_call 45; refine (CDG.out _).mono ?_; rintro e w0 ⟨rfl, h0⟩; replace h0 := h0.symm; subst h0) | (go_at_call 13; refine (CRV.out _ bc).mono ?_; clear bc ; rintro e w1 ⟨rfl, bc⟩))
          obtain ⟨c0, c1, _, _, _⟩ := HSC.out.below bc
          go_quiet (fail)
          clear c0 c1
          replace bc := below_drewN bc nq
          go_upto_region 11 with (first | (go_at_call 47; refine (CR1.out _ bc).mono ?_; clear bc CR1; rintro e w1 ⟨rfl, bc⟩) | (go_at_call 47; refine (CR2.out _ bc).mono ?_; clear bc CR2; rintro e w1 ⟨rfl, bc⟩) | (go_at_call 20; refine (CA0.out _ bc).mono ?_; clear bc ; rintro e w1 ⟨rfl, bc⟩) | (go_at_call 49; refine (CL.out _).mono ?_; rintro e w0 ⟨rfl, h0⟩; replace h0 := h0.symm; subst h0) | (go_at_call 45; refine (CDG.out _).mono ?_; rintro e w0 ⟨rfl, h0⟩; replace h0 := h0.symm; subst h0) | (go_at_call 13; refine (CRV.out _ bc).mono ?_; clear bc ; rintro e w1 ⟨rfl, bc⟩))
          clear CA0
          go_upto_region 14 with (first | (go_at_call 20; refine (CA1.out _ bc).mono ?_; clear bc ; rintro e w1 ⟨rfl, bc⟩))
          have HW1 := hide (ownS_row (ownS_below HO.out bc) EL.out)
          have T2 := G2.out.below bc (by omega)
          obtain ⟨c0, c1, c2, c3, c4, f0, f1, f2, f3, f4⟩ := T2
          have hbz := bc.size
          go_wp2_with (at_builtin; refine wpList_append_own _ rfl _ _ 32 rfl (w.heap.size + 2) 9 i0 (.string ⟨#[]⟩) 1 16 Tryz.underlying32 hi hz0 hz1 hz2 rfl (by decide) _ _ _ rfl (HW1.out.alloc _) ⟨_, 0, none⟩ 1 1 [.string t] rfl rfl (cells_new _ _ _) (by simp [Value.oneCell']) (by unfold maxLen; omega) (by omega) (by simp; omega) ?_; intro v1 w2 o1 g1 _; have H1 := hide o1; clear o1; (obtain ⟨ao1, cap1, hv1⟩ := ownS_slice (ownS_snoc EL.out (c := l.take k) (by rw [HTT.out]) H1.out)); rw [List.length_append, EL.out, show [l.take k].length = 1 from rfl] at hv1; subst hv1; (have B2 : Below (w.heap.size + 2) wr w2 := ((bc.mono hsz).alloc (by omega) _).grown g1 (by simp; omega) (fun j hj => (HW1.out.lt j hj).1)); (have U2 := hide (G2.out.below B2 (by omega))); obtain ⟨c0, c1, c2, c3, c4, f0, f1, f2, f3, f4⟩ := U2.out)
          go_roundw
          case rel => exact ⟨f + 1, _, qs ++ [l.take k], by go_num, by omega, ⟨by rw [List.length_append, EL.out]; simp; omega, HE.out, ownS_set (ownS_snoc EL.out (by rw [HTT.out]) H1.out) (by omega)⟩, (G1.out.below B2 (by omega)).set (by omega), U2.out.set2, (bel.trans (B2.mono (by omega))).setCell (Nat.le_succ _) _, by have := B2.size; simp; omega⟩
          case measure => simp [intOf]; omega
        · have HE := hide (ST2.out.2 fun x => h46 x.2)
          have g46 : ((a1 : Int) != 46) = true := by simp; omega
          clear ST2 h46
          go_upto_region 7 with (first | (go_at_call 47; refine (CR1.out _ bc).mono ?_; clear bc CR1; rintro e w1 ⟨rfl, bc⟩) | (go_at_call 47; refine (CR2.out _ bc).mono ?_; clear bc CR2; rintro e w1 ⟨rfl, bc⟩) | (go_at_call 20; refine (CA0.out _ bc).mono ?_; clear bc ; rintro e w1 ⟨rfl, bc⟩) | (go_at_call 49; refine (CL.out _).mono ?_; rintro e w0 ⟨rfl, h0⟩; replace h0 := h0.symm; subst h0) | (go_at_call 45; refine (CDG.out _).mono ?_; rintro e w0 ⟨rfl, h0⟩; replace h0 := h0.symm; subst h0) | (go_at_call 13; refine (CRV.out _ bc).mono ?_; clear bc ; rintro e w1 ⟨rfl, bc⟩))
          obtain ⟨c0, c1, _, _, _⟩ := HSC.out.below bc
          go_quiet (fail)
          clear c0 c1
          replace bc := below_drewN bc nq
          go_upto_region 11 with (first | (go_at_call 47; refine (CR1.out _ bc).mono ?_; clear bc CR1; rintro e w1 ⟨rfl, bc⟩) | (go_at_call 47; refine (CR2.out _ bc).mono ?_; clear bc CR2; rintro e w1 ⟨rfl, bc⟩) | (go_at_call 20; refine (CA0.out _ bc).mono ?_; clear bc ; rintro e w1 ⟨rfl, bc⟩) | (go_at_call 49; refine (CL.out _).mono ?_; rintro e w0 ⟨rfl, h0⟩; replace h0 := h0.symm; subst h0) | (go_at_call 45; refine (CDG.out _).mono ?_; rintro e w0 ⟨rfl, h0⟩; replace h0 := h0.symm; subst h0) | (go_at_call 13; refine (CRV.out _ bc).mono ?_; clear bc ; rintro e w1 ⟨rfl, bc⟩))
          clear CA0
          go_upto_region 12 with (first | (go_at_call 20; refine (CA1.out _ bc).mono ?_; clear bc ; rintro e w1 ⟨rfl, bc⟩))
          have T2 := G2.out.below bc (by omega)
          have T1 := G1.out.below bc (by omega)
          have OW := hide (ownS_below HO.out bc)
          have T1' := hide (T1.set (b' := w.heap.size + 1) (j := 1) (v := .string t) (by omega))
          obtain ⟨c0, c1, c2, c3, c4, f0, f1, f2, f3, f4⟩ := T2
          obtain ⟨d0, d1, d2, d3, d4, g0, g1, g2, g3, g4⟩ := T1
          go_wp2
          obtain ⟨d0, d1, d2, d3, d4, g0, g1, g2, g3, g4⟩ := T1'.out
          refine tok_end (w1 := w1.setCell ⟨w.heap.size + 1, 1, none⟩ (.string t)) rfl (some5 ⟨d0, d1, d2, d3, d4⟩) ⟨g0, g1, g2, g3, g4⟩ rfl ((bel.trans (bc.mono (by omega))).setCell (Nat.le_succ _) _) fun g => ?_
          rw [HE.out]
          exact ⟨namV_got HTT.out (ownS_mono (ownS_set5 (ownS_set OW.out (by omega)) (by omega) _ _ _ _ _) (by omega)) rfl, g⟩
      · have HE : Hid (R = .bad 44) := HL.out.1 (.inr hres)
        rw [hres] at CRV
        clear hres HL CA1 ST
        go_upto_region 7 with (first | (go_at_call 47; refine (CR1.out _ bc).mono ?_; clear bc CR1; rintro e w1 ⟨rfl, bc⟩) | (go_at_call 47; refine (CR2.out _ bc).mono ?_; clear bc CR2; rintro e w1 ⟨rfl, bc⟩) | (go_at_call 20; refine (CA0.out _ bc).mono ?_; clear bc ; rintro e w1 ⟨rfl, bc⟩) | (go_at_call 49; refine (CL.out _).mono ?_; rintro e w0 ⟨rfl, h0⟩; replace h0 := h0.symm; subst h0) | (go_at_call 45; refine (CDG.out _).mono ?_; rintro e w0 ⟨rfl, h0⟩; replace h0 := h0.symm; subst h0) | (go_at_call 13; refine (CRV.out _ bc).mono ?_; clear bc ; rintro e w1 ⟨rfl, bc⟩))
        obtain ⟨c0, c1, _, _, _⟩ := HSC.out.below bc
        go_quiet (fail)
        clear c0 c1
        replace bc := below_drewN bc nq
        go_upto_region 9 with (first | (go_at_call 47; refine (CR1.out _ bc).mono ?_; clear bc CR1; rintro e w1 ⟨rfl, bc⟩) | (go_at_call 47; refine (CR2.out _ bc).mono ?_; clear bc CR2; rintro e w1 ⟨rfl, bc⟩) | (go_at_call 20; refine (CA0.out _ bc).mono ?_; clear bc ; rintro e w1 ⟨rfl, bc⟩) | (go_at_call 49; refine (CL.out _).mono ?_; rintro e w0 ⟨rfl, h0⟩; replace h0 := h0.symm; subst h0) | (go_at_call 45; refine (CDG.out _).mono ?_; rintro e w0 ⟨rfl, h0⟩; replace h0 := h0.symm; subst h0) | (go_at_call 13; refine (CRV.out _ bc).mono ?_; clear bc ; rintro e w1 ⟨rfl, bc⟩))
        have T2 := G2.out.below bc (by omega)
        have T1 := G1.out.below bc (by omega)
        obtain ⟨c0, c1, c2, c3, c4, f0, f1, f2, f3, f4⟩ := T2
        obtain ⟨d0, d1, d2, d3, d4, g0, g1, g2, g3, g4⟩ := T1
        go_wp2
        refine tok_end rfl (some5 ⟨d0, d1, d2, d3, d4⟩) ⟨g0, g1, g2, g3, g4⟩ rfl (bel.trans (bc.mono (by omega))) fun g => ?_
        rw [HE.out]
        exact ⟨⟨_, _, _, _, rfl⟩, g⟩
end Go.Proofs.YtgcbkjfckmjgeaaGreatDoor
