/- The program's writer: Write. -/
import Derived.Test.YtbcmpacmoofdkaaGreatDoorProg
import Derived.Test.YtbcmpacmoofdkaaGreatDoorLexE4
import Derived.Test.YtbcmpacmoofdkaaGreatDoorLexD17
import Derived.WalkKit
import Derived.ProofKit
import Derived.OpenShut
import Derived.Below
import Derived.WalkLawsBesides
import Derived.OwnWalk
import Derived.BigQuiet
import Derived.WalkSmall
import Derived.Deep.MidRow
import Derived.Deep.RegionHeld
import Derived.Deep.RegionHeld3
namespace Go.Proofs.YtbcmpacmoofdkaaGreatDoor
open Go.ChangeShapes Go.WideShapes Go.ChangeAt Go.RowKit

/-- Is a scan's answer this one token? -/
def oneTok (k : Int) (t : List UInt8) (p : List (List UInt8)) : List Tok → Bool
  | [a] => (a.kind : Int) == k && a.text == t && a.path == p
  | _ => false
def okW (k : Int) (t : List UInt8) (p : List (List UInt8)) : Bool := !tooB t.length p && ((scanL (spellI k t p)).2.2.2 == 0 && oneTok k t p (scanL (spellI k t p)).1)
/-- How a token is written, or that it is none. -/
def writeL (k : Int) (t : List UInt8) (p : List (List UInt8)) : List UInt8 × Nat := if okW k t p then (spellI k t p, 0) else ([], 1)
theorem spellI_len (k : Int) (t : List UInt8) (p : List (List UInt8)) (h : t.length + sumN p ≤ 1048576) : (spellI k t p).length ≤ 4194312 := by
  have := quotL_len t
  have h2 := pathL_len p
  unfold spellI
  repeat' split
  all_goals (simp only [List.length_cons, List.length_append, List.length_nil]; omega)
theorem mk_toList (l : List UInt8) : (ByteArray.mk l.toArray).data.toList = l := rfl
theorem tokRow_one {B : Nat} {v : Value} {l : List Tok} {w : World} (h : TokRow B v l w) (h1 : l.length = 1) : ∃ a g cap pv, l = [a] ∧ v = .slice (some ⟨g, 0, none⟩) 1 cap ∧ OwnS B pv a.path w ∧ g < w.heap.size
    ∧ w.cell? ⟨g, 0, none⟩ = some (.int .i64 (a.kind : Int)) ∧ w.cell? ⟨g, 1, none⟩ = some (.string ⟨a.text.toArray⟩) ∧ w.cell? ⟨g, 2, none⟩ = some pv ∧ w.cell? ⟨g, 3, none⟩ = some (.int .i64 (a.line : Int)) ∧ w.cell? ⟨g, 4, none⟩ = some (.int .i64 (a.column : Int)) := by
  obtain ⟨ps, hp, hr⟩ := h
  match l, h1 with
  | [a], _ =>
    match ps, hp with
    | [pv], hp =>
      rcases hr.2 with ⟨_, h0⟩ | ⟨g, cap, cur, hv, hb, hw, hr2⟩
      · simp at h0
      · have hc := hr.cells (g := g) (by rw [hv]; rfl)
        have ea : ∀ j : Nat, (⟨g, 0, none⟩ : Addr).add j = ⟨g, j, none⟩ := fun j => by unfold Addr.add; simp; omega
        refine ⟨a, g, cap, pv, rfl, hv, hp.1, ?_, ?_, ?_, ?_, ?_, ?_⟩
        · rcases Nat.lt_or_ge g w.heap.size with x | x
          · exact x
          · rw [Array.getElem?_eq_none x] at hw; cases hw
        · have := hc 0 _ rfl; rwa [ea] at this
        · have := hc 1 _ rfl; rwa [ea] at this
        · have := hc 2 _ rfl; rwa [ea] at this
        · have := hc 3 _ rfl; rwa [ea] at this
        · have := hc 4 _ rfl; rwa [ea] at this

set_option maxHeartbeats 16000000 in
set_option maxRecDepth 100000 in
theorem write_tok (k x y : Int) (z : ByteArray) (v : Value) (p : List (List UInt8)) (w : World) (RD : Rdy w) (hv : RdS w v p) (hz : z.size ≤ 281474976710656) (hp : ∀ j, j < p.length → (p.getD j []).length ≤ 281474976710656) :
    Calls Tryz.prog 100 #[.agg #[.int .i64 k, .string z, v, .int .i64 x, .int .i64 y]] w fun e w' => e = .returned (.tuple #[.string ⟨(writeL k z.data.toList p).1.toArray⟩, .int .i64 ((writeL k z.data.toList p).2 : Nat)]) ∧ Below w.heap.size w w' := by
  have CT := hide (fun W (b : Below w.heap.size w W) => tooLong_any k x y z v p W (rdS_below hv b) hz hp)
  have HV := hide hv
  obtain ⟨R, hR⟩ : ∃ R, writeL k z.data.toList p = R := ⟨_, rfl⟩
  rw [hR]
  have RDh := hide RD
  cases ht : tooB z.size p
  · have hsum : z.size + sumN p ≤ 1048576 := by
      unfold tooB at ht
      have := of_decide_eq_false ht
      omega
    have hlen := spellI_len k z.data.toList p (by rw [size_list]; exact hsum)
    have CP := hide (fun W (b : Below w.heap.size w W) => spell_any k x y z v p W (rdS_below hv b) hsum)
    obtain ⟨sp, hsp⟩ : ∃ sp : ByteArray, ByteArray.mk (spellI k z.data.toList p).toArray = sp := ⟨_, rfl⟩
    have hspl : sp.data.toList = spellI k z.data.toList p := by rw [← hsp]
    have hsps : sp.size ≤ 4194312 := by rw [← hsp, mk_size]; exact hlen
    rw [hsp] at CP
    have CSC := hide (fun (W : World) (RR : Rdy W) => scan_any sp (by omega) W RR)
    obtain ⟨Sc, hSc⟩ : ∃ Sc, scanL sp.data.toList = Sc := ⟨_, rfl⟩
    rw [hSc] at CSC
    have HR : Hid (R = if (Sc.2.2.2 == 0 && oneTok k z.data.toList p Sc.1) then (spellI k z.data.toList p, 0) else ([], 1)) := by
      show _ = _
      rw [← hR, ← hSc, hspl]; unfold writeL okW; rw [size_list, ht]; simp
    rw [ht] at CT
    obtain ⟨ao, cap, hveq, _, _⟩ := hv
    subst hveq
    obtain ⟨L, hL⟩ : ∃ L, p.length = L := ⟨_, rfl⟩
    rw [hL] at CT CP HV ⊢
    obtain ⟨l, sx, sy, se⟩ := Sc
    have HSP := hide hsp
    clear hR hsp hspl hSc hlen ht RD hL
    by_cases he : se = 0
    · subst he
      by_cases h1 : l.length = 1
      · obtain ⟨a, rfl⟩ : ∃ a, l = [a] := List.length_eq_one_iff.1 h1
        have HE : Hid (R = if ((a.kind : Int) == k && a.text == z.data.toList && a.path == p) then (spellI k z.data.toList p, 0) else ([], 1)) := HR.out
        obtain ⟨z1, hz1'⟩ : ∃ z1 : ByteArray, ByteArray.mk a.text.toArray = z1 := ⟨_, rfl⟩
        have hz1l : z1.data.toList = a.text := by rw [← hz1']
        have HZ1 := hide hz1'
        rw [← hz1l] at HE
        obtain ⟨qn, hqn⟩ : ∃ n, a.path.length = n := ⟨_, rfl⟩
        have HQN := hide hqn
        have CSM := hide (fun (W : World) (pv : Value) (h1 : RdS W pv a.path) (h2 : RdS W (.slice ao L cap) p) => same_any (a.kind : Int) k (a.line : Int) (a.column : Int) x y z1 z pv (.slice ao L cap) a.path p W h1 h2)
        obtain ⟨bb, hbb⟩ : ∃ bb, ((a.kind : Int) == k && z1.data.toList == z.data.toList && a.path == p) = bb := ⟨_, rfl⟩
        rw [hbb] at CSM HE
        clear HR hz1' hz1l hqn hbb h1
        go_enter Tryz.func100, Tryz.ntmps100
        go_wp2_with (first | (go_at_call 117; refine (CT.out _ ((Below.refl _ _).alloc (Nat.le_refl _) _)).mono ?_; rintro e w1 ⟨rfl, b1⟩; (have B1 := ((Below.refl w.heap.size w).alloc (Nat.le_refl _) _).trans (b1.mono (by simp))); (have b1' : Below (w.heap.size + 1) _ w1 := b1.mono (by simp)); (obtain ⟨c0, c1, c2, c3, c4⟩ := cell5' b1')) | (go_at_call 118; refine (CP.out _ B1).mono ?_; rintro e w2 ⟨rfl, b2⟩; have B2 := B1.trans (b2.mono B1.size); (have S1 : w.heap.size + 1 ≤ w1.heap.size := by have := b1.size; simpa using this)) | (go_at_call 16; refine (CSC.out _ (RDh.out.below B2)).mono ?_; rintro e w3 ⟨⟨tv, htv, hret⟩, b3⟩; subst hret; have B3 := B2.trans (b3.mono B2.size); (obtain ⟨a', g, tc, pv, hl, hv3, hop, hg, r0, r1, r2, r3, r4⟩ := tokRow_one htv rfl); (obtain rfl : a = a' := by injection hl); clear hl; subst hv3; (obtain ⟨ao1, cap1, hpv⟩ := ownS_slice hop); subst hpv; rw [HZ1.out] at r1; rw [HQN.out] at r2 hop; (have HRS := hide (rdS_own hop)); clear htv hop; (obtain ⟨c0, c1, c2, c3, c4⟩ := cell5' (b1'.trans ((b2.mono S1).trans (b3.mono (Nat.le_trans S1 b2.size))))); (have HV3 := hide (rdS_below HV.out B3))))
        have hws : w.heap.size < w3.heap.size := Nat.lt_of_lt_of_le (Nat.lt_of_succ_le S1) (Nat.le_trans b2.size b3.size)
        go_region_held3 (fun w' => w'.cell? ⟨g, 0, none⟩ = some (.int .i64 (a.kind : Int)) ∧ w'.cell? ⟨g, 1, none⟩ = some (.string z1) ∧ w'.cell? ⟨g, 2, none⟩ = some (.slice ao1 qn cap1) ∧ w'.cell? ⟨g, 3, none⟩ = some (.int .i64 (a.line : Int)) ∧ w'.cell? ⟨g, 4, none⟩ = some (.int .i64 (a.column : Int)) ∧ w'.cell? ⟨w.heap.size, 0, none⟩ = some (.int .i64 k) ∧ w'.cell? ⟨w.heap.size, 1, none⟩ = some (.string z) ∧ w'.cell? ⟨w.heap.size, 2, none⟩ = some (.slice ao L cap) ∧ w'.cell? ⟨w.heap.size, 3, none⟩ = some (.int .i64 x) ∧ w'.cell? ⟨w.heap.size, 4, none⟩ = some (.int .i64 y)) (go_keep) (first
          | (go_at_call 119; refine (CSM.out _ _ (rdS_below HRS.out (by first | exact Below.refl _ _ | exact (Below.refl _ _).drew | exact below_drewN (Below.refl _ _) _)) (rdS_below HV3.out (by first | exact Below.refl _ _ | exact (Below.refl _ _).drew | exact below_drewN (Below.refl _ _) _))).mono ?_; rintro e w4 ⟨rfl, b4⟩; have m0 := (b4.cell (p := ⟨g, 0, none⟩) (show g < _ from hg)).trans r0; have m1 := (b4.cell (p := ⟨g, 1, none⟩) (show g < _ from hg)).trans r1; have m2 := (b4.cell (p := ⟨g, 2, none⟩) (show g < _ from hg)).trans r2; have m3 := (b4.cell (p := ⟨g, 3, none⟩) (show g < _ from hg)).trans r3; have m4 := (b4.cell (p := ⟨g, 4, none⟩) (show g < _ from hg)).trans r4; have q0 := (b4.cell (p := ⟨w.heap.size, 0, none⟩) (show w.heap.size < _ from hws)).trans c0; have q1 := (b4.cell (p := ⟨w.heap.size, 1, none⟩) (show w.heap.size < _ from hws)).trans c1; have q2 := (b4.cell (p := ⟨w.heap.size, 2, none⟩) (show w.heap.size < _ from hws)).trans c2; have q3 := (b4.cell (p := ⟨w.heap.size, 3, none⟩) (show w.heap.size < _ from hws)).trans c3; have q4 := (b4.cell (p := ⟨w.heap.size, 4, none⟩) (show w.heap.size < _ from hws)).trans c4))
        have B4 : Below w.heap.size w w4 := B3.trans (((Below.refl _ _).drew.trans b4).mono B3.size)
        cases bb
        · go_wp2
          go_ret2
          rw [HE.out]
          exact ⟨rfl, B4⟩
        · go_wp2
          go_ret2
          refine ⟨?_, B4⟩
          have HE2 : R = (spellI k z.data.toList p, 0) := HE.out
          rw [HE2]
          show _ = Ending.returned (.tuple #[.string (ByteArray.mk (spellI k z.data.toList p).toArray), _])
          rw [HSP.out]
          rfl
      · have HE : Hid (R = ([], 1)) := by
          show _ = _
          have : oneTok k z.data.toList p l = false := by
            match l, h1 with
            | [], _ => rfl
            | [_], h1 => exact absurd rfl h1
            | _ :: _ :: _, _ => rfl
          rw [HR.out]
          show (if ((0 : Nat) == 0 && oneTok k z.data.toList p l) = true then _ else _) = _
          rw [this]; rfl
        obtain ⟨N, hN⟩ : ∃ N, l.length = N := ⟨_, rfl⟩
        have HN := hide hN
        have gN : ((N : Int) != 1) = true := by simp; omega
        clear HR h1 hN
        rw [HE.out]
        go_enter Tryz.func100, Tryz.ntmps100
        go_wp2_with (first | (go_at_call 117; refine (CT.out _ ((Below.refl _ _).alloc (Nat.le_refl _) _)).mono ?_; rintro e w1 ⟨rfl, b1⟩; (have B1 := ((Below.refl w.heap.size w).alloc (Nat.le_refl _) _).trans (b1.mono (by simp))); (have b1' : Below (w.heap.size + 1) _ w1 := b1.mono (by simp)); (obtain ⟨c0, c1, c2, c3, c4⟩ := cell5' b1')) | (go_at_call 118; refine (CP.out _ B1).mono ?_; rintro e w2 ⟨rfl, b2⟩; have B2 := B1.trans (b2.mono B1.size); (have S1 : w.heap.size + 1 ≤ w1.heap.size := by have := b1.size; simpa using this)) | (go_at_call 16; refine (CSC.out _ (RDh.out.below B2)).mono ?_; rintro e w3 ⟨⟨tv, htv, hret⟩, b3⟩; subst hret; have B3 := B2.trans (b3.mono B2.size); (obtain ⟨to, tc, htt⟩ := tokRow_slice htv); subst htt; clear htv; rw [show (l, sx, sy, 0).1.length = N from HN.out]))
        go_quiet (fail)
        go_wp2
        go_ret2
        exact ⟨rfl, below_drewN B3 _⟩
    · have HE : Hid (R = ([], 1)) := by show _ = _; rw [HR.out, show ((l, sx, sy, se).2.2.2 == 0) = false by simpa using he]; rfl
      have ge : ((se : Int) != 0) = true := by simp; omega
      clear HR he
      rw [HE.out]
      go_enter Tryz.func100, Tryz.ntmps100
      go_wp2_with (first | (go_at_call 117; refine (CT.out _ ((Below.refl _ _).alloc (Nat.le_refl _) _)).mono ?_; rintro e w1 ⟨rfl, b1⟩; (have B1 := ((Below.refl w.heap.size w).alloc (Nat.le_refl _) _).trans (b1.mono (by simp))); (have b1' : Below (w.heap.size + 1) _ w1 := b1.mono (by simp)); (obtain ⟨c0, c1, c2, c3, c4⟩ := cell5' b1')) | (go_at_call 118; refine (CP.out _ B1).mono ?_; rintro e w2 ⟨rfl, b2⟩; have B2 := B1.trans (b2.mono B1.size); (have S1 : w.heap.size + 1 ≤ w1.heap.size := by have := b1.size; simpa using this)) | (go_at_call 16; refine (CSC.out _ (RDh.out.below B2)).mono ?_; rintro e w3 ⟨⟨tv, htv, hret⟩, b3⟩; subst hret; have B3 := B2.trans (b3.mono B2.size); clear htv))
      go_quiet (fail)
      go_wp2
      go_ret2
      exact ⟨rfl, below_drewN B3 _⟩
  · have HE : Hid (R = ([], 1)) := by show _ = _; rw [← hR]; unfold writeL okW; rw [size_list, ht]; rfl
    rw [ht] at CT
    rw [HE.out]
    obtain ⟨ao, cap, hveq, _, _⟩ := hv
    subst hveq
    clear hR ht RD
    generalize p.length = L at *
    go_enter Tryz.func100, Tryz.ntmps100
    go_wp2_with (go_at_call 117; refine (CT.out _ ((Below.refl _ _).alloc (Nat.le_refl _) _)).mono ?_; rintro e w1 ⟨rfl, b1⟩; (have B1 := ((Below.refl w.heap.size w).alloc (Nat.le_refl _) _).trans (b1.mono (by simp))))
    go_ret2
    exact ⟨rfl, B1⟩
end Go.Proofs.YtbcmpacmoofdkaaGreatDoor
