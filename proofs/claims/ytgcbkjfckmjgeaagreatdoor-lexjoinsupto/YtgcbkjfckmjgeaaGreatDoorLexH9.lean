/- The document's scanner: Scan. -/
import Derived.Test.YtgcbkjfckmjgeaaGreatDoorProg
import Derived.Test.YtgcbkjfckmjgeaaGreatDoorLexH10
import Derived.Test.YtgcbkjfckmjgeaaGreatDoorLexG3
import Derived.Test.YtgcbkjfckmjgeaaGreatDoorLexD17
import Derived.Test.YtgcbkjfckmjgeaaGreatDoorLex4
import Derived.WalkKit
import Derived.ProofKit
import Derived.OpenShut
import Derived.Below
import Derived.WalkLawsBesides
import Derived.OwnWalk
import Derived.BigQuiet
import Derived.WalkSmall
import Derived.Deep.MidRow
import Derived.Deep.RegionHeld
namespace Go.Proofs.YtgcbkjfckmjgeaaGreatDoor
open Go.ChangeShapes Go.WideShapes Go.ChangeAt Go.RowKit

/-- The scanner's block while the text is read. -/
structure ScB (W : World) (b : Nat) (s : ByteArray) (i : Nat) : Prop where
  c0 : W.cell? ⟨b, 0, none⟩ = some (.string s)
  c1 : W.cell? ⟨b, 1, none⟩ = some (.int .i64 (i : Int))
  f1 : W.frozen? ⟨b, 1, none⟩ = false
theorem ScB.below {W W' : World} {b B i : Nat} {s : ByteArray} (h : ScB W b s i) (g : Below B W W') (hb : b < B) : ScB W' b s i :=
  ⟨by rw [g.cell (p := ⟨b, 0, none⟩) hb]; exact h.c0, by rw [g.cell (p := ⟨b, 1, none⟩) hb]; exact h.c1, by rw [g.frozen (p := ⟨b, 1, none⟩) hb]; exact h.f1⟩
theorem ScB.set {W : World} {b i j : Nat} {s : ByteArray} (h : ScB W b s i) : ScB (W.setCell ⟨b, 1, none⟩ (.int .i64 (j : Int))) b s j :=
  ⟨(World.cell?_setCell_other _ _ _ _ (by simp)).trans h.c0, World.cell?_setCell_same _ _ _ h.c1, by rw [World.frozen?_setCell]; exact h.f1⟩
theorem ScB.sc {W : World} {b i : Nat} {s : ByteArray} (h : ScB W b s i) (hb : b < W.heap.size) (hs : s.size ≤ 1048576) (hi : i ≤ s.size) : IsSc W b s i := ⟨h.c0, h.c1, hb, hs, hi⟩
def cellN (W : World) (b : Nat) : Nat := match W.cell? ⟨b, 1, none⟩ with
  | some v => (intOf v).toNat
  | none => 0
theorem cellN_eq {W : World} {b i : Nat} (h : W.cell? ⟨b, 1, none⟩ = some (.int .i64 (i : Int))) : cellN W b = i := by unfold cellN; rw [h]; simp [intOf]
theorem five_set {w : World} {b : Nat} {c0 c1 c2 c3 c4 v3 v4 : Value} (h : Five w b c0 c1 c2 c3 c4) : Five ((w.setCell ⟨b, 3, none⟩ v3).setCell ⟨b, 4, none⟩ v4) b c0 c1 c2 v3 v4 := by
  obtain ⟨t0, t1, t2, t3, t4, f0, f1, f2, f3, f4⟩ := h
  obtain ⟨e0, e1, e2, e3, e4⟩ := five_cells (v3 := v3) (v4 := v4) t0 t1 t2 t3 t4
  exact ⟨e0, e1, e2, e3, e4, by simpa using f0, by simpa using f1, by simpa using f2, by simpa using f3, by simpa using f4⟩
theorem comV_none : comV none = .tuple #[.int .i64 0, .bool false] := rfl
theorem comV_some (q : Nat) : comV (some q) = .tuple #[.int .i64 (q : Int), .bool true] := rfl

set_option maxRecDepth 100000 in
set_option maxHeartbeats 16000000 in
theorem rscan_any (ONE : Hid (∀ (b : Nat) (s : ByteArray) (p : Nat) (w : World), IsSc w b s p → p < s.size → begP lblankB (s.data.toList.drop p) = false → ¬ (atN s p = 40 ∧ atN s (p + 1) = 42) → Calls Tryz.prog 22 #[.pointer (some ⟨b, 0, none⟩)] w fun e w' => GivesP w.heap.size (rdL (s.data.toList.drop p)) e w' ∧ Below w.heap.size w w'))
    (s : ByteArray) (hs : s.size ≤ 281474976710656) (w : World) : Calls Tryz.prog 7 #[.string s] w fun e w' => ScanV w.heap.size (scanL s.data.toList) e w' ∧ Below w.heap.size w w' := by
  obtain ⟨i0, hi, hz0, hz1, hz2⟩ := info_parts infoTok3
  by_cases hlong : 1048576 < s.size
  · have HR : Hid (scanL s.data.toList = ([], 0, 0, 2)) := by show _ = _; unfold scanL; rw [if_pos (by rw [size_list]; exact hlong)]
    rw [HR.out]
    clear HR ONE
    go_enter Tryz.func7, Tryz.ntmps7
    go_wp2
    refine bodyPost_ret (results_tmp4 rfl _ _ _) rfl ?_
    exact ⟨⟨_, tokRow_nil _ _, rfl⟩, Below.refl _ _⟩
  · obtain ⟨S, hS⟩ : ∃ S, scanP (1, 1) s.data.toList = S := ⟨_, rfl⟩
    have HF := hide (scanL_of (by rw [size_list]; exact hlong) hS)
    have H0 := hide (RAt.start hS)
    obtain ⟨R, hR⟩ : ∃ R, scanL s.data.toList = R := ⟨_, rfl⟩
    rw [hR] at HF ⊢
    have hs2 : s.size ≤ 1048576 := by omega
    clear hS hR hs
    have SB0 : ScB (w.alloc (.cells #[.string s, .int .i64 0] 53)) w.heap.size s 0 := ⟨by simp, by simp, by simp⟩
    have B0 : Below w.heap.size w (w.alloc (.cells #[.string s, .int .i64 0] 53)) := (Below.refl _ _).alloc (Nat.le_refl _) _
    have S0 : (w.alloc (.cells #[.string s, .int .i64 0] 53)).heap.size = w.heap.size + 1 := by simp
    have HSB := hide SB0
    have HB0 := hide B0
    clear SB0 B0
    go_enter Tryz.func7, Tryz.ntmps7
    go_wp2
    generalize w.alloc (.cells #[.string s, .int .i64 0] 53) = W0 at *
    go_loopw [6, 8, 9, 10] (fun va vx vy vf wr => ∃ (i f x y : Nat) (ts : List Tok), vx = .int .i64 (x : Int) ∧ vy = .int .i64 (y : Int) ∧ vf = .int .i64 (f : Int) ∧ f ≤ i ∧ i ≤ s.size ∧ Hid (TokRow (w.heap.size + 1) va ts wr ∧ RAt S s.data.toList ts i ∧ (x, y) = plN s.data.toList f) ∧ Hid (ScB wr w.heap.size s i) ∧ Below w.heap.size w wr ∧ w.heap.size + 1 ≤ wr.heap.size) (fun _ _ _ _ wr => s.size - cellN wr w.heap.size)
    case atStart => exact ⟨0, 0, 1, 1, [], rfl, rfl, rfl, Nat.le_refl _, by omega, ⟨tokRow_nil _ _, H0.out, rfl⟩, HSB, HB0.out, by omega⟩
    case round =>
      obtain ⟨i, f, x, y, ts, rfl, rfl, rfl, hfi, his, HI, SB, bel, hsz⟩ := hrel
      obtain ⟨htr, hra, hxy⟩ := HI.out
      have hbd := plN_bd s.data.toList f
      rw [← hxy] at hbd
      obtain ⟨hx, hy⟩ : x ≤ 1048577 ∧ y ≤ 1048577 := by simp only at hbd; omega
      have HXY := hide hxy
      have HTR := hide htr
      have HRA := hide hra
      clear HI htr hra hxy hbd S0
      clear HSB HB0 H0
      obtain ⟨c0, c1, f1⟩ := SB.out
      by_cases hend : i < s.size
      · obtain ⟨c, hc⟩ : ∃ c : UInt8, s[i]'hend = c := ⟨_, rfl⟩
        have hdr := drop_at s i hend
        rw [hc] at hdr
        obtain ⟨cn, hcn⟩ : ∃ cn, c.toNat = cn := ⟨_, rfl⟩
        have hcs : (s[i]'hend).toNat = cn := by rw [hc, hcn]
        have CBL : Hid (∀ W, Calls Tryz.prog 19 #[.int .u8 (cn : Int)] W fun e w' => e = .returned (.bool (lblankB c)) ∧ w' = W) := by
          intro W
          have g := rblank_any c W
          rw [hcn] at g
          exact g
        cases hbl : lblankB c
        · rw [hbl] at CBL
          have hnb : begP lblankB (s.data.toList.drop i) = false := by rw [hdr]; exact hbl
          have ha : atN s i = cn := by unfold atN; rw [dif_pos hend, hcs]
          obtain ⟨a1, ha1⟩ : ∃ a, atN s (i + 1) = a := ⟨_, rfl⟩
          have SC := SB.out.sc (by omega) hs2 his
          have CA0 : Hid (∀ W, Below wr.heap.size wr W → Calls Tryz.prog 20 #[.pointer (some ⟨w.heap.size, 0, none⟩), .int .i64 0] W fun e w' => e = .returned (.int .u8 (cn : Int)) ∧ Below wr.heap.size wr w') := by
            intro W bW
            refine (at_any w.heap.size s i 0 W (SC.below bW) (by omega)).mono ?_
            rintro e w' ⟨rfl, g⟩
            exact ⟨by rw [Nat.add_zero, ha], bW.trans (g.mono bW.size)⟩
          have CA1 : Hid (∀ W, Below wr.heap.size wr W → Calls Tryz.prog 20 #[.pointer (some ⟨w.heap.size, 0, none⟩), .int .i64 1] W fun e w' => e = .returned (.int .u8 (a1 : Int)) ∧ Below wr.heap.size wr w') := by
            intro W bW
            refine (at_any w.heap.size s i 1 W (SC.below bW) (by omega)).mono ?_
            rintro e w' ⟨rfl, g⟩
            exact ⟨by rw [ha1], bW.trans (g.mono bW.size)⟩
          have CCO : Hid (∀ W, Below wr.heap.size wr W → Calls Tryz.prog 21 #[.pointer (some ⟨w.heap.size, 0, none⟩)] W fun e w' => e = .returned (comV (comN s i)) ∧ w' = W) := fun W bW => comment_any w.heap.size s i W (SC.below bW)
          have CON : Hid (¬ (cn = 40 ∧ a1 = 42) → ∀ W, Below wr.heap.size wr W → Calls Tryz.prog 22 #[.pointer (some ⟨w.heap.size, 0, none⟩)] W fun e w' => GivesP W.heap.size (rdL (s.data.toList.drop i)) e w' ∧ Below W.heap.size W w') := fun hno W bW => ONE.out w.heap.size s i W (SC.below bW) hend hnb (by rw [ha, ha1]; exact hno)
          have HK : Hid (¬ (cn = 40 ∧ a1 = 42) → ∀ k t q n, rdL (s.data.toList.drop i) = .got k t q n → k ≠ 0) := by
            intro hno k t q n g
            rw [hdr, rd_one hbl ?_] at g
            · exact oneR_kind g
            · rintro ⟨x1, x2⟩
              refine hno ⟨by rw [← hcn, x1]; rfl, ?_⟩
              rw [← ha1]
              exact (atN_beg (x := 42) (by decide)).2 x2
          have HCM : Hid (cn = 40 → a1 = 42 → rdL (s.data.toList.drop i) = (if comL (s.data.toList.drop i) = 0 then .bad 41 else .got 0 [] [] (comL (s.data.toList.drop i))) ∧ comN s i = (if comL (s.data.toList.drop i) = 0 then none else some (i + comL (s.data.toList.drop i)))) := by
            intro x1 x2
            refine ⟨?_, comN_eq s i (by rw [ha, x1]) (by rw [ha1, x2])⟩
            have hc40 : c = 40 := UInt8.toNat_inj.1 (by rw [hcn, x1]; rfl)
            have hp2 : ([40, 42] : List UInt8).isPrefixOf (s.data.toList.drop i) = true := by
              rw [pre2, List.drop_drop]
              rw [(atN_beg (s := s) (i := i + 1) (x := 42) (by decide)).1 (by rw [ha1, x2]; rfl), hdr, hc40]
              rfl
            have e1 : rdL (s.data.toList.drop i) = parR (s.data.toList.drop i) := by rw [hdr, hc40]; rfl
            rw [e1]
            unfold parR
            rw [if_pos hp2]
          have hcl := comL_le (s.data.toList.drop i)
          rw [List.length_drop, size_list] at hcl
          clear SC ha ha1 hnb hbl hdr hc hcn ONE
          go_wp2_with (go_at_call 19; refine (CBL.out _).mono ?_; rintro e w1 ⟨rfl, h9⟩; replace h9 := h9.symm; subst h9)
          clear CBL
          go_loopw [8, 9, 10] (fun vx vy vf w2 => ∃ (f x y : Nat), vx = .int .i64 (x : Int) ∧ vy = .int .i64 (y : Int) ∧ vf = .int .i64 (f : Int) ∧ f ≤ i ∧ Hid ((x, y) = plN s.data.toList f) ∧ w2 = wr) (fun _ _ vf _ => i - (intOf vf).toNat)
          case atStart => exact ⟨f, x, y, rfl, rfl, rfl, hfi, HXY, rfl⟩
          case round =>
            clear hfi hx hy HXY f x y
            obtain ⟨f, x, y, rfl, rfl, rfl, hfi, HXY, hww⟩ := hrel
            subst hww
            have hbd := plN_bd s.data.toList f
            rw [← HXY.out] at hbd
            obtain ⟨hx, hy⟩ : x ≤ 1048577 ∧ y ≤ 1048577 := by simp only at hbd; omega
            clear hbd
            by_cases hfl : f < i
            · have hfs : f < s.size := by omega
              obtain ⟨d, hd⟩ : ∃ d : UInt8, s[f]'hfs = d := ⟨_, rfl⟩
              have hdd := drop_at s f hfs
              rw [hd] at hdd
              have hst := plN_step hdd
              rw [← HXY.out] at hst
              obtain ⟨dn, hdn⟩ : ∃ dn, d.toNat = dn := ⟨_, rfl⟩
              have hds : (s[f]'hfs).toNat = dn := by rw [hd, hdn]
              have hsp : stepP (x, y) d = if dn = 10 then (x + 1, 1) else (x, y + 1) := by unfold stepP; rw [hdn]
              rw [hsp] at hst
              have HST := hide hst
              clear hst hsp hdd hd hdn HF HRA HK HCM CA0 CA1 CCO CON HTR
              by_cases h10 : dn = 10
              · subst h10
                rw [if_pos rfl] at HST
                go_wp2
                go_roundw
                case rel => exact ⟨f + 1, x + 1, 1, by go_num, rfl, by go_num, by omega, HST.out.symm, by first | rfl | trivial⟩
                case measure => simp [intOf]; omega
              · rw [if_neg h10] at HST
                have g10 : ((dn : Int) == 10) = false := by simp; omega
                go_wp2
                go_roundw
                case rel => exact ⟨f + 1, x, y + 1, rfl, by go_num, by go_num, by omega, HST.out.symm, by first | rfl | trivial⟩
                case measure => simp [intOf]; omega
            · obtain rfl : f = i := by omega
              clear hfl hfi
              have bc := Below.refl wr.heap.size wr
              by_cases h40 : cn = 40
              · by_cases h42 : a1 = 42
                · obtain ⟨hr1, hr2⟩ := HCM.out h40 h42
                  subst h40 h42
                  rw [hr2] at CCO
                  obtain ⟨kc, hkc⟩ : ∃ kc, comL (s.data.toList.drop f) = kc := ⟨_, rfl⟩
                  rw [hkc] at hr1 CCO hcl
                  by_cases hk0 : kc = 0
                  · rw [if_pos hk0] at hr1 CCO
                    rw [comV_none] at CCO
                    have HE : Hid (R = ([], x, y, 41)) := HF.out.2 x y 41 (by have g := HRA.out.bad (by rw [size_list]; exact hend) hr1; rw [← HXY.out] at g; exact g)
                    clear hr1 hr2 HF HRA HK HCM CON hkc HTR
                    go_upto_region 16 with (first | (go_at_call 20; refine (CA0.out _ bc).mono ?_; clear bc CA0; rintro e w1 ⟨rfl, bc⟩) | (go_at_call 20; refine (CA1.out _ bc).mono ?_; clear bc CA1; rintro e w1 ⟨rfl, bc⟩))
                    go_wp2_with (go_at_call 21; refine (CCO.out _ bc).mono ?_; rintro e w3 ⟨rfl, h9⟩; replace h9 := h9.symm; subst h9)
                    refine bodyPost_ret (results_tmp4 rfl _ _ _) rfl ?_
                    rw [HE.out]
                    exact ⟨⟨_, tokRow_nil _ _, rfl⟩, bel.trans (bc.mono (by omega))⟩
                  · rw [if_neg hk0] at hr1 CCO
                    rw [comV_some] at CCO
                    have HA := hide (HRA.out.skip hr1)
                    obtain ⟨nx, hnx⟩ : ∃ nx, f + kc = nx := ⟨_, rfl⟩
                    rw [hnx] at CCO HA
                    clear hr1 hr2 HF HRA HK HCM CON hkc
                    go_upto_region 16 with (first | (go_at_call 20; refine (CA0.out _ bc).mono ?_; clear bc CA0; rintro e w1 ⟨rfl, bc⟩) | (go_at_call 20; refine (CA1.out _ bc).mono ?_; clear bc CA1; rintro e w1 ⟨rfl, bc⟩))
                    go_upto_region 19 with (go_at_call 21; refine (CCO.out _ bc).mono ?_; rintro e w3 ⟨rfl, h9⟩; replace h9 := h9.symm; subst h9)
                    have SB4 := hide (SB.out.below bc (by omega))
                    have S1 := bc.size
                    clear c0 c1 f1
                    obtain ⟨e0, e1, e2⟩ := SB4.out
                    go_wp2
                    go_roundw
                    case rel => exact ⟨nx, f, x, y, ts, rfl, rfl, rfl, by omega, by omega, ⟨tokRow_set (tokRow_below HTR.out bc) (by omega), HA.out, HXY.out⟩, SB4.out.set, (bel.trans (bc.mono (by omega))).setCell (Nat.le_refl _) _, by simp; omega⟩
                    case measure =>
                      have e9 := cellN_eq (SB4.out.set (j := nx)).c1
                      have e8 := cellN_eq SB.out.c1
                      rw [e9, e8]; omega
                · replace CON := hide (CON.out fun g => h42 g.2)
                  replace HK := hide (HK.out fun g => h42 g.2)
                  subst h40
                  have g42 : ((a1 : Int) == 42) = false := by simp; omega
                  clear HCM CCO hcl
                  cases hrd : rdL (s.data.toList.drop f) with
                  | bad e =>
                    have HE : Hid (R = ([], x, y, e)) := HF.out.2 x y e (by have g := HRA.out.bad (by rw [size_list]; exact hend) hrd; rw [← HXY.out] at g; exact g)
                    have he := rdL_err hrd
                    rw [hrd] at CON
                    have ge : ((e : Int) != 0) = true := by simp; omega
                    clear hrd HF HRA HK
                    go_upto_region 20 with (first | (go_at_call 20; refine (CA0.out _ bc).mono ?_; clear bc CA0; rintro e w1 ⟨rfl, bc⟩) | (go_at_call 20; refine (CA1.out _ bc).mono ?_; clear bc CA1; rintro e w1 ⟨rfl, bc⟩))
                    go_wp2_with (go_at_call 22; refine (CON.out _ bc).mono ?_; rintro e' w2 ⟨hv, b2⟩; (have hv2 : e' = .returned (.tuple #[.agg #[.int .i64 0, .string ⟨#[]⟩, .slice none 0 0, .int .i64 0, .int .i64 0], .int .i64 0, .int .i64 (e : Int)]) := hv); subst hv2; clear hv)
                    refine bodyPost_ret (results_tmp4 rfl _ _ _) rfl ?_
                    rw [HE.out]
                    have B2 : Below wr.heap.size wr w2 := bc.trans (b2.mono bc.size)
                    have S2 := B2.size
                    exact ⟨⟨_, tokRow_nil _ _, rfl⟩, (bel.trans (B2.mono (by omega))).alloc (by omega) _⟩
                  | got k t q n =>
                    have hn := rdL_le hrd
                    rw [List.length_drop, size_list] at hn
                    have HA := hide (HRA.out.more (HK.out _ _ _ _ hrd) hrd)
                    rw [← HXY.out] at HA
                    have htl : ts.length ≤ 1048576 := by have := HRA.out.2; omega
                    rw [hrd] at CON
                    obtain ⟨z, hz⟩ : ∃ z : ByteArray, ByteArray.mk t.toArray = z := ⟨_, rfl⟩
                    have HZ := hide hz
                    obtain ⟨ql, hql⟩ : ∃ ql, q.length = ql := ⟨_, rfl⟩
                    have HQL := hide hql
                    clear hrd HF HRA HK hz hql
                    go_upto_region 20 with (first | (go_at_call 20; refine (CA0.out _ bc).mono ?_; clear bc CA0; rintro e w1 ⟨rfl, bc⟩) | (go_at_call 20; refine (CA1.out _ bc).mono ?_; clear bc CA1; rintro e w1 ⟨rfl, bc⟩))
                    go_upto_region 23 with (go_at_call 22; refine (CON.out _ bc).mono ?_; clear CON; rintro e' w2 ⟨⟨pv, hpv, hv⟩, b2⟩; (obtain ⟨ao, cap, hps⟩ := ownS_slice hpv); subst hps; rw [HQL.out] at hpv hv; (have HPV := hide hpv); clear hpv; (have hv2 : e' = .returned (.tuple #[.agg #[.int .i64 (k : Int), .string (ByteArray.mk t.toArray), .slice ao ql cap, .int .i64 0, .int .i64 0], .int .i64 (n : Int), .int .i64 0]) := hv); rw [HZ.out] at hv2; subst hv2; clear hv)
                    have B2 : Below wr.heap.size wr w2 := bc.trans (b2.mono bc.size)
                    have S2 := B2.size
                    have S1 := bc.size
                    have T2 := five_new w2 (.int .i64 (k : Int)) (.string z) (.slice ao ql cap) (.int .i64 0) (.int .i64 0)
                    have HB2 := hide (B2.alloc S2 (.cells #[.int .i64 (k : Int), .string z, .slice ao ql cap, .int .i64 0, .int .i64 0] 34))
                    have HPV2 := hide (ownS_mono (ownS_alloc HPV.out (.cells #[.int .i64 (k : Int), .string z, .slice ao ql cap, .int .i64 0, .int .i64 0] 34)) S1)
                    have SS2 : (w2.alloc (.cells #[.int .i64 (k : Int), .string z, .slice ao ql cap, .int .i64 0, .int .i64 0] 34)).heap.size = w2.heap.size + 1 := by simp
                    obtain ⟨T, hT⟩ : ∃ T, w2.heap.size = T := ⟨_, rfl⟩
                    have HG : Hid (∀ g, (Value.slice ao ql cap).ownBlock = some g → g ≠ T) := fun g hg => Nat.ne_of_lt (by rw [← hT]; exact (HPV.out.lt g hg).2)
                    rw [hT] at T2 SS2 S2 ⊢
                    generalize w2.alloc (.cells #[.int .i64 (k : Int), .string z, .slice ao ql cap, .int .i64 0, .int .i64 0] 34) = W2 at *
                    have hTp : ¬ T = w.heap.size := by omega
                    have hTq : ¬ w.heap.size = T := by omega
                    have HT2 := hide T2
                    clear HPV B2 b2 bc hT
                    obtain ⟨t0, t1, t2, t3, t4, g0, g1, g2, g3, g4⟩ := T2
                    go_upto_region 25 with fail
                    have HT3 := hide (five_set (v3 := .int .i64 (x : Int)) (v4 := .int .i64 (y : Int)) HT2.out)
                    have HPV3 := hide (ownS_set_ne (k := 4) (u := .int .i64 (y : Int)) (ownS_set_ne (k := 3) (u := .int .i64 (x : Int)) HPV2.out HG.out) HG.out)
                    have HB3 := hide ((HB2.out.setCell (p := ⟨T, 3, none⟩) S2 (.int .i64 (x : Int))).setCell (p := ⟨T, 4, none⟩) S2 (.int .i64 (y : Int)))
                    clear t0 t1 t2 t3 t4 g0 g1 g2 g3 g4 HT2 HPV2 HB2 HG
                    generalize ((W2.setCell ⟨T, 3, none⟩ (.int .i64 (x : Int))).setCell ⟨T, 4, none⟩ (.int .i64 (y : Int))) = W3 at *
                    obtain ⟨ps, hps, hrow⟩ := tokRow_below HTR.out HB3.out
                    obtain ⟨TL, hTL⟩ : ∃ TL, ts.length = TL := ⟨_, rfl⟩
                    rw [hTL] at hrow htl
                    have HPS := hide hps
                    have HW := hide hrow
                    have HTL := hide hTL
                    have S3 := HB3.out.size
                    clear hps hrow hTL HTR
                    obtain ⟨t0, t1, t2, t3, t4, g0, g1, g2, g3, g4⟩ := HT3.out
                    go_upto_region 26 with (at_builtin; refine wpList_append_own _ rfl _ _ 22 rfl (w.heap.size + 1) 34 i0 (.agg #[.int .i64 0, .string ⟨#[]⟩, .slice none 0 0, .int .i64 0, .int .i64 0]) 5 64 Tryz.underlying22 hi hz0 hz1 hz2 rfl (by decide) _ _ _ rfl (HW.out.alloc _) ⟨_, 0, none⟩ 1 1 [.int .i64 (k : Int), .string z, .slice ao ql cap, .int .i64 (x : Int), .int .i64 (y : Int)] rfl rfl (cells_new _ _ _) (by simp [Value.oneCell']) (by unfold maxLen; omega) (by omega) (by simp; omega) ?_; intro v4 w4 o4 gr4 _; have H4 := hide o4; clear o4)
                    have B4 := hide (((Below.refl (w.heap.size + 1) W3).alloc (by omega) _).grown gr4 (by simp; omega) (fun j hj => (HW.out.lt j hj).1))
                    have TR4 : Hid (TokRow (w.heap.size + 1) v4 (ts ++ [⟨k, t, q, x, y⟩]) w4) := tokRow_push (t := ⟨k, t, q, x, y⟩) HTL.out (PathsOk.mono (fun p q hq => ownS_alloc hq _) HPS.out) (HW.out.alloc _) (ownS_alloc (ownS_mono HPV3.out (by omega)) _) gr4 (by simp only [HZ.out]; exact H4.out)
                    have S4 := B4.out.size
                    have B5 := hide ((HB3.out.mono (show w.heap.size + 1 ≤ wr.heap.size by omega)).trans B4.out)
                    have SB4 := hide (SB.out.below B5.out (by omega))
                    clear t0 t1 t2 t3 t4 g0 g1 g2 g3 g4 H4 gr4 HPS HW HTL HPV3 HQL HZ HT3
                    obtain ⟨e0, e1, e2⟩ := SB4.out
                    clear c0 c1 f1
                    go_wp2
                    go_roundw
                    case rel => exact ⟨f + n, f, x, y, _, rfl, rfl, rfl, by omega, by omega, ⟨tokRow_set TR4.out (by omega), HA.out, HXY.out⟩, SB4.out.set, (bel.trans (B5.out.mono (by omega))).setCell (Nat.le_refl _) _, by simp; omega⟩
                    case measure =>
                      have e9 : cellN (w4.setCell ⟨w.heap.size, 1, none⟩ (.int .i64 ((f : Int) + (n : Int)))) w.heap.size = f + n := cellN_eq (i := f + n) (SB4.out.set (j := f + n)).c1
                      have e8 := cellN_eq SB.out.c1
                      rw [e9, e8]; omega
              · replace CON := hide (CON.out fun g => h40 g.1)
                replace HK := hide (HK.out fun g => h40 g.1)
                have g40 : ((cn : Int) == 40) = false := by simp; omega
                clear HCM CCO CA1 hcl
                cases hrd : rdL (s.data.toList.drop f) with
                | bad e =>
                  have HE : Hid (R = ([], x, y, e)) := HF.out.2 x y e (by have g := HRA.out.bad (by rw [size_list]; exact hend) hrd; rw [← HXY.out] at g; exact g)
                  have he := rdL_err hrd
                  rw [hrd] at CON
                  have ge : ((e : Int) != 0) = true := by simp; omega
                  clear hrd HF HRA HK
                  go_upto_region 20 with (first | (go_at_call 20; refine (CA0.out _ bc).mono ?_; clear bc CA0; rintro e w1 ⟨rfl, bc⟩))
                  go_wp2_with (go_at_call 22; refine (CON.out _ bc).mono ?_; rintro e' w2 ⟨hv, b2⟩; (have hv2 : e' = .returned (.tuple #[.agg #[.int .i64 0, .string ⟨#[]⟩, .slice none 0 0, .int .i64 0, .int .i64 0], .int .i64 0, .int .i64 (e : Int)]) := hv); subst hv2; clear hv)
                  refine bodyPost_ret (results_tmp4 rfl _ _ _) rfl ?_
                  rw [HE.out]
                  have B2 : Below wr.heap.size wr w2 := bc.trans (b2.mono bc.size)
                  have S2 := B2.size
                  exact ⟨⟨_, tokRow_nil _ _, rfl⟩, (bel.trans (B2.mono (by omega))).alloc (by omega) _⟩
                | got k t q n =>
                  have hn := rdL_le hrd
                  rw [List.length_drop, size_list] at hn
                  have HA := hide (HRA.out.more (HK.out _ _ _ _ hrd) hrd)
                  rw [← HXY.out] at HA
                  have htl : ts.length ≤ 1048576 := by have := HRA.out.2; omega
                  rw [hrd] at CON
                  obtain ⟨z, hz⟩ : ∃ z : ByteArray, ByteArray.mk t.toArray = z := ⟨_, rfl⟩
                  have HZ := hide hz
                  obtain ⟨ql, hql⟩ : ∃ ql, q.length = ql := ⟨_, rfl⟩
                  have HQL := hide hql
                  clear hrd HF HRA HK hz hql
                  go_upto_region 20 with (first | (go_at_call 20; refine (CA0.out _ bc).mono ?_; clear bc CA0; rintro e w1 ⟨rfl, bc⟩))
                  go_upto_region 23 with (go_at_call 22; refine (CON.out _ bc).mono ?_; clear CON; rintro e' w2 ⟨⟨pv, hpv, hv⟩, b2⟩; (obtain ⟨ao, cap, hps⟩ := ownS_slice hpv); subst hps; rw [HQL.out] at hpv hv; (have HPV := hide hpv); clear hpv; (have hv2 : e' = .returned (.tuple #[.agg #[.int .i64 (k : Int), .string (ByteArray.mk t.toArray), .slice ao ql cap, .int .i64 0, .int .i64 0], .int .i64 (n : Int), .int .i64 0]) := hv); rw [HZ.out] at hv2; subst hv2; clear hv)
                  have B2 : Below wr.heap.size wr w2 := bc.trans (b2.mono bc.size)
                  have S2 := B2.size
                  have S1 := bc.size
                  have T2 := five_new w2 (.int .i64 (k : Int)) (.string z) (.slice ao ql cap) (.int .i64 0) (.int .i64 0)
                  have HB2 := hide (B2.alloc S2 (.cells #[.int .i64 (k : Int), .string z, .slice ao ql cap, .int .i64 0, .int .i64 0] 34))
                  have HPV2 := hide (ownS_mono (ownS_alloc HPV.out (.cells #[.int .i64 (k : Int), .string z, .slice ao ql cap, .int .i64 0, .int .i64 0] 34)) S1)
                  have SS2 : (w2.alloc (.cells #[.int .i64 (k : Int), .string z, .slice ao ql cap, .int .i64 0, .int .i64 0] 34)).heap.size = w2.heap.size + 1 := by simp
                  obtain ⟨T, hT⟩ : ∃ T, w2.heap.size = T := ⟨_, rfl⟩
                  have HG : Hid (∀ g, (Value.slice ao ql cap).ownBlock = some g → g ≠ T) := fun g hg => Nat.ne_of_lt (by rw [← hT]; exact (HPV.out.lt g hg).2)
                  rw [hT] at T2 SS2 S2 ⊢
                  generalize w2.alloc (.cells #[.int .i64 (k : Int), .string z, .slice ao ql cap, .int .i64 0, .int .i64 0] 34) = W2 at *
                  have hTp : ¬ T = w.heap.size := by omega
                  have hTq : ¬ w.heap.size = T := by omega
                  have HT2 := hide T2
                  clear HPV B2 b2 bc hT
                  obtain ⟨t0, t1, t2, t3, t4, g0, g1, g2, g3, g4⟩ := T2
                  go_upto_region 25 with fail
                  have HT3 := hide (five_set (v3 := .int .i64 (x : Int)) (v4 := .int .i64 (y : Int)) HT2.out)
                  have HPV3 := hide (ownS_set_ne (k := 4) (u := .int .i64 (y : Int)) (ownS_set_ne (k := 3) (u := .int .i64 (x : Int)) HPV2.out HG.out) HG.out)
                  have HB3 := hide ((HB2.out.setCell (p := ⟨T, 3, none⟩) S2 (.int .i64 (x : Int))).setCell (p := ⟨T, 4, none⟩) S2 (.int .i64 (y : Int)))
                  clear t0 t1 t2 t3 t4 g0 g1 g2 g3 g4 HT2 HPV2 HB2 HG
                  generalize ((W2.setCell ⟨T, 3, none⟩ (.int .i64 (x : Int))).setCell ⟨T, 4, none⟩ (.int .i64 (y : Int))) = W3 at *
                  obtain ⟨ps, hps, hrow⟩ := tokRow_below HTR.out HB3.out
                  obtain ⟨TL, hTL⟩ : ∃ TL, ts.length = TL := ⟨_, rfl⟩
                  rw [hTL] at hrow htl
                  have HPS := hide hps
                  have HW := hide hrow
                  have HTL := hide hTL
                  have S3 := HB3.out.size
                  clear hps hrow hTL HTR
                  obtain ⟨t0, t1, t2, t3, t4, g0, g1, g2, g3, g4⟩ := HT3.out
                  go_upto_region 26 with (at_builtin; refine wpList_append_own _ rfl _ _ 22 rfl (w.heap.size + 1) 34 i0 (.agg #[.int .i64 0, .string ⟨#[]⟩, .slice none 0 0, .int .i64 0, .int .i64 0]) 5 64 Tryz.underlying22 hi hz0 hz1 hz2 rfl (by decide) _ _ _ rfl (HW.out.alloc _) ⟨_, 0, none⟩ 1 1 [.int .i64 (k : Int), .string z, .slice ao ql cap, .int .i64 (x : Int), .int .i64 (y : Int)] rfl rfl (cells_new _ _ _) (by simp [Value.oneCell']) (by unfold maxLen; omega) (by omega) (by simp; omega) ?_; intro v4 w4 o4 gr4 _; have H4 := hide o4; clear o4)
                  have B4 := hide (((Below.refl (w.heap.size + 1) W3).alloc (by omega) _).grown gr4 (by simp; omega) (fun j hj => (HW.out.lt j hj).1))
                  have TR4 : Hid (TokRow (w.heap.size + 1) v4 (ts ++ [⟨k, t, q, x, y⟩]) w4) := tokRow_push (t := ⟨k, t, q, x, y⟩) HTL.out (PathsOk.mono (fun p q hq => ownS_alloc hq _) HPS.out) (HW.out.alloc _) (ownS_alloc (ownS_mono HPV3.out (by omega)) _) gr4 (by simp only [HZ.out]; exact H4.out)
                  have S4 := B4.out.size
                  have B5 := hide ((HB3.out.mono (show w.heap.size + 1 ≤ wr.heap.size by omega)).trans B4.out)
                  have SB4 := hide (SB.out.below B5.out (by omega))
                  clear t0 t1 t2 t3 t4 g0 g1 g2 g3 g4 H4 gr4 HPS HW HTL HPV3 HQL HZ HT3
                  obtain ⟨e0, e1, e2⟩ := SB4.out
                  clear c0 c1 f1
                  go_wp2
                  go_roundw
                  case rel => exact ⟨f + n, f, x, y, _, rfl, rfl, rfl, by omega, by omega, ⟨tokRow_set TR4.out (by omega), HA.out, HXY.out⟩, SB4.out.set, (bel.trans (B5.out.mono (by omega))).setCell (Nat.le_refl _) _, by simp; omega⟩
                  case measure =>
                    have e9 : cellN (w4.setCell ⟨w.heap.size, 1, none⟩ (.int .i64 ((f : Int) + (n : Int)))) w.heap.size = f + n := cellN_eq (i := f + n) (SB4.out.set (j := f + n)).c1
                    have e8 := cellN_eq SB.out.c1
                    rw [e9, e8]; omega
        · rw [hbl] at CBL
          have HA := hide (HRA.out.blank hdr hbl)
          clear hdr hbl HRA HF ONE hc hcn
          go_wp2_with (go_at_call 19; refine (CBL.out _).mono ?_; rintro e w1 ⟨rfl, h9⟩; replace h9 := h9.symm; subst h9)
          go_roundw
          case rel => exact ⟨i + 1, f, x, y, ts, rfl, rfl, rfl, by omega, by omega, ⟨tokRow_set HTR.out (by omega), HA.out, HXY.out⟩, SB.out.set, bel.setCell (Nat.le_refl _) _, by simp; omega⟩
          case measure => have e2 : cellN (wr.setCell ⟨w.heap.size, 1, none⟩ (.int .i64 ((i : Int) + 1))) w.heap.size = i + 1 := cellN_eq (i := i + 1) (SB.out.set (j := i + 1)).c1
                          rw [e2, cellN_eq c1]; omega
      · have HE : Hid (R = (ts, 0, 0, 0)) := by
          have h := HRA.out.done (by rw [size_list]; omega)
          have h2 := HF.out.1 (by rw [h])
          show _ = _
          rw [h2, h]
        have hie : decide ((i : Int) < (s.size : Int)) = false := by simp; omega
        clear HRA HF ONE
        go_wp2
        refine bodyPost_ret (results_tmp4 rfl _ _ _) rfl ?_
        rw [HE.out]
        exact ⟨⟨_, tokRow_mono HTR.out (by omega), rfl⟩, bel⟩
end Go.Proofs.YtgcbkjfckmjgeaaGreatDoor
