/- The document's writer: Write. -/
import Derived.Test.YtgcbkjfckmjgeaaGreatDoorProg
import Derived.Test.YtgcbkjfckmjgeaaGreatDoorLexH9
import Derived.Test.YtgcbkjfckmjgeaaGreatDoorLexH10
import Derived.Test.YtgcbkjfckmjgeaaGreatDoorLexG4
import Derived.Test.YtgcbkjfckmjgeaaGreatDoorLex5
import Derived.Test.YtgcbkjfckmjgeaaGreatDoorLexF1
import Derived.WalkKit
import Derived.ProofKit
import Derived.OpenShut
import Derived.Below
import Derived.WalkLawsBesides
import Derived.OwnWalk
import Derived.Laws.IdiomStrings
import Derived.Lib.IndexBytes
import Derived.BigQuiet
import Derived.WalkSmall
import Derived.Deep.MidRow
import Derived.Deep.RegionHeld
import Derived.Deep.RegionHeld3
namespace Go.Proofs.YtgcbkjfckmjgeaaGreatDoor
open Go.ChangeShapes Go.WideShapes Go.ChangeAt Go.RowKit

theorem app_list (a b : ByteArray) : (a ++ b).data.toList = a.data.toList ++ b.data.toList := by simp
theorem quoteS_list (z : ByteArray) : (quoteS z).data.toList = 34 :: quotL z.data.toList ++ [34] := by simp [quoteS]
theorem bytes_of11 {a b : ByteArray} (h : a.data.toList = b.data.toList) : a = b := by
  apply ByteArray.ext
  apply Array.ext'
  exact h

set_option maxRecDepth 100000 in
set_option maxHeartbeats 16000000 in
theorem rwrite_any (k x y : Int) (z : ByteArray) (v : Value) (p : List (List UInt8)) (w : World) (hv : RdS w v p) (hz : z.size ≤ 1048576) (hp : ∀ j, j < p.length → (p.getD j []).length ≤ 1048576) :
    Calls Tryz.prog 11 #[.agg #[.int .i64 k, .string z, v, .int .i64 x, .int .i64 y]] w fun e w' => e = .returned (.tuple #[.string ⟨(writeL k z.data.toList p).1.toArray⟩, .int .i64 ((writeL k z.data.toList p).2 : Nat)]) ∧ Below w.heap.size w w' := by
  have HV0 := hide hv
  obtain ⟨ao, cap, rfl, hm, hc⟩ := hv
  have HC := hide hc
  have HP0 := hide hp
  obtain ⟨L, hL⟩ : ∃ L, p.length = L := ⟨_, rfl⟩
  have HL := hide hL
  rw [hL] at hm HV0 ⊢
  obtain ⟨R, hR⟩ : ∃ R, writeL k z.data.toList p = R := ⟨_, rfl⟩
  rw [hR]
  rw [rwrite_eq] at hR
  have HR := hide hR
  clear hL hc hR hp
  go_enter Tryz.func11, Tryz.ntmps11
  go_upto_region 3 with fail
  generalize hW0 : w.alloc (.cells #[.int .i64 k, .string z, .slice ao L cap, .int .i64 x, .int .i64 y] 34) = W0
  have C5 : Hid (∀ w1, Below W0.heap.size W0 w1 → _) := fun w1 (h : Below W0.heap.size W0 w1) => cell5 (w := w) (w1 := w1) (c0 := .int .i64 k) (c1 := .string z) (c2 := .slice ao L cap) (c3 := .int .i64 x) (c4 := .int .i64 y) (t := 34) (by rw [hW0]; exact h)
  have hW0s : w.heap.size < W0.heap.size := by rw [← hW0]; simp
  have HB0 : Hid (Below w.heap.size w W0) := by rw [← hW0]; exact (Below.refl _ _).alloc (Nat.le_refl _) _
  clear hW0
  obtain ⟨⟨c0, c1, c2, c3, c4⟩, _, _, _⟩ := C5.out W0 (Below.refl _ _)
  go_loopw [4, 5] (fun vs vi wr => ∃ (j : Nat) (sb : ByteArray), vs = .string sb ∧ vi = .int .i64 (j : Int) ∧ j ≤ L ∧ sb.size ≤ 1048576 ∧ Hid (sb.data.toList = pathL (p.take j)) ∧ wr = W0) (fun _ vi _ => L - (intOf vi).toNat)
  case atStart => exact ⟨0, ⟨#[]⟩, rfl, rfl, Nat.zero_le _, by decide, rfl, rfl⟩
  case round =>
    obtain ⟨j, sb, rfl, rfl, hj, hsb, HI, hww⟩ := hrel
    subst hww
    by_cases h1 : j < L
    · obtain ⟨a1, ea1, hab1, hcell1⟩ := HC.out j (by have := HL.out; omega)
      subst ea1
      have HP := hide (pathL_succ (p := p) (k := j) (by have := HL.out; omega))
      have hs1 := sumN_succ (p := p) (k := j) (by have := HL.out; omega)
      have hs2 := sumN_take_le p (j + 1)
      obtain ⟨z2, ez2⟩ : ∃ z, ByteArray.mk (p.getD j []).toArray = z := ⟨_, rfl⟩
      have hzl : (p.getD j []).length = z2.size := by rw [← ez2]; simp [ByteArray.size]
      have hzs2 : z2.size ≤ 1048576 := by have := HP0.out j (by have := HL.out; omega); omega
      have HZ2 : p.getD j [] = z2.data.toList := by rw [← ez2]
      rw [ez2] at hcell1
      rw [← HB0.out.cell (p := a1.add j) (by rw [add_block]; exact hab1)] at hcell1
      obtain ⟨sm, hsm⟩ : ∃ sm, sb ++ z2 = sm := ⟨_, rfl⟩
      obtain ⟨sn, hsn⟩ : ∃ sn, sm ++ ⟨#[46]⟩ = sn := ⟨_, rfl⟩
      have HSN : Hid (sn.data.toList = pathL (p.take (j + 1))) := by
        show _ = _
        rw [HP.out, HZ2, ← hsn, ← hsm, app_list, app_list, HI.out]
      have hsns : sn.size = sumN (p.take (j + 1)) := by rw [← pathL_len, ← HSN.out, size_list]
      have hsmb : sm.size ≤ 2097152 := by rw [← hsm, ByteArray.size_append]; omega
      have hsnb : sn.size ≤ 2097153 := by rw [← hsn, ← hsm, ByteArray.size_append, ByteArray.size_append]; have : (ByteArray.mk #[46]).size = 1 := rfl; omega
      by_cases hlg : 1048576 < sn.size
      · have HE : Hid (R = ([], 1)) := by
          show _ = _
          rw [← HR.out, if_neg]
          unfold rokW
          rw [decide_eq_true (show 1048576 < sumN p by omega)]
          simp
        have hdc : decide ((1048576 : Int) < (sn.size : Int)) = true := by simp; omega
        clear HI HSN hsns hs1 hs2 hzl HZ2 ez2 HR HP
        go_wp2
        go_ret2
        rw [HE.out]
        exact ⟨rfl, HB0.out⟩
      · have hdc : decide ((1048576 : Int) < (sn.size : Int)) = false := by simp; omega
        clear HI hsns hs1 hs2 hzl HZ2 ez2 HR HP
        go_wp2
        go_roundw
        case rel => exact ⟨j + 1, sn, rfl, by go_num, by omega, by omega, HSN.out, by first | rfl | trivial⟩
        case measure => simp [intOf]; omega
    · obtain rfl : j = L := by omega
      have HT : p.take j = p := List.take_of_length_le (by have := HL.out; omega)
      rw [HT] at HI
      have hsum : sumN p ≤ 1048576 := by rw [← pathL_len, ← HI.out, size_list]; exact hsb
      have HR2 : Hid (R = if ((scanL (rspellI k z.data.toList p)).2.2.2 == 0 && oneTok k z.data.toList p (scanL (rspellI k z.data.toList p)).1) then (rspellI k z.data.toList p, 0) else ([], 1)) := by
        show _ = _
        rw [← HR.out]
        unfold rokW
        rw [decide_eq_false (by omega)]
        rfl
      have BQ := Below.refl wr.heap.size wr
      clear HR HT hsum h1
      by_cases h6 : k = 6
      · subst h6
        obtain ⟨qz, hqz⟩ : ∃ q, quoteS z = q := ⟨_, rfl⟩
        have CQ := hide (fun W => rquote_any z (by omega) W)
        rw [hqz] at CQ
        have hql : qz.data.toList = 34 :: quotL z.data.toList ++ [34] := by rw [← hqz, quoteS_list]
        have hqs : qz.size ≤ 4194306 := by rw [← size_list, hql]; have h := quotL_len z.data.toList; rw [size_list] at h; simp only [List.length_cons, List.length_append, List.length_nil]; omega
        clear hqz
        obtain ⟨sp, hsp⟩ : ∃ sp, sb ++ qz = sp := ⟨_, rfl⟩
        have hspl : sp.data.toList = rspellI 6 z.data.toList p := by rw [← hsp, app_list, HI.out, hql]; rfl
        have hsps : sp.size ≤ 5242883 := by rw [← hsp, ByteArray.size_append]; omega
        clear hql
        have CSC := hide (fun (W : World) => rscan_any rone_any sp (by omega) W)
        obtain ⟨Sc, hSc⟩ : ∃ Sc, scanL sp.data.toList = Sc := ⟨_, rfl⟩
        rw [hSc] at CSC
        rw [← hspl, hSc] at HR2
        obtain ⟨l, sx, sy, se⟩ := Sc
        have HSP := hide hspl
        clear hSc hspl HI
        by_cases he : se = 0
        · subst he
          by_cases h1 : l.length = 1
          · obtain ⟨a, rfl⟩ : ∃ a, l = [a] := List.length_eq_one_iff.1 h1
            have HE : Hid (R = if ((a.kind : Int) == 6 && a.text == z.data.toList && a.path == p) then (sp.data.toList, 0) else ([], 1)) := HR2.out
            obtain ⟨z1, hz1'⟩ : ∃ z1 : ByteArray, ByteArray.mk a.text.toArray = z1 := ⟨_, rfl⟩
            have hz1l : z1.data.toList = a.text := by rw [← hz1']
            have HZ1 := hide hz1'
            rw [← hz1l] at HE
            obtain ⟨qn, hqn⟩ : ∃ n, a.path.length = n := ⟨_, rfl⟩
            have HQN := hide hqn
            have CSM := hide (fun (W : World) (pv : Value) (h1 : RdS W pv a.path) (h2 : RdS W (.slice ao j cap) p) => ralike_any (a.kind : Int) 6 (a.line : Int) (a.column : Int) x y z1 z pv (.slice ao j cap) a.path p W h1 h2)
            obtain ⟨bb, hbb⟩ : ∃ bb, ((a.kind : Int) == 6 && z1.data.toList == z.data.toList && a.path == p) = bb := ⟨_, rfl⟩
            rw [hbb] at CSM HE
            clear HR2 hz1' hz1l hqn hbb h1
            go_wp2_with (first | (go_at_call 27; refine (CQ.out _).mono ?_; rintro e w1 ⟨rfl, b1⟩; (replace BQ := BQ.trans b1)) | (go_at_call 7; refine (CSC.out _).mono ?_; rintro e w3 ⟨⟨tv, htv, hret⟩, b3⟩; subst hret; (have B3 : Below wr.heap.size wr w3 := BQ.trans (b3.mono BQ.size)); (obtain ⟨a', g, tc, pv, hl, hv3, hop, hg, r0, r1, r2, r3, r4⟩ := tokRow_one htv rfl); (obtain rfl : a = a' := by injection hl); clear hl; subst hv3; (obtain ⟨ao1, cap1, hpv⟩ := ownS_slice hop); subst hpv; rw [HZ1.out] at r1; rw [HQN.out] at r2 hop; (have HRS := hide (rdS_own hop)); clear htv hop; (obtain ⟨⟨c0, c1, c2, c3, c4⟩, _, _, _⟩ := C5.out w3 B3); (have HV3 := hide (rdS_below HV0.out (HB0.out.trans (B3.mono (Nat.le_of_lt hW0s)))))))
            have hws : w.heap.size < w3.heap.size := Nat.lt_of_lt_of_le hW0s B3.size
            go_region_held3 (fun w' => w'.cell? ⟨g, 0, none⟩ = some (.int .i64 (a.kind : Int)) ∧ w'.cell? ⟨g, 1, none⟩ = some (.string z1) ∧ w'.cell? ⟨g, 2, none⟩ = some (.slice ao1 qn cap1) ∧ w'.cell? ⟨g, 3, none⟩ = some (.int .i64 (a.line : Int)) ∧ w'.cell? ⟨g, 4, none⟩ = some (.int .i64 (a.column : Int)) ∧ w'.cell? ⟨w.heap.size, 0, none⟩ = some (.int .i64 6) ∧ w'.cell? ⟨w.heap.size, 1, none⟩ = some (.string z) ∧ w'.cell? ⟨w.heap.size, 2, none⟩ = some (.slice ao j cap) ∧ w'.cell? ⟨w.heap.size, 3, none⟩ = some (.int .i64 x) ∧ w'.cell? ⟨w.heap.size, 4, none⟩ = some (.int .i64 y)) (go_keep) (first
              | (go_at_call 23; refine (CSM.out _ _ (rdS_below HRS.out (by first | exact Below.refl _ _ | exact (Below.refl _ _).drew | exact below_drewN (Below.refl _ _) _)) (rdS_below HV3.out (by first | exact Below.refl _ _ | exact (Below.refl _ _).drew | exact below_drewN (Below.refl _ _) _))).mono ?_; rintro e w4 ⟨rfl, b4⟩; have m0 := (b4.cell (p := ⟨g, 0, none⟩) (show g < _ from hg)).trans r0; have m1 := (b4.cell (p := ⟨g, 1, none⟩) (show g < _ from hg)).trans r1; have m2 := (b4.cell (p := ⟨g, 2, none⟩) (show g < _ from hg)).trans r2; have m3 := (b4.cell (p := ⟨g, 3, none⟩) (show g < _ from hg)).trans r3; have m4 := (b4.cell (p := ⟨g, 4, none⟩) (show g < _ from hg)).trans r4; have q0 := (b4.cell (p := ⟨w.heap.size, 0, none⟩) (show w.heap.size < _ from hws)).trans c0; have q1 := (b4.cell (p := ⟨w.heap.size, 1, none⟩) (show w.heap.size < _ from hws)).trans c1; have q2 := (b4.cell (p := ⟨w.heap.size, 2, none⟩) (show w.heap.size < _ from hws)).trans c2; have q3 := (b4.cell (p := ⟨w.heap.size, 3, none⟩) (show w.heap.size < _ from hws)).trans c3; have q4 := (b4.cell (p := ⟨w.heap.size, 4, none⟩) (show w.heap.size < _ from hws)).trans c4))
            have B4 : Below w.heap.size w w4 := (HB0.out.trans (B3.mono (Nat.le_of_lt hW0s))).trans (((Below.refl _ _).drew.trans b4).mono (Nat.le_of_lt hws))
            cases bb
            · go_wp2
              go_ret2
              rw [HE.out]
              exact ⟨rfl, B4⟩
            · go_wp2
              go_ret2
              refine ⟨?_, B4⟩
              have HE2 : R = (sp.data.toList, 0) := HE.out
              rw [HE2]
              rfl
          · have HE : Hid (R = ([], 1)) := by
              show _ = _
              have : oneTok 6 z.data.toList p l = false := by
                match l, h1 with
                | [], _ => rfl
                | [_], h1 => exact absurd rfl h1
                | _ :: _ :: _, _ => rfl
              rw [HR2.out]
              show (if ((0 : Nat) == 0 && oneTok 6 z.data.toList p l) = true then _ else _) = _
              rw [this]; rfl
            obtain ⟨N, hN⟩ : ∃ N, l.length = N := ⟨_, rfl⟩
            have HN := hide hN
            have gN : ((N : Int) != 1) = true := by simp; omega
            clear HR2 h1 hN
            go_wp2_with (first | (go_at_call 27; refine (CQ.out _).mono ?_; rintro e w1 ⟨rfl, b1⟩; (replace BQ := BQ.trans b1)) | (go_at_call 7; refine (CSC.out _).mono ?_; rintro e w3 ⟨⟨tv, htv, hret⟩, b3⟩; subst hret; (have B3 : Below wr.heap.size wr w3 := BQ.trans (b3.mono BQ.size)); (obtain ⟨tq, tc, htt⟩ := tokRow_slice htv); subst htt; clear htv; rw [show (l, sx, sy, 0).1.length = N from HN.out]))
            go_quiet (fail)
            go_wp2
            go_ret2
            rw [HE.out]
            exact ⟨rfl, below_drewN (HB0.out.trans (B3.mono (Nat.le_of_lt hW0s))) _⟩
        · have HE : Hid (R = ([], 1)) := by show _ = _; rw [HR2.out, show ((l, sx, sy, se).2.2.2 == 0) = false by simpa using he]; rfl
          have ge : ((se : Int) != 0) = true := by simp; omega
          clear HR2 he
          go_wp2_with (first | (go_at_call 27; refine (CQ.out _).mono ?_; rintro e w1 ⟨rfl, b1⟩; (replace BQ := BQ.trans b1)) | (go_at_call 7; refine (CSC.out _).mono ?_; rintro e w3 ⟨⟨tv, htv, hret⟩, b3⟩; subst hret; (have B3 : Below wr.heap.size wr w3 := BQ.trans (b3.mono BQ.size)); clear htv))
          go_quiet (fail)
          go_wp2
          go_ret2
          rw [HE.out]
          exact ⟨rfl, below_drewN (HB0.out.trans (B3.mono (Nat.le_of_lt hW0s))) _⟩
      · by_cases h7 : k = 7
        · subst h7
          clear h6
          obtain ⟨qz, hqz⟩ : ∃ q, quoteS z = q := ⟨_, rfl⟩
          have CQ := hide (fun W => rquote_any z (by omega) W)
          rw [hqz] at CQ
          have hql : qz.data.toList = 34 :: quotL z.data.toList ++ [34] := by rw [← hqz, quoteS_list]
          have hqs : qz.size ≤ 4194306 := by rw [← size_list, hql]; have h := quotL_len z.data.toList; rw [size_list] at h; simp only [List.length_cons, List.length_append, List.length_nil]; omega
          clear hqz
          obtain ⟨s35, hs35⟩ : ∃ s, sb ++ ⟨#[35]⟩ = s := ⟨_, rfl⟩
          have h35b : s35.size ≤ 1048577 := by rw [← hs35, ByteArray.size_append]; have : (ByteArray.mk #[35]).size = 1 := rfl; omega
          obtain ⟨sp, hsp⟩ : ∃ sp, s35 ++ qz = sp := ⟨_, rfl⟩
          have hspl : sp.data.toList = rspellI 7 z.data.toList p := by rw [← hsp, ← hs35, app_list, app_list, HI.out, hql, List.append_assoc]; rfl
          have hsps : sp.size ≤ 5242883 := by rw [← hsp, ← hs35, ByteArray.size_append, ByteArray.size_append]; have : (ByteArray.mk #[35]).size = 1 := rfl; omega
          clear hql
          have CSC := hide (fun (W : World) => rscan_any rone_any sp (by omega) W)
          obtain ⟨Sc, hSc⟩ : ∃ Sc, scanL sp.data.toList = Sc := ⟨_, rfl⟩
          rw [hSc] at CSC
          rw [← hspl, hSc] at HR2
          obtain ⟨l, sx, sy, se⟩ := Sc
          have HSP := hide hspl
          clear hSc hspl HI
          by_cases he : se = 0
          · subst he
            by_cases h1 : l.length = 1
            · obtain ⟨a, rfl⟩ : ∃ a, l = [a] := List.length_eq_one_iff.1 h1
              have HE : Hid (R = if ((a.kind : Int) == 7 && a.text == z.data.toList && a.path == p) then (sp.data.toList, 0) else ([], 1)) := HR2.out
              obtain ⟨z1, hz1'⟩ : ∃ z1 : ByteArray, ByteArray.mk a.text.toArray = z1 := ⟨_, rfl⟩
              have hz1l : z1.data.toList = a.text := by rw [← hz1']
              have HZ1 := hide hz1'
              rw [← hz1l] at HE
              obtain ⟨qn, hqn⟩ : ∃ n, a.path.length = n := ⟨_, rfl⟩
              have HQN := hide hqn
              have CSM := hide (fun (W : World) (pv : Value) (h1 : RdS W pv a.path) (h2 : RdS W (.slice ao j cap) p) => ralike_any (a.kind : Int) 7 (a.line : Int) (a.column : Int) x y z1 z pv (.slice ao j cap) a.path p W h1 h2)
              obtain ⟨bb, hbb⟩ : ∃ bb, ((a.kind : Int) == 7 && z1.data.toList == z.data.toList && a.path == p) = bb := ⟨_, rfl⟩
              rw [hbb] at CSM HE
              clear HR2 hz1' hz1l hqn hbb h1
              go_wp2_with (first | (go_at_call 27; refine (CQ.out _).mono ?_; rintro e w1 ⟨rfl, b1⟩; (replace BQ := BQ.trans b1)) | (go_at_call 7; refine (CSC.out _).mono ?_; rintro e w3 ⟨⟨tv, htv, hret⟩, b3⟩; subst hret; (have B3 : Below wr.heap.size wr w3 := BQ.trans (b3.mono BQ.size)); (obtain ⟨a', g, tc, pv, hl, hv3, hop, hg, r0, r1, r2, r3, r4⟩ := tokRow_one htv rfl); (obtain rfl : a = a' := by injection hl); clear hl; subst hv3; (obtain ⟨ao1, cap1, hpv⟩ := ownS_slice hop); subst hpv; rw [HZ1.out] at r1; rw [HQN.out] at r2 hop; (have HRS := hide (rdS_own hop)); clear htv hop; (obtain ⟨⟨c0, c1, c2, c3, c4⟩, _, _, _⟩ := C5.out w3 B3); (have HV3 := hide (rdS_below HV0.out (HB0.out.trans (B3.mono (Nat.le_of_lt hW0s)))))))
              have hws : w.heap.size < w3.heap.size := Nat.lt_of_lt_of_le hW0s B3.size
              go_region_held3 (fun w' => w'.cell? ⟨g, 0, none⟩ = some (.int .i64 (a.kind : Int)) ∧ w'.cell? ⟨g, 1, none⟩ = some (.string z1) ∧ w'.cell? ⟨g, 2, none⟩ = some (.slice ao1 qn cap1) ∧ w'.cell? ⟨g, 3, none⟩ = some (.int .i64 (a.line : Int)) ∧ w'.cell? ⟨g, 4, none⟩ = some (.int .i64 (a.column : Int)) ∧ w'.cell? ⟨w.heap.size, 0, none⟩ = some (.int .i64 7) ∧ w'.cell? ⟨w.heap.size, 1, none⟩ = some (.string z) ∧ w'.cell? ⟨w.heap.size, 2, none⟩ = some (.slice ao j cap) ∧ w'.cell? ⟨w.heap.size, 3, none⟩ = some (.int .i64 x) ∧ w'.cell? ⟨w.heap.size, 4, none⟩ = some (.int .i64 y)) (go_keep) (first
                | (go_at_call 23; refine (CSM.out _ _ (rdS_below HRS.out (by first | exact Below.refl _ _ | exact (Below.refl _ _).drew | exact below_drewN (Below.refl _ _) _)) (rdS_below HV3.out (by first | exact Below.refl _ _ | exact (Below.refl _ _).drew | exact below_drewN (Below.refl _ _) _))).mono ?_; rintro e w4 ⟨rfl, b4⟩; have m0 := (b4.cell (p := ⟨g, 0, none⟩) (show g < _ from hg)).trans r0; have m1 := (b4.cell (p := ⟨g, 1, none⟩) (show g < _ from hg)).trans r1; have m2 := (b4.cell (p := ⟨g, 2, none⟩) (show g < _ from hg)).trans r2; have m3 := (b4.cell (p := ⟨g, 3, none⟩) (show g < _ from hg)).trans r3; have m4 := (b4.cell (p := ⟨g, 4, none⟩) (show g < _ from hg)).trans r4; have q0 := (b4.cell (p := ⟨w.heap.size, 0, none⟩) (show w.heap.size < _ from hws)).trans c0; have q1 := (b4.cell (p := ⟨w.heap.size, 1, none⟩) (show w.heap.size < _ from hws)).trans c1; have q2 := (b4.cell (p := ⟨w.heap.size, 2, none⟩) (show w.heap.size < _ from hws)).trans c2; have q3 := (b4.cell (p := ⟨w.heap.size, 3, none⟩) (show w.heap.size < _ from hws)).trans c3; have q4 := (b4.cell (p := ⟨w.heap.size, 4, none⟩) (show w.heap.size < _ from hws)).trans c4))
              have B4 : Below w.heap.size w w4 := (HB0.out.trans (B3.mono (Nat.le_of_lt hW0s))).trans (((Below.refl _ _).drew.trans b4).mono (Nat.le_of_lt hws))
              cases bb
              · go_wp2
                go_ret2
                rw [HE.out]
                exact ⟨rfl, B4⟩
              · go_wp2
                go_ret2
                refine ⟨?_, B4⟩
                have HE2 : R = (sp.data.toList, 0) := HE.out
                rw [HE2]
                rfl
            · have HE : Hid (R = ([], 1)) := by
                show _ = _
                have : oneTok 7 z.data.toList p l = false := by
                  match l, h1 with
                  | [], _ => rfl
                  | [_], h1 => exact absurd rfl h1
                  | _ :: _ :: _, _ => rfl
                rw [HR2.out]
                show (if ((0 : Nat) == 0 && oneTok 7 z.data.toList p l) = true then _ else _) = _
                rw [this]; rfl
              obtain ⟨N, hN⟩ : ∃ N, l.length = N := ⟨_, rfl⟩
              have HN := hide hN
              have gN : ((N : Int) != 1) = true := by simp; omega
              clear HR2 h1 hN
              go_wp2_with (first | (go_at_call 27; refine (CQ.out _).mono ?_; rintro e w1 ⟨rfl, b1⟩; (replace BQ := BQ.trans b1)) | (go_at_call 7; refine (CSC.out _).mono ?_; rintro e w3 ⟨⟨tv, htv, hret⟩, b3⟩; subst hret; (have B3 : Below wr.heap.size wr w3 := BQ.trans (b3.mono BQ.size)); (obtain ⟨tq, tc, htt⟩ := tokRow_slice htv); subst htt; clear htv; rw [show (l, sx, sy, 0).1.length = N from HN.out]))
              go_quiet (fail)
              go_wp2
              go_ret2
              rw [HE.out]
              exact ⟨rfl, below_drewN (HB0.out.trans (B3.mono (Nat.le_of_lt hW0s))) _⟩
          · have HE : Hid (R = ([], 1)) := by show _ = _; rw [HR2.out, show ((l, sx, sy, se).2.2.2 == 0) = false by simpa using he]; rfl
            have ge : ((se : Int) != 0) = true := by simp; omega
            clear HR2 he
            go_wp2_with (first | (go_at_call 27; refine (CQ.out _).mono ?_; rintro e w1 ⟨rfl, b1⟩; (replace BQ := BQ.trans b1)) | (go_at_call 7; refine (CSC.out _).mono ?_; rintro e w3 ⟨⟨tv, htv, hret⟩, b3⟩; subst hret; (have B3 : Below wr.heap.size wr w3 := BQ.trans (b3.mono BQ.size)); clear htv))
            go_quiet (fail)
            go_wp2
            go_ret2
            rw [HE.out]
            exact ⟨rfl, below_drewN (HB0.out.trans (B3.mono (Nat.le_of_lt hW0s))) _⟩
        · skip
          obtain ⟨sp, hsp⟩ : ∃ sp, sb ++ z = sp := ⟨_, rfl⟩
          have hspl : sp.data.toList = rspellI k z.data.toList p := by rw [← hsp, app_list, HI.out]; unfold rspellI; rw [if_neg h6, if_neg h7]
          have hsps : sp.size ≤ 5242883 := by rw [← hsp, ByteArray.size_append]; omega
          have g6 : (k == 6) = false := by simp; omega
          have g7 : (k == 7) = false := by simp; omega
          have CSC := hide (fun (W : World) => rscan_any rone_any sp (by omega) W)
          obtain ⟨Sc, hSc⟩ : ∃ Sc, scanL sp.data.toList = Sc := ⟨_, rfl⟩
          rw [hSc] at CSC
          rw [← hspl, hSc] at HR2
          obtain ⟨l, sx, sy, se⟩ := Sc
          have HSP := hide hspl
          clear hSc hspl HI
          by_cases he : se = 0
          · subst he
            by_cases h1 : l.length = 1
            · obtain ⟨a, rfl⟩ : ∃ a, l = [a] := List.length_eq_one_iff.1 h1
              have HE : Hid (R = if ((a.kind : Int) == k && a.text == z.data.toList && a.path == p) then (sp.data.toList, 0) else ([], 1)) := HR2.out
              obtain ⟨z1, hz1'⟩ : ∃ z1 : ByteArray, ByteArray.mk a.text.toArray = z1 := ⟨_, rfl⟩
              have hz1l : z1.data.toList = a.text := by rw [← hz1']
              have HZ1 := hide hz1'
              rw [← hz1l] at HE
              obtain ⟨qn, hqn⟩ : ∃ n, a.path.length = n := ⟨_, rfl⟩
              have HQN := hide hqn
              have CSM := hide (fun (W : World) (pv : Value) (h1 : RdS W pv a.path) (h2 : RdS W (.slice ao j cap) p) => ralike_any (a.kind : Int) k (a.line : Int) (a.column : Int) x y z1 z pv (.slice ao j cap) a.path p W h1 h2)
              obtain ⟨bb, hbb⟩ : ∃ bb, ((a.kind : Int) == k && z1.data.toList == z.data.toList && a.path == p) = bb := ⟨_, rfl⟩
              rw [hbb] at CSM HE
              clear HR2 hz1' hz1l hqn hbb h1
              go_wp2_with (first | (go_at_call 7; refine (CSC.out _).mono ?_; rintro e w3 ⟨⟨tv, htv, hret⟩, b3⟩; subst hret; (have B3 : Below wr.heap.size wr w3 := BQ.trans (b3.mono BQ.size)); (obtain ⟨a', g, tc, pv, hl, hv3, hop, hg, r0, r1, r2, r3, r4⟩ := tokRow_one htv rfl); (obtain rfl : a = a' := by injection hl); clear hl; subst hv3; (obtain ⟨ao1, cap1, hpv⟩ := ownS_slice hop); subst hpv; rw [HZ1.out] at r1; rw [HQN.out] at r2 hop; (have HRS := hide (rdS_own hop)); clear htv hop; (obtain ⟨⟨c0, c1, c2, c3, c4⟩, _, _, _⟩ := C5.out w3 B3); (have HV3 := hide (rdS_below HV0.out (HB0.out.trans (B3.mono (Nat.le_of_lt hW0s)))))))
              have hws : w.heap.size < w3.heap.size := Nat.lt_of_lt_of_le hW0s B3.size
              go_region_held3 (fun w' => w'.cell? ⟨g, 0, none⟩ = some (.int .i64 (a.kind : Int)) ∧ w'.cell? ⟨g, 1, none⟩ = some (.string z1) ∧ w'.cell? ⟨g, 2, none⟩ = some (.slice ao1 qn cap1) ∧ w'.cell? ⟨g, 3, none⟩ = some (.int .i64 (a.line : Int)) ∧ w'.cell? ⟨g, 4, none⟩ = some (.int .i64 (a.column : Int)) ∧ w'.cell? ⟨w.heap.size, 0, none⟩ = some (.int .i64 k) ∧ w'.cell? ⟨w.heap.size, 1, none⟩ = some (.string z) ∧ w'.cell? ⟨w.heap.size, 2, none⟩ = some (.slice ao j cap) ∧ w'.cell? ⟨w.heap.size, 3, none⟩ = some (.int .i64 x) ∧ w'.cell? ⟨w.heap.size, 4, none⟩ = some (.int .i64 y)) (go_keep) (first
                | (go_at_call 23; refine (CSM.out _ _ (rdS_below HRS.out (by first | exact Below.refl _ _ | exact (Below.refl _ _).drew | exact below_drewN (Below.refl _ _) _)) (rdS_below HV3.out (by first | exact Below.refl _ _ | exact (Below.refl _ _).drew | exact below_drewN (Below.refl _ _) _))).mono ?_; rintro e w4 ⟨rfl, b4⟩; have m0 := (b4.cell (p := ⟨g, 0, none⟩) (show g < _ from hg)).trans r0; have m1 := (b4.cell (p := ⟨g, 1, none⟩) (show g < _ from hg)).trans r1; have m2 := (b4.cell (p := ⟨g, 2, none⟩) (show g < _ from hg)).trans r2; have m3 := (b4.cell (p := ⟨g, 3, none⟩) (show g < _ from hg)).trans r3; have m4 := (b4.cell (p := ⟨g, 4, none⟩) (show g < _ from hg)).trans r4; have q0 := (b4.cell (p := ⟨w.heap.size, 0, none⟩) (show w.heap.size < _ from hws)).trans c0; have q1 := (b4.cell (p := ⟨w.heap.size, 1, none⟩) (show w.heap.size < _ from hws)).trans c1; have q2 := (b4.cell (p := ⟨w.heap.size, 2, none⟩) (show w.heap.size < _ from hws)).trans c2; have q3 := (b4.cell (p := ⟨w.heap.size, 3, none⟩) (show w.heap.size < _ from hws)).trans c3; have q4 := (b4.cell (p := ⟨w.heap.size, 4, none⟩) (show w.heap.size < _ from hws)).trans c4))
              have B4 : Below w.heap.size w w4 := (HB0.out.trans (B3.mono (Nat.le_of_lt hW0s))).trans (((Below.refl _ _).drew.trans b4).mono (Nat.le_of_lt hws))
              cases bb
              · go_wp2
                go_ret2
                rw [HE.out]
                exact ⟨rfl, B4⟩
              · go_wp2
                go_ret2
                refine ⟨?_, B4⟩
                have HE2 : R = (sp.data.toList, 0) := HE.out
                rw [HE2]
                rfl
            · have HE : Hid (R = ([], 1)) := by
                show _ = _
                have : oneTok k z.data.toList p l = false := by
                  match l, h1 with
                  | [], _ => rfl
                  | [_], h1 => exact absurd rfl h1
                  | _ :: _ :: _, _ => rfl
                rw [HR2.out]
                show (if ((0 : Nat) == 0 && oneTok k z.data.toList p l) = true then _ else _) = _
                rw [this]; rfl
              obtain ⟨N, hN⟩ : ∃ N, l.length = N := ⟨_, rfl⟩
              have HN := hide hN
              have gN : ((N : Int) != 1) = true := by simp; omega
              clear HR2 h1 hN
              go_wp2_with (first | (go_at_call 7; refine (CSC.out _).mono ?_; rintro e w3 ⟨⟨tv, htv, hret⟩, b3⟩; subst hret; (have B3 : Below wr.heap.size wr w3 := BQ.trans (b3.mono BQ.size)); (obtain ⟨tq, tc, htt⟩ := tokRow_slice htv); subst htt; clear htv; rw [show (l, sx, sy, 0).1.length = N from HN.out]))
              go_quiet (fail)
              go_wp2
              go_ret2
              rw [HE.out]
              exact ⟨rfl, below_drewN (HB0.out.trans (B3.mono (Nat.le_of_lt hW0s))) _⟩
          · have HE : Hid (R = ([], 1)) := by show _ = _; rw [HR2.out, show ((l, sx, sy, se).2.2.2 == 0) = false by simpa using he]; rfl
            have ge : ((se : Int) != 0) = true := by simp; omega
            clear HR2 he
            go_wp2_with (first | (go_at_call 7; refine (CSC.out _).mono ?_; rintro e w3 ⟨⟨tv, htv, hret⟩, b3⟩; subst hret; (have B3 : Below wr.heap.size wr w3 := BQ.trans (b3.mono BQ.size)); clear htv))
            go_quiet (fail)
            go_wp2
            go_ret2
            rw [HE.out]
            exact ⟨rfl, below_drewN (HB0.out.trans (B3.mono (Nat.le_of_lt hW0s))) _⟩
end Go.Proofs.YtgcbkjfckmjgeaaGreatDoor
