/- The walk of the law LexBlanks: it answers true for every row of tokens and every word that is not too long. -/
import Derived.Test.YtmeooghcdgpofaaDoorLexQ3
import Derived.Test.YtmeooghcdgpofaaDoorLexQ4
import Derived.Test.YtmeooghcdgpofaaDoorLexF1
import Derived.BigQuiet
import Derived.WalkSmall
import Derived.Lib.AppendStr
import Derived.Lib.IndexBytes
namespace Go.Proofs.YtmeooghcdgpofaaDoor.lexBlanks
open Go.ChangeShapes Go.WideShapes Go.ChangeAt Go.RowKit

theorem rdT_below {w w' : World} {v : Value} {l : List ITok} (h : RdT w v l) (b : Below w.heap.size w w') : RdT w' v l := by
  obtain ⟨ao, cap, hv, hm, hc⟩ := h
  refine ⟨ao, cap, hv, hm, fun j hj => ?_⟩
  obtain ⟨g, o, pv, ha, hg, ht⟩ := hc j hj
  exact ⟨g, o, pv, ha, Nat.lt_of_lt_of_le hg b.size, ht.below b hg⟩
theorem same_two : ∀ {a b : List Tok} {l : List ITok}, AlikeL a l → AlikeL b l → sameI false (a.map Tok.toI) (b.map Tok.toI) = true
  | [], [], [], _, _ => rfl
  | a :: r, b :: s, c :: t, h, g => by
    obtain ⟨⟨h1, h2, h3⟩, h4⟩ := h
    obtain ⟨⟨g1, g2, g3⟩, g4⟩ := g
    show (alikeI a.toI b.toI && (!false || _) && sameI false (r.map Tok.toI) (s.map Tok.toI)) = true
    rw [same_two h4 g4]
    simp [alikeI, Tok.toI, h1, h2, h3, g1, g2, g3]
  | [], _ :: _, [], _, g => g.elim
  | _ :: _, _, [], h, _ => h.elim
  | [], _, _ :: _, h, _ => h.elim
  | _ :: _, [], _ :: _, _, g => g.elim
/-- The text of one token with its blanks and its comment. -/
def partB (w x : ByteArray) : ByteArray := ⟨#[9]⟩ ++ x ++ ⟨#[13, 10, 40, 42]⟩ ++ w ++ ⟨#[40, 42, 42, 41]⟩ ++ w ++ ⟨#[42, 41]⟩
theorem partB_list (w x : ByteArray) : (partB w x).data.toList = partW w.data.toList x.data.toList := by
  simp [partB, partW, comW, ByteArray.data_append]
theorem partB_size (w x : ByteArray) : (partB w x).size = x.size + 2 * w.size + 11 := by
  simp only [partB, ByteArray.size_append]
  show 1 + x.size + 4 + w.size + 4 + w.size + 2 = _
  omega
theorem take_add_one {s : ByteArray} {k : Nat} (h : k < s.size) : s.data.toList.take (k + 1) = s.data.toList.take k ++ [s[k]] := by
  have hl : k < s.data.toList.length := by simpa using h
  rw [List.take_succ_eq_append_getElem hl]
  rfl

set_option maxHeartbeats 32000000 in
set_option maxRecDepth 100000 in
theorem walk (v : Value) (l : List ITok) (u : ByteArray) (w : World) (RD : Rdy w) (hv : RdT w v l) (hu : u.size ≤ 1048576) :
    Calls Tryd.prog 5 #[v, .string u] w fun e w' => e = .returned (.bool true) ∧ Below w.heap.size w w' := by
  obtain ⟨i0, hi, hz0, hz1, hz2⟩ := info_parts infoByte
  have HV := hide hv
  have RDh := hide RD
  have CA := hide (awake_any w RD)
  obtain ⟨ao, cap, hve, hNm, _⟩ := hv
  subst hve
  obtain ⟨N, hN⟩ : ∃ N, l.length = N := ⟨_, rfl⟩
  have HN := hide hN
  rw [hN] at HV hNm ⊢
  clear RD hN
  go_enter Tryd.func5, Tryd.ntmps5
  go_wp2_with (go_at_call 7; refine CA.out.mono ?_; rintro e' w1 ⟨rfl, b1⟩)
  clear CA
  go_loop [5] (fun vi => ∃ k : Nat, vi = .int .i64 (k : Int) ∧ k ≤ u.size ∧ Hid (NoCom (u.data.toList.take k))) (fun vi => u.size - (intOf vi).toNat)
  case atStart => exact ⟨0, rfl, Nat.zero_le _, fun c hc => by cases hc⟩
  case round =>
    obtain ⟨k, rfl, hk, HI⟩ := hrel
    by_cases h1 : k < u.size
    · obtain ⟨c, hc⟩ : ∃ c, u[k]'h1 = c := ⟨_, rfl⟩
      obtain ⟨n, hn⟩ : ∃ n, c.toNat = n := ⟨_, rfl⟩
      have hcn : (u[k]'h1).toNat = n := by rw [hc, hn]
      have hn2 : n < 256 := by rw [← hn]; exact c.toNat_lt
      by_cases hx : n = 42 ∨ n = 40 ∨ n = 41
      · clear hc hn HI
        rcases hx with rfl | rfl | rfl
        all_goals
          go_wp2
          go_ret
          exact ⟨rfl, b1⟩
      · have f1 : ((n : Int) == 42) = false := by simp; omega
        have f2 : ((n : Int) == 40) = false := by simp; omega
        have f3 : ((n : Int) == 41) = false := by simp; omega
        have HI2 : Hid (NoCom (u.data.toList.take (k + 1))) := by
          intro d hd
          rw [take_add_one h1, List.mem_append] at hd
          rcases hd with hd | hd
          · exact HI.out d hd
          · obtain rfl : d = u[k] := by simpa using hd
            rw [hcn]; omega
        clear hc hn HI hx
        go_wp2
        go_round
        case rel => exact ⟨k + 1, by go_num, by omega, HI2⟩
        case measure => simp [intOf]; omega
    · have HNC : Hid (NoCom u.data.toList) := by
        have := HI.out
        rwa [List.take_of_length_le (by simp; omega)] at this
      have HV1 := hide (rdT_below HV.out b1)
      clear HI
      go_wp2
      go_loopw [6, 7] (fun vt vi wr => ∃ j : Nat, vi = .int .i64 (j : Int) ∧ j ≤ N ∧ Hid (Own w1.heap.size vt (blankF u.data.toList (l.take j)) wr ∧ (blankF u.data.toList (l.take j)).length ≤ 8388608) ∧ Below w1.heap.size w1 wr) (fun _ vi _ => N - (intOf vi).toNat)
      case atStart => exact ⟨0, rfl, Nat.zero_le _, ⟨own_nil _ _, by simp [blankF]⟩, Below.refl _ _⟩
      case round =>
        obtain ⟨j, rfl, hj, HI, bel⟩ := hrel
        obtain ⟨hown, hlen⟩ := HI.out
        obtain ⟨TL, eTL⟩ : ∃ TL, (blankF u.data.toList (l.take j)).length = TL := ⟨_, rfl⟩
        have ETL := hide eTL
        rw [eTL] at hlen
        obtain ⟨to, tc, hto⟩ := own_slice hown
        subst hto
        rw [eTL] at hown ⊢
        have HOW := hide hown
        have bsz := bel.size
        have B1 := hide (b1.trans (bel.mono b1.size))
        clear HI hown eTL
        by_cases h1 : j < N
        · obtain ⟨ao', cap', hve', _, hc⟩ := (rdT_below HV1.out bel)
          injection hve' with e1 e2 e3
          subst e1 e3
          obtain ⟨g, o, pv, ea, hab, hat⟩ := hc j (by have := HN.out; omega)
          subst ea
          have HD : Hid (l.take (j + 1) = l.take j ++ [l.getD j ITok.zero]) := by
            show _ = _
            have hl : j < l.length := by have := HN.out; omega
            rw [List.take_succ_eq_append_getElem hl]
            simp [List.getD_eq_getElem?_getD, hl]
          generalize l.getD j ITok.zero = t at hat HD
          obtain ⟨tk, tt, tp, tx, ty⟩ := t
          obtain ⟨c0, c1, c2, c3, c4, hrd, htx, hps⟩ := hat
          simp only at c0 c1 c2 c3 c4 hrd htx hps
          obtain ⟨z, hz⟩ : ∃ z : ByteArray, ByteArray.mk tt.toArray = z := ⟨_, rfl⟩
          have hzl : z.data.toList = tt := by rw [← hz]
          have hzs : z.size ≤ 281474976710656 := by rw [← hz, mk_size]; exact htx
          rw [hz] at c1
          obtain ⟨ws, we, hw⟩ : ∃ ws we, writeL tk tt tp = (ws, we) := ⟨_, _, rfl⟩
          have hwl := writeL_len hw
          have CW := hide (fun W (b : Below wr.heap.size wr W) => write_tok tk tx ty z pv tp W (RDh.out.below (B1.out.trans (b.mono B1.out.size))) (rdS_below hrd b) hzs hps)
          rw [hzl, hw] at CW
          obtain ⟨po, pc, hpe, _, _⟩ := hrd
          subst hpe
          generalize tp.length = pl at CW c2
          obtain ⟨wz, hwz⟩ : ∃ wz : ByteArray, ByteArray.mk ws.toArray = wz := ⟨_, rfl⟩
          have hwzl : ws.length = wz.size := by rw [← hwz, mk_size]
          have HWZ : Hid (ws = wz.data.toList) := by show _ = _; rw [← hwz]
          have HW := hide hw
          simp only [hwz] at CW
          rw [hwzl] at hwl
          clear hc e2 hz hzl hzs htx hps hw hwz hwzl
          by_cases he : we = 0
          · subst he
            by_cases hlg : 1048576 < TL
            · have hdc : decide ((1048576 : Int) < (TL : Int)) = true := by simp; omega
              go_wp2_with (go_at_call 10; refine (CW.out _ (Below.refl _ _)).mono ?_; rintro e' w2 ⟨rfl, b2⟩; (have B2 := B1.out.trans (b2.mono B1.out.size)))
              go_ret
              exact ⟨rfl, B2⟩
            · have hdc : decide ((1048576 : Int) < (TL : Int)) = false := by simp; omega
              obtain ⟨pz, hpz⟩ : ∃ pz, partB u wz = pz := ⟨_, rfl⟩
              have hps : pz.size = wz.size + 2 * u.size + 11 := by rw [← hpz, partB_size]
              have hpl : Hid (pz.data.toList = partW u.data.toList wz.data.toList) := by show _ = _; rw [← hpz, partB_list]
              unfold partB at hpz
              have q1 : (⟨#[9]⟩ ++ wz : ByteArray).size = 1 + wz.size := by rw [ByteArray.size_append]; rfl
              have q2 : (⟨#[9]⟩ ++ wz ++ ⟨#[13, 10, 40, 42]⟩ : ByteArray).size = 5 + wz.size := by rw [ByteArray.size_append, q1]; show 1 + wz.size + 4 = _; omega
              have q3 : (⟨#[9]⟩ ++ wz ++ ⟨#[13, 10, 40, 42]⟩ ++ u : ByteArray).size = 5 + wz.size + u.size := by rw [ByteArray.size_append, q2]
              have q4 : (⟨#[9]⟩ ++ wz ++ ⟨#[13, 10, 40, 42]⟩ ++ u ++ ⟨#[40, 42, 42, 41]⟩ : ByteArray).size = 9 + wz.size + u.size := by rw [ByteArray.size_append, q3]; show 5 + wz.size + u.size + 4 = _; omega
              have q5 : (⟨#[9]⟩ ++ wz ++ ⟨#[13, 10, 40, 42]⟩ ++ u ++ ⟨#[40, 42, 42, 41]⟩ ++ u : ByteArray).size = 9 + wz.size + u.size + u.size := by rw [ByteArray.size_append, q4]
              go_wp2_with (first | (go_at_call 10; refine (CW.out _ (Below.refl _ _)).mono ?_; rintro e' w2 ⟨rfl, b2⟩; (have B2 := bel.trans (b2.mono bsz)); (have S2 := B2.size); (have OW := hide (own_row (own_below HOW.out b2) ETL.out))) | (at_builtin; refine Lib.wpList_append_own_string _ rfl _ _ 36 9 rfl w1.heap.size 5 i0 Tryd.underlying36 Tryd.underlying9 hi hz0 hz1 hz2 _ _ _ rfl OW.out pz rfl (by unfold maxLen; omega) (by omega) (by omega) ?_; intro v3 w3 o3 g3 _; (have B3 := B2.grown g3 S2 (fun j hj => (OW.out.lt j hj).1)); (have O3 := hide (own_str ETL.out o3)); clear o3))
              go_roundw
              case rel =>
                refine ⟨j + 1, by go_num, by omega, ⟨?_, ?_⟩, B3⟩
                · rw [HD.out, blankF_snoc, HW.out, HWZ.out, ← hpl.out]
                  exact O3.out
                · rw [HD.out, blankF_snoc, HW.out, HWZ.out, ← hpl.out, List.length_append, ETL.out, size_list]
                  omega
              case measure => simp [intOf]; omega
          · have ge : ((we : Int) != 0) = true := by simp; omega
            go_wp2_with (go_at_call 10; refine (CW.out _ (Below.refl _ _)).mono ?_; rintro e' w2 ⟨rfl, b2⟩; (have B2 := B1.out.trans (b2.mono B1.out.size)))
            go_ret
            exact ⟨rfl, B2⟩
        · have HTK : Hid (l.take j = l) := List.take_of_length_le (by have := HN.out; omega)
          rw [HTK.out] at HOW ETL
          have CJ := hide (join_any _ l wr (RDh.out.below B1.out) (rdT_below HV1.out bel))
          obtain ⟨js, je, hJ⟩ : ∃ js je, joinL l = (js, je) := ⟨_, _, rfl⟩
          rw [hJ] at CJ
          by_cases he : je = 0
          · subst he
            by_cases hlg : 1048576 < TL
            · have hdc : decide ((1048576 : Int) < (TL : Int)) = true := by simp; omega
              obtain ⟨z2, hz2'⟩ : ∃ z : ByteArray, ByteArray.mk js.toArray = z := ⟨_, rfl⟩
              simp only [hz2'] at CJ
              clear hJ hz2'
              go_wp2_with (go_at_call 6; refine CJ.out.mono ?_; rintro e' w4 ⟨he4, b4⟩; (have he5 : e' = .returned (.tuple #[.string z2, .int .i64 0]) := he4); subst he5; clear he4 CJ; (have B4 := B1.out.trans (b4.mono B1.out.size)))
              go_ret
              exact ⟨rfl, B4⟩
            · have hdc : decide ((1048576 : Int) < (TL : Int)) = false := by simp; omega
              obtain ⟨ts1, hsc1, hal1⟩ := join_scan hJ
              obtain ⟨_, ht1, hl1⟩ := scanL_ok hsc1
              have HM1 := hide (good_modest (ht1 ▸ (scan_good (p := (1, 1)) hl1).1))
              have hbs := blank_scan u.data.toList HNC.out l (1, 1) (join_all l _ _ _ _ hJ)
              have hbl : (blankF u.data.toList l).length ≤ 1048576 := by rw [ETL.out]; omega
              have hsc2 : scanL (blankF u.data.toList l) = ((scanP (1, 1) (blankF u.data.toList l)).1, 0, 0, 0) := scanL_eq (by rw [← hbs.1]) hbl
              have HM2 := hide (good_modest (scan_good (p := (1, 1)) hbl).1)
              have HSM := hide (same_two hal1 hbs.2)
              obtain ⟨ts2, hts2⟩ : ∃ ts, (scanP (1, 1) (blankF u.data.toList l)).1 = ts := ⟨_, rfl⟩
              rw [hts2] at hsc2 HM2 HSM
              obtain ⟨z2, hz2'⟩ : ∃ z : ByteArray, ByteArray.mk js.toArray = z := ⟨_, rfl⟩
              have hzl : z2.data.toList = js := by rw [← hz2']
              have hzs : z2.size ≤ 1048576 := by rw [← hz2', mk_size]; exact hl1
              simp only [hz2'] at CJ
              have CS1 := hide (fun (W : World) (R : Rdy W) => scan_any z2 (by omega) W R)
              rw [hzl, hsc1] at CS1
              obtain ⟨z3, hz3⟩ : ∃ z : ByteArray, ByteArray.mk (blankF u.data.toList l).toArray = z := ⟨_, rfl⟩
              have HTZ := hide hz3
              have hzl3 : z3.data.toList = blankF u.data.toList l := by rw [← hz3]
              have hzs3 : z3.size ≤ 1048576 := by rw [← hz3, mk_size]; exact hbl
              have CS2 := hide (fun (W : World) (R : Rdy W) => scan_any z3 (by omega) W R)
              rw [hzl3, hsc2] at CS2
              clear hJ hsc1 hal1 ht1 hl1 hbs hbl hsc2 hts2 hz2' hzl hz3 hzl3
              go_wp2_with (first | (go_at_call 6; refine CJ.out.mono ?_; rintro e' w4 ⟨he4, b4⟩; (have he5 : e' = .returned (.tuple #[.string z2, .int .i64 0]) := he4); subst he5; clear he4 CJ; (have B4 := B1.out.trans (b4.mono B1.out.size))) | (go_at_call 8; refine (CS1.out _ (RDh.out.below B4)).mono ?_; rintro e' w5 ⟨⟨tv5, htv5, hret⟩, b5⟩; (have hret2 : e' = .returned (.tuple #[tv5, .int .i64 0, .int .i64 0, .int .i64 0]) := hret); subst hret2; clear hret; (replace htv5 : TokRow w4.heap.size tv5 ts1 w5 := htv5); (have HR5 := hide (rdT_tok htv5 HM1.out)); (have B5 := B4.trans (b5.mono B4.size)); (have CV := hide (own_string (own_below (own_below HOW.out b4) b5))); clear htv5 CS1; (have hcv := CV.out); rw [HTZ.out] at hcv) | (go_at_call 8; refine (CS2.out _ (RDh.out.below B5)).mono ?_; rintro e' w6 ⟨⟨tv6, htv6, hret⟩, b6⟩; (have hret3 : e' = .returned (.tuple #[tv6, .int .i64 0, .int .i64 0, .int .i64 0]) := hret); subst hret3; clear hret; (replace htv6 : TokRow w5.heap.size tv6 ts2 w6 := htv6); (have HR6 := hide (rdT_tok htv6 HM2.out)); (have HR7 := hide (rdT_below HR5.out b6)); (have B6 := B5.trans (b6.mono B5.size)); clear htv6) | (go_at_call 9; refine (rsame_any _ _ _ _ _ HR7.out HR6.out HSM.out).mono ?_; rintro e' w7 ⟨rfl, b7⟩; (have B7 := B6.trans (b7.mono B6.size))))
              go_ret
              exact ⟨rfl, B7⟩
          · have ge : ((je : Int) != 0) = true := by simp; omega
            obtain ⟨z2, hz2'⟩ : ∃ z : ByteArray, ByteArray.mk js.toArray = z := ⟨_, rfl⟩
            simp only [hz2'] at CJ
            clear hJ hz2' he
            go_wp2_with (go_at_call 6; refine CJ.out.mono ?_; rintro e' w4 ⟨he4, b4⟩; (have he5 : e' = .returned (.tuple #[.string z2, .int .i64 (je : Int)]) := he4); subst he5; clear he4 CJ; (have B4 := B1.out.trans (b4.mono B1.out.size)))
            go_ret
            exact ⟨rfl, B4⟩
end Go.Proofs.YtmeooghcdgpofaaDoor.lexBlanks
