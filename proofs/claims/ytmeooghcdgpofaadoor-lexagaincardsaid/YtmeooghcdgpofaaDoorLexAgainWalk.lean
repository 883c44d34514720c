/- The walk of the law LexAgain: it answers true for every text. -/
import Derived.Test.YtmeooghcdgpofaaDoorLexQ3
import Derived.Test.YtmeooghcdgpofaaDoorLexF1
import Derived.BigQuiet
import Derived.WalkSmall
namespace Go.Proofs.YtmeooghcdgpofaaDoor.lexAgain
open Go.ChangeShapes Go.WideShapes Go.ChangeAt Go.RowKit

theorem rdT_below {w w' : World} {v : Value} {l : List ITok} (h : RdT w v l) (b : Below w.heap.size w w') : RdT w' v l := by
  obtain ⟨ao, cap, hv, hm, hc⟩ := h
  refine ⟨ao, cap, hv, hm, fun j hj => ?_⟩
  obtain ⟨g, o, pv, ha, hg, ht⟩ := hc j hj
  exact ⟨g, o, pv, ha, Nat.lt_of_lt_of_le hg b.size, ht.below b hg⟩
theorem same_of : ∀ {ts : List Tok} {l : List ITok}, AlikeL ts l → sameI false l (ts.map Tok.toI) = true
  | [], [], _ => rfl
  | a :: r, b :: s, h => by
    obtain ⟨⟨h1, h2, h3⟩, h4⟩ := h
    show (alikeI b a.toI && (!false || _) && sameI false s (r.map Tok.toI)) = true
    rw [same_of h4]
    simp [alikeI, Tok.toI, h1, h2, h3]
  | [], _ :: _, h => h.elim
  | _ :: _, [], h => h.elim
/-- Two tokens side by side, as they lie in memory. -/
theorem rdT_two {w : World} {ao : Option Addr} {n cap : Nat} {l : List Tok} (h : RdT w (.slice ao n cap) (l.map Tok.toI)) (hr : Rise (1, 1) l) {j i : Nat} (hji : j + 1 = i) (hi : i < n) : ∃ (g o : Nat) (x1 y1 x2 y2 : Int), ao = some ⟨g, o, none⟩ ∧ g < w.heap.size
    ∧ w.cell? ⟨g, o + j * 5 + 3, none⟩ = some (.int .i64 x1) ∧ w.cell? ⟨g, o + j * 5 + 4, none⟩ = some (.int .i64 y1) ∧ w.cell? ⟨g, o + i * 5 + 3, none⟩ = some (.int .i64 x2) ∧ w.cell? ⟨g, o + i * 5 + 4, none⟩ = some (.int .i64 y2) ∧ (x1 < x2 ∨ (x1 = x2 ∧ y1 < y2)) := by
  obtain ⟨ao', cap', hv, hm, hc⟩ := h
  injection hv with e1 e2 e3
  subst e1 e3
  rw [List.length_map] at e2 hc
  obtain ⟨g, o, pv, ha, hg, ht⟩ := hc j (by omega)
  obtain ⟨g', o', pv', ha', _, ht'⟩ := hc i (by omega)
  rw [ha] at ha'
  injection ha' with ha'
  injection ha' with e4 e5
  subst e4 e5
  have hj : j < l.length := by omega
  have hi' : i < l.length := by omega
  have t1 : (l.map Tok.toI).getD j ITok.zero = (l[j]).toI := by simp [List.getD_eq_getElem?_getD, hj]
  have t2 : (l.map Tok.toI).getD i ITok.zero = (l[i]).toI := by simp [List.getD_eq_getElem?_getD, hi']
  rw [t1] at ht
  rw [t2] at ht'
  refine ⟨g, o, ((l[j]).line : Int), ((l[j]).column : Int), ((l[i]).line : Int), ((l[i]).column : Int), ha, hg, ht.c3, ht.c4, ht'.c3, ht'.c4, ?_⟩
  have := hr.at (i := j) (a := l[j]) (b := l[i]) (by simp [hj]) (by rw [hji]; simp [hi'])
  unfold ltP at this
  simp only at this
  omega

set_option maxHeartbeats 16000000 in
set_option maxRecDepth 100000 in
theorem walk (s : ByteArray) (hs : s.size ≤ 140737488351232) (w : World) (RD : Rdy w) :
    Calls Tryd.prog 4 #[.string s] w fun e w' => e = .returned (.bool true) ∧ Below w.heap.size w w' := by
  have CS := hide (scan_any s (by omega) w RD)
  obtain ⟨Sc, hSc⟩ : ∃ Sc, scanL s.data.toList = Sc := ⟨_, rfl⟩
  rw [hSc] at CS
  obtain ⟨l, x, y, e⟩ := Sc
  have RDh := hide RD
  have CA := hide (fun W (R : Rdy W) => awake_any W R)
  clear RD
  by_cases he : e = 0
  · subst he
    obtain ⟨hgood, hrise, hjoin⟩ := join_again hSc
    rw [size_list] at hjoin
    have HM := hide (good_modest hgood)
    have HRI := hide hrise
    have HJ := hide hjoin
    obtain ⟨N, hN⟩ : ∃ N, (l.map Tok.toI).length = N := ⟨_, rfl⟩
    have HN := hide hN
    clear hSc hgood hrise hjoin hN
    go_enter Tryd.func4, Tryd.ntmps4
    go_wp2_with (first | (go_at_call 8; refine CS.out.mono ?_; rintro e' w1 ⟨⟨tv, htv, hret⟩, b1⟩; (have hret2 : e' = .returned (.tuple #[tv, .int .i64 (x : Int), .int .i64 (y : Int), .int .i64 0]) := hret); subst hret2; clear hret CS; (replace htv : TokRow w.heap.size tv l w1 := htv); (have hrt := rdT_tok htv HM.out); (obtain ⟨ao, cap, htt, hlm, _⟩ := hrt); (have HRT := hide (rdT_tok htv HM.out)); clear htv; rw [HN.out] at htt hlm; subst htt) | (go_at_call 7; refine (CA.out _ (RDh.out.below b1)).mono ?_; rintro e' w2 ⟨rfl, b2⟩; (have B2 := b1.trans (b2.mono b1.size)); (have HR2 := hide (rdT_below HRT.out b2)); clear HRT))
    go_loopw [7] (fun vi wr => ∃ i : Nat, vi = .int .i64 (i : Int) ∧ 1 ≤ i ∧ i ≤ 9223372036854775807 ∧ Below w2.heap.size w2 wr) (fun vi _ => N - (intOf vi).toNat)
    case atStart => exact ⟨1, rfl, Nat.le_refl _, by decide, Below.refl _ _⟩
    case round =>
      obtain ⟨i, rfl, hi1, him, bel⟩ := hrel
      have HR3 := hide (rdT_below HR2.out bel)
      by_cases hiN : i < N
      · obtain ⟨j, hji⟩ : ∃ j, j + 1 = i := ⟨i - 1, by omega⟩
        obtain ⟨g, o, x1, y1, x2, y2, ea, hg, d1, d2, d3, d4, hlt⟩ := rdT_two HR3.out HRI.out hji hiN
        subst ea
        have hii : (i : Int) - 1 = (j : Int) := by omega
        have hjN : j < N := by omega
        have f1 : decide (x2 < x1) = false := by simp; omega
        clear HR3
        by_cases hx : x1 = x2
        · subst hx
          have f3 : decide (y2 ≤ y1) = false := by simp; omega
          clear hlt hji
          go_wp2
          go_quiet (fail)
          go_wp2
          go_roundw
          case rel => exact ⟨i + 1, by go_num, by omega, by omega, below_drewN bel _⟩
          case measure => simp [intOf]; omega
        · have f2 : (x2 == x1) = false := by simp; omega
          clear hlt hji hx
          go_wp2
          go_quiet (fail)
          go_wp2
          go_roundw
          case rel => exact ⟨i + 1, by go_num, by omega, by omega, below_drewN bel _⟩
          case measure => simp [intOf]; omega
      · have B3 := B2.trans (bel.mono B2.size)
        have CJ := hide (join_any _ (l.map Tok.toI) wr (RDh.out.below B3) HR3.out)
        have HJ2 := HJ.out
        clear HJ
        rcases HJ2 with ⟨s2, hs2⟩ | ⟨hs2, hlen⟩
        · obtain ⟨ts2, hsc2, hal⟩ := join_scan hs2
          obtain ⟨_, ht2, hl2⟩ := scanL_ok hsc2
          have hm2 := good_modest (ht2 ▸ (scan_good (p := (1, 1)) hl2).1)
          have HM2 := hide hm2
          have HSM := hide (same_of hal)
          rw [hs2] at CJ
          obtain ⟨z2, hz2⟩ : ∃ z : ByteArray, ByteArray.mk s2.toArray = z := ⟨_, rfl⟩
          have hzl : z2.data.toList = s2 := by rw [← hz2]
          have hzs : z2.size ≤ 1048576 := by rw [← hz2, mk_size]; exact hl2
          simp only [hz2] at CJ
          have CS2 := hide (fun (W : World) (R : Rdy W) => scan_any z2 (by omega) W R)
          rw [hzl, hsc2] at CS2
          clear hs2 hsc2 hal ht2 hm2 hz2 hzl hl2
          go_wp2_with (first | (go_at_call 6; refine CJ.out.mono ?_; rintro e' w4 ⟨he4, b4⟩; (have he5 : e' = .returned (.tuple #[.string z2, .int .i64 0]) := he4); subst he5; clear he4; (have B4 := B3.trans (b4.mono B3.size))) | (go_at_call 8; refine (CS2.out _ (RDh.out.below B4)).mono ?_; rintro e' w5 ⟨⟨tv5, htv5, hret⟩, b5⟩; (have hret2 : e' = .returned (.tuple #[tv5, .int .i64 0, .int .i64 0, .int .i64 0]) := hret); subst hret2; clear hret; (replace htv5 : TokRow w4.heap.size tv5 ts2 w5 := htv5); (have HR5 := hide (rdT_tok htv5 HM2.out)); (have HR4 := hide (rdT_below (rdT_below HR3.out b4) b5)); (have B5 := B4.trans (b5.mono B4.size)); clear htv5) | (go_at_call 9; refine (rsame_any _ _ _ _ _ HR4.out HR5.out HSM.out).mono ?_; rintro e' w6 ⟨rfl, b6⟩; (have B6 := B5.trans (b6.mono B5.size))))
          go_ret
          exact ⟨rfl, B6⟩
        · rw [hs2] at CJ
          have hdc : decide ((209715 : Int) < (s.size : Int)) = true := by simp; omega
          clear hs2
          go_wp2_with (go_at_call 6; refine CJ.out.mono ?_; rintro e' w4 ⟨he4, b4⟩; (have he5 : e' = .returned (.tuple #[.string ⟨#[]⟩, .int .i64 2]) := he4); subst he5; clear he4; (have B4 := B3.trans (b4.mono B3.size)))
          go_ret
          exact ⟨rfl, B4⟩
  · have ge : ((e : Int) != 0) = true := by simp; omega
    have hl : l = [] := by
      unfold scanL at hSc
      split at hSc
      · simp only [Prod.mk.injEq] at hSc; exact hSc.1.symm
      · split at hSc
        · simp only [Prod.mk.injEq] at hSc; omega
        · simp only [Prod.mk.injEq] at hSc; exact hSc.1.symm
    subst hl
    clear he hSc
    go_enter Tryd.func4, Tryd.ntmps4
    go_wp2_with (first | (go_at_call 8; refine CS.out.mono ?_; rintro e' w1 ⟨⟨tv, htv, hret⟩, b1⟩; (have hret2 : e' = .returned (.tuple #[tv, .int .i64 (x : Int), .int .i64 (y : Int), .int .i64 (e : Int)]) := hret); subst hret2; clear hret CS; (obtain ⟨to, tc, htt⟩ := tokRow_slice htv); subst htt; clear htv; rw [show (([] : List Tok), x, y, e).1.length = 0 from rfl]) | (go_at_call 7; refine (CA.out _ (RDh.out.below b1)).mono ?_; rintro e' w2 ⟨rfl, b2⟩; have B2 := b1.trans (b2.mono b1.size)))
    go_ret
    exact ⟨rfl, B2⟩
end Go.Proofs.YtmeooghcdgpofaaDoor.lexAgain
