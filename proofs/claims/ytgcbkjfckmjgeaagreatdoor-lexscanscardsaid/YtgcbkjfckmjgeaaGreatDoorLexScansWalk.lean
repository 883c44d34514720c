/- The walk of the law LexScans: it answers true for every text. -/
import Derived.Test.YtgcbkjfckmjgeaaGreatDoorLexQ3
import Derived.Test.YtgcbkjfckmjgeaaGreatDoorLexF2
import Derived.Test.YtgcbkjfckmjgeaaGreatDoorLexH9
import Derived.Test.YtgcbkjfckmjgeaaGreatDoorLexH10
import Derived.BigQuiet
import Derived.WalkSmall
namespace Go.Proofs.YtgcbkjfckmjgeaaGreatDoor.lexScans
open Go.ChangeShapes Go.WideShapes Go.ChangeAt Go.RowKit

theorem rdT_below {w w' : World} {v : Value} {l : List ITok} (h : RdT w v l) (b : Below w.heap.size w w') : RdT w' v l := by
  obtain ⟨ao, cap, hv, hm, hc⟩ := h
  refine ⟨ao, cap, hv, hm, fun j hj => ?_⟩
  obtain ⟨g, o, pv, ha, hg, ht⟩ := hc j hj
  exact ⟨g, o, pv, ha, Nat.lt_of_lt_of_le hg b.size, ht.below b hg⟩
theorem scan_modest (l : List UInt8) : Modest (scanL l).1 := by
  unfold scanL
  by_cases h : 1048576 < l.length
  · rw [if_pos h]; intro t ht; cases ht
  · rw [if_neg h]
    cases (scanP (1, 1) l).2 with
    | none => exact good_modest (scan_good (by omega)).1
    | some r => obtain ⟨x, y, e⟩ := r; intro t ht; cases ht
theorem same_self : ∀ (l : List ITok), sameI true l l = true
  | [] => rfl
  | a :: r => by
    show (alikeI a a && (!true || _) && sameI true r r) = true
    rw [same_self r]
    simp [alikeI]

set_option maxHeartbeats 16000000 in
set_option maxRecDepth 100000 in
theorem walk (s : ByteArray) (hs : s.size ≤ 140737488351232) (w : World) (RD : Rdy w) :
    Calls Tryz.prog 3 #[.string s] w fun e w' => e = .returned (.bool true) ∧ Below w.heap.size w w' := by
  have CS := hide (scan_any s (by omega) w RD)
  have CR := hide (fun W => rscan_any rone_any s (by omega) W)
  have HMO := hide (scan_modest s.data.toList)
  obtain ⟨Sc, hSc⟩ : ∃ Sc, scanL s.data.toList = Sc := ⟨_, rfl⟩
  rw [hSc] at CS CR HMO
  obtain ⟨l, x, y, e⟩ := Sc
  have HM : Hid (Modest l) := HMO.out
  have RDh := hide RD
  have CA := hide (fun W (R : Rdy W) => awake_any W R)
  have CSM := hide (fun W v1 v2 h1 h2 => rsame_all v1 v2 (l.map Tok.toI) (l.map Tok.toI) W h1 h2 (same_self _))
  clear RD HMO hSc
  go_enter Tryz.func3, Tryz.ntmps3
  go_wp2_with (first | (go_at_call 6; refine CS.out.mono ?_; rintro e' w1 ⟨⟨tv, htv, hret⟩, b1⟩; (have hret2 : e' = .returned (.tuple #[tv, .int .i64 (x : Int), .int .i64 (y : Int), .int .i64 (e : Int)]) := hret); subst hret2; clear hret CS; (replace htv : TokRow w.heap.size tv l w1 := htv); (have HRT := hide (rdT_tok htv HM.out)); clear htv) | (go_at_call 7; refine (CR.out _).mono ?_; rintro e' w2 ⟨⟨tv2, htv, hret⟩, b2⟩; (have hret2 : e' = .returned (.tuple #[tv2, .int .i64 (x : Int), .int .i64 (y : Int), .int .i64 (e : Int)]) := hret); subst hret2; clear hret CR; (replace htv : TokRow w1.heap.size tv2 l w2 := htv); (have HRT2 := hide (rdT_tok htv HM.out)); clear htv; (have HRT1 := hide (rdT_below HRT.out b2)); have B2 := b1.trans (b2.mono b1.size)) | (go_at_call 8; refine (CSM.out _ _ _ HRT1.out HRT2.out).mono ?_; rintro e' w3 ⟨rfl, b3⟩; have B3 := B2.trans (b3.mono B2.size)) | (go_at_call 9; refine (CA.out _ (RDh.out.below B3)).mono ?_; rintro e' w4 ⟨rfl, b4⟩; have B4 := B3.trans (b4.mono B3.size)))
  go_ret
  exact ⟨rfl, B4⟩
end Go.Proofs.YtgcbkjfckmjgeaaGreatDoor.lexScans
