/- The walk of the law LexBack: it answers true for every row of tokens. -/
import Derived.Test.YtmeooghcdgpofaaDoorLexQ3
import Derived.Test.YtmeooghcdgpofaaDoorLexF1
import Derived.BigQuiet
import Derived.WalkSmall
namespace Go.Proofs.YtmeooghcdgpofaaDoor.lexBack
open Go.ChangeShapes Go.WideShapes Go.ChangeAt Go.RowKit

theorem rdT_below {w w' : World} {v : Value} {l : List ITok} (h : RdT w v l) (b : Below w.heap.size w w') : RdT w' v l := by
  obtain ⟨ao, cap, hv, hm, hc⟩ := h
  refine ⟨ao, cap, hv, hm, fun j hj => ?_⟩
  obtain ⟨g, o, pv, ha, hg, ht⟩ := hc j hj
  exact ⟨g, o, pv, ha, Nat.lt_of_lt_of_le hg b.size, ht.below b hg⟩
theorem same_of : ∀ {ts : List Tok} {l : List ITok}, AlikeL ts l → sameI false l (ts.map Tok.toI) = true
  | [], [], _ => rfl
  | a :: r, b :: s, h => by
    obtain ⟨⟨h1, h2, h3⟩, h4⟩ := h
    show (alikeI b a.toI && (!false || _) && sameI false s (r.map Tok.toI)) = true
    rw [same_of h4]
    simp [alikeI, Tok.toI, h1, h2, h3]
  | [], _ :: _, h => h.elim
  | _ :: _, [], h => h.elim
theorem joinF_err : ∀ (l : List ITok) (lng : Bool) (acc gap s : List UInt8) (e : Nat), joinF lng acc gap l = (s, e) → e ≠ 0 → s = [] := by
  intro l
  induction l with
  | nil =>
    intro lng acc gap s e h he
    rw [joinF_nil] at h
    split at h
    · exact (congrArg Prod.fst h).symm
    · exact absurd (congrArg Prod.snd h).symm he
  | cons t r ih =>
    intro lng acc gap s e h he
    obtain ⟨x, e', hw⟩ : ∃ x e, writeL t.kind t.text t.path = (x, e) := ⟨_, _, rfl⟩
    rw [joinF_cons _ _ _ _ _ x e' hw] at h
    split at h
    · exact (congrArg Prod.fst h).symm
    · split at h
      · exact ih _ _ _ _ _ h he
      · exact ih _ _ _ _ _ h he

set_option maxHeartbeats 16000000 in
set_option maxRecDepth 100000 in
theorem walk (v : Value) (l : List ITok) (w : World) (RD : Rdy w) (hv : RdT w v l) :
    Calls Tryd.prog 3 #[v] w fun e w' => e = .returned (.bool true) ∧ Below w.heap.size w w' := by
  have CJ := hide (join_any v l w RD hv)
  obtain ⟨js, je, hJ⟩ : ∃ js je, joinL l = (js, je) := ⟨_, _, rfl⟩
  rw [hJ] at CJ
  have HV := hide hv
  have RDh := hide RD
  have CA := hide (fun W (R : Rdy W) => awake_any W R)
  obtain ⟨ao, cap, hve, _, _⟩ := hv
  subst hve
  obtain ⟨N, hN⟩ : ∃ N, l.length = N := ⟨_, rfl⟩
  rw [hN] at CJ HV ⊢
  clear RD hN
  by_cases he : je = 0
  · subst he
    obtain ⟨ts2, hsc2, hal⟩ := join_scan hJ
    obtain ⟨_, ht2, hl2⟩ := scanL_ok hsc2
    have hm2 := good_modest (ht2 ▸ (scan_good (p := (1, 1)) hl2).1)
    have HM2 := hide hm2
    have HSM := hide (same_of hal)
    obtain ⟨z2, hz2⟩ : ∃ z : ByteArray, ByteArray.mk js.toArray = z := ⟨_, rfl⟩
    have hzl : z2.data.toList = js := by rw [← hz2]
    have hzs : z2.size ≤ 1048576 := by rw [← hz2, mk_size]; exact hl2
    simp only [hz2] at CJ
    have CS2 := hide (fun (W : World) (R : Rdy W) => scan_any z2 (by omega) W R)
    rw [hzl, hsc2] at CS2
    clear hJ hsc2 hal ht2 hm2 hz2 hzl hl2
    go_enter Tryd.func3, Tryd.ntmps3
    go_wp2_with (first | (go_at_call 6; refine CJ.out.mono ?_; rintro e' w4 ⟨he4, b4⟩; (have he5 : e' = .returned (.tuple #[.string z2, .int .i64 0]) := he4); subst he5; clear he4 CJ) | (go_at_call 7; refine (CA.out _ (RDh.out.below b4)).mono ?_; rintro e' w3 ⟨rfl, b3⟩; (have B4 := b4.trans (b3.mono b4.size))) | (go_at_call 8; refine (CS2.out _ (RDh.out.below B4)).mono ?_; rintro e' w5 ⟨⟨tv5, htv5, hret⟩, b5⟩; (have hret2 : e' = .returned (.tuple #[tv5, .int .i64 0, .int .i64 0, .int .i64 0]) := hret); subst hret2; clear hret; (replace htv5 : TokRow w3.heap.size tv5 ts2 w5 := htv5); (have HR5 := hide (rdT_tok htv5 HM2.out)); (have B5 := B4.trans (b5.mono B4.size)); (have HR4 := hide (rdT_below HV.out B5)); clear htv5) | (go_at_call 9; refine (rsame_any _ _ _ _ _ HR4.out HR5.out HSM.out).mono ?_; rintro e' w6 ⟨rfl, b6⟩; (have B6 := B5.trans (b6.mono B5.size))))
    go_ret
    exact ⟨rfl, B6⟩
  · obtain rfl := joinF_err _ _ _ _ _ _ hJ he
    have ge : ((je : Int) != 0) = true := by simp; omega
    clear he hJ
    go_enter Tryd.func3, Tryd.ntmps3
    go_wp2_with (first | (go_at_call 6; refine CJ.out.mono ?_; rintro e' w4 ⟨he4, b4⟩; (have he5 : e' = .returned (.tuple #[.string ⟨#[]⟩, .int .i64 (je : Int)]) := he4); subst he5; clear he4 CJ) | (go_at_call 7; refine (CA.out _ (RDh.out.below b4)).mono ?_; rintro e' w3 ⟨rfl, b3⟩; (have B4 := b4.trans (b3.mono b4.size))))
    go_ret
    exact ⟨rfl, B4⟩
end Go.Proofs.YtmeooghcdgpofaaDoor.lexBack
