/- The walk of the law LexJoins: it answers true for every row of tokens whose strings have at most 1048576 bytes. -/
import Derived.Test.YtgcbkjfckmjgeaaGreatDoorLexH12
import Derived.Test.YtgcbkjfckmjgeaaGreatDoorLexE8
import Derived.BigQuiet
import Derived.WalkSmall
namespace Go.Proofs.YtgcbkjfckmjgeaaGreatDoor.lexJoins
open Go.ChangeShapes Go.WideShapes Go.ChangeAt Go.RowKit

theorem rdT_below {w w' : World} {v : Value} {l : List ITok} (h : RdT w v l) (b : Below w.heap.size w w') : RdT w' v l := by
  obtain ⟨ao, cap, hv, hm, hc⟩ := h
  refine ⟨ao, cap, hv, hm, fun j hj => ?_⟩
  obtain ⟨g, o, pv, ha, hg, ht⟩ := hc j hj
  exact ⟨g, o, pv, ha, Nat.lt_of_lt_of_le hg b.size, ht.below b hg⟩

set_option maxHeartbeats 16000000 in
set_option maxRecDepth 100000 in
theorem walk (v : Value) (l : List ITok) (w : World) (RD : Rdy w) (hv : RdT w v l) (hsm : ∀ j, j < l.length → SmallT (l.getD j ITok.zero)) :
    Calls Tryz.prog 5 #[v] w fun e w' => e = .returned (.bool true) ∧ Below w.heap.size w w' := by
  have CJ := hide (join_any v l w RD hv)
  have CR := hide (fun W (b : Below w.heap.size w W) => rjoin_any v l W (rdT_below hv b) hsm)
  obtain ⟨ws, we, hw⟩ : ∃ ws we, joinL l = (ws, we) := ⟨_, _, rfl⟩
  rw [hw] at CJ CR
  obtain ⟨wz, hwz⟩ : ∃ wz : ByteArray, ByteArray.mk ws.toArray = wz := ⟨_, rfl⟩
  simp only [hwz] at CJ CR
  have RDh := hide RD
  have CA := hide (fun W (R : Rdy W) => awake_any W R)
  obtain ⟨ao, cap, rfl, hm, hc⟩ := hv
  generalize l.length = L at CJ CR ⊢
  clear RD hm hc hw hwz hsm
  go_enter Tryz.func5, Tryz.ntmps5
  go_wp2_with (first | (go_at_call 14; refine CJ.out.mono ?_; clear CJ; rintro e w1 ⟨rfl, b1⟩) | (go_at_call 15; refine (CR.out _ b1).mono ?_; clear CR; rintro e w2 ⟨rfl, b2⟩; have B2 := b1.trans (b2.mono b1.size)) | (go_at_call 9; refine (CA.out _ (RDh.out.below B2)).mono ?_; rintro e w3 ⟨rfl, b3⟩; have B3 := B2.trans (b3.mono B2.size)))
  go_ret
  exact ⟨rfl, B3⟩
end Go.Proofs.YtgcbkjfckmjgeaaGreatDoor.lexJoins
