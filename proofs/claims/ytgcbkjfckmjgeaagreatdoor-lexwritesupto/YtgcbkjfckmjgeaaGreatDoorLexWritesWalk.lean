/- The walk of the law LexWrites: it answers true for every token whose strings have at most 1048576 bytes. -/
import Derived.Test.YtgcbkjfckmjgeaaGreatDoorLexH12
import Derived.Test.YtgcbkjfckmjgeaaGreatDoorLexE8
import Derived.Test.YtgcbkjfckmjgeaaGreatDoorLexR
import Derived.BigQuiet
import Derived.WalkSmall
import Derived.Deep.MidRow
import Derived.Deep.RegionHeld
import Derived.Deep.RegionHeld3
namespace Go.Proofs.YtgcbkjfckmjgeaaGreatDoor.lexWrites
open Go.ChangeShapes Go.WideShapes Go.ChangeAt Go.RowKit

set_option maxHeartbeats 16000000 in
set_option maxRecDepth 100000 in
theorem walk (k x y : Int) (z : ByteArray) (v : Value) (p : List (List UInt8)) (w : World) (RD : Rdy w) (hv : RdS w v p) (hz : z.size ≤ 1048576) (hp : ∀ j, j < p.length → (p.getD j []).length ≤ 1048576) :
    Calls Tryz.prog 4 #[.agg #[.int .i64 k, .string z, v, .int .i64 x, .int .i64 y]] w fun e w' => e = .returned (.bool true) ∧ Below w.heap.size w w' := by
  have CW := hide (fun W (b : Below w.heap.size w W) => write_tok k x y z v p W (RD.below b) (rdS_below hv b) (by omega) (fun j hj => Nat.le_trans (hp j hj) (by decide)))
  have CR := hide (fun W (b : Below w.heap.size w W) => rwrite_any k x y z v p W (rdS_below hv b) hz hp)
  obtain ⟨ws, we, hw⟩ : ∃ ws we, writeL k z.data.toList p = (ws, we) := ⟨_, _, rfl⟩
  have hwl := writeL_len hw
  rw [hw] at CW CR
  obtain ⟨wz, hwz⟩ : ∃ wz : ByteArray, ByteArray.mk ws.toArray = wz := ⟨_, rfl⟩
  simp only [hwz] at CW CR
  have CD := hide (fun W => dreserved_any z W)
  have CRS := hide (fun W => reserved_any z W)
  have e0 : resB z = resL z.data.toList := rfl
  rw [e0] at CRS
  obtain ⟨rb, hrb⟩ : ∃ rb, resL z.data.toList = rb := ⟨_, rfl⟩
  rw [hrb] at CD CRS
  have RDh := hide RD
  have CA := hide (fun W (R : Rdy W) => awake_any W R)
  obtain ⟨ao, cap, rfl, hm, hc⟩ := hv
  obtain ⟨L, hL⟩ : ∃ L, p.length = L := ⟨_, rfl⟩
  rw [hL] at CW CR ⊢
  have B0 := (Below.refl w.heap.size w).alloc (Nat.le_refl _) (.cells #[.int .i64 k, .string z, .slice ao L cap, .int .i64 x, .int .i64 y] 34)
  obtain ⟨W0, hW0⟩ : ∃ W0, w.alloc (.cells #[.int .i64 k, .string z, .slice ao L cap, .int .i64 x, .int .i64 y] 34) = W0 := ⟨_, rfl⟩
  have hW0s : W0.heap.size = w.heap.size + 1 := by rw [← hW0]; simp
  have F0 := five_new w (.int .i64 k) (.string z) (.slice ao L cap) (.int .i64 x) (.int .i64 y)
  rw [hW0] at B0 F0
  have HB0 := hide B0
  have HF0 := hide F0
  clear RD hm hc hL hw hwz hrb e0 B0
  go_enter Tryz.func4, Tryz.ntmps4
  go_upto_region 1 with fail
  try rw [hW0]
  clear hW0
  obtain ⟨c0, c1, c2, c3, c4, f0, f1, f2, f3, f4⟩ := F0
  go_upto_region 2 with (go_at_call 10; refine (CW.out _ HB0.out).mono ?_; clear CW; rintro e w1 ⟨rfl, b1⟩)
  clear c0 c1 c2 c3 c4 f0 f1 f2 f3 f4
  have B1 : Below w.heap.size w w1 := HB0.out.trans (b1.mono (by omega))
  have F1 := HF0.out.below b1 (by omega)
  obtain ⟨c0, c1, c2, c3, c4, f0, f1, f2, f3, f4⟩ := F1
  go_upto_region 3 with (go_at_call 11; refine (CR.out _ B1).mono ?_; clear CR; rintro e w2 ⟨rfl, b2⟩)
  clear c0 c1 c2 c3 c4 f0 f1 f2 f3 f4
  have S1 := b1.size
  have S2 := b2.size
  have B2 : Below w.heap.size w w2 := B1.trans (b2.mono (by omega))
  have F2 := (HF0.out.below b1 (by omega)).below b2 (by omega)
  have hws : w.heap.size < w2.heap.size := by omega
  have HB2 := hide B2
  clear b1 b2 B1 B2 HB0 HF0
  obtain ⟨c0, c1, c2, c3, c4, f0, f1, f2, f3, f4⟩ := F2
  clear c0 c2 c3 c4 f0 f1 f2 f3 f4
  go_region_held3 (fun w' => w'.cell? ⟨w.heap.size, 1, none⟩ = some (.string z)) (go_keep) (first
    | (go_at_call 12; refine (CD.out _).mono ?_; rintro e w5 ⟨rfl, h3⟩; replace h3 := h3.symm; subst h3)
    | (go_at_call 13; refine (CRS.out _).mono ?_; rintro e w3 ⟨rfl, b3⟩; have m1 := (b3.cell (p := ⟨w.heap.size, 1, none⟩) (show w.heap.size < _ from hws)).trans c1; (have B3 : Below w.heap.size w w3 := HB2.out.trans (((Below.refl _ _).drew.trans b3).mono (Nat.le_of_lt hws))); (have hw3 : w.heap.size < w3.heap.size := Nat.lt_of_lt_of_le hws b3.size))
    | (go_at_call 9; refine (CA.out _ (RDh.out.below B3)).mono ?_; rintro e w4 ⟨rfl, b4⟩; have m2 := (b4.cell (p := ⟨w.heap.size, 1, none⟩) (show w.heap.size < _ from hw3)).trans m1; have B4 := B3.trans (b4.mono (Nat.le_of_lt hw3))))
  go_wp2
  go_ret
  exact ⟨rfl, B4⟩
end Go.Proofs.YtgcbkjfckmjgeaaGreatDoor.lexWrites
