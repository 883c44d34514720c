/- The document's side: the shortest digits. -/
import Derived.Test.YtbengmceiaejeaaGreatDoorFtR7
namespace Go.Proofs.YtbengmceiaejeaaGreatDoor
open Go.ChangeShapes Go.WideShapes Go.ChangeAt Go.RowKit

def decR (c : Nat) (s : Int) : Nat := if 0 ≤ s then nearR (c * 10 ^ s.toNat) 0 else downR c (10 ^ (-s).toNat) (blen (10 ^ (-s).toNat) + 128)

theorem decimal_any (v : Value) (c : Nat) (s : Int) (w : World) (hv : IsAmt w v c) (hc : c < 2 ^ 100) (hs : -400 ≤ s ∧ s ≤ 400) :
    Calls Tryz.prog 50 #[v, .int .i64 s] w fun e w' => e = .returned (.int .u64 ((decR c s : Nat) : Int)) ∧ Below w.heap.size w w' := by
  unfold decR
  by_cases h : 0 ≤ s
  · obtain ⟨a, ea⟩ : ∃ a : Nat, s = (a : Int) := ⟨s.toNat, by omega⟩
    subst ea
    rw [if_pos h, Int.toNat_natCast]
    exact decimal_up v c a w hv hc (by omega)
  · obtain ⟨a, ea⟩ : ∃ a : Nat, s = -(a : Int) := ⟨(-s).toNat, by omega⟩
    subst ea
    have e3 : (- -(a : Int)).toNat = a := by omega
    rw [if_neg h, e3]
    exact decimal_down v c a w hv hc (by omega) (by omega)

def kAt (M : Nat) (P s : Int) : Nat := M * 2 ^ P.toNat * 10 ^ (-s).toNat / (1 * 2 ^ (-P).toNat * 10 ^ s.toNat)

def nearP (k M : Nat) (s P : Int) : Nat := if 0 < nearC k M s P ∨ (nearC k M s P = 0 ∧ k % 2 = 0) then k else k + 1

/-- What is taken at a place, if anything is. -/
def takeP (u M : Nat) (P s : Int) : Nat :=
  if decR (kAt M P s) s = u ∧ decR (kAt M P s + 1) s = u then nearP (kAt M P s) M s P
  else if decR (kAt M P s + 1) s = u then kAt M P s + 1 else kAt M P s

theorem add_one (v : Value) (k : Nat) (wr : World) (hv : IsAmt wr v k) (hk : k < 2 ^ 60) (t : TypeId) :
    Calls Tryz.prog 49 #[v, .slice (some ⟨wr.heap.size, 0, none⟩) 1 1] (wr.alloc (.cells #[.int .u16 1] t)) fun e w' => ∃ a, e = .returned a ∧ IsAmt w' a (k + 1) ∧ Below wr.heap.size wr w' :=
  (addD_any v _ k 1 _ (hv.below ((Below.refl _ _).alloc (Nat.le_refl _) _)) (amt_one wr t) (big_of hk (by omega)) (big_of (a := 4) (by decide) (by omega))).mono
    fun _ _ ⟨a, h1, h2, _, h4⟩ => ⟨a, h1, h2, ((Below.refl _ _).alloc (Nat.le_refl _) _).trans (h4.mono (by simp))⟩

/-- What is told of digits that may be a power of 10. -/
def toldD (p N : Nat) : List UInt8 := if N < (Lib.decDigits p).length then (Lib.decDigits p).take 1 else Lib.decDigits p
def toldE (p N : Nat) (E : Int) : Int := if N < (Lib.decDigits p).length then E + 1 else E

theorem dec_pos (p : Nat) : 1 ≤ (Lib.decDigits p).length := by
  rw [Lib.decDigits]
  split <;> simp

theorem dec_le {p : Nat} (h : p < 4611686018427387904) : (Lib.decDigits p).length ≤ 4611686018427387905 := by
  have h2 : ∀ u, (Lib.decDigits u).length ≤ u + 1 := by
    intro u
    induction u using Nat.strongRecOn with
    | _ u ih =>
      rw [Lib.decDigits]
      split
      · simp
      · have := ih (u / 10) (by omega)
        simp
        omega
  have := h2 p
  omega

theorem take_bytes {l : List UInt8} {A : ByteArray} (e : (⟨l.toArray⟩ : ByteArray) = A) : (⟨(l.take 1).toArray⟩ : ByteArray) = A.extract 0 1 := by
  refine Eq.symm (ba_of ?_)
  rw [ba_cut, ← e]
  simp

set_option maxHeartbeats 4000000 in
theorem rshort_any (u M N : Nat) (P E : Int) (hM0 : 0 < M) (hM : M < 2 ^ 60) (hp : -1200 ≤ P ∧ P ≤ 1200) (hE : -370 ≤ E ∧ E ≤ 370) (w : World)
    (OF : Calls Tryz.prog 46 #[.int .u64 (u : Int)] w fun e w' => ∃ xa xl xc, e = .returned (.agg #[.bool false, .slice xa xl xc, .int .i64 P]) ∧ IsAmt w' (.slice xa xl xc) M ∧ Below w.heap.size w w')
    (PW : ∀ xa xl xc w1, IsAmt w1 (.slice xa xl xc) M → Calls Tryz.prog 47 #[.agg #[.bool false, .slice xa xl xc, .int .i64 P]] w1 fun e w' => e = .returned (.int .i64 E) ∧ Below w1.heap.size w1 w')
    (hN : 1 ≤ N ∧ N ≤ 17)
    (hk : ∀ n : Nat, 1 ≤ n → n ≤ N → kAt M P (E - n) < 2 ^ 60)
    (hno : ∀ n : Nat, 1 ≤ n → n < N → decR (kAt M P (E - n)) (E - n) ≠ u ∧ decR (kAt M P (E - n) + 1) (E - n) ≠ u)
    (hyes : decR (kAt M P (E - N)) (E - N) = u ∨ decR (kAt M P (E - N) + 1) (E - N) = u)
    (hpos : 0 < takeP u M P (E - N)) :
    Calls Tryz.prog 21 #[.int .u64 (u : Int)] w fun e w' => e = .returned (.tuple #[.string ⟨(toldD (takeP u M P (E - N)) N).toArray⟩, .int .i64 (toldE (takeP u M P (E - N)) N E)]) ∧ Below w.heap.size w w' := by
  have CU : ∀ xa xl xc s w1, -400 ≤ s ∧ s ≤ 400 → IsAmt w1 (.slice xa xl xc) M → Calls Tryz.prog 48 #[.agg #[.bool false, .slice xa xl xc, .int .i64 P], .int .i64 s] w1 fun e w' => ∃ v, e = .returned v ∧ IsAmt w' v (kAt M P s) ∧ Below w1.heap.size w1 w' := fun xa xl xc s w1 hs h => rcut_any xa xl xc M s P false w1 h (by omega) hs hp
  have NE : ∀ xa xl xc a l c k s w1, -400 ≤ s ∧ s ≤ 400 → k < 2 ^ 60 → IsAmt w1 (.slice a l c) k → IsAmt w1 (.slice xa xl xc) M → Calls Tryz.prog 51 #[.slice a l c, .int .i64 s, .agg #[.bool false, .slice xa xl xc, .int .i64 P]] w1 fun e w' => ∃ v, e = .returned v ∧ IsAmt w' v (nearP k M s P) ∧ Below w1.heap.size w1 w' := fun xa xl xc a l c k s w1 hs hk h1 h2 => nearer_any a l c xa xl xc k M s P false w1 h1 h2 hk hM0 hM hs hp
  have DE : ∀ v c s w1, -400 ≤ s ∧ s ≤ 400 → c < 2 ^ 61 → IsAmt w1 v c → Calls Tryz.prog 50 #[v, .int .i64 s] w1 fun e w' => e = .returned (.int .u64 ((decR c s : Nat) : Int)) ∧ Below w1.heap.size w1 w' := fun v c s w1 hs hc h => decimal_any v c s w1 h (by omega) hs
  obtain ⟨p, ep0⟩ : ∃ p, takeP u M P (E - N) = p := ⟨_, rfl⟩
  rw [ep0] at hpos ⊢
  have EP0 := hide ep0
  have HK := hide hk
  have HNO := hide hno
  have HY := hide hyes
  have hMx := hide hM
  clear hk hno hyes hM hp hM0 ep0
  go_enter Tryz.func21, Tryz.ntmps21
  go_wp2_with (first
    | (go_at_call 46; refine OF.mono ?_; rintro e w1 ⟨xa, xl, xc, rfl, h1, b1⟩; clear OF; replace CU := CU xa xl xc; replace NE := NE xa xl xc; replace PW := PW xa xl xc)
    | (go_at_call 47; refine (PW _ (h1.below ((Below.refl _ _).alloc (Nat.le_refl _) _))).mono ?_; rintro e w2 ⟨rfl, b2⟩; clear PW))
  have H1 := hide h1
  have B1 := hide b1
  clear h1 b1
  go_loopw [6] (fun v wr => ∃ n : Nat, 1 ≤ n ∧ n ≤ N ∧ v = .int .i64 (n : Int) ∧ Below (w1.alloc (.cells #[.bool false, .slice xa xl xc, .int .i64 P] 72)).heap.size (w1.alloc (.cells #[.bool false, .slice xa xl xc, .int .i64 P] 72)) wr) (fun v _ => N - (intOf v).toNat)
  case atStart => exact ⟨1, by omega, hN.1, rfl, b2⟩
  case round =>
    obtain ⟨n, g1, g2, rfl, bw⟩ := hrel
    obtain ⟨x0, x1, x2, _, _, _, y1, z1⟩ := cell_kept bw
    obtain ⟨s, es⟩ : ∃ s, E - (n : Int) = s := ⟨_, rfl⟩
    have hs : -400 ≤ s ∧ s ≤ 400 := by omega
    have hk1 := HK.out n g1 g2
    rw [es] at hk1
    obtain ⟨k, ek⟩ : ∃ k, kAt M P s = k := ⟨_, rfl⟩
    rw [ek] at hk1
    have CUT := CU s wr hs (H1.out.below y1)
    rw [ek] at CUT
    have ADD := fun v w3 t (h : IsAmt w3 v k) => add_one v k w3 h hk1 t
    have DE1 := fun v w3 (h : IsAmt w3 v k) => DE v k s w3 hs (by omega) h
    have DE2 := fun v w3 (h : IsAmt w3 v (k + 1)) => DE v (k + 1) s w3 hs (by omega) h
    have hn18 : decide ((n : Int) < 18) = true := decide_eq_true (by omega)
    by_cases hnN : n = N
    · have hy := HY.out
      rw [← hnN, es, ek] at hy
      have ep : takeP u M P s = p := by have := EP0.out; rw [← hnN, es] at this; exact this
      by_cases hd1 : decR k s = u
      · by_cases hd2 : decR (k + 1) s = u
        · skip
          have NEA := fun a l c w3 (h : IsAmt w3 (.slice a l c) k) (h2 : IsAmt w3 (.slice xa xl xc) M) => NE a l c k s w3 hs hk1 h h2
          have hT : takeP u M P s = nearP k M s P := by unfold takeP; rw [ek, if_pos ⟨hd1, hd2⟩]
          rw [← hT] at NEA
          have hpb : takeP u M P s < 4611686018427387904 := by rw [hT]; unfold nearP; split <;> omega
          have DIG := fun v w3 (h : IsAmt w3 v (takeP u M P s)) => digits_any v _ w3 h (by rw [ep]; exact hpos) hpb
          rw [ep] at DIG NEA
          rw [hd1] at DE1
          rw [hd2] at DE2
          obtain ⟨k9, ek9⟩ : ∃ D, k + 1 = D := ⟨_, rfl⟩
          rw [ek9] at ADD DE2
          obtain ⟨l, el⟩ : ∃ l, Lib.decDigits p = l := ⟨_, rfl⟩
          have hl1 : 1 ≤ l.length := by rw [← el]; exact dec_pos p
          have hl2 : l.length ≤ 4611686018427387905 := by rw [← el]; exact dec_le (by rw [← ep]; exact hpb)
          rw [el] at DIG
          obtain ⟨A, eA⟩ : ∃ A : ByteArray, ⟨l.toArray⟩ = A := ⟨_, rfl⟩
          have hA : A.size = l.length := by rw [← eA]; show l.toArray.size = _; simp
          obtain ⟨L, eL⟩ : ∃ L, l.length = L := ⟨_, rfl⟩
          rw [eL] at hA hl1 hl2
          simp only [eA] at DIG
          have hSl : ∀ W : World, (Instr.slice 9 (.string A) none (some (.int .i64 1)) none).run Tryz.prog W = .ok (.string (A.extract 0 1)) W := by
            intro W
            rw [run_slice_string_to_if W 9 A .i64 1 (by kernel_rfl), if_pos (by omega)]
            rfl
          have HTD : Hid (toldD p N = if N < L then l.take 1 else l) := by show _ = _; unfold toldD; rw [el, eL]
          have HTE : Hid (toldE p N E = if N < L then E + 1 else E) := by show _ = _; unfold toldE; rw [el, eL]
          have HEA := hide eA
          have HES := hide es
          have HNN := hide hnN
          have hd1' := hide hd1
          have hes : (E - (n : Int)) = s := es
          clear el eL eA ep hT hpb es hnN ek9 hd1 hd2 hd1'
          by_cases hlt : n < L
          · have hgt : ((n : Int) < (L : Int)) = True := eq_true (by omega)
            go_wp2_with (first
        | (go_at_call 48; refine CUT.mono ?_; rintro e w3 ⟨vk, rfl, h3, b3⟩; obtain ⟨ka, kl, kc, rfl⟩ := amt_form h3; clear x0 x1 x2 CUT; have k3 := bw.trans (b3.mono bw.size); obtain ⟨x0, x1, x2, _, _, _, y3, z3⟩ := cell_kept k3)
        | (go_at_call 49; refine (ADD _ _ _ h3).mono ?_; rintro e w4 ⟨vu, rfl, h4, b4⟩; obtain ⟨ua, ul, uc, rfl⟩ := amt_form h4; clear x0 x1 x2 ADD; have k4 := k3.trans (b4.mono k3.size); obtain ⟨x0, x1, x2, _, _, _, y4, z4⟩ := cell_kept k4)
        | (go_at_call 50; refine (DE1 _ _ (h3.below b4)).mono ?_; rintro e w5 ⟨rfl, b5⟩; clear x0 x1 x2 DE1; have k5 := k4.trans (b5.mono k4.size); obtain ⟨x0, x1, x2, _, _, _, y5, z5⟩ := cell_kept k5)
        | (go_at_call 50; refine (DE2 _ _ (h4.below b5)).mono ?_; rintro e w6 ⟨rfl, b6⟩; clear x0 x1 x2 DE2; have k6 := k5.trans (b6.mono k5.size); obtain ⟨x0, x1, x2, _, _, _, y6, z6⟩ := cell_kept k6)
        | (go_at_call 51; refine (NEA _ _ _ _ (((h3.below b4).below b5).below b6) (H1.out.below y6)).mono ?_; rintro e w7 ⟨vp, rfl, h7, b7⟩; obtain ⟨pa, pl, pc, rfl⟩ := amt_form h7; have k7 := k6.trans (b7.mono k6.size); obtain ⟨_, _, _, _, _, _, y7, z7⟩ := cell_kept k7)
        | (go_at_call 23; refine (DIG _ _ (h7)).mono ?_; rintro e w8 ⟨rfl, b8⟩; have y8 : Below w.heap.size w w8 := (B1.out.trans ((y7).mono B1.out.size)).trans (b8.mono (Nat.le_trans B1.out.size (y7).size))))
            go_ret2
            refine ⟨?_, y8⟩
            rw [HTD.out, HTE.out, if_pos (by rw [← HNN.out]; exact hlt), if_pos (by rw [← HNN.out]; exact hlt), take_bytes HEA.out]
            rfl
          · have hgt : ((n : Int) < (L : Int)) = False := eq_false (by omega)
            go_wp2_with (first
        | (go_at_call 48; refine CUT.mono ?_; rintro e w3 ⟨vk, rfl, h3, b3⟩; obtain ⟨ka, kl, kc, rfl⟩ := amt_form h3; clear x0 x1 x2 CUT; have k3 := bw.trans (b3.mono bw.size); obtain ⟨x0, x1, x2, _, _, _, y3, z3⟩ := cell_kept k3)
        | (go_at_call 49; refine (ADD _ _ _ h3).mono ?_; rintro e w4 ⟨vu, rfl, h4, b4⟩; obtain ⟨ua, ul, uc, rfl⟩ := amt_form h4; clear x0 x1 x2 ADD; have k4 := k3.trans (b4.mono k3.size); obtain ⟨x0, x1, x2, _, _, _, y4, z4⟩ := cell_kept k4)
        | (go_at_call 50; refine (DE1 _ _ (h3.below b4)).mono ?_; rintro e w5 ⟨rfl, b5⟩; clear x0 x1 x2 DE1; have k5 := k4.trans (b5.mono k4.size); obtain ⟨x0, x1, x2, _, _, _, y5, z5⟩ := cell_kept k5)
        | (go_at_call 50; refine (DE2 _ _ (h4.below b5)).mono ?_; rintro e w6 ⟨rfl, b6⟩; clear x0 x1 x2 DE2; have k6 := k5.trans (b6.mono k5.size); obtain ⟨x0, x1, x2, _, _, _, y6, z6⟩ := cell_kept k6)
        | (go_at_call 51; refine (NEA _ _ _ _ (((h3.below b4).below b5).below b6) (H1.out.below y6)).mono ?_; rintro e w7 ⟨vp, rfl, h7, b7⟩; obtain ⟨pa, pl, pc, rfl⟩ := amt_form h7; have k7 := k6.trans (b7.mono k6.size); obtain ⟨_, _, _, _, _, _, y7, z7⟩ := cell_kept k7)
        | (go_at_call 23; refine (DIG _ _ (h7)).mono ?_; rintro e w8 ⟨rfl, b8⟩; have y8 : Below w.heap.size w w8 := (B1.out.trans ((y7).mono B1.out.size)).trans (b8.mono (Nat.le_trans B1.out.size (y7).size))))
            go_ret2
            refine ⟨?_, y8⟩
            rw [HTD.out, HTE.out, if_neg (by rw [← HNN.out]; exact hlt), if_neg (by rw [← HNN.out]; exact hlt), HEA.out]
            rfl
        · skip
          have hT : takeP u M P s = k := by unfold takeP; rw [ek, if_neg (fun h => hd2 h.2), if_neg hd2]
          have hpb : takeP u M P s < 4611686018427387904 := by rw [hT]; omega
          have DIG := fun v w3 (h : IsAmt w3 v (takeP u M P s)) => digits_any v _ w3 h (by rw [ep]; exact hpos) hpb
          rw [← hT] at CUT ADD DE1 DE2
          rw [ep] at DIG CUT ADD DE1 DE2
          rw [← hT, ep] at hd1
          rw [hd1] at DE1
          obtain ⟨k9, ek9⟩ : ∃ D, p + 1 = D := ⟨_, rfl⟩
          rw [← hT, ep] at hd2
          rw [ek9] at ADD DE2 hd2
          obtain ⟨D2, eD2⟩ : ∃ D, decR k9 s = D := ⟨_, rfl⟩
          rw [eD2] at DE2 hd2
          have hdd : ((D2 : Int) == (u : Int)) = false := by simp; omega
          obtain ⟨l, el⟩ : ∃ l, Lib.decDigits p = l := ⟨_, rfl⟩
          have hl1 : 1 ≤ l.length := by rw [← el]; exact dec_pos p
          have hl2 : l.length ≤ 4611686018427387905 := by rw [← el]; exact dec_le (by rw [← ep]; exact hpb)
          rw [el] at DIG
          obtain ⟨A, eA⟩ : ∃ A : ByteArray, ⟨l.toArray⟩ = A := ⟨_, rfl⟩
          have hA : A.size = l.length := by rw [← eA]; show l.toArray.size = _; simp
          obtain ⟨L, eL⟩ : ∃ L, l.length = L := ⟨_, rfl⟩
          rw [eL] at hA hl1 hl2
          simp only [eA] at DIG
          have hSl : ∀ W : World, (Instr.slice 9 (.string A) none (some (.int .i64 1)) none).run Tryz.prog W = .ok (.string (A.extract 0 1)) W := by
            intro W
            rw [run_slice_string_to_if W 9 A .i64 1 (by kernel_rfl), if_pos (by omega)]
            rfl
          have HTD : Hid (toldD p N = if N < L then l.take 1 else l) := by show _ = _; unfold toldD; rw [el, eL]
          have HTE : Hid (toldE p N E = if N < L then E + 1 else E) := by show _ = _; unfold toldE; rw [el, eL]
          have HEA := hide eA
          have HES := hide es
          have HNN := hide hnN
          have hd1' := hide hd1
          have hes : (E - (n : Int)) = s := es
          clear el eL eA ep hT hpb es hnN ek9 eD2 hd1 hd2 hd1'
          by_cases hlt : n < L
          · have hgt : ((n : Int) < (L : Int)) = True := eq_true (by omega)
            go_wp2_with (first
        | (go_at_call 48; refine CUT.mono ?_; rintro e w3 ⟨vk, rfl, h3, b3⟩; obtain ⟨ka, kl, kc, rfl⟩ := amt_form h3; clear x0 x1 x2 CUT; have k3 := bw.trans (b3.mono bw.size); obtain ⟨x0, x1, x2, _, _, _, y3, z3⟩ := cell_kept k3)
        | (go_at_call 49; refine (ADD _ _ _ h3).mono ?_; rintro e w4 ⟨vu, rfl, h4, b4⟩; obtain ⟨ua, ul, uc, rfl⟩ := amt_form h4; clear x0 x1 x2 ADD; have k4 := k3.trans (b4.mono k3.size); obtain ⟨x0, x1, x2, _, _, _, y4, z4⟩ := cell_kept k4)
        | (go_at_call 50; refine (DE1 _ _ (h3.below b4)).mono ?_; rintro e w5 ⟨rfl, b5⟩; clear x0 x1 x2 DE1; have k5 := k4.trans (b5.mono k4.size); obtain ⟨x0, x1, x2, _, _, _, y5, z5⟩ := cell_kept k5)
        | (go_at_call 50; refine (DE2 _ _ (h4.below b5)).mono ?_; rintro e w6 ⟨rfl, b6⟩; clear x0 x1 x2 DE2; have k6 := k5.trans (b6.mono k5.size); obtain ⟨x0, x1, x2, _, _, _, y6, z6⟩ := cell_kept k6)
        | (go_at_call 23; refine (DIG _ _ (((h3.below b4).below b5).below b6)).mono ?_; rintro e w8 ⟨rfl, b8⟩; have y8 : Below w.heap.size w w8 := (B1.out.trans ((y6).mono B1.out.size)).trans (b8.mono (Nat.le_trans B1.out.size (y6).size))))
            go_ret2
            refine ⟨?_, y8⟩
            rw [HTD.out, HTE.out, if_pos (by rw [← HNN.out]; exact hlt), if_pos (by rw [← HNN.out]; exact hlt), take_bytes HEA.out]
            rfl
          · have hgt : ((n : Int) < (L : Int)) = False := eq_false (by omega)
            go_wp2_with (first
        | (go_at_call 48; refine CUT.mono ?_; rintro e w3 ⟨vk, rfl, h3, b3⟩; obtain ⟨ka, kl, kc, rfl⟩ := amt_form h3; clear x0 x1 x2 CUT; have k3 := bw.trans (b3.mono bw.size); obtain ⟨x0, x1, x2, _, _, _, y3, z3⟩ := cell_kept k3)
        | (go_at_call 49; refine (ADD _ _ _ h3).mono ?_; rintro e w4 ⟨vu, rfl, h4, b4⟩; obtain ⟨ua, ul, uc, rfl⟩ := amt_form h4; clear x0 x1 x2 ADD; have k4 := k3.trans (b4.mono k3.size); obtain ⟨x0, x1, x2, _, _, _, y4, z4⟩ := cell_kept k4)
        | (go_at_call 50; refine (DE1 _ _ (h3.below b4)).mono ?_; rintro e w5 ⟨rfl, b5⟩; clear x0 x1 x2 DE1; have k5 := k4.trans (b5.mono k4.size); obtain ⟨x0, x1, x2, _, _, _, y5, z5⟩ := cell_kept k5)
        | (go_at_call 50; refine (DE2 _ _ (h4.below b5)).mono ?_; rintro e w6 ⟨rfl, b6⟩; clear x0 x1 x2 DE2; have k6 := k5.trans (b6.mono k5.size); obtain ⟨x0, x1, x2, _, _, _, y6, z6⟩ := cell_kept k6)
        | (go_at_call 23; refine (DIG _ _ (((h3.below b4).below b5).below b6)).mono ?_; rintro e w8 ⟨rfl, b8⟩; have y8 : Below w.heap.size w w8 := (B1.out.trans ((y6).mono B1.out.size)).trans (b8.mono (Nat.le_trans B1.out.size (y6).size))))
            go_ret2
            refine ⟨?_, y8⟩
            rw [HTD.out, HTE.out, if_neg (by rw [← HNN.out]; exact hlt), if_neg (by rw [← HNN.out]; exact hlt), HEA.out]
            rfl
      · have hd2 : decR (k + 1) s = u := by rcases hy with h | h; exact absurd h hd1; exact h
        have hT : takeP u M P s = k + 1 := by unfold takeP; rw [ek, if_neg (fun h => hd1 h.1), if_pos hd2]
        have hpb : takeP u M P s < 4611686018427387904 := by rw [hT]; omega
        have DIG := fun v w3 (h : IsAmt w3 v (takeP u M P s)) => digits_any v _ w3 h (by rw [ep]; exact hpos) hpb
        rw [← hT] at ADD DE2
        rw [ep] at DIG ADD DE2
        rw [← hT, ep] at hd2
        rw [hd2] at DE2
        obtain ⟨D1, eD1⟩ : ∃ D, decR k s = D := ⟨_, rfl⟩
        rw [eD1] at DE1 hd1
        have hdd : ((D1 : Int) == (u : Int)) = false := by simp; omega
        obtain ⟨l, el⟩ : ∃ l, Lib.decDigits p = l := ⟨_, rfl⟩
        have hl1 : 1 ≤ l.length := by rw [← el]; exact dec_pos p
        have hl2 : l.length ≤ 4611686018427387905 := by rw [← el]; exact dec_le (by rw [← ep]; exact hpb)
        rw [el] at DIG
        obtain ⟨A, eA⟩ : ∃ A : ByteArray, ⟨l.toArray⟩ = A := ⟨_, rfl⟩
        have hA : A.size = l.length := by rw [← eA]; show l.toArray.size = _; simp
        obtain ⟨L, eL⟩ : ∃ L, l.length = L := ⟨_, rfl⟩
        rw [eL] at hA hl1 hl2
        simp only [eA] at DIG
        have hSl : ∀ W : World, (Instr.slice 9 (.string A) none (some (.int .i64 1)) none).run Tryz.prog W = .ok (.string (A.extract 0 1)) W := by
          intro W
          rw [run_slice_string_to_if W 9 A .i64 1 (by kernel_rfl), if_pos (by omega)]
          rfl
        have HTD : Hid (toldD p N = if N < L then l.take 1 else l) := by show _ = _; unfold toldD; rw [el, eL]
        have HTE : Hid (toldE p N E = if N < L then E + 1 else E) := by show _ = _; unfold toldE; rw [el, eL]
        have HEA := hide eA
        have HES := hide es
        have HNN := hide hnN
        have hes : (E - (n : Int)) = s := es
        clear el eL eA ep hT hpb es hnN eD1 hd1 hd2
        by_cases hlt : n < L
        · have hgt : ((n : Int) < (L : Int)) = True := eq_true (by omega)
          go_wp2_with (first
        | (go_at_call 48; refine CUT.mono ?_; rintro e w3 ⟨vk, rfl, h3, b3⟩; obtain ⟨ka, kl, kc, rfl⟩ := amt_form h3; clear x0 x1 x2 CUT; have k3 := bw.trans (b3.mono bw.size); obtain ⟨x0, x1, x2, _, _, _, y3, z3⟩ := cell_kept k3)
        | (go_at_call 49; refine (ADD _ _ _ h3).mono ?_; rintro e w4 ⟨vu, rfl, h4, b4⟩; obtain ⟨ua, ul, uc, rfl⟩ := amt_form h4; clear x0 x1 x2 ADD; have k4 := k3.trans (b4.mono k3.size); obtain ⟨x0, x1, x2, _, _, _, y4, z4⟩ := cell_kept k4)
        | (go_at_call 50; refine (DE1 _ _ (h3.below b4)).mono ?_; rintro e w5 ⟨rfl, b5⟩; clear x0 x1 x2 DE1; have k5 := k4.trans (b5.mono k4.size); obtain ⟨x0, x1, x2, _, _, _, y5, z5⟩ := cell_kept k5)
        | (go_at_call 50; refine (DE2 _ _ (h4.below b5)).mono ?_; rintro e w6 ⟨rfl, b6⟩; clear x0 x1 x2 DE2; have k6 := k5.trans (b6.mono k5.size); obtain ⟨x0, x1, x2, _, _, _, y6, z6⟩ := cell_kept k6)
        | (go_at_call 23; refine (DIG _ _ ((h4.below b5).below b6)).mono ?_; rintro e w8 ⟨rfl, b8⟩; have y8 : Below w.heap.size w w8 := (B1.out.trans ((y6).mono B1.out.size)).trans (b8.mono (Nat.le_trans B1.out.size (y6).size))))
          go_ret2
          refine ⟨?_, y8⟩
          rw [HTD.out, HTE.out, if_pos (by rw [← HNN.out]; exact hlt), if_pos (by rw [← HNN.out]; exact hlt), take_bytes HEA.out]
          rfl
        · have hgt : ((n : Int) < (L : Int)) = False := eq_false (by omega)
          go_wp2_with (first
        | (go_at_call 48; refine CUT.mono ?_; rintro e w3 ⟨vk, rfl, h3, b3⟩; obtain ⟨ka, kl, kc, rfl⟩ := amt_form h3; clear x0 x1 x2 CUT; have k3 := bw.trans (b3.mono bw.size); obtain ⟨x0, x1, x2, _, _, _, y3, z3⟩ := cell_kept k3)
        | (go_at_call 49; refine (ADD _ _ _ h3).mono ?_; rintro e w4 ⟨vu, rfl, h4, b4⟩; obtain ⟨ua, ul, uc, rfl⟩ := amt_form h4; clear x0 x1 x2 ADD; have k4 := k3.trans (b4.mono k3.size); obtain ⟨x0, x1, x2, _, _, _, y4, z4⟩ := cell_kept k4)
        | (go_at_call 50; refine (DE1 _ _ (h3.below b4)).mono ?_; rintro e w5 ⟨rfl, b5⟩; clear x0 x1 x2 DE1; have k5 := k4.trans (b5.mono k4.size); obtain ⟨x0, x1, x2, _, _, _, y5, z5⟩ := cell_kept k5)
        | (go_at_call 50; refine (DE2 _ _ (h4.below b5)).mono ?_; rintro e w6 ⟨rfl, b6⟩; clear x0 x1 x2 DE2; have k6 := k5.trans (b6.mono k5.size); obtain ⟨x0, x1, x2, _, _, _, y6, z6⟩ := cell_kept k6)
        | (go_at_call 23; refine (DIG _ _ ((h4.below b5).below b6)).mono ?_; rintro e w8 ⟨rfl, b8⟩; have y8 : Below w.heap.size w w8 := (B1.out.trans ((y6).mono B1.out.size)).trans (b8.mono (Nat.le_trans B1.out.size (y6).size))))
          go_ret2
          refine ⟨?_, y8⟩
          rw [HTD.out, HTE.out, if_neg (by rw [← HNN.out]; exact hlt), if_neg (by rw [← HNN.out]; exact hlt), HEA.out]
          rfl
    · obtain ⟨q1, q2⟩ := HNO.out n g1 (by omega)
      rw [es, ek] at q1 q2
      obtain ⟨k9, ek9⟩ : ∃ D, k + 1 = D := ⟨_, rfl⟩
      rw [ek9] at ADD DE2 q2
      obtain ⟨D1, eD1⟩ : ∃ D, decR k s = D := ⟨_, rfl⟩
      obtain ⟨D2, eD2⟩ : ∃ D, decR k9 s = D := ⟨_, rfl⟩
      rw [eD1] at DE1 q1
      rw [eD2] at DE2 q2
      have hq1 : ((D1 : Int) == (u : Int)) = false := by simp; omega
      have hq2 : ((D2 : Int) == (u : Int)) = false := by simp; omega
      have hlt : n < N := by omega
      have hes : (E - (n : Int)) = s := es
      clear q1 q2 eD1 eD2 ek9 hnN es
      go_wp2_with (first
        | (go_at_call 48; refine CUT.mono ?_; rintro e w3 ⟨vk, rfl, h3, b3⟩; obtain ⟨ka, kl, kc, rfl⟩ := amt_form h3; clear x0 x1 x2 CUT; have k3 := bw.trans (b3.mono bw.size); obtain ⟨x0, x1, x2, _, _, _, y3, z3⟩ := cell_kept k3)
        | (go_at_call 49; refine (ADD _ _ _ h3).mono ?_; rintro e w4 ⟨vu, rfl, h4, b4⟩; obtain ⟨ua, ul, uc, rfl⟩ := amt_form h4; clear x0 x1 x2 ADD; have k4 := k3.trans (b4.mono k3.size); obtain ⟨x0, x1, x2, _, _, _, y4, z4⟩ := cell_kept k4)
        | (go_at_call 50; refine (DE1 _ _ (h3.below b4)).mono ?_; rintro e w5 ⟨rfl, b5⟩; clear x0 x1 x2 DE1; have k5 := k4.trans (b5.mono k4.size); obtain ⟨x0, x1, x2, _, _, _, y5, z5⟩ := cell_kept k5)
        | (go_at_call 50; refine (DE2 _ _ (h4.below b5)).mono ?_; rintro e w6 ⟨rfl, b6⟩; clear x0 x1 x2 DE2; have k6 := k5.trans (b6.mono k5.size); obtain ⟨x0, x1, x2, _, _, _, y6, z6⟩ := cell_kept k6))
      go_roundw
      case rel => exact ⟨n + 1, by omega, by omega, by go_num, k6⟩
      case measure => simp [intOf]; omega
end Go.Proofs.YtbengmceiaejeaaGreatDoor
