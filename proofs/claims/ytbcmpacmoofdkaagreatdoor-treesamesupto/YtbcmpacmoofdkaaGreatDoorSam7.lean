/- lookOf: what a node is, as a text. -/
import Derived.Test.YtbcmpacmoofdkaaGreatDoorProg
import Derived.Test.YtbcmpacmoofdkaaGreatDoorSam5
import Derived.Test.YtbcmpacmoofdkaaGreatDoorTree2
import Derived.Test.YtbcmpacmoofdkaaGreatDoorTree12
import Derived.WalkKit
import Derived.ProofKit
import Derived.OpenShut
import Derived.Below
import Derived.WalkLawsBesides
import Derived.OwnWalk
import Derived.BigQuiet
import Derived.WalkSmall
import Derived.Deep.DeepCutAuto
import Derived.Test.YtbcmpacmoofdkaaGreatDoorTree4
import Derived.Test.YtbcmpacmoofdkaaGreatDoorTree46
import Derived.Laws.MakeOwn
namespace Go.Proofs.YtbcmpacmoofdkaaGreatDoor
open Go.ChangeShapes Go.WideShapes Go.ChangeAt Go.RowKit

def kidN (ns : List Nat) (k : Int) : Nat := ns.getD k.toNat 0
theorem encP_take (p : List (List UInt8)) (j : Nat) (h : j < p.length) : encP (p.take (j + 1)) = encP (p.take j) ++ txtB (p.getD j []) := by
  unfold encP
  rw [List.take_succ_eq_append_getElem h, List.flatMap_append]
  simp [List.getD, h]
theorem encK_take (ks : List Int) (f : Int → Nat) (j : Nat) (h : j < ks.length) : encK ((ks.take (j + 1)).map f) = encK ((ks.take j).map f) ++ nmbB ((f (ks.getD j 0) : Nat) : Int) := by
  unfold encK
  rw [List.take_succ_eq_append_getElem h, List.map_append, List.flatMap_append]
  simp [List.getD, h]
theorem txtB_len (s : List UInt8) (h : s.length ≤ 1048576) : (txtB s).length ≤ 1048600 := by
  unfold txtB nmbB
  have := itoa_len (s.length : Int) (by omega) (by omega)
  rw [List.length_append, List.length_cons, List.length_cons]
  omega
theorem nmbB_len (n : Int) (h0 : -9223372036854775808 ≤ n) (h1 : n ≤ 9223372036854775807) : (nmbB n).length ≤ 21 := by
  unfold nmbB
  have := itoa_len n h0 h1
  rw [List.length_cons]
  omega
theorem encP_len : ∀ (p : List (List UInt8)), (∀ s ∈ p, s.length ≤ 1048576) → (encP p).length ≤ p.length * 1048600
  | [], _ => Nat.zero_le _
  | s :: p, h => by
    have h1 := txtB_len s (h s List.mem_cons_self)
    have h2 := encP_len p (fun t ht => h t (List.mem_cons_of_mem _ ht))
    show (txtB s ++ encP p).length ≤ _
    rw [List.length_append, List.length_cons]
    omega
theorem encK_len : ∀ (ns : List Nat), (∀ n ∈ ns, n ≤ 9223372036854775807) → (encK ns).length ≤ ns.length * 21
  | [], _ => Nat.zero_le _
  | n :: r, h => by
    have h1 := nmbB_len (n : Int) (by omega) (by have := h n List.mem_cons_self; omega)
    have h2 := encK_len r (fun t ht => h t (List.mem_cons_of_mem _ ht))
    show (nmbB (n : Int) ++ encK r).length ≤ _
    rw [List.length_append, List.length_cons]
    omega
theorem lowB_at (i : Nat) (ks : List Int) (h : ∀ j, j < ks.length → 0 ≤ ks.getD j 0 ∧ ks.getD j 0 < (i : Int)) : lowB i ks = true := by
  refine List.all_eq_true.2 fun x hx => ?_
  obtain ⟨j, hj, rfl⟩ := List.getElem_of_mem hx
  have := h j hj
  rw [show ks.getD j 0 = ks[j] by simp [List.getD, hj]] at this
  simpa using this
theorem lowB_no (i : Nat) (ks : List Int) (j : Nat) (hj : j < ks.length) (h : ¬ (0 ≤ ks.getD j 0 ∧ ks.getD j 0 < (i : Int))) : lowB i ks = false := by
  cases hl : lowB i ks with
  | false => rfl
  | true =>
    refine absurd (lowB_mem hl ?_) h
    rw [show ks.getD j 0 = ks[j] by simp [List.getD, hj]]
    exact List.getElem_mem hj
def lookB (kd : Int) (tx : List UInt8) (path : List (List UInt8)) (i : Nat) (ks : List Int) (ns : List Nat) : List UInt8 := if lowB i ks = true then encL (kd, tx, path, ks.map (kidN ns)) else []

set_option maxRecDepth 100000 in
set_option maxHeartbeats 8000000 in
theorem lookOf_any (po : Option Addr) (pc : Nat) (path : List (List UInt8)) (ko : Option Addr) (kc : Nat) (ks : List Int) (kd x y : Int) (tx : ByteArray) (i : Nat) (no : Option Addr) (nc : Nat) (ns : List Nat) (w : World)
    (hp : RdP w.heap.size w (.slice po path.length pc) path) (hk : RdI w.heap.size w (.slice ko ks.length kc) ks) (hn : RdI w.heap.size w (.slice no ns.length nc) (ns.map fun n : Nat => (n : Int))) (hi : i ≤ ns.length) (_hnl : ns.length ≤ 8796093022208) (hP : PowB w.heap.size w)
    (hk0 : -9223372036854775808 ≤ kd) (hk1 : kd ≤ 9223372036854775807) (htx : tx.size ≤ 1048576) (hpl : path.length ≤ 1048576) (hps : ∀ s ∈ path, s.length ≤ 1048576) (hkl : ks.length ≤ 1048576) (hns : ∀ n ∈ ns, n ≤ 9223372036854775807) :
    Calls Tryz.prog 41 #[.agg #[.int .i64 kd, .string tx, .slice po path.length pc, .slice ko ks.length kc, .int .i64 x, .int .i64 y], .int .i64 (i : Int), .slice no ns.length nc] w fun e w' => e = .returned (.tuple #[.string ⟨(lookB kd tx.data.toList path i ks ns).toArray⟩, .bool (lowB i ks)]) ∧ Below w.heap.size w w' := by
  obtain ⟨W0, hW0⟩ : ∃ W0, w.alloc (.cells #[.int .i64 kd, .string tx, .slice po path.length pc, .slice ko ks.length kc, .int .i64 x, .int .i64 y] 37) = W0 := ⟨_, rfl⟩
  have B0 : Below w.heap.size w W0 := by rw [← hW0]; exact (Below.refl _ _).alloc (Nat.le_refl _) _
  have hlt0 : w.heap.size < W0.heap.size := by rw [← hW0]; simp
  have sx := six_new w (.int .i64 kd) (.string tx) (.slice po path.length pc) (.slice ko ks.length kc) (.int .i64 x) (.int .i64 y) 37
  rw [hW0] at sx
  obtain ⟨⟨k0, k1, k2, k3, k4, k5⟩, _⟩ := sx
  have hP0 : PowB W0.heap.size W0 := hP.on B0 (Nat.le_of_lt hlt0)
  -- what the bytes are
  obtain ⟨b1, hb1⟩ : ∃ b, Lib.itoa kd = b := ⟨_, rfl⟩
  obtain ⟨b2, hb2⟩ : ∃ b, b1 ++ txtB tx.data.toList = b := ⟨_, rfl⟩
  obtain ⟨b3, hb3⟩ : ∃ b, b2 ++ nmbB (path.length : Int) = b := ⟨_, rfl⟩
  have l1 : b1.length ≤ 20 := by rw [← hb1]; exact itoa_len kd hk0 hk1
  have l2 : b2.length ≤ 1048620 := by
    have := txtB_len tx.data.toList (by rw [Array.length_toList]; exact htx)
    rw [← hb2, List.length_append]; omega
  have l3 : b3.length ≤ 1048641 := by
    have := nmbB_len (path.length : Int) (by omega) (by omega)
    rw [← hb3, List.length_append]; omega
  have CA := hide' (fun W (b : Below W0.heap.size W0 W) => Tryz.strconv_AppendInt_10 W0.heap.size 0 kd hk0 hk1 (.slice none 0 0) [] W (World.ownsRow_nil _ _ _ _) b.size (by omega) (Lib.TabBelow.on hP0 b))
  have CT := hide' (fun W v (b : Below W0.heap.size W0 W) (o : Own W0.heap.size v b1 W) => appendText_any W0.heap.size v b1 tx W o (by omega) htx b.size (hP0.on b (Nat.le_refl _)))
  have CN := hide' (fun W v (b : Below W0.heap.size W0 W) (o : Own W0.heap.size v b2 W) => appendNumber_any W0.heap.size v b2 (path.length : Int) (by omega) (by omega) W o (by omega) b.size (hP0.on b (Nat.le_refl _)))
  rw [hb2] at CT
  rw [hb3] at CN
  have L4 : Hid' (∀ j, j ≤ path.length → (b3 ++ encP (path.take j)).length ≤ 1200000000000) := ⟨fun j hj => by
    have := encP_len (path.take j) (fun s hs => hps s (List.mem_of_mem_take hs))
    have h2 : (path.take j).length ≤ path.length := by rw [List.length_take]; omega
    rw [List.length_append]
    have h3 : (path.take j).length * 1048600 ≤ 1048576 * 1048600 := Nat.mul_le_mul_right _ (by omega)
    omega⟩
  have L5 : Hid' (∀ j, j ≤ ks.length → (b3 ++ encP path ++ encK ((ks.take j).map (kidN ns))).length ≤ 1300000000000) := ⟨fun j hj => by
    have h0 := L4.out path.length (Nat.le_refl _)
    rw [List.take_length] at h0
    have h1 := encK_len ((ks.take j).map (kidN ns)) (fun n hn => by
      rw [List.mem_map] at hn
      obtain ⟨k, _, rfl⟩ := hn
      unfold kidN
      by_cases hh : k.toNat < ns.length
      · rw [show ns.getD k.toNat 0 = ns[k.toNat] by simp [List.getD, hh]]; exact hns _ (List.getElem_mem hh)
      · rw [show ns.getD k.toNat 0 = 0 by simp [List.getD, hh]]; omega)
    have h2 : ((ks.take j).map (kidN ns)).length ≤ ks.length := by rw [List.length_map, List.length_take]; omega
    rw [List.length_append]
    have h3 : ((ks.take j).map (kidN ns)).length * 21 ≤ 1048576 * 21 := Nat.mul_le_mul_right _ (by omega)
    omega⟩
  have CP := hide' (fun W v j (hj : j < path.length) (b : Below W0.heap.size W0 W) (o : Own W0.heap.size v (b3 ++ encP (path.take j)) W) => appendText_any W0.heap.size v (b3 ++ encP (path.take j)) ⟨(path.getD j []).toArray⟩ W o (by have := L4.out j (by omega); omega) (by
    show (path.getD j []).toArray.size ≤ 1048576
    rw [List.size_toArray, show path.getD j [] = path[j] by simp [List.getD, hj]]
    exact hps _ (List.getElem_mem hj)) b.size (hP0.on b (Nat.le_refl _)))
  have CK := hide' (fun W v j (hj : j < ks.length) (hns' : kidN ns (ks.getD j 0) ≤ 9223372036854775807) (b : Below W0.heap.size W0 W) (o : Own W0.heap.size v (b3 ++ encP path ++ encK ((ks.take j).map (kidN ns))) W) => appendNumber_any W0.heap.size v (b3 ++ encP path ++ encK ((ks.take j).map (kidN ns))) ((kidN ns (ks.getD j 0) : Nat) : Int) (by omega) (by omega) W o (by have := L5.out j (by omega); omega) b.size (hP0.on b (Nat.le_refl _)))
  have CL := hide' (lower_any)
  obtain ⟨PN, hPN⟩ : ∃ PN, path.length = PN := ⟨_, rfl⟩
  obtain ⟨KN, hKN⟩ : ∃ KN, ks.length = KN := ⟨_, rfl⟩
  obtain ⟨NN, hNN⟩ : ∃ NN, ns.length = NN := ⟨_, rfl⟩
  have HPN := hide' hPN
  have HKN := hide' hKN
  have HNN := hide' hNN
  have HNS := hide' hns
  have HB1 := hide' hb1
  have HB2 := hide' hb2
  have HB3 := hide' hb3
  obtain ⟨po', pc', epv, _, hpc⟩ := hp
  injection epv with ep1 ep2 ep3
  subst ep1 ep3
  obtain ⟨ko', kc', ekv, _, hkc⟩ := hk
  injection ekv with ek1 ek2 ek3
  subst ek1 ek3
  obtain ⟨no', nc', env, _, hnc⟩ := hn
  injection env with en1 en2 en3
  subst en1 en3
  rw [List.length_map] at hnc
  have HPC := hide' hpc
  have HKC := hide' hkc
  have HNC := hide' hnc
  obtain ⟨R, hR⟩ : ∃ R, lowB i ks = R := ⟨_, rfl⟩
  obtain ⟨Z, hZ⟩ : ∃ Z, ByteArray.mk (lookB kd tx.data.toList path i ks ns).toArray = Z := ⟨_, rfl⟩
  have HR := hide' hR
  have HZ := hide' hZ
  rw [hPN] at hpl CN CP HPC k2
  rw [hKN] at hkl CK HKC k3
  rw [hNN] at hi _hnl HNC
  rw [hPN, hKN] at hW0
  rw [hPN, hKN, hNN, hR, hZ]
  have HP0 := hide' B0
  have HLT := hide' hlt0
  clear hpc hkc hnc hb1 hb2 hb3 hns hps hP hP0 B0 hlt0 l1 l2 l3 ep2 ek2 en2 hPN hKN hNN hR hZ
  go_enter Tryz.func41, Tryz.ntmps41
  go_upto_region 1 with fail
  try rw [hW0]
  obtain ⟨U, hU⟩ : ∃ U, w.heap.size = U := ⟨_, rfl⟩
  have HU := hide' hU
  rw [hU] at k0 k1 k2 k3 k4 k5 HLT HPC HKC HNC
  rw [hU]
  clear hW0 hU
  go_upto_region 5 with (first
    | (go_at_call 76; refine (CA.out _ (Below.refl _ _)).mono ?_; clear CA; rintro e w1 ⟨v1, rfl, o1, c1, _⟩; (have O1 : Hid' (Own W0.heap.size v1 b1 w1) := ⟨by rw [← HB1.out]; unfold Own; rw [Nat.zero_add, List.nil_append] at o1; exact o1⟩); clear o1; (have m1 := (c1.cell (p := ⟨U, 1, none⟩) HLT.out).trans k1))
    | (go_at_call 77; refine (CT.out _ _ c1 O1.out).mono ?_; clear CT; rintro e w2 ⟨v2, rfl, o2, c2⟩; (have O2 := hide' o2); (have C2 := c1.trans c2); clear o2; (have m2 := (C2.cell (p := ⟨U, 2, none⟩) HLT.out).trans k2))
    | (go_at_call 78; refine (CN.out _ _ C2 O2.out).mono ?_; clear CN; rintro e w3 ⟨v3, rfl, o3, c3⟩; (have O3 := hide' o3); (have C3 := C2.trans c3); clear o3; (have p2 := (C3.cell (p := ⟨U, 2, none⟩) HLT.out).trans k2)))
  go_loopw [8, 28] (fun vt vi wr => ∃ j : Nat, vi = .int .i64 (j : Int) ∧ j ≤ PN ∧ Hid' (Own W0.heap.size vt (b3 ++ encP (path.take j)) wr) ∧ Below W0.heap.size W0 wr) (fun _ vi _ => PN - (intOf vi).toNat)
  case atStart => exact ⟨0, rfl, Nat.zero_le _, ⟨by rw [List.take_zero]; show Own _ _ (b3 ++ []) _; rw [List.append_nil]; exact O3.out⟩, C3⟩
  case round =>
    obtain ⟨j, rfl, hj, HI, bel⟩ := hrel
    clear C3 C2 c1 c2 c3 m1 m2 p2 O1 O2 O3
    by_cases h1 : j < PN
    · obtain ⟨a, ea, hab, hcell⟩ := HPC.out j h1
      subst ea
      have d := (bel.cell (p := a.add j) (by rw [addBlock]; exact Nat.lt_trans hab HLT.out)).trans ((HP0.out.cell (p := a.add j) (by rw [addBlock, HU.out]; exact hab)).trans hcell)
      have HCP := hide' (CP.out wr _ j h1 bel HI.out)
      obtain ⟨z, hz⟩ : ∃ z, ByteArray.mk (path.getD j []).toArray = z := ⟨_, rfl⟩
      have HT : Hid' (b3 ++ encP (path.take j) ++ txtB (path.getD j []) = b3 ++ encP (path.take (j + 1))) := ⟨by rw [encP_take path j (by rw [HPN.out]; exact h1), List.append_assoc]⟩
      rw [hz] at d HCP
      rw [HT.out] at HCP
      have HBL := hide' bel
      clear hcell hz HI CP bel
      go_wp2_with (go_at_call 77; refine (HCP.out).mono ?_; clear HCP; rintro e w4 ⟨v4, rfl, o4, c4⟩; (have O4 := hide' o4); clear o4)
      go_roundw
      case rel => exact ⟨j + 1, by go_num, by omega, O4, HBL.out.trans c4⟩
      case measure => first | (simp [intOf]; done) | (simp [intOf]; omega)
    · have HE : Hid' (b3 ++ encP (path.take j) = b3 ++ encP path) := ⟨by rw [List.take_of_length_le (by rw [HPN.out]; omega)]⟩
      rw [HE.out] at HI
      have q3 := (bel.cell (p := ⟨U, 3, none⟩) HLT.out).trans k3
      clear CP HE
      go_upto_region 10 with fail
      go_loopw [8, 39] (fun vt vi wr2 => ∃ m : Nat, vi = .int .i64 (m : Int) ∧ m ≤ KN ∧ Hid' (Own W0.heap.size vt (b3 ++ encP path ++ encK ((ks.take m).map (kidN ns))) wr2) ∧ Hid' (∀ a, a < m → 0 ≤ ks.getD a 0 ∧ ks.getD a 0 < (i : Int)) ∧ Below W0.heap.size W0 wr2) (fun _ vi _ => KN - (intOf vi).toNat)
      case atStart => exact ⟨0, rfl, Nat.zero_le _, ⟨by rw [List.take_zero]; show Own _ _ (b3 ++ encP path ++ []) _; rw [List.append_nil]; exact HI.out⟩, ⟨fun a ha => absurd ha (Nat.not_lt_zero _)⟩, bel⟩
      case round =>
        obtain ⟨m, rfl, hm, HJ, HLW, bl⟩ := hrel
        clear HI bel q3
        by_cases h2 : m < KN
        · obtain ⟨a, ea, hab, hcell⟩ := HKC.out m h2
          subst ea
          have d := (bl.cell (p := a.add m) (by rw [addBlock]; exact Nat.lt_trans hab HLT.out)).trans ((HP0.out.cell (p := a.add m) (by rw [addBlock, HU.out]; exact hab)).trans hcell)
          have HZN := hide' (lowB_no i ks m (by rw [HKN.out]; exact h2))
          obtain ⟨q, hq⟩ : ∃ q, ks.getD m 0 = q := ⟨_, rfl⟩
          have HQ := hide' hq
          have HCK := hide' (fun v => CK.out wr v m h2)
          have HTK := hide' (encK_take ks (kidN ns) m (by rw [HKN.out]; exact h2))
          rw [hq] at d HZN HCK HTK
          have HBL := hide' bl
          clear hcell hq bl
          by_cases hlo : 0 ≤ q ∧ q < (i : Int)
          · have hlo' := hlo
            obtain ⟨n, hn⟩ : ∃ n : Nat, q = (n : Int) := ⟨q.toNat, by omega⟩
            subst hn
            have hni : n < NN := by omega
            have CLk : Hid' (∀ W, Calls Tryz.prog 23 #[.int .i64 (n : Int), .int .i64 (i : Int)] W fun e w' => e = .returned (.bool true) ∧ w' = W) := ⟨fun W => by
              have := CL.out (n : Int) i W
              rw [decide_eq_true hlo.1, decide_eq_true hlo.2] at this
              exact this⟩
            obtain ⟨b, eb, hbb, hcb⟩ := HNC.out n (by omega)
            subst eb
            have d2 := (HBL.out.cell (p := b.add n) (by rw [addBlock]; exact Nat.lt_trans hbb HLT.out)).trans ((HP0.out.cell (p := b.add n) (by rw [addBlock, HU.out]; exact hbb)).trans hcb)
            have hkn : (ns.map fun n : Nat => (n : Int)).getD n 0 = ((kidN ns (n : Int) : Nat) : Int) := by
              unfold kidN
              rw [Int.toNat_natCast]
              simp [List.getD, List.getElem?_map]
              cases ns[n]? <;> rfl
            have hkm : kidN ns (n : Int) ≤ 9223372036854775807 := by
              unfold kidN
              have hh : n < ns.length := by rw [HNN.out]; omega
              rw [Int.toNat_natCast, show ns.getD n 0 = ns[n] by simp [List.getD, hh]]
              exact HNS.out _ (List.getElem_mem hh)
            have HC2 := hide' (HCK.out _ hkm HBL.out HJ.out)
            rw [hkn] at d2
            rw [List.append_assoc, ← HTK.out] at HC2
            obtain ⟨f, hf⟩ : ∃ f, kidN ns (n : Int) = f := ⟨_, rfl⟩
            rw [hf] at d2 HC2
            have HLO := hide' hlo'
            clear hkn hkm hf hcb hlo hlo' HCK HTK HZN
            go_wp2_with (first
              | (go_at_call 23; refine (CLk.out _).mono ?_; clear CLk; rintro e w5 ⟨rfl, h9⟩; replace h9 := h9.symm; subst h9)
              | (go_at_call 78; refine (HC2.out).mono ?_; clear HC2; rintro e w6 ⟨v6, rfl, o6, c6⟩; (have O6 := hide' o6); clear o6))
            go_roundw
            case rel => exact ⟨m + 1, by go_num, by omega, O6, ⟨fun a ha => by
              by_cases ham : a < m
              · exact HLW.out a ham
              · have : a = m := by omega
                subst this
                rw [HQ.out]
                exact HLO.out⟩, HBL.out.trans c6⟩
            case measure => first | (simp [intOf]; done) | (simp [intOf]; omega)
          · have HRF : Hid' (R = false) := ⟨by rw [← HR.out]; exact HZN.out hlo⟩
            have HZF : Hid' (Z = ⟨#[]⟩) := ⟨by rw [← HZ.out]; unfold lookB; rw [HR.out, HRF.out]; rfl⟩
            have CLk : Hid' (∀ W, Calls Tryz.prog 23 #[.int .i64 q, .int .i64 (i : Int)] W fun e w' => e = .returned (.bool false) ∧ w' = W) := ⟨fun W => by
              have := CL.out q i W
              have e1 : (decide ((0 : Int) ≤ q) && decide (q < (i : Int))) = false := by
                cases hb : (decide ((0 : Int) ≤ q) && decide (q < (i : Int))) with
                | false => rfl
                | true => exact absurd (by simpa using hb) hlo
              rw [e1] at this
              exact this⟩
            clear hlo HCK HTK HZN
            go_wp2_with (go_at_call 23; refine (CLk.out _).mono ?_; rintro e w5 ⟨rfl, h9⟩; replace h9 := h9.symm; subst h9)
            go_ret2
            rw [HRF.out, HZF.out]
            exact ⟨rfl, HP0.out.trans (HBL.out.mono HP0.out.size)⟩
        · have HRT : Hid' (R = true) := ⟨by rw [← HR.out]; exact lowB_at i ks (fun a ha => HLW.out a (by have := HKN.out; omega))⟩
          have HZT : Hid' (Z = ByteArray.mk (b3 ++ encP path ++ encK ((ks.take m).map (kidN ns))).toArray) := ⟨by
            rw [← HZ.out, List.take_of_length_le (by rw [HKN.out]; omega)]
            unfold lookB
            rw [HR.out, HRT.out, if_pos rfl, ← HB3.out, ← HB2.out, ← HB1.out]
            unfold encL
            simp only [List.append_assoc]⟩
          have hcv := own_string HJ.out
          obtain ⟨ao, cap, hvs⟩ := own_slice HJ.out
          rw [← HZT.out] at hcv
          have HBL := hide' bl
          generalize (b3 ++ encP path ++ encK ((ks.take m).map (kidN ns))) = fin at *
          generalize fin.length = FL at *
          subst hvs
          clear HJ HLW bl CK
          go_wp2
          go_ret2
          rw [HRT.out]
          exact ⟨rfl, HP0.out.trans (HBL.out.mono HP0.out.size)⟩
end Go.Proofs.YtbcmpacmoofdkaaGreatDoor
/- looks.of: numbers for trees. -/
namespace Go.Proofs.YtbcmpacmoofdkaaGreatDoor
open Go.ChangeShapes Go.WideShapes Go.ChangeAt Go.RowKit

/-- A node of modest size. -/
structure SmallN (t : Nod) : Prop where
  k0 : -9223372036854775808 ≤ t.kind
  k1 : t.kind ≤ 9223372036854775807
  tx : t.text.length ≤ 1048576
  pl : t.path.length ≤ 1048576
  ps : ∀ s ∈ t.path, s.length ≤ 1048576
  kl : t.kids.length ≤ 1048576
def resP (r : Nat) : Option (List Look × (Nat → Nat)) → Int
  | none => -1
  | some (_, f) => (f r : Int)
theorem encL_len (q : Look) (h0 : -9223372036854775808 ≤ q.1) (h1 : q.1 ≤ 9223372036854775807) (h2 : q.2.1.length ≤ 1048576) (h3 : q.2.2.1.length ≤ 1048576) (h4 : ∀ s ∈ q.2.2.1, s.length ≤ 1048576) (h5 : q.2.2.2.length ≤ 1048576) (h6 : ∀ n ∈ q.2.2.2, n ≤ 9223372036854775807) : (encL q).length ≤ 1300000000000 := by
  have a1 := itoa_len q.1 h0 h1
  have a2 := txtB_len q.2.1 h2
  have a3 := nmbB_len (q.2.2.1.length : Int) (by omega) (by omega)
  have a4 := encP_len q.2.2.1 h4
  have a5 := encK_len q.2.2.2 h6
  have a6 : q.2.2.1.length * 1048600 ≤ 1048576 * 1048600 := Nat.mul_le_mul_right _ h3
  have a7 : q.2.2.2.length * 21 ≤ 1048576 * 21 := Nat.mul_le_mul_right _ h5
  unfold encL
  simp only [List.length_append]
  omega
theorem kidN_range (r : Nat) (f : Nat → Nat) (k : Int) (h : k.toNat < r) : kidN ((List.range r).map f) k = f k.toNat := by
  unfold kidN
  simp [List.getD, h]
theorem reach_one (n r : Nat) (h : r < n) : reachI n [(r : Int)] = r + 1 := by
  unfold reachI
  rw [if_pos ⟨by omega, by omega⟩]
  simp [reachI]
theorem rdP_mono {B B' : Nat} {w : World} {v : Value} {l : List (List UInt8)} (h : RdP B w v l) (hb : B ≤ B') : RdP B' w v l := by
  obtain ⟨ao, cap, hv, hm, hc⟩ := h
  refine ⟨ao, cap, hv, hm, fun j hj => ?_⟩
  obtain ⟨a, ha, hl, hx⟩ := hc j hj
  exact ⟨a, ha, Nat.lt_of_lt_of_le hl hb, hx⟩
set_option maxRecDepth 100000 in
/-- What the map answers for a look. -/
theorem look_in {D : DataW Unit} {Ds : List Look} {w : World} {mb n : Nat} (om : w.ownsMap Tryz.prog 9 (plainElem Tryz.prog 3) mb n D) (ml : MapL D Ds) {q : Look} (hq : q ∈ Ds) {Z : ByteArray} (hk : keyOf Tryz.prog 9 (.string Z) = some (.string (encL q))) :
    (Instr.lookup 48 (.map (some mb)) (.string Z) true).run Tryz.prog w = .ok (.tuple #[.int .i64 (Ds.idxOf q : Nat), .bool true]) w := by
  obtain ⟨v, ps, hrun, hv⟩ := om.look_ok keyedS Tryz.underlying48 (zeroS w) (zd := .lit (.int .i64 0)) (zp := []) (plainElem_int Tryz.underlying3 (by decide)) hk
  obtain ⟨c, rfl, hc, _⟩ := plainElem_int_inv Tryz.underlying3 hv
  have h1 := (ml.2.2 q).1
  have h2 := (ml.2.2 q).2 hq (.lit (.int .i64 0))
  rw [decide_eq_true hq] at h1
  rw [hrun, h1]
  have hc1 := congrArg Prod.fst hc
  rw [h2] at hc1
  injection hc1 with hc1
  injection hc1 with _ hc1
  rw [hc1]
set_option maxRecDepth 100000 in
theorem look_out {D : DataW Unit} {Ds : List Look} {w : World} {mb n : Nat} (om : w.ownsMap Tryz.prog 9 (plainElem Tryz.prog 3) mb n D) (ml : MapL D Ds) {q : Look} (hq : q ∉ Ds) {Z : ByteArray} (hk : keyOf Tryz.prog 9 (.string Z) = some (.string (encL q))) :
    (Instr.lookup 48 (.map (some mb)) (.string Z) true).run Tryz.prog w = .ok (.tuple #[.int .i64 0, .bool false]) w := by
  obtain ⟨v, ps, hrun, hv⟩ := om.look_ok keyedS Tryz.underlying48 (zeroS w) (zd := .lit (.int .i64 0)) (zp := []) (plainElem_int Tryz.underlying3 (by decide)) hk
  obtain ⟨c, rfl, hc, _⟩ := plainElem_int_inv Tryz.underlying3 hv
  have h1 := (ml.2.2 q).1
  rw [decide_eq_false hq] at h1
  have h2 := Maps.atKey_of_not_has h1 (.lit (.int .i64 0))
  rw [hrun, h1]
  have hc1 := congrArg Prod.fst hc
  rw [h2] at hc1
  injection hc1 with hc1
  injection hc1 with _ hc1
  rw [hc1]
theorem IntR.upd {w : World} {g n m : Nat} {f : Nat → Nat} (h : IntR w g n (fun x => ((f x : Nat) : Int))) (hm : m < n) (c : Nat) : IntR (w.setCell ⟨g, m, none⟩ (.int .i64 (c : Int))) g n (fun x => ((updN f m c x : Nat) : Int)) := by
  refine (h.set hm (c : Int)).congr fun x _ => ?_
  by_cases e : x = m
  · subst e; rw [updN_same, updN_same]
  · rw [updN_other _ _ e, updN_other _ _ e]
theorem upd_le {f : Nat → Nat} {i c n : Nat} (hc : c ≤ n) (hf : ∀ x, f x ≤ n) (x : Nat) : updN f i c x ≤ n := by
  by_cases e : x = i
  · subst e; rw [updN_same]; exact hc
  · rw [updN_other _ _ e]; exact hf x
/-- The rest of a row of nodes, from one state of both. -/
theorem runP_cons (l : List Nod) (L : List Nat) (j : Nat) (hj : j < L.length) (D : List Look) (f : Nat → Nat) : runPs l (L.drop j) D f = if lowB (L.getD j 0) (l.getD (L.getD j 0) Nod.zero).kids = true then
      runPs l (L.drop (j + 1)) (if lookN (l.getD (L.getD j 0) Nod.zero) f ∈ D then D else D ++ [lookN (l.getD (L.getD j 0) Nod.zero) f]) (updN f (L.getD j 0) (D.idxOf (lookN (l.getD (L.getD j 0) Nod.zero) f)))
    else none := by
  rw [List.drop_eq_getElem_cons hj, show L.getD j 0 = L[j] by simp [List.getD, hj]]
  rfl
theorem look_same {t : Nod} {i : Nat} {R1 : Nat} {f : Nat → Nat} (hl : lowB i t.kids = true) (hi : i ≤ R1) : (t.kind, t.text, t.path, t.kids.map (kidN ((List.range R1).map f))) = lookN t f := by
  unfold lookN
  congr 3
  refine List.map_congr_left fun k hk => ?_
  have := lowB_mem hl hk
  exact kidN_range R1 f k (by omega)

set_option maxRecDepth 100000 in
set_option maxHeartbeats 8000000 in
theorem of_any (mb B : Nat) (D : DataW Unit) (Ds : List Look) (v : Value) (l : List Nod) (r : Nat) (w : World) (hB : B ≤ mb) (hmb : mb < w.heap.size) (hv : RdN B w v l) (hr : r < l.length) (hD : MapL D Ds) (hm : w.ownsMap Tryz.prog 9 (plainElem Tryz.prog 3) mb Ds.length D) (hDl : Ds.length ≤ 17592186044416) (hP : PowB B w) (hsm : ∀ j, j < l.length → SmallN (l.getD j Nod.zero)) :
    Calls Tryz.prog 20 #[.map (some mb), v, .int .i64 (r : Int)] w fun e w' => e = .returned (.int .i64 (resP r (runPs l (belowR (kidsOf l) r) Ds (fun _ => 0)))) ∧ Below B w w' ∧ w.heap.size ≤ w'.heap.size ∧
      ∀ D' f', runPs l (belowR (kidsOf l) r) Ds (fun _ => 0) = some (D', f') → ∃ Dd, w'.ownsMap Tryz.prog 9 (plainElem Tryz.prog 3) mb D'.length Dd ∧ MapL Dd D' ∧ D'.length ≤ Ds.length + l.length := by
  obtain ⟨j0, hj, jz0, jz1, jz2⟩ := info_parts infoInt
  have hBw : B ≤ w.heap.size := by omega
  have CB := hide' (fun W (b : Below B w W) rv (h1 : RdI W.heap.size W rv [(r : Int)]) => below_any v l rv [(r : Int)] W (rdN_mono (rdN_below hv b) (Nat.le_trans hBw b.size)) h1)
  rw [reach_one l.length r hr] at CB
  have hrows : belowN (kidsOf l) (r + 1) [(r : Int)] = belowR (kidsOf l) r := rfl
  rw [hrows] at CB
  have hle : ∀ x ∈ belowR (kidsOf l) r, x ≤ r := fun x hx => belowR_le hx
  obtain ⟨L, hL⟩ : ∃ L, belowR (kidsOf l) r = L := ⟨_, rfl⟩
  have hLl : L.length ≤ l.length := by
    rw [← hL]
    unfold belowR belowN
    have := List.length_filter_le (markF (kidsOf l) (r + 1) (rootsM (r + 1) [(r : Int)])) (List.range (r + 1))
    rw [List.length_range] at this
    omega
  have hrt : r ∈ L := by rw [← hL]; exact belowR_root _ r
  rw [hL] at CB hle ⊢
  clear hrows hL
  have HLE : Hid' (∀ j, j < L.length → L.getD j 0 ≤ r) := ⟨fun j hj => hle _ (by rw [show L.getD j 0 = L[j] by simp [List.getD, hj]]; exact List.getElem_mem hj)⟩
  obtain ⟨RES, hRES⟩ : ∃ RES, runPs l L Ds (fun _ => 0) = RES := ⟨_, rfl⟩
  have HST := hide' (runP_cons l L)
  have HSM := hide' hsm
  obtain ⟨vo, vc, hvv, hvl, hvc⟩ := hv
  subst hvv
  have HVC := hide' hvc
  obtain ⟨LL, hLL⟩ : ∃ LL, l.length = LL := ⟨_, rfl⟩
  obtain ⟨LN, hLN⟩ : ∃ LN, L.length = LN := ⟨_, rfl⟩
  have HLL := hide' hLL
  have HLN := hide' hLN
  rw [hLL] at hr hvl hLl CB HSM HVC ⊢
  rw [hLN] at hLl HLE HST
  obtain ⟨R1, hR1⟩ : ∃ R1, r + 1 = R1 := ⟨_, rfl⟩
  have hR1i : (r : Int) + 1 = (R1 : Int) := by omega
  have HRES := hide' hRES
  rw [hRES]
  clear hvc hsm hle hLL hLN hRES
  go_enter Tryz.func20, Tryz.ntmps20
  go_upto_region 3 with (first
    | (at_make; refine wpList_make_full _ rfl _ _ 28 rfl w.heap.size 3 j0 _ 1 Tryz.underlying28 hj jz0 jz1 _ _ _ _ R1 rfl rfl rfl rfl (by rw [jz2]; omega) (by unfold maxLen; omega) (Nat.le_refl _) ?_; intro w1 o1 g1; (have B1 := (Below.refl w.heap.size w).grown g1 (Nat.le_refl _) (fun k e => by cases e)); (have I1 := hide' (int_made o1)); (have s1 : w.heap.size < w1.heap.size := (o1.lt _ rfl).2); clear o1 g1)
    | (go_at_call 9; refine (CB.out _ (((B1.mono hBw).alloc (Nat.le_trans hBw (Nat.le_of_lt s1)) _)) _ (rdI_box _ _ _)).mono ?_; clear CB; rintro e w2 ⟨va, rfl, ov, b2⟩; (obtain ⟨ao, cap, hva⟩ := ownI_slice ov); subst hva))
  rw [HLN.out]
  have s2 : w1.heap.size + 1 ≤ w2.heap.size := by have := b2.size; simpa using this
  have b12 : Below w1.heap.size w1 w2 := ((Below.refl _ w1).alloc (Nat.le_refl _) _).trans (b2.mono (by simp))
  have HB2 : Hid' (Below w.heap.size w w2) := ⟨B1.trans (b12.mono (Nat.le_of_lt s1))⟩
  have HI2 : Hid' (IntR w2 w.heap.size R1 (fun _ => 0)) := ⟨I1.out.below b12 s1⟩
  have HC : Hid' (∀ j, j < LN → ∃ g, ao = some ⟨g, 0, none⟩ ∧ w1.heap.size ≤ g ∧ g < w2.heap.size ∧ w2.cell? ⟨g, j, none⟩ = some (.int .i64 ((L.getD j 0 : Nat) : Int))) := ⟨fun j hj => by
    have ho := ov
    unfold OwnI at ho
    have hj' : j < L.length := by rw [HLN.out]; exact hj
    obtain ⟨g, c, hvv, hg, hlt⟩ := ho.form (by omega)
    injection hvv with e1 e2 e3
    refine ⟨g, e1, by have : w1.heap.size + 1 ≤ g := by simpa using hg
                      omega, hlt, ?_⟩
    subst e1 e3
    rw [ho.cellAt j (by omega)]
    simp [intCells, hj']⟩
  have HM2 : Hid' (w2.ownsMap Tryz.prog 9 (plainElem Tryz.prog 3) mb Ds.length D) := ⟨ownsMap_below hm HB2.out⟩
  clear ov b2 b12 I1 B1 hm
  have hs2 : w.heap.size < w2.heap.size := by omega
  go_loopw [22] (fun vi wr => ∃ j : Nat, vi = .int .i64 (j : Int) ∧ j ≤ LN ∧ Hid' (∃ (Dd : DataW Unit) (Dj : List Look) (f : Nat → Nat), wr.ownsMap Tryz.prog 9 (plainElem Tryz.prog 3) mb Dj.length Dd ∧ MapL Dd Dj ∧ IntR wr w.heap.size R1 (fun x => ((f x : Nat) : Int)) ∧ runPs l (L.drop j) Dj f = RES ∧ (∀ x, f x ≤ Dj.length) ∧ Dj.length ≤ Ds.length + j) ∧ Hid' (∀ g, ao = some ⟨g, 0, none⟩ → ∀ m, m < LN → wr.cell? ⟨g, m, none⟩ = some (.int .i64 ((L.getD m 0 : Nat) : Int))) ∧ Below B w wr ∧ w2.heap.size ≤ wr.heap.size) (fun vi _ => LN - (intOf vi).toNat)
  case atStart => exact ⟨0, rfl, Nat.zero_le _, ⟨⟨D, Ds, fun _ => 0, HM2.out, hD, HI2.out, by rw [List.drop_zero]; exact HRES.out, fun _ => Nat.zero_le _, by omega⟩⟩, ⟨fun g eg m hm => by
    obtain ⟨g', eg', _, _, hc⟩ := HC.out m hm
    rw [eg] at eg'
    injection eg' with eg'
    injection eg' with eg'
    rw [eg']; exact hc⟩, HB2.out.mono hBw, Nat.le_refl _⟩
  case round =>
    obtain ⟨j, rfl, hjl, HI, HCw, bel, hsz⟩ := hrel
    obtain ⟨Dd, Dj, f, om, ml, ir, hrun, hf, hdl⟩ := HI.out
    have HIR := hide' ir
    have HOM := hide' om
    have HML := hide' ml
    have HF := hide' hf
    have HRUN := hide' hrun
    have HBL := hide' bel
    clear HI om ml ir hf hrun HM2 HI2
    by_cases h1 : j < LN
    · obtain ⟨g, ea, hg1, hg2, _⟩ := HC.out j h1
      subst ea
      have d := HCw.out g rfl j h1
      have hir := HLE.out j h1
      have HSTj := hide' (HST.out j h1 Dj f)
      obtain ⟨i, hi⟩ : ∃ i, L.getD j 0 = i := ⟨_, rfl⟩
      rw [hi] at d hir HSTj
      clear hi
      have hiL : i < LL := by omega
      obtain ⟨g', o', pv, kv, ea, hgB, ⟨c0, c1, c2, c3, c4, c5, rp, rk⟩⟩ := HVC.out i hiL
      subst ea
      have hsi := HSM.out i hiL
      generalize l.getD i Nod.zero = t at *
      obtain ⟨po, pc, hpv, _, _⟩ := id rp
      subst hpv
      obtain ⟨ko, kc, hkv, _, _⟩ := id rk
      subst hkv
      have e0 := (HBL.out.cell (p := ⟨g', o' + i * 6, none⟩) hgB).trans c0
      have e1 := (HBL.out.cell (p := ⟨g', o' + i * 6 + 1, none⟩) hgB).trans c1
      have e2 := (HBL.out.cell (p := ⟨g', o' + i * 6 + 2, none⟩) hgB).trans c2
      have e3 := (HBL.out.cell (p := ⟨g', o' + i * 6 + 3, none⟩) hgB).trans c3
      have e4 := (HBL.out.cell (p := ⟨g', o' + i * 6 + 4, none⟩) hgB).trans c4
      have e5 := (HBL.out.cell (p := ⟨g', o' + i * 6 + 5, none⟩) hgB).trans c5
      have hBwr : B ≤ wr.heap.size := Nat.le_trans hBw HBL.out.size
      have hns : ((List.range R1).map f).length = R1 := by simp
      have HLK := hide' (lookOf_any po pc t.path ko kc t.kids t.kind t.line t.column ⟨t.text.toArray⟩ i (some ⟨w.heap.size, 0, none⟩) R1 ((List.range R1).map f) wr (rdP_mono (rdP_below rp HBL.out) hBwr) (rdI_mono (rdI_below rk HBL.out) hBwr) (by
        have := HIR.out.rdI (B := wr.heap.size) (by omega) (by omega)
        rw [hns, List.map_map]
        exact this) (by rw [hns]; omega) (by rw [hns]; omega) (hP.on HBL.out hBwr) hsi.k0 hsi.k1 (by show t.text.toArray.size ≤ _; rw [List.size_toArray]; exact hsi.tx) hsi.pl hsi.ps hsi.kl (fun n hn => by
          rw [List.mem_map] at hn
          obtain ⟨x, _, rfl⟩ := hn
          have := HF.out x
          omega))
      rw [hns] at HLK
      have HQE : Hid' (lowB i t.kids = true → lookB t.kind (ByteArray.mk t.text.toArray).data.toList t.path i t.kids ((List.range R1).map f) = encL (lookN t f)) := ⟨fun hl => by
        unfold lookB
        rw [if_pos hl, ← look_same (R1 := R1) hl (by omega)]⟩
      have HQL : Hid' ((encL (lookN t f)).length ≤ 1300000000000) := ⟨encL_len _ hsi.k0 hsi.k1 hsi.tx hsi.pl hsi.ps (by unfold lookN; rw [List.length_map]; exact hsi.kl) (fun n hn => by
        unfold lookN at hn
        rw [List.mem_map] at hn
        obtain ⟨x, _, rfl⟩ := hn
        have := HF.out x.toNat
        omega)⟩
      obtain ⟨q, hq⟩ : ∃ q, lookN t f = q := ⟨_, rfl⟩
      rw [hq] at HQE HQL HSTj
      clear hq c0 c1 c2 c3 c4 c5 rp rk hns hsi
      cases hlb : lowB i t.kids with
      | false =>
        rw [hlb] at HLK HSTj
        rw [if_neg (by decide)] at HSTj
        have HN : Hid' (RES = none) := ⟨by rw [← HRUN.out]; exact HSTj.out⟩
        generalize lookB t.kind (ByteArray.mk t.text.toArray).data.toList t.path i t.kids ((List.range R1).map f) = bz at *
        generalize ByteArray.mk t.text.toArray = tx at *
        generalize t.path.length = PN at *
        generalize t.kids.length = KN at *
        generalize t.kind = kd at *
        generalize t.line = ln at *
        generalize t.column = cl at *
        generalize ByteArray.mk bz.toArray = Z at *
        clear HSTj HQE HQL HIR HOM HML HRUN HF hlb
        go_wp2_with (go_at_call 41; refine HLK.out.mono ?_; clear HLK; rintro e w3 ⟨rfl, b3⟩)
        go_ret
        rw [HN.out]
        exact ⟨rfl, HBL.out.trans (b3.mono hBwr), Nat.le_trans HBL.out.size b3.size, fun D' f' h => by cases h⟩
      | true =>
        rw [hlb] at HLK HSTj
        rw [if_pos rfl] at HSTj
        rw [HQE.out hlb] at HLK
        obtain ⟨Z, hZ⟩ : ∃ Z, ByteArray.mk (encL q).toArray = Z := ⟨_, rfl⟩
        have hkey : keyOf Tryz.prog 9 (.string Z) = some (.string (encL q)) := by
          have h0 : Z.size ≤ maxLen := by
            rw [← hZ]
            show (encL q).toArray.size ≤ maxLen
            rw [List.size_toArray]
            have := HQL.out
            unfold maxLen; omega
          have h1 := WideMaps.keyOf_string_mk (P := Tryz.prog) (k := 9) Tryz.underlying9 h0
          rw [h1, ← hZ]
        rw [hZ] at HLK
        have hir1 : i < R1 := by omega
        generalize lookB t.kind (ByteArray.mk t.text.toArray).data.toList t.path i t.kids ((List.range R1).map f) = bz at *
        generalize ByteArray.mk t.text.toArray = tx at *
        generalize t.path.length = PN at *
        generalize t.kids.length = KN at *
        generalize t.kind = kd at *
        generalize t.line = ln at *
        generalize t.column = cl at *
        have hwne : w.heap.size ≠ mb := by omega
        have hgne : g ≠ mb := by omega
        have hgnw : g ≠ w.heap.size := by omega
        by_cases hqd : q ∈ Dj
        · rw [if_pos hqd] at HSTj
          have HKL : Hid' (∀ W, Below wr.heap.size wr W → (Instr.lookup 48 (.map (some mb)) (.string Z) true).run Tryz.prog W = .ok (.tuple #[.int .i64 (Dj.idxOf q : Nat), .bool true]) W) := ⟨fun W b => look_in (ownsMap_below HOM.out b) HML.out hqd hkey⟩
          obtain ⟨c, hc⟩ : ∃ c, Dj.idxOf q = c := ⟨_, rfl⟩
          have hcl : c < Dj.length := by rw [← hc]; exact List.idxOf_lt_length_of_mem hqd
          rw [hc] at HKL HSTj
          have HRS : Hid' (runPs l (L.drop (j + 1)) Dj (updN f i c) = RES) := ⟨by rw [← HSTj.out]; exact HRUN.out⟩
          clear hkey hqd hc HSTj HQE HQL HRUN hlb hZ
          go_wp2_with (go_at_call 41; refine HLK.out.mono ?_; clear HLK; rintro e w3 ⟨rfl, b3⟩; (have hlk := HKL.out w3 b3); (have HIR3 := hide' (HIR.out.below b3 (by omega))); (have cn := HIR3.out.cells i hir1); (have fn := HIR3.out.froze i hir1); (have s3 := b3.size))
          go_roundw
          case rel => exact ⟨j + 1, by go_num, by omega, ⟨⟨Dd, Dj, updN f i c, (ownsMap_below HOM.out b3).setCell (a := ⟨w.heap.size, i, none⟩) (fun e => hwne e.symm) _, HML.out, HIR3.out.upd hir1 c, HRS.out, upd_le (Nat.le_of_lt hcl) HF.out, by omega⟩⟩, ⟨fun g2 eg m hm => by
            injection eg with eg
            injection eg with eg
            subst eg
            rw [World.cell?_setCell_other _ _ _ _ (by intro e; injection e with e; exact hgnw e.symm)]
            rw [b3.cell (p := ⟨g, m, none⟩) (by show g < _; omega)]
            exact HCw.out g rfl m hm⟩, (HBL.out.trans (b3.mono hBwr)).setCell (p := ⟨w.heap.size, i, none⟩) hBw _, by simp; omega⟩
          case measure => first | (simp [intOf]; done) | (simp [intOf]; omega)
        · rw [if_neg hqd] at HSTj
          have HKL : Hid' (∀ W, Below wr.heap.size wr W → (Instr.lookup 48 (.map (some mb)) (.string Z) true).run Tryz.prog W = .ok (.tuple #[.int .i64 0, .bool false]) W) := ⟨fun W b => look_out (ownsMap_below HOM.out b) HML.out hqd hkey⟩
          have HLN2 : Hid' (∀ W, Below wr.heap.size wr W → ∀ ty, (Builtin.len_ #[48] ty #[.map (some mb)]).run Tryz.prog W = .ok (.int .i64 (Dj.length : Nat)) W) := ⟨fun W b ty => by
            have := (ownsMap_below HOM.out b).len Tryz.underlying48 ty
            rw [HML.out.2.1] at this
            exact this⟩
          obtain ⟨c, hc⟩ : ∃ c, Dj.length = c := ⟨_, rfl⟩
          have hidx : Dj.idxOf q = c := by rw [← hc]; exact idxOf_new Dj q hqd
          have HMP := hide' (mapL_put HML.out hqd)
          rw [hidx] at HSTj
          rw [hc] at HLN2 HMP hdl HOM HF
          have HRS : Hid' (runPs l (L.drop (j + 1)) (Dj ++ [q]) (updN f i c) = RES) := ⟨by rw [← HSTj.out]; exact HRUN.out⟩
          have HCL : Hid' ((Dj ++ [q]).length = c + 1) := ⟨by rw [List.length_append, hc]; rfl⟩
          have HKEY := hide' hkey
          clear hkey hqd hc HSTj HQE HQL HRUN hlb hZ hidx
          have hcm : c < maxLen := by unfold maxLen; omega
          have hci : plainElem (H := Unit) Tryz.prog 3 (.int .i64 (c : Int)) = some (.lit (.int .i64 (c : Int)), []) := plainElem_int Tryz.underlying3 (by
            have h1 : IntKind.i64.min = -9223372036854775808 := by decide
            have h2 : IntKind.i64.max = 9223372036854775807 := by decide
            show (decide (IntKind.i64.min ≤ (c : Int)) && decide ((c : Int) ≤ IntKind.i64.max)) = true
            rw [h1, h2, decide_eq_true (show (-9223372036854775808 : Int) ≤ (c : Int) by omega), decide_eq_true (show (c : Int) ≤ 9223372036854775807 by omega)]
            rfl)
          have HCI := hide' hci
          clear hci
          go_wp2_with (first
            | (go_at_call 41; refine HLK.out.mono ?_; clear HLK; rintro e w3 ⟨rfl, b3⟩; (have hlk := HKL.out w3 b3); (have hln := HLN2.out w3 b3); (have HO3 := hide' (ownsMap_below HOM.out b3)); (have HIR3 := hide' (HIR.out.below b3 (by omega))); (have s3 := b3.size))
            | (at_mapUpdate; refine wpList_mapUpdate_own _ rfl _ _ _ 48 rfl 9 3 keyedS Tryz.underlying48 _ mb c Dd rfl HO3.out hcm _ _ (.string (encL q)) rfl rfl HKEY.out (.lit (.int .i64 (c : Int))) [] HCI.out ?_; intro w4 om4 g4; (have HO4 := hide' om4); (have HIR4 := hide' (HIR3.out.grown g4 (by omega) (by intro e; injection e with e; exact hwne e))); (have cn := HIR4.out.cells i hir1); (have fn := HIR4.out.froze i hir1); (have s4 := g4.size); (have HG4 := hide' g4); clear om4 g4)
            | go_in)
          go_roundw
          case rel => exact ⟨j + 1, by go_num, by omega, ⟨⟨_, Dj ++ [q], updN f i c, by rw [HCL.out]; exact HO4.out.setCell (a := ⟨w.heap.size, i, none⟩) (fun e => hwne e.symm) _, HMP.out, HIR4.out.upd hir1 c, HRS.out, by rw [HCL.out]; exact upd_le (by omega) (fun x => Nat.le_trans (HF.out x) (by omega)), by rw [HCL.out]; omega⟩⟩, ⟨fun g2 eg m hm => by
            injection eg with eg
            injection eg with eg
            subst eg
            rw [World.cell?_setCell_other _ _ _ _ (by intro e; injection e with e; exact hgnw e.symm)]
            rw [World.cell?_of_block (a := ⟨g, m, none⟩) (HG4.out.block g (by omega) (by intro e; injection e with e; exact hgne e))]
            rw [b3.cell (p := ⟨g, m, none⟩) (by show g < _; omega)]
            exact HCw.out g rfl m hm⟩, ((HBL.out.trans (b3.mono hBwr)).grown HG4.out (by omega) (fun k hk => by injection hk with hk; omega)).setCell (p := ⟨w.heap.size, i, none⟩) hBw _, by simp; omega⟩
          case measure => first | (simp [intOf]; done) | (simp [intOf]; omega)
    · have hjn : j = LN := by omega
      have HR : Hid' (RES = some (Dj, f)) := ⟨by
        rw [← HRUN.out, List.drop_eq_nil_of_le (by rw [HLN.out]; omega)]
        rfl⟩
      have cn := HIR.out.cells r (by omega)
      clear hjn
      go_wp2_with fail
      go_ret
      rw [HR.out]
      refine ⟨rfl, HBL.out, by omega, fun D' f' h => ?_⟩
      injection h with h
      injection h with h1 h2
      subst h1 h2
      exact ⟨Dd, HOM.out, HML.out, by omega⟩
end Go.Proofs.YtbcmpacmoofdkaaGreatDoor
/- Same: the program's way, at any nodes. -/
namespace Go.Proofs.YtbcmpacmoofdkaaGreatDoor
open Go.ChangeShapes Go.WideShapes Go.ChangeAt Go.RowKit

/-- Both are nodes, and the trees are the same. -/
def sameA (a : List Nod) (i : Int) (b : List Nod) (k : Int) : Bool := if (0 ≤ i ∧ i < (a.length : Int)) ∧ (0 ≤ k ∧ k < (b.length : Int)) then sameP a i.toNat b k.toNat else false

set_option maxRecDepth 100000 in
set_option maxHeartbeats 8000000 in
theorem sameP_out (va vb : Value) (a b : List Nod) (i k : Int) (w : World) (ha : RdN w.heap.size w va a) (hb : RdN w.heap.size w vb b) (h : ¬ ((0 ≤ i ∧ i < (a.length : Int)) ∧ (0 ≤ k ∧ k < (b.length : Int)))) :
    Calls Tryz.prog 11 #[va, .int .i64 i, vb, .int .i64 k] w fun e w' => e = .returned (.bool false) ∧ Below w.heap.size w w' := by
  obtain ⟨ao, ac, hva, hal, _⟩ := ha
  subst hva
  obtain ⟨bo, bc, hvb, hbl, _⟩ := hb
  subst hvb
  have CI := hide' (fun W => within_any ao a.length ac i W)
  have CK := hide' (fun W => within_any bo b.length bc k W)
  obtain ⟨p, hp⟩ : ∃ p, (decide (0 ≤ i) && decide (i < (a.length : Int))) = p := ⟨_, rfl⟩
  obtain ⟨q, hq⟩ : ∃ q, (decide (0 ≤ k) && decide (k < (b.length : Int))) = q := ⟨_, rfl⟩
  have hpq : p = false ∨ (p = true ∧ q = false) := by
    cases p with
    | false => exact .inl rfl
    | true =>
      cases q with
      | false => exact .inr ⟨rfl, rfl⟩
      | true => exact absurd ⟨by simpa using hp, by simpa using hq⟩ h
  rw [hp] at CI
  rw [hq] at CK
  generalize a.length = AL at *
  generalize b.length = BL at *
  clear hp hq h
  rcases hpq with rfl | ⟨rfl, rfl⟩
  · clear CK
    go_enter Tryz.func11, Tryz.ntmps11
    go_wp2_with (go_at_call 13; refine (CI.out _).mono ?_; clear CI; rintro e w1 ⟨rfl, h9⟩; replace h9 := h9.symm; subst h9)
    go_ret
    exact ⟨rfl, Below.refl _ _⟩
  · go_enter Tryz.func11, Tryz.ntmps11
    go_wp2_with (first
      | (go_at_call 13; refine (CI.out _).mono ?_; clear CI; rintro e w1 ⟨rfl, h9⟩; replace h9 := h9.symm; subst h9)
      | (go_at_call 13; refine (CK.out _).mono ?_; clear CK; rintro e w1 ⟨rfl, h9⟩; replace h9 := h9.symm; subst h9))
    go_ret
    exact ⟨rfl, Below.refl _ _⟩

set_option maxRecDepth 100000 in
set_option maxHeartbeats 8000000 in
theorem sameP_in (va vb : Value) (a b : List Nod) (i k : Nat) (w : World) (ha : RdN w.heap.size w va a) (hb : RdN w.heap.size w vb b) (hi : i < a.length) (hk : k < b.length) (hP : PowB w.heap.size w) (hsa : ∀ j, j < a.length → SmallN (a.getD j Nod.zero)) (hsb : ∀ j, j < b.length → SmallN (b.getD j Nod.zero)) :
    Calls Tryz.prog 11 #[va, .int .i64 (i : Int), vb, .int .i64 (k : Int)] w fun e w' => e = .returned (.bool (sameP a i b k)) ∧ Below w.heap.size w w' := by
  have hmm := @run_makeMap Tryz.prog
  obtain ⟨W0, hW0⟩ : ∃ W0, w.alloc (.map #[] 0) = W0 := ⟨_, rfl⟩
  have B0 : Below w.heap.size w W0 := by rw [← hW0]; exact (Below.refl _ _).alloc (Nat.le_refl _) _
  have hlt0 : w.heap.size < W0.heap.size := by rw [← hW0]; simp
  have om0 : W0.ownsMap Tryz.prog 9 (plainElem (H := Unit) Tryz.prog 3) w.heap.size ([] : List Look).length (.map []) := by rw [← hW0]; exact World.ownsMap_made _ _ _ _
  have hal : a.length ≤ 8796093022208 := by obtain ⟨_, _, _, h, _⟩ := ha; exact h
  have CA := hide' (of_any w.heap.size w.heap.size (.map []) [] va a i W0 (Nat.le_refl _) hlt0 (rdN_below ha B0) hi mapL_nil om0 (by simp) (hP.on B0 (Nat.le_refl _)) hsa)
  have CB := hide' (fun (Dd : DataW Unit) (D' : List Look) W (bw : Below w.heap.size w W) (hs : w.heap.size < W.heap.size) (ml : MapL Dd D') (om : W.ownsMap Tryz.prog 9 (plainElem Tryz.prog 3) w.heap.size D'.length Dd) (hl : D'.length ≤ ([] : List Look).length + a.length) => of_any w.heap.size w.heap.size Dd D' vb b k W (Nat.le_refl _) hs (rdN_below hb bw) hk ml om (by simp at hl; omega) (hP.on bw (Nat.le_refl _)) hsb)
  have CI := hide' (within_any)
  obtain ⟨ao, ac, hva, _, _⟩ := ha
  subst hva
  obtain ⟨bo, bc, hvb, _, _⟩ := hb
  subst hvb
  have CI1 := hide' (fun W => CI.out ao a.length ac (i : Int) W)
  have CK1 := hide' (fun W => CI.out bo b.length bc (k : Int) W)
  rw [decide_eq_true (show (0 : Int) ≤ (i : Int) by omega), decide_eq_true (show (i : Int) < (a.length : Int) by omega)] at CI1
  rw [decide_eq_true (show (0 : Int) ≤ (k : Int) by omega), decide_eq_true (show (k : Int) < (b.length : Int) by omega)] at CK1
  obtain ⟨R, hR⟩ : ∃ R, sameP a i b k = R := ⟨_, rfl⟩
  have HR := hide' hR
  rw [hR]
  unfold sameP at HR
  generalize a.length = AL at *
  generalize b.length = BL at *
  have HB0 := hide' B0
  have HLT := hide' hlt0
  clear hR CI B0 om0 hP hsa hsb hal
  cases h1 : runPs a (belowR (kidsOf a) i) [] (fun _ => 0) with
  | none =>
    rw [h1] at CA
    have HRF : Hid' (R = false) := ⟨by rw [← HR.out]; show (match runPs a (belowR (kidsOf a) i) [] (fun _ => 0) with | none => false | some (D, f) => _) = false; rw [h1]⟩
    clear CB HR h1
    unfold resP at CA
    go_enter Tryz.func11, Tryz.ntmps11
    go_wp2_with (first
      | (go_at_call 13; refine (CI1.out _).mono ?_; clear CI1; rintro e w1 ⟨rfl, h9⟩; replace h9 := h9.symm; subst h9)
      | (go_at_call 13; refine (CK1.out _).mono ?_; clear CK1; rintro e w1 ⟨rfl, h9⟩; replace h9 := h9.symm; subst h9)
      | (go_at_call 20; refine (CA.out).mono ?_; clear CA; rintro e w2 ⟨rfl, b2, _, _⟩))
    go_ret
    rw [HRF.out]
    exact ⟨rfl, HB0.out.trans b2⟩
  | some s =>
    obtain ⟨D1, f1⟩ := s
    rw [h1] at CA
    have hRs : R = (match runPs b (belowR (kidsOf b) k) D1 (fun _ => 0) with | none => false | some (_, f') => decide (f1 i = f' k)) := by
      rw [← HR.out]
      show (match runPs a (belowR (kidsOf a) i) [] (fun _ => 0) with | none => false | some (D, f) => _) = _
      rw [h1]
      rfl
    have hcr : resP i (some (D1, f1)) = ((f1 i : Nat) : Int) := rfl
    rw [hcr] at CA
    have hne : (((f1 i : Nat) : Int) != -1) = true := by rw [bne_iff_ne]; omega
    obtain ⟨n1, hn1⟩ : ∃ n1, f1 i = n1 := ⟨_, rfl⟩
    rw [hn1] at CA hRs hne
    have HRS := hide' hRs
    obtain ⟨n2, hn2⟩ : ∃ n2, resP k (runPs b (belowR (kidsOf b) k) D1 (fun _ => 0)) = n2 := ⟨_, rfl⟩
    have HRE : Hid' (R = (((n1 : Nat) : Int) == n2)) := ⟨by
      rw [HRS.out, ← hn2]
      cases h2 : runPs b (belowR (kidsOf b) k) D1 (fun _ => 0) with
      | none => show false = (((n1 : Nat) : Int) == -1); symm; rw [beq_eq_false_iff_ne]; omega
      | some s =>
        obtain ⟨D2, f2⟩ := s
        show decide (n1 = f2 k) = (((n1 : Nat) : Int) == ((f2 k : Nat) : Int))
        by_cases e : n1 = f2 k
        · rw [decide_eq_true e, e]; simp
        · rw [decide_eq_false e]; symm; rw [beq_eq_false_iff_ne]; omega⟩
    have CB1 : Hid' (∀ W, Below w.heap.size w W → w.heap.size < W.heap.size → (∃ Dd, W.ownsMap Tryz.prog 9 (plainElem (H := Unit) Tryz.prog 3) w.heap.size D1.length Dd ∧ MapL Dd D1 ∧ D1.length ≤ ([] : List Look).length + AL) → Calls Tryz.prog 20 #[.map (some w.heap.size), .slice bo BL bc, .int .i64 (k : Int)] W fun e w' => e = .returned (.int .i64 n2) ∧ Below w.heap.size W w') := ⟨fun W bw hs ⟨Dd, om, ml, hl⟩ => by
      refine (CB.out Dd D1 W bw hs ml om hl).mono ?_
      rintro e w' ⟨h1, h2, _, _⟩
      rw [hn2] at h1
      exact ⟨h1, h2⟩⟩
    clear CB HR h1 hRs HRS hcr hn1 hn2
    go_enter Tryz.func11, Tryz.ntmps11
    go_wp2_with (first
      | (go_at_call 13; refine (CI1.out _).mono ?_; clear CI1; rintro e w1 ⟨rfl, h9⟩; replace h9 := h9.symm; subst h9)
      | (go_at_call 13; refine (CK1.out _).mono ?_; clear CK1; rintro e w1 ⟨rfl, h9⟩; replace h9 := h9.symm; subst h9)
      | (go_at_call 20; refine (CA.out).mono ?_; clear CA; rintro e w2 ⟨rfl, b2, s2, m2⟩; (have HM2 := hide' (m2 _ _ rfl)); (have HB2 : Hid' (Below w.heap.size w w2) := ⟨HB0.out.trans b2⟩); clear m2)
      | (go_at_call 20; refine (CB1.out _ HB2.out (Nat.lt_of_lt_of_le HLT.out s2) HM2.out).mono ?_; clear CB1; rintro e w3 ⟨rfl, b3⟩))
    go_ret
    rw [HRE.out]
    exact ⟨rfl, HB2.out.trans b3⟩
theorem sameP_any (va vb : Value) (a b : List Nod) (i k : Int) (w : World) (ha : RdN w.heap.size w va a) (hb : RdN w.heap.size w vb b) (hP : PowB w.heap.size w) (hsa : ∀ j, j < a.length → SmallN (a.getD j Nod.zero)) (hsb : ∀ j, j < b.length → SmallN (b.getD j Nod.zero)) :
    Calls Tryz.prog 11 #[va, .int .i64 i, vb, .int .i64 k] w fun e w' => e = .returned (.bool (sameA a i b k)) ∧ Below w.heap.size w w' := by
  unfold sameA
  by_cases h : (0 ≤ i ∧ i < (a.length : Int)) ∧ (0 ≤ k ∧ k < (b.length : Int))
  · rw [if_pos h]
    obtain ⟨n, rfl⟩ : ∃ n : Nat, i = (n : Int) := ⟨i.toNat, by omega⟩
    obtain ⟨m, rfl⟩ : ∃ m : Nat, k = (m : Int) := ⟨k.toNat, by omega⟩
    exact sameP_in va vb a b n m w ha hb (by omega) (by omega) hP hsa hsb
  · rw [if_neg h]
    exact sameP_out va vb a b i k w ha hb h
end Go.Proofs.YtbcmpacmoofdkaaGreatDoor
