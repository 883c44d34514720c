/- The library's reader of whole numbers at base 10 and 16, eight bits. -/
import Derived.Test.YtbcmpacmoofdkaaGreatDoorProg
import Derived.Test.YtbcmpacmoofdkaaGreatDoorShelf
import Derived.Test.YtbcmpacmoofdkaaGreatDoorLexB
import Derived.Test.YtbcmpacmoofdkaaGreatDoorStrM
import Derived.WalkKit
import Derived.ProofKit
import Derived.OpenShut
import Derived.Below
import Derived.WalkLawsBesides
import Derived.OwnWalk
import Derived.Lib.ConvBytes
namespace Go.Proofs.YtbcmpacmoofdkaaGreatDoor
open Go.ChangeShapes Go.WideShapes Go.ChangeAt Go.RowKit

/-- Digits one by one, held at 255. -/
def pu (base : Nat) : Nat → List UInt8 → Option Nat
  | v, [] => some v
  | v, c :: r => if worthN c < base then (if 255 < v * base + worthN c then none else pu base (v * base + worthN c) r) else none

theorem low_all : ∀ n : Fin 256, (65 ≤ n.val ∧ n.val ≤ 90 ∧ bits .or .u8 (n.val : Int) 32 = (n.val : Int) + 32) ∨ (97 ≤ n.val ∧ n.val ≤ 122 ∧ bits .or .u8 (n.val : Int) 32 = (n.val : Int)) ∨ (¬ (65 ≤ n.val ∧ n.val ≤ 90) ∧ ¬ (97 ≤ n.val ∧ n.val ≤ 122) ∧ (bits .or .u8 (n.val : Int) 32 < 97 ∨ 122 < bits .or .u8 (n.val : Int) 32)) := by decide +kernel
theorem low_any (n : Nat) (h : n < 256) : ∃ v : Int, bits .or .u8 (n : Int) 32 = v ∧ 0 ≤ v ∧ v ≤ 255 ∧ ((65 ≤ n ∧ n ≤ 90 ∧ v = (n : Int) + 32) ∨ (97 ≤ n ∧ n ≤ 122 ∧ v = (n : Int)) ∨ (¬ (65 ≤ n ∧ n ≤ 90) ∧ ¬ (97 ≤ n ∧ n ≤ 122) ∧ (v < 97 ∨ 122 < v))) :=
  ⟨_, rfl, bits_lo_u8 _ _ _, bits_hi_u8 _ _ _, low_all ⟨n, h⟩⟩
theorem lowerS_any (c v : Int) (w : World) (h : bits .or .u8 c 32 = v) : Calls Tryz.prog 214 #[.int .u8 c] w fun e w' => e = .returned (.int .u8 v) ∧ w' = w := by
  have H := hide h
  clear h
  go_enter Tryz.func214, Tryz.ntmps214
  go_wp2
  go_ret
  exact ⟨ret_int H.out, rfl⟩

theorem below_bw (w : World) (e : TypeId) (s : ByteArray) : Below w.heap.size w (Lib.bytesWorld w e s) := ⟨rfl, rfl, rfl, by rw [Lib.bytesWorld_size]; omega, fun k hk => Lib.bytesWorld_at_old w e s k hk⟩

/-- What the reader answers. -/
def PuEnd (r : Option Nat) (e : Ending) : Prop := match r with
  | some u => e = .returned (.tuple #[.int .u64 (u : Int), .nilIface])
  | none => ∃ (x k : Int), (k = 2 ∨ k = 1) ∧ e = .returned (.tuple #[.int .u64 x, .iface 227 (.int .i64 k)])

/-- The kinds of a byte, as the reader tells them apart. -/
def Kinds (n d : Nat) (v : Int) : Prop := (48 ≤ n ∧ n ≤ 57 ∧ d = n - 48) ∨ (57 < n ∧ n ≠ 95 ∧ 97 ≤ v ∧ v ≤ 102 ∧ (d : Int) = v - 97 + 10) ∨ (57 < n ∧ n ≠ 95 ∧ 102 < v ∧ v ≤ 122 ∧ d = 99) ∨ (n = 95 ∧ d = 99) ∨ (n < 48 ∧ d = 99 ∧ v < 97) ∨ (57 < n ∧ n ≠ 95 ∧ d = 99 ∧ v < 97) ∨ (n < 48 ∧ d = 99 ∧ ¬ v < 97 ∧ 122 < v) ∨ (57 < n ∧ n ≠ 95 ∧ d = 99 ∧ ¬ v < 97 ∧ 122 < v)
theorem kind_at (bs : List UInt8) (k : Nat) (h : k < bs.length) : ∃ (n d : Nat) (v : Int), (bs.getD k 0).toNat = n ∧ n < 256 ∧ bits .or .u8 (n : Int) 32 = v ∧ 0 ≤ v ∧ v ≤ 255 ∧ Kinds n d v ∧ ∀ b acc, pu b acc (bs.drop k) = if d < b then (if 255 < acc * b + d then none else pu b (acc * b + d) (bs.drop (k + 1))) else none := by
  have hget : bs.getD k 0 = bs[k] := by simp [List.getD, List.getElem?_eq_getElem h]
  have hc := (bs[k]).toNat_lt
  obtain ⟨v, hv, hv0, hv1, hvc⟩ := low_any (bs[k]).toNat hc
  refine ⟨(bs[k]).toNat, worthN bs[k], v, by rw [hget], hc, hv, hv0, hv1, ?_, ?_⟩
  · have hw : worthN bs[k] = if 48 ≤ (bs[k]).toNat ∧ (bs[k]).toNat ≤ 57 then (bs[k]).toNat - 48 else if 97 ≤ (bs[k]).toNat ∧ (bs[k]).toNat ≤ 102 then (bs[k]).toNat - 97 + 10 else if 65 ≤ (bs[k]).toNat ∧ (bs[k]).toNat ≤ 70 then (bs[k]).toNat - 65 + 10 else 99 := rfl
    generalize worthN bs[k] = d at hw
    generalize (bs[k]).toNat = n at *
    clear hget hv
    unfold Kinds
    by_cases x1 : 48 ≤ n ∧ n ≤ 57
    · rw [if_pos x1] at hw
      exact .inl ⟨x1.1, x1.2, hw⟩
    · rw [if_neg x1] at hw
      by_cases x2 : 97 ≤ n ∧ n ≤ 102
      · rw [if_pos x2] at hw
        exact .inr (.inl ⟨by omega, by omega, by omega, by omega, by omega⟩)
      · rw [if_neg x2] at hw
        by_cases x3 : 65 ≤ n ∧ n ≤ 70
        · rw [if_pos x3] at hw
          exact .inr (.inl ⟨by omega, by omega, by omega, by omega, by omega⟩)
        · rw [if_neg x3] at hw
          by_cases x4 : n = 95
          · exact .inr (.inr (.inr (.inl ⟨x4, hw⟩)))
          · by_cases z : v < 97
            · by_cases z2 : n < 48
              · exact .inr (.inr (.inr (.inr (.inl ⟨z2, hw, z⟩))))
              · exact .inr (.inr (.inr (.inr (.inr (.inl ⟨by omega, x4, hw, z⟩)))))
            · by_cases z3 : v ≤ 122
              · exact .inr (.inr (.inl ⟨by omega, x4, by omega, z3, hw⟩))
              · by_cases z2 : n < 48
                · exact .inr (.inr (.inr (.inr (.inr (.inr (.inl ⟨z2, hw, z, by omega⟩))))))
                · exact .inr (.inr (.inr (.inr (.inr (.inr (.inr ⟨by omega, x4, hw, z, by omega⟩))))))
  · intro b acc
    rw [List.drop_eq_getElem_cons h]
    rfl
theorem pu_end (b acc : Nat) (bs : List UInt8) (k : Nat) (h : bs.length ≤ k) : pu b acc (bs.drop k) = some acc := by rw [List.drop_eq_nil_of_le h]; rfl

set_option maxHeartbeats 32000000 in
set_option maxRecDepth 100000 in
theorem ipu10_any (t : ByteArray) (hne : t.size ≠ 0) (hmax : t.size ≤ 1000) (w : World) :
    Calls Tryz.prog 199 #[.string t, .int .i64 10, .int .i64 8] w fun e w' => PuEnd (pu 10 0 t.data.toList) e ∧ Below w.heap.size w w' := by
  have hemp : t.toList.isEmpty = false := by
    rw [← decide_eq_emptyBytes]
    exact decide_eq_false (fun h => hne (by rw [h]; rfl))
  have hcv := Lib.run_convert_string_bytes (P := Tryz.prog) w 9 120 5 t (u := .string) Tryz.underlying9 Tryz.underlying120 Tryz.underlying5
  have hB : ∀ j, j < t.size → (Lib.bytesWorld w 5 t).cell? ⟨w.heap.size, j, none⟩ = some (.int .u8 (t.data.toList.getD j 0).toNat) := fun j hj => Lib.bytesWorld_cell w 5 t j hj
  have HBW : Hid (Below w.heap.size w (Lib.bytesWorld w 5 t)) := below_bw _ _ _
  obtain ⟨W1, hW1⟩ : ∃ W1, W1 = Lib.bytesWorld w 5 t := ⟨_, rfl⟩
  rw [← hW1] at hcv hB HBW
  clear hW1
  obtain ⟨bs, hL⟩ : ∃ bs, bs = t.data.toList := ⟨_, rfl⟩
  have HLn : Hid (bs.length = t.size) := by show _ = _; rw [hL, Lib.size_eq]
  rw [← hL] at hB ⊢
  clear hL
  have hmv : IntKind.u64.wrap (IntKind.u64.wrap 256 - 1) = 255 := by
    rw [IntKind.wrap_u64, IntKind.wrap_u64]
    decide
  obtain ⟨R, HR⟩ : ∃ R, Hid (pu 10 0 bs = R) := ⟨_, rfl⟩
  rw [HR.out]
  have HBs := hide hB
  clear hB
  go_enter Tryz.func199, Tryz.ntmps199
  go_wp2
  go_loop [12, 13, 101] (fun vu vn vi => ∃ (k acc : Nat) (a : Int), vu = .bool false ∧ vn = .int .u64 a ∧ vi = .int .i64 (k : Int) ∧ k ≤ t.size ∧ Hid (a = (acc : Int) ∧ acc ≤ 255 ∧ R = pu 10 acc (bs.drop k))) (fun _ _ vi => t.size - (intOf vi).toNat)
  case atStart => exact ⟨0, 0, 0, rfl, rfl, rfl, Nat.zero_le _, rfl, Nat.zero_le _, HR.out.symm⟩
  case round =>
    obtain ⟨k, acc, a, rfl, rfl, rfl, hk, HH⟩ := hrel
    have HI := hide HH.out.2.2
    have HA := hide HH.out.1
    have HC := hide HH.out.2.1
    have a0 : 0 ≤ a := by have := HA.out; omega
    have a1 : a ≤ 255 := by have := HA.out; have := HC.out; omega
    clear HH
    by_cases hkn : k < t.size
    · have hc := HBs.out k hkn
      obtain ⟨n, d, v, hn, hn256, hv, hv0, hv1, hkinds, hpu⟩ := kind_at bs k (by rw [HLn.out]; exact hkn)
      have HV := hide hv
      have HI2 : Hid (R = if d < 10 then (if 255 < acc * 10 + d then none else pu 10 (acc * 10 + d) (bs.drop (k + 1))) else none) := by rw [HI.out]; exact hpu _ _
      rw [hn] at hc
      clear HI HBs hv hpu hn
      rcases hkinds with ⟨h1, h2, rfl⟩ | ⟨h1, h95, h2, h3, hd⟩ | ⟨h1, h95, h2, h3, rfl⟩ | ⟨rfl, rfl⟩ | ⟨h1, rfl, h2⟩ | ⟨h1, h95, rfl, h2⟩ | ⟨h1, rfl, h2, h3⟩ | ⟨h1, h95, rfl, h2, h3⟩
      · by_cases hov : 255 < acc * 10 + (n - 48)
        · have HE : Hid (R = none) := by show _ = _; rw [HI2.out, if_pos (by omega), if_pos hov]
          have iov : 255 < a * 10 + ((n : Int) - 48) := by have := HA.out; omega
          clear HI2 hov HA HC
          go_wp2_with (go_at_call 214; refine (lowerS_any _ _ _ HV.out).mono ?_; rintro e w' ⟨rfl, rfl⟩)
          go_ret2
          rw [HE.out]
          exact ⟨⟨_, _, .inr rfl, rfl⟩, HBW.out⟩
        · have HE : Hid (R = pu 10 (acc * 10 + (n - 48)) (bs.drop (k + 1))) := by show _ = _; rw [HI2.out, if_pos (by omega), if_neg hov]
          have iov : a * 10 + ((n : Int) - 48) ≤ 255 := by have := HA.out; omega
          have HF : Hid (a * 10 + ((n : Int) - 48) = ((acc * 10 + (n - 48) : Nat) : Int) ∧ acc * 10 + (n - 48) ≤ 255 ∧ R = pu 10 (acc * 10 + (n - 48)) (bs.drop (k + 1))) := ⟨by have := HA.out; omega, by omega, HE.out⟩
          clear HI2 hov HE HA HC
          go_wp2_with (go_at_call 214; refine (lowerS_any _ _ _ HV.out).mono ?_; rintro e w' ⟨rfl, rfl⟩)
          refine ⟨⟨k + 1, acc * 10 + (n - 48), a * 10 + ((n : Int) - 48), rfl, (by first | rfl | (congr 1; omega)), (by first | rfl | (congr 1; omega)), by omega, HF⟩, by simp [intOf]; omega⟩
      · have HE : Hid (R = none) := by show _ = _; rw [HI2.out, if_neg (by omega)]
        have g95 : ((n : Int) == 95) = false := by simp; omega
        clear HI2 HA HC hd
        go_wp2_with (go_at_call 214; refine (lowerS_any _ _ _ HV.out).mono ?_; rintro e w' ⟨rfl, rfl⟩)
        all_goals go_ret2
        all_goals (rw [HE.out]; exact ⟨⟨_, _, .inl rfl, rfl⟩, HBW.out⟩)
      · have HE : Hid (R = none) := by show _ = _; rw [HI2.out, if_neg (by omega)]
        have g95 : ((n : Int) == 95) = false := by simp; omega
        clear HI2 HA HC
        go_wp2_with (go_at_call 214; refine (lowerS_any _ _ _ HV.out).mono ?_; rintro e w' ⟨rfl, rfl⟩)
        all_goals go_ret2
        all_goals (rw [HE.out]; exact ⟨⟨_, _, .inl rfl, rfl⟩, HBW.out⟩)
      · have HE : Hid (R = none) := by show _ = _; rw [HI2.out, if_neg (by omega)]
        clear HI2 HV HA HC
        go_wp2_with (go_at_call 214; refine (lowerS_any _ _ _ (show bits .or .u8 95 32 = 127 by kernel_rfl)).mono ?_; rintro e w' ⟨rfl, rfl⟩)
        all_goals go_ret2
        all_goals (rw [HE.out]; exact ⟨⟨_, _, .inl rfl, rfl⟩, HBW.out⟩)
      · have HE : Hid (R = none) := by show _ = _; rw [HI2.out, if_neg (by omega)]
        clear HI2 HA HC
        go_wp2_with (go_at_call 214; refine (lowerS_any _ _ _ HV.out).mono ?_; rintro e w' ⟨rfl, rfl⟩)
        all_goals go_ret2
        all_goals (rw [HE.out]; exact ⟨⟨_, _, .inl rfl, rfl⟩, HBW.out⟩)
      · have HE : Hid (R = none) := by show _ = _; rw [HI2.out, if_neg (by omega)]
        have g95 : ((n : Int) == 95) = false := by simp; omega
        clear HI2 HA HC
        go_wp2_with (go_at_call 214; refine (lowerS_any _ _ _ HV.out).mono ?_; rintro e w' ⟨rfl, rfl⟩)
        all_goals go_ret2
        all_goals (rw [HE.out]; exact ⟨⟨_, _, .inl rfl, rfl⟩, HBW.out⟩)
      · have HE : Hid (R = none) := by show _ = _; rw [HI2.out, if_neg (by omega)]
        clear HI2 HA HC
        go_wp2_with (go_at_call 214; refine (lowerS_any _ _ _ HV.out).mono ?_; rintro e w' ⟨rfl, rfl⟩)
        all_goals go_ret2
        all_goals (rw [HE.out]; exact ⟨⟨_, _, .inl rfl, rfl⟩, HBW.out⟩)
      · have HE : Hid (R = none) := by show _ = _; rw [HI2.out, if_neg (by omega)]
        have g95 : ((n : Int) == 95) = false := by simp; omega
        clear HI2 HA HC
        go_wp2_with (go_at_call 214; refine (lowerS_any _ _ _ HV.out).mono ?_; rintro e w' ⟨rfl, rfl⟩)
        all_goals go_ret2
        all_goals (rw [HE.out]; exact ⟨⟨_, _, .inl rfl, rfl⟩, HBW.out⟩)
    · obtain rfl := HA.out
      have HE := hide (HI.out.trans (pu_end 10 acc bs k (by rw [HLn.out]; omega)))
      clear HI HBs HA HC
      go_wp2
      go_ret2
      rw [HE.out]
      exact ⟨rfl, HBW.out⟩

set_option maxHeartbeats 32000000 in
set_option maxRecDepth 100000 in
theorem ipu16_any (t : ByteArray) (hne : t.size ≠ 0) (hmax : t.size ≤ 1000) (w : World) :
    Calls Tryz.prog 199 #[.string t, .int .i64 16, .int .i64 8] w fun e w' => PuEnd (pu 16 0 t.data.toList) e ∧ Below w.heap.size w w' := by
  have hemp : t.toList.isEmpty = false := by
    rw [← decide_eq_emptyBytes]
    exact decide_eq_false (fun h => hne (by rw [h]; rfl))
  have hcv := Lib.run_convert_string_bytes (P := Tryz.prog) w 9 120 5 t (u := .string) Tryz.underlying9 Tryz.underlying120 Tryz.underlying5
  have hB : ∀ j, j < t.size → (Lib.bytesWorld w 5 t).cell? ⟨w.heap.size, j, none⟩ = some (.int .u8 (t.data.toList.getD j 0).toNat) := fun j hj => Lib.bytesWorld_cell w 5 t j hj
  have HBW : Hid (Below w.heap.size w (Lib.bytesWorld w 5 t)) := below_bw _ _ _
  obtain ⟨W1, hW1⟩ : ∃ W1, W1 = Lib.bytesWorld w 5 t := ⟨_, rfl⟩
  rw [← hW1] at hcv hB HBW
  clear hW1
  obtain ⟨bs, hL⟩ : ∃ bs, bs = t.data.toList := ⟨_, rfl⟩
  have HLn : Hid (bs.length = t.size) := by show _ = _; rw [hL, Lib.size_eq]
  rw [← hL] at hB ⊢
  clear hL
  have hmv : IntKind.u64.wrap (IntKind.u64.wrap 256 - 1) = 255 := by
    rw [IntKind.wrap_u64, IntKind.wrap_u64]
    decide
  obtain ⟨R, HR⟩ : ∃ R, Hid (pu 16 0 bs = R) := ⟨_, rfl⟩
  rw [HR.out]
  have HBs := hide hB
  clear hB
  go_enter Tryz.func199, Tryz.ntmps199
  go_wp2
  go_loop [12, 13, 101] (fun vu vn vi => ∃ (k acc : Nat) (a : Int), vu = .bool false ∧ vn = .int .u64 a ∧ vi = .int .i64 (k : Int) ∧ k ≤ t.size ∧ Hid (a = (acc : Int) ∧ acc ≤ 255 ∧ R = pu 16 acc (bs.drop k))) (fun _ _ vi => t.size - (intOf vi).toNat)
  case atStart => exact ⟨0, 0, 0, rfl, rfl, rfl, Nat.zero_le _, rfl, Nat.zero_le _, HR.out.symm⟩
  case round =>
    obtain ⟨k, acc, a, rfl, rfl, rfl, hk, HH⟩ := hrel
    have HI := hide HH.out.2.2
    have HA := hide HH.out.1
    have HC := hide HH.out.2.1
    have a0 : 0 ≤ a := by have := HA.out; omega
    have a1 : a ≤ 255 := by have := HA.out; have := HC.out; omega
    clear HH
    by_cases hkn : k < t.size
    · have hc := HBs.out k hkn
      obtain ⟨n, d, v, hn, hn256, hv, hv0, hv1, hkinds, hpu⟩ := kind_at bs k (by rw [HLn.out]; exact hkn)
      have HV := hide hv
      have HI2 : Hid (R = if d < 16 then (if 255 < acc * 16 + d then none else pu 16 (acc * 16 + d) (bs.drop (k + 1))) else none) := by rw [HI.out]; exact hpu _ _
      rw [hn] at hc
      clear HI HBs hv hpu hn
      rcases hkinds with ⟨h1, h2, rfl⟩ | ⟨h1, h95, h2, h3, hd⟩ | ⟨h1, h95, h2, h3, rfl⟩ | ⟨rfl, rfl⟩ | ⟨h1, rfl, h2⟩ | ⟨h1, h95, rfl, h2⟩ | ⟨h1, rfl, h2, h3⟩ | ⟨h1, h95, rfl, h2, h3⟩
      · by_cases hov : 255 < acc * 16 + (n - 48)
        · have HE : Hid (R = none) := by show _ = _; rw [HI2.out, if_pos (by omega), if_pos hov]
          have iov : 255 < a * 16 + ((n : Int) - 48) := by have := HA.out; omega
          clear HI2 hov HA HC
          go_wp2_with (go_at_call 214; refine (lowerS_any _ _ _ HV.out).mono ?_; rintro e w' ⟨rfl, rfl⟩)
          go_ret2
          rw [HE.out]
          exact ⟨⟨_, _, .inr rfl, rfl⟩, HBW.out⟩
        · have HE : Hid (R = pu 16 (acc * 16 + (n - 48)) (bs.drop (k + 1))) := by show _ = _; rw [HI2.out, if_pos (by omega), if_neg hov]
          have iov : a * 16 + ((n : Int) - 48) ≤ 255 := by have := HA.out; omega
          have HF : Hid (a * 16 + ((n : Int) - 48) = ((acc * 16 + (n - 48) : Nat) : Int) ∧ acc * 16 + (n - 48) ≤ 255 ∧ R = pu 16 (acc * 16 + (n - 48)) (bs.drop (k + 1))) := ⟨by have := HA.out; omega, by omega, HE.out⟩
          clear HI2 hov HE HA HC
          go_wp2_with (go_at_call 214; refine (lowerS_any _ _ _ HV.out).mono ?_; rintro e w' ⟨rfl, rfl⟩)
          refine ⟨⟨k + 1, acc * 16 + (n - 48), a * 16 + ((n : Int) - 48), rfl, (by first | rfl | (congr 1; omega)), (by first | rfl | (congr 1; omega)), by omega, HF⟩, by simp [intOf]; omega⟩
      · have HD := hide hd
        have g95 : ((n : Int) == 95) = false := by simp; omega
        clear hd
        by_cases hov : 255 < acc * 16 + (d)
        · have HE : Hid (R = none) := by show _ = _; rw [HI2.out, if_pos (by have := HD.out; omega), if_pos hov]
          have iov : 255 < a * 16 + (v - 97 + 10) := by have := HD.out; have := HA.out; omega
          clear HI2 hov HA HC
          go_wp2_with (go_at_call 214; refine (lowerS_any _ _ _ HV.out).mono ?_; rintro e w' ⟨rfl, rfl⟩)
          go_ret2
          rw [HE.out]
          exact ⟨⟨_, _, .inr rfl, rfl⟩, HBW.out⟩
        · have HE : Hid (R = pu 16 (acc * 16 + (d)) (bs.drop (k + 1))) := by show _ = _; rw [HI2.out, if_pos (by have := HD.out; omega), if_neg hov]
          have iov : a * 16 + (v - 97 + 10) ≤ 255 := by have := HD.out; have := HA.out; omega
          have HF : Hid (a * 16 + (v - 97 + 10) = ((acc * 16 + (d) : Nat) : Int) ∧ acc * 16 + (d) ≤ 255 ∧ R = pu 16 (acc * 16 + (d)) (bs.drop (k + 1))) := ⟨by have := HD.out; have := HA.out; omega, by omega, HE.out⟩
          clear HI2 hov HE HA HC
          go_wp2_with (go_at_call 214; refine (lowerS_any _ _ _ HV.out).mono ?_; rintro e w' ⟨rfl, rfl⟩)
          refine ⟨⟨k + 1, acc * 16 + (d), a * 16 + (v - 97 + 10), rfl, (by first | rfl | (congr 1; omega)), (by first | rfl | (congr 1; omega)), by omega, HF⟩, by simp [intOf]; omega⟩
      · have HE : Hid (R = none) := by show _ = _; rw [HI2.out, if_neg (by omega)]
        have g95 : ((n : Int) == 95) = false := by simp; omega
        clear HI2 HA HC
        go_wp2_with (go_at_call 214; refine (lowerS_any _ _ _ HV.out).mono ?_; rintro e w' ⟨rfl, rfl⟩)
        all_goals go_ret2
        all_goals (rw [HE.out]; exact ⟨⟨_, _, .inl rfl, rfl⟩, HBW.out⟩)
      · have HE : Hid (R = none) := by show _ = _; rw [HI2.out, if_neg (by omega)]
        clear HI2 HV HA HC
        go_wp2_with (go_at_call 214; refine (lowerS_any _ _ _ (show bits .or .u8 95 32 = 127 by kernel_rfl)).mono ?_; rintro e w' ⟨rfl, rfl⟩)
        all_goals go_ret2
        all_goals (rw [HE.out]; exact ⟨⟨_, _, .inl rfl, rfl⟩, HBW.out⟩)
      · have HE : Hid (R = none) := by show _ = _; rw [HI2.out, if_neg (by omega)]
        clear HI2 HA HC
        go_wp2_with (go_at_call 214; refine (lowerS_any _ _ _ HV.out).mono ?_; rintro e w' ⟨rfl, rfl⟩)
        all_goals go_ret2
        all_goals (rw [HE.out]; exact ⟨⟨_, _, .inl rfl, rfl⟩, HBW.out⟩)
      · have HE : Hid (R = none) := by show _ = _; rw [HI2.out, if_neg (by omega)]
        have g95 : ((n : Int) == 95) = false := by simp; omega
        clear HI2 HA HC
        go_wp2_with (go_at_call 214; refine (lowerS_any _ _ _ HV.out).mono ?_; rintro e w' ⟨rfl, rfl⟩)
        all_goals go_ret2
        all_goals (rw [HE.out]; exact ⟨⟨_, _, .inl rfl, rfl⟩, HBW.out⟩)
      · have HE : Hid (R = none) := by show _ = _; rw [HI2.out, if_neg (by omega)]
        clear HI2 HA HC
        go_wp2_with (go_at_call 214; refine (lowerS_any _ _ _ HV.out).mono ?_; rintro e w' ⟨rfl, rfl⟩)
        all_goals go_ret2
        all_goals (rw [HE.out]; exact ⟨⟨_, _, .inl rfl, rfl⟩, HBW.out⟩)
      · have HE : Hid (R = none) := by show _ = _; rw [HI2.out, if_neg (by omega)]
        have g95 : ((n : Int) == 95) = false := by simp; omega
        clear HI2 HA HC
        go_wp2_with (go_at_call 214; refine (lowerS_any _ _ _ HV.out).mono ?_; rintro e w' ⟨rfl, rfl⟩)
        all_goals go_ret2
        all_goals (rw [HE.out]; exact ⟨⟨_, _, .inl rfl, rfl⟩, HBW.out⟩)
    · obtain rfl := HA.out
      have HE := hide (HI.out.trans (pu_end 16 acc bs k (by rw [HLn.out]; omega)))
      clear HI HBs HA HC
      go_wp2
      go_ret2
      rw [HE.out]
      exact ⟨rfl, HBW.out⟩
end Go.Proofs.YtbcmpacmoofdkaaGreatDoor
