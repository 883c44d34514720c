/- The program's scanner: how long a number is; tokens that are cut off. -/
import Derived.Test.YtmeooghcdgpofaaDoorProg
import Derived.Test.YtmeooghcdgpofaaDoorLexD2
import Derived.Test.YtmeooghcdgpofaaDoorShelf
import Derived.WalkKit
import Derived.ProofKit
import Derived.OpenShut
import Derived.Below
import Derived.WalkLawsBesides
import Derived.OwnWalk
import Derived.BigQuiet
import Derived.Lib.IndexBytes
namespace Go.Proofs.YtmeooghcdgpofaaDoor
open Go.ChangeShapes Go.WideShapes Go.ChangeAt Go.RowKit

theorem tildeN_one (l : List UInt8) : tildeN l ≤ 1 := by unfold tildeN; split <;> omega
theorem sub_size {s t : ByteArray} {k : Nat} (h : t.data.toList = s.data.toList.drop k) : t.size = s.size - k := by
  have := congrArg List.length h
  rwa [size_list, List.length_drop, size_list] at this

set_option maxRecDepth 100000 in
set_option maxHeartbeats 4000000 in
theorem measure_any (s : ByteArray) (hs : s.size ≤ 1073741824) (w : World) : Calls Tryd.prog 43 #[.string s] w fun e w' => e = .returned (.tuple #[.int .i64 ((measN s.data.toList).1 : Nat), .int .i64 ((measN s.data.toList).2 : Nat)]) ∧ w' = w := by
  have CT := hide (fun W => tilde_any s W)
  have hz := tildeN_one s.data.toList
  have hz2 := tildeN_le s.data.toList
  rw [size_list] at hz2
  have HN : Hid (measN s.data.toList = if 0 < preN [48, 120] hexB (s.data.toList.drop (tildeN s.data.toList)) then (4, tildeN s.data.toList + preN [48, 120] hexB (s.data.toList.drop (tildeN s.data.toList)))
    else meas2 s.data.toList (tildeN s.data.toList + runP digitB (s.data.toList.drop (tildeN s.data.toList)))) := rfl
  obtain ⟨R, HR⟩ : ∃ R, Hid (measN s.data.toList = R) := ⟨_, rfl⟩
  rw [HR.out] at HN ⊢
  clear HR
  generalize tildeN s.data.toList = z at *
  obtain ⟨t1, ht1⟩ : ∃ t, s.extract z s.size = t := ⟨_, rfl⟩
  have hl1 : t1.data.toList = s.data.toList.drop z := by rw [← ht1]; exact ext_list s z
  have hs1 := sub_size hl1
  rw [← hl1] at HN
  have CX := hide (fun W => prefixed_lit t1 ⟨#[48, 120]⟩ [48, 120] rfl hexB 8 isK_hex (by decide) (by omega) (by decide) W)
  have hx2 := preN_le [48, 120] hexB t1.data.toList
  have hr2 := runP_le digitB t1.data.toList
  rw [size_list] at hx2 hr2
  have CR := hide (fun W => run_any t1 4 (by decide) (by omega) W)
  rw [isK_digit] at CR
  generalize preN [48, 120] hexB t1.data.toList = x at *
  generalize runP digitB t1.data.toList = r at *
  by_cases hx : 0 < x
  · have HE : Hid (R = (4, z + x)) := by show _ = _; rw [HN.out, if_pos hx]
    clear HN CR
    go_enter Tryd.func43, Tryd.ntmps43
    go_wp2_with (first | (go_at_call 54; refine (CT.out _).mono ?_; rintro e w1 ⟨rfl, rfl⟩) | (go_at_call 55; refine (CX.out _).mono ?_; rintro e w1 ⟨rfl, rfl⟩))
    go_ret2
    exact ⟨by rw [HE.out]; go_num, rfl⟩
  · obtain rfl : x = 0 := by omega
    obtain ⟨d, hd⟩ : ∃ d, z + r = d := ⟨_, rfl⟩
    have hdi : (z : Int) + (r : Int) = (d : Int) := by omega
    have HM : Hid (R = meas2 s.data.toList d) := by show _ = _; rw [HN.out, if_neg (by omega), hd]
    obtain ⟨t2, ht2⟩ : ∃ t, s.extract d s.size = t := ⟨_, rfl⟩
    have hl2 : t2.data.toList = s.data.toList.drop d := by rw [← ht2]; exact ext_list s d
    have hs2 := sub_size hl2
    have CP := hide (fun W => prefixed_lit t2 ⟨#[46]⟩ [46] rfl digitB 4 isK_digit (by decide) (by omega) (by decide) W)
    have hp2 := preN_le [46] digitB t2.data.toList
    rw [size_list] at hp2
    have HM2 : Hid (R = if 0 < preN [46] digitB t2.data.toList + expN (s.data.toList.drop (d + preN [46] digitB t2.data.toList)) then (5, d + (preN [46] digitB t2.data.toList + expN (s.data.toList.drop (d + preN [46] digitB t2.data.toList)))) else (4, d)) := by
      show _ = _
      rw [HM.out]
      unfold meas2 partN
      rw [← hl2, hl2, List.drop_drop]
    generalize preN [46] digitB t2.data.toList = p at *
    obtain ⟨f, hf⟩ : ∃ f, d + p = f := ⟨_, rfl⟩
    have hfi : (d : Int) + (p : Int) = (f : Int) := by omega
    obtain ⟨t3, ht3⟩ : ∃ t, s.extract f s.size = t := ⟨_, rfl⟩
    have hl3 : t3.data.toList = s.data.toList.drop f := by rw [← ht3]; exact ext_list s f
    have hs3 := sub_size hl3
    have CE := hide (fun W => exponent_any t3 (by omega) W)
    have he2 := expN_le t3.data.toList
    rw [size_list] at he2
    rw [hf, ← hl3] at HM2
    generalize expN t3.data.toList = q at *
    have hfs : f ≤ s.size := by omega
    clear HN HM hl1 hl2 hl3 hd hf
    by_cases hq : 0 < p + q
    · have HE : Hid (R = (5, d + (p + q))) := by show _ = _; rw [HM2.out, if_pos hq]
      clear HM2
      go_enter Tryd.func43, Tryd.ntmps43
      go_wp2_with (first | (go_at_call 54; refine (CT.out _).mono ?_; rintro e w1 ⟨rfl, rfl⟩) | (go_at_call 55; refine (CX.out _).mono ?_; rintro e w1 ⟨rfl, rfl⟩; clear CX) | (go_at_call 55; refine (CP.out _).mono ?_; rintro e w1 ⟨rfl, rfl⟩) | (go_at_call 38; refine (CR.out _).mono ?_; rintro e w1 ⟨rfl, rfl⟩) | (go_at_call 56; refine (CE.out _).mono ?_; rintro e w1 ⟨rfl, rfl⟩))
      go_ret2
      exact ⟨by rw [HE.out]; go_num, rfl⟩
    · have HE : Hid (R = (4, d)) := by show _ = _; rw [HM2.out, if_neg hq]
      obtain rfl : p = 0 := by omega
      obtain rfl : q = 0 := by omega
      obtain rfl : f = d := by omega
      have h23 : t3 = t2 := by rw [← ht3, ← ht2]
      subst h23
      clear HM2 ht3 hfi
      go_enter Tryd.func43, Tryd.ntmps43
      go_wp2_with (first | (go_at_call 54; refine (CT.out _).mono ?_; rintro e w1 ⟨rfl, rfl⟩) | (go_at_call 55; refine (CX.out _).mono ?_; rintro e w1 ⟨rfl, rfl⟩; clear CX) | (go_at_call 55; refine (CP.out _).mono ?_; rintro e w1 ⟨rfl, rfl⟩) | (go_at_call 38; refine (CR.out _).mono ?_; rintro e w1 ⟨rfl, rfl⟩) | (go_at_call 56; refine (CE.out _).mono ?_; rintro e w1 ⟨rfl, rfl⟩))
      go_ret2
      exact ⟨by rw [HE.out]; rfl, rfl⟩
end Go.Proofs.YtmeooghcdgpofaaDoor
