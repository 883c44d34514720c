/- The program's scanner: comments. -/
import Derived.Test.YtmeooghcdgpofaaDoorProg
import Derived.Test.YtmeooghcdgpofaaDoorLexD5
import Derived.Test.YtmeooghcdgpofaaDoorShelf
import Derived.WalkKit
import Derived.ProofKit
import Derived.OpenShut
import Derived.Below
import Derived.WalkLawsBesides
import Derived.OwnWalk
import Derived.BigQuiet
import Derived.Lib.IndexBytes
import Derived.Deep.MidRow
namespace Go.Proofs.YtmeooghcdgpofaaDoor
open Go.ChangeShapes Go.WideShapes Go.ChangeAt Go.RowKit

theorem dstr_yes {t : ByteArray} {l : List UInt8} (h : t = ⟨l.toArray⟩) : (t.toList == l) = true := by
  rw [h, ByteArray.toList_eq]; simp
theorem dstr_no {t : ByteArray} {l : List UInt8} (h : ¬ t = ⟨l.toArray⟩) : (t.toList == l) = false := by
  rw [ByteArray.toList_eq, beq_eq_false_iff_ne]
  intro e
  apply h
  apply ByteArray.ext
  apply Array.ext'
  rw [e]
theorem dtwo_at (s : ByteArray) (i : Nat) (h : i + 1 < s.size) : s.extract i (i + 2) = ⟨#[s[i]'(by omega), s[i + 1]'h]⟩ := by
  apply ByteArray.ext
  apply Array.ext'
  have : (s.extract i (i + 2)).data.toList = (s.data.toList.drop i).take 2 := by simp [ByteArray.data_extract]
  rw [this, drop_at s i (by omega), drop_at s (i + 1) h]
  rfl
theorem two_eq {a b x y : UInt8} : (⟨#[a, b]⟩ : ByteArray) = ⟨#[x, y]⟩ ↔ a.toNat = x.toNat ∧ b.toNat = y.toNat := by
  constructor
  · intro e
    have e1 := congrArg (·.data.toList) e
    simp at e1
    rw [e1.1, e1.2]
    exact ⟨rfl, rfl⟩
  · rintro ⟨e1, e2⟩
    rw [UInt8.toNat_inj.1 e1, UInt8.toNat_inj.1 e2]
theorem comG_short (f i : Nat) (o : Int) (l : List UInt8) (h : l.length ≤ 1) : comG f i o l = 0 := by
  match f, l, h with
  | 0, _, _ => unfold comG; rfl
  | _ + 1, [], _ => rfl
  | _ + 1, [_], _ => rfl
  | _ + 1, _ :: _ :: _, h => simp at h

/-- A comment's rest, from a place on. -/
def ComAt (T : Nat) (s : ByteArray) (i : Nat) (o : Int) : Prop := ∃ f, (s.data.toList.drop i).length ≤ f ∧ T = comG f i o (s.data.toList.drop i)
theorem ComAt.step {T : Nat} {s : ByteArray} {i : Nat} {o : Int} (h : ComAt T s i o) (h1 : i + 1 < s.size) {t : ByteArray} (ht : s.extract i (i + 2) = t) :
    (t = ⟨#[40, 42]⟩ → if o + 1 = 0 then T = i + 2 else ComAt T s (i + 2) (o + 1)) ∧ (¬ t = ⟨#[40, 42]⟩ → t = ⟨#[42, 41]⟩ → if o - 1 = 0 then T = i + 2 else ComAt T s (i + 2) (o - 1))
    ∧ (¬ t = ⟨#[40, 42]⟩ → ¬ t = ⟨#[42, 41]⟩ → ComAt T s (i + 1) o) := by
  obtain ⟨f, hf, hT⟩ := h
  have d1 := drop_at s i (by omega)
  have d2 := drop_at s (i + 1) h1
  rw [d1, d2] at hf hT
  obtain ⟨f, rfl⟩ : ∃ g, f = g + 1 := ⟨f - 1, by simp at hf; omega⟩
  simp only [List.length_cons] at hf
  unfold comG at hT
  rw [dtwo_at s i h1] at ht
  have q1 : t = ⟨#[40, 42]⟩ ↔ ((s[i]'(by omega)).toNat = 40 ∧ (s[i + 1]'h1).toNat = 42) := by rw [← ht]; exact two_eq
  have q2 : t = ⟨#[42, 41]⟩ ↔ ((s[i]'(by omega)).toNat = 42 ∧ (s[i + 1]'h1).toNat = 41) := by rw [← ht]; exact two_eq
  refine ⟨fun x => ?_, fun x y => ?_, fun x y => ?_⟩
  · rw [if_pos (q1.1 x)] at hT
    split
    · rename_i z; rw [if_pos z] at hT; exact hT
    · rename_i z; rw [if_neg z] at hT; exact ⟨f, by show (s.data.toList.drop (i + 1 + 1)).length ≤ f; omega, hT⟩
  · rw [if_neg (fun c => x (q1.2 c)), if_pos (q2.1 y)] at hT
    split
    · rename_i z; rw [if_pos z] at hT; exact hT
    · rename_i z; rw [if_neg z] at hT; exact ⟨f, by show (s.data.toList.drop (i + 1 + 1)).length ≤ f; omega, hT⟩
  · rw [if_neg (fun c => x (q1.2 c)), if_neg (fun c => y (q2.2 c))] at hT
    exact ⟨f, by rw [d2, List.length_cons]; omega, by rw [d2]; exact hT⟩

set_option maxRecDepth 100000 in
set_option maxHeartbeats 4000000 in
theorem dcomment_any (s : ByteArray) (hs : s.size ≤ 1073741824) (w : World) : Calls Tryd.prog 46 #[.string s] w fun e w' => e = .returned (.int .i64 (comL s.data.toList : Nat)) ∧ w' = w := by
  obtain ⟨T, HT⟩ : ∃ T, Hid (comL s.data.toList = T) := ⟨_, rfl⟩
  rw [HT.out]
  have HS : Hid (ComAt T s 0 0) := ⟨s.data.toList.length, by simp, HT.out.symm⟩
  clear HT
  go_enter Tryd.func46, Tryd.ntmps46
  go_wp2
  go_loop [3, 4] (fun vd vi => ∃ (i : Nat) (d : Int), vi = .int .i64 (i : Int) ∧ vd = .int .i64 d ∧ i ≤ s.size ∧ -(i : Int) ≤ d ∧ d ≤ (i : Int) ∧ Hid (ComAt T s i d)) (fun _ vi => s.size - (intOf vi).toNat)
  case atStart => exact ⟨0, 0, rfl, rfl, Nat.zero_le _, by omega, by omega, HS⟩
  case round =>
    obtain ⟨i, d, rfl, rfl, hi, hd1, hd2, HI⟩ := hrel
    clear HS
    by_cases h1 : i + 1 < s.size
    · have h1i : (i : Int) + 1 < (s.size : Int) := by omega
      obtain ⟨t, ht⟩ : ∃ t, s.extract i (i + 2) = t := ⟨_, rfl⟩
      have ST := hide (HI.out.step h1 ht)
      obtain ⟨j, hj⟩ : ∃ j, i + 2 = j := ⟨_, rfl⟩
      have hji : (i : Int) + 2 = (j : Int) := by omega
      have hjs : j ≤ s.size := by omega
      have hij : i ≤ j := by omega
      rw [hj] at ht ST
      have hj1 : (i : Int) + 1 + 1 = (j : Int) := by omega
      clear HI
      by_cases q1 : t = ⟨#[40, 42]⟩
      · have g1 := dstr_yes (l := [40, 42]) q1
        by_cases hz : d + 1 = 0
        · have HE : Hid (T = j) := by have := ST.out.1 q1; rw [if_pos hz] at this; exact this
          have g3 : (d + 1 == 0) = true := by simp; exact hz
          clear ST hz q1 hj
          go_wp2
          go_ret
          exact ⟨by rw [HE.out]; rfl, rfl⟩
        · have HE : Hid (ComAt T s j (d + 1)) := by have := ST.out.1 q1; rw [if_neg hz] at this; exact this
          have g3 : (d + 1 == 0) = false := by simp; exact hz
          clear ST hz q1
          go_wp2
          go_round
          case rel => exact ⟨j, d + 1, rfl, rfl, hjs, by omega, by omega, HE⟩
          case measure => simp [intOf]; omega
      · by_cases q2 : t = ⟨#[42, 41]⟩
        · have g1 := dstr_no (l := [40, 42]) q1
          have g2 := dstr_yes (l := [42, 41]) q2
          by_cases hz : d - 1 = 0
          · have HE : Hid (T = j) := by have := ST.out.2.1 q1 q2; rw [if_pos hz] at this; exact this
            have g3 : (d - 1 == 0) = true := by simp; exact hz
            clear ST hz q1 q2 hj
            go_wp2
            go_ret
            exact ⟨by rw [HE.out]; rfl, rfl⟩
          · have HE : Hid (ComAt T s j (d - 1)) := by have := ST.out.2.1 q1 q2; rw [if_neg hz] at this; exact this
            have g3 : (d - 1 == 0) = false := by simp; exact hz
            clear ST hz q1 q2
            go_wp2
            go_round
            case rel => exact ⟨j, d - 1, rfl, rfl, hjs, by omega, by omega, HE⟩
            case measure => simp [intOf]; omega
        · have HE : Hid (ComAt T s (i + 1) d) := ST.out.2.2 q1 q2
          have g1 := dstr_no (l := [40, 42]) q1
          have g2 := dstr_no (l := [42, 41]) q2
          clear ST q1 q2
          go_wp2
          go_round
          case rel => exact ⟨i + 1, d, by go_num, rfl, by omega, by omega, by omega, HE⟩
          case measure => simp [intOf]; omega
    · have HE : Hid (T = 0) := by
        obtain ⟨f, hf, hT⟩ := HI.out
        rw [comG_short f i d _ (by rw [List.length_drop, size_list]; omega)] at hT
        exact hT
      have h1i : ¬ ((i : Int) + 1 < (s.size : Int)) := by omega
      clear HI
      go_wp2
      go_ret
      exact ⟨by rw [HE.out]; rfl, rfl⟩

set_option maxRecDepth 100000 in
set_option maxHeartbeats 4000000 in
theorem parenthesis_any (s : ByteArray) (h1 : 1 ≤ s.size) (hs : s.size ≤ 1073741824) (w : World) : Calls Tryd.prog 27 #[.string s] w fun e w' => Gives (parR s.data.toList) e ∧ Below w.heap.size w w' := by
  have CB := hide (fun W => Tryd.strings_HasPrefix s ⟨#[40, 42]⟩ W)
  have e0 : Lib.hasPrefix s.data.toList (ByteArray.mk #[40, 42]).data.toList = ([40, 42] : List UInt8).isPrefixOf s.data.toList := rfl
  simp only [e0] at CB
  have CC := hide (fun W => dcomment_any s hs W)
  have CS := hide (fun W => single_any s h1 hs W)
  have HN : Hid (parR s.data.toList = if ([40, 42] : List UInt8).isPrefixOf s.data.toList then (if comL s.data.toList = 0 then .bad 41 else .got 0 [] [] (comL s.data.toList)) else cutR 1 s.data.toList 1) := rfl
  obtain ⟨R, HR⟩ : ∃ R, Hid (parR s.data.toList = R) := ⟨_, rfl⟩
  rw [HR.out] at HN ⊢
  clear HR e0
  generalize comL s.data.toList = n at *
  cases hb : ([40, 42] : List UInt8).isPrefixOf s.data.toList
  · rw [hb] at CB
    have HE : Hid (R = cutR 1 s.data.toList 1) := by show _ = _; rw [HN.out, hb]; rfl
    clear HN CC
    go_enter Tryd.func27, Tryd.ntmps27
    go_wp2_with (first | (go_at_call 45; refine (CB.out _).mono ?_; rintro e w1 ⟨rfl, h0⟩; replace h0 := h0.symm; subst h0) | (go_at_call 28; refine (CS.out _).mono ?_; rintro e w1 ⟨hg, g1⟩; (have hg2 : e = _ := hg); subst hg2; clear hg; obtain ⟨⟨c0, c1, c2, c3, c4⟩, ⟨f0, f1, f2, f3, f4⟩, b1, b2⟩ := cell5 g1; clear g1; unfold tokV))
    refine tok_end rfl (some5 ⟨c0, c1, c2, c3, c4⟩) ⟨f0, f1, f2, f3, f4⟩ rfl b1 fun g => ?_
    rw [HE.out]
    exact ⟨rfl, g⟩
  · rw [hb] at CB
    by_cases hz : n = 0
    · have HE : Hid (R = .bad 41) := by show _ = _; rw [HN.out, hb, if_pos rfl, if_pos hz]
      subst hz
      clear HN CS
      go_enter Tryd.func27, Tryd.ntmps27
      go_wp2_with (first | (go_at_call 45; refine (CB.out _).mono ?_; rintro e w1 ⟨rfl, h0⟩; replace h0 := h0.symm; subst h0) | (go_at_call 46; refine (CC.out _).mono ?_; rintro e w1 ⟨rfl, h0⟩; replace h0 := h0.symm; subst h0))
      refine tok_new rfl rfl fun g => ?_
      rw [HE.out]
      exact ⟨rfl, g⟩
    · have HE : Hid (R = .got 0 [] [] n) := by show _ = _; rw [HN.out, hb, if_pos rfl, if_neg hz]
      have g0 : ((n : Int) == 0) = false := by simp; omega
      clear HN CS hz
      go_enter Tryd.func27, Tryd.ntmps27
      go_wp2_with (first | (go_at_call 45; refine (CB.out _).mono ?_; rintro e w1 ⟨rfl, h0⟩; replace h0 := h0.symm; subst h0) | (go_at_call 46; refine (CC.out _).mono ?_; rintro e w1 ⟨rfl, h0⟩; replace h0 := h0.symm; subst h0))
      refine tok_new rfl rfl fun g => ?_
      rw [HE.out]
      exact ⟨rfl, g⟩
end Go.Proofs.YtmeooghcdgpofaaDoor
