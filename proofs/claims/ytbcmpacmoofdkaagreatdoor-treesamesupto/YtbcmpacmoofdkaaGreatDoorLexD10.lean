/- The program's scanner: strings and characters, whole. -/
import Derived.Test.YtbcmpacmoofdkaaGreatDoorProg
import Derived.Test.YtbcmpacmoofdkaaGreatDoorLexD9
import Derived.Test.YtbcmpacmoofdkaaGreatDoorShelf
import Derived.WalkKit
import Derived.ProofKit
import Derived.OpenShut
import Derived.Below
import Derived.WalkLawsBesides
import Derived.OwnWalk
import Derived.Laws.IdiomStrings
import Derived.Laws.OwnMore
import Derived.BigQuiet
import Derived.Lib.IndexBytes
import Derived.Deep.MidRow
namespace Go.Proofs.YtbcmpacmoofdkaaGreatDoor
open Go.ChangeShapes Go.WideShapes Go.ChangeAt Go.RowKit

/-- What quoted answers: bytes in memory laid behind B, and how many it has read. -/
def QuoV (B : Nat) (Q : Option (List UInt8 × Nat)) (e : Ending) (w' : World) : Prop := match Q with
  | none => e = .returned (.tuple #[.slice none 0 0, .int .i64 0])
  | some (t, n) => ∃ v, Own B v t w' ∧ e = .returned (.tuple #[v, .int .i64 (n : Int)])

set_option maxRecDepth 100000 in
set_option maxHeartbeats 8000000 in
theorem quoted_any (s : ByteArray) (w : World) (RD : Rdy w) (h0 : 1 ≤ s.size) (hs : s.size ≤ 1073741824) : Calls Tryz.prog 94 #[.string s] w fun e w' => QuoV w.heap.size (quoN s.data.toList) e w' ∧ Below w.heap.size w w' := by
  obtain ⟨i0, hi, hz0, hz1, hz2⟩ := info_parts infoByte
  obtain ⟨Q, HQ⟩ : ∃ Q, Hid (quoN s.data.toList = Q) := ⟨_, rfl⟩
  rw [HQ.out]
  have HS : Hid (QuoAt Q s.data.toList [] 1) := ⟨s.data.toList.length, by rw [List.length_drop]; omega, HQ.out.symm⟩
  clear HQ
  go_enter Tryz.func94, Tryz.ntmps94
  go_wp2
  go_loopw [4, 5] (fun vs vi wr => ∃ (i : Nat) (acc : List UInt8), vi = .int .i64 (i : Int) ∧ i ≤ s.size ∧ Hid (acc.length ≤ i ∧ QuoAt Q s.data.toList acc i ∧ Own w.heap.size vs acc wr) ∧ Below w.heap.size w wr) (fun _ vi _ => s.size - (intOf vi).toNat)
  case atStart => exact ⟨1, [], rfl, h0, ⟨Nat.zero_le _, HS.out, own_nil _ _⟩, Below.refl _ _⟩
  case round =>
    obtain ⟨i, acc, rfl, hil, HI, bel⟩ := hrel
    obtain ⟨hal, hq, hown⟩ := HI.out
    have HO := hide hown
    obtain ⟨AL, eAL⟩ : ∃ k, acc.length = k := ⟨_, rfl⟩
    have EL := hide eAL
    rw [eAL] at hal
    obtain ⟨ao, cap, hvp⟩ := own_slice hown
    subst hvp
    rw [eAL] at HO ⊢
    have bsz := bel.size
    clear HS HI hown eAL
    by_cases h1 : i < s.size
    · have ST := hide (hq.step h1)
      obtain ⟨n, hn⟩ : ∃ n, (s[i]'h1).toNat = n := ⟨_, rfl⟩
      rw [hn] at ST
      clear hq
      by_cases h34 : n = 34
      · have HE : Hid (Q = some (acc, i + 1)) := ST.out.1 h34
        subst h34
        clear ST
        go_wp2
        go_ret2
        rw [HE.out]
        exact ⟨⟨_, HO.out, by go_num⟩, bel⟩
      · have g34 : ((n : Int) == 34) = false := by simp; omega
        obtain ⟨t, ht⟩ : ∃ t, s.extract i s.size = t := ⟨_, rfl⟩
        have hl : t.data.toList = s.data.toList.drop i := by rw [← ht]; exact ext_list s i
        have hts := sub_size hl
        obtain ⟨x, k, hxk⟩ : ∃ x k, oneP t.data.toList = (x, k) := ⟨_, _, rfl⟩
        have hbd := oneP_bd t.data.toList
        have ST2 := hide (ST.out.2)
        rw [← hl, hxk] at ST2
        rw [hxk, size_list] at hbd
        have CO := hide (fun (W : World) (RR : Rdy W) => one_any t W RR x k hxk (by omega) (by omega))
        have RW := hide (RD.below bel)
        obtain ⟨bd1, bd2, bd3⟩ := hbd
        clear ST hl hxk
        by_cases hk0 : k = 0
        · have HE : Hid (Q = none) := ST2.out.1 h34 hk0
          subst hk0
          clear ST2 h34
          go_wp2_with (go_at_call 115; refine (CO.out _ RW.out).mono ?_; rintro e w1 ⟨rfl, b1⟩)
          go_ret2
          rw [HE.out]
          exact ⟨rfl, bel.trans (b1.mono bsz)⟩
        · have gk : ((k : Int) == 0) = false := by simp; omega
          have HE := hide (ST2.out.2 h34 hk0)
          simp only at HE
          clear ST2 h34
          by_cases hx0 : x < 0
          · rw [if_pos hx0, List.append_nil] at HE
            obtain rfl : x = -1 := by omega
            have hk1 : 1 ≤ k := by omega
            clear hk0
            go_wp2_with (go_at_call 115; refine (CO.out _ RW.out).mono ?_; rintro e w1 ⟨rfl, b1⟩)
            go_roundw
            case rel => exact ⟨i + k, acc, by go_num, by omega, ⟨by rw [EL.out]; omega, HE.out, own_below HO.out b1⟩, bel.trans (b1.mono bsz)⟩
            case measure => simp [intOf]; omega
          · rw [if_neg hx0] at HE
            have gx : (x == -1) = false := by simp; omega
            have gx2 : (x != -1) = true := by simp; omega
            have hx1 : 0 ≤ x := by omega
            have hk1 : 1 ≤ k := by omega
            clear hk0 hx0
            go_wp2_with (first | (go_at_call 115; refine (CO.out _ RW.out).mono ?_; rintro e w1 ⟨rfl, b1⟩; have S1 := b1.size; have B1 := bel.trans (b1.mono bsz); have HW := hide (own_row (own_below HO.out b1) EL.out)) | (at_builtin; refine wpList_append_own _ rfl _ _ 120 rfl w.heap.size 5 i0 (.int .u8 0) 1 1 Tryz.underlying120 hi hz0 hz1 hz2 rfl (by decide) _ AL _ rfl (HW.out.alloc _) ⟨_, 0, none⟩ 1 1 [.int .u8 x] rfl rfl (cells_new _ _ _) (by simp [Value.oneCell']) (by unfold maxLen; omega) (by omega) (by simp; omega) ?_; intro v1 w2 o1 g1 _; have H1 := hide o1; clear o1))
            go_roundw
            case rel => exact ⟨i + k, _, by go_num, by omega, ⟨by rw [List.length_append, EL.out]; simp; omega, HE.out, own_snoc EL.out (by congr 1; simp; omega) H1.out⟩, (B1.alloc (by omega) _).grown g1 (by simp; omega) (fun j hj => (HW.out.lt j hj).1)⟩
            case measure => simp [intOf]; omega
    · have HE : Hid (Q = none) := hq.none (by rw [size_list]; omega)
      clear hq
      go_wp2
      go_ret2
      rw [HE.out]
      exact ⟨rfl, bel⟩

theorem gives_got {k n : Nat} {t : List UInt8} {e : Ending} {tx : ByteArray} (h : ByteArray.mk t.toArray = tx) (he : e = .returned (.tuple #[.agg #[.int .i64 (k : Int), .string tx, .slice none 0 0, .int .i64 0, .int .i64 0], .int .i64 (n : Int), .int .i64 0])) : Gives (.got k t [] n) e := by subst h; exact he
theorem quoV_none {B : Nat} {e : Ending} {w' : World} (h : QuoV B none e w') : e = .returned (.tuple #[.slice none 0 0, .int .i64 0]) := h
theorem quoV_some {B : Nat} {t : List UInt8} {n : Nat} {e : Ending} {w' : World} (h : QuoV B (some (t, n)) e w') : ∃ ao cap, Own B (.slice ao t.length cap) t w' ∧ e = .returned (.tuple #[.slice ao t.length cap, .int .i64 (n : Int)]) := by
  obtain ⟨v, h1, h2⟩ := h
  obtain ⟨ao, cap, rfl⟩ := own_slice h1
  exact ⟨ao, cap, h1, h2⟩

set_option maxRecDepth 100000 in
set_option maxHeartbeats 8000000 in
theorem constant_any (s : ByteArray) (w : World) (RD : Rdy w) (h0 : 1 ≤ s.size) (hs : s.size ≤ 1073741824) : Calls Tryz.prog 64 #[.string s] w fun e w' => Gives (strR s.data.toList) e ∧ Below w.heap.size w w' := by
  have CQ := hide (fun (W : World) (RR : Rdy W) => quoted_any s W RR h0 hs)
  have HN : Hid (strR s.data.toList = match quoN s.data.toList with
    | none => .bad 42
    | some (t, n) => if 65536 < t.length then .bad 2 else .got 6 t [] n) := rfl
  obtain ⟨R, HR⟩ : ∃ R, Hid (strR s.data.toList = R) := ⟨_, rfl⟩
  rw [HR.out] at HN ⊢
  clear HR
  have RW := hide (RD.below ((Below.refl _ _).alloc (Nat.le_refl _) (.cells #[.int .i64 0, .string ⟨#[]⟩, .slice none 0 0, .int .i64 0, .int .i64 0] 72)))
  cases hq : quoN s.data.toList with
  | none =>
    have HE : Hid (R = .bad 42) := by show _ = _; rw [HN.out, hq]
    rw [hq] at CQ
    clear HN
    go_enter Tryz.func64, Tryz.ntmps64
    go_wp2_with (go_at_call 94; refine (CQ.out _ RW.out).mono ?_; rintro e w1 ⟨hv, g1⟩; (have hv2 := quoV_none hv); subst hv2; clear hv; obtain ⟨⟨c0, c1, c2, c3, c4⟩, ⟨f0, f1, f2, f3, f4⟩, b1, b2⟩ := cell5 g1; clear g1)
    refine tok_end rfl (some5 ⟨c0, c1, c2, c3, c4⟩) ⟨f0, f1, f2, f3, f4⟩ rfl b1 fun g => ?_
    rw [HE.out]
    exact ⟨rfl, g⟩
  | some p =>
    obtain ⟨t, n⟩ := p
    have hqle := quoN_le hq
    rw [size_list] at hqle
    rw [hq] at CQ
    obtain ⟨TL, hTL⟩ : ∃ k, t.length = k := ⟨_, rfl⟩
    obtain ⟨tx, htx⟩ : ∃ tx : ByteArray, ByteArray.mk t.toArray = tx := ⟨_, rfl⟩
    have HTX := hide htx
    have gn : ((n : Int) == 0) = false := by simp; omega
    have HTL := hide hTL
    by_cases h6 : 65536 < TL
    · have HE : Hid (R = .bad 2) := by show _ = _; rw [HN.out, hq]; show (if 65536 < t.length then _ else _) = _; rw [if_pos (by omega)]
      clear HN hTL htx
      go_enter Tryz.func64, Tryz.ntmps64
      go_wp2_with (go_at_call 94; refine (CQ.out _ RW.out).mono ?_; rintro e w1 ⟨hv, g1⟩; (obtain ⟨ao, cap, ow, hv2⟩ := quoV_some hv); subst hv2; clear hv; rw [HTL.out]; obtain ⟨⟨c0, c1, c2, c3, c4⟩, ⟨f0, f1, f2, f3, f4⟩, b1, b2⟩ := cell5 g1; clear g1)
      refine tok_end rfl (some5 ⟨c0, c1, c2, c3, c4⟩) ⟨f0, f1, f2, f3, f4⟩ rfl b1 fun g => ?_
      rw [HE.out]
      exact ⟨rfl, g⟩
    · have HE : Hid (R = .got 6 t [] n) := by show _ = _; rw [HN.out, hq]; show (if 65536 < t.length then _ else _) = _; rw [if_neg (by omega)]
      clear HN hTL htx
      go_enter Tryz.func64, Tryz.ntmps64
      go_wp2_with (go_at_call 94; refine (CQ.out _ RW.out).mono ?_; rintro e w1 ⟨hv, g1⟩; (obtain ⟨ao, cap, ow, hv2⟩ := quoV_some hv); subst hv2; clear hv; have hcv := own_string ow; rw [HTX.out, HTL.out] at hcv; rw [HTL.out]; clear ow; obtain ⟨⟨c0, c1, c2, c3, c4⟩, ⟨f0, f1, f2, f3, f4⟩, b1, b2⟩ := cell5 g1; clear g1)
      refine tok_end rfl (some5 ⟨c0, c1, c2, c3, c4⟩) ⟨f0, f1, f2, f3, f4⟩ rfl b1 fun g => ?_
      rw [HE.out]
      exact ⟨gives_got HTX.out rfl, g⟩

set_option maxRecDepth 100000 in
set_option maxHeartbeats 8000000 in
theorem character_any (s : ByteArray) (w : World) (RD : Rdy w) (h0 : 2 ≤ s.size) (hs : s.size ≤ 1073741824) : Calls Tryz.prog 91 #[.string s] w fun e w' => Gives (chrR s.data.toList) e ∧ Below w.heap.size w w' := by
  obtain ⟨u, hu⟩ : ∃ u, s.extract 1 s.size = u := ⟨_, rfl⟩
  have hl : u.data.toList = s.data.toList.drop 1 := by rw [← hu]; exact ext_list s 1
  have hus := sub_size hl
  have CQ := hide (fun (W : World) (RR : Rdy W) => quoted_any u W RR (by omega) (by omega))
  have HN : Hid (chrR s.data.toList = match quoN u.data.toList with
    | none => .bad 42
    | some (t, n) => if t.length = 1 then .got 7 t [] (1 + n) else .bad 42) := by show _ = _; rw [hl]; rfl
  obtain ⟨R, HR⟩ : ∃ R, Hid (chrR s.data.toList = R) := ⟨_, rfl⟩
  rw [HR.out] at HN ⊢
  clear HR hl
  have RW := hide (RD.below ((Below.refl _ _).alloc (Nat.le_refl _) (.cells #[.int .i64 0, .string ⟨#[]⟩, .slice none 0 0, .int .i64 0, .int .i64 0] 72)))
  cases hq : quoN u.data.toList with
  | none =>
    have HE : Hid (R = .bad 42) := by show _ = _; rw [HN.out, hq]
    rw [hq] at CQ
    clear HN
    go_enter Tryz.func91, Tryz.ntmps91
    go_wp2_with (go_at_call 94; refine (CQ.out _ RW.out).mono ?_; rintro e w1 ⟨hv, g1⟩; (have hv2 := quoV_none hv); subst hv2; clear hv; obtain ⟨⟨c0, c1, c2, c3, c4⟩, ⟨f0, f1, f2, f3, f4⟩, b1, b2⟩ := cell5 g1; clear g1)
    refine tok_end rfl (some5 ⟨c0, c1, c2, c3, c4⟩) ⟨f0, f1, f2, f3, f4⟩ rfl b1 fun g => ?_
    rw [HE.out]
    exact ⟨rfl, g⟩
  | some p =>
    obtain ⟨t, n⟩ := p
    have hqle := quoN_le hq
    rw [size_list] at hqle
    rw [hq] at CQ
    obtain ⟨TL, hTL⟩ : ∃ k, t.length = k := ⟨_, rfl⟩
    obtain ⟨tx, htx⟩ : ∃ tx : ByteArray, ByteArray.mk t.toArray = tx := ⟨_, rfl⟩
    have HTX := hide htx
    have gn : ((n : Int) == 0) = false := by simp; omega
    have HTL := hide hTL
    by_cases h6 : TL = 1
    · have HE : Hid (R = .got 7 t [] (1 + n)) := by show _ = _; rw [HN.out, hq]; show (if t.length = 1 then _ else _) = _; rw [if_pos (by omega)]
      subst h6
      clear HN hTL htx
      go_enter Tryz.func91, Tryz.ntmps91
      go_wp2_with (go_at_call 94; refine (CQ.out _ RW.out).mono ?_; rintro e w1 ⟨hv, g1⟩; (obtain ⟨ao, cap, ow, hv2⟩ := quoV_some hv); subst hv2; clear hv; have hcv := own_string ow; rw [HTX.out, HTL.out] at hcv; rw [HTL.out]; clear ow; obtain ⟨⟨c0, c1, c2, c3, c4⟩, ⟨f0, f1, f2, f3, f4⟩, b1, b2⟩ := cell5 g1; clear g1)
      refine tok_end rfl (some5 ⟨c0, c1, c2, c3, c4⟩) ⟨f0, f1, f2, f3, f4⟩ rfl b1 fun g => ?_
      rw [HE.out]
      exact ⟨gives_got HTX.out (by go_num), g⟩
    · have HE : Hid (R = .bad 42) := by show _ = _; rw [HN.out, hq]; show (if t.length = 1 then _ else _) = _; rw [if_neg (by omega)]
      have g1' : ((TL : Int) != 1) = true := by simp; omega
      clear HN hTL htx h6
      go_enter Tryz.func91, Tryz.ntmps91
      go_wp2_with (go_at_call 94; refine (CQ.out _ RW.out).mono ?_; rintro e w1 ⟨hv, g1⟩; (obtain ⟨ao, cap, ow, hv2⟩ := quoV_some hv); subst hv2; clear hv; rw [HTL.out]; obtain ⟨⟨c0, c1, c2, c3, c4⟩, ⟨f0, f1, f2, f3, f4⟩, b1, b2⟩ := cell5 g1; clear g1)
      refine tok_end rfl (some5 ⟨c0, c1, c2, c3, c4⟩) ⟨f0, f1, f2, f3, f4⟩ rfl b1 fun g => ?_
      rw [HE.out]
      exact ⟨rfl, g⟩
end Go.Proofs.YtbcmpacmoofdkaaGreatDoor
