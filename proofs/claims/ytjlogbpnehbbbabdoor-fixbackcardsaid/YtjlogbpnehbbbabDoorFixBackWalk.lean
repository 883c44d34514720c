/- The walk of the law FixBack: it answers true for every int64 and every text that the form's reach allows. -/
import Derived.Test.YtjlogbpnehbbbabDoorBack
import Derived.Test.YtjlogbpnehbbbabDoorFScan2
import Derived.Test.YtjlogbpnehbbbabDoorAlive
namespace Go.Proofs.YtjlogbpnehbbbabDoor.fixBack
open Go.ChangeShapes Go.WideShapes Go.ChangeAt Go.RowKit

theorem below_trans {a b c : World} (h : Below a.heap.size a b) (g : Below b.heap.size b c) : Below a.heap.size a c := h.trans (g.mono h.size)

theorem noNumber (a0 : Int) (r : ByteArray) (w : World) (hr : rightB a0 = false) (htab : Lib.TabIs Tryd.prog w "internal/strconv.uint64pow10" .u64 Lib.pow10Tab) :
    Calls Tryd.prog 3 #[.int .i64 a0, .string r] w fun e w' => e = .returned (.bool true) ∧ Below w.heap.size w w' := by
  have HT := hide htab
  clear htab
  have e2 : textE a0 = 1 := by simp [textE, hr]
  obtain ⟨S, e1⟩ : ∃ S, textB a0 = S := ⟨_, rfl⟩
  go_enter Tryd.func3, Tryd.ntmps3
  go_wp2_with (first | (go_at_call 4; refine (ftext_any _ _ HT.out).mono ?_; rintro e w1 ⟨rfl, g1⟩) | (go_at_call 5; refine (right_any _ _).mono ?_; rintro e w1 ⟨rfl, rfl⟩) | (go_at_call 6; refine (alive_below _).mono ?_; rintro e w5 ⟨rfl, g5⟩))
  go_ret
  exact ⟨rfl, below_trans (by assumption) (by assumption)⟩

/-- What the walk is told of the number's text. -/
def Reads (S : ByteArray) (a : Int) : Prop := ∀ w, Calls Tryd.prog 7 #[.string S] w fun x w' => x = .returned (.tuple #[.int .i64 a, .int .i64 0]) ∧ Below w.heap.size w w'

theorem digitBehind (a0 c : Int) (r S : ByteArray) (w : World) (e2 : textE a0 = 0) (e1 : textB a0 = S) (hC : Reads S a0) (h0 : 0 < r.size) (hc : ((r[0]'h0).toNat : Int) = c) (hcb : 48 ≤ c ∧ c ≤ 57) (htab : Lib.TabIs Tryd.prog w "internal/strconv.uint64pow10" .u64 Lib.pow10Tab) :
    Calls Tryd.prog 3 #[.int .i64 a0, .string r] w fun e w' => e = .returned (.bool true) ∧ Below w.heap.size w w' := by
  have HT := hide htab
  have HC := hide hC
  clear htab hC
  go_enter Tryd.func3, Tryd.ntmps3
  go_wp2_with (first | (go_at_call 4; refine (ftext_any _ _ HT.out).mono ?_; rintro e w1 ⟨rfl, g1⟩) | (go_at_call 7; refine (HC.out _).mono ?_; rintro e w2 ⟨rfl, g2⟩) | (go_at_call 6; refine (alive_below _).mono ?_; rintro e w5 ⟨rfl, g5⟩))
  go_ret
  exact ⟨rfl, below_trans (below_trans g1 g2) g5⟩

set_option maxHeartbeats 2000000 in
theorem scanned (a0 : Int) (r S T : ByteArray) (w : World) (e2 : textE a0 = 0) (e1 : textB a0 = S) (hC : Reads S a0) (hS : S.size ≤ 4611686018427387906) (hrs : r.size ≤ 140737488355328)
    (hr : r.size = 0 ∨ ∃ (h0 : 0 < r.size) (c : Int), ((r[0]'h0).toNat : Int) = c ∧ (0 ≤ c ∧ c ≤ 255) ∧ (c < 48 ∨ 57 < c))
    (hT : (⟨#[32, 9]⟩ : ByteArray) ++ S ++ r = T) (hTs : T.size ≤ maxLen) (s1 : (scan3 T.data.toList).1 = a0) (s2 : (scan3 T.data.toList).2.1 = S.size + 2) (s3 : (scan3 T.data.toList).2.2 = 0)
    (htab : Lib.TabIs Tryd.prog w "internal/strconv.uint64pow10" .u64 Lib.pow10Tab) :
    Calls Tryd.prog 3 #[.int .i64 a0, .string r] w fun e w' => e = .returned (.bool true) ∧ Below w.heap.size w w' := by
  have HT := hide htab
  have HC := hide hC
  have HTS := hide hTs
  clear htab hC hTs
  rcases hr with h0 | ⟨h0, c, hc, hcb, hcd | hcd⟩
  all_goals
    go_enter Tryd.func3, Tryd.ntmps3
    go_wp2_with (first | (go_at_call 4; refine (ftext_any _ _ HT.out).mono ?_; rintro e w1 ⟨rfl, g1⟩) | (go_at_call 7; refine (HC.out _).mono ?_; rintro e w2 ⟨rfl, g2⟩) | (go_at_call 8; refine (fscan_any T _ HTS.out).mono ?_; rintro e w3 ⟨rfl, g3⟩) | (go_at_call 6; refine (alive_below _).mono ?_; rintro e w5 ⟨rfl, g5⟩))
    go_ret
    exact ⟨rfl, below_trans (below_trans (below_trans g1 g2) g3) g5⟩

theorem text_size (a : Int) (h : rightB a = true) : (textB a).data.toList = textL a ∧ (textB a).size = (textL a).length ∧ (textL a).length ≤ 4611686018427387906 := by
  have e : textB a = ⟨(textL a).toArray⟩ := by simp [textB, h]
  rw [e]
  refine ⟨rfl, rfl, ?_⟩
  have hb := right_iff.mp h
  have hd := dec_len a.natAbs
  unfold textL
  split
  · simp only [List.length_cons]; omega
  · omega

theorem walk (a0 : Int) (r : ByteArray) (hrs : r.size ≤ 140737488355328) (w : World) (htab : Lib.TabIs Tryd.prog w "internal/strconv.uint64pow10" .u64 Lib.pow10Tab) :
    Calls Tryd.prog 3 #[.int .i64 a0, .string r] w fun e w' => e = .returned (.bool true) ∧ Below w.heap.size w w' := by
  cases hr : rightB a0
  · exact noNumber a0 r w hr htab
  obtain ⟨tl, ts, tb⟩ := text_size a0 hr
  have e2 : textE a0 = 0 := by simp [textE, hr]
  have hC : Reads (textB a0) a0 := fun w => by
    refine (const_back a0 hr w).mono ?_
    rintro e w' ⟨rfl, t, p, rfl⟩
    exact ⟨rfl, below_iter (Below.refl _ _) _ _⟩
  have hrl := Lib.size_eq r
  have main : (r.size = 0 ∨ ∃ (h0 : 0 < r.size) (c : Int), ((r[0]'h0).toNat : Int) = c ∧ (0 ≤ c ∧ c ≤ 255) ∧ (c < 48 ∨ 57 < c)) →
      (r.data.toList = [] ∨ ∃ c t, r.data.toList = c :: t ∧ ¬ (48 ≤ (c.toNat : Int) ∧ (c.toNat : Int) ≤ 57)) →
      Calls Tryd.prog 3 #[.int .i64 a0, .string r] w fun e w' => e = .returned (.bool true) ∧ Below w.heap.size w w' := by
    intro h1 h2
    have hl : ((⟨#[32, 9]⟩ : ByteArray) ++ textB a0 ++ r).data.toList = 32 :: 9 :: (textL a0 ++ r.data.toList) := by
      rw [cat_list, cat_list, tl]; rfl
    have hsc := scan_back a0 hr r.data.toList h2
    refine scanned a0 r (textB a0) _ w e2 rfl hC (by omega) hrs h1 rfl ?_ ?_ ?_ ?_ htab
    · rw [Lib.size_eq, hl]
      unfold maxLen
      simp only [List.length_cons, List.length_append]
      omega
    · rw [hl, hsc]
    · rw [hl, hsc, ts]
    · rw [hl, hsc]
  by_cases h0 : r.size = 0
  · exact main (Or.inl h0) (Or.inl (List.eq_nil_of_length_eq_zero (by omega)))
  have h1 : 0 < r.size := by omega
  have hd := drop_at r 0 h1
  rw [List.drop_zero] at hd
  have hcb : ((r[0]'h1).toNat : Int) ≤ 255 := by have := (r[0]'h1).toNat_lt; omega
  by_cases hc : 48 ≤ ((r[0]'h1).toNat : Int) ∧ ((r[0]'h1).toNat : Int) ≤ 57
  · exact digitBehind a0 _ r (textB a0) w e2 rfl hC h1 rfl hc htab
  · exact main (Or.inr ⟨h1, _, rfl, ⟨by omega, hcb⟩, by omega⟩) (Or.inr ⟨_, _, hd, hc⟩)
end Go.Proofs.YtjlogbpnehbbbabDoor.fixBack
