/- The walk of the law StrGaps: it answers true for every two constants and gap. -/
import Derived.Test.YtgjcbgconkiedabDoorStr16
import Derived.Laws.Concat
namespace Go.Proofs.YtgjcbgconkiedabDoor.strGaps
open Go.ChangeShapes Go.WideShapes Go.ChangeAt Go.RowKit

theorem rdP_pos (Q : List UInt8 × Option Nat) : 0 ≤ rdP Q := by
  unfold rdP
  split <;> omega
theorem rdE_zero {Q : List UInt8 × Option Nat} (h : rdE Q = 0) : Q = (Q.1, none) ∧ Q.1.length ≤ 65536 ∧ rdS Q = ⟨Q.1.toArray⟩ := by
  obtain ⟨l, o⟩ := Q
  cases o with
  | some p => cases h
  | none =>
    have h' : ¬ 65536 < l.length := by
      intro c
      rw [(rd_long l c).2.2] at h
      cases h
    exact ⟨rfl, by simp only; omega, (rd_ok l h').1⟩
theorem rdS_size (Q : List UInt8 × Option Nat) : (rdS Q).size ≤ 65536 := by
  unfold rdS
  split
  · rename_i h
    rw [mk_size]
    exact h.2
  · exact Nat.zero_le _
theorem gap_takes (bl : List UInt8) (h : bl.all blankB = true) : (bl ++ [92]).takeWhile blankB = bl := by
  induction bl with
  | nil => rfl
  | cons c r ih =>
    rw [List.all_cons, Bool.and_eq_true] at h
    rw [List.cons_append, List.takeWhile_cons, h.1, if_pos rfl, ih h.2]
theorem gap_is (bl : List UInt8) (h : bl.all blankB = true) (h0 : bl ≠ []) : isGap (92 :: (bl ++ [92])) := by
  have hg : gapN (bl ++ [92]) = bl.length + 1 := by
    unfold gapN
    rw [gap_takes bl h, if_neg (by intro e; exact h0 (List.eq_nil_of_length_eq_zero e)), List.drop_left]
    rfl
  obtain ⟨c, r, rfl⟩ : ∃ c r, bl = c :: r := by
    cases bl with
    | nil => exact absurd rfl h0
    | cons c r => exact ⟨c, r, rfl⟩
  have hc : blankB c = true := by rw [List.all_cons, Bool.and_eq_true] at h; exact h.1
  have he : escP ((c :: r) ++ [92]) = (-1, (c :: r).length + 1) := by
    rw [List.cons_append, escP_blank c _ hc, ← List.cons_append, hg]
  have hp : ¬ plainB 92 = true := by decide
  have hk : ¬ (c :: r).length + 1 = 0 := by omega
  have h92 : (92 : UInt8).toNat = 92 := rfl
  refine ⟨?_, ?_, by simp⟩
  · simp only [stepN, if_neg hp, if_pos h92, he, if_neg hk]
    simp
    omega
  · simp only [stepO, if_neg hp, if_pos h92, he, if_neg hk]
    rfl

/-- A gap that is being made: a backslash and blanks. -/
def GapMade (g : ByteArray) (k : Nat) : Prop := ∃ bl : List UInt8, g.data.toList = 92 :: bl ∧ bl.all blankB = true ∧ bl ≠ [] ∧ g.size ≤ k + 2
theorem gap_start : GapMade ⟨#[92, 32]⟩ 0 := ⟨[32], rfl, by decide, by simp, by decide⟩
theorem gap_more {g : ByteArray} {k : Nat} (h : GapMade g k) (c : UInt8) (hc : blankB c = true) : GapMade (g ++ ⟨#[c]⟩) (k + 1) := by
  obtain ⟨bl, e, ha, h0, hs⟩ := h
  refine ⟨bl ++ [c], ?_, ?_, by simp, ?_⟩
  · have : (g ++ ⟨#[c]⟩).data.toList = g.data.toList ++ [c] := by simp [ByteArray.data_append]
    rw [this, e]; rfl
  · rw [List.all_append, ha, Bool.true_and, List.all_cons, hc]; rfl
  · rw [ByteArray.size_append]
    show g.size + 1 ≤ _
    omega

theorem read_gap (a g b : ByteArray) (k : Nat) (hg : GapMade g k) (ha : rdE (readL a.data.toList) = 0) (hb : rdE (readL b.data.toList) = 0) (hl : (rdS (readL a.data.toList)).size + (rdS (readL b.data.toList)).size ≤ 65536) :
    rdE (readL (a ++ g ++ ⟨#[92]⟩ ++ b).data.toList) = 0 ∧ rdS (readL (a ++ g ++ ⟨#[92]⟩ ++ b).data.toList) = rdS (readL a.data.toList) ++ rdS (readL b.data.toList) := by
  obtain ⟨bl, e, hbl, h0, _⟩ := hg
  obtain ⟨ea, la, sa⟩ := rdE_zero ha
  obtain ⟨eb, lb, sb⟩ := rdE_zero hb
  have et : (a ++ g ++ ⟨#[92]⟩ ++ b).data.toList = a.data.toList ++ ((92 :: (bl ++ [92])) ++ b.data.toList) := by
    simp [ByteArray.data_append, e]
  have hr := readL_gap (gap_is bl hbl h0) ea eb
  rw [et, hr]
  rw [sa, sb, mk_size, mk_size] at hl
  have h := rd_ok ((readL a.data.toList).1 ++ (readL b.data.toList).1) (by rw [List.length_append]; omega)
  refine ⟨h.2.2, ?_⟩
  rw [h.1, sa, sb]
  apply ByteArray.ext
  simp [ByteArray.data_append]

theorem nl : (ByteArray.mk #[10, 9, 32]).extract 0 1 = ⟨#[10]⟩ := by decide +kernel
theorem tb : (ByteArray.mk #[10, 9, 32]).extract 1 2 = ⟨#[9]⟩ := by decide +kernel
theorem bk : (ByteArray.mk #[10, 9, 32]).extract 2 3 = ⟨#[32]⟩ := by decide +kernel

set_option maxRecDepth 100000 in
set_option maxHeartbeats 8000000 in
theorem walk (a b : ByteArray) (n : Nat) (ha : a.size ≤ 140737488351232) (hb : b.size ≤ 140737488351232) (hn : n < 256) (w : World) (R : Rdy w) :
    Calls Tryd.prog 3 #[.string a, .string b, .int .u8 (n : Int)] w fun e w' => e = .returned (.bool true) ∧ Below w.heap.size w w' := by
  have CA := hide (fun (W : World) (RR : Rdy W) => read_any a W RR (by unfold maxLen; omega))
  have CB := hide (fun (W : World) (RR : Rdy W) => read_any b W RR (by unfold maxLen; omega))
  have pa := rdP_pos (readL a.data.toList)
  have px := rdS_size (readL a.data.toList)
  have py := rdS_size (readL b.data.toList)
  have RG : Hid (∀ g k, GapMade g k → rdE (readL a.data.toList) = 0 → rdE (readL b.data.toList) = 0 → (rdS (readL a.data.toList)).size + (rdS (readL b.data.toList)).size ≤ 65536 → rdE (readL (a ++ g ++ ⟨#[92]⟩ ++ b).data.toList) = 0 ∧ rdS (readL (a ++ g ++ ⟨#[92]⟩ ++ b).data.toList) = rdS (readL a.data.toList) ++ rdS (readL b.data.toList)) := fun g k => read_gap a g b k
  generalize rdP (readL a.data.toList) = ia at CA pa
  generalize rdP (readL b.data.toList) = ib at CB
  generalize rdE (readL a.data.toList) = ea at CA RG
  generalize rdE (readL b.data.toList) = eb at CB RG
  generalize rdS (readL a.data.toList) = x at CA RG px
  generalize rdS (readL b.data.toList) = y at CB RG py
  by_cases h1 : ea = 0
  · by_cases h2 : eb = 0
    · subst h1 h2
      by_cases h3 : 65536 < x.size + y.size
      · clear RG
        go_enter Tryd.func3, Tryd.ntmps3
        go_wp2_with (first | (go_at_call 4; refine (CA.out _ R).mono ?_; rintro e w1 ⟨rfl, b1⟩; clear CA) | (go_at_call 4; refine (CB.out _ (R.below b1)).mono ?_; rintro e w2 ⟨rfl, b2⟩; clear CB; have B2 := b1.trans (b2.mono b1.size)) | (go_at_call 5; refine (alive_any _ (R.below B2)).mono ?_; rintro e w3 ⟨rfl, b3⟩))
        go_ret
        exact ⟨rfl, B2.trans (b3.mono B2.size)⟩
      · have HXY := hide (fun g k h => RG.out g k h rfl rfl (Nat.le_of_not_lt h3))
        obtain ⟨N, hN⟩ : ∃ N, n % 9 = N := ⟨_, rfl⟩
        have hN8 : N ≤ 8 := by omega
        have hN1 : (n : Int) % 9 = (N : Int) := by omega
        have hN2 : (n : Int).tmod 9 = (N : Int) := by rw [← hN1]; exact Int.tmod_eq_emod_of_nonneg (by omega)
        have HZA := hide ha
        have HZB := hide hb
        have hxs : x.size ≤ 65536 := by omega
        have hys : y.size ≤ 65536 := by omega
        clear RG hN ha hb
        go_enter Tryd.func3, Tryd.ntmps3
        go_wp2_with (first | (go_at_call 4; refine (CA.out _ R).mono ?_; rintro e w1 ⟨rfl, b1⟩; clear CA) | (go_at_call 4; refine (CB.out _ (R.below b1)).mono ?_; rintro e w2 ⟨rfl, b2⟩; clear CB; have B2 := b1.trans (b2.mono b1.size)))
        go_loop [13, 14] (fun vg vk => ∃ (g : ByteArray) (k : Nat), vg = .string g ∧ vk = .int .i64 (k : Int) ∧ k ≤ N ∧ g.size ≤ k + 2 ∧ Hid (GapMade g k)) (fun _ vk => N - (intOf vk).toNat)
        case atStart => exact ⟨_, 0, rfl, rfl, Nat.zero_le _, by decide, gap_start⟩
        case round =>
          obtain ⟨g, k, rfl, rfl, hk, hgs, HG⟩ := hrel
          by_cases hkN : k < N
          · have m3 : k % 3 = 0 ∨ k % 3 = 1 ∨ k % 3 = 2 := by omega
            have s0 := nl
            have s1 := tb
            have s2 := bk
            rcases m3 with h | h | h
            · have k1 : (k : Int) % 3 = 0 := by omega
              have k2 : (k : Int).tmod 3 = 0 := by rw [← k1]; exact Int.tmod_eq_emod_of_nonneg (by omega)
              have HM := hide (gap_more HG.out 10 (by decide))
              go_wp2
              go_round
              case rel => exact ⟨g ++ ⟨#[10]⟩, k + 1, rfl, by go_num, by omega, by have := HM.out; obtain ⟨_, _, _, _, z⟩ := this; exact z, HM⟩
              case measure => simp [intOf]; omega
            · have k1 : (k : Int) % 3 = 1 := by omega
              have k2 : (k : Int).tmod 3 = 1 := by rw [← k1]; exact Int.tmod_eq_emod_of_nonneg (by omega)
              have HM := hide (gap_more HG.out 9 (by decide))
              go_wp2
              go_round
              case rel => exact ⟨g ++ ⟨#[9]⟩, k + 1, rfl, by go_num, by omega, by have := HM.out; obtain ⟨_, _, _, _, z⟩ := this; exact z, HM⟩
              case measure => simp [intOf]; omega
            · have k1 : (k : Int) % 3 = 2 := by omega
              have k2 : (k : Int).tmod 3 = 2 := by rw [← k1]; exact Int.tmod_eq_emod_of_nonneg (by omega)
              have HM := hide (gap_more HG.out 32 (by decide))
              go_wp2
              go_round
              case rel => exact ⟨g ++ ⟨#[32]⟩, k + 1, rfl, by go_num, by omega, by have := HM.out; obtain ⟨_, _, _, _, z⟩ := this; exact z, HM⟩
              case measure => simp [intOf]; omega
          · have HT := hide (HXY.out g k HG.out)
            have za : a.size ≤ 140737488351232 := HZA.out
            have zb : b.size ≤ 140737488351232 := HZB.out
            have CZ : Hid (∀ W, Rdy W → Calls Tryd.prog 4 #[.string (a ++ g ++ ⟨#[92]⟩ ++ b)] W fun e w' => e = .returned (.tuple #[.string (x ++ y), .int .i64 (rdP (readL (a ++ g ++ ⟨#[92]⟩ ++ b).data.toList)), .int .i64 0]) ∧ Below W.heap.size W w') := by
              intro W RR
              have h := read_any (a ++ g ++ ⟨#[92]⟩ ++ b) W RR (by
                unfold maxLen
                rw [ByteArray.size_append, ByteArray.size_append, ByteArray.size_append]
                show a.size + g.size + 1 + b.size ≤ _
                omega)
              rw [HT.out.1, HT.out.2] at h
              exact h
            generalize rdP (readL (a ++ g ++ ⟨#[92]⟩ ++ b).data.toList) = iz at CZ
            have q1 : (a ++ g).size = a.size + g.size := ByteArray.size_append
            have q2 : (a ++ g ++ ⟨#[92]⟩).size = a.size + g.size + 1 := by rw [ByteArray.size_append, q1]; rfl
            clear HT HXY
            go_wp2_with (first | (go_at_call 4; refine (CZ.out _ (R.below B2)).mono ?_; rintro e w3 ⟨rfl, b3⟩; have B3 := B2.trans (b3.mono B2.size)) | (go_at_call 5; refine (alive_any _ (R.below B3)).mono ?_; rintro e w4 ⟨rfl, b4⟩))
            go_ret
            exact ⟨rfl, B3.trans (b4.mono B3.size)⟩
    · subst h1
      have g2 : (eb != 0) = true := by simp [h2]
      clear RG h2
      go_enter Tryd.func3, Tryd.ntmps3
      go_wp2_with (first | (go_at_call 4; refine (CA.out _ R).mono ?_; rintro e w1 ⟨rfl, b1⟩; clear CA) | (go_at_call 4; refine (CB.out _ (R.below b1)).mono ?_; rintro e w2 ⟨rfl, b2⟩; clear CB; have B2 := b1.trans (b2.mono b1.size)) | (go_at_call 5; refine (alive_any _ (R.below B2)).mono ?_; rintro e w3 ⟨rfl, b3⟩))
      go_ret
      exact ⟨rfl, B2.trans (b3.mono B2.size)⟩
  · have g1 : (ea != 0) = true := by simp [h1]
    have g2 : (ea == 0) = false := by simp [h1]
    clear RG h1
    go_enter Tryd.func3, Tryd.ntmps3
    go_wp2_with (first | (go_at_call 4; refine (CA.out _ R).mono ?_; rintro e w1 ⟨rfl, b1⟩; clear CA) | (go_at_call 4; refine (CB.out _ (R.below b1)).mono ?_; rintro e w2 ⟨rfl, b2⟩; clear CB; have B2 := b1.trans (b2.mono b1.size)) | (go_at_call 5; refine (alive_any _ (R.below B2)).mono ?_; rintro e w3 ⟨rfl, b3⟩))
    go_ret
    exact ⟨rfl, B2.trans (b3.mono B2.size)⟩
end Go.Proofs.YtgjcbgconkiedabDoor.strGaps
