/- Package fix's Scan answers what the plain function says, for every text. -/
import Derived.Test.YtjlogbpnehbbbabDoorFScan
namespace Go.Proofs.YtjlogbpnehbbbabDoor
open Go.ChangeShapes Go.WideShapes Go.ChangeAt Go.RowKit

theorem trims (s : ByteArray) : ∃ t : ByteArray, t.data.toList = behind s.data.toList ∧ Trims s t := by
  refine ⟨⟨(behind s.data.toList).toArray⟩, rfl, fun w => ?_⟩
  have h := Any.strings_TrimLeft_laid Tryd.lays161 (by kernel_rfl) s ⟨#[9, 10, 11, 12, 13, 32]⟩ w (by decide) (ascii_of_all (by decide))
  rw [show (⟨#[9, 10, 11, 12, 13, 32]⟩ : ByteArray).data.toList = [9, 10, 11, 12, 13, 32] from rfl, behind_trim] at h
  exact h
theorem index_sign (c : UInt8) : decide (0 ≤ Lib.indexByte [126, 45, 43] c) = decide ((c.toNat : Int) = 126 ∨ (c.toNat : Int) = 45 ∨ (c.toNat : Int) = 43) := by
  by_cases h1 : c = 126
  · subst h1; decide
  by_cases h2 : c = 45
  · subst h2; decide
  by_cases h3 : c = 43
  · subst h3; decide
  have e : ∀ n : Nat, n < 256 → ¬ c = UInt8.ofNat n → ¬ c.toNat = n := fun n _ h g => h (by rw [← g]; simp)
  have e1 := e 126 (by omega) h1
  have e2 := e 45 (by omega) h2
  have e3 := e 43 (by omega) h3
  have g1 : (126 == c) = false := by rw [beq_eq_false_iff_ne]; exact fun x => h1 x.symm
  have g2 : (45 == c) = false := by rw [beq_eq_false_iff_ne]; exact fun x => h2 x.symm
  have g3 : (43 == c) = false := by rw [beq_eq_false_iff_ne]; exact fun x => h3 x.symm
  have hi : Lib.indexByte [126, 45, 43] c = -1 := by
    simp [Lib.indexByte, g1, g2, g3]
  rw [hi]
  have : ¬ ((c.toNat : Int) = 126 ∨ (c.toNat : Int) = 45 ∨ (c.toNat : Int) = 43) := by omega
  simp [this]
theorem signs (c : UInt8) : Signs c (decide ((c.toNat : Int) = 126 ∨ (c.toNat : Int) = 45 ∨ (c.toNat : Int) = 43)) := by
  intro w
  have h := Tryd.strings_Contains_one ⟨#[126, 45, 43]⟩ c w
  rw [show (⟨#[126, 45, 43]⟩ : ByteArray).data.toList = [126, 45, 43] from rfl, index_sign] at h
  exact h

theorem fscan_any (s : ByteArray) (w : World) (hs : s.size ≤ maxLen) :
    Calls Tryd.prog 8 #[.string s] w fun e w' => e = .returned (.tuple #[.int .i64 (scan3 s.data.toList).1, .int .i64 (scan3 s.data.toList).2.1, .int .i64 (scan3 s.data.toList).2.2]) ∧ Below w.heap.size w w' := by
  obtain ⟨t, ht, hT⟩ := trims s
  have hts : t.size ≤ s.size := by rw [Lib.size_eq, Lib.size_eq s, ht]; exact behind_le _
  have hll := Lib.size_eq s
  have htl := Lib.size_eq t
  have hemp := Lib.toList_data t
  cases hr : behind s.data.toList with
  | nil =>
    rw [hr] at ht
    have e : scan3 s.data.toList = (0, 0, 12) := by unfold scan3; rw [hr]; rfl
    rw [e]
    exact fscan_plain_none s t 0 w hT (Or.inl (by rw [hemp, ht]; rfl)) (by rw [ht]; rfl)
  | cons c r =>
    rw [hr] at ht
    have h0 : t.toList.isEmpty = false := by rw [hemp, ht]; rfl
    have h1 : 0 < t.size := by rw [htl, ht]; simp
    have hx : t.extract 0 1 = ⟨#[c]⟩ := by
      apply bytes_inj
      rw [Lib.extract_data, ht]
      rfl
    have hc : ((t[0]'h1).toNat : Int) = (c.toNat : Int) := by
      have := drop_at t 0 h1
      rw [List.drop_zero, ht] at this
      injection this with a _
      rw [← a]
    have hsg := signs c
    by_cases hsn : (c.toNat : Int) = 126 ∨ (c.toNat : Int) = 45 ∨ (c.toNat : Int) = 43
    · rw [decide_eq_true hsn] at hsg
      obtain ⟨u, hu⟩ : ∃ u, t.extract 1 t.size = u := ⟨_, rfl⟩
      have hul : u.data.toList = r := by rw [← hu, Lib.extract_to_end, ht]; rfl
      have hus : u.size ≤ t.size := by rw [← hu, ByteArray.size_extract]; omega
      have hu2 := Lib.size_eq u
      have hsc : scan3 s.data.toList = if (dOf r).length = 0 then (0, 0, 12) else (numV 10 (dOf r) (signB (c :: r)), s.data.toList.length - r.length + (dOf r).length, numE 10 (dOf r) (signB (c :: r))) := by
        unfold scan3
        rw [hr]
        have : signN (c :: r) = 1 := by show (if _ then _ else _) = _; rw [if_pos hsn]
        rw [this]
        rfl
      have hl := lead_scan r (signB (c :: r))
      by_cases hd : (dOf r).length = 0
      · rw [hsc, if_pos hd]
        exact fscan_sign_none s t u c w hT h0 h1 hx hsg hu (by rw [hul, hl.1]; exact hd)
      · rw [hsc, if_neg hd]
        have hdl := dOf_le r
        have hb : (((t[0]'h1).toNat : Int) != 43) = signB (c :: r) := by
          rw [hc]
          show _ = decide _
          rw [Bool.eq_iff_iff]
          simp only [bne_iff_ne, ne_eq, decide_eq_true_eq]
          omega
        refine (fscan_sign s t u c (signB (c :: r)) _ _ w hs hts hT h0 h1 hx hsg hb hu hus rfl rfl (by rw [hul]; exact hl.2.1) (by rw [hul, hl.1]; omega) (by rw [hul, hl.1, hu2, hul]; exact hdl)).mono ?_
        rintro e w' ⟨rfl, g⟩
        refine ⟨ret_three (by rw [hul]; exact hl.2.2.1) ?_ (by rw [hul]; exact hl.2.2.2), g⟩
        rw [hul, hl.1]
        have e3 : u.size = r.length := by rw [hu2, hul]
        have e4 : r.length ≤ s.data.toList.length := by omega
        simp only
        omega
    · rw [decide_eq_false hsn] at hsg
      have hsc : scan3 s.data.toList = if (dOf (c :: r)).length = 0 then (0, 0, 12) else (numV 10 (dOf (c :: r)) false, s.data.toList.length - (c :: r).length + (dOf (c :: r)).length, numE 10 (dOf (c :: r)) false) := by
        unfold scan3
        rw [hr]
        have e1 : signN (c :: r) = 0 := by show (if _ then _ else _) = _; rw [if_neg hsn]
        have e2 : signB (c :: r) = false := by show decide _ = _; rw [decide_eq_false_iff_not]; omega
        rw [e1, e2]
        rfl
      have hl := lead_scan (c :: r) false
      have hcc : t.toList.isEmpty = true ∨ t.toList.isEmpty = false ∧ 1 ≤ t.size ∧ t.extract 0 1 = ⟨#[c]⟩ ∧ Signs c false := Or.inr ⟨h0, h1, hx, hsg⟩
      by_cases hd : (dOf (c :: r)).length = 0
      · rw [hsc, if_pos hd]
        exact fscan_plain_none s t c w hT hcc (by rw [ht, hl.1]; exact hd)
      · rw [hsc, if_neg hd]
        have hdl := dOf_le (c :: r)
        refine (fscan_plain s t c _ _ w hs hts hT hcc rfl rfl (by rw [ht]; exact hl.2.1) (by rw [ht, hl.1]; omega) (by rw [ht, hl.1, htl, ht]; exact hdl)).mono ?_
        rintro e w' ⟨rfl, g⟩
        refine ⟨ret_three (by rw [ht]; exact hl.2.2.1) ?_ (by rw [ht]; exact hl.2.2.2), g⟩
        rw [ht, hl.1]
        have e3 : t.size = (c :: r).length := by rw [htl, ht]
        have e4 : (c :: r).length ≤ s.data.toList.length := by omega
        simp only
        omega
end Go.Proofs.YtjlogbpnehbbbabDoor
