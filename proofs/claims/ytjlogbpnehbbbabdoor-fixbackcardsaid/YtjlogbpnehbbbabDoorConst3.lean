/- Constant, of package fix and of the document, held against one another. -/
import Derived.Test.YtjlogbpnehbbbabDoorConst2
namespace Go.Proofs.YtjlogbpnehbbbabDoor
open Go.ChangeShapes Go.WideShapes Go.ChangeAt Go.RowKit

theorem lit1 : (⟨#[126]⟩ : ByteArray).toList = [126] := by rw [Lib.toList_data]
theorem lit2 : (⟨#[48, 120]⟩ : ByteArray).toList = [48, 120] := by rw [Lib.toList_data]
theorem siz1 : (⟨#[126]⟩ : ByteArray).size = 1 := rfl
theorem siz2 : (⟨#[48, 120]⟩ : ByteArray).size = 2 := rfl
theorem hp1 (s : ByteArray) (h : hpB s ⟨#[126]⟩ = true) : ∃ h0 : 0 < s.size, ((s[0]'h0).toNat : Int) = 126 := by
  have h0 : 1 ≤ s.size := hpB_size h
  refine ⟨h0, ?_⟩
  unfold hpB at h
  rw [lit1, siz1, Lib.toList_data, Lib.extract_data, Bool.and_eq_true] at h
  have h2 := h.2
  obtain ⟨⟨l⟩⟩ := s
  cases l with
  | nil => simp at h2
  | cons c r =>
    have : c = 126 := by simpa using h2
    subst this
    rfl
theorem hp1_not (s : ByteArray) (h0 : 0 < s.size) (h : hpB s ⟨#[126]⟩ = false) : (((s[0]'h0).toNat : Int) == 126) = false := by
  unfold hpB at h
  rw [lit1, siz1, Lib.toList_data, Lib.extract_data] at h
  obtain ⟨⟨l⟩⟩ := s
  cases l with
  | nil => exact absurd h0 (Nat.lt_irrefl 0)
  | cons c r =>
    have h1 : 1 ≤ (⟨⟨c :: r⟩⟩ : ByteArray).size := by
      show 1 ≤ (c :: r).length
      simp
    rw [decide_eq_true h1] at h
    have h2 : ¬ c = 126 := by simpa using h
    rw [beq_eq_false_iff_ne]
    intro hc
    apply h2
    have : c.toNat = 126 := by
      have hc' : ((c.toNat : Nat) : Int) = 126 := hc
      omega
    exact UInt8.toNat_inj.mp this
theorem hp2 (t : ByteArray) (h : hpB t ⟨#[48, 120]⟩ = true) : 2 ≤ t.size ∧ (t.extract 0 2).toList = [48, 120] := by
  refine ⟨hpB_size h, ?_⟩
  unfold hpB at h
  rw [lit2, siz2, Bool.and_eq_true] at h
  simpa using h.2
theorem hp2_not (t : ByteArray) (h : hpB t ⟨#[48, 120]⟩ = false) : t.size ≤ 2 ∨ 2 < t.size ∧ ¬ (t.extract 0 2).toList = [48, 120] := by
  by_cases h2 : t.size ≤ 2
  · exact Or.inl h2
  · refine Or.inr ⟨by omega, fun hx => ?_⟩
    unfold hpB at h
    have h1 : (⟨#[48, 120]⟩ : ByteArray).size ≤ t.size := by
      show 2 ≤ _
      omega
    have h3 : ((t.extract 0 (⟨#[48, 120]⟩ : ByteArray).size).toList == (⟨#[48, 120]⟩ : ByteArray).toList) = true := by
      rw [lit2]
      show ((t.extract 0 2).toList == [48, 120]) = true
      rw [hx]; rfl
    rw [decide_eq_true h1, h3] at h
    cases h
theorem hex_not_dec (t : ByteArray) (h : (t.extract 0 2).toList = [48, 120]) : allB 10 t = false := by
  rw [Lib.toList_data, Lib.extract_data] at h
  have h2 : t.data.toList.take 2 = [48, 120] := by simpa using h
  have h3 : digsB 10 t.data.toList = false := by
    match hl : t.data.toList, h2 with
    | [], h2 => simp at h2
    | [_], h2 => simp at h2
    | a :: b :: r, h2 =>
      have hb : b = 120 := by simp at h2; exact h2.2
      subst hb
      simp [digsB, digI]
  unfold allB
  rw [h3]; rfl

theorem fgood (s s1 s2 : ByteArray) (b1 b2 : Bool) (base : Int) (e1 : cutS s ⟨#[126]⟩ = s1) (e2 : hpB s ⟨#[126]⟩ = b1) (e3 : cutS s1 ⟨#[48, 120]⟩ = s2) (e4 : hpB s1 ⟨#[48, 120]⟩ = b2) (hb : base = if b2 then 16 else 10) (ha : allB base s2 = true) (w : World) :
    Calls Tryd.prog 7 #[.string s] w fun x w' => x = .returned (.tuple #[.int .i64 (numV base s2.data.toList b1), .int .i64 (numE base s2.data.toList b1)]) ∧ ∃ t p, w' = w.iter t p := by
  have hbb : 2 ≤ base ∧ base ≤ 16 := by rw [hb]; split <;> omega
  have hl := lead_num hbb s2.data.toList b1 (allB_digs ha)
  have hsz : 0 < s2.size := by
    unfold allB at ha; rw [Bool.and_eq_true] at ha
    have := ha.2
    simp at this
    have h2 : ¬ s2.size = 0 := by simpa using this
    omega
  have hlen := Lib.size_eq s2
  refine (fconst_core s s1 s2 b1 b2 base _ _ w e1 e2 e3 e4 hb rfl rfl hl.2.1 (by rw [hl.1]; omega) (by rw [hl.1]; omega)).mono ?_
  rintro e w' ⟨rfl, p, rfl⟩
  exact ⟨ret_two hl.2.2.1 hl.2.2.2, _, _, rfl⟩
theorem fnone (s s1 s2 : ByteArray) (b1 b2 : Bool) (base : Int) (e1 : cutS s ⟨#[126]⟩ = s1) (e2 : hpB s ⟨#[126]⟩ = b1) (e3 : cutS s1 ⟨#[48, 120]⟩ = s2) (e4 : hpB s1 ⟨#[48, 120]⟩ = b2) (hb : base = if b2 then 16 else 10) (ha : allB base s2 = false) (w : World) :
    Calls Tryd.prog 7 #[.string s] w fun x w' => x = .returned (.tuple #[.int .i64 0, .int .i64 12]) ∧ ∃ t p, w' = w.iter t p := by
  have hlen := Lib.size_eq s2
  have hk : (leadGo base 0 0 s2.data.toList).2 = 0 ∨ (leadGo base 0 0 s2.data.toList).2 < s2.size := by
    by_cases hz : s2.size = 0
    · left
      have : s2.data.toList = [] := List.eq_nil_of_length_eq_zero (by omega)
      rw [this]; rfl
    · right
      have hd : digsB base s2.data.toList = false := by
        unfold allB at ha
        simpa [hz] using ha
      have := lead_not s2.data.toList 0 0 hd
      omega
  refine (fconst_bad s s1 s2 b1 b2 base _ _ w e1 e2 e3 e4 hb rfl rfl hk).mono ?_
  rintro e w' ⟨rfl, p, rfl⟩
  exact ⟨rfl, _, _, rfl⟩
end Go.Proofs.YtjlogbpnehbbbabDoor
