/- Constant, of package fix and of the document, held against one another. -/
import Derived.Test.YtjlogbpnehbbbaaConst2
namespace Go.Proofs.Ytjlogbpnehbbbaa
open Go.ChangeShapes Go.WideShapes Go.ChangeAt Go.RowKit

theorem rempty (s : ByteArray) (w : World) (h0 : s.size = 0) :
    Calls Try.prog 29 #[.string s] w fun e w' => e = .returned (.tuple #[.int .i64 0, .int .i64 12]) ∧ w' = w := by
  have ha : allB 10 s = false := by unfold allB; simp [h0]
  go_enter Try.func29, Try.ntmps29
  go_wp2_with (first | (go_at_call 40; refine (allB_any _ _ _ (by unfold maxLen; omega) (by omega)).mono ?_; rintro e w' ⟨rfl, rfl⟩))
  go_ret2
  exact ⟨rfl, rfl⟩

theorem lit1 : (⟨#[126]⟩ : ByteArray).toList = [126] := by rw [Lib.toList_data]
theorem lit2 : (⟨#[48, 120]⟩ : ByteArray).toList = [48, 120] := by rw [Lib.toList_data]
theorem siz1 : (⟨#[126]⟩ : ByteArray).size = 1 := rfl
theorem siz2 : (⟨#[48, 120]⟩ : ByteArray).size = 2 := rfl
theorem hp1 (s : ByteArray) (h : hpB s ⟨#[126]⟩ = true) : ∃ h0 : 0 < s.size, ((s[0]'h0).toNat : Int) = 126 := by
  have h0 : 1 ≤ s.size := hpB_size h
  refine ⟨h0, ?_⟩
  unfold hpB at h
  rw [lit1, siz1, Lib.toList_data, Lib.extract_data, Bool.and_eq_true] at h
  have h2 := h.2
  obtain ⟨⟨l⟩⟩ := s
  cases l with
  | nil => simp at h2
  | cons c r =>
    have : c = 126 := by simpa using h2
    subst this
    rfl
theorem hp1_not (s : ByteArray) (h0 : 0 < s.size) (h : hpB s ⟨#[126]⟩ = false) : (((s[0]'h0).toNat : Int) == 126) = false := by
  unfold hpB at h
  rw [lit1, siz1, Lib.toList_data, Lib.extract_data] at h
  obtain ⟨⟨l⟩⟩ := s
  cases l with
  | nil => exact absurd h0 (Nat.lt_irrefl 0)
  | cons c r =>
    have h1 : 1 ≤ (⟨⟨c :: r⟩⟩ : ByteArray).size := by
      show 1 ≤ (c :: r).length
      simp
    rw [decide_eq_true h1] at h
    have h2 : ¬ c = 126 := by simpa using h
    rw [beq_eq_false_iff_ne]
    intro hc
    apply h2
    have : c.toNat = 126 := by
      have hc' : ((c.toNat : Nat) : Int) = 126 := hc
      omega
    exact UInt8.toNat_inj.mp this
theorem hp2 (t : ByteArray) (h : hpB t ⟨#[48, 120]⟩ = true) : 2 ≤ t.size ∧ (t.extract 0 2).toList = [48, 120] := by
  refine ⟨hpB_size h, ?_⟩
  unfold hpB at h
  rw [lit2, siz2, Bool.and_eq_true] at h
  simpa using h.2
theorem hp2_not (t : ByteArray) (h : hpB t ⟨#[48, 120]⟩ = false) : t.size ≤ 2 ∨ 2 < t.size ∧ ¬ (t.extract 0 2).toList = [48, 120] := by
  by_cases h2 : t.size ≤ 2
  · exact Or.inl h2
  · refine Or.inr ⟨by omega, fun hx => ?_⟩
    unfold hpB at h
    have h1 : (⟨#[48, 120]⟩ : ByteArray).size ≤ t.size := by
      show 2 ≤ _
      omega
    have h3 : ((t.extract 0 (⟨#[48, 120]⟩ : ByteArray).size).toList == (⟨#[48, 120]⟩ : ByteArray).toList) = true := by
      rw [lit2]
      show ((t.extract 0 2).toList == [48, 120]) = true
      rw [hx]; rfl
    rw [decide_eq_true h1, h3] at h
    cases h
theorem hex_not_dec (t : ByteArray) (h : (t.extract 0 2).toList = [48, 120]) : allB 10 t = false := by
  rw [Lib.toList_data, Lib.extract_data] at h
  have h2 : t.data.toList.take 2 = [48, 120] := by simpa using h
  have h3 : digsB 10 t.data.toList = false := by
    match hl : t.data.toList, h2 with
    | [], h2 => simp at h2
    | [_], h2 => simp at h2
    | a :: b :: r, h2 =>
      have hb : b = 120 := by simp at h2; exact h2.2
      subst hb
      simp [digsB, digI]
  unfold allB
  rw [h3]; rfl

/-- What both answer. -/
def Same (s : ByteArray) (a e : Int) : Prop :=
  (∀ w, Calls Try.prog 28 #[.string s] w fun x w' => x = .returned (.tuple #[.int .i64 a, .int .i64 e]) ∧ ∃ t p, w' = w.iter t p) ∧
  (∀ w, Calls Try.prog 29 #[.string s] w fun x w' => x = .returned (.tuple #[.int .i64 a, .int .i64 e]) ∧ w' = w)

theorem fgood (s s1 s2 : ByteArray) (b1 b2 : Bool) (base : Int) (e1 : cutS s ⟨#[126]⟩ = s1) (e2 : hpB s ⟨#[126]⟩ = b1) (e3 : cutS s1 ⟨#[48, 120]⟩ = s2) (e4 : hpB s1 ⟨#[48, 120]⟩ = b2) (hb : base = if b2 then 16 else 10) (ha : allB base s2 = true) (w : World) :
    Calls Try.prog 28 #[.string s] w fun x w' => x = .returned (.tuple #[.int .i64 (numV base s2.data.toList b1), .int .i64 (numE base s2.data.toList b1)]) ∧ ∃ t p, w' = w.iter t p := by
  have hbb : 2 ≤ base ∧ base ≤ 16 := by rw [hb]; split <;> omega
  have hl := lead_num hbb s2.data.toList b1 (allB_digs ha)
  have hsz : 0 < s2.size := by
    unfold allB at ha; rw [Bool.and_eq_true] at ha
    have := ha.2
    simp at this
    have h2 : ¬ s2.size = 0 := by simpa using this
    omega
  have hlen := Lib.size_eq s2
  refine (fconst_core s s1 s2 b1 b2 base _ _ w e1 e2 e3 e4 hb rfl rfl hl.2.1 (by rw [hl.1]; omega) (by rw [hl.1]; omega)).mono ?_
  rintro e w' ⟨rfl, p, rfl⟩
  exact ⟨ret_two hl.2.2.1 hl.2.2.2, _, _, rfl⟩
theorem fnone (s s1 s2 : ByteArray) (b1 b2 : Bool) (base : Int) (e1 : cutS s ⟨#[126]⟩ = s1) (e2 : hpB s ⟨#[126]⟩ = b1) (e3 : cutS s1 ⟨#[48, 120]⟩ = s2) (e4 : hpB s1 ⟨#[48, 120]⟩ = b2) (hb : base = if b2 then 16 else 10) (ha : allB base s2 = false) (w : World) :
    Calls Try.prog 28 #[.string s] w fun x w' => x = .returned (.tuple #[.int .i64 0, .int .i64 12]) ∧ ∃ t p, w' = w.iter t p := by
  have hlen := Lib.size_eq s2
  have hk : (leadGo base 0 0 s2.data.toList).2 = 0 ∨ (leadGo base 0 0 s2.data.toList).2 < s2.size := by
    by_cases hz : s2.size = 0
    · left
      have : s2.data.toList = [] := List.eq_nil_of_length_eq_zero (by omega)
      rw [this]; rfl
    · right
      have hd : digsB base s2.data.toList = false := by
        unfold allB at ha
        simpa [hz] using ha
      have := lead_not s2.data.toList 0 0 hd
      omega
  refine (fconst_bad s s1 s2 b1 b2 base _ _ w e1 e2 e3 e4 hb rfl rfl hk).mono ?_
  rintro e w' ⟨rfl, p, rfl⟩
  exact ⟨rfl, _, _, rfl⟩

theorem const_both (s : ByteArray) (hs : s.size ≤ maxLen) : ∃ a e, Same s a e := by
  obtain ⟨t, e1⟩ : ∃ t, cutS s ⟨#[126]⟩ = t := ⟨_, rfl⟩
  obtain ⟨b1, e2⟩ : ∃ b, hpB s ⟨#[126]⟩ = b := ⟨_, rfl⟩
  obtain ⟨s2, e3⟩ : ∃ b, cutS t ⟨#[48, 120]⟩ = b := ⟨_, rfl⟩
  obtain ⟨u, hu⟩ : ∃ u, t.extract 2 t.size = u := ⟨_, rfl⟩
  have hts : t.size ≤ s.size := by
    rw [← e1]; unfold cutS; split
    · rw [ByteArray.size_extract]; omega
    · omega
  have hus : u.size ≤ s.size := by rw [← hu, ByteArray.size_extract]; omega
  -- the document's answer, by the sign
  have ref : ∀ (b : Bool), b = b1 → (allB 16 u = true → 2 < t.size → (t.extract 0 2).toList = [48, 120] → ∀ w, Calls Try.prog 29 #[.string s] w fun x w' => x = .returned (.tuple #[.int .i64 (numV 16 u.data.toList b), .int .i64 (numE 16 u.data.toList b)]) ∧ w' = w) ∧
      ((t.size ≤ 2 ∨ 2 < t.size ∧ ¬ (t.extract 0 2).toList = [48, 120] ∨ 2 < t.size ∧ (t.extract 0 2).toList = [48, 120] ∧ allB 16 u = false) → (allB 10 t = true → ∀ w, Calls Try.prog 29 #[.string s] w fun x w' => x = .returned (.tuple #[.int .i64 (numV 10 t.data.toList b), .int .i64 (numE 10 t.data.toList b)]) ∧ w' = w) ∧
        (allB 10 t = false → ∀ w, Calls Try.prog 29 #[.string s] w fun x w' => x = .returned (.tuple #[.int .i64 0, .int .i64 12]) ∧ w' = w)) := by
    intro b hb
    subst hb
    cases b
    · have ht : s = t := by rw [← e1]; unfold cutS; rw [e2]; rfl
      by_cases h0 : s.size = 0
      · have hat : allB 10 t = false := by unfold allB; rw [← ht]; simp [h0]
        refine ⟨fun _ h2 => by rw [← ht] at h2; omega, fun _ => ⟨fun h => (by rw [hat] at h; exact absurd h (by decide)), fun _ w => rempty s w h0⟩⟩
      · have h0' : 0 < s.size := by omega
        have hz := hp1_not s h0' e2
        exact ⟨fun ha h2 hx w => rabove_hex s t u w hs h0' hz ht hts hus hu h2 hx ha, fun hn => ⟨fun ha w => rabove_dec s t u w hs h0' hz ht hts hus hu hn ha, fun ha w => rabove_none s t u w hs h0' hz ht hts hus hu hn ha⟩⟩
    · obtain ⟨h0, hz⟩ := hp1 s e2
      have ht : s.extract 1 s.size = t := by rw [← e1]; unfold cutS; rw [e2]; rfl
      exact ⟨fun ha h2 hx w => rbelow_hex s t u w hs h0 hz ht hts hus hu h2 hx ha, fun hn => ⟨fun ha w => rbelow_dec s t u w hs h0 hz ht hts hus hu hn ha, fun ha w => rbelow_none s t u w hs h0 hz ht hts hus hu hn ha⟩⟩
  obtain ⟨rhex, rrest⟩ := ref b1 rfl
  cases e4 : hpB t ⟨#[48, 120]⟩
  · have hs2 : s2 = t := by rw [← e3]; unfold cutS; rw [e4]; rfl
    have hn := hp2_not t e4
    obtain ⟨rdec, rnone⟩ := rrest (by rcases hn with h | h; exact Or.inl h; exact Or.inr (Or.inl h))
    cases ha : allB 10 t
    · exact ⟨_, _, fnone s t s2 b1 false 10 e1 e2 e3 e4 rfl (by rw [hs2]; exact ha), rnone ha⟩
    · refine ⟨_, _, fgood s t s2 b1 false 10 e1 e2 e3 e4 rfl (by rw [hs2]; exact ha), ?_⟩
      rw [hs2]; exact rdec ha
  · have hs2 : s2 = u := by rw [← e3, ← hu]; unfold cutS; rw [e4]; rfl
    obtain ⟨h2, hx⟩ := hp2 t e4
    cases ha : allB 16 u
    · have h10 := hex_not_dec t hx
      obtain ⟨_, rnone⟩ := rrest (by by_cases h : t.size ≤ 2; exact Or.inl h; exact Or.inr (Or.inr ⟨by omega, hx, ha⟩))
      exact ⟨_, _, fnone s t s2 b1 true 16 e1 e2 e3 e4 rfl (by rw [hs2]; exact ha), rnone h10⟩
    · have hlt : 2 < t.size := by
        unfold allB at ha
        rw [Bool.and_eq_true] at ha
        have h3 : ¬ u.size = 0 := by simpa using ha.2
        have h4 : u.size = t.size - 2 := by rw [← hu, ByteArray.size_extract]; omega
        omega
      refine ⟨_, _, fgood s t s2 b1 true 16 e1 e2 e3 e4 rfl (by rw [hs2]; exact ha), ?_⟩
      rw [hs2]; exact rhex ha hlt hx
end Go.Proofs.Ytjlogbpnehbbbaa
