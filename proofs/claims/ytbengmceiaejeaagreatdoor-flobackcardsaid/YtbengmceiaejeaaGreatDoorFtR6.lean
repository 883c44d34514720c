/- The document's side: digits; noughts. -/
import Derived.Test.YtbengmceiaejeaaGreatDoorFtR5
namespace Go.Proofs.YtbengmceiaejeaaGreatDoor
open Go.ChangeShapes Go.WideShapes Go.ChangeAt Go.RowKit

theorem amt_ten (w : World) (t : TypeId) : IsAmt (w.alloc (.cells #[.int .u16 10] t)) (.slice (some ⟨w.heap.size, 0, none⟩) 1 1) 10 :=
  ⟨[10], row_digit w t 10, by intro d hd; simp at hd; omega, by intro k hk; simp at hk; subst hk; simp, by simp [valD]⟩

theorem div_ten (v : Value) (x : Nat) (wr : World) (hv : IsAmt wr v x) (hx : x < 2 ^ 100) (t : TypeId) :
    Calls Tryz.prog 52 #[v, .slice (some ⟨wr.heap.size, 0, none⟩) 1 1] (wr.alloc (.cells #[.int .u16 10] t)) fun e w' => ∃ a r, e = .returned (.tuple #[a, r]) ∧ IsAmt w' a (x / 10) ∧ IsAmt w' r (x % 10) ∧ Below wr.heap.size wr w' :=
  (divD_any v _ x 10 _ (hv.below ((Below.refl _ _).alloc (Nat.le_refl _) _)) (amt_ten wr t) (big_of hx (by omega)) (big_of (a := 4) (by decide) (by omega)) (by decide)).mono
    fun _ _ ⟨a, r, h1, h2, h3, h4⟩ => ⟨a, r, h1, h2, h3, ((Below.refl _ _).alloc (Nat.le_refl _) _).trans (h4.mono (by simp))⟩

theorem conv_one (q : Nat) (hq : q < 256) (W : World) (t : TypeId) :
    (convert 65 9 (.slice (some ⟨W.heap.size, 0, none⟩) 1 1)).run Tryz.prog (W.alloc (.cells #[.int .u8 (q : Int)] t)) = .ok (.string ⟨#[UInt8.ofNat q]⟩) (W.alloc (.cells #[.int .u8 (q : Int)] t)) := by
  refine run_convert_bytes_back (P := Tryz.prog) _ 65 9 5 ⟨W.heap.size, 0, none⟩ 1 [UInt8.ofNat q] Tryz.underlying65 Tryz.underlying5 Tryz.underlying9 ?_
  intro j hj
  have : j = 0 := by simp at hj; omega
  subst this
  have e : (UInt8.ofNat q).toNat = q := ofNat_toNat hq
  show (W.alloc (.cells #[.int .u8 (q : Int)] t)).cell? ⟨W.heap.size, 0, none⟩ = _
  simp [e]

theorem ba_size (b : ByteArray) : b.size = b.data.toList.length := by rw [Array.length_toList]; rfl

/-- One digit more ahead. -/
theorem dig_step {x c y q : Nat} {Z b : ByteArray} {D : List UInt8} (hx : 0 < x) (ec : x % 10 = c) (ey : x / 10 = y) (eq : 48 + c = q) (eZ : (⟨#[UInt8.ofNat q]⟩ : ByteArray) = Z) (hg : (0 < x ∧ Lib.decDigits x ++ b.data.toList = D) ∨ (x = 0 ∧ b.data.toList = D)) :
    (0 < y ∧ Lib.decDigits y ++ (Z ++ b).data.toList = D) ∨ (y = 0 ∧ (Z ++ b).data.toList = D) := by
  rcases hg with ⟨_, h⟩ | ⟨h, _⟩
  · have hZ : (Z ++ b).data.toList = UInt8.ofNat q :: b.data.toList := by rw [ba_cat, ← eZ]; rfl
    by_cases h10 : x < 10
    · right
      refine ⟨by omega, ?_⟩
      rw [hZ, ← h, Lib.decDigits, dif_pos h10, (by omega : q = 48 + x)]
      rfl
    · left
      refine ⟨by omega, ?_⟩
      rw [hZ, ← h, Lib.decDigits.eq_def x, dif_neg h10, ← eq, ← ec, ← ey, List.append_assoc]
      rfl
  · omega

theorem digits_any (v : Value) (n : Nat) (w : World) (hv : IsAmt w v n) (h0 : 0 < n) (hn : n < 4611686018427387904) :
    Calls Tryz.prog 23 #[v] w fun e w' => e = .returned (.string ⟨(Lib.decDigits n).toArray⟩) ∧ Below w.heap.size w w' := by
  obtain ⟨va, vl, vc, rfl⟩ := amt_form hv
  obtain ⟨D, eD⟩ : ∃ D, Lib.decDigits n = D := ⟨_, rfl⟩
  have hDl : D.length ≤ n + 1 := by
    rw [← eD]
    clear eD hv hn h0
    induction n using Nat.strongRecOn with
    | _ u ih =>
      rw [Lib.decDigits]
      split
      · simp
      · have := ih (u / 10) (by omega)
        simp
        omega
  have HD := hide eD
  have HV := hide hv
  rw [eD]
  clear eD hv
  go_enter Tryz.func23, Tryz.ntmps23
  go_wp2
  go_loopw [0, 3] (fun a s wr => ∃ (x : Nat) (b : ByteArray), s = .string b ∧ IsAmt wr a x ∧ x ≤ n ∧ (b.data.toList.length ≤ D.length) ∧ ((0 < x ∧ Lib.decDigits x ++ b.data.toList = D) ∨ (x = 0 ∧ b.data.toList = D)) ∧ Below w.heap.size w wr) (fun _ s _ => D.length - (match s with | .string b => b.size | _ => 0))
  case atStart => exact ⟨n, _, rfl, HV.out, Nat.le_refl _, by simp, Or.inl ⟨h0, by rw [HD.out]; simp⟩, Below.refl _ _⟩
  case round =>
    obtain ⟨x, b, rfl, ha, hxn, hbl, hg, bw⟩ := hrel
    obtain ⟨ao, al, ac, rfl⟩ := amt_form ha
    have hlen := amt_len0 ha
    have hbs : b.size ≤ D.length := by have : b.size = b.data.toList.length := by rw [Array.length_toList]; rfl
                                       omega
    have HG := hide hg
    have HBL := hide hbl
    clear hg hbl
    rcases Nat.eq_zero_or_pos x with hx0 | hx0
    · have hl0 : al = 0 := hlen.2 hx0
      subst hl0
      have HX0 := hide hx0
      clear hx0 hlen ha
      go_wp2
      go_ret
      refine ⟨?_, bw⟩
      rcases HG.out with ⟨h1, _⟩ | ⟨_, h2⟩
      · have := HX0.out; omega
      · rw [ba_of h2]; rfl
    · have hl0 : 0 < al := by rcases Nat.eq_zero_or_pos al with h | h; exact absurd (hlen.1 h) (by omega); exact h
      have DV := fun t => div_ten _ x wr ha (by omega) t
      have VA : ∀ r w1, IsAmt w1 r (x % 10) → Calls Tryz.prog 53 #[r] w1 fun e w' => e = .returned (.int .u64 ((x % 10 : Nat) : Int)) ∧ w' = w1 := fun r w1 h => value_any r _ w1 h (by omega)
      obtain ⟨c, ec⟩ : ∃ c, x % 10 = c := ⟨_, rfl⟩
      obtain ⟨y, ey⟩ : ∃ c, x / 10 = c := ⟨_, rfl⟩
      rw [ec] at DV VA
      rw [ey] at DV
      have hc : c < 10 := by omega
      obtain ⟨q, eq⟩ : ∃ q, 48 + c = q := ⟨_, rfl⟩
      have hq48 : (48 : Int) + (c : Int) = (q : Int) := by omega
      have hu1 : IntKind.u8.wrap (c : Int) = (c : Int) := by rw [IntKind.wrap_u8]; omega
      have hu2 : IntKind.u8.wrap (q : Int) = (q : Int) := by rw [IntKind.wrap_u8]; omega
      have hcv := fun W t => conv_one q (by omega) W t
      have hsz : (⟨#[UInt8.ofNat q]⟩ : ByteArray).size = 1 := rfl
      obtain ⟨Z, eZ⟩ : ∃ Z : ByteArray, (⟨#[UInt8.ofNat q]⟩ : ByteArray) = Z := ⟨_, rfl⟩
      simp only [eZ] at hcv hsz
      have EZ := hide eZ
      have EQ := hide eq
      clear eZ eq
      have EC := hide ec
      have EY := hide ey
      obtain ⟨k, ek⟩ : ∃ k, b.size = k := ⟨_, rfl⟩
      have hk : k ≤ 4611686018427387905 := by omega
      have HXN := hide hxn
      have HDL := hide hDl
      have HBS := hide hbs
      have HN := hide hn
      clear ec ey ha hlen hxn hDl hbs hn
      go_wp2_with (first
        | (go_at_call 52; refine (DV _).mono ?_; rintro e w1 ⟨qa, qr, rfl, hq, hr, b1⟩)
        | (go_at_call 53; refine (VA _ _ hr).mono ?_; rintro e w2 ⟨rfl, hw⟩; replace hw := hw.symm; subst hw))
      go_roundw
      case rel =>
        have hst := dig_step hx0 EC.out EY.out EQ.out EZ.out HG.out
        refine ⟨y, Z ++ b, rfl, hq.below ((Below.refl _ _).alloc (Nat.le_refl _) _), ?_, ?_, hst, (bw.trans (b1.mono bw.size)).alloc (Nat.le_trans bw.size b1.size) _⟩
        · have := HXN.out; have := EY.out; omega
        · rcases hst with ⟨_, h⟩ | ⟨_, h⟩
          · rw [← h, List.length_append]; omega
          · rw [h]; exact Nat.le_refl _
      case measure =>
        have hst := dig_step hx0 EC.out EY.out EQ.out EZ.out HG.out
        have hl : (Z ++ b).size ≤ D.length := by
          rw [ba_size]
          rcases hst with ⟨_, h⟩ | ⟨_, h⟩
          · rw [← h, List.length_append]; omega
          · rw [h]; exact Nat.le_refl _
        rw [ByteArray.size_append, hsz, ek] at hl
        simp only [ByteArray.size_append, hsz, ek]
        omega
end Go.Proofs.YtbengmceiaejeaaGreatDoor
