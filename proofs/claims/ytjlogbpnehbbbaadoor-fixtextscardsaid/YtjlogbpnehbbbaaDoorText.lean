/- What Text answers, of package fix and of the document, for every number. -/
import Derived.Test.YtjlogbpnehbbbaaDoorProg
import Derived.Test.YtjlogbpnehbbbaaDoorShelf
import Derived.Test.YtjlogbpnehbbbaaDoorBase
import Derived.Test.YtjlogbpnehbbbaaDoorRight
import Derived.WalkKit
import Derived.ProofKit
import Derived.OpenShut
import Derived.Below
import Derived.WalkLawsBesides
import Derived.Lib.IndexBytes
import Derived.Lib.AppendIntMem
namespace Go.Proofs.YtjlogbpnehbbbaaDoor
open Go.ChangeShapes Go.WideShapes Go.ChangeAt Go.RowKit

/-- How a number is written. -/
def textL (a : Int) : List UInt8 := if a < 0 then 126 :: Lib.decDigits a.natAbs else Lib.decDigits a.natAbs
def textB (a : Int) : ByteArray := if rightB a then ⟨(textL a).toArray⟩ else ByteArray.empty
def textE (a : Int) : Int := if rightB a then 0 else 1
theorem ret_text {s t : ByteArray} {a b : Int} (h : s = t) (g : a = b) : Ending.returned (.tuple #[.string s, .int .i64 a]) = .returned (.tuple #[.string t, .int .i64 b]) := by rw [h, g]

theorem ret_str {s t : ByteArray} (h : s = t) : Ending.returned (.string s) = .returned (.string t) := by rw [h]
theorem nDigits_le (u : Nat) : Lib.nDigits u ≤ u + 1 := by
  induction u using Nat.strongRecOn with
  | _ u ih =>
    rw [Lib.nDigits]
    split
    · omega
    · have := ih (u / 10) (by omega)
      omega
theorem dec_len (u : Nat) : (Lib.decDigits u).length ≤ u + 1 := by rw [Lib.decDigits_length]; exact nDigits_le u
theorem cat_list (a b : ByteArray) : (a ++ b).data.toList = a.data.toList ++ b.data.toList := by
  rw [ByteArray.data_append, Array.toList_append]
theorem bytes_of {s : ByteArray} {l : List UInt8} (h : s.data.toList = l) : s = ⟨l.toArray⟩ := bytes_inj (by rw [h])

theorem ftext_any (a : Int) (w : World) (htab : Lib.TabIs Tryd.prog w "internal/strconv.uint64pow10" .u64 Lib.pow10Tab) : Calls Tryd.prog 5 #[.int .i64 a] w fun e w' => e = .returned (.tuple #[.string (textB a), .int .i64 (textE a)]) ∧ Below w.heap.size w w' := by
  have HT := hide htab
  clear htab
  rcases right_cases a with ⟨hr, hb⟩ | ⟨hr, _⟩
  · have h2 : Hid (textE a = 0) := by show _ = _; simp [textE, hr]
    by_cases hn : a < 0
    · obtain ⟨l, hl, hln⟩ : ∃ l, Lib.itoa (-a) = l ∧ l.length ≤ 4611686018427387905 := ⟨_, rfl, by
        unfold Lib.itoa; rw [if_neg (by omega)]; have := dec_len (-a).toNat; omega⟩
      have h1 : Hid (textB a = ⟨(126 :: l).toArray⟩) := by
        show _ = _
        have e : Lib.itoa (-a) = Lib.decDigits a.natAbs := by
          unfold Lib.itoa; rw [if_neg (by omega)]; congr 1; omega
        rw [← hl, e]
        simp [textB, textL, hr, hn]
      go_enter Tryd.func5, Tryd.ntmps5
      go_wp2_with (first | (go_at_call 10; refine (right_any _ _).mono ?_; rintro e w' ⟨rfl, rfl⟩) | (go_at_call 11; refine (Tryd.strconv_FormatInt_10 _ (by omega) (by omega) _ HT.out).mono ?_; rintro e w' ⟨rfl, k, os, rfl⟩))
      go_ret2
      refine ⟨ret_text ?_ h2.out.symm, Lib.below_grow _ _ (Nat.le_refl _) _ _⟩
      rw [h1.out]
      exact bytes_of (by rw [cat_list]; rfl)
    · have h1 : Hid (textB a = ⟨(Lib.itoa a).toArray⟩) := by
        show _ = _
        have e : Lib.itoa a = Lib.decDigits a.natAbs := by
          unfold Lib.itoa; rw [if_neg hn]; congr 1; omega
        rw [e]
        simp [textB, textL, hr, hn]
      go_enter Tryd.func5, Tryd.ntmps5
      go_wp2_with (first | (go_at_call 10; refine (right_any _ _).mono ?_; rintro e w' ⟨rfl, rfl⟩) | (go_at_call 11; refine (Tryd.strconv_FormatInt_10 _ (by omega) (by omega) _ HT.out).mono ?_; rintro e w' ⟨rfl, k, os, rfl⟩))
      go_ret2
      exact ⟨ret_text h1.out.symm h2.out.symm, Lib.below_grow _ _ (Nat.le_refl _) _ _⟩
  · have h1 : Hid (textB a = ByteArray.empty) := by show _ = _; simp [textB, hr]
    have h2 : Hid (textE a = 1) := by show _ = _; simp [textE, hr]
    go_enter Tryd.func5, Tryd.ntmps5
    go_wp2_with (first | (go_at_call 10; refine (right_any _ _).mono ?_; rintro e w' ⟨rfl, rfl⟩))
    go_ret2
    exact ⟨ret_text h1.out.symm h2.out.symm, Below.refl _ _⟩

/-- One digit as a text. -/
def dgB (x : Int) : ByteArray := ⟨[UInt8.ofNat (48 + x.toNat)].toArray⟩
theorem dgB_list (x : Int) : (dgB x).data.toList = [UInt8.ofNat (48 + x.toNat)] := rfl
theorem dgB_size (x : Int) : (dgB x).size = 1 := rfl
theorem dig_slice (x : Int) (h : 0 ≤ x ∧ x ≤ 9) (w : World) : (Instr.slice 9 (.string ⟨#[48, 49, 50, 51, 52, 53, 54, 55, 56, 57]⟩) (some (.int .u64 x)) (some (.int .u64 (x + 1))) none).run Tryd.prog w = .ok (.string (dgB x)) w := by
  have : x = 0 ∨ x = 1 ∨ x = 2 ∨ x = 3 ∨ x = 4 ∨ x = 5 ∨ x = 6 ∨ x = 7 ∨ x = 8 ∨ x = 9 := by omega
  rcases this with rfl | rfl | rfl | rfl | rfl | rfl | rfl | rfl | rfl | rfl
  all_goals (show _ = _; kernel_rfl)

theorem rdigits_any (m : Nat) (w : World) (hm : m ≤ 4611686018427387904) : Calls Tryd.prog 13 #[.int .u64 (m : Int)] w fun e w' => e = .returned (.string ⟨(Lib.decDigits m).toArray⟩) ∧ w' = w := by
  obtain ⟨D, HD, hDl⟩ : ∃ D, Hid (Lib.decDigits m = D) ∧ D.length ≤ 4611686018427387905 := ⟨_, rfl, by have := dec_len m; omega⟩
  rw [HD.out]
  obtain ⟨x0, hx0, hxb⟩ : ∃ x : Int, Hid (x = (m : Int)) ∧ (0 ≤ x ∧ x ≤ 4611686018427387904) := ⟨_, rfl, by omega⟩
  rw [← hx0.out]
  clear hm
  go_enter Tryd.func13, Tryd.ntmps13
  go_wp2
  go_loop [0, 3] (fun n s => ∃ (x : Int) (b : ByteArray), n = .int .u64 x ∧ s = .string b ∧ (0 ≤ x ∧ x ≤ 4611686018427387904) ∧ b.size ≤ 4611686018427387905 ∧ Lib.decDigits x.toNat ++ b.data.toList = D) (fun n _ => (intOf n).toNat)
  case atStart => exact ⟨x0, _, rfl, rfl, hxb, by show 0 ≤ _; omega, by rw [hx0.out, ← HD.out]; simp⟩
  case round =>
    obtain ⟨x, b, rfl, rfl, hx, hbs, hg⟩ := hrel
    have HG := hide hg
    clear hg
    by_cases hlt : 10 ≤ x
    · have hsl := fun w => dig_slice (x % 10) (by omega) w
      have hsz := dgB_size (x % 10)
      have HST : Hid (Lib.decDigits x.toNat = Lib.decDigits (x / 10).toNat ++ [UInt8.ofNat (48 + (x % 10).toNat)]) := by
        show _ = _
        rw [Lib.decDigits, dif_neg (by omega)]
        congr 2 <;> congr 1 <;> omega
      go_wp2
      go_round
      case rel =>
        have e1 := HG.out
        rw [HST.out, List.append_assoc] at e1
        have e2 : Lib.decDigits (x / 10).toNat ++ (dgB (x % 10) ++ b).data.toList = D := by rw [cat_list, dgB_list]; exact e1
        refine ⟨x / 10, _, rfl, rfl, by omega, ?_, e2⟩
        have e3 : (dgB (x % 10) ++ b).size ≤ D.length := by rw [Lib.size_eq, ← e2, List.length_append]; omega
        omega
      case measure => simp [intOf]; omega
    · have hsl := fun w => dig_slice x (by omega) w
      have hsz := dgB_size x
      have HST : Hid (Lib.decDigits x.toNat = [UInt8.ofNat (48 + x.toNat)]) := Lib.decDigits_one (by omega)
      go_wp2
      go_ret
      have e1 := HG.out
      rw [HST.out] at e1
      have e2 : (dgB x ++ b) = ⟨D.toArray⟩ := bytes_of (by rw [cat_list, dgB_list]; exact e1)
      exact ⟨ret_str e2, rfl⟩
end Go.Proofs.YtjlogbpnehbbbaaDoor
