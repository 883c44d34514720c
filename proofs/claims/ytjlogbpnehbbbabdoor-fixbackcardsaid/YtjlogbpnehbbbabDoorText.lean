/- What Text answers, of package fix and of the document, for every number. -/
import Derived.Test.YtjlogbpnehbbbabDoorProg
import Derived.Test.YtjlogbpnehbbbabDoorShelf
import Derived.Test.YtjlogbpnehbbbabDoorBase
import Derived.Test.YtjlogbpnehbbbabDoorRight
import Derived.WalkKit
import Derived.ProofKit
import Derived.OpenShut
import Derived.Below
import Derived.WalkLawsBesides
import Derived.Lib.IndexBytes
import Derived.Lib.AppendIntMem
namespace Go.Proofs.YtjlogbpnehbbbabDoor
open Go.ChangeShapes Go.WideShapes Go.ChangeAt Go.RowKit

/-- How a number is written. -/
def textL (a : Int) : List UInt8 := if a < 0 then 126 :: Lib.decDigits a.natAbs else Lib.decDigits a.natAbs
def textB (a : Int) : ByteArray := if rightB a then ⟨(textL a).toArray⟩ else ByteArray.empty
def textE (a : Int) : Int := if rightB a then 0 else 1
theorem ret_text {s t : ByteArray} {a b : Int} (h : s = t) (g : a = b) : Ending.returned (.tuple #[.string s, .int .i64 a]) = .returned (.tuple #[.string t, .int .i64 b]) := by rw [h, g]

theorem ret_str {s t : ByteArray} (h : s = t) : Ending.returned (.string s) = .returned (.string t) := by rw [h]
theorem nDigits_le (u : Nat) : Lib.nDigits u ≤ u + 1 := by
  induction u using Nat.strongRecOn with
  | _ u ih =>
    rw [Lib.nDigits]
    split
    · omega
    · have := ih (u / 10) (by omega)
      omega
theorem dec_len (u : Nat) : (Lib.decDigits u).length ≤ u + 1 := by rw [Lib.decDigits_length]; exact nDigits_le u
theorem cat_list (a b : ByteArray) : (a ++ b).data.toList = a.data.toList ++ b.data.toList := by
  rw [ByteArray.data_append, Array.toList_append]
theorem bytes_of {s : ByteArray} {l : List UInt8} (h : s.data.toList = l) : s = ⟨l.toArray⟩ := bytes_inj (by rw [h])

theorem ftext_any (a : Int) (w : World) (htab : Lib.TabIs Tryd.prog w "internal/strconv.uint64pow10" .u64 Lib.pow10Tab) : Calls Tryd.prog 4 #[.int .i64 a] w fun e w' => e = .returned (.tuple #[.string (textB a), .int .i64 (textE a)]) ∧ Below w.heap.size w w' := by
  have HT := hide htab
  clear htab
  rcases right_cases a with ⟨hr, hb⟩ | ⟨hr, _⟩
  · have h2 : Hid (textE a = 0) := by show _ = _; simp [textE, hr]
    by_cases hn : a < 0
    · obtain ⟨l, hl, hln⟩ : ∃ l, Lib.itoa (-a) = l ∧ l.length ≤ 4611686018427387905 := ⟨_, rfl, by
        unfold Lib.itoa; rw [if_neg (by omega)]; have := dec_len (-a).toNat; omega⟩
      have h1 : Hid (textB a = ⟨(126 :: l).toArray⟩) := by
        show _ = _
        have e : Lib.itoa (-a) = Lib.decDigits a.natAbs := by
          unfold Lib.itoa; rw [if_neg (by omega)]; congr 1; omega
        rw [← hl, e]
        simp [textB, textL, hr, hn]
      go_enter Tryd.func4, Tryd.ntmps4
      go_wp2_with (first | (go_at_call 5; refine (right_any _ _).mono ?_; rintro e w' ⟨rfl, rfl⟩) | (go_at_call 9; refine (Tryd.strconv_FormatInt_10 _ (by omega) (by omega) _ HT.out).mono ?_; rintro e w' ⟨rfl, k, os, rfl⟩))
      go_ret2
      refine ⟨ret_text ?_ h2.out.symm, Lib.below_grow _ _ (Nat.le_refl _) _ _⟩
      rw [h1.out]
      exact bytes_of (by rw [cat_list]; rfl)
    · have h1 : Hid (textB a = ⟨(Lib.itoa a).toArray⟩) := by
        show _ = _
        have e : Lib.itoa a = Lib.decDigits a.natAbs := by
          unfold Lib.itoa; rw [if_neg hn]; congr 1; omega
        rw [e]
        simp [textB, textL, hr, hn]
      go_enter Tryd.func4, Tryd.ntmps4
      go_wp2_with (first | (go_at_call 5; refine (right_any _ _).mono ?_; rintro e w' ⟨rfl, rfl⟩) | (go_at_call 9; refine (Tryd.strconv_FormatInt_10 _ (by omega) (by omega) _ HT.out).mono ?_; rintro e w' ⟨rfl, k, os, rfl⟩))
      go_ret2
      exact ⟨ret_text h1.out.symm h2.out.symm, Lib.below_grow _ _ (Nat.le_refl _) _ _⟩
  · have h1 : Hid (textB a = ByteArray.empty) := by show _ = _; simp [textB, hr]
    have h2 : Hid (textE a = 1) := by show _ = _; simp [textE, hr]
    go_enter Tryd.func4, Tryd.ntmps4
    go_wp2_with (first | (go_at_call 5; refine (right_any _ _).mono ?_; rintro e w' ⟨rfl, rfl⟩))
    go_ret2
    exact ⟨ret_text h1.out.symm h2.out.symm, Below.refl _ _⟩

/-- One digit as a text. -/
def dgB (x : Int) : ByteArray := ⟨[UInt8.ofNat (48 + x.toNat)].toArray⟩
theorem dgB_list (x : Int) : (dgB x).data.toList = [UInt8.ofNat (48 + x.toNat)] := rfl
theorem dgB_size (x : Int) : (dgB x).size = 1 := rfl
theorem dig_slice (x : Int) (h : 0 ≤ x ∧ x ≤ 9) (w : World) : (Instr.slice 9 (.string ⟨#[48, 49, 50, 51, 52, 53, 54, 55, 56, 57]⟩) (some (.int .u64 x)) (some (.int .u64 (x + 1))) none).run Tryd.prog w = .ok (.string (dgB x)) w := by
  have : x = 0 ∨ x = 1 ∨ x = 2 ∨ x = 3 ∨ x = 4 ∨ x = 5 ∨ x = 6 ∨ x = 7 ∨ x = 8 ∨ x = 9 := by omega
  rcases this with rfl | rfl | rfl | rfl | rfl | rfl | rfl | rfl | rfl | rfl
  all_goals (show _ = _; kernel_rfl)
end Go.Proofs.YtjlogbpnehbbbabDoor
