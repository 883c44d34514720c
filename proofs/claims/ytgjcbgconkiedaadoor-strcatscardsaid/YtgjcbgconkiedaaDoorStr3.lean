/- How two texts compare, on both sides. -/
import Derived.Test.YtgjcbgconkiedaaDoorProg
import Derived.Test.YtgjcbgconkiedaaDoorShelf
import Derived.Test.YtgjcbgconkiedaaDoorStr1
import Derived.WalkKit
import Derived.ProofKit
import Derived.OpenShut
import Derived.Below
import Derived.WalkLawsBesides
import Derived.OwnWalk
import Derived.BigQuiet
import Derived.Lib.IndexBytes
namespace Go.Proofs.YtgjcbgconkiedaaDoor
open Go.ChangeShapes Go.WideShapes Go.ChangeAt Go.RowKit

def cmpI (a b : ByteArray) : Int := Lib.compareBytes a.data.toList b.data.toList

theorem cmp_any (a b : ByteArray) (w : World) : Calls Tryd.prog 18 #[.string a, .string b] w fun e w' => e = .returned (.int .i64 (cmpI a b)) ∧ w' = w := by
  go_enter Tryd.func18, Tryd.ntmps18
  go_wp2_with (go_at_call 30; refine (Tryd.strings_Compare _ _ _).mono ?_; rintro e w1 ⟨rfl, rfl⟩)
  go_ret
  exact ⟨rfl, rfl⟩

theorem drop_at (s : ByteArray) (k : Nat) (h : k < s.size) : s.data.toList.drop k = s[k] :: s.data.toList.drop (k + 1) := by
  rw [List.drop_eq_getElem_cons (by simpa using h)]; rfl
theorem drop_end (s : ByteArray) (k : Nat) (h : ¬ k < s.size) : s.data.toList.drop k = [] := List.drop_of_length_le (by simp; omega)

theorem below_drew (B : Nat) (w : World) (n : Nat) : Below B w (w.drewN n) := ⟨rfl, rfl, rfl, Nat.le_refl _, fun _ _ => rfl⟩

set_option maxRecDepth 100000 in
set_option maxHeartbeats 1000000 in
theorem rcmp_any (a b : ByteArray) (w : World) (ha : a.size ≤ maxLen) (hb : b.size ≤ maxLen) : Calls Tryd.prog 19 #[.string a, .string b] w fun e w' => e = .returned (.int .i64 (cmpI a b)) ∧ Below w.heap.size w w' := by
  unfold maxLen at ha hb
  obtain ⟨R, HR⟩ : ∃ R, Hid (cmpI a b = R) := ⟨_, rfl⟩
  rw [HR.out]
  go_enter Tryd.func19, Tryd.ntmps19
  go_wp2
  go_loopw [5] (fun vi wr => ∃ k : Nat, vi = .int .i64 (k : Int) ∧ k ≤ a.size ∧ k ≤ b.size ∧ Hid (R = Lib.compareBytes (a.data.toList.drop k) (b.data.toList.drop k)) ∧ Below w.heap.size w wr) (fun vi _ => a.size - (intOf vi).toNat)
  case atStart => exact ⟨0, rfl, by omega, by omega, HR.out.symm, Below.refl _ _⟩
  case round =>
    obtain ⟨k, rfl, hka, hkb, HI, bel⟩ := hrel
    by_cases h1 : k < a.size
    · by_cases h2 : k < b.size
      · have HI2 : Hid (R = if a[k] < b[k] then -1 else if b[k] < a[k] then 1 else Lib.compareBytes (a.data.toList.drop (k + 1)) (b.data.toList.drop (k + 1))) := by
          show _ = _; rw [HI.out, drop_at a k h1, drop_at b k h2]; rfl
        obtain ⟨x, hx⟩ : ∃ x : Nat, (a[k]'h1).toNat = x := ⟨_, rfl⟩
        obtain ⟨y, hy⟩ : ∃ y : Nat, (b[k]'h2).toNat = y := ⟨_, rfl⟩
        have e1 : a[k] < b[k] ↔ x < y := by rw [UInt8.lt_iff_toNat_lt, hx, hy]
        have e2 : b[k] < a[k] ↔ y < x := by rw [UInt8.lt_iff_toNat_lt, hx, hy]
        simp only [e1, e2] at HI2
        clear e1 e2 HI
        by_cases c1 : x < y
        · have HE : Hid (R = -1) := by show _ = _; rw [HI2.out, if_pos c1]
          go_wp2_with (go_quiet (fail))
          go_ret
          exact ⟨ret_int HE.out.symm, by first | exact bel | exact bel.trans (below_drew _ _ _) | exact (bel.trans (below_drew _ _ _)).trans (below_drew _ _ _)⟩
        · by_cases c2 : y < x
          · have HE : Hid (R = 1) := by show _ = _; rw [HI2.out, if_neg c1, if_pos c2]
            go_wp2_with (go_quiet (fail))
            go_ret
            exact ⟨ret_int HE.out.symm, by first | exact bel | exact bel.trans (below_drew _ _ _) | exact (bel.trans (below_drew _ _ _)).trans (below_drew _ _ _)⟩
          · have HE : Hid (R = Lib.compareBytes (a.data.toList.drop (k + 1)) (b.data.toList.drop (k + 1))) := by show _ = _; rw [HI2.out, if_neg c1, if_neg c2]
            go_wp2_with (go_quiet (fail))
            go_roundw
            case rel => exact ⟨k + 1, rfl, by omega, by omega, HE, by first | exact bel.trans (below_drew _ _ _) | exact (bel.trans (below_drew _ _ _)).trans (below_drew _ _ _)⟩
            case measure => simp [intOf]; omega
      · have HE : Hid (R = 1) := by
          show _ = _; rw [HI.out, drop_at a k h1, drop_end b k h2]; rfl
        have h3 : ¬ a.size < b.size := by omega
        have h4 : b.size < a.size := by omega
        go_wp2
        go_ret
        exact ⟨ret_int HE.out.symm, by first | exact bel | exact bel.trans (below_drew _ _ _) | exact (bel.trans (below_drew _ _ _)).trans (below_drew _ _ _)⟩
    · by_cases h2 : k < b.size
      · have HE : Hid (R = -1) := by
          show _ = _; rw [HI.out, drop_end a k h1, drop_at b k h2]; rfl
        have h4 : a.size < b.size := by omega
        go_wp2
        go_ret
        exact ⟨ret_int HE.out.symm, by first | exact bel | exact bel.trans (below_drew _ _ _) | exact (bel.trans (below_drew _ _ _)).trans (below_drew _ _ _)⟩
      · have HE : Hid (R = 0) := by
          show _ = _; rw [HI.out, drop_end a k h1, drop_end b k h2]; rfl
        have h3 : ¬ a.size < b.size := by omega
        have h4 : ¬ b.size < a.size := by omega
        go_wp2
        go_ret
        exact ⟨ret_int HE.out.symm, by first | exact bel | exact bel.trans (below_drew _ _ _) | exact (bel.trans (below_drew _ _ _)).trans (below_drew _ _ _)⟩
end Go.Proofs.YtgjcbgconkiedaaDoor
