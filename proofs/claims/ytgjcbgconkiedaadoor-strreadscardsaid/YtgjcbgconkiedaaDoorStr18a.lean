/- The document's own reader of an escape, by the first byte. -/
import Derived.Test.YtgjcbgconkiedaaDoorProg
import Derived.Test.YtgjcbgconkiedaaDoorStr13
import Derived.Test.YtgjcbgconkiedaaDoorStr18
import Derived.WalkKit
import Derived.ProofKit
import Derived.OpenShut
import Derived.Below
import Derived.WalkLawsBesides
import Derived.OwnWalk
import Derived.Lib.IndexBytes
namespace Go.Proofs.YtgjcbgconkiedaaDoor
open Go.ChangeShapes Go.WideShapes Go.ChangeAt Go.RowKit
set_option linter.unusedVariables false

set_option maxRecDepth 100000 in
set_option maxHeartbeats 8000000 in
theorem resc_l0 (s : ByteArray) (p n : Nat) (w : World) (x : Int) (k : Nat) (hx : escP (s.data.toList.drop p) = (x, k)) (hs : s.size ≤ 281474976710656) (hp : p < s.size) (hn : (s[p]'hp).toNat = n) (hq : n = 97) : Calls Tryd.prog 34 #[.string s, .int .i64 (p : Int)] w fun e w' => e = .returned (.tuple #[.int .i64 x, .int .i64 (k : Int)]) ∧ w' = w := by
  have hd := drop_at s p hp
  have hn2 : n < 256 := by rw [← hn]; exact (s[p]'hp).toNat_lt
  subst hq
  have hx2 : escP (s[p] :: s.data.toList.drop (p + 1)) = (7, 1) := by unfold escP; simp [hn]
  rw [hd, hx2] at hx
  obtain ⟨rfl, rfl⟩ := Prod.mk.inj hx
  clear hx hx2 hd
  go_enter Tryd.func34, Tryd.ntmps34
  go_wp2
  go_loop [7] (fun vi => ∃ j : Nat, vi = .int .i64 (j : Int) ∧ j ≤ 0) (fun vi => 7 - (intOf vi).toNat)
  case atStart => exact ⟨0, rfl, Nat.zero_le _⟩
  case round =>
    obtain ⟨j, rfl, hj⟩ := hrel
    have cs : j = 0 := by omega
    subst cs
    go_wp2
    go_ret2
    exact ⟨rfl, rfl⟩

set_option maxRecDepth 100000 in
set_option maxHeartbeats 8000000 in
theorem resc_l1 (s : ByteArray) (p n : Nat) (w : World) (x : Int) (k : Nat) (hx : escP (s.data.toList.drop p) = (x, k)) (hs : s.size ≤ 281474976710656) (hp : p < s.size) (hn : (s[p]'hp).toNat = n) (hq : n = 98) : Calls Tryd.prog 34 #[.string s, .int .i64 (p : Int)] w fun e w' => e = .returned (.tuple #[.int .i64 x, .int .i64 (k : Int)]) ∧ w' = w := by
  have hd := drop_at s p hp
  have hn2 : n < 256 := by rw [← hn]; exact (s[p]'hp).toNat_lt
  subst hq
  have hx2 : escP (s[p] :: s.data.toList.drop (p + 1)) = (8, 1) := by unfold escP; simp [hn]
  rw [hd, hx2] at hx
  obtain ⟨rfl, rfl⟩ := Prod.mk.inj hx
  clear hx hx2 hd
  go_enter Tryd.func34, Tryd.ntmps34
  go_wp2
  go_loop [7] (fun vi => ∃ j : Nat, vi = .int .i64 (j : Int) ∧ j ≤ 1) (fun vi => 7 - (intOf vi).toNat)
  case atStart => exact ⟨0, rfl, Nat.zero_le _⟩
  case round =>
    obtain ⟨j, rfl, hj⟩ := hrel
    have cs : j = 0 ∨ j = 1 := by omega
    rcases cs with rfl | rfl
    · go_wp2
      go_round
      case rel => exact ⟨1, rfl, by omega⟩
      case measure => simp [intOf]
    · go_wp2
      go_ret2
      exact ⟨rfl, rfl⟩

set_option maxRecDepth 100000 in
set_option maxHeartbeats 8000000 in
theorem resc_l2 (s : ByteArray) (p n : Nat) (w : World) (x : Int) (k : Nat) (hx : escP (s.data.toList.drop p) = (x, k)) (hs : s.size ≤ 281474976710656) (hp : p < s.size) (hn : (s[p]'hp).toNat = n) (hq : n = 116) : Calls Tryd.prog 34 #[.string s, .int .i64 (p : Int)] w fun e w' => e = .returned (.tuple #[.int .i64 x, .int .i64 (k : Int)]) ∧ w' = w := by
  have hd := drop_at s p hp
  have hn2 : n < 256 := by rw [← hn]; exact (s[p]'hp).toNat_lt
  subst hq
  have hx2 : escP (s[p] :: s.data.toList.drop (p + 1)) = (9, 1) := by unfold escP; simp [hn]
  rw [hd, hx2] at hx
  obtain ⟨rfl, rfl⟩ := Prod.mk.inj hx
  clear hx hx2 hd
  go_enter Tryd.func34, Tryd.ntmps34
  go_wp2
  go_loop [7] (fun vi => ∃ j : Nat, vi = .int .i64 (j : Int) ∧ j ≤ 2) (fun vi => 7 - (intOf vi).toNat)
  case atStart => exact ⟨0, rfl, Nat.zero_le _⟩
  case round =>
    obtain ⟨j, rfl, hj⟩ := hrel
    have cs : j = 0 ∨ j = 1 ∨ j = 2 := by omega
    rcases cs with rfl | rfl | rfl
    · go_wp2
      go_round
      case rel => exact ⟨1, rfl, by omega⟩
      case measure => simp [intOf]
    · go_wp2
      go_round
      case rel => exact ⟨2, rfl, by omega⟩
      case measure => simp [intOf]
    · go_wp2
      go_ret2
      exact ⟨rfl, rfl⟩

set_option maxRecDepth 100000 in
set_option maxHeartbeats 8000000 in
theorem resc_l3 (s : ByteArray) (p n : Nat) (w : World) (x : Int) (k : Nat) (hx : escP (s.data.toList.drop p) = (x, k)) (hs : s.size ≤ 281474976710656) (hp : p < s.size) (hn : (s[p]'hp).toNat = n) (hq : n = 110) : Calls Tryd.prog 34 #[.string s, .int .i64 (p : Int)] w fun e w' => e = .returned (.tuple #[.int .i64 x, .int .i64 (k : Int)]) ∧ w' = w := by
  have hd := drop_at s p hp
  have hn2 : n < 256 := by rw [← hn]; exact (s[p]'hp).toNat_lt
  subst hq
  have hx2 : escP (s[p] :: s.data.toList.drop (p + 1)) = (10, 1) := by unfold escP; simp [hn]
  rw [hd, hx2] at hx
  obtain ⟨rfl, rfl⟩ := Prod.mk.inj hx
  clear hx hx2 hd
  go_enter Tryd.func34, Tryd.ntmps34
  go_wp2
  go_loop [7] (fun vi => ∃ j : Nat, vi = .int .i64 (j : Int) ∧ j ≤ 3) (fun vi => 7 - (intOf vi).toNat)
  case atStart => exact ⟨0, rfl, Nat.zero_le _⟩
  case round =>
    obtain ⟨j, rfl, hj⟩ := hrel
    have cs : j = 0 ∨ j = 1 ∨ j = 2 ∨ j = 3 := by omega
    rcases cs with rfl | rfl | rfl | rfl
    · go_wp2
      go_round
      case rel => exact ⟨1, rfl, by omega⟩
      case measure => simp [intOf]
    · go_wp2
      go_round
      case rel => exact ⟨2, rfl, by omega⟩
      case measure => simp [intOf]
    · go_wp2
      go_round
      case rel => exact ⟨3, rfl, by omega⟩
      case measure => simp [intOf]
    · go_wp2
      go_ret2
      exact ⟨rfl, rfl⟩

set_option maxRecDepth 100000 in
set_option maxHeartbeats 8000000 in
theorem resc_l4 (s : ByteArray) (p n : Nat) (w : World) (x : Int) (k : Nat) (hx : escP (s.data.toList.drop p) = (x, k)) (hs : s.size ≤ 281474976710656) (hp : p < s.size) (hn : (s[p]'hp).toNat = n) (hq : n = 118) : Calls Tryd.prog 34 #[.string s, .int .i64 (p : Int)] w fun e w' => e = .returned (.tuple #[.int .i64 x, .int .i64 (k : Int)]) ∧ w' = w := by
  have hd := drop_at s p hp
  have hn2 : n < 256 := by rw [← hn]; exact (s[p]'hp).toNat_lt
  subst hq
  have hx2 : escP (s[p] :: s.data.toList.drop (p + 1)) = (11, 1) := by unfold escP; simp [hn]
  rw [hd, hx2] at hx
  obtain ⟨rfl, rfl⟩ := Prod.mk.inj hx
  clear hx hx2 hd
  go_enter Tryd.func34, Tryd.ntmps34
  go_wp2
  go_loop [7] (fun vi => ∃ j : Nat, vi = .int .i64 (j : Int) ∧ j ≤ 4) (fun vi => 7 - (intOf vi).toNat)
  case atStart => exact ⟨0, rfl, Nat.zero_le _⟩
  case round =>
    obtain ⟨j, rfl, hj⟩ := hrel
    have cs : j = 0 ∨ j = 1 ∨ j = 2 ∨ j = 3 ∨ j = 4 := by omega
    rcases cs with rfl | rfl | rfl | rfl | rfl
    · go_wp2
      go_round
      case rel => exact ⟨1, rfl, by omega⟩
      case measure => simp [intOf]
    · go_wp2
      go_round
      case rel => exact ⟨2, rfl, by omega⟩
      case measure => simp [intOf]
    · go_wp2
      go_round
      case rel => exact ⟨3, rfl, by omega⟩
      case measure => simp [intOf]
    · go_wp2
      go_round
      case rel => exact ⟨4, rfl, by omega⟩
      case measure => simp [intOf]
    · go_wp2
      go_ret2
      exact ⟨rfl, rfl⟩

set_option maxRecDepth 100000 in
set_option maxHeartbeats 8000000 in
theorem resc_l5 (s : ByteArray) (p n : Nat) (w : World) (x : Int) (k : Nat) (hx : escP (s.data.toList.drop p) = (x, k)) (hs : s.size ≤ 281474976710656) (hp : p < s.size) (hn : (s[p]'hp).toNat = n) (hq : n = 102) : Calls Tryd.prog 34 #[.string s, .int .i64 (p : Int)] w fun e w' => e = .returned (.tuple #[.int .i64 x, .int .i64 (k : Int)]) ∧ w' = w := by
  have hd := drop_at s p hp
  have hn2 : n < 256 := by rw [← hn]; exact (s[p]'hp).toNat_lt
  subst hq
  have hx2 : escP (s[p] :: s.data.toList.drop (p + 1)) = (12, 1) := by unfold escP; simp [hn]
  rw [hd, hx2] at hx
  obtain ⟨rfl, rfl⟩ := Prod.mk.inj hx
  clear hx hx2 hd
  go_enter Tryd.func34, Tryd.ntmps34
  go_wp2
  go_loop [7] (fun vi => ∃ j : Nat, vi = .int .i64 (j : Int) ∧ j ≤ 5) (fun vi => 7 - (intOf vi).toNat)
  case atStart => exact ⟨0, rfl, Nat.zero_le _⟩
  case round =>
    obtain ⟨j, rfl, hj⟩ := hrel
    have cs : j = 0 ∨ j = 1 ∨ j = 2 ∨ j = 3 ∨ j = 4 ∨ j = 5 := by omega
    rcases cs with rfl | rfl | rfl | rfl | rfl | rfl
    · go_wp2
      go_round
      case rel => exact ⟨1, rfl, by omega⟩
      case measure => simp [intOf]
    · go_wp2
      go_round
      case rel => exact ⟨2, rfl, by omega⟩
      case measure => simp [intOf]
    · go_wp2
      go_round
      case rel => exact ⟨3, rfl, by omega⟩
      case measure => simp [intOf]
    · go_wp2
      go_round
      case rel => exact ⟨4, rfl, by omega⟩
      case measure => simp [intOf]
    · go_wp2
      go_round
      case rel => exact ⟨5, rfl, by omega⟩
      case measure => simp [intOf]
    · go_wp2
      go_ret2
      exact ⟨rfl, rfl⟩

set_option maxRecDepth 100000 in
set_option maxHeartbeats 8000000 in
theorem resc_l6 (s : ByteArray) (p n : Nat) (w : World) (x : Int) (k : Nat) (hx : escP (s.data.toList.drop p) = (x, k)) (hs : s.size ≤ 281474976710656) (hp : p < s.size) (hn : (s[p]'hp).toNat = n) (hq : n = 114) : Calls Tryd.prog 34 #[.string s, .int .i64 (p : Int)] w fun e w' => e = .returned (.tuple #[.int .i64 x, .int .i64 (k : Int)]) ∧ w' = w := by
  have hd := drop_at s p hp
  have hn2 : n < 256 := by rw [← hn]; exact (s[p]'hp).toNat_lt
  subst hq
  have hx2 : escP (s[p] :: s.data.toList.drop (p + 1)) = (13, 1) := by unfold escP; simp [hn]
  rw [hd, hx2] at hx
  obtain ⟨rfl, rfl⟩ := Prod.mk.inj hx
  clear hx hx2 hd
  go_enter Tryd.func34, Tryd.ntmps34
  go_wp2
  go_loop [7] (fun vi => ∃ j : Nat, vi = .int .i64 (j : Int) ∧ j ≤ 6) (fun vi => 7 - (intOf vi).toNat)
  case atStart => exact ⟨0, rfl, Nat.zero_le _⟩
  case round =>
    obtain ⟨j, rfl, hj⟩ := hrel
    have cs : j = 0 ∨ j = 1 ∨ j = 2 ∨ j = 3 ∨ j = 4 ∨ j = 5 ∨ j = 6 := by omega
    rcases cs with rfl | rfl | rfl | rfl | rfl | rfl | rfl
    · go_wp2
      go_round
      case rel => exact ⟨1, rfl, by omega⟩
      case measure => simp [intOf]
    · go_wp2
      go_round
      case rel => exact ⟨2, rfl, by omega⟩
      case measure => simp [intOf]
    · go_wp2
      go_round
      case rel => exact ⟨3, rfl, by omega⟩
      case measure => simp [intOf]
    · go_wp2
      go_round
      case rel => exact ⟨4, rfl, by omega⟩
      case measure => simp [intOf]
    · go_wp2
      go_round
      case rel => exact ⟨5, rfl, by omega⟩
      case measure => simp [intOf]
    · go_wp2
      go_round
      case rel => exact ⟨6, rfl, by omega⟩
      case measure => simp [intOf]
    · go_wp2
      go_ret2
      exact ⟨rfl, rfl⟩

set_option maxRecDepth 100000 in
set_option maxHeartbeats 8000000 in
theorem resc_q34 (s : ByteArray) (p n : Nat) (w : World) (x : Int) (k : Nat) (hx : escP (s.data.toList.drop p) = (x, k)) (hs : s.size ≤ 281474976710656) (hp : p < s.size) (hn : (s[p]'hp).toNat = n) (hq : n = 34) : Calls Tryd.prog 34 #[.string s, .int .i64 (p : Int)] w fun e w' => e = .returned (.tuple #[.int .i64 x, .int .i64 (k : Int)]) ∧ w' = w := by
  have hd := drop_at s p hp
  have hn2 : n < 256 := by rw [← hn]; exact (s[p]'hp).toNat_lt
  subst hq
  rw [hd, escP_quote _ _ (by omega), hn] at hx
  obtain ⟨rfl, rfl⟩ := Prod.mk.inj hx
  clear hx hd
  go_enter Tryd.func34, Tryd.ntmps34
  go_wp2
  go_loop [7] (fun vi => ∃ j : Nat, vi = .int .i64 (j : Int) ∧ j ≤ 7) (fun vi => 7 - (intOf vi).toNat)
  case atStart => exact ⟨0, rfl, Nat.zero_le _⟩
  case round =>
    obtain ⟨j, rfl, hj⟩ := hrel
    have cs : j = 0 ∨ j = 1 ∨ j = 2 ∨ j = 3 ∨ j = 4 ∨ j = 5 ∨ j = 6 ∨ j = 7 := by omega
    clear hj
    rcases cs with rfl | rfl | rfl | rfl | rfl | rfl | rfl | rfl
    · go_wp2
      go_round
      case rel => exact ⟨1, rfl, by omega⟩
      case measure => simp [intOf]
    · go_wp2
      go_round
      case rel => exact ⟨2, rfl, by omega⟩
      case measure => simp [intOf]
    · go_wp2
      go_round
      case rel => exact ⟨3, rfl, by omega⟩
      case measure => simp [intOf]
    · go_wp2
      go_round
      case rel => exact ⟨4, rfl, by omega⟩
      case measure => simp [intOf]
    · go_wp2
      go_round
      case rel => exact ⟨5, rfl, by omega⟩
      case measure => simp [intOf]
    · go_wp2
      go_round
      case rel => exact ⟨6, rfl, by omega⟩
      case measure => simp [intOf]
    · go_wp2
      go_round
      case rel => exact ⟨7, rfl, by omega⟩
      case measure => simp [intOf]
    · go_wp2
      go_ret2
      exact ⟨rfl, rfl⟩

set_option maxRecDepth 100000 in
set_option maxHeartbeats 8000000 in
theorem resc_q92 (s : ByteArray) (p n : Nat) (w : World) (x : Int) (k : Nat) (hx : escP (s.data.toList.drop p) = (x, k)) (hs : s.size ≤ 281474976710656) (hp : p < s.size) (hn : (s[p]'hp).toNat = n) (hq : n = 92) : Calls Tryd.prog 34 #[.string s, .int .i64 (p : Int)] w fun e w' => e = .returned (.tuple #[.int .i64 x, .int .i64 (k : Int)]) ∧ w' = w := by
  have hd := drop_at s p hp
  have hn2 : n < 256 := by rw [← hn]; exact (s[p]'hp).toNat_lt
  subst hq
  rw [hd, escP_quote _ _ (by omega), hn] at hx
  obtain ⟨rfl, rfl⟩ := Prod.mk.inj hx
  clear hx hd
  go_enter Tryd.func34, Tryd.ntmps34
  go_wp2
  go_loop [7] (fun vi => ∃ j : Nat, vi = .int .i64 (j : Int) ∧ j ≤ 7) (fun vi => 7 - (intOf vi).toNat)
  case atStart => exact ⟨0, rfl, Nat.zero_le _⟩
  case round =>
    obtain ⟨j, rfl, hj⟩ := hrel
    have cs : j = 0 ∨ j = 1 ∨ j = 2 ∨ j = 3 ∨ j = 4 ∨ j = 5 ∨ j = 6 ∨ j = 7 := by omega
    clear hj
    rcases cs with rfl | rfl | rfl | rfl | rfl | rfl | rfl | rfl
    · go_wp2
      go_round
      case rel => exact ⟨1, rfl, by omega⟩
      case measure => simp [intOf]
    · go_wp2
      go_round
      case rel => exact ⟨2, rfl, by omega⟩
      case measure => simp [intOf]
    · go_wp2
      go_round
      case rel => exact ⟨3, rfl, by omega⟩
      case measure => simp [intOf]
    · go_wp2
      go_round
      case rel => exact ⟨4, rfl, by omega⟩
      case measure => simp [intOf]
    · go_wp2
      go_round
      case rel => exact ⟨5, rfl, by omega⟩
      case measure => simp [intOf]
    · go_wp2
      go_round
      case rel => exact ⟨6, rfl, by omega⟩
      case measure => simp [intOf]
    · go_wp2
      go_round
      case rel => exact ⟨7, rfl, by omega⟩
      case measure => simp [intOf]
    · go_wp2
      go_ret2
      exact ⟨rfl, rfl⟩
end Go.Proofs.YtgjcbgconkiedaaDoor
