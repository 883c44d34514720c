/- How one byte is written, on both sides. -/
import Derived.Test.YtgjcbgconkiedaaDoorProg
import Derived.Test.YtgjcbgconkiedaaDoorShelf
import Derived.Test.YtgjcbgconkiedaaDoorStr1
import Derived.Test.YtgjcbgconkiedaaDoorStr2
import Derived.Test.YtgjcbgconkiedaaDoorStr6
import Derived.WalkKit
import Derived.ProofKit
import Derived.OpenShut
import Derived.Below
import Derived.WalkLawsBesides
import Derived.OwnWalk
import Derived.Laws.IdiomStrings
import Derived.Laws.OwnMore
import Derived.Lib.AppendStr
import Derived.Lib.IndexBytes
namespace Go.Proofs.YtgjcbgconkiedaaDoor
open Go.ChangeShapes Go.WideShapes Go.ChangeAt Go.RowKit

theorem cells_new (w : World) (xs : List Value) (e : TypeId) : ∀ j u, xs[j]? = some u → (w.alloc (.cells xs.toArray e)).cell? ((⟨w.heap.size, 0, none⟩ : Addr).add j) = some u := by
  intro j u h
  rw [show (⟨w.heap.size, 0, none⟩ : Addr).add j = ⟨w.heap.size, j, none⟩ from by unfold Addr.add; simp; omega, World.cell?_alloc_mark]
  simpa using h

/-- What a byte's text is, in the walk's own words. -/
theorem shown_quote {c : UInt8} (h : c.toNat = 34 ∨ c.toNat = 92) : Lib.byteCells (shownL c) = [.int .u8 92, .int .u8 (c.toNat : Int)] := by
  unfold shownL; rw [if_pos h]; rfl
theorem shown_plain {c : UInt8} (h : plainB c = true) : Lib.byteCells (shownL c) = [.int .u8 (c.toNat : Int)] := by
  unfold plainB at h
  simp at h
  unfold shownL; rw [if_neg (by omega), if_neg (by omega), if_neg (by omega), if_neg (by omega)]; rfl
theorem shown_ctl {c : UInt8} (h : c.toNat < 32) (g : ¬ (7 ≤ c.toNat ∧ c.toNat ≤ 13)) : Lib.byteCells (shownL c) = [.int .u8 92, .int .u8 94, .int .u8 ((c.toNat : Int) + 64)] := by
  unfold shownL; rw [if_neg (by omega), if_neg g, if_pos h]
  simp [Lib.byteCells]
  omega
theorem shown_high {c : UInt8} (h : 127 ≤ c.toNat) : Lib.byteCells (shownL c) = [.int .u8 92, .int .u8 (48 + (c.toNat : Int) / 100), .int .u8 (48 + (c.toNat : Int) / 10 % 10), .int .u8 (48 + (c.toNat : Int) % 10)] := by
  have hc := c.toNat_lt
  unfold shownL; rw [if_neg (by omega), if_neg (by omega), if_neg (by omega), if_pos h]
  simp [Lib.byteCells]
  omega

set_option maxHeartbeats 2000000 in
set_option maxRecDepth 100000 in
theorem writeOne_any (B : Nat) (v : Value) (l : List UInt8) (c : UInt8) (w : World) (hv : Own B v l w) (hl : l.length ≤ 1000000) (hB : B ≤ w.heap.size) :
    Calls Tryd.prog 31 #[v, .int .u8 (c.toNat : Int)] w fun e w' => ∃ v', e = .returned v' ∧ Own B v' (l ++ shownL c) w' ∧ Below B w w' := by
  obtain ⟨i0, hi, hz0, hz1, hz2⟩ := info_parts infoByte
  have hc : c.toNat < 256 := c.toNat_lt
  obtain ⟨L, eL⟩ : ∃ L, l.length = L := ⟨_, rfl⟩
  have fin : ∀ (v' : Value) (w' : World) (xs : List Value), Lib.byteCells (shownL c) = xs → w'.ownsRow B 5 1 v' (L + xs.length) (Lib.byteCells l ++ xs) → Own B v' (l ++ shownL c) w' := by
    intro v' w' xs e h
    unfold Own
    rw [byteCells_snoc, List.length_append, e, eL, ← Lib.byteCells_length (shownL c), e]
    exact h
  have FIN := hide fin
  have HW : Hid (w.ownsRow B 5 1 v L (Lib.byteCells l)) := by rw [← eL]; exact hv
  have EL := hide eL
  have hL : L ≤ 1000000 := by omega
  clear fin hv eL hl
  obtain ⟨n, hn⟩ : ∃ n, c.toNat = n := ⟨_, rfl⟩
  obtain ⟨p, hp⟩ : ∃ p, plainB c = p := ⟨_, rfl⟩
  have hpn : p = (decide (32 ≤ n) && decide (n ≤ 126) && decide (n ≠ 34) && decide (n ≠ 92)) := by rw [← hp, ← hn]; rfl
  have C : ∀ W, Calls Tryd.prog 38 #[.int .u8 (n : Int)] W fun e w' => e = .returned (.bool p) ∧ w' = W := by
    intro W; rw [← hp, ← hn]; exact plain_any c W
  have CC := hide C
  clear C
  rw [hn]
  rw [hn] at hc
  have cs : n = 34 ∨ n = 92 ∨ (32 ≤ n ∧ n ≤ 126 ∧ n ≠ 34 ∧ n ≠ 92) ∨ n = 7 ∨ n = 8 ∨ n = 9 ∨ n = 10 ∨ n = 11 ∨ n = 12 ∨ n = 13 ∨ n < 7 ∨ (13 < n ∧ n < 32) ∨ 127 ≤ n := by omega
  have HP := hide hp
  have HN := hide hn
  rcases cs with h | h | h | h | h | h | h | h | h | h | h | h | h
  · have HS := hide (shown_quote (c := c) (by omega))
    rw [hn] at HS
    subst h
    clear hpn hp hn
    go_enter Tryd.func31, Tryd.ntmps31
    go_wp2_with (first | (at_builtin; refine wpList_append_own _ rfl _ _ 50 rfl B 5 i0 (.int .u8 0) 1 1 Tryd.underlying50 hi hz0 hz1 hz2 rfl (by decide) _ _ _ rfl (HW.out.alloc _) ⟨_, 0, none⟩ 1 1 [.int .u8 92] rfl rfl (cells_new _ _ _) (by simp [Value.oneCell']) (by unfold maxLen; omega) (by omega) (by simp; omega) ?_; intro v1 w1 o2 g1 _; have H1 := hide o2; have L2 := hide HW.out; clear HW o2) | (at_builtin; have SZ := g1.size; simp at SZ; refine wpList_append_own _ rfl _ _ 50 rfl B 5 i0 (.int .u8 0) 1 1 Tryd.underlying50 hi hz0 hz1 hz2 rfl (by decide) _ _ _ rfl (H1.out.alloc _) ⟨_, 0, none⟩ 1 1 [.int .u8 34] rfl rfl (cells_new _ _ _) (by simp [Value.oneCell']) (by unfold maxLen; omega) (by omega) (by simp; omega) ?_; intro v2 w2 o2 g2 _; have H2 := hide o2; have L3 := hide H1.out; clear H1 o2))
    go_ret
    refine ⟨_, rfl, FIN.out _ _ _ HS.out ?_, ?_⟩
    · have o := H2.out
      rw [List.append_assoc] at o
      exact o
    · have b1 := ((Below.refl B _).alloc hB _).grown g1 (by simp; omega) (fun j hj => (L2.out.lt j hj).1)
      exact (b1.alloc (by have := b1.size; omega) _).grown g2 (by have := b1.size; simp; omega) (fun j hj => (L3.out.lt j hj).1)
  · have HS := hide (shown_quote (c := c) (by omega))
    rw [hn] at HS
    subst h
    clear hpn hp hn
    go_enter Tryd.func31, Tryd.ntmps31
    go_wp2_with (first | (at_builtin; refine wpList_append_own _ rfl _ _ 50 rfl B 5 i0 (.int .u8 0) 1 1 Tryd.underlying50 hi hz0 hz1 hz2 rfl (by decide) _ _ _ rfl (HW.out.alloc _) ⟨_, 0, none⟩ 1 1 [.int .u8 92] rfl rfl (cells_new _ _ _) (by simp [Value.oneCell']) (by unfold maxLen; omega) (by omega) (by simp; omega) ?_; intro v1 w1 o2 g1 _; have H1 := hide o2; have L2 := hide HW.out; clear HW o2) | (at_builtin; have SZ := g1.size; simp at SZ; refine wpList_append_own _ rfl _ _ 50 rfl B 5 i0 (.int .u8 0) 1 1 Tryd.underlying50 hi hz0 hz1 hz2 rfl (by decide) _ _ _ rfl (H1.out.alloc _) ⟨_, 0, none⟩ 1 1 [.int .u8 92] rfl rfl (cells_new _ _ _) (by simp [Value.oneCell']) (by unfold maxLen; omega) (by omega) (by simp; omega) ?_; intro v2 w2 o2 g2 _; have H2 := hide o2; have L3 := hide H1.out; clear H1 o2))
    go_ret
    refine ⟨_, rfl, FIN.out _ _ _ HS.out ?_, ?_⟩
    · have o := H2.out
      rw [List.append_assoc] at o
      exact o
    · have b1 := ((Below.refl B _).alloc hB _).grown g1 (by simp; omega) (fun j hj => (L2.out.lt j hj).1)
      exact (b1.alloc (by have := b1.size; omega) _).grown g2 (by have := b1.size; simp; omega) (fun j hj => (L3.out.lt j hj).1)
  · have hpt : p = true := by rw [hpn]; simp; omega
    have HS := hide (shown_plain (c := c) (hp.trans hpt))
    rw [hn] at HS
    subst hpt
    have g1 : ((n : Int) == 34) = false := by simp; omega
    have g2 : ((n : Int) == 92) = false := by simp; omega
    clear hpn hp hn h
    go_enter Tryd.func31, Tryd.ntmps31
    go_wp2_with (first | (go_at_call 38; refine (CC.out _).mono ?_; rintro e w' ⟨rfl, rfl⟩) | (at_builtin; refine wpList_append_own _ rfl _ _ 50 rfl B 5 i0 (.int .u8 0) 1 1 Tryd.underlying50 hi hz0 hz1 hz2 rfl (by decide) _ _ _ rfl (HW.out.alloc _) ⟨_, 0, none⟩ 1 1 [.int .u8 (n : Int)] rfl rfl (cells_new _ _ _) (by simp [Value.oneCell']) (by unfold maxLen; omega) (by omega) (by simp; omega) ?_; intro v1 w1 o2 g1 _; have H1 := hide o2; have L2 := hide HW.out; clear HW o2))
    go_ret
    exact ⟨_, rfl, FIN.out _ _ _ HS.out H1.out, ((Below.refl B _).alloc hB _).grown g1 (by simp; omega) (fun j hj => (L2.out.lt j hj).1)⟩
  · have HS : Hid (Lib.byteCells (shownL c) = [.int .u8 92, .int .u8 97]) := by
      show _ = _; unfold shownL; rw [if_neg (by omega), if_pos (by omega), hn, h]; rfl
    have hpt : p = false := by rw [hpn, h]; rfl
    subst hpt
    subst h
    clear hpn hp hn
    go_enter Tryd.func31, Tryd.ntmps31
    go_wp2_with (first | (go_at_call 38; refine (CC.out _).mono ?_; rintro e w' ⟨rfl, rfl⟩) | (at_builtin; refine wpList_append_own _ rfl _ _ 50 rfl B 5 i0 (.int .u8 0) 1 1 Tryd.underlying50 hi hz0 hz1 hz2 rfl (by decide) _ _ _ rfl (HW.out.alloc _) ⟨_, 0, none⟩ 2 2 [.int .u8 92, .int .u8 97] rfl rfl (cells_new _ _ _) (by simp [Value.oneCell']) (by unfold maxLen; omega) (by omega) (by simp; omega) ?_; intro v1 w1 o2 g1 _; have H1 := hide o2; have L2 := hide HW.out; clear HW o2))
    go_ret
    exact ⟨_, rfl, FIN.out _ _ _ HS.out H1.out, ((Below.refl B _).alloc hB _).grown g1 (by simp; omega) (fun j hj => (L2.out.lt j hj).1)⟩
  · have HS : Hid (Lib.byteCells (shownL c) = [.int .u8 92, .int .u8 98]) := by
      show _ = _; unfold shownL; rw [if_neg (by omega), if_pos (by omega), hn, h]; rfl
    have hpt : p = false := by rw [hpn, h]; rfl
    subst hpt
    subst h
    clear hpn hp hn
    go_enter Tryd.func31, Tryd.ntmps31
    go_wp2_with (first | (go_at_call 38; refine (CC.out _).mono ?_; rintro e w' ⟨rfl, rfl⟩) | (at_builtin; refine wpList_append_own _ rfl _ _ 50 rfl B 5 i0 (.int .u8 0) 1 1 Tryd.underlying50 hi hz0 hz1 hz2 rfl (by decide) _ _ _ rfl (HW.out.alloc _) ⟨_, 0, none⟩ 2 2 [.int .u8 92, .int .u8 98] rfl rfl (cells_new _ _ _) (by simp [Value.oneCell']) (by unfold maxLen; omega) (by omega) (by simp; omega) ?_; intro v1 w1 o2 g1 _; have H1 := hide o2; have L2 := hide HW.out; clear HW o2))
    go_ret
    exact ⟨_, rfl, FIN.out _ _ _ HS.out H1.out, ((Below.refl B _).alloc hB _).grown g1 (by simp; omega) (fun j hj => (L2.out.lt j hj).1)⟩
  · have HS : Hid (Lib.byteCells (shownL c) = [.int .u8 92, .int .u8 116]) := by
      show _ = _; unfold shownL; rw [if_neg (by omega), if_pos (by omega), hn, h]; rfl
    have hpt : p = false := by rw [hpn, h]; rfl
    subst hpt
    subst h
    clear hpn hp hn
    go_enter Tryd.func31, Tryd.ntmps31
    go_wp2_with (first | (go_at_call 38; refine (CC.out _).mono ?_; rintro e w' ⟨rfl, rfl⟩) | (at_builtin; refine wpList_append_own _ rfl _ _ 50 rfl B 5 i0 (.int .u8 0) 1 1 Tryd.underlying50 hi hz0 hz1 hz2 rfl (by decide) _ _ _ rfl (HW.out.alloc _) ⟨_, 0, none⟩ 2 2 [.int .u8 92, .int .u8 116] rfl rfl (cells_new _ _ _) (by simp [Value.oneCell']) (by unfold maxLen; omega) (by omega) (by simp; omega) ?_; intro v1 w1 o2 g1 _; have H1 := hide o2; have L2 := hide HW.out; clear HW o2))
    go_ret
    exact ⟨_, rfl, FIN.out _ _ _ HS.out H1.out, ((Below.refl B _).alloc hB _).grown g1 (by simp; omega) (fun j hj => (L2.out.lt j hj).1)⟩
  · have HS : Hid (Lib.byteCells (shownL c) = [.int .u8 92, .int .u8 110]) := by
      show _ = _; unfold shownL; rw [if_neg (by omega), if_pos (by omega), hn, h]; rfl
    have hpt : p = false := by rw [hpn, h]; rfl
    subst hpt
    subst h
    clear hpn hp hn
    go_enter Tryd.func31, Tryd.ntmps31
    go_wp2_with (first | (go_at_call 38; refine (CC.out _).mono ?_; rintro e w' ⟨rfl, rfl⟩) | (at_builtin; refine wpList_append_own _ rfl _ _ 50 rfl B 5 i0 (.int .u8 0) 1 1 Tryd.underlying50 hi hz0 hz1 hz2 rfl (by decide) _ _ _ rfl (HW.out.alloc _) ⟨_, 0, none⟩ 2 2 [.int .u8 92, .int .u8 110] rfl rfl (cells_new _ _ _) (by simp [Value.oneCell']) (by unfold maxLen; omega) (by omega) (by simp; omega) ?_; intro v1 w1 o2 g1 _; have H1 := hide o2; have L2 := hide HW.out; clear HW o2))
    go_ret
    exact ⟨_, rfl, FIN.out _ _ _ HS.out H1.out, ((Below.refl B _).alloc hB _).grown g1 (by simp; omega) (fun j hj => (L2.out.lt j hj).1)⟩
  · have HS : Hid (Lib.byteCells (shownL c) = [.int .u8 92, .int .u8 118]) := by
      show _ = _; unfold shownL; rw [if_neg (by omega), if_pos (by omega), hn, h]; rfl
    have hpt : p = false := by rw [hpn, h]; rfl
    subst hpt
    subst h
    clear hpn hp hn
    go_enter Tryd.func31, Tryd.ntmps31
    go_wp2_with (first | (go_at_call 38; refine (CC.out _).mono ?_; rintro e w' ⟨rfl, rfl⟩) | (at_builtin; refine wpList_append_own _ rfl _ _ 50 rfl B 5 i0 (.int .u8 0) 1 1 Tryd.underlying50 hi hz0 hz1 hz2 rfl (by decide) _ _ _ rfl (HW.out.alloc _) ⟨_, 0, none⟩ 2 2 [.int .u8 92, .int .u8 118] rfl rfl (cells_new _ _ _) (by simp [Value.oneCell']) (by unfold maxLen; omega) (by omega) (by simp; omega) ?_; intro v1 w1 o2 g1 _; have H1 := hide o2; have L2 := hide HW.out; clear HW o2))
    go_ret
    exact ⟨_, rfl, FIN.out _ _ _ HS.out H1.out, ((Below.refl B _).alloc hB _).grown g1 (by simp; omega) (fun j hj => (L2.out.lt j hj).1)⟩
  · have HS : Hid (Lib.byteCells (shownL c) = [.int .u8 92, .int .u8 102]) := by
      show _ = _; unfold shownL; rw [if_neg (by omega), if_pos (by omega), hn, h]; rfl
    have hpt : p = false := by rw [hpn, h]; rfl
    subst hpt
    subst h
    clear hpn hp hn
    go_enter Tryd.func31, Tryd.ntmps31
    go_wp2_with (first | (go_at_call 38; refine (CC.out _).mono ?_; rintro e w' ⟨rfl, rfl⟩) | (at_builtin; refine wpList_append_own _ rfl _ _ 50 rfl B 5 i0 (.int .u8 0) 1 1 Tryd.underlying50 hi hz0 hz1 hz2 rfl (by decide) _ _ _ rfl (HW.out.alloc _) ⟨_, 0, none⟩ 2 2 [.int .u8 92, .int .u8 102] rfl rfl (cells_new _ _ _) (by simp [Value.oneCell']) (by unfold maxLen; omega) (by omega) (by simp; omega) ?_; intro v1 w1 o2 g1 _; have H1 := hide o2; have L2 := hide HW.out; clear HW o2))
    go_ret
    exact ⟨_, rfl, FIN.out _ _ _ HS.out H1.out, ((Below.refl B _).alloc hB _).grown g1 (by simp; omega) (fun j hj => (L2.out.lt j hj).1)⟩
  · have HS : Hid (Lib.byteCells (shownL c) = [.int .u8 92, .int .u8 114]) := by
      show _ = _; unfold shownL; rw [if_neg (by omega), if_pos (by omega), hn, h]; rfl
    have hpt : p = false := by rw [hpn, h]; rfl
    subst hpt
    subst h
    clear hpn hp hn
    go_enter Tryd.func31, Tryd.ntmps31
    go_wp2_with (first | (go_at_call 38; refine (CC.out _).mono ?_; rintro e w' ⟨rfl, rfl⟩) | (at_builtin; refine wpList_append_own _ rfl _ _ 50 rfl B 5 i0 (.int .u8 0) 1 1 Tryd.underlying50 hi hz0 hz1 hz2 rfl (by decide) _ _ _ rfl (HW.out.alloc _) ⟨_, 0, none⟩ 2 2 [.int .u8 92, .int .u8 114] rfl rfl (cells_new _ _ _) (by simp [Value.oneCell']) (by unfold maxLen; omega) (by omega) (by simp; omega) ?_; intro v1 w1 o2 g1 _; have H1 := hide o2; have L2 := hide HW.out; clear HW o2))
    go_ret
    exact ⟨_, rfl, FIN.out _ _ _ HS.out H1.out, ((Below.refl B _).alloc hB _).grown g1 (by simp; omega) (fun j hj => (L2.out.lt j hj).1)⟩
  · have HS := hide (shown_ctl (c := c) (by omega) (by omega))
    rw [hn] at HS
    have hpt : p = false := by rw [hpn]; simp; omega
    subst hpt
    clear hpn hp hn
    have g1 : ((n : Int) == 34) = false := by simp; omega
    have g2 : ((n : Int) == 92) = false := by simp; omega
    go_enter Tryd.func31, Tryd.ntmps31
    go_wp2_with (first | (go_at_call 38; refine (CC.out _).mono ?_; rintro e w' ⟨rfl, rfl⟩) | (at_builtin; refine wpList_append_own _ rfl _ _ 50 rfl B 5 i0 (.int .u8 0) 1 1 Tryd.underlying50 hi hz0 hz1 hz2 rfl (by decide) _ _ _ rfl (HW.out.alloc _) ⟨_, 0, none⟩ 3 3 [.int .u8 92, .int .u8 94, .int .u8 ((n : Int) + 64)] rfl rfl (cells_new _ _ _) (by simp [Value.oneCell']) (by unfold maxLen; omega) (by omega) (by simp; omega) ?_; intro v1 w1 o2 g1 _; have H1 := hide o2; have L2 := hide HW.out; clear HW o2))
    go_ret
    exact ⟨_, rfl, FIN.out _ _ _ HS.out H1.out, ((Below.refl B _).alloc hB _).grown g1 (by simp; omega) (fun j hj => (L2.out.lt j hj).1)⟩
  · have HS := hide (shown_ctl (c := c) (by omega) (by omega))
    rw [hn] at HS
    have hpt : p = false := by rw [hpn]; simp; omega
    subst hpt
    clear hpn hp hn
    have g1 : ((n : Int) == 34) = false := by simp; omega
    have g2 : ((n : Int) == 92) = false := by simp; omega
    go_enter Tryd.func31, Tryd.ntmps31
    go_wp2_with (first | (go_at_call 38; refine (CC.out _).mono ?_; rintro e w' ⟨rfl, rfl⟩) | (at_builtin; refine wpList_append_own _ rfl _ _ 50 rfl B 5 i0 (.int .u8 0) 1 1 Tryd.underlying50 hi hz0 hz1 hz2 rfl (by decide) _ _ _ rfl (HW.out.alloc _) ⟨_, 0, none⟩ 3 3 [.int .u8 92, .int .u8 94, .int .u8 ((n : Int) + 64)] rfl rfl (cells_new _ _ _) (by simp [Value.oneCell']) (by unfold maxLen; omega) (by omega) (by simp; omega) ?_; intro v1 w1 o2 g1 _; have H1 := hide o2; have L2 := hide HW.out; clear HW o2))
    go_ret
    exact ⟨_, rfl, FIN.out _ _ _ HS.out H1.out, ((Below.refl B _).alloc hB _).grown g1 (by simp; omega) (fun j hj => (L2.out.lt j hj).1)⟩
  · have HS := hide (shown_high (c := c) (by omega))
    rw [hn] at HS
    have hpt : p = false := by rw [hpn]; simp; omega
    subst hpt
    clear hpn hp hn
    have g1 : ((n : Int) == 34) = false := by simp; omega
    have g2 : ((n : Int) == 92) = false := by simp; omega
    go_enter Tryd.func31, Tryd.ntmps31
    go_wp2_with (first | (go_at_call 38; refine (CC.out _).mono ?_; rintro e w' ⟨rfl, rfl⟩) | (at_builtin; refine wpList_append_own _ rfl _ _ 50 rfl B 5 i0 (.int .u8 0) 1 1 Tryd.underlying50 hi hz0 hz1 hz2 rfl (by decide) _ _ _ rfl (HW.out.alloc _) ⟨_, 0, none⟩ 4 4 [.int .u8 92, .int .u8 (48 + (n : Int) / 100), .int .u8 (48 + (n : Int) / 10 % 10), .int .u8 (48 + (n : Int) % 10)] rfl rfl (cells_new _ _ _) (by simp [Value.oneCell']) (by unfold maxLen; omega) (by omega) (by simp; omega) ?_; intro v1 w1 o2 g1 _; have H1 := hide o2; have L2 := hide HW.out; clear HW o2))
    go_ret
    exact ⟨_, rfl, FIN.out _ _ _ HS.out H1.out, ((Below.refl B _).alloc hB _).grown g1 (by simp; omega) (fun j hj => (L2.out.lt j hj).1)⟩
end Go.Proofs.YtgjcbgconkiedaaDoor
