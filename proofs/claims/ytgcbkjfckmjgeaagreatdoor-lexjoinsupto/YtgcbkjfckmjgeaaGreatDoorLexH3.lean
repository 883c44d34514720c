/- The document's scanner: strings and characters. -/
import Derived.Test.YtgcbkjfckmjgeaaGreatDoorProg
import Derived.Test.YtgcbkjfckmjgeaaGreatDoorLexH2
import Derived.Test.YtgcbkjfckmjgeaaGreatDoorLexD10
import Derived.WalkKit
import Derived.ProofKit
import Derived.OpenShut
import Derived.Below
import Derived.WalkLawsBesides
import Derived.OwnWalk
import Derived.BigQuiet
import Derived.Lib.IndexBytes
import Derived.Deep.MidRow
import Derived.Deep.RegionHeld3
namespace Go.Proofs.YtgcbkjfckmjgeaaGreatDoor
open Go.ChangeShapes Go.WideShapes Go.ChangeAt Go.RowKit

theorem texV_none {q : Nat} {e : Ending} (h : TexV q none e) : ∃ t n, e = .returned (.tuple #[.string t, .int .i64 n, .bool false]) := h
theorem texV_got {q n : Nat} {t : List UInt8} {e : Ending} (h : TexV q (some (t, n)) e) : e = .returned (.tuple #[.string ⟨t.toArray⟩, .int .i64 ((q + n : Nat) : Int), .bool true]) := h

set_option maxRecDepth 100000 in
set_option maxHeartbeats 8000000 in
theorem rstr_any (b : Nat) (s : ByteArray) (p : Nat) (w : World) (h : IsSc w b s p) (hp : p + 0 < s.size) : Calls Tryz.prog 44 #[.pointer (some ⟨b, 0, none⟩), .int .i64 0, .int .i64 6] w fun e w' => Gives (strR (s.data.toList.drop p)) e ∧ Below w.heap.size w w' := by
  have hs := h.small
  have hps := h.inside
  have HS := hide h
  have hne := World.new_ne w ⟨b, 1, none⟩ h.at'
  have hne2 : (b == w.heap.size) = false := by simp; exact Nat.ne_of_lt h.old
  have B0 := (Below.refl w.heap.size w).alloc (Nat.le_refl _) (.cells #[.int .i64 0, .string ⟨#[]⟩, .slice none 0 0, .int .i64 0, .int .i64 0] 34)
  have CT : Hid (Calls Tryz.prog 70 #[.pointer (some ⟨b, 0, none⟩), .int .i64 0] (w.alloc (.cells #[.int .i64 0, .string ⟨#[]⟩, .slice none 0 0, .int .i64 0, .int .i64 0] 34)) fun e w' => TexV (p + 0) (quoN (s.data.toList.drop (p + 0))) e ∧ Below (w.alloc (.cells #[.int .i64 0, .string ⟨#[]⟩, .slice none 0 0, .int .i64 0, .int .i64 0] 34)).heap.size (w.alloc (.cells #[.int .i64 0, .string ⟨#[]⟩, .slice none 0 0, .int .i64 0, .int .i64 0] 34)) w') := rtext_any b s p 0 _ (h.below B0) hp
  have HN : Hid (strR (s.data.toList.drop p) = match quoN (s.data.toList.drop (p + 0)) with
    | none => .bad 42
    | some (t, n) => if 65536 < t.length then .bad 2 else .got 6 t [] n) := by show _ = _; rw [Nat.add_zero]; rfl
  obtain ⟨R, HR⟩ : ∃ R, Hid (strR (s.data.toList.drop p) = R) := ⟨_, rfl⟩
  rw [HR.out] at HN ⊢
  clear HR B0 h
  cases hq : quoN (s.data.toList.drop (p + 0)) with
  | none =>
    have HE : Hid (R = .bad 42) := by show _ = _; rw [HN.out, hq]
    rw [hq] at CT
    clear HN
    go_enter Tryz.func44, Tryz.ntmps44
    go_wp2_with (go_at_call 70; refine CT.out.mono ?_; rintro e w1 ⟨hv, g1⟩; (obtain ⟨t9, n9, hv2⟩ := texV_none hv); subst hv2; clear hv; obtain ⟨⟨c0, c1, c2, c3, c4⟩, ⟨f0, f1, f2, f3, f4⟩, b1, b2⟩ := cell5 g1; clear g1)
    refine tok_end rfl (some5 ⟨c0, c1, c2, c3, c4⟩) ⟨f0, f1, f2, f3, f4⟩ rfl b1 fun g => ?_
    rw [HE.out]
    exact ⟨rfl, g⟩
  | some z =>
    obtain ⟨t, n⟩ := z
    have hqle := quoN_le hq
    rw [List.length_drop, size_list] at hqle
    rw [hq] at CT
    obtain ⟨tx, htx⟩ : ∃ tx : ByteArray, ByteArray.mk t.toArray = tx := ⟨_, rfl⟩
    have hTL : t.length = tx.size := by rw [← htx]; exact (Array.length_toList (xs := t.toArray)).symm ▸ by simp [ByteArray.size]
    have HTX := hide htx
    obtain ⟨nx, hnx⟩ : ∃ m, p + 0 + n = m := ⟨_, rfl⟩
    have hni : (nx : Int) - (p : Int) = ((0 + n : Nat) : Int) := by omega
    have hnb : nx ≤ 2097152 := by omega
    have hwn : IntKind.i64.wrap (n : Int) = (n : Int) := by simp [IntKind.wrap, IntKind.bits, IntKind.signed]; omega
    have hxw : ∀ e, TexV (p + 0) (some (t, n)) e → e = .returned (.tuple #[.string tx, .int .i64 (nx : Int), .bool true]) := by intro e he; rw [← htx, ← hnx]; exact he
    have HX := hide hxw
    by_cases h6 : 65536 < tx.size
    · have HE : Hid (R = .bad 2) := by show _ = _; rw [HN.out, hq]; show (if 65536 < t.length then _ else _) = _; rw [if_pos (by omega)]
      clear HN hTL htx hxw hnx hq hqle
      go_enter Tryz.func44, Tryz.ntmps44
      go_wp2_with (go_at_call 70; refine CT.out.mono ?_; rintro e w1 ⟨hv, g1⟩; (have hv2 := HX.out _ hv); subst hv2; clear hv; obtain ⟨⟨c0, c1, c2, c3, c4⟩, ⟨f0, f1, f2, f3, f4⟩, b1, b2⟩ := cell5 g1; clear g1)
      refine tok_end rfl (some5 ⟨c0, c1, c2, c3, c4⟩) ⟨f0, f1, f2, f3, f4⟩ rfl b1 fun g => ?_
      rw [HE.out]
      exact ⟨rfl, g⟩
    · have HE : Hid (R = .got 6 t [] n) := by show _ = _; rw [HN.out, hq]; show (if 65536 < t.length then _ else _) = _; rw [if_neg (by omega)]
      clear HN hTL htx hxw hnx hq hqle
      go_enter Tryz.func44, Tryz.ntmps44
      go_wp2_with (go_at_call 70; refine CT.out.mono ?_; rintro e w1 ⟨hv, g1⟩; (have hv2 := HX.out _ hv); subst hv2; clear hv; (have SC := HS.out.below ((Below.refl w.heap.size w).alloc (Nat.le_refl _) (.cells #[.int .i64 0, .string ⟨#[]⟩, .slice none 0 0, .int .i64 0, .int .i64 0] 34))); (have SC1 := SC.below g1); (have a1 := SC1.at'); obtain ⟨⟨c0, c1, c2, c3, c4⟩, ⟨f0, f1, f2, f3, f4⟩, b1, b2⟩ := cell5 g1; clear g1 SC SC1)
      go_region_held3 (fun w' => w'.cell? ⟨b, 1, none⟩ = some (.int .i64 (p : Int))) (go_keep) (fail)
      go_wp2
      refine tok_end (w1 := w1.drew) rfl (some5 ⟨c0, c1, c2, c3, c4⟩) ⟨f0, f1, f2, f3, f4⟩ rfl b1.drew fun g => ?_
      rw [HE.out]
      exact ⟨gives_got HTX.out (by first | rfl | (congr 3; simp)), g⟩

set_option maxRecDepth 100000 in
set_option maxHeartbeats 8000000 in
theorem rchr_any (b : Nat) (s : ByteArray) (p : Nat) (w : World) (h : IsSc w b s p) (hp : p + 1 < s.size) : Calls Tryz.prog 44 #[.pointer (some ⟨b, 0, none⟩), .int .i64 1, .int .i64 7] w fun e w' => Gives (chrR (s.data.toList.drop p)) e ∧ Below w.heap.size w w' := by
  have hs := h.small
  have hps := h.inside
  have HS := hide h
  have hne := World.new_ne w ⟨b, 1, none⟩ h.at'
  have hne2 : (b == w.heap.size) = false := by simp; exact Nat.ne_of_lt h.old
  have B0 := (Below.refl w.heap.size w).alloc (Nat.le_refl _) (.cells #[.int .i64 0, .string ⟨#[]⟩, .slice none 0 0, .int .i64 0, .int .i64 0] 34)
  have CT : Hid (Calls Tryz.prog 70 #[.pointer (some ⟨b, 0, none⟩), .int .i64 1] (w.alloc (.cells #[.int .i64 0, .string ⟨#[]⟩, .slice none 0 0, .int .i64 0, .int .i64 0] 34)) fun e w' => TexV (p + 1) (quoN (s.data.toList.drop (p + 1))) e ∧ Below (w.alloc (.cells #[.int .i64 0, .string ⟨#[]⟩, .slice none 0 0, .int .i64 0, .int .i64 0] 34)).heap.size (w.alloc (.cells #[.int .i64 0, .string ⟨#[]⟩, .slice none 0 0, .int .i64 0, .int .i64 0] 34)) w') := rtext_any b s p 1 _ (h.below B0) hp
  have HN : Hid (chrR (s.data.toList.drop p) = match quoN (s.data.toList.drop (p + 1)) with
    | none => .bad 42
    | some (t, n) => if t.length = 1 then .got 7 t [] (1 + n) else .bad 42) := by show _ = _; rw [← List.drop_drop]; rfl
  obtain ⟨R, HR⟩ : ∃ R, Hid (chrR (s.data.toList.drop p) = R) := ⟨_, rfl⟩
  rw [HR.out] at HN ⊢
  clear HR B0 h
  cases hq : quoN (s.data.toList.drop (p + 1)) with
  | none =>
    have HE : Hid (R = .bad 42) := by show _ = _; rw [HN.out, hq]
    rw [hq] at CT
    clear HN
    go_enter Tryz.func44, Tryz.ntmps44
    go_wp2_with (go_at_call 70; refine CT.out.mono ?_; rintro e w1 ⟨hv, g1⟩; (obtain ⟨t9, n9, hv2⟩ := texV_none hv); subst hv2; clear hv; obtain ⟨⟨c0, c1, c2, c3, c4⟩, ⟨f0, f1, f2, f3, f4⟩, b1, b2⟩ := cell5 g1; clear g1)
    refine tok_end rfl (some5 ⟨c0, c1, c2, c3, c4⟩) ⟨f0, f1, f2, f3, f4⟩ rfl b1 fun g => ?_
    rw [HE.out]
    exact ⟨rfl, g⟩
  | some z =>
    obtain ⟨t, n⟩ := z
    have hqle := quoN_le hq
    rw [List.length_drop, size_list] at hqle
    rw [hq] at CT
    obtain ⟨tx, htx⟩ : ∃ tx : ByteArray, ByteArray.mk t.toArray = tx := ⟨_, rfl⟩
    have hTL : t.length = tx.size := by rw [← htx]; exact (Array.length_toList (xs := t.toArray)).symm ▸ by simp [ByteArray.size]
    have HTX := hide htx
    obtain ⟨nx, hnx⟩ : ∃ m, p + 1 + n = m := ⟨_, rfl⟩
    have hni : (nx : Int) - (p : Int) = ((1 + n : Nat) : Int) := by omega
    have hnb : nx ≤ 2097152 := by omega
    have hwn : IntKind.i64.wrap (1 + (n : Int)) = (1 + (n : Int)) := by simp [IntKind.wrap, IntKind.bits, IntKind.signed]; omega
    have hxw : ∀ e, TexV (p + 1) (some (t, n)) e → e = .returned (.tuple #[.string tx, .int .i64 (nx : Int), .bool true]) := by intro e he; rw [← htx, ← hnx]; exact he
    have HX := hide hxw
    by_cases h6 : tx.size = 1
    · have HE : Hid (R = .got 7 t [] (1 + n)) := by show _ = _; rw [HN.out, hq]; show (if t.length = 1 then _ else _) = _; rw [if_pos (by omega)]
      have h61 : (tx.size : Int) = 1 := by omega
      clear HN hTL htx hxw hnx hq hqle
      go_enter Tryz.func44, Tryz.ntmps44
      go_wp2_with (go_at_call 70; refine CT.out.mono ?_; rintro e w1 ⟨hv, g1⟩; (have hv2 := HX.out _ hv); subst hv2; clear hv; (have SC := HS.out.below ((Below.refl w.heap.size w).alloc (Nat.le_refl _) (.cells #[.int .i64 0, .string ⟨#[]⟩, .slice none 0 0, .int .i64 0, .int .i64 0] 34))); (have SC1 := SC.below g1); (have a1 := SC1.at'); obtain ⟨⟨c0, c1, c2, c3, c4⟩, ⟨f0, f1, f2, f3, f4⟩, b1, b2⟩ := cell5 g1; clear g1 SC SC1)
      go_region_held3 (fun w' => w'.cell? ⟨b, 1, none⟩ = some (.int .i64 (p : Int))) (go_keep) (fail)
      go_wp2
      refine tok_end (w1 := w1.drew) rfl (some5 ⟨c0, c1, c2, c3, c4⟩) ⟨f0, f1, f2, f3, f4⟩ rfl b1.drew fun g => ?_
      rw [HE.out]
      exact ⟨gives_got HTX.out (by first | rfl | (congr 3; simp)), g⟩
    · have HE : Hid (R = .bad 42) := by show _ = _; rw [HN.out, hq]; show (if t.length = 1 then _ else _) = _; rw [if_neg (by omega)]
      have h61 : ((tx.size : Int) != 1) = true := by simp; omega
      clear HN hTL htx hxw hnx hq hqle
      go_enter Tryz.func44, Tryz.ntmps44
      go_wp2_with (go_at_call 70; refine CT.out.mono ?_; rintro e w1 ⟨hv, g1⟩; (have hv2 := HX.out _ hv); subst hv2; clear hv; obtain ⟨⟨c0, c1, c2, c3, c4⟩, ⟨f0, f1, f2, f3, f4⟩, b1, b2⟩ := cell5 g1; clear g1)
      refine tok_end rfl (some5 ⟨c0, c1, c2, c3, c4⟩) ⟨f0, f1, f2, f3, f4⟩ rfl b1 fun g => ?_
      rw [HE.out]
      exact ⟨rfl, g⟩
end Go.Proofs.YtgcbkjfckmjgeaaGreatDoor
