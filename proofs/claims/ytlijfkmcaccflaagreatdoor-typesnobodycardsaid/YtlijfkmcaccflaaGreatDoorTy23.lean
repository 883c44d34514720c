/- The closed call alive(). -/
import Derived.Test.YtlijfkmcaccflaaGreatDoorProg
import Derived.Test.YtlijfkmcaccflaaGreatDoorTy22
import Derived.WalkKit
import Derived.ProofKit
import Derived.OpenShut
import Derived.Below
import Derived.WalkLawsBesides
import Derived.OwnWalk
import Derived.BigQuiet
import Derived.WalkSmall
import Derived.Deep.DeepCutAuto
namespace Go.Proofs.YtlijfkmcaccflaaGreatDoor
open Go.ChangeShapes Go.WideShapes Go.ChangeAt Go.RowKit

def cs5 (v w : Value) : List Tc := [tVar, tVar, tInt, tArrow v 0 1, tArrow w 2 0]
def cs6 (v w : Value) : List Tc := [tTo 2, tVar, tInt, tArrow v 0 1, tArrow w 2 0]
def cs7 (v w : Value) : List Tc := [tTo 2, tTo 2, tInt, tArrow v 0 1, tArrow w 2 0]
theorem good5 (v w : Value) : Good (cs5 v w) 0 ∧ Good (cs5 v w) 1 ∧ Good (cs5 v w) 2 ∧ Good (cs5 v w) 3 ∧ Good (cs5 v w) 4 := by
  simp [Good, nw, kindA, toA, cs5, tVar, tInt, tArrow]
theorem good6 (v w : Value) : Good (cs6 v w) 0 ∧ Good (cs6 v w) 1 ∧ Good (cs6 v w) 2 ∧ Good (cs6 v w) 3 ∧ Good (cs6 v w) 4 := by
  simp [Good, nw, kindA, toA, cs6, tVar, tInt, tArrow, tTo]
theorem good7 (v w : Value) : Good (cs7 v w) 0 ∧ Good (cs7 v w) 1 ∧ Good (cs7 v w) 2 ∧ Good (cs7 v w) 3 ∧ Good (cs7 v w) 4 := by
  simp [Good, nw, kindA, toA, cs7, tInt, tArrow, tTo]
theorem ok5 (v w : Value) : Ok (cs5 v w) 3 0 ∧ Ok (cs5 v w) 3 1 ∧ Ok (cs5 v w) 3 2 ∧ Ok (cs5 v w) 3 3 ∧ Ok (cs5 v w) 3 4 := by
  simp [Ok, Good, nw, kindA, toA, argsA, cs5, tVar, tInt, tArrow]
theorem ok6 (v w : Value) : Ok (cs6 v w) 3 1 ∧ Ok (cs6 v w) 3 2 := by
  simp [Ok, Good, nw, kindA, toA, argsA, cs6, tVar, tInt, tArrow, tTo]
theorem ok7 (v w : Value) : Ok (cs7 v w) 3 3 := by
  simp [Ok, Good, nw, kindA, toA, argsA, cs7, tInt, tArrow, tTo]
theorem siz5 (v w : Value) : siz (cs5 v w) 3 0 ≤ 2048 ∧ siz (cs5 v w) 3 1 ≤ 2048 ∧ siz (cs5 v w) 3 2 ≤ 2048 ∧ siz (cs5 v w) 3 3 ≤ 2048 ∧ siz (cs5 v w) 3 4 ≤ 2048 := by
  simp [siz, nw, kindA, toA, argsA, cs5, tVar, tInt, tArrow]
theorem siz6 (v w : Value) : siz (cs6 v w) 3 1 ≤ 2048 ∧ siz (cs6 v w) 3 2 ≤ 2048 := by
  simp [siz, nw, kindA, toA, argsA, cs6, tVar, tInt, tArrow, tTo]
theorem siz7 (v w : Value) : siz (cs7 v w) 3 3 ≤ 2048 := by
  simp [siz, nw, kindA, toA, argsA, cs7, tInt, tArrow, tTo]
theorem okv5 (v w : Value) : OkV (cs5 v w) (fun q => q ≠ 0) 3 2 ∧ OkV (cs5 v w) (fun q => kindA (cs5 v w) q ≠ 1) 3 2 := by
  simp [OkV, Good, nw, kindA, toA, argsA, cs5, tVar, tInt, tArrow]
theorem okv6 (v w : Value) : OkV (cs6 v w) (fun q => q ≠ 1) 3 2 ∧ OkV (cs6 v w) (fun q => kindA (cs6 v w) q ≠ 1) 3 2 := by
  simp [OkV, Good, nw, kindA, toA, argsA, cs6, tVar, tInt, tArrow, tTo]
theorem okv7 (v w : Value) : OkV (cs7 v w) (fun q => kindA (cs7 v w) q ≠ 1) 3 3 := by
  simp [OkV, Good, nw, kindA, toA, argsA, cs7, tInt, tArrow, tTo]
theorem nw5 (v w : Value) : nw (cs5 v w) 0 = 0 ∧ nw (cs5 v w) 2 = 2 ∧ nw (cs5 v w) 3 = 3 ∧ nw (cs5 v w) 4 = 4 := by
  simp [nw, kindA, cs5, tVar, tInt, tArrow]
theorem nw6 (v w : Value) : nw (cs6 v w) 0 = 2 ∧ nw (cs6 v w) 1 = 1 := by
  simp [nw, kindA, toA, cs6, tVar, tInt, tArrow, tTo]
theorem nw7 (v w : Value) : nw (cs7 v w) 0 = 2 ∧ nw (cs7 v w) 1 = 2 ∧ nw (cs7 v w) 3 = 3 := by
  simp [nw, kindA, toA, cs7, tInt, tArrow, tTo]
/-- The first unification: a variable stands in the other type. -/
theorem first_no (b hi : Nat) (cv v4 v5 : Value) (w : World) (hb : Bk b hi w cv (cs5 v4 v5)) :
    Calls Tryz.prog 18 #[.pointer (some ⟨b, 0, none⟩), .int .i64 0, .int .i64 3] w fun e w' => e = .returned (.int .i64 71) ∧ Bk b hi w' cv (cs5 v4 v5) ∧ Below b w w' := by
  obtain ⟨g0, g1, g2, g3, g4⟩ := good5 v4 v5
  obtain ⟨o0, o1, o2, o3, o4⟩ := ok5 v4 v5
  obtain ⟨s0, s1, s2, s3, s4⟩ := siz5 v4 v5
  obtain ⟨n0, n2, n3, n4⟩ := nw5 v4 v5
  refine unify_face b hi cv (cs5 v4 v5) 0 3 71 w (fun w' => Bk b hi w' cv (cs5 v4 v5) ∧ Below b w w') hb ⟨by omega, by simp [cs5]⟩ ⟨by omega, by simp [cs5]⟩ ?_
  intro W t hht hbW hun hbel
  refine (try_fail t b hi cv (cs5 v4 v5) _ 0 3 W hbW hun rfl hht ?_).mono ?_
  · intro W' hW'
    have hb' := hbW.below (hW'.mono hbW.hil)
    have hu' := hun.below hW'
    refine (unify_fails t b hi cv (cs5 v4 v5) _ 0 0 3 3 (-1) W' (fun w' => Below W'.heap.size W' w') hb' hu' g0 g3 (by rw [n0, n3]; decide) (by rw [n0]; exact o0) (by rw [n3]; exact o3) (by rw [n0]; exact s0) (by rw [n3]; exact s3) (by rw [n0]; rfl) (by rw [n3]; show (4 : Int) ≠ 1; decide) ?_).mono ?_
    · intro W2 hW2
      rw [n0, n3]
      refine (become_fail t b hi cv (cs5 v4 v5) _ 0 0 3 0 [1] W2 (hb'.below (hW2.mono hb'.hil)) (hu'.below hW2) g3 (by rw [n3]; decide) (by rw [n3]; rfl) g0 n0).mono ?_
      rintro e w' ⟨h1, h2⟩
      exact ⟨h1, hW2.trans (h2.mono hW2.size)⟩
    · rintro e w' ⟨h1, h2⟩
      exact ⟨h1, hW'.trans (h2.mono hW'.size), h2⟩
  · rintro e w' ⟨h1, h2, h3⟩
    exact ⟨h1, h2, (hbel.mono (Nat.le_of_lt hb.old)).trans (h3.mono (Nat.le_trans (Nat.le_of_lt hb.old) hht))⟩
/-- The second one: both arrows become int -> int. -/
theorem second_ok (b hi : Nat) (cv v4 v5 : Value) (w : World) (hb : Bk b hi w cv (cs5 v4 v5)) :
    Calls Tryz.prog 18 #[.pointer (some ⟨b, 0, none⟩), .int .i64 3, .int .i64 4] w fun e w' => e = .returned (.int .i64 0) ∧ Bk b hi w' cv (cs7 v4 v5) ∧ Below b w w' := by
  obtain ⟨g0, g1, g2, g3, g4⟩ := good5 v4 v5
  obtain ⟨o0, o1, o2, o3, o4⟩ := ok5 v4 v5
  obtain ⟨s0, s1, s2, s3, s4⟩ := siz5 v4 v5
  obtain ⟨n0, n2, n3, n4⟩ := nw5 v4 v5
  obtain ⟨m0, m1⟩ := nw6 v4 v5
  obtain ⟨p0, p1, p2, p3, p4⟩ := good6 v4 v5
  refine unify_face b hi cv (cs5 v4 v5) 3 4 0 w (fun w' => Bk b hi w' cv (cs7 v4 v5) ∧ Below b w w') hb ⟨by omega, by simp [cs5]⟩ ⟨by omega, by simp [cs5]⟩ ?_
  intro W t hht hbW hun hbel
  refine (try_ok t b hi cv (cs5 v4 v5) (cs7 v4 v5) _ 2 3 4 W hbW hun hht ?_).mono ?_
  · intro W' hW'
    have hb' := hbW.below (hW'.mono hbW.hil)
    have hu' := hun.below hW'
    refine unify_arrows t b hi cv (cs5 v4 v5) (cs6 v4 v5) (cs7 v4 v5) _ 0 1 2 3 4 3 3 (-1) W' 0 1 2 0 hb' hu' hht g3 g4 (by rw [n3, n4]; decide) (by decide) (by rw [n3]; exact o3) (by rw [n4]; exact o4) (by rw [n3]; exact s3) (by rw [n4]; exact s4) (by rw [n3]; rfl) (by rw [n4]; rfl) (by rw [n3, n4]; rfl) (by rw [n3]; rfl) (by rw [n4]; rfl) ?_ ?_ (by decide) (by rw [n3]; exact ok7 v4 v5) (by rw [n3]; exact siz7 v4 v5)
    · intro W2 hW2
      have hb2 := hb'.below (hW2.mono hb'.hil)
      have hu2 := hu'.below hW2
      refine unify_becomes t b hi cv (cs5 v4 v5) _ 0 0 2 3 (0 : Nat) W2 (fun w' => Bk b hi w' cv (cs6 v4 v5) ∧ (∃ tv1, Un t b w' tv1 1 ∧ Urel t cv (.slice none 0 0) tv1 W2 w')) hb2 hu2 g0 g2 (by rw [n0, n2]; decide) (by rw [n0]; exact o0) (by rw [n2]; exact o2) (by rw [n0]; exact s0) (by rw [n2]; exact s2) (by rw [n0]; rfl) (by rw [n2]; show (2 : Int) ≠ 1; decide) ?_
      intro W3 hW3
      rw [n0, n2]
      refine (become_ok t b hi cv (cs5 v4 v5) _ 0 0 2 3 W3 (hb2.below (hW3.mono hb2.hil)) (hu2.below hW3) hht (by omega) (by simp [cs5]) (okv5 v4 v5).1 (okv5 v4 v5).2).mono ?_
      rintro e w' ⟨h1, h2, tv', h3, h4⟩
      exact ⟨h1, h2, tv', h3, (Urel.of hW3).trans h4⟩
    · intro W2 tv1 hb2 hu2
      refine unify_becomes t b hi cv (cs6 v4 v5) tv1 1 1 0 3 (0 : Nat) W2 (fun w' => Bk b hi w' cv (cs7 v4 v5) ∧ (∃ tv2, Un t b w' tv2 2 ∧ Urel t cv tv1 tv2 W2 w')) hb2 hu2 p1 p0 (by rw [m0, m1]; decide) (by rw [m1]; exact (ok6 v4 v5).1) (by rw [m0]; exact (ok6 v4 v5).2) (by rw [m1]; exact (siz6 v4 v5).1) (by rw [m0]; exact (siz6 v4 v5).2) (by rw [m1]; rfl) (by rw [m0]; show (2 : Int) ≠ 1; decide) ?_
      intro W3 hW3
      rw [m0, m1]
      refine (become_ok t b hi cv (cs6 v4 v5) tv1 1 1 2 3 W3 (hb2.below (hW3.mono hb2.hil)) (hu2.below hW3) hht (by omega) (by simp [cs6]) (okv6 v4 v5).1 (okv6 v4 v5).2).mono ?_
      rintro e w' ⟨h1, h2, tv', h3, h4⟩
      exact ⟨h1, h2, tv', h3, (Urel.of hW3).trans h4⟩
  · rintro e w' ⟨h1, h2, h3⟩
    exact ⟨h1, h2, (hbel.mono (Nat.le_of_lt hb.old)).trans h3⟩
theorem text_ok (b hi : Nat) (cv v4 v5 : Value) (w : World) (hb : Bk b hi w cv (cs7 v4 v5)) :
    Calls Tryz.prog 15 #[.pointer (some ⟨b, 0, none⟩), .int .i64 3] w fun e w' => e = .returned (.tuple #[.string ⟨#[105, 110, 116, 32, 45, 62, 32, 105, 110, 116]⟩, .int .i64 0]) ∧ Below w.heap.size w w' := by
  obtain ⟨g0, g1, g2, g3, g4⟩ := good7 v4 v5
  obtain ⟨n0, n1, n3⟩ := nw7 v4 v5
  exact text_arrow b hi cv (cs7 v4 v5) 3 0 1 3 v4 w hb g3 (by rw [n3]; rfl) g0 g1 (by rw [n0]; rfl) (by rw [n1]; rfl) (ok7 v4 v5) (siz7 v4 v5) (okv7 v4 v5)

set_option maxRecDepth 100000 in
set_option maxHeartbeats 16000000 in
theorem alive_any (w : World) : Calls Tryz.prog 23 #[] w fun e w' => e = .returned (.bool true) ∧ Below w.heap.size w w' := by
  have CN := hide' (new_any w)
  go_enter Tryz.func23, Tryz.ntmps23
  go_upto_region 4 with (go_at_call 52; refine CN.out.mono ?_; clear CN; rintro e w1 ⟨b, rfl, hwb, ⟨cv1, k1⟩, b1⟩)
  have C1 := hide' (var_any b _ cv1 [] w1 k1 (by simp))
  have HB1 := hide' b1
  have hs1 := b1.size
  clear k1 b1
  go_upto_region 5 with (go_at_call 5; refine C1.out.mono ?_; clear C1; rintro e w2 ⟨rfl, ⟨cv2, k2⟩, b2⟩)
  have C2 := hide' (var_any b _ cv2 _ w2 k2 (by simp))
  have HB2 := hide' (HB1.out.trans (b2.mono hwb))
  clear k2 b2 HB1
  go_upto_region 6 with (go_at_call 5; refine C2.out.mono ?_; clear C2; rintro e w3 ⟨rfl, ⟨cv3, k3⟩, b3⟩)
  have C3 := hide' (apply_int b _ cv3 _ w3 k3 (by simp))
  have HB3 := hide' (HB2.out.trans (b3.mono hwb))
  clear k3 b3 HB2
  go_upto_region 7 with (go_at_call 7; refine C3.out.mono ?_; clear C3; rintro e w4 ⟨rfl, ⟨cv4, k4⟩, b4⟩)
  have C4 := hide' (arrow_any b _ cv4 _ 0 1 3 w4 k4 (by simp) ⟨by omega, by simp⟩ ⟨by omega, by simp⟩ (by simp [Ok, Good, nw, kindA, toA, argsA, tVar, tInt]) (by simp [Ok, Good, nw, kindA, toA, argsA, tVar, tInt]) (by simp [sizes, siz, nw, kindA, toA, argsA, tVar, tInt]))
  have HB4 := hide' (HB3.out.trans (b4.mono hwb))
  clear k4 b4 HB3
  go_upto_region 8 with (go_at_call 8; refine C4.out.mono ?_; clear C4; rintro e w5 ⟨rfl, ⟨cv5, av5, k5⟩, b5⟩)
  have C5 := hide' (arrow_any b _ cv5 _ 2 0 3 w5 k5 (by simp) ⟨by omega, by simp⟩ ⟨by omega, by simp⟩ (by simp [Ok, Good, nw, kindA, toA, argsA, tVar, tInt, tArrow]) (by simp [Ok, Good, nw, kindA, toA, argsA, tVar, tInt, tArrow]) (by simp [sizes, siz, nw, kindA, toA, argsA, tVar, tInt, tArrow]))
  have HB5 := hide' (HB4.out.trans (b5.mono hwb))
  clear k5 b5 HB4
  go_upto_region 9 with (go_at_call 8; refine C5.out.mono ?_; clear C5; rintro e w6 ⟨rfl, ⟨cv6, av6, k6⟩, b6⟩)
  have HB6 := hide' (HB5.out.trans (b6.mono hwb))
  have C6 := hide' (first_no b _ cv6 av5 av6 w6 k6)
  clear k6 b6 HB5
  go_upto_region 11 with (first | (go_at_call 18; refine C6.out.mono ?_; clear C6; rintro e w7 ⟨rfl, k7, b7⟩; (have C7 := hide' (second_ok b _ cv6 av5 av6 w7 k7))) | (go_at_call 18; refine C7.out.mono ?_; clear C7; rintro e w8 ⟨rfl, k8, b8⟩))
  have C8 := hide' (text_ok b _ cv6 av5 av6 w8 k8)
  have HB8 := hide' ((HB6.out.trans (b7.mono hwb)).trans (b8.mono hwb))
  clear k7 k8 b7 b8
  go_wp2_with (go_at_call 15; refine C8.out.mono ?_; clear C8; rintro e w9 ⟨rfl, b9⟩)
  go_ret
  exact ⟨rfl, HB8.out.trans (b9.mono HB8.out.size)⟩
end Go.Proofs.YtlijfkmcaccflaaGreatDoor
