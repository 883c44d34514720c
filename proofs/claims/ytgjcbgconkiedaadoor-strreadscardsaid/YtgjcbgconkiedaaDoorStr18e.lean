/- The document's own reader of an escape, for every text and place. -/
import Derived.Test.YtgjcbgconkiedaaDoorProg
import Derived.Test.YtgjcbgconkiedaaDoorStr13
import Derived.Test.YtgjcbgconkiedaaDoorStr18a
import Derived.Test.YtgjcbgconkiedaaDoorStr18b
import Derived.Test.YtgjcbgconkiedaaDoorStr18c
import Derived.Test.YtgjcbgconkiedaaDoorStr18d
import Derived.WalkKit
import Derived.ProofKit
import Derived.OpenShut
import Derived.Below
import Derived.WalkLawsBesides
import Derived.OwnWalk
import Derived.Lib.IndexBytes
namespace Go.Proofs.YtgjcbgconkiedaaDoor
open Go.ChangeShapes Go.WideShapes Go.ChangeAt Go.RowKit
set_option linter.unusedVariables false

theorem resc_any (s : ByteArray) (p : Nat) (w : World) (x : Int) (k : Nat) (hx : escP (s.data.toList.drop p) = (x, k)) (hs : s.size ≤ 281474976710656) (hp : p ≤ s.size) : Calls Tryd.prog 34 #[.string s, .int .i64 (p : Int)] w fun e w' => e = .returned (.tuple #[.int .i64 x, .int .i64 (k : Int)]) ∧ w' = w := by
  by_cases h0 : p < s.size
  · obtain ⟨n, hn⟩ : ∃ n, (s[p]'h0).toNat = n := ⟨_, rfl⟩
    by_cases a1 : n = 97
    · exact resc_l0 s p n w x k hx hs h0 hn a1
    by_cases a2 : n = 98
    · exact resc_l1 s p n w x k hx hs h0 hn a2
    by_cases a3 : n = 116
    · exact resc_l2 s p n w x k hx hs h0 hn a3
    by_cases a4 : n = 110
    · exact resc_l3 s p n w x k hx hs h0 hn a4
    by_cases a5 : n = 118
    · exact resc_l4 s p n w x k hx hs h0 hn a5
    by_cases a6 : n = 102
    · exact resc_l5 s p n w x k hx hs h0 hn a6
    by_cases a7 : n = 114
    · exact resc_l6 s p n w x k hx hs h0 hn a7
    by_cases a8 : n = 34
    · exact resc_q34 s p n w x k hx hs h0 hn a8
    by_cases a9 : n = 92
    · exact resc_q92 s p n w x k hx hs h0 hn a9
    by_cases b1 : n = 94
    · by_cases c1 : p + 1 < s.size
      · by_cases c2 : (s[p + 1]'c1).toNat < 64
        · exact resc_c1 s p n w x k hx hs h0 hn b1 c1 c2
        · by_cases c3 : 95 < (s[p + 1]'c1).toNat
          · exact resc_c2 s p n w x k hx hs h0 hn b1 c1 c3
          · exact resc_c3 s p n w x k hx hs h0 hn b1 c1 ⟨by omega, by omega⟩
      · exact resc_c0 s p n w x k hx hs h0 hn b1 c1
    by_cases b2 : n = 117
    · by_cases c1 : numP (s.data.toList.drop (p + 1)) 4 16 < 0
      · exact resc_u0 s p n w x k hx hs h0 hn b2 c1
      · exact resc_u1 s p n w x k hx hs h0 hn b2 c1
    by_cases b3 : 48 ≤ n ∧ n ≤ 57
    · by_cases c1 : numP (s.data.toList.drop p) 3 10 < 0
      · exact resc_d0 s p n w x k hx hs h0 hn b3 c1
      · exact resc_d1 s p n w x k hx hs h0 hn b3 c1
    by_cases b4 : n < 48
    · exact resc_low s p n w x k hx hs h0 hn b4 a8
    · exact resc_high s p n w x k hx hs h0 hn (by omega) ⟨a9, b1, b2⟩ ⟨a1, a2, a3, a4, a5, a6, a7⟩
  · rw [drop_end s p h0] at hx
    obtain ⟨rfl, rfl⟩ := Prod.mk.inj (show ((-1 : Int), 0) = (x, k) from hx)
    have h1 : p = s.size := by omega
    clear hx
    go_enter Tryd.func34, Tryd.ntmps34
    go_wp2
    go_ret2
    exact ⟨rfl, rfl⟩
end Go.Proofs.YtgjcbgconkiedaaDoor
