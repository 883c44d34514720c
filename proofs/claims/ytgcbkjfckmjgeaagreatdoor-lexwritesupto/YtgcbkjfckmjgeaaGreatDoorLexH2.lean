/- The document's scanner: what a string says. -/
import Derived.Test.YtgcbkjfckmjgeaaGreatDoorProg
import Derived.Test.YtgcbkjfckmjgeaaGreatDoorLexH1
import Derived.Test.YtgcbkjfckmjgeaaGreatDoorLex4
import Derived.Test.YtgcbkjfckmjgeaaGreatDoorLexD9
import Derived.WalkKit
import Derived.ProofKit
import Derived.OpenShut
import Derived.Below
import Derived.WalkLawsBesides
import Derived.OwnWalk
import Derived.Laws.IdiomStrings
import Derived.Laws.OwnMore
import Derived.BigQuiet
import Derived.Lib.IndexBytes
import Derived.Deep.MidRow
import Derived.Deep.RegionHeld3
namespace Go.Proofs.YtgcbkjfckmjgeaaGreatDoor
open Go.ChangeShapes Go.WideShapes Go.ChangeAt Go.RowKit

/-- What is said from a place in a string on that begins at place b. -/
def QuoBt (Q : Option (List UInt8 × Nat)) (s : ByteArray) (b : Nat) (acc : List UInt8) (i : Nat) : Prop := ∃ f, b ≤ i ∧ (s.data.toList.drop i).length ≤ f ∧ Q = quoF f (i - b) acc (s.data.toList.drop i)
theorem QuoBt.none {Q : Option (List UInt8 × Nat)} {s : ByteArray} {acc : List UInt8} {b i : Nat} (h : QuoBt Q s b acc i) (hi : s.size ≤ i) : Q = Option.none := by
  obtain ⟨f, _, _, hQ⟩ := h
  rw [List.drop_eq_nil_of_le (by rw [size_list]; exact hi)] at hQ
  cases f <;> exact hQ
theorem QuoBt.step {Q : Option (List UInt8 × Nat)} {s : ByteArray} {acc : List UInt8} {b i : Nat} (h : QuoBt Q s b acc i) (hi : i < s.size) :
    ((s[i]'hi).toNat = 34 → Q = some (acc, i - b + 1)) ∧ ((s[i]'hi).toNat ≠ 34 → (oneP (s.data.toList.drop i)).2 = 0 → Q = Option.none)
    ∧ ((s[i]'hi).toNat ≠ 34 → (oneP (s.data.toList.drop i)).2 ≠ 0 → QuoBt Q s b (acc ++ (if (oneP (s.data.toList.drop i)).1 < 0 then [] else [(oneP (s.data.toList.drop i)).1.toNat.toUInt8])) (i + (oneP (s.data.toList.drop i)).2)) := by
  obtain ⟨f, hb0, hf, hQ⟩ := h
  have d1 := drop_at s i hi
  rw [d1] at hf hQ ⊢
  obtain ⟨f, rfl⟩ : ∃ g, f = g + 1 := ⟨f - 1, by simp at hf; omega⟩
  unfold quoF at hQ
  refine ⟨fun x => ?_, fun x y => ?_, fun x y => ?_⟩
  · rw [if_pos x] at hQ; exact hQ
  · rw [if_neg x, if_pos (by rw [(oneP_step _ _ x).1]; exact y)] at hQ; exact hQ
  · have o := oneP_step _ (s.data.toList.drop (i + 1)) x
    rw [if_neg x, if_neg (by rw [o.1]; exact y), o.1, o.2, if_neg y] at hQ
    have hb := (oneP_bd (s[i] :: s.data.toList.drop (i + 1))).2.2
    simp only [List.length_cons] at hf hb
    generalize oneP (s[i] :: s.data.toList.drop (i + 1)) = K at *
    refine ⟨f, by omega, ?_, ?_⟩
    · rw [← List.drop_drop, d1, List.length_drop]
      simp only [List.length_cons]
      omega
    · rw [← List.drop_drop, d1, show i + K.2 - b = i - b + K.2 by omega]
      exact hQ
theorem QuoBt.start (s : ByteArray) (b : Nat) : QuoBt (quoN (s.data.toList.drop b)) s b [] (b + 1) := by
  refine ⟨(s.data.toList.drop b).length, by omega, ?_, ?_⟩
  · rw [List.length_drop, List.length_drop]; omega
  · unfold quoN
    rw [List.drop_drop, show b + 1 - b = 1 by omega]

/-- What text answers. -/
def TexV (q : Nat) (Q : Option (List UInt8 × Nat)) (e : Ending) : Prop := match Q with
  | none => ∃ t n, e = .returned (.tuple #[.string t, .int .i64 n, .bool false])
  | some (t, n) => e = .returned (.tuple #[.string ⟨t.toArray⟩, .int .i64 ((q + n : Nat) : Int), .bool true])
theorem wrap_small {i : Nat} (h : i ≤ 1048576) : IntKind.i64.wrap ((i : Int) + 1) = (i : Int) + 1 := by
  simp [IntKind.wrap, IntKind.bits, IntKind.signed]
  omega
theorem results_tmp3 {fn : Func} {t u v : Tmp} (h : fn.results = #[.tmp t, .tmp u, .tmp v]) (tmps : Array Value) (P : Program) (w : World) :
    (results fn tmps).run P w = .ok (.tuple #[tmps.getD t undef, tmps.getD u undef, tmps.getD v undef]) w := by
  simp [results, h]
theorem texV_some {q n : Nat} {acc : List UInt8} {tx : ByteArray} {e : Ending} {k : Int} (h : ByteArray.mk acc.toArray = tx) (hk : ((q + n : Nat) : Int) = k) (he : e = .returned (.tuple #[.string tx, .int .i64 k, .bool true])) : TexV q (some (acc, n)) e := by subst h hk; exact he
theorem oneP_esc {l : List UInt8} (h : l.head? = some 92) : (oneP l).2 = (escR l).2 ∧ ((oneP l).2 ≠ 0 → (oneP l).1 = (escR l).1) := by
  cases l with
  | nil => simp at h
  | cons c r =>
    obtain rfl : c = 92 := by simpa using h
    rw [oneP_cons]
    unfold escR
    rw [if_neg (by decide), if_neg (by decide)]
    simp only [List.drop_succ_cons, List.drop_zero]
    split
    · exact ⟨rfl, fun x => absurd rfl x⟩
    · exact ⟨rfl, fun _ => rfl⟩

set_option maxRecDepth 100000 in
set_option maxHeartbeats 16000000 in
theorem rtext_any (b : Nat) (s : ByteArray) (p fr : Nat) (w : World) (h : IsSc w b s p) (hp : p + fr < s.size) : Calls Tryz.prog 70 #[.pointer (some ⟨b, 0, none⟩), .int .i64 (fr : Int)] w fun e w' => TexV (p + fr) (quoN (s.data.toList.drop (p + fr))) e ∧ Below w.heap.size w w' := by
  obtain ⟨i0, hi, hz0, hz1, hz2⟩ := info_parts infoByte
  have HS := hide h
  have hs := h.small
  obtain ⟨c0, c1, _, _, _⟩ := h
  have HST := QuoBt.start s (p + fr)
  obtain ⟨q, hq⟩ : ∃ q, p + fr = q := ⟨_, rfl⟩
  rw [hq] at HST hp ⊢
  obtain ⟨Q, HQ⟩ : ∃ Q, quoN (s.data.toList.drop q) = Q := ⟨_, rfl⟩
  rw [HQ] at HST ⊢
  have HS0 := hide HST
  have hqi : (p : Int) + (fr : Int) = (q : Int) := by omega
  have hqb : q ≤ 1048576 := by omega
  clear HQ HST hq
  go_enter Tryz.func70, Tryz.ntmps70
  go_wp2
  clear c0 c1
  go_loopw [7, 8] (fun vs vi wr => ∃ (i : Nat) (acc : List UInt8), vi = .int .i64 (i : Int) ∧ i ≤ s.size ∧ q < i ∧ Hid (acc.length ≤ i ∧ QuoBt Q s q acc i ∧ Own w.heap.size vs acc wr) ∧ Below w.heap.size w wr) (fun _ vi _ => s.size - (intOf vi).toNat)
  case atStart => exact ⟨q + 1, [], by go_num, by omega, by omega, ⟨Nat.zero_le _, HS0.out, own_nil _ _⟩, Below.refl _ _⟩
  case round =>
    obtain ⟨i, acc, rfl, hil, hqi2, HI, bel⟩ := hrel
    obtain ⟨hal, hq, hown⟩ := HI.out
    have HO := hide hown
    obtain ⟨AL, eAL⟩ : ∃ k, acc.length = k := ⟨_, rfl⟩
    have EL := hide eAL
    rw [eAL] at hal
    obtain ⟨ao, cap, hvp⟩ := own_slice hown
    subst hvp
    rw [eAL] at HO ⊢
    have bsz := bel.size
    have hcv := own_string HO.out
    obtain ⟨tx, htx⟩ : ∃ tx : ByteArray, ByteArray.mk acc.toArray = tx := ⟨_, rfl⟩
    rw [htx] at hcv
    have hcv2 : (convert 65 9 (.slice ao AL cap)).run Tryz.prog wr.drew = .ok (.string tx) wr.drew := by rw [← htx]; exact own_string (own_below HO.out (below_drew _ _ _))
    have HTX := hide htx
    have HSW := hide (HS.out.below bel)
    obtain ⟨c0, c1, _, _, _⟩ := HS.out.below bel
    clear HS0 HI hown eAL htx
    by_cases h1 : i < s.size
    · have ST := hide (hq.step h1)
      obtain ⟨c, hc⟩ : ∃ c, s[i]'h1 = c := ⟨_, rfl⟩
      obtain ⟨n, hn⟩ : ∃ n, c.toNat = n := ⟨_, rfl⟩
      have hcn : (s[i]'h1).toNat = n := by rw [hc, hn]
      have hn2 : n < 256 := by rw [← hn]; exact c.toNat_lt
      have hdc := drop_at s i h1
      rw [hc] at hdc
      rw [hcn] at ST
      clear hq
      by_cases h34 : n = 34
      · have HE : Hid (Q = some (acc, i - q + 1)) := ST.out.1 h34
        subst h34
        clear ST hc hn hdc
        go_wp2
        go_region_with (fail)
        all_goals
          go_wp2
          refine bodyPost_ret (results_tmp3 rfl _ _ _) rfl ?_
          rw [HE.out]
          refine ⟨texV_some (k := IntKind.i64.wrap ((i : Int) + 1)) HTX.out ?_ rfl, below_drewN bel _⟩
          rw [wrap_small (i := i) (by omega)]
          omega
      · have g34 : ((n : Int) != 34) = true := by simp; omega
        by_cases h92 : n = 92
        · obtain ⟨t, ht⟩ : ∃ t, s.extract i s.size = t := ⟨_, rfl⟩
          have hl : t.data.toList = s.data.toList.drop i := by rw [← ht]; exact ext_list s i
          have hts := sub_size hl
          have hO := oneP_esc (l := s.data.toList.drop i) (by rw [hdc]; simp; exact UInt8.toNat_inj.1 (by rw [hn, h92]; rfl))
          have hbd := oneP_bd (s.data.toList.drop i)
          have CE := hide (fun W => resc_any t (by omega) W)
          rw [hl] at CE
          have ST2 := hide ST.out.2
          obtain ⟨x, k, hxk⟩ : ∃ x k, escR (s.data.toList.drop i) = (x, k) := ⟨_, _, rfl⟩
          rw [hxk] at hO CE
          simp only at hO CE
          rw [List.length_drop, size_list, hO.1] at hbd
          rw [hO.1] at ST2
          obtain ⟨bd1, bd2, bd3⟩ := hbd
          subst h92
          clear ST hc hn hdc hl hxk
          by_cases hk0 : k = 0
          · have HE : Hid (Q = none) := ST2.out.1 h34 hk0
            subst hk0
            clear ST2 h34 hO bd1 bd2
            go_wp2_with (go_at_call 82; refine (CE.out _).mono ?_; rintro e w1 ⟨rfl, b1⟩)
            refine bodyPost_ret (results_tmp3 rfl _ _ _) rfl ?_
            rw [HE.out]
            exact ⟨⟨_, _, rfl⟩, bel.trans (b1.mono bsz)⟩
          · have gk : ((k : Int) == 0) = false := by simp; omega
            have HE := hide (ST2.out.2 h34 hk0)
            have hx := hO.2 (by rw [hO.1]; exact hk0)
            rw [hx] at HE bd1 bd2
            clear ST2 h34 hO hx
            have hk1 : 1 ≤ k := by omega
            by_cases hx0 : x < 0
            · rw [if_pos hx0, List.append_nil] at HE
              obtain rfl : x = -1 := by omega
              clear hk0
              go_wp2_with (go_at_call 82; refine (CE.out _).mono ?_; rintro e w1 ⟨rfl, b1⟩)
              go_roundw
              case rel => exact ⟨i + k, acc, by go_num, by omega, by omega, ⟨by rw [EL.out]; omega, HE.out, own_below HO.out b1⟩, bel.trans (b1.mono bsz)⟩
              case measure => simp [intOf]; omega
            · rw [if_neg hx0] at HE
              have hx1 : 0 ≤ x := by omega
              have gx : decide (x ≥ 0) = true := by simp; omega
              clear hk0 hx0
              go_wp2_with (first | (go_at_call 82; refine (CE.out _).mono ?_; rintro e w1 ⟨rfl, b1⟩; have S1 := b1.size; have B1 := bel.trans (b1.mono bsz); have HW := hide (own_row (own_below HO.out b1) EL.out)) | (at_builtin; refine wpList_append_own _ rfl _ _ 65 rfl w.heap.size 5 i0 (.int .u8 0) 1 1 Tryz.underlying65 hi hz0 hz1 hz2 rfl (by decide) _ AL _ rfl (HW.out.alloc _) ⟨_, 0, none⟩ 1 1 [.int .u8 x] rfl rfl (cells_new _ _ _) (by simp [Value.oneCell']) (by unfold maxLen; omega) (by omega) (by simp; omega) ?_; intro v1 w2 o1 g1 _; have H1 := hide o1; clear o1))
              go_roundw
              case rel => exact ⟨i + k, _, by go_num, by omega, by omega, ⟨by rw [List.length_append, EL.out]; simp; omega, HE.out, own_snoc EL.out (by congr 1; simp; omega) H1.out⟩, (B1.alloc (by omega) _).grown g1 (by simp; omega) (fun j hj => (HW.out.lt j hj).1)⟩
              case measure => simp [intOf]; omega
        · have g92 : ((n : Int) != 92) = true := by simp; omega
          have ST2 := hide ST.out.2
          rw [hdc, oneP_cons, hn] at ST2
          clear ST hc hdc
          by_cases hlo : n < 32 ∨ 126 < n
          · rw [if_pos hlo] at ST2
            have HE : Hid (Q = none) := ST2.out.1 h34 rfl
            clear ST2 h34 h92
            rcases hlo with hlo | hlo
            all_goals
              go_wp2
              refine bodyPost_ret (results_tmp3 rfl _ _ _) rfl ?_
              rw [HE.out]
              exact ⟨⟨_, _, rfl⟩, bel⟩
          · rw [if_neg hlo, if_pos h92] at ST2
            have HE := hide (ST2.out.2 h34 (by simp))
            rw [if_neg (show ¬ ((n : Int) < 0) by omega)] at HE
            have HCN := hide hn
            have ha : ¬ n < 32 := by omega
            have hb : ¬ 126 < n := by omega
            have HW := hide (own_row HO.out EL.out)
            clear ST2 h34 h92 hlo hn
            go_wp2_with (at_builtin; refine wpList_append_own _ rfl _ _ 65 rfl w.heap.size 5 i0 (.int .u8 0) 1 1 Tryz.underlying65 hi hz0 hz1 hz2 rfl (by decide) _ AL _ rfl (HW.out.alloc _) ⟨_, 0, none⟩ 1 1 [.int .u8 (n : Int)] rfl rfl (cells_new _ _ _) (by simp [Value.oneCell']) (by unfold maxLen; omega) (by omega) (by simp; omega) ?_; intro v1 w2 o1 g1 _; have H1 := hide o1; clear o1)
            go_roundw
            case rel => exact ⟨i + 1, _, by go_num, by omega, by omega, ⟨by rw [List.length_append, EL.out]; simp; omega, HE.out, own_snoc EL.out (by congr 1; simp; omega) H1.out⟩, (bel.alloc (by omega) _).grown g1 (by simp; omega) (fun j hj => (HW.out.lt j hj).1)⟩
            case measure => simp [intOf]; omega
    · have HE : Hid (Q = none) := hq.none (by omega)
      obtain rfl : i = s.size := by omega
      clear hq
      go_wp2
      go_region_with (fail)
      all_goals
        go_wp2
        refine bodyPost_ret (results_tmp3 rfl _ _ _) rfl ?_
        rw [HE.out]
        exact ⟨⟨_, _, rfl⟩, below_drewN bel _⟩
end Go.Proofs.YtgcbkjfckmjgeaaGreatDoor
