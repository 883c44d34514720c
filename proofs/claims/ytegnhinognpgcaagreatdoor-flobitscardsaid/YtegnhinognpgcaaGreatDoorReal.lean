/- The reference's Real is the real of its bits, for every finite word. -/
import Derived.Test.YtegnhinognpgcaaGreatDoorRealM
import Derived.Test.YtegnhinognpgcaaGreatDoorAw4
namespace Go.Proofs.YtegnhinognpgcaaGreatDoor
open Go.ChangeShapes Go.WideShapes Go.ChangeAt Go.RowKit
open Ieee

theorem u64_mask11 (a : Nat) (ha : a < 18446744073709551616) : bits .and .u64 (a : Int) 2047 = ((a % 2048 : Nat) : Int) := by
  have h := u64_and a 2047 ha (by decide)
  rw [show ((2047 : Nat) : Int) = 2047 from rfl] at h
  rw [h, show (2047 : Nat) = 2 ^ 11 - 1 by decide, Nat.and_two_pow_sub_one_eq_mod]
theorem u64_mask52 (a : Nat) (ha : a < 18446744073709551616) : bits .and .u64 (a : Int) 4503599627370495 = ((a % 4503599627370496 : Nat) : Int) := by
  have h := u64_and a 4503599627370495 ha (by decide)
  rw [show ((4503599627370495 : Nat) : Int) = 4503599627370495 from rfl] at h
  rw [h, show (4503599627370495 : Nat) = 2 ^ 52 - 1 by decide, Nat.and_two_pow_sub_one_eq_mod]
theorem u64_or52 (m : Nat) (h : m < 4503599627370496) : bits .or .u64 (m : Int) 4503599627370496 = ((m + 4503599627370496 : Nat) : Int) := by
  have h1 := u64_or m 4503599627370496 (by omega) (by decide)
  rw [show ((4503599627370496 : Nat) : Int) = 4503599627370496 from rfl] at h1
  rw [h1, or_bit h]

theorem float_nat (n : Nat) : floatOfInt .f64 (n : Int) = wordD false (nearR n 0) := by
  have h := write_number (decide ((n : Int) < 0)) (n : Int).natAbs 0
  rw [decide_eq_false (by omega : ¬ (n : Int) < 0), Int.natAbs_natCast] at h
  have e : floatOfInt .f64 (n : Int) = double.write (.number (decide ((n : Int) < 0)) (n : Int).natAbs 0) := rfl
  rw [e, decide_eq_false (by omega : ¬ (n : Int) < 0), Int.natAbs_natCast]
  exact h

theorem flip_false {r : Nat} (h : r < 9218868437227405312) : flip (wordD false r) = wordD true r := flip_wordD (by omega)

set_option maxHeartbeats 4000000 in
theorem real_any (u : Nat) (hu : u < 18446744073709551616) (hf : rung u < 9218868437227405312) (w : World) : Calls Tryz.prog 16 #[.int .u64 (u : Int)] w fun e w' => e = .returned (.float .f64 u) ∧ w' = w := by
  obtain ⟨f1, f2⟩ := fields u
  have b1 : bits .and .u64 ((u : Int) / 4503599627370496) 2047 = ((rung u / 4503599627370496 : Nat) : Int) := by
    have := u64_mask11 (u / 4503599627370496) (by omega)
    rw [f1] at this
    rw [← this]
    rfl
  have b2 : bits .and .u64 (u : Int) 4503599627370495 = ((rung u % 4503599627370496 : Nat) : Int) := by rw [u64_mask52 u hu, f2]
  have b3 := u64_and_sign u hu
  have ws := hide (word_self hu)
  obtain ⟨ρ, eρ⟩ : ∃ ρ, rung u = ρ := ⟨_, rfl⟩
  rw [eρ] at b1 b2 ws hf
  clear f1 f2
  have cv := fun (n : Nat) (w : World) => run_convert_int_float (P := Tryz.prog) w 22 23 .u64 .f64 (n : Int) (by rw [Tryz.underlying22]; rfl) Tryz.underlying23
  rcases Nat.lt_or_ge ρ 4503599627370496 with hs | hb
  · have d0 : ρ / 4503599627370496 = 0 := by omega
    have d1 : ρ % 4503599627370496 = ρ := by omega
    rw [d0] at b1
    rw [d1] at b2
    have cv' := cv ρ
    have fn := float_nat ρ
    rw [(start_sub hs).1] at fn
    rw [fn] at cv'
    have st := hide (start_sub hs).2
    clear cv fn d0 d1
    go_enter Tryz.func16, Tryz.ntmps16
    go_wp2
    go_loop [6, 5] (fun x p => x = .float .f64 (wordD false (dblN 1074 ρ)) ∧ p = .int .i64 (-1074)) (fun _ _ => 0)
    case atStart => exact ⟨rfl, rfl⟩
    case round =>
      obtain ⟨rfl, rfl⟩ := hrel
      go_wp2
      go_loop [6, 5] (fun x p => ∃ n : Nat, x = .float .f64 (wordD false (dblN n ρ)) ∧ p = .int .i64 (-(n : Int)) ∧ n ≤ 1074 ∧ dblN n ρ < 9218868437227405312) (fun _ p => (intOf p).natAbs)
      case atStart => exact ⟨1074, rfl, rfl, Nat.le_refl _, st.out⟩
      case round =>
        obtain ⟨n, rfl, rfl, hn, hlt⟩ := hrel
        cases n with
        | zero =>
          have z0 : dblN 0 ρ = ρ := rfl
          rw [z0]
          have un := unOp_negf (wordD false ρ) (wordD_lt (by omega))
          rw [flip_false hf] at un
          cases s : sgnB u
          · rw [s] at b3 ws
            rw [if_neg (by simp)] at b3
            go_wp2
            go_ret
            exact ⟨ret_float ws.out, rfl⟩
          · rw [s] at b3 ws
            rw [if_pos rfl] at b3
            go_wp2
            go_ret
            exact ⟨ret_float ws.out, rfl⟩
        | succ n =>
          have hd := dblN_succ n ρ
          have hv := div_two (r := dblN n ρ) (by rw [← hd]; exact hlt)
          rw [← hd] at hv
          have hq := fun (t : TypeId) (w : World) => run_float_arith (P := Tryz.prog) w .quo t .f64 _ _ _ hv
          have hlt' : Hid (dblN n ρ < 9218868437227405312) := by have := dblR_ge (dblN n ρ); exact hide (by omega)
          clear hd hv
          obtain ⟨X, eX⟩ : ∃ X, wordD false (dblN (n + 1) ρ) = X := ⟨_, rfl⟩
          rw [eX] at hq ⊢
          go_wp2
          go_round
          case rel => exact ⟨n, rfl, by go_num, by omega, hlt'.out⟩
          case measure => simp [intOf]; omega
  · obtain ⟨e, he⟩ : ∃ e, ρ / 4503599627370496 = e := ⟨_, rfl⟩
    obtain ⟨m, hm⟩ : ∃ m, ρ % 4503599627370496 = m := ⟨_, rfl⟩
    rw [he] at b1
    rw [hm] at b2
    have hm2 : m < 4503599627370496 := by omega
    have he1 : 1 ≤ e := by omega
    have he2 : e ≤ 2046 := by omega
    have hρ : ρ = e * 4503599627370496 + m := by omega
    have b4 := u64_or52 m hm2
    have cv' := cv (m + 4503599627370496)
    have fn := float_nat (m + 4503599627370496)
    have HR := hide hρ
    clear cv he hm hb hρ
    obtain ⟨M, eM⟩ : ∃ M, m + 4503599627370496 = M := ⟨_, rfl⟩
    rw [eM] at b4 cv' fn
    rcases Nat.lt_or_ge e 1075 with hn | hp
    · obtain ⟨n, hn'⟩ : ∃ n, n + e = 1075 := ⟨1075 - e, by omega⟩
      obtain ⟨s1, s2⟩ := start_neg he1 hm2 hn'
      rw [← HR.out, eM] at s1
      rw [← HR.out] at s2
      rw [s1] at fn
      rw [fn] at cv'
      have st := hide s2
      have pe : (e : Int) - 1075 = -(n : Int) := by omega
      have hn0 : 0 < n := by omega
      have hn1 : n ≤ 1074 := by omega
      clear s1 s2 fn eM hn' hn
      go_enter Tryz.func16, Tryz.ntmps16
      go_wp2
      go_loop [6, 5] (fun x p => x = .float .f64 (wordD false (dblN n ρ)) ∧ p = .int .i64 (-(n : Int))) (fun _ _ => 0)
      case atStart => exact ⟨rfl, by go_num⟩
      case round =>
        obtain ⟨rfl, rfl⟩ := hrel
        go_wp2
        go_loop [6, 5] (fun x p => ∃ n : Nat, x = .float .f64 (wordD false (dblN n ρ)) ∧ p = .int .i64 (-(n : Int)) ∧ n ≤ 1074 ∧ dblN n ρ < 9218868437227405312) (fun _ p => (intOf p).natAbs)
        case atStart => exact ⟨n, rfl, rfl, hn1, st.out⟩
        case round =>
          obtain ⟨n, rfl, rfl, hn, hlt⟩ := hrel
          cases n with
          | zero =>
            have z0 : dblN 0 ρ = ρ := rfl
            rw [z0]
            have un := unOp_negf (wordD false ρ) (wordD_lt (by omega))
            rw [flip_false hf] at un
            cases s : sgnB u
            · rw [s] at b3 ws
              rw [if_neg (by simp)] at b3
              go_wp2
              go_ret
              exact ⟨ret_float ws.out, rfl⟩
            · rw [s] at b3 ws
              rw [if_pos rfl] at b3
              go_wp2
              go_ret
              exact ⟨ret_float ws.out, rfl⟩
          | succ n =>
            have hd := dblN_succ n ρ
            have hv := div_two (r := dblN n ρ) (by rw [← hd]; exact hlt)
            rw [← hd] at hv
            have hq := fun (t : TypeId) (w : World) => run_float_arith (P := Tryz.prog) w .quo t .f64 _ _ _ hv
            have hlt' : Hid (dblN n ρ < 9218868437227405312) := by have := dblR_ge (dblN n ρ); exact hide (by omega)
            clear hd hv
            obtain ⟨X, eX⟩ : ∃ X, wordD false (dblN (n + 1) ρ) = X := ⟨_, rfl⟩
            rw [eX] at hq ⊢
            go_wp2
            go_round
            case rel => exact ⟨n, rfl, by go_num, by omega, hlt'.out⟩
            case measure => simp [intOf]; omega
    · obtain ⟨n, hn'⟩ : ∃ n, e = n + 1075 := ⟨e - 1075, by omega⟩
      have s1 := start_pos hm2 hn'
      rw [← HR.out, eM] at s1
      rw [fn] at cv'
      obtain ⟨r0, er⟩ : ∃ r, nearR M 0 = r := ⟨_, rfl⟩
      rw [er] at cv' s1
      have st := hide s1
      have pe : (e : Int) - 1075 = (n : Int) := by omega
      have hn1 : n ≤ 1000 := by omega
      clear s1 fn er eM hn' hp
      go_enter Tryz.func16, Tryz.ntmps16
      go_wp2
      go_loop [6, 5] (fun x p => ∃ (k : Nat) (r : Nat), x = .float .f64 (wordD false r) ∧ p = .int .i64 (k : Int) ∧ k ≤ 1000 ∧ dblN k r = ρ) (fun _ p => (intOf p).natAbs)
      case atStart => exact ⟨n, r0, rfl, by go_num, hn1, st.out⟩
      case round =>
        obtain ⟨k, r, rfl, rfl, hk, hd⟩ := hrel
        cases k with
        | zero =>
          have hr : r = ρ := hd
          rw [hr]
          clear hd hr
          go_wp2
          go_loop [6, 5] (fun x p => ∃ n : Nat, x = .float .f64 (wordD false (dblN n ρ)) ∧ p = .int .i64 (-(n : Int)) ∧ n ≤ 1074 ∧ dblN n ρ < 9218868437227405312) (fun _ p => (intOf p).natAbs)
          case atStart => exact ⟨0, rfl, rfl, by omega, hf⟩
          case round =>
            obtain ⟨n, rfl, rfl, hn, hlt⟩ := hrel
            cases n with
            | zero =>
              have z0 : dblN 0 ρ = ρ := rfl
              rw [z0]
              have un := unOp_negf (wordD false ρ) (wordD_lt (by omega))
              rw [flip_false hf] at un
              cases s : sgnB u
              · rw [s] at b3 ws
                rw [if_neg (by simp)] at b3
                go_wp2
                go_ret
                exact ⟨ret_float ws.out, rfl⟩
              · rw [s] at b3 ws
                rw [if_pos rfl] at b3
                go_wp2
                go_ret
                exact ⟨ret_float ws.out, rfl⟩
            | succ n =>
              have hd := dblN_succ n ρ
              have hv := div_two (r := dblN n ρ) (by rw [← hd]; exact hlt)
              rw [← hd] at hv
              have hq := fun (t : TypeId) (w : World) => run_float_arith (P := Tryz.prog) w .quo t .f64 _ _ _ hv
              have hlt' : Hid (dblN n ρ < 9218868437227405312) := by have := dblR_ge (dblN n ρ); exact hide (by omega)
              clear hd hv
              obtain ⟨X, eX⟩ : ∃ X, wordD false (dblN (n + 1) ρ) = X := ⟨_, rfl⟩
              rw [eX] at hq ⊢
              go_wp2
              go_round
              case rel => exact ⟨n, rfl, by go_num, by omega, hlt'.out⟩
              case measure => simp [intOf]; omega
        | succ k =>
          have hd' : dblN k (dblR r) = ρ := hd
          have hlt := dblN_ge k (dblR r)
          have hv := mul_two (r := r) (by omega)
          have hq := fun (t : TypeId) (w : World) => run_float_arith (P := Tryz.prog) w .mul t .f64 _ _ _ hv
          have HD := hide hd'
          clear hd hd' hlt hv
          go_wp2
          go_round
          case rel => exact ⟨k, dblR r, rfl, by go_num, by omega, HD.out⟩
          case measure => simp [intOf]; omega
end Go.Proofs.YtegnhinognpgcaaGreatDoor
