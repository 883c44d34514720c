/- The four ways from a real to an int, and the way back, for every word. -/
import Derived.Test.YtiglacchpmooeaaGreatDoorWhole
import Derived.Test.YtiglacchpmooeaaGreatDoorAw4
namespace Go.Proofs.YtiglacchpmooeaaGreatDoor
open Go.ChangeShapes Go.WideShapes Go.ChangeAt Go.RowKit
open Ieee

/-- Is a whole number one of 63 bits? -/
def okW (v : Int) : Bool := decide (-4611686018427387904 ≤ v ∧ v < 4611686018427387904)
/-- What is answered: the number and the error. -/
def ansN (way : Toward) (u : Nat) : Int := if nanB u then 0 else if infB u then 0 else if okW (vW way u) then vW way u else 0
def ansX (way : Toward) (u : Nat) : Int := if nanB u then 20 else if infB u then 10 else if okW (vW way u) then 0 else 10

theorem amt_max : amt 4886405595696988160 = 4611686018427387904 * EE := by
  obtain ⟨q, hq⟩ : ∃ q, q = 10 + E0 := ⟨_, rfl⟩
  have e : 4886405595696988160 = q * 4503599627370496 + 4503599627370496 := by rw [hq, E0_eq]
  rw [e, amt_of _ _ (by omega) (by omega), EE_more hq, ← Nat.mul_assoc]

theorem sval_max : sval 4886405595696988160 = 4611686018427387904 * (EE : Int) := by
  have s : sgnB 4886405595696988160 = false := by decide
  have r : rung 4886405595696988160 = 4886405595696988160 := by decide
  unfold sval
  rw [s, r, amt_max]
  simp
theorem sval_min : sval 14109777632551763968 = -4611686018427387904 * (EE : Int) := by
  have s : sgnB 14109777632551763968 = true := by decide
  have r : rung 14109777632551763968 = 4886405595696988160 := by decide
  unfold sval
  rw [s, r, amt_max]
  simp [Int.neg_mul]

theorem mul_EE_lt {a b : Int} : a * (EE : Int) < b * (EE : Int) ↔ a < b := by
  have p : (0 : Int) < EE := by have := EE_pos; omega
  exact ⟨fun h => Int.lt_of_mul_lt_mul_right h (by omega), fun h => Int.mul_lt_mul_of_pos_right h p⟩

/-- The two tests of the range, at a word that is a whole number's. -/
theorem test_lo {W : Nat} {v : Int} (n : nanB W = false) (h : sval W = v * (EE : Int)) : (FloatKind.f64.format.order W 14109777632551763968 == some Ordering.lt) = decide (v < -4611686018427387904) := by
  refine (order_lt W 14109777632551763968).trans (decide_eq_decide.2 ?_)
  have n2 : nanB 14109777632551763968 = false := by decide
  rw [← sval_lt, h, sval_min, mul_EE_lt, n, n2]
  simp
theorem test_hi {W : Nat} {v : Int} (n : nanB W = false) (h : sval W = v * (EE : Int)) : (FloatKind.f64.format.order W 4886405595696988160 == some Ordering.gt || FloatKind.f64.format.order W 4886405595696988160 == some Ordering.eq) = decide (4611686018427387904 ≤ v) := by
  have n2 : nanB 4886405595696988160 = false := by decide
  have g := order_gt W 4886405595696988160
  have e := order_eqB W 4886405595696988160
  have l := @sval_lt W 4886405595696988160
  rw [h, sval_max, mul_EE_lt] at l
  rw [n, n2] at g e
  refine (congr (congrArg or g) e).trans ?_
  by_cases hv : 4611686018427387904 ≤ v
  · rw [decide_eq_true hv]
    by_cases hk : skey 4886405595696988160 < skey W
    · simp [hk]
    · have : skey W = skey 4886405595696988160 := by omega
      simp [this]
  · rw [decide_eq_false hv]
    have h1 : ¬ skey 4886405595696988160 < skey W := by omega
    have h2 : ¬ skey W = skey 4886405595696988160 := by omega
    simp [h1, h2]

/-- The conversion of such a word. -/
theorem to_int {s : Bool} {r n : Nat} (hr : r < 9218868437227405312) (h : amt r = n * EE) (hv : okW (if s then -(n : Int) else n) = true) : floatToIntVal .f64 (wordD s r) .i64 = some (if s then -(n : Int) else n) := by
  have hf : rung (wordD s r) < 9218868437227405312 := by rw [rung_wordD (by omega)]; exact hr
  have hi := integral_fin (u := wordD s r) .zero hf
  have hn : nW .zero (wordD s r) = n := by
    unfold nW aU
    rw [rung_wordD (by omega), h, Nat.mul_div_cancel _ EE_pos]
    simp [moreW]
  rw [hn, sgn_wordD (by omega)] at hi
  have ht : (FloatKind.f64.decode (wordD s r)).toInt .zero = some (if s then -(n : Int) else n) := by
    show (double.read (wordD s r)).toInt .zero = _
    unfold Datum.toInt
    rw [hi]
    simp only [signed, Nat.shiftLeft_zero]
  unfold floatToIntVal
  rw [ht]
  have := of_decide_eq_true hv
  simp only
  rw [if_pos]
  show (-9223372036854775808 : Int) ≤ _ ∧ _ ≤ (9223372036854775807 : Int)
  omega

theorem whole_word_any {s : Bool} {r n : Nat} (hr : r < 9218868437227405312) (h : amt r = n * EE) (w : World) : Calls Tryz.prog 37 #[.float .f64 (wordD s r)] w fun e w' => e = .returned (.tuple #[.int .i64 (if okW (if s then -(n : Int) else n) then (if s then -(n : Int) else n) else 0), .int .i64 (if okW (if s then -(n : Int) else n) then 0 else 10)]) ∧ w' = w := by
  have hn := nan_wordD (neg := s) (show r ≤ 9218868437227405312 by omega)
  have hs := sval_wordD (s := s) hr h
  have t1 := test_lo hn hs
  have t2 := test_hi hn hs
  have t3 := fun hv => to_int (s := s) hr h hv
  obtain ⟨v, ev⟩ : ∃ v, (if s then -(n : Int) else n) = v := ⟨_, rfl⟩
  obtain ⟨W, eW⟩ : ∃ W, wordD s r = W := ⟨_, rfl⟩
  rw [ev] at t1 t2 t3 ⊢
  rw [eW] at t1 t2 t3 hn ⊢
  clear hs
  by_cases h1 : v < -4611686018427387904
  · have hk : okW v = false := decide_eq_false (by omega)
    rw [decide_eq_true h1] at t1
    rw [hk]
    clear h1 t2 t3
    go_enter Tryz.func37, Tryz.ntmps37
    go_wp2_with (go_at_call 44; refine (mIsNaN_any _ _).mono ?_; rintro e w' ⟨rfl, rfl⟩)
    go_ret2
    exact ⟨rfl, rfl⟩
  · rw [decide_eq_false h1] at t1
    by_cases h2 : 4611686018427387904 ≤ v
    · have hk : okW v = false := decide_eq_false (by omega)
      rw [decide_eq_true h2] at t2
      rw [hk]
      clear h1 h2 t3
      go_enter Tryz.func37, Tryz.ntmps37
      go_wp2_with (go_at_call 44; refine (mIsNaN_any _ _).mono ?_; rintro e w' ⟨rfl, rfl⟩)
      go_ret2
      exact ⟨rfl, rfl⟩
    · have hk : okW v = true := decide_eq_true (by omega)
      rw [decide_eq_false h2] at t2
      have t4 := t3 hk
      have cv := fun (w : World) => run_convert_float_int (P := Tryz.prog) w 23 2 .f64 .i64 W v (by rw [Tryz.underlying23]; rfl) Tryz.underlying2 t4
      rw [hk]
      clear h1 h2 t3 t4
      go_enter Tryz.func37, Tryz.ntmps37
      go_wp2_with (go_at_call 44; refine (mIsNaN_any _ _).mono ?_; rintro e w' ⟨rfl, rfl⟩)
      go_ret2
      exact ⟨rfl, rfl⟩

theorem whole_nan_any (W : Nat) (h : nanB W = true) (w : World) : Calls Tryz.prog 37 #[.float .f64 W] w fun e w' => e = .returned (.tuple #[.int .i64 0, .int .i64 20]) ∧ w' = w := by
  go_enter Tryz.func37, Tryz.ntmps37
  go_wp2_with (go_at_call 44; refine (mIsNaN_any _ _).mono ?_; rintro e w' ⟨rfl, rfl⟩)
  go_ret2
  exact ⟨rfl, rfl⟩

theorem whole_inf_any (s : Bool) (w : World) : Calls Tryz.prog 37 #[.float .f64 (wordD s 9218868437227405312)] w fun e w' => e = .returned (.tuple #[.int .i64 0, .int .i64 10]) ∧ w' = w := by
  have hn := nan_wordD (neg := s) (Nat.le_refl _)
  cases s
  · have t1 : (FloatKind.f64.format.order (wordD false 9218868437227405312) 14109777632551763968 == some Ordering.lt) = false := by decide +kernel
    have t2 : (FloatKind.f64.format.order (wordD false 9218868437227405312) 4886405595696988160 == some Ordering.gt || FloatKind.f64.format.order (wordD false 9218868437227405312) 4886405595696988160 == some Ordering.eq) = true := by decide +kernel
    obtain ⟨W, eW⟩ : ∃ W, wordD false 9218868437227405312 = W := ⟨_, rfl⟩
    rw [eW] at t1 t2 hn ⊢
    clear eW
    go_enter Tryz.func37, Tryz.ntmps37
    go_wp2_with (go_at_call 44; refine (mIsNaN_any _ _).mono ?_; rintro e w' ⟨rfl, rfl⟩)
    go_ret2
    exact ⟨rfl, rfl⟩
  · have t1 : (FloatKind.f64.format.order (wordD true 9218868437227405312) 14109777632551763968 == some Ordering.lt) = true := by decide +kernel
    obtain ⟨W, eW⟩ : ∃ W, wordD true 9218868437227405312 = W := ⟨_, rfl⟩
    rw [eW] at t1 hn ⊢
    clear eW
    go_enter Tryz.func37, Tryz.ntmps37
    go_wp2_with (go_at_call 44; refine (mIsNaN_any _ _).mono ?_; rintro e w' ⟨rfl, rfl⟩)
    go_ret2
    exact ⟨rfl, rfl⟩

/-! The library's four roundings. -/

/-- The entry at a real, its body spelt out. -/
def ti (way : Toward) (u : Nat) : Sem Value :=
  match FloatKind.f64.decode u with
  | .nan s t =>
    if FloatKind.f64.format.quiet t = t then pure (.float .f64 u) else do
    let kept ← choose (.extern "math.Floor,Ceil,Trunc,RoundToEven.signallingNaN kept" 2)
    pure (.float .f64 (if kept == 1 then u else FloatKind.f64.encode (.nan s (FloatKind.f64.format.quiet t))))
  | d => pure (.float .f64 (FloatKind.f64.encode (d.integral way)))

theorem ti_eq (nm : String) (way : Toward) (u : Nat) : Extern.MathFloor.toIntegral nm way #[.float .f64 u] = ti way u := rfl

theorem ext_fin (nm : String) (way : Toward) (u : Nat) (h : rung u < 9218868437227405312) (w : World) : (Extern.MathFloor.toIntegral nm way #[.float .f64 u]).run Tryz.prog w = .ok (.float .f64 (wordD (sgnB u) (nearR (nW way u) 0))) w := by
  have hi := integral_fin way h
  have hw := write_number (sgnB u) (nW way u) 0
  obtain ⟨m, k, e, _⟩ := read_fin h
  rw [e] at hi
  have hd : FloatKind.f64.decode u = .number (sgnB u) m (-1074 + (k : Nat)) := e
  rw [ti_eq]
  simp only [ti, hd, hi]
  rw [← hw]
  rfl

theorem ext_inf (nm : String) (way : Toward) (u : Nat) (h : rung u = 9218868437227405312) (w : World) : (Extern.MathFloor.toIntegral nm way #[.float .f64 u]).run Tryz.prog w = .ok (.float .f64 (wordD (sgnB u) 9218868437227405312)) w := by
  have hd : FloatKind.f64.decode u = .infinity (sgnB u) := read_inf h
  rw [ti_eq]
  simp only [ti, hd]
  rw [← write_infinity]
  rfl

/-- The NaN that comes of a NaN. -/
def nanWay (u : Nat) (w : World) : Nat := if Question.cut (.extern "math.Floor,Ceil,Trunc,RoundToEven.signallingNaN kept" 2) (w.tape w.drawn (.extern "math.Floor,Ceil,Trunc,RoundToEven.signallingNaN kept" 2)) = 1 then u else FloatKind.f64.encode (.nan (sgnB u) (FloatKind.f64.format.quiet (rung u - 9218868437227405312)))

theorem quiet_ne (t : Nat) (h : t < 4503599627370496) : 0 < (t ||| 2251799813685248) % 4503599627370496 := by
  have h1 : t ||| 2251799813685248 < 2 ^ 52 := Nat.or_lt_two_pow h (by decide)
  rw [Nat.mod_eq_of_lt h1]
  have h2 : 2251799813685248 ≤ t ||| 2251799813685248 := Nat.right_le_or
  omega

theorem encode_nan (s : Bool) (t : Nat) (h : t < 4503599627370496) : nanB (FloatKind.f64.encode (.nan s (FloatKind.f64.format.quiet t))) = true := by
  have e : FloatKind.f64.encode (.nan s (FloatKind.f64.format.quiet t)) = double.word s (double.infRung + (t ||| 2251799813685248) % double.binade) := rfl
  rw [e, infW, binadeW]
  have h1 := quiet_ne t h
  have h2 : (t ||| 2251799813685248) % 4503599627370496 < 4503599627370496 := Nat.mod_lt _ (by decide)
  obtain ⟨z, ez⟩ : ∃ z, (t ||| 2251799813685248) % 4503599627370496 = z := ⟨_, rfl⟩
  rw [ez] at h1 h2 ⊢
  cases s
  · rw [word_false]
    refine decide_eq_true ?_
    unfold rung
    omega
  · rw [word_true]
    refine decide_eq_true ?_
    unfold rung
    omega

theorem nanWay_nan {u : Nat} (h : 9218868437227405312 < rung u) (w : World) : nanB (nanWay u w) = true := by
  unfold nanWay
  split
  · exact decide_eq_true h
  · have := rung_lt u
    exact encode_nan _ _ (by omega)

theorem ext_nan_quiet (nm : String) (way : Toward) (u : Nat) (h : 9218868437227405312 < rung u) (hq : FloatKind.f64.format.quiet (rung u - 9218868437227405312) = rung u - 9218868437227405312) (w : World) : (Extern.MathFloor.toIntegral nm way #[.float .f64 u]).run Tryz.prog w = .ok (.float .f64 u) w := by
  have hd : FloatKind.f64.decode u = .nan (sgnB u) (rung u - 9218868437227405312) := read_nan h
  rw [ti_eq]
  simp only [ti, hd, hq, if_true]
  rfl

theorem ext_nan_loud (nm : String) (way : Toward) (u : Nat) (h : 9218868437227405312 < rung u) (hq : ¬ FloatKind.f64.format.quiet (rung u - 9218868437227405312) = rung u - 9218868437227405312) (w : World) : (Extern.MathFloor.toIntegral nm way #[.float .f64 u]).run Tryz.prog w = .ok (.float .f64 (nanWay u w)) w.drew := by
  have hd : FloatKind.f64.decode u = .nan (sgnB u) (rung u - 9218868437227405312) := read_nan h
  rw [ti_eq]
  simp only [ti, hd]
  rw [if_neg hq]
  simp [Question.forced]
  rfl

/-! The four ways, one by one. -/

theorem ans_fin {way : Toward} {u : Nat} (h : rung u < 9218868437227405312) : ansN way u = (if okW (vW way u) then vW way u else 0) ∧ ansX way u = (if okW (vW way u) then 0 else 10) := by
  have n : nanB u = false := decide_eq_false (by omega)
  have i : infB u = false := decide_eq_false (by omega)
  unfold ansN ansX
  rw [n, i]
  exact ⟨rfl, rfl⟩
theorem ans_inf {way : Toward} {u : Nat} (h : rung u = 9218868437227405312) : ansN way u = 0 ∧ ansX way u = 10 := by
  have n : nanB u = false := decide_eq_false (by omega)
  have i : infB u = true := decide_eq_true h
  unfold ansN ansX
  rw [n, i]
  exact ⟨rfl, rfl⟩
theorem ans_nan {way : Toward} {u : Nat} (h : 9218868437227405312 < rung u) : ansN way u = 0 ∧ ansX way u = 20 := by
  have n : nanB u = true := decide_eq_true h
  unfold ansN ansX
  rw [n]
  exact ⟨rfl, rfl⟩

theorem x_Floor (u : Nat) (w : World) : (callFunc 63 #[.float .f64 u]).run Tryz.prog w = ((Extern.MathFloor.toIntegral "math.archFloor" .down #[.float .f64 u]).run Tryz.prog w).andThen fun v w' => .ok (.value v) w' :=
  run_callFunc_extern (e := Extern.MathFloor.toIntegral "math.archFloor" .down) Tryz.func63 (by kernel_rfl) (by kernel_rfl) (by kernel_rfl) (by kernel_rfl) _ _

theorem mFloor_fin (u : Nat) (h : rung u < 9218868437227405312) (w : World) : Calls Tryz.prog 38 #[.float .f64 u] w fun e w' => e = .returned (.float .f64 (wordD (sgnB u) (nearR (nW .down u) 0))) ∧ w' = w := by
  have hx : ∀ w, (callFunc 63 #[.float .f64 u]).run Tryz.prog w = .ok (.value (.float .f64 (wordD (sgnB u) (nearR (nW .down u) 0)))) w := fun w => by rw [x_Floor, ext_fin _ _ _ h]; rfl
  obtain ⟨W, eW⟩ : ∃ W, wordD (sgnB u) (nearR (nW .down u) 0) = W := ⟨_, rfl⟩
  rw [eW] at hx ⊢
  go_enter Tryz.func38, Tryz.ntmps38
  go_wp2
  go_ret
  exact ⟨rfl, rfl⟩

theorem mFloor_inf (u : Nat) (h : rung u = 9218868437227405312) (w : World) : Calls Tryz.prog 38 #[.float .f64 u] w fun e w' => e = .returned (.float .f64 (wordD (sgnB u) 9218868437227405312)) ∧ w' = w := by
  have hx : ∀ w, (callFunc 63 #[.float .f64 u]).run Tryz.prog w = .ok (.value (.float .f64 (wordD (sgnB u) 9218868437227405312))) w := fun w => by rw [x_Floor, ext_inf _ _ _ h]; rfl
  obtain ⟨W, eW⟩ : ∃ W, wordD (sgnB u) 9218868437227405312 = W := ⟨_, rfl⟩
  rw [eW] at hx ⊢
  go_enter Tryz.func38, Tryz.ntmps38
  go_wp2
  go_ret
  exact ⟨rfl, rfl⟩

theorem mFloor_nan (u : Nat) (h : 9218868437227405312 < rung u) (w : World) : Calls Tryz.prog 38 #[.float .f64 u] w fun e w' => ∃ r, e = .returned (.float .f64 r) ∧ nanB r = true ∧ Below w.heap.size w w' := by
  by_cases hq : FloatKind.f64.format.quiet (rung u - 9218868437227405312) = rung u - 9218868437227405312
  · have hx : ∀ w, (callFunc 63 #[.float .f64 u]).run Tryz.prog w = .ok (.value (.float .f64 u)) w := fun w => by rw [x_Floor, ext_nan_quiet _ _ _ h hq]; rfl
    have hn : Hid (nanB u = true) := decide_eq_true h
    clear hq h
    go_enter Tryz.func38, Tryz.ntmps38
    go_wp2
    go_ret
    exact ⟨_, rfl, hn.out, Below.refl _ _⟩
  · have hx : ∀ w, (callFunc 63 #[.float .f64 u]).run Tryz.prog w = .ok (.value (.float .f64 (nanWay u w))) w.drew := fun w => by rw [x_Floor, ext_nan_loud _ _ _ h hq]; rfl
    have hn := hide (nanWay_nan h w)
    clear hq h
    go_enter Tryz.func38, Tryz.ntmps38
    go_wp2
    go_ret
    exact ⟨_, rfl, hn.out, (Below.refl _ _).drew⟩

theorem floor_any (u : Nat) (w : World) : Calls Tryz.prog 17 #[.float .f64 u] w fun e w' => e = .returned (.tuple #[.int .i64 (ansN .down u), .int .i64 (ansX .down u)]) ∧ Below w.heap.size w w' := by
  rcases Nat.lt_trichotomy (rung u) 9218868437227405312 with h | h | h
  · obtain ⟨r, hr, ha⟩ := int_word (u := u) .down h
    have F := fun w => mFloor_fin u h w
    have G := fun w => whole_word_any (s := sgnB u) hr ha w
    rw [near_whole hr ha] at F
    obtain ⟨a1, a2⟩ := ans_fin (way := .down) h
    change ansN .down u = (if okW (if sgnB u then -(nW .down u : Int) else nW .down u) then (if sgnB u then -(nW .down u : Int) else nW .down u) else 0) at a1
    change ansX .down u = (if okW (if sgnB u then -(nW .down u : Int) else nW .down u) then 0 else 10) at a2
    rw [← a1, ← a2] at G
    obtain ⟨W, eW⟩ : ∃ W, wordD (sgnB u) r = W := ⟨_, rfl⟩
    obtain ⟨x1, e1⟩ : ∃ x, ansN .down u = x := ⟨_, rfl⟩
    obtain ⟨x2, e2⟩ : ∃ x, ansX .down u = x := ⟨_, rfl⟩
    rw [eW] at F G
    rw [e1, e2] at G ⊢
    clear a1 a2 eW e1 e2 hr ha h
    go_enter Tryz.func17, Tryz.ntmps17
    go_wp2_with (first
      | (go_at_call 38; refine (F _).mono ?_; rintro e w' ⟨rfl, rfl⟩)
      | (go_at_call 37; refine (G _).mono ?_; rintro e w' ⟨rfl, rfl⟩))
    go_ret2
    exact ⟨rfl, Below.refl _ _⟩
  · have F := fun w => mFloor_inf u h w
    have G := fun w => whole_inf_any (sgnB u) w
    obtain ⟨a1, a2⟩ := ans_inf (way := .down) h
    rw [a1, a2]
    obtain ⟨W, eW⟩ : ∃ W, wordD (sgnB u) 9218868437227405312 = W := ⟨_, rfl⟩
    rw [eW] at F G
    clear a1 a2 eW h
    go_enter Tryz.func17, Tryz.ntmps17
    go_wp2_with (first
      | (go_at_call 38; refine (F _).mono ?_; rintro e w' ⟨rfl, rfl⟩)
      | (go_at_call 37; refine (G _).mono ?_; rintro e w' ⟨rfl, rfl⟩))
    go_ret2
    exact ⟨rfl, Below.refl _ _⟩
  · have F := fun w => mFloor_nan u h w
    obtain ⟨a1, a2⟩ := ans_nan (way := .down) h
    rw [a1, a2]
    clear a1 a2 h
    go_enter Tryz.func17, Tryz.ntmps17
    go_wp2_with (first
      | (go_at_call 38; refine (F _).mono ?_; rintro e w1 ⟨r, rfl, hn, b⟩)
      | (go_at_call 37; refine (whole_nan_any _ hn _).mono ?_; rintro e w' ⟨rfl, rfl⟩))
    go_ret2
    exact ⟨rfl, b⟩

theorem x_Ceil (u : Nat) (w : World) : (callFunc 65 #[.float .f64 u]).run Tryz.prog w = ((Extern.MathFloor.toIntegral "math.archCeil" .up #[.float .f64 u]).run Tryz.prog w).andThen fun v w' => .ok (.value v) w' :=
  run_callFunc_extern (e := Extern.MathFloor.toIntegral "math.archCeil" .up) Tryz.func65 (by kernel_rfl) (by kernel_rfl) (by kernel_rfl) (by kernel_rfl) _ _

theorem mCeil_fin (u : Nat) (h : rung u < 9218868437227405312) (w : World) : Calls Tryz.prog 39 #[.float .f64 u] w fun e w' => e = .returned (.float .f64 (wordD (sgnB u) (nearR (nW .up u) 0))) ∧ w' = w := by
  have hx : ∀ w, (callFunc 65 #[.float .f64 u]).run Tryz.prog w = .ok (.value (.float .f64 (wordD (sgnB u) (nearR (nW .up u) 0)))) w := fun w => by rw [x_Ceil, ext_fin _ _ _ h]; rfl
  obtain ⟨W, eW⟩ : ∃ W, wordD (sgnB u) (nearR (nW .up u) 0) = W := ⟨_, rfl⟩
  rw [eW] at hx ⊢
  go_enter Tryz.func39, Tryz.ntmps39
  go_wp2
  go_ret
  exact ⟨rfl, rfl⟩

theorem mCeil_inf (u : Nat) (h : rung u = 9218868437227405312) (w : World) : Calls Tryz.prog 39 #[.float .f64 u] w fun e w' => e = .returned (.float .f64 (wordD (sgnB u) 9218868437227405312)) ∧ w' = w := by
  have hx : ∀ w, (callFunc 65 #[.float .f64 u]).run Tryz.prog w = .ok (.value (.float .f64 (wordD (sgnB u) 9218868437227405312))) w := fun w => by rw [x_Ceil, ext_inf _ _ _ h]; rfl
  obtain ⟨W, eW⟩ : ∃ W, wordD (sgnB u) 9218868437227405312 = W := ⟨_, rfl⟩
  rw [eW] at hx ⊢
  go_enter Tryz.func39, Tryz.ntmps39
  go_wp2
  go_ret
  exact ⟨rfl, rfl⟩

theorem mCeil_nan (u : Nat) (h : 9218868437227405312 < rung u) (w : World) : Calls Tryz.prog 39 #[.float .f64 u] w fun e w' => ∃ r, e = .returned (.float .f64 r) ∧ nanB r = true ∧ Below w.heap.size w w' := by
  by_cases hq : FloatKind.f64.format.quiet (rung u - 9218868437227405312) = rung u - 9218868437227405312
  · have hx : ∀ w, (callFunc 65 #[.float .f64 u]).run Tryz.prog w = .ok (.value (.float .f64 u)) w := fun w => by rw [x_Ceil, ext_nan_quiet _ _ _ h hq]; rfl
    have hn : Hid (nanB u = true) := decide_eq_true h
    clear hq h
    go_enter Tryz.func39, Tryz.ntmps39
    go_wp2
    go_ret
    exact ⟨_, rfl, hn.out, Below.refl _ _⟩
  · have hx : ∀ w, (callFunc 65 #[.float .f64 u]).run Tryz.prog w = .ok (.value (.float .f64 (nanWay u w))) w.drew := fun w => by rw [x_Ceil, ext_nan_loud _ _ _ h hq]; rfl
    have hn := hide (nanWay_nan h w)
    clear hq h
    go_enter Tryz.func39, Tryz.ntmps39
    go_wp2
    go_ret
    exact ⟨_, rfl, hn.out, (Below.refl _ _).drew⟩

theorem ceil_any (u : Nat) (w : World) : Calls Tryz.prog 18 #[.float .f64 u] w fun e w' => e = .returned (.tuple #[.int .i64 (ansN .up u), .int .i64 (ansX .up u)]) ∧ Below w.heap.size w w' := by
  rcases Nat.lt_trichotomy (rung u) 9218868437227405312 with h | h | h
  · obtain ⟨r, hr, ha⟩ := int_word (u := u) .up h
    have F := fun w => mCeil_fin u h w
    have G := fun w => whole_word_any (s := sgnB u) hr ha w
    rw [near_whole hr ha] at F
    obtain ⟨a1, a2⟩ := ans_fin (way := .up) h
    change ansN .up u = (if okW (if sgnB u then -(nW .up u : Int) else nW .up u) then (if sgnB u then -(nW .up u : Int) else nW .up u) else 0) at a1
    change ansX .up u = (if okW (if sgnB u then -(nW .up u : Int) else nW .up u) then 0 else 10) at a2
    rw [← a1, ← a2] at G
    obtain ⟨W, eW⟩ : ∃ W, wordD (sgnB u) r = W := ⟨_, rfl⟩
    obtain ⟨x1, e1⟩ : ∃ x, ansN .up u = x := ⟨_, rfl⟩
    obtain ⟨x2, e2⟩ : ∃ x, ansX .up u = x := ⟨_, rfl⟩
    rw [eW] at F G
    rw [e1, e2] at G ⊢
    clear a1 a2 eW e1 e2 hr ha h
    go_enter Tryz.func18, Tryz.ntmps18
    go_wp2_with (first
      | (go_at_call 39; refine (F _).mono ?_; rintro e w' ⟨rfl, rfl⟩)
      | (go_at_call 37; refine (G _).mono ?_; rintro e w' ⟨rfl, rfl⟩))
    go_ret2
    exact ⟨rfl, Below.refl _ _⟩
  · have F := fun w => mCeil_inf u h w
    have G := fun w => whole_inf_any (sgnB u) w
    obtain ⟨a1, a2⟩ := ans_inf (way := .up) h
    rw [a1, a2]
    obtain ⟨W, eW⟩ : ∃ W, wordD (sgnB u) 9218868437227405312 = W := ⟨_, rfl⟩
    rw [eW] at F G
    clear a1 a2 eW h
    go_enter Tryz.func18, Tryz.ntmps18
    go_wp2_with (first
      | (go_at_call 39; refine (F _).mono ?_; rintro e w' ⟨rfl, rfl⟩)
      | (go_at_call 37; refine (G _).mono ?_; rintro e w' ⟨rfl, rfl⟩))
    go_ret2
    exact ⟨rfl, Below.refl _ _⟩
  · have F := fun w => mCeil_nan u h w
    obtain ⟨a1, a2⟩ := ans_nan (way := .up) h
    rw [a1, a2]
    clear a1 a2 h
    go_enter Tryz.func18, Tryz.ntmps18
    go_wp2_with (first
      | (go_at_call 39; refine (F _).mono ?_; rintro e w1 ⟨r, rfl, hn, b⟩)
      | (go_at_call 37; refine (whole_nan_any _ hn _).mono ?_; rintro e w' ⟨rfl, rfl⟩))
    go_ret2
    exact ⟨rfl, b⟩

theorem x_Trunc (u : Nat) (w : World) : (callFunc 67 #[.float .f64 u]).run Tryz.prog w = ((Extern.MathFloor.toIntegral "math.archTrunc" .zero #[.float .f64 u]).run Tryz.prog w).andThen fun v w' => .ok (.value v) w' :=
  run_callFunc_extern (e := Extern.MathFloor.toIntegral "math.archTrunc" .zero) Tryz.func67 (by kernel_rfl) (by kernel_rfl) (by kernel_rfl) (by kernel_rfl) _ _

theorem mTrunc_fin (u : Nat) (h : rung u < 9218868437227405312) (w : World) : Calls Tryz.prog 40 #[.float .f64 u] w fun e w' => e = .returned (.float .f64 (wordD (sgnB u) (nearR (nW .zero u) 0))) ∧ w' = w := by
  have hx : ∀ w, (callFunc 67 #[.float .f64 u]).run Tryz.prog w = .ok (.value (.float .f64 (wordD (sgnB u) (nearR (nW .zero u) 0)))) w := fun w => by rw [x_Trunc, ext_fin _ _ _ h]; rfl
  obtain ⟨W, eW⟩ : ∃ W, wordD (sgnB u) (nearR (nW .zero u) 0) = W := ⟨_, rfl⟩
  rw [eW] at hx ⊢
  go_enter Tryz.func40, Tryz.ntmps40
  go_wp2
  go_ret
  exact ⟨rfl, rfl⟩

theorem mTrunc_inf (u : Nat) (h : rung u = 9218868437227405312) (w : World) : Calls Tryz.prog 40 #[.float .f64 u] w fun e w' => e = .returned (.float .f64 (wordD (sgnB u) 9218868437227405312)) ∧ w' = w := by
  have hx : ∀ w, (callFunc 67 #[.float .f64 u]).run Tryz.prog w = .ok (.value (.float .f64 (wordD (sgnB u) 9218868437227405312))) w := fun w => by rw [x_Trunc, ext_inf _ _ _ h]; rfl
  obtain ⟨W, eW⟩ : ∃ W, wordD (sgnB u) 9218868437227405312 = W := ⟨_, rfl⟩
  rw [eW] at hx ⊢
  go_enter Tryz.func40, Tryz.ntmps40
  go_wp2
  go_ret
  exact ⟨rfl, rfl⟩

theorem mTrunc_nan (u : Nat) (h : 9218868437227405312 < rung u) (w : World) : Calls Tryz.prog 40 #[.float .f64 u] w fun e w' => ∃ r, e = .returned (.float .f64 r) ∧ nanB r = true ∧ Below w.heap.size w w' := by
  by_cases hq : FloatKind.f64.format.quiet (rung u - 9218868437227405312) = rung u - 9218868437227405312
  · have hx : ∀ w, (callFunc 67 #[.float .f64 u]).run Tryz.prog w = .ok (.value (.float .f64 u)) w := fun w => by rw [x_Trunc, ext_nan_quiet _ _ _ h hq]; rfl
    have hn : Hid (nanB u = true) := decide_eq_true h
    clear hq h
    go_enter Tryz.func40, Tryz.ntmps40
    go_wp2
    go_ret
    exact ⟨_, rfl, hn.out, Below.refl _ _⟩
  · have hx : ∀ w, (callFunc 67 #[.float .f64 u]).run Tryz.prog w = .ok (.value (.float .f64 (nanWay u w))) w.drew := fun w => by rw [x_Trunc, ext_nan_loud _ _ _ h hq]; rfl
    have hn := hide (nanWay_nan h w)
    clear hq h
    go_enter Tryz.func40, Tryz.ntmps40
    go_wp2
    go_ret
    exact ⟨_, rfl, hn.out, (Below.refl _ _).drew⟩

theorem trunc_any (u : Nat) (w : World) : Calls Tryz.prog 19 #[.float .f64 u] w fun e w' => e = .returned (.tuple #[.int .i64 (ansN .zero u), .int .i64 (ansX .zero u)]) ∧ Below w.heap.size w w' := by
  rcases Nat.lt_trichotomy (rung u) 9218868437227405312 with h | h | h
  · obtain ⟨r, hr, ha⟩ := int_word (u := u) .zero h
    have F := fun w => mTrunc_fin u h w
    have G := fun w => whole_word_any (s := sgnB u) hr ha w
    rw [near_whole hr ha] at F
    obtain ⟨a1, a2⟩ := ans_fin (way := .zero) h
    change ansN .zero u = (if okW (if sgnB u then -(nW .zero u : Int) else nW .zero u) then (if sgnB u then -(nW .zero u : Int) else nW .zero u) else 0) at a1
    change ansX .zero u = (if okW (if sgnB u then -(nW .zero u : Int) else nW .zero u) then 0 else 10) at a2
    rw [← a1, ← a2] at G
    obtain ⟨W, eW⟩ : ∃ W, wordD (sgnB u) r = W := ⟨_, rfl⟩
    obtain ⟨x1, e1⟩ : ∃ x, ansN .zero u = x := ⟨_, rfl⟩
    obtain ⟨x2, e2⟩ : ∃ x, ansX .zero u = x := ⟨_, rfl⟩
    rw [eW] at F G
    rw [e1, e2] at G ⊢
    clear a1 a2 eW e1 e2 hr ha h
    go_enter Tryz.func19, Tryz.ntmps19
    go_wp2_with (first
      | (go_at_call 40; refine (F _).mono ?_; rintro e w' ⟨rfl, rfl⟩)
      | (go_at_call 37; refine (G _).mono ?_; rintro e w' ⟨rfl, rfl⟩))
    go_ret2
    exact ⟨rfl, Below.refl _ _⟩
  · have F := fun w => mTrunc_inf u h w
    have G := fun w => whole_inf_any (sgnB u) w
    obtain ⟨a1, a2⟩ := ans_inf (way := .zero) h
    rw [a1, a2]
    obtain ⟨W, eW⟩ : ∃ W, wordD (sgnB u) 9218868437227405312 = W := ⟨_, rfl⟩
    rw [eW] at F G
    clear a1 a2 eW h
    go_enter Tryz.func19, Tryz.ntmps19
    go_wp2_with (first
      | (go_at_call 40; refine (F _).mono ?_; rintro e w' ⟨rfl, rfl⟩)
      | (go_at_call 37; refine (G _).mono ?_; rintro e w' ⟨rfl, rfl⟩))
    go_ret2
    exact ⟨rfl, Below.refl _ _⟩
  · have F := fun w => mTrunc_nan u h w
    obtain ⟨a1, a2⟩ := ans_nan (way := .zero) h
    rw [a1, a2]
    clear a1 a2 h
    go_enter Tryz.func19, Tryz.ntmps19
    go_wp2_with (first
      | (go_at_call 40; refine (F _).mono ?_; rintro e w1 ⟨r, rfl, hn, b⟩)
      | (go_at_call 37; refine (whole_nan_any _ hn _).mono ?_; rintro e w' ⟨rfl, rfl⟩))
    go_ret2
    exact ⟨rfl, b⟩

theorem x_Round (u : Nat) (w : World) : (callFunc 41 #[.float .f64 u]).run Tryz.prog w = ((Extern.MathFloor.toIntegral "math.RoundToEven" .even #[.float .f64 u]).run Tryz.prog w).andThen fun v w' => .ok (.value v) w' :=
  run_callFunc_extern (e := Extern.MathFloor.toIntegral "math.RoundToEven" .even) Tryz.func41 (by kernel_rfl) (by kernel_rfl) (by kernel_rfl) (by kernel_rfl) _ _

theorem round_any (u : Nat) (w : World) : Calls Tryz.prog 20 #[.float .f64 u] w fun e w' => e = .returned (.tuple #[.int .i64 (ansN .even u), .int .i64 (ansX .even u)]) ∧ Below w.heap.size w w' := by
  rcases Nat.lt_trichotomy (rung u) 9218868437227405312 with h | h | h
  · obtain ⟨r, hr, ha⟩ := int_word (u := u) .even h
    have hx : ∀ w, (callFunc 41 #[.float .f64 u]).run Tryz.prog w = .ok (.value (.float .f64 (wordD (sgnB u) (nearR (nW .even u) 0)))) w := fun w => by rw [x_Round, ext_fin _ _ _ h]; rfl
    have G := fun w => whole_word_any (s := sgnB u) hr ha w
    rw [near_whole hr ha] at hx
    obtain ⟨a1, a2⟩ := ans_fin (way := .even) h
    change ansN .even u = (if okW (if sgnB u then -(nW .even u : Int) else nW .even u) then (if sgnB u then -(nW .even u : Int) else nW .even u) else 0) at a1
    change ansX .even u = (if okW (if sgnB u then -(nW .even u : Int) else nW .even u) then 0 else 10) at a2
    rw [← a1, ← a2] at G
    obtain ⟨W, eW⟩ : ∃ W, wordD (sgnB u) r = W := ⟨_, rfl⟩
    obtain ⟨x1, e1⟩ : ∃ x, ansN .even u = x := ⟨_, rfl⟩
    obtain ⟨x2, e2⟩ : ∃ x, ansX .even u = x := ⟨_, rfl⟩
    rw [eW] at hx G
    rw [e1, e2] at G ⊢
    clear a1 a2 eW e1 e2 hr ha h
    go_enter Tryz.func20, Tryz.ntmps20
    go_wp2_with (go_at_call 37; refine (G _).mono ?_; rintro e w' ⟨rfl, rfl⟩)
    go_ret2
    exact ⟨rfl, Below.refl _ _⟩
  · have hx : ∀ w, (callFunc 41 #[.float .f64 u]).run Tryz.prog w = .ok (.value (.float .f64 (wordD (sgnB u) 9218868437227405312))) w := fun w => by rw [x_Round, ext_inf _ _ _ h]; rfl
    have G := fun w => whole_inf_any (sgnB u) w
    obtain ⟨a1, a2⟩ := ans_inf (way := .even) h
    rw [a1, a2]
    obtain ⟨W, eW⟩ : ∃ W, wordD (sgnB u) 9218868437227405312 = W := ⟨_, rfl⟩
    rw [eW] at hx G
    clear a1 a2 eW h
    go_enter Tryz.func20, Tryz.ntmps20
    go_wp2_with (go_at_call 37; refine (G _).mono ?_; rintro e w' ⟨rfl, rfl⟩)
    go_ret2
    exact ⟨rfl, Below.refl _ _⟩
  · obtain ⟨a1, a2⟩ := ans_nan (way := .even) h
    rw [a1, a2]
    clear a1 a2
    by_cases hq : FloatKind.f64.format.quiet (rung u - 9218868437227405312) = rung u - 9218868437227405312
    · have hx : ∀ w, (callFunc 41 #[.float .f64 u]).run Tryz.prog w = .ok (.value (.float .f64 u)) w := fun w => by rw [x_Round, ext_nan_quiet _ _ _ h hq]; rfl
      have hn : Hid (nanB u = true) := decide_eq_true h
      clear hq h
      go_enter Tryz.func20, Tryz.ntmps20
      go_wp2_with (go_at_call 37; refine (whole_nan_any _ hn.out _).mono ?_; rintro e w' ⟨rfl, rfl⟩)
      go_ret2
      exact ⟨rfl, Below.refl _ _⟩
    · have hx : ∀ w, (callFunc 41 #[.float .f64 u]).run Tryz.prog w = .ok (.value (.float .f64 (nanWay u w))) w.drew := fun w => by rw [x_Round, ext_nan_loud _ _ _ h hq]; rfl
      have hn := hide (nanWay_nan h w)
      clear hq h
      go_enter Tryz.func20, Tryz.ntmps20
      go_wp2_with (go_at_call 37; refine (whole_nan_any _ hn.out _).mono ?_; rintro e w' ⟨rfl, rfl⟩)
      go_ret2
      exact ⟨rfl, (Below.refl _ _).drew⟩
end Go.Proofs.YtiglacchpmooeaaGreatDoor
