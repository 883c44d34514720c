/- The closed call, third part: FormatFloat. -/
import Derived.Test.YtbengmceiaejeaaGreatDoorAw2
import Derived.RegionTactic
import Derived.ChangeAlike
import Derived.BigQuiet
import Derived.Deep.RegionWith
import Derived.Laws.IdiomStrings
namespace Go.Proofs.YtbengmceiaejeaaGreatDoor
open Go.ChangeShapes Go.WideShapes Go.ChangeAt Go.RowKit

theorem x_fbits (u : Nat) (w : World) : (callFunc 115 #[.float .f64 u]).run Tryz.prog w = .ok (.value (.int .u64 u)) w := by
  rw [run_callFunc_extern (e := Extern.MathFloatBits.float64bits) Tryz.func115 (by kernel_rfl) (by kernel_rfl) (by kernel_rfl) (by kernel_rfl)]
  rfl

/-- The text's bytes. -/
def txt : List Int := [51, 46, 48, 48, 48, 48, 48, 48, 48, 48, 48, 48, 48, 48, 48, 48, 48, 52, 101, 45, 48, 49]

theorem below_drewN (B : Nat) (w : World) (n : Nat) : Below B w (w.drewN n) := ⟨rfl, rfl, rfl, Nat.le_refl _, fun _ _ => rfl⟩

theorem holds_kept {w w2 : World} {B : Nat} (hB : B < w.heap.size) (H : Sort.Holds (fun (b : UInt8) => Value.int .u8 (b.toNat : Int)) w B 0 (Array.replicate 17 0)) (b : Below w.heap.size w w2) : Sort.Holds (fun (b : UInt8) => Value.int .u8 (b.toNat : Int)) w2 B 0 (Array.replicate 17 0) := by
  intro j hj
  have := H j hj
  exact ⟨(b.cell (p := ⟨B, 0 + j, none⟩) hB).trans this.1, (b.frozen (p := ⟨B, 0 + j, none⟩) hB).trans this.2⟩

theorem own_kept {W W' : World} {B e size n : Nat} {v : Value} {xs : List Value} (h : W.ownsRow B e size v n xs) (hb : Below W.heap.size W W') : W'.ownsRow B e size v n xs :=
  h.kept (row := none) ⟨hb.os, hb.tape, hb.output, hb.size, fun k hk _ => hb.block k hk⟩ (Classical.em _)

set_option maxRecDepth 100000 in
theorem c_ftoa (base D : Nat) (w : World) (R : Rdy w) (hb : base ≤ w.heap.size) (hD : base ≤ D) (hown : w.ownsRow base 5 1 (.slice (some ⟨D, 0, none⟩) 0 24) 0 []) :
    Calls Tryz.prog 89 #[.slice (some ⟨D, 0, none⟩) 0 24, .float .f64 4599075939470750516, .int .u8 101, .int .i64 (-1)] w fun e w' => e = .returned (.slice (some ⟨D, 0, none⟩) 22 24) ∧ Below base w w' ∧ w'.ownsRow base 5 1 (.slice (some ⟨D, 0, none⟩) 22 24) 22 (txt.map (Value.int .u8)) := by
  have q1 := x_fbits 4599075939470750516
  have q2 : bits .and .i64 1021 2047 = 1021 := by decide
  have q3 : bits .and .u64 4599075939470750516 4503599627370495 = 900719925474100 := by decide
  have q4 : bits .or .u64 900719925474100 4503599627370496 = 5404319552844596 := by decide
  go_enter Tryz.func89, Tryz.ntmps89
  go_wp2
  go_quiet (fail)
  go_wp2_with (first
    | (go_at_call 119; refine (c_len2 _).mono ?_; rintro e w' ⟨rfl, rfl⟩)
    | (go_at_call 128; refine (c_short _ (R.below ((below_drewN w.heap.size w _).alloc (Nat.le_refl _) _))).mono ?_; rintro e w2 ⟨rfl, b2⟩))
  have W1 : Below w.heap.size w w2 := ((below_drewN w.heap.size w nq).alloc (Nat.le_refl _) _).trans (b2.mono (by simp))
  have ten2 : w2.cell? ⟨9, 16, none⟩ = some (.int .u64 10000000000000000) := (R.below W1).ten
  have sz2 : w.heap.size < w2.heap.size := by have := b2.size; simp at this; omega
  have HB := hide (holds_kept (B := w.heap.size) (by simp) (holds32 (w.drewN nq) _) b2)
  clear b2
  have HW := hide W1
  clear W1
  go_region_with (first
    | (go_at_call 122; refine (c_numDigits _ (by exact ten2)).mono ?_; rintro e w' ⟨rfl, rfl⟩)
    | (go_at_call 121; refine (c_setDigits _ _ (by exact HB.out)).mono ?_; rintro e w3 ⟨rfl, b3, d3⟩))
  have b4 : Below w.heap.size w w3 := HW.out.drew.trans b3
  have sz3 : w.heap.size < w3.heap.size := by have h := b3.size; have h' : w2.drew.heap.size = w2.heap.size := rfl; omega
  have o3 := own_kept hown b4
  have hDs : D < w.heap.size := (hown.lt D rfl).2
  have H4 := hide b4
  have O3 := hide o3
  have D3 := hide d3
  clear b3 d3 o3 b4 HW HB
  go_wp2_with (go_at_call 118; refine (c_efg base D _ _ (by omega) sz3 (by omega) hD O3.out D3.out).mono ?_; rintro e w5 ⟨rfl, b5, o5⟩)
  go_ret
  exact ⟨rfl, (H4.out.mono hb).trans b5, o5⟩

theorem c_conv {w : World} {D : Nat} {base : Nat} (o : w.ownsRow base 5 1 (.slice (some ⟨D, 0, none⟩) 22 24) 22 (txt.map (Value.int .u8))) :
    (convert 65 9 (.slice (some ⟨D, 0, none⟩) 22 24)).run Tryz.prog w = .ok (.string ⟨#[51, 46, 48, 48, 48, 48, 48, 48, 48, 48, 48, 48, 48, 48, 48, 48, 48, 52, 101, 45, 48, 49]⟩) w := by
  refine run_convert_bytes_back (P := Tryz.prog) w 65 9 5 ⟨D, 0, none⟩ 24 [51, 46, 48, 48, 48, 48, 48, 48, 48, 48, 48, 48, 48, 48, 48, 48, 48, 52, 101, 45, 48, 49] Tryz.underlying65 Tryz.underlying5 Tryz.underlying9 ?_
  intro j hj
  refine o.cells (g := D) rfl j _ ?_
  have hk : ∀ k : Fin 22, txt[k.val]? = some ((([51, 46, 48, 48, 48, 48, 48, 48, 48, 48, 48, 48, 48, 48, 48, 48, 48, 52, 101, 45, 48, 49] : List UInt8)[k.val]).toNat : Int) := by decide
  rw [List.getElem?_map, hk ⟨j, hj⟩]
  rfl

set_option maxRecDepth 100000 in
theorem c_format (w : World) (R : Rdy w) :
    Calls Tryz.prog 61 #[.float .f64 4599075939470750516, .int .u8 101, .int .i64 (-1), .int .i64 64] w fun e w' => e = .returned (.string ⟨#[51, 46, 48, 48, 48, 48, 48, 48, 48, 48, 48, 48, 48, 48, 48, 48, 48, 52, 101, 45, 48, 49]⟩) ∧ Below w.heap.size w w' := by
  obtain ⟨i, hi, hz0, hz1, hz2⟩ := info_parts info5
  go_enter Tryz.func61, Tryz.ntmps61
  go_wp2_with (first
    | (at_make; refine wpList_make_own _ rfl _ _ 65 rfl w.heap.size 5 i _ 1 Tryz.underlying65 hi hz0 hz1 _ _ _ 24 rfl rfl rfl (by rw [hz2]; decide) (by decide) (Nat.le_refl _) ?_; intro w1 o1 g1; have b1 : Below w.heap.size w w1 := (Below.refl _ _).grown g1 (Nat.le_refl _) (fun k e => by cases e))
    | (go_at_call 89; refine (c_ftoa w.heap.size w.heap.size _ (R.below b1) b1.size (Nat.le_refl _) o1).mono ?_; rintro e w2 ⟨rfl, b2, o2⟩; have hcv := c_conv o2))
  go_ret
  exact ⟨rfl, b1.trans b2⟩
theorem c_Format (w : World) (R : Rdy w) :
    Calls Tryz.prog 35 #[.float .f64 4599075939470750516, .int .u8 101, .int .i64 (-1), .int .i64 64] w fun e w' => e = .returned (.string ⟨#[51, 46, 48, 48, 48, 48, 48, 48, 48, 48, 48, 48, 48, 48, 48, 48, 48, 52, 101, 45, 48, 49]⟩) ∧ Below w.heap.size w w' := by
  go_enter Tryz.func35, Tryz.ntmps35
  go_wp2_with (go_at_call 61; refine (c_format _ R).mono ?_; rintro e w1 ⟨rfl, b1⟩)
  go_ret
  exact ⟨rfl, b1⟩

theorem c_cut (w : World) (R : Rdy w) :
    Calls Tryz.prog 34 #[.string ⟨#[51, 46, 48, 48, 48, 48, 48, 48, 48, 48, 48, 48, 48, 48, 48, 48, 48, 52, 101, 45, 48, 49]⟩, .string ⟨#[101]⟩] w fun e w' => e = .returned (.tuple #[.string ⟨#[51, 46, 48, 48, 48, 48, 48, 48, 48, 48, 48, 48, 48, 48, 48, 48, 48, 52]⟩, .string ⟨#[45, 48, 49]⟩, .bool true]) ∧ Below w.heap.size w w' := by
  obtain ⟨m, hm⟩ := R.m
  refine (Tryz.strings_Cut _ _ m w (by decide) hm).mono ?_
  rintro e w' ⟨rfl, n, rfl⟩
  exact ⟨by kernel_rfl, below_drewN _ _ _⟩

theorem c_atoi (w : World) :
    Calls Tryz.prog 36 #[.string ⟨#[45, 48, 49]⟩] w fun e w' => e = .returned (.tuple #[.int .i64 (-1), .nilIface]) ∧ Below w.heap.size w w' := by
  refine (Tryz.strconv_Atoi _ (-1) (by decide) (by decide) w).mono ?_
  rintro e w' ⟨rfl, t, rfl⟩
  exact ⟨rfl, ⟨rfl, rfl, rfl, by rw [Lib.bytesWorld_size]; omega, fun k hk => Lib.bytesWorld_at_old _ _ _ _ hk⟩⟩

theorem c_replace (w : World) (R : Rdy w) :
    Calls Tryz.prog 37 #[.string ⟨#[51, 46, 48, 48, 48, 48, 48, 48, 48, 48, 48, 48, 48, 48, 48, 48, 48, 52]⟩, .string ⟨#[46]⟩, .string ⟨#[]⟩, .int .i64 1] w fun e w' => e = .returned (.string ⟨#[51, 48, 48, 48, 48, 48, 48, 48, 48, 48, 48, 48, 48, 48, 48, 48, 52]⟩) ∧ Below w.heap.size w w' := by
  obtain ⟨m, hm⟩ := R.m
  refine (Tryz.strings_Replace _ _ _ _ m w (by decide) hm (by decide) (by decide)).mono ?_
  rintro e w' ⟨rfl, b⟩
  exact ⟨by kernel_rfl, b⟩

theorem c_shortest (w : World) (R : Rdy w) :
    Calls Tryz.prog 15 #[.float .f64 4599075939470750516] w fun e w' => e = .returned (.tuple #[.string ⟨#[51, 48, 48, 48, 48, 48, 48, 48, 48, 48, 48, 48, 48, 48, 48, 48, 52]⟩, .int .i64 0]) ∧ Below w.heap.size w w' := by
  go_enter Tryz.func15, Tryz.ntmps15
  go_wp2_with (first
    | (go_at_call 35; refine (c_Format _ R).mono ?_; rintro e w1 ⟨rfl, b1⟩)
    | (go_at_call 34; refine (c_cut _ (R.below b1)).mono ?_; rintro e w2 ⟨rfl, b2⟩; have b12 : Below w.heap.size w w2 := b1.trans (b2.mono b1.size))
    | (go_at_call 36; refine (c_atoi _).mono ?_; rintro e w3 ⟨rfl, b3⟩; have b13 : Below w.heap.size w w3 := b12.trans (b3.mono b12.size))
    | (go_at_call 37; refine (c_replace _ (R.below b13)).mono ?_; rintro e w4 ⟨rfl, b4⟩; have b14 : Below w.heap.size w w4 := b13.trans (b4.mono b13.size)))
  go_ret2
  exact ⟨rfl, b14⟩
end Go.Proofs.YtbengmceiaejeaaGreatDoor
