/- The law LexWrites holds, as a tied card, where what it reads is of bulk at most 1048576: every token is written as the document writes it, or refused where no text has it; and the same words are reserved. Its conditions: the bound; the library's variables that the walk reads (two errors of strconv) start as the program's text lays them (the given tie pays it). The seat is a pruned copy of the project: nothing is said of packages left out. -/
import Derived.Test.YtgcbkjfckmjgeaaGreatDoorLexCard0
import Derived.Test.YtgcbkjfckmjgeaaGreatDoorLexWritesWalk
import Derived.Test.YtgcbkjfckmjgeaaGreatDoorLexA2
import Derived.Deep.DeepHandedRow
namespace Go.Proofs.YtgcbkjfckmjgeaaGreatDoor.lexWrites
open Go.ChangeShapes Go.WideShapes Go.ChangeAt Go.RowKit

theorem one_bulk {H : Type} {d0 : DataW H} (hk : Rows.uptoSmall H ([d0] ++ []) = true) : Rows.uptoBulk d0 ≤ 1048576 := by
  have h := of_decide_eq_true hk
  simp only [List.append_nil, Rows.uptoBulkAll] at h
  omega

set_option maxRecDepth 100000 in
theorem contract (H : Type) (enc : TypeId × Value → H) (W : World) (base : Nat) (args : Array Value) (ds gs : List (DataW H)) (before : List MemPlace)
    (hval0 : ∀ (j : Nat) t v, Tryz.f4.params[j]? = some t → args[j]? = some v → Value.okWide Tryz.prog W .any base t v)
    (hW : DataW.Whole enc Tryz.prog Tryz.f4.params.toList Rows.lexWritesSpec.vars false W args.toList ds gs before)
    (hk : Rows.uptoSmall H (ds ++ gs) = true)
    (hsz : (DataW.weightsEach Tryz.prog (Tryz.f4.params.toList ++ (Rows.OpenSpec.upto Rows.lexWritesSpec).bare.plain.varTypes Tryz.prog) (ds ++ gs)).all (· ≤ reachBytes) = true)
    (hL : laidMetH Tryz.prog Rows.lexWritesUptoRow.laid W) :
    Calls Tryz.prog 4 args W fun e W' => ∃ v, e = .returned v ∧ Rows.lexWritesSpec.post enc Tryz.prog Tryz.f4 false true false false W args v W' := by
  have hval : ∀ (j : Nat) t v, Tryz.f4.params[j]? = some t → args[j]? = some v → Value.okWide Tryz.prog W .any base t v := hval0
  have hW' := hW
  obtain ⟨p, q, hA0, hV, rfl, hfz, hnd⟩ := hW
  have hA : DataW.TrodAll enc Tryz.prog W 0 (fun _ => true) true Tryz.f4.params.toList args.toList ds p := hA0
  rw [Tryz.params4] at hA hval
  obtain ⟨v0, d0, rfl, rfl, h0⟩ := trodAll_one hA
  obtain ⟨rfl, rfl⟩ := trodVars_none hV
  have k0 := h0
  have lt0 : ∀ x ∈ p, x.block < W.heap.size := by obtain ⟨m, hm⟩ := k0; exact DataW.trod_lt m _ _ _ hm
  have hb := one_bulk hk
  obtain ⟨t, pv, ht, hrd, htx, hps⟩ : ∃ (t : ITok) (pv : Value), v0 = .agg #[.int .i64 t.kind, .string ⟨t.text.toArray⟩, pv, .int .i64 t.line, .int .i64 t.column] ∧ RdS W pv t.path ∧ t.text.length ≤ 1048576 ∧ (∀ j, j < t.path.length → (t.path.getD j []).length ≤ 1048576) := by
    obtain ⟨cs, rfl, hcs⟩ := okWide_struct Tryz.underlying34 (hval 0 34 v0 rfl rfl)
    obtain ⟨fuel, hf⟩ := h0
    obtain ⟨t, pv, e, r1, r2, r3⟩ := tok_ofB (cs := cs.toList) (x := (d0, p)) (show DataW.trod enc Tryz.prog W 0 (fun _ => true) true fuel 34 cs.toList = some (d0, p) from hf) hb
    refine ⟨t, pv, ?_, r1, r2, r3⟩
    congr 1
    apply Array.ext'
    rw [e]
  subst ht
  clear hA0 hval0
  simp only [List.append_nil] at hW' lt0 k0
  refine (walk t.kind t.line t.column _ pv t.path W (ready hL) hrd (by rw [mk_size]; exact htx) hps).mono fun e W' ⟨he, bel⟩ => ?_
  subst he
  exact ⟨_, rfl, _, _, _, [], _, [], hW', trodAll_mk1 (shut_bool Tryz.underlying4 _), trodAll_mk1 (Below.trod laidOut (by kernel_rfl) (of_decide_eq_true (by kernel_rfl)) k0 bel lt0), (by first | rfl | simp), bel.frame _, fun h => by cases h⟩

set_option maxRecDepth 100000 in
theorem lifted (os : Os) (started : os.Started) (H : Type) (enc : TypeId × Value → H) (F : Stop.Interp) :
    ReturnsInHanded {} Tryz.checked os 4 .any ((Rows.OpenSpec.upto Rows.lexWritesSpec).preRow enc Tryz.prog Tryz.f4 Rows.lexWritesUptoRow.domain false Rows.lexWritesUptoRow.laid) (((Rows.OpenSpec.upto Rows.lexWritesSpec).at F).post enc Tryz.prog Tryz.f4 false true false false) := by
  refine returnsInHanded_of_row (C := Tryz.checked) (s := Rows.OpenSpec.upto Rows.lexWritesSpec) own started (by kernel_rfl) Tryz.func4 ?_ ?_
  · refine ⟨World.laidAll Tryz.prog os Rows.lexWritesUptoRow.laid, fun _ _ => 0, ⟨#[], #[.agg #[.int .i64 0, .string ByteArray.empty, .slice none 0 0, .int .i64 0, .int .i64 0]], []⟩, World.laidAll_os _ _ _, World.shaped_of_ZipB (by kernel_rfl) (by kernel_rfl), rfl, (Input.okWide_of_okWideB (by kernel_rfl)).2, ?_, ?_⟩
    · refine OpenSpec.preRow_of_cond (x := ([.agg [.lit (.int .i64 0), .lit (.string []), .nil, .lit (.int .i64 0), .lit (.int .i64 0)]], [], [])) 8 (by kernel_rfl) (by kernel_rfl) (fun k hk => by cases hk; kernel_rfl) (by kernel_rfl) ?_
      exact laidMet_laidAll _ (by kernel_rfl) (by kernel_rfl)
    · simp only [Assume.holds]
      exact ⟨by simp, by simp, fun _ => Modest.zero, by simp, by simp⟩
  · intro W base args ds gs before hval hW _ hcond hsz hL _ _
    exact contract H enc W base args ds gs before hval hW (hcond _ rfl) hsz hL

theorem saidUpto : Rows.LexWritesUptoSaid :=
  OpenClaim.holds_of_cond 4 Tryz.f4 rfl rfl rfl rfl rfl rfl rfl ⟨rfl, rfl, rfl, rfl, rfl⟩ rfl rfl rfl rfl rfl (by kernel_rfl) Tryz.func4 (by kernel_rfl)
    (of_decide_eq_true (by kernel_rfl)) (by unfold Func.isWrapper; first | (rw [if_pos (by decide +kernel)]; kernel_rfl) | (rw [if_neg (by decide +kernel)]; exact ⟨rfl, rfl⟩))
    (fun os started H enc _ F => by rw [OpenClaim.pre_eq_preRow]; exact lifted os started H enc F)

/-- No parameter wants a stand-in; the program's looks are on. -/
theorem plain (f : FuncId) (fn : Func) (hf : Tryz.pinned.checked.prog.funcNamed "kiln/kilnlaw04.LexWrites" = some f) (hfn : Tryz.pinned.checked.prog.funcs[f]? = some fn) :
    true = Tryz.pinned.checked.prog.looks [] ∧ ∀ (j : Nat) t, fn.params[j]? = some t → Tryz.pinned.checked.prog.wantsStandIn t = false := by
  obtain rfl : f = 4 := Option.some.inj ((show Tryz.prog.funcNamed "kiln/kilnlaw04.LexWrites" = some 4 by kernel_rfl).symm.trans hf) |>.symm
  obtain rfl : fn = Tryz.f4 := (Option.some.inj (Tryz.func4.symm.trans hfn)).symm
  refine ⟨by kernel_rfl, fun j t ht => ?_⟩
  rw [Tryz.params4] at ht
  obtain rfl : t = 34 := by simpa using Array.mem_of_getElem? ht
  exact (show Tryz.prog.wantsStandIn 34 = false by kernel_rfl)

/-- The card. -/
theorem card : Rows.LexWritesUptoCardSaid :=
  Claim7.holds_tied_plain_at .later [] _ _ _ _ saidUpto (fun _ h => by cases h) (by kernel_rfl) (fun _ h => by cases h) lexWritesUpto_row_tie rfl ⟨rfl, rfl⟩ (by kernel_rfl) rfl plain (by kernel_rfl)
#print axioms card
end Go.Proofs.YtgcbkjfckmjgeaaGreatDoor.lexWrites
