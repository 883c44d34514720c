/- Books of types: a new type. -/
import Derived.Test.YtlijfkmcaccflaaGreatDoorProg
import Derived.Test.YtlijfkmcaccflaaGreatDoorTy2
import Derived.WalkKit
import Derived.ProofKit
import Derived.OpenShut
import Derived.Below
import Derived.WalkLawsBesides
import Derived.OwnWalk
import Derived.BigQuiet
import Derived.Deep.MidRow
import Derived.Deep.RegionHeld
import Derived.Deep.RegionHeld3
import Derived.Deep.DeepCutAuto
import Derived.WalkSmall
import Derived.Deep.AppendLies
import Derived.Deep.RegionHeldLaw
import Derived.Deep.RegionLaw
namespace Go.Proofs.YtlijfkmcaccflaaGreatDoor
open Go.ChangeShapes Go.WideShapes Go.ChangeAt Go.RowKit

theorem cellsNew (w : World) (xs : List Value) (e : TypeId) : ∀ j u, xs[j]? = some u → (w.alloc (.cells xs.toArray e)).cell? ((⟨w.heap.size, 0, none⟩ : Addr).add j) = some u := by
  intro j u h
  rw [show (⟨w.heap.size, 0, none⟩ : Addr).add j = ⟨w.heap.size, j, none⟩ from by unfold Addr.add; simp; omega, World.cell?_alloc_mark]
  simpa using h
theorem infoCell : (Tryz.prog.info? 71).map (fun i => (i.zero, i.size, i.bytes)) = some (some (.agg #[.int .i64 0, .int .i64 0, .slice none 0 0, .slice none 0 0, .bool false, .int .i64 0, .int .i64 0, .string ⟨#[]⟩, .bool false, .bool false, .int .i64 0, .int .i64 0]), 12, 136) := by kernel_rfl
/-- Twelve cells of a block. -/
theorem TcAt.new (w : World) (c : Tc) (t : TypeId) : TcAt (w.alloc (.cells #[.int .i64 c.kind, .int .i64 c.con, .slice none 0 0, c.av, .bool false, .int .i64 0, .int .i64 c.level, .string ⟨#[]⟩, .bool false, .bool false, .int .i64 c.to, .int .i64 0] t)) w.heap.size 0 c := by
  constructor <;> simp
theorem TcAt.block {w w' : World} {g o : Nat} {c : Tc} (h : TcAt w g o c) (e : w'.heap[g]? = w.heap[g]?) : TcAt w' g o c :=
  ⟨(cell_of_block (a := ⟨g, _, none⟩) e).trans h.c0, (cell_of_block (a := ⟨g, _, none⟩) e).trans h.c1, (cell_of_block (a := ⟨g, _, none⟩) e).trans h.c2, (cell_of_block (a := ⟨g, _, none⟩) e).trans h.c3, (cell_of_block (a := ⟨g, _, none⟩) e).trans h.c4, (cell_of_block (a := ⟨g, _, none⟩) e).trans h.c5, (cell_of_block (a := ⟨g, _, none⟩) e).trans h.c6, (cell_of_block (a := ⟨g, _, none⟩) e).trans h.c7, (cell_of_block (a := ⟨g, _, none⟩) e).trans h.c8, (cell_of_block (a := ⟨g, _, none⟩) e).trans h.c9, (cell_of_block (a := ⟨g, _, none⟩) e).trans h.c10, (cell_of_block (a := ⟨g, _, none⟩) e).trans h.c11⟩
theorem own_some {w : World} {B e size n : Nat} {v : Value} {xs : List Value} (h : w.ownsRow B e size v n xs) : ∃ ao cap, v = .slice ao n cap := by
  rcases h.2 with ⟨hv, h0⟩ | ⟨g, cap, cur, hv, _⟩
  · exact ⟨none, 0, by rw [hv, h0]⟩
  · exact ⟨_, _, hv⟩
theorem Nums.turn {lo hi hi' : Nat} {no no' : Option Nat} {w w' : World} {v : Value} {l : List Int} (h : Nums lo hi no w v l) (hh : hi ≤ hi') (hn : ∀ g, g < hi → lo < g → no ≠ some g → no' ≠ some g) (hb : ∀ g, g < hi → lo < g → no ≠ some g → w'.heap[g]? = w.heap[g]?) : Nums lo hi' no' w' v l := by
  obtain ⟨ao, cap, hv, h1, h2, hc⟩ := h
  refine ⟨ao, cap, hv, h1, h2, fun j hj => ?_⟩
  obtain ⟨g, ha, hl, hg, hne, hx⟩ := hc j hj
  exact ⟨g, ha, hl, Nat.lt_of_lt_of_le hg hh, hn g hg hl hne, (cell_of_block (a := ⟨g, j, none⟩) (hb g hg hl hne)).trans hx⟩

set_option maxRecDepth 100000 in
set_option maxHeartbeats 16000000 in
theorem add_any (b hi : Nat) (cv : Value) (cs : List Tc) (c : Tc) (w : World) (h : Bk b hi w cv cs) (hn : Nums b hi cv.ownBlock w c.av c.args) (hl : cs.length + 1 ≤ 100) :
    Calls Tryz.prog 55 #[.pointer (some ⟨b, 0, none⟩), c.val] w fun e w' => e = .returned (.int .i64 (cs.length : Int)) ∧ (∃ cv', Bk b w'.heap.size w' cv' (cs ++ [c])) ∧ Below b w w' := by
  obtain ⟨j0, hj, jz0, jz1, jz2⟩ := info_parts infoCell
  obtain ⟨co, cc, hcv⟩ := own_some h.row
  obtain ⟨xo, xc, hav⟩ : ∃ ao cap, c.av = .slice ao c.args.length cap := by obtain ⟨ao, cap, hv, _⟩ := hn; exact ⟨ao, cap, hv⟩
  have HB0 := hide' h
  have hold := h.old
  have hil := h.hil
  obtain ⟨wm, hwm⟩ : ∃ wm, w.alloc (.cells #[.int .i64 c.kind, .int .i64 c.con, .slice none 0 0, c.av, .bool false, .int .i64 0, .int .i64 c.level, .string ⟨#[]⟩, .bool false, .bool false, .int .i64 c.to, .int .i64 0] 71) = wm := ⟨_, rfl⟩
  have TN := TcAt.new w c 71
  rw [hwm] at TN
  have B1 : Below hi w wm := by rw [← hwm]; exact (Below.refl _ _).alloc hil _
  have S1 : wm.heap.size = w.heap.size + 1 := by rw [← hwm]; simp
  have HM := hide' (h.below B1)
  have HNM := hide' (hn.below B1)
  have c2 := HM.out.c2
  have f2 := HM.out.f2
  have hro := HM.out.row
  obtain ⟨N, hN⟩ : ∃ N, cs.length = N := ⟨_, rfl⟩
  obtain ⟨A, hA⟩ : ∃ A, c.args.length = A := ⟨_, rfl⟩
  have HN := hide' hN
  rw [hcv] at hro c2
  rw [hN] at hro c2 hl ⊢
  obtain ⟨T, hT⟩ : ∃ T, w.heap.size = T := ⟨_, rfl⟩
  rw [hT] at TN S1
  have HNR := hide' hro
  have HCV : Hid' (cv = .slice co N cc) := ⟨by rw [hcv, hN]⟩
  have HT := hide' hT
  have HTN := hide' TN
  obtain ⟨t0, t1, t2, t3, t4, t5, t6, t7, t8, t9, t10, t11⟩ := TN
  simp only [Nat.zero_add] at t0 t1 t2 t3 t4 t5 t6 t7 t8 t9 t10 t11
  have HAV := hide' hav
  rw [hav, hA] at t3
  unfold Tc.val
  rw [hav, hA]
  rw [hav, hA] at hwm
  have HB1 := hide' B1
  have HGb : Hid' (some b ≠ (Value.slice co N cc).ownBlock) := ⟨fun e => by have := (hro.lt b e.symm).1; omega⟩
  have HGT : Hid' (some T ≠ (Value.slice co N cc).ownBlock) := ⟨fun e => by have := HM.out.rhi T (by rw [HCV.out]; exact e.symm); omega⟩
  have HBN : Hid' (∀ g, (Value.slice co N cc).ownBlock = some g → b ≤ g) := ⟨fun g hg => Nat.le_of_succ_le (hro.lt g hg).1⟩
  have hbl : b < wm.heap.size := by omega
  have hTb : ¬ T = b := by omega
  have hbT : ¬ b = T := by omega
  have hbc : ¬ b = wm.heap.size := by omega
  have hcb : ¬ wm.heap.size = b := by omega
  have hTc : ¬ T = wm.heap.size := by omega
  have hcT : ¬ wm.heap.size = T := by omega
  have HN0 := hide' hn
  obtain ⟨ck, hck⟩ : ∃ x, c.kind = x := ⟨_, rfl⟩
  obtain ⟨cn, hcn⟩ : ∃ x, c.con = x := ⟨_, rfl⟩
  obtain ⟨cl, hcl⟩ : ∃ x, c.level = x := ⟨_, rfl⟩
  obtain ⟨ct, hct⟩ : ∃ x, c.to = x := ⟨_, rfl⟩
  have HCE : Hid' ([.int .i64 ck, .int .i64 cn, .slice none 0 0, .slice xo A xc, .bool false, .int .i64 0, .int .i64 cl, .string ⟨#[]⟩, .bool false, .bool false, .int .i64 ct, .int .i64 0] = c.cells) := ⟨by unfold Tc.cells; rw [hck, hcn, hcl, hct, hav, hA]⟩
  rw [hck] at t0 hwm ⊢
  rw [hcn] at t1 hwm ⊢
  rw [hcl] at t6 hwm ⊢
  rw [hct] at t10 hwm ⊢
  clear hck hcn hcl hct
  have hTl : T < wm.heap.size := by omega
  have hhT : hi ≤ T := by have := HT.out; omega
  clear h hn hcv hN hA hro hT B1 hav S1
  go_enter Tryz.func55, Tryz.ntmps55
  go_upto_region 1 with fail
  try rw [hwm]
  try rw [HT.out]
  clear hwm
  go_cut [5] (fun _ wx => ∃ (g6 cap6 : Nat), Hid' (wx.cell? ⟨b, 2, none⟩ = some (.slice (some ⟨g6, 0, none⟩) (N + 1) cap6) ∧ wx.frozen? ⟨b, 2, none⟩ = false ∧ wx.ownsRow (b + 1) 71 12 (.slice (some ⟨g6, 0, none⟩) (N + 1) cap6) (N + 1) (flat cs ++ [.int .i64 ck, .int .i64 cn, .slice none 0 0, .slice xo A xc, .bool false, .int .i64 0, .int .i64 cl, .string ⟨#[]⟩, .bool false, .bool false, .int .i64 ct, .int .i64 0])) ∧ Hid' (∀ k, k < wm.heap.size → k ≠ b → some k ≠ (Value.slice co N cc).ownBlock → wx.heap[k]? = wm.heap[k]?) ∧ Hid' (∀ j, j ≠ 2 → wx.cell? ⟨b, j, none⟩ = wm.cell? ⟨b, j, none⟩) ∧ ((Value.slice co N cc).ownBlock = some g6 ∨ wm.heap.size ≤ g6) ∧ g6 < wx.heap.size ∧ Below b wm wx)
  case first =>
    go_region_law
      ((refine step_append_lies _ (by rfl) _ _ 28 (by rfl) (b + 1) 71 j0 (.agg #[.int .i64 0, .int .i64 0, .slice none 0 0, .slice none 0 0, .bool false, .int .i64 0, .int .i64 0, .string ⟨#[]⟩, .bool false, .bool false, .int .i64 0, .int .i64 0]) 12 136 Tryz.underlying28 hj jz0 jz1 jz2 rfl (by decide) _ _ _ (by rfl) (HNR.out.drew.alloc _) ⟨_, 0, none⟩ 1 1 [.int .i64 ck, .int .i64 cn, .slice none 0 0, .slice xo A xc, .bool false, .int .i64 0, .int .i64 cl, .string ⟨#[]⟩, .bool false, .bool false, .int .i64 ct, .int .i64 0] (by rfl) rfl (cellsNew _ _ _) (by simp [Value.oneCell']) (by decide) (by unfold maxLen; omega) (by omega) (by simp; omega) (wm.heap.size + 1) (by simp) ?_; intro g6 cap6 w6 hown6 hgrow6 hat6 hlt6; (have e6 : ∀ k, k < wm.heap.size → some k ≠ (Value.slice co N cc).ownBlock → w6.heap[k]? = wm.heap[k]? := fun k hk hne => (hgrow6.block k (by simp; omega) hne).trans (((Below.refl wm.heap.size wm).drew.alloc (Nat.le_refl _) _).block k hk)); have k6b := (cell_of_block (w := wm) (a := ⟨b, 2, none⟩) (e6 b (by omega) HGb.out)).trans c2; (have HT6 := hide' (HTN.out.block (e6 T (by omega) HGT.out))); (have k6f : w6.frozen? ⟨b, 2, none⟩ = false := (World.frozen?_of_block (w := wm) (a := ⟨b, 2, none⟩) (e6 b (by omega) HGb.out)).trans f2)))
    all_goals (
      go_wp2_with fail
      go_meet
      have BB : Below b wm w6 := ⟨hgrow6.os, hgrow6.tape, hgrow6.output, Nat.le_trans (Nat.le_succ _) (by have := hgrow6.size; simpa using this), fun k hk => e6 k (by omega) (fun e => by have := HBN.out k e.symm; omega)⟩
      refine ⟨g6, cap6, ⟨World.cell?_setCell_same _ _ _ k6b, by rw [World.frozen?_setCell]; exact k6f, ownsRow_setCell_below hown6 (a := ⟨b, 2, none⟩) (Nat.lt_succ_self b) _⟩, ⟨fun k hk hkb hkn => by rw [Below.heap_setCell _ _ _ _ (by show k ≠ b; exact hkb)]; exact e6 k hk hkn⟩, ⟨fun j hj4 => ?_⟩, ?_, by simpa using hlt6, BB.setCell (Nat.le_refl _) _⟩
      · rw [World.cell?_setCell_other _ _ _ _ (by simp <;> omega)]; exact cell_of_block (a := ⟨b, j, none⟩) (e6 b (by omega) HGb.out)
      · rcases hat6 with x | x
        · exact .inl x
        · exact .inr (by omega))
  case rest =>
    obtain ⟨g6, cap6, H6, HE6, HJ6, hat6, hlt6, bb6⟩ := hcut
    have c2c := H6.out.1
    have hs6 := bb6.size
    have hlen : (cs ++ [c]).length = N + 1 := by rw [List.length_append, HN.out]; rfl
    have hold2 : ∀ k, k < hi → k ≠ b → cv.ownBlock ≠ some k → wc.heap[k]? = w.heap[k]? := fun k hk hkb hkn => (HE6.out k (by omega) hkb (fun e => hkn (by rw [HCV.out]; exact e.symm))).trans (HB1.out.block k hk)
    have hne6 : ∀ k, k < hi → k ≠ b → cv.ownBlock ≠ some k → (Value.slice (some ⟨g6, 0, none⟩) (N + 1) cap6).ownBlock ≠ some k := fun k hk hkb hkn e => by
      have e' : g6 = k := by simpa [Value.ownBlock] using e
      rcases hat6 with x | x
      · exact hkn (by rw [HCV.out, x, e'])
      · omega
    have HBK : Hid' (Bk b wc.heap.size wc (.slice (some ⟨g6, 0, none⟩) (N + 1) cap6) (cs ++ [c])) := by
      obtain ⟨gc, h1, h2, h3, h4, h5, h6⟩ := HB0.out.cons
      refine ⟨⟨(HJ6.out 0 (by decide)).trans HM.out.c0, c2c, H6.out.2.1, ?_, fun g hg => ?_, by omega, Nat.le_refl _, by rw [hlen]; exact hl, fun j hj => ?_, gc, h1, by omega, hne6 gc h2 h1 h3, ?_, ?_, ?_⟩⟩
      · rw [hlen, flat_append]
        exact HCE.out ▸ H6.out.2.2
      · have e' : g6 = g := by simpa [Value.ownBlock] using hg
        omega
      · rw [hlen] at hj
        rcases Nat.lt_or_ge j N with hlt | hge
        · have hjl : j < cs.length := by rw [HN.out]; exact hlt
          rw [show (cs ++ [c]).getD j Tc.zero = cs.getD j Tc.zero from by simp [List.getD_eq_getElem?_getD, List.getElem?_append_left hjl]]
          exact (HB0.out.args j hjl).turn (by omega) (fun g hg hl hne => hne6 g hg (by omega) hne) (fun g hg hl hne => hold2 g hg (by omega) hne)
        · have hjN : j = cs.length := by rw [HN.out]; omega
          subst hjN
          rw [show (cs ++ [c]).getD cs.length Tc.zero = c from by simp [List.getD_eq_getElem?_getD]]
          exact HN0.out.turn (by omega) (fun g hg hl hne => hne6 g hg (by omega) hne) (fun g hg hl hne => hold2 g hg (by omega) hne)
      · exact (HJ6.out 1 (by decide)).trans ((HB1.out.cell (p := ⟨b, 1, none⟩) hold).trans h4)
      · exact (cell_of_block (a := ⟨gc, 0, none⟩) (hold2 gc h2 (by omega) h3)).trans h5
      · exact (cell_of_block (a := ⟨gc, 1, none⟩) (hold2 gc h2 (by omega) h3)).trans h6
    have HBL : Hid' (Below b w wc) := ⟨(HB1.out.mono (by omega)).trans bb6⟩
    go_wp2
    go_ret
    exact ⟨by first | rfl | (congr 2; omega), ⟨_, HBK.out⟩, HBL.out⟩
end Go.Proofs.YtlijfkmcaccflaaGreatDoor
