/-
  Contracts of the program of layer 4, to show: what puts a piece with operands in it.
-/
import Derived.Test.YtbeidmkhpcnbbaaGreatDoorIPShD
import Derived.Deep.RegionLaw
namespace Go.Proofs.YtbeidmkhpcnbbaaGreatDoor.I
open Go Go.RowKit Go.Proofs.YtbeidmkhpcnbbaaGreatDoor.B Go.Proofs.YtbeidmkhpcnbbaaGreatDoor.K Go.Proofs.YtbeidmkhpcnbbaaGreatDoor.E
set_option linter.unusedVariables false

/-- 'row[:F]'. -/
theorem cut_head (W : World) (g L F cap : Nat) (hF : F ≤ cap) :
    (Instr.sliceAt 37 (.slice (some ⟨g, 0, none⟩) L cap) none (some (.int .i64 (F : Int))) none).run Tryz.prog W = .ok (.slice (some ⟨g, 0, none⟩) F cap) W := by
  have he : Tryz.prog.underlying 37 = some (.slice (Tryz.prog.elem 37)) := by kernel_rfl
  have hs : (sizeOf (Tryz.prog.elem 37)).run Tryz.prog W = .ok 2 W := by kernel_rfl
  rw [run_sliceAt_slice W 37 _ _ _ _ he, run_slice_h W 37 _ _ _ he .i64 (F : Int) (by omega) (by omega), hs]
  simp only [Result.andThen, sliced, Int.toNat_natCast, Option.map, Go.WideShapes.add_plain, Nat.zero_mul, Nat.add_zero, Nat.sub_zero]
  split <;> rfl

/-- 'row[F:]'. -/
theorem cut_tail (W : World) (g L F cap : Nat) (hF : F ≤ L) (hL : L ≤ cap) (hlt : F < cap) :
    (Instr.sliceAt 37 (.slice (some ⟨g, 0, none⟩) L cap) (some (.int .i64 (F : Int))) none none).run Tryz.prog W = .ok (.slice (some ⟨g, F * 2, none⟩) (L - F) (cap - F)) W := by
  have he : Tryz.prog.underlying 37 = some (.slice (Tryz.prog.elem 37)) := by kernel_rfl
  have hs : (sizeOf (Tryz.prog.elem 37)).run Tryz.prog W = .ok 2 W := by kernel_rfl
  rw [run_sliceAt_slice W 37 _ _ _ _ he, run_slice_l W 37 _ _ _ he .i64 (F : Int) (by omega) (by omega), hs]
  simp only [Result.andThen, sliced, Int.toNat_natCast]
  rw [if_neg (by omega)]
  simp only [Option.map, Go.WideShapes.add_plain, Nat.zero_add]
/-- The row's shape. -/
theorem row_form {w : World} {base : Nat} {v : Value} {ps : List Pc} (h : RowP w base v ps) (h0 : 0 < ps.length) : ∃ g cap, v = .slice (some ⟨g, 0, none⟩) ps.length cap ∧ ps.length ≤ cap ∧ cap ≤ maxLen ∧ base ≤ g ∧ g < w.heap.size ∧
    ∀ (j : Nat) (p : Pc), ps[j]? = some p → w.cell? ⟨g, j * 2, none⟩ = some (sv p.1) ∧ w.cell? ⟨g, j * 2 + 1, none⟩ = some (.int .i64 p.2) := by
  have h' := h
  obtain ⟨hl, h⟩ := h
  rcases h with ⟨_, h1⟩ | ⟨g, cap, cur, hv, hb, hg, hc, hm, hsz, ht⟩
  · omega
  · refine ⟨g, cap, hv, hc, hm, hb, (Array.getElem?_eq_some_iff.1 hg).1, fun j p hj => ?_⟩
    obtain ⟨c0, c1⟩ := cellsP_at ps j p hj
    have hjl : j < ps.length := (List.getElem?_eq_some_iff.1 hj).1
    have key : ∀ m u, (cellsP ps)[m]? = some u → w.cell? ⟨g, m, none⟩ = some u := by
      intro m u hu
      rw [cell_of_row _ _ _ _ _ _ hg, ← Array.getElem?_toList]
      have hml : m < (cellsP ps).length := (List.getElem?_eq_some_iff.1 hu).1
      rw [cellsP_length] at hml
      rw [← ht, List.getElem?_take_of_lt hml] at hu
      exact hu
    exact ⟨key _ _ c0, key _ _ c1⟩

/-- A beginning of the row. -/
theorem row_head {w : World} {base g cap : Nat} {ps : List Pc} (h : RowP w base (.slice (some ⟨g, 0, none⟩) ps.length cap) ps) (h0 : 0 < ps.length) (F : Nat) (hF : F ≤ ps.length) : RowP w base (.slice (some ⟨g, 0, none⟩) F cap) (ps.take F) := by
  obtain ⟨hl, h⟩ := h
  rcases h with ⟨h1, _⟩ | ⟨g', cap', cur, hv, hb, hg, hc, hm, hsz, ht⟩
  · cases h1
  · obtain ⟨e1, e2, e3⟩ := Value.slice.inj hv
    cases e1
    subst e3
    have hlen : (ps.take F).length = F := by rw [List.length_take]; omega
    have hsplit : cellsP ps = cellsP (ps.take F) ++ cellsP (ps.drop F) := by rw [← cellsP_append, List.take_append_drop]
    refine ⟨by rw [cellsP_length], Or.inr ⟨g, cap, cur, by rw [hlen], hb, hg, by omega, hm, hsz, ?_⟩⟩
    have h2 : cur.toList.take (F * 2) = (cur.toList.take (ps.length * 2)).take (F * 2) := by rw [List.take_take]; congr 1; omega
    rw [hlen, h2, ht, hsplit]
    exact List.take_left' (by rw [cellsP_length, hlen])

theorem row_tail {w : World} {g : Nat} {ps : List Pc} (hc : ∀ (j : Nat) (p : Pc), ps[j]? = some p → w.cell? ⟨g, j * 2, none⟩ = some (sv p.1) ∧ w.cell? ⟨g, j * 2 + 1, none⟩ = some (.int .i64 p.2)) (F c : Nat) (hF : F ≤ ps.length) : SlP w (.slice (some ⟨g, F * 2, none⟩) (ps.length - F) c) (ps.drop F) := by
  refine ⟨_, c, by rw [List.length_drop], fun j p hj => ⟨g, F * 2, rfl, ?_⟩⟩
  rw [List.getElem?_drop] at hj
  obtain ⟨h1, h2⟩ := hc _ p hj
  rw [show F * 2 + j * 2 = (F + j) * 2 by omega]
  exact ⟨h1, h2⟩

theorem row_pushed {w w1 w3 : World} {base g cap F : Nat} {v : Value} {ps : List Pc} {s : Bs} {l : Int} {X : Obj} (hb : Below base w w1) (hs : base ≤ w1.heap.size) (hF : ps.length = F) (hr : w1.ownsRow base 41 2 v F (cellsP ps))
    (ho : w3.ownsRow base 41 2 (.slice (some ⟨g, 0, none⟩) (F + 1) cap) (F + 1) (cellsP ps ++ [.string (str s), .int .i64 l])) (hg : (w1.alloc X).grownBy w3 v.ownBlock) :
    RowP w3 base (.slice (some ⟨g, 0, none⟩) (F + 1) cap) (ps ++ [(s, l)]) ∧ Below base w w3 := by
  subst hF
  exact row_push hb hs hr ho hg

set_option maxHeartbeats 4000000 in
set_option maxRecDepth 100000 in
theorem put_op {w : World} {base bx : Nat} {v : Value} {ps : List Pc} (o k : Nat) (ho : 4 ≤ o) (ho2 : o ≤ 16) (hk : takes (o : Int) = (k : Int)) (T : Bs) (hT : ∀ (W : World) (u : Value), Glob W → SlP W u (ps.drop (ps.length - k)) → Calls Tryz.prog 28 #[.int .i64 (o : Int), u] W fun e w' => e = .returned (sv T) ∧ Below W.heap.size W w')
    (hkn : k ≤ ps.length) (hg : Glob w) (hr : RowP w base v ps) (hbs : base ≤ w.heap.size) (hn : ps.length ≤ 1000) :
    Calls Tryz.prog 23 #[v, .agg #[.int .i64 (o : Int), .int .i64 0], .pointer (some ⟨bx, 0, none⟩)] w fun e w' => (∃ v', e = .returned v' ∧ RowP w' base v' (ps.take (ps.length - k) ++ [(T, lvl (o : Int))])) ∧ Below base w w' := by
  obtain ⟨i0, hi, hz0, hz1, hz2⟩ := pieceInfo
  have hk0 : 0 < k := by
    have hti := takes_is (o : Int)
    omega
  obtain ⟨g, cap, rfl, hcap, hcm, hbg, hgl, hcells⟩ := row_form hr (by omega)
  have HOPR := Lib.hid (fun W => operands_any (o : Int) (by omega) (by omega) W)
  rw [hk] at HOPR
  have HLV := Lib.hid (fun W => level_any (o : Int) (by omega) (by omega) W)
  obtain ⟨L, hL⟩ : ∃ L, lvl (o : Int) = L := ⟨_, rfl⟩
  rw [hL] at HLV ⊢
  have hb1 : ((o : Int) == 1) = false := by rw [beq_eq_false_iff_ne]; omega
  have hb2 : ((o : Int) == 2) = false := by rw [beq_eq_false_iff_ne]; omega
  have hb3 : ((o : Int) == 3) = false := by rw [beq_eq_false_iff_ne]; omega
  obtain ⟨X, hX⟩ : ∃ X, (Obj.cells #[.int .i64 (o : Int), .int .i64 0] 39 (0, 0)) = X := ⟨_, rfl⟩
  have hal := (Below.refl w.heap.size w).alloc (Nat.le_refl _) X
  have hald := hal.drew
  obtain ⟨F, hF⟩ : ∃ F, ps.length - k = F := ⟨_, rfl⟩
  obtain ⟨n, hnn⟩ : ∃ n, ps.length = n := ⟨_, rfl⟩
  have hct : ∀ (j : Nat) (p : Pc), ps[j]? = some p → (w.alloc X).drew.cell? ⟨g, j * 2, none⟩ = some (sv p.1) ∧ (w.alloc X).drew.cell? ⟨g, j * 2 + 1, none⟩ = some (.int .i64 p.2) := fun j p hj => ⟨cell_kept hald (hcells j p hj).1, cell_kept hald (hcells j p hj).2⟩
  have hsp := row_tail hct F (cap - F) (by omega)
  have hrh := row_head (hr.below hald) (by omega) F (by omega)
  rw [hF] at hT ⊢
  have HTG := Lib.hid (hT _ _ (hg.below hald) hsp)
  rw [hnn] at HTG hkn hcap hn hF
  have HRH := Lib.hid hrh
  have HLT := Lib.hid (show (ps.take F).length = F by rw [List.length_take]; omega)
  have hsl1 := fun W => cut_head W g n F cap (by omega)
  have hsl2 := fun W => cut_tail W g n F cap (by omega) hcap (by omega)
  have hF2 : IntKind.i64.wrap ((n : Int) - (k : Int)) = (F : Int) := by rw [show (n : Int) - (k : Int) = (F : Int) by omega]; exact IntWalk.i64_in _ (by omega)
  have HAL := Lib.hid (hald.mono hbs)
  have HBX := Lib.hid (show (w.alloc X).drew.cell? ⟨w.heap.size, 0, none⟩ = some (.int .i64 (o : Int)) by
    show (w.alloc X).cell? ⟨w.heap.size, 0, none⟩ = _
    rw [cell_of_row _ _ _ _ _ _ (show (w.alloc X).heap[w.heap.size]? = some (.cells #[.int .i64 (o : Int), .int .i64 0] 39 (0, 0)) by rw [hX]; exact heap_alloc_at _ _)]
    rfl)
  have HBS := Lib.hid hbs
  have HBG := Lib.hid hbg
  have HR1 := Lib.hid (show F + 1 ≤ maxLen by unfold maxLen; omega)
  have HR2 := Lib.hid (show (F + 1) * 24 ≤ 140737488355328 by omega)
  subst hX
  rw [hnn]
  unfold sv at HTG
  clear hg hr hal hald hbs hn hkn hcap hcm hbg hgl hcells hct hsp hrh hT hL hk hk0 ho ho2 hnn hF
  go_enter Tryz.func23, Tryz.ntmps23
  go_upto_region 9 with (go_at_call 27; refine (HOPR.out _).mono ?_; rintro _ w1 ⟨rfl, rfl⟩)
  go_region_law (first | (refine step_append_lies _ rfl _ _ 37 rfl base 41 i0 (.agg #[.string ⟨#[]⟩, .int .i64 0]) 2 24 Tryz.underlying37 hi hz0 hz1 hz2 rfl (by decide) (.slice (some ⟨g, 0, none⟩) F cap) F (cellsP (ps.take F)) rfl (World.ownsRow.alloc HO5.out _) ⟨w5.heap.size, 0, none⟩ 1 1 [.string (str T), .int .i64 L] rfl rfl (piece_new _ _ _) (piece_cell _ _) (by decide) HR1.out HR2.out HB6.out _ rfl ?_; intro g6 cap6 w6 hown6 hgrow6 hblk6 hlt6) | (go_simp; go_at_call 28; refine HTG.out.mono ?_; rintro _ w5 ⟨rfl, hb5⟩; have HO5 := Lib.hid (show w5.ownsRow base 41 2 (.slice (some ⟨g, 0, none⟩) F cap) F (cellsP (ps.take F)) by have h := HRH.out.below hb5; unfold RowP at h; rw [HLT.out] at h; exact h); have HB5 := Lib.hid (HAL.out.trans (hb5.mono (by have := HBS.out; simp; omega))); have HS5 := Lib.hid (show base ≤ w5.heap.size by have := hb5.size; have := HBS.out; simp at *; omega); have HB6 := Lib.hid (show base ≤ (w5.alloc (.cells #[.string (str T), .int .i64 L] 41)).heap.size by have := HS5.out; simp; omega); have c5 := cell_kept hb5 HBX.out; clear hb5) | (go_simp; go_at_call 29; refine (HLV.out _).mono ?_; rintro _ w7 ⟨rfl, rfl⟩))
  all_goals
    have HF := Lib.hid (row_pushed HB5.out HS5.out HLT.out HO5.out hown6 hgrow6)
    clear hown6 hgrow6 hblk6
    go_wp2_with fail
    go_ret
    exact ⟨⟨_, rfl, HF.out.1⟩, HF.out.2⟩
end Go.Proofs.YtbeidmkhpcnbbaaGreatDoor.I
