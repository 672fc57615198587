/-
  Layer 5, the program's side: the parts of a rule.
-/
import Derived.Test.YtfooiggedgcjcaaGreatDoorTRow
namespace Go.Proofs.YtfooiggedgcjcaaGreatDoor.R
open Go Go.RowKit Go.Proofs.YtfooiggedgcjcaaGreatDoor.B Go.Proofs.YtfooiggedgcjcaaGreatDoor.K Go.Proofs.YtfooiggedgcjcaaGreatDoor.E
set_option linter.unusedVariables false

set_option maxHeartbeats 4000000 in
set_option maxRecDepth 100000 in
theorem ofRule_any (t : Tb) (c0 c1 c2 c3 : Value) (n : Nat) (r : Rl) (w : World) (h : TbIs w [c0, c1, c2, c3] t) (hw : TbWf t) (hG : I.Glob w) (hr : t.rules[n]? = some r) :
    Calls Tryz.prog 20 #[.agg #[c0, c1, c2, c3], .int .i64 (n : Int)] w fun z w' => (∃ v, z = .returned v ∧ SlOf w' 4 (PtIs w') v (ruleParts t n r)) ∧ Below w.heap.size w w' := by
  have HT := Lib.hid h
  have HW := Lib.hid hw
  obtain ⟨d0, d1, d2, d3, e, h0, h1, h2, h3⟩ := h
  cases e
  obtain ⟨⟨hw0, hl0⟩, ⟨hw1, hl1⟩, ⟨hw2, hl2⟩, ⟨hw3, hl3⟩⟩ := hw
  obtain ⟨a0, cap0, rfl⟩ := sl_len h0
  obtain ⟨a1, cap1, rfl⟩ := sl_len h1
  obtain ⟨a2, cap2, rfl⟩ := sl_len h2
  obtain ⟨a3, cap3, rfl, h3⟩ := h3.open
  rw [List.length_map, List.length_map, List.length_map] at HT ⊢
  obtain ⟨b, off, ea, cs, -, ⟨vf, vg, vp, rfl, hf, hg, hp⟩, hc⟩ := h3.at hr
  subst ea
  obtain ⟨hnm, -, ⟨hfw, hfl⟩, ⟨hgw, hgl⟩, ⟨hpw, hpl⟩⟩ := hw3 r (List.mem_of_getElem? hr)
  obtain ⟨af, capf, rfl⟩ := sl_len hf
  obtain ⟨ag, capg, rfl, hg⟩ := hg.open
  obtain ⟨ap, capp, rfl, hp⟩ := hp.open
  rw [List.length_map] at hc
  have hRP : ruleParts t n r = [⟨5, nameE r.name (decide (idxP (fun x => x.name == r.name) t.rules < (n : Int))), 0, fun _ => 0⟩, ⟨6, unlessE (decide (0 ≤ r.args ∧ r.args ≤ 4)) 3, 0, fun _ => 0⟩, ⟨7, 0, r.from_.length, fromBad t.states.length r.from_⟩, ⟨8, countE r.guards.length 0 4, r.guards.length, guardBad t.vars.length r.args r.guards⟩, ⟨9, countE r.steps.length 1 3, r.steps.length, stepBad t.states.length t.vars.length r.args r.steps⟩] := by
    rw [idxP_lt _ t.rules n r hr (by simp)]; rfl
  rw [hRP]
  have hSf : SlN w (.slice af r.from_.length capf) r.from_ := by rw [List.length_map] at hf; exact hf
  have hnN : n < t.rules.length := (List.getElem?_eq_some_iff.1 hr).1
  have k0 : w.cell? ⟨b, off + n * 5, none⟩ = some (.string (str r.name)) := hc 0 _ rfl
  have k1 := hc 1 _ rfl
  have k2 := hc 2 _ rfl
  have k3 := hc 3 _ rfl
  have k4 := hc 4 _ rfl
  obtain ⟨A, hA⟩ : ∃ A, r.args = A := ⟨_, rfl⟩
  obtain ⟨nm, hnm0⟩ : ∃ s, r.name = s := ⟨_, rfl⟩
  obtain ⟨i, hi⟩ : ∃ i, idxP (fun x => x.name == r.name) t.rules = i := ⟨_, rfl⟩
  rw [hi, hA]
  rw [hA] at k1
  have HFD0 := Lib.hid (fun (W : World) (hb : Below w.heap.size w W) => hi ▸ find_any t (.slice a0 t.states.length cap0) (.slice a1 t.vars.length cap1) (.slice a2 t.start.length cap2) (.slice (some ⟨b, off, none⟩) t.rules.length cap3) r.name W (HT.out.below hb) HW.out)
  have HON0 := Lib.hid (fun (W : World) (hb : Below w.heap.size w W) => ofName_any r.name (decide (i < (n : Int))) W (hG.below hb) hnm)
  have HFR0 := Lib.hid (fun (W : World) (hb : Below w.heap.size w W) => from_any r.from_ (.slice af r.from_.length capf) (.slice a0 t.states.length cap0) (.slice a1 t.vars.length cap1) (.slice a2 t.start.length cap2) (.slice (some ⟨b, off, none⟩) t.rules.length cap3) (sv r.name) (.int .i64 A) (.slice ag r.guards.length capg) (.slice ap r.steps.length capp) t.states.length W (Sl.below hSf hb) hfl ⟨_, _, rfl⟩)
  have HGD0 := Lib.hid (fun (W : World) (hb : Below w.heap.size w W) => guards_any r.guards (.slice ag r.guards.length capg) (.slice a0 t.states.length cap0) (.slice a1 t.vars.length cap1) (.slice a2 t.start.length cap2) (.slice (some ⟨b, off, none⟩) t.rules.length cap3) (sv r.name) (.slice af r.from_.length capf) (.slice ap r.steps.length capp) t.vars.length A W (hg.below hb (fun _ _ q => q.below hb)) hgw ⟨_, _, rfl⟩)
  have HSP0 := Lib.hid (fun (W : World) (hb : Below w.heap.size w W) => steps_any r.steps (.slice ap r.steps.length capp) (.slice a0 t.states.length cap0) (.slice a1 t.vars.length cap1) (.slice a2 t.start.length cap2) (.slice (some ⟨b, off, none⟩) t.rules.length cap3) (sv r.name) (.slice af r.from_.length capf) (.slice ag r.guards.length capg) t.states.length t.vars.length A W (hp.below hb (fun _ _ q => q.below hb)) hpw ⟨_, _, rfl⟩ ⟨_, _, rfl⟩)
  unfold sv at HFD0 HON0 HFR0 HGD0 HSP0
  obtain ⟨E5, hE5⟩ : ∃ E, nameE r.name (decide (i < (n : Int))) = E := ⟨_, rfl⟩
  rw [hE5] at HON0 ⊢
  rw [hnm0] at HFD0 HON0 HFR0 HGD0 HSP0 k0
  obtain ⟨N0, hN0⟩ : ∃ N, t.states.length = N := ⟨_, rfl⟩
  obtain ⟨N1, hN1⟩ : ∃ N, t.vars.length = N := ⟨_, rfl⟩
  obtain ⟨N2, hN2⟩ : ∃ N, t.start.length = N := ⟨_, rfl⟩
  obtain ⟨N3, hN3⟩ : ∃ N, t.rules.length = N := ⟨_, rfl⟩
  obtain ⟨F, hF⟩ : ∃ N, r.from_.length = N := ⟨_, rfl⟩
  obtain ⟨G, hGG⟩ : ∃ N, r.guards.length = N := ⟨_, rfl⟩
  obtain ⟨T, hTT⟩ : ∃ N, r.steps.length = N := ⟨_, rfl⟩
  rw [hN0, hN1, hN2, hN3] at HFD0 HFR0 HGD0 HSP0
  rw [hF, hGG, hTT] at HFR0 HGD0 HSP0 ⊢
  rw [hN0, hN1, hN2, hN3]
  rw [hF] at k2
  rw [hGG] at k3
  rw [hTT] at k4
  rw [hN3] at hnN
  obtain ⟨fB, hfB⟩ : ∃ f, fromBad (N0 : Int) r.from_ = f := ⟨_, rfl⟩
  obtain ⟨gB, hgB⟩ : ∃ f, guardBad (N1 : Int) A r.guards = f := ⟨_, rfl⟩
  obtain ⟨sB, hsB⟩ : ∃ f, stepBad (N0 : Int) (N1 : Int) A r.steps = f := ⟨_, rfl⟩
  rw [hfB] at HFR0 ⊢
  rw [hgB] at HGD0 ⊢
  rw [hsB] at HSP0 ⊢
  obtain ⟨W0, hW0⟩ : ∃ W0, w.alloc (.cells #[.slice a0 N0 cap0, .slice a1 N1 cap1, .slice a2 N2 cap2, .slice (some ⟨b, off, none⟩) N3 cap3] 26) = W0 := ⟨_, rfl⟩
  have hB0 : Below w.heap.size w W0 := by rw [← hW0]; exact below_alloc _ _
  have q0 : W0.cell? ⟨w.heap.size, 0, none⟩ = some (.slice a0 N0 cap0) := by rw [← hW0]; exact box_cell _ _ _ _ _ rfl
  have q1 : W0.cell? ⟨w.heap.size, 1, none⟩ = some (.slice a1 N1 cap1) := by rw [← hW0]; exact box_cell _ _ _ _ _ rfl
  have q2 : W0.cell? ⟨w.heap.size, 2, none⟩ = some (.slice a2 N2 cap2) := by rw [← hW0]; exact box_cell _ _ _ _ _ rfl
  have q3 : W0.cell? ⟨w.heap.size, 3, none⟩ = some (.slice (some ⟨b, off, none⟩) N3 cap3) := by rw [← hW0]; exact box_cell _ _ _ _ _ rfl
  have k0 := kept_cell hB0 k0
  have k1 := kept_cell hB0 k1
  have k2 := kept_cell hB0 k2
  have k3 := kept_cell hB0 k3
  have k4 := kept_cell hB0 k4
  obtain ⟨W1, hW1⟩ : ∃ W1, W0.alloc (.cells #[.string (str nm), .int .i64 A, .slice af F capf, .slice ag G capg, .slice ap T capp] 58) = W1 := ⟨_, rfl⟩
  have hB1 : Below W0.heap.size W0 W1 := by rw [← hW1]; exact below_alloc _ _
  have HB1 := Lib.hid (hB0.trans (hB1.mono hB0.size))
  have r0 : W1.cell? ⟨W0.heap.size, 0, none⟩ = some (.string (str nm)) := by rw [← hW1]; exact box_cell _ _ _ _ _ rfl
  have r1 : W1.cell? ⟨W0.heap.size, 1, none⟩ = some (.int .i64 A) := by rw [← hW1]; exact box_cell _ _ _ _ _ rfl
  have r2 : W1.cell? ⟨W0.heap.size, 2, none⟩ = some (.slice af F capf) := by rw [← hW1]; exact box_cell _ _ _ _ _ rfl
  have r3 : W1.cell? ⟨W0.heap.size, 3, none⟩ = some (.slice ag G capg) := by rw [← hW1]; exact box_cell _ _ _ _ _ rfl
  have r4 : W1.cell? ⟨W0.heap.size, 4, none⟩ = some (.slice ap T capp) := by rw [← hW1]; exact box_cell _ _ _ _ _ rfl
  have HR := Lib.hid (show W1.drew.cell? ⟨w.heap.size, 0, none⟩ = some (.slice a0 N0 cap0) ∧ W1.drew.cell? ⟨w.heap.size, 1, none⟩ = some (.slice a1 N1 cap1) ∧ W1.drew.cell? ⟨w.heap.size, 2, none⟩ = some (.slice a2 N2 cap2) ∧ W1.drew.cell? ⟨w.heap.size, 3, none⟩ = some (.slice (some ⟨b, off, none⟩) N3 cap3) ∧ W1.drew.cell? ⟨W0.heap.size, 0, none⟩ = some (.string (str nm)) ∧ W1.drew.cell? ⟨W0.heap.size, 1, none⟩ = some (.int .i64 A) ∧ W1.drew.cell? ⟨W0.heap.size, 2, none⟩ = some (.slice af F capf) ∧ W1.drew.cell? ⟨W0.heap.size, 3, none⟩ = some (.slice ag G capg) ∧ W1.drew.cell? ⟨W0.heap.size, 4, none⟩ = some (.slice ap T capp) ∧ Below W1.heap.size W1 W1.drew from ⟨kept_cell hB1.drew q0, kept_cell hB1.drew q1, kept_cell hB1.drew q2, kept_cell hB1.drew q3, r0, r1, r2, r3, r4, (Below.refl _ _).drew⟩)
  have HFD := Lib.hid (fun (W : World) (hS : W.cell? ⟨w.heap.size, 0, none⟩ = some (.slice a0 N0 cap0) ∧ W.cell? ⟨w.heap.size, 1, none⟩ = some (.slice a1 N1 cap1) ∧ W.cell? ⟨w.heap.size, 2, none⟩ = some (.slice a2 N2 cap2) ∧ W.cell? ⟨w.heap.size, 3, none⟩ = some (.slice (some ⟨b, off, none⟩) N3 cap3) ∧ W.cell? ⟨W0.heap.size, 0, none⟩ = some (.string (str nm)) ∧ W.cell? ⟨W0.heap.size, 1, none⟩ = some (.int .i64 A) ∧ W.cell? ⟨W0.heap.size, 2, none⟩ = some (.slice af F capf) ∧ W.cell? ⟨W0.heap.size, 3, none⟩ = some (.slice ag G capg) ∧ W.cell? ⟨W0.heap.size, 4, none⟩ = some (.slice ap T capp) ∧ Below W1.heap.size W1 W) => calls_keepF (S := fun W => W.cell? ⟨w.heap.size, 0, none⟩ = some (.slice a0 N0 cap0) ∧ W.cell? ⟨w.heap.size, 1, none⟩ = some (.slice a1 N1 cap1) ∧ W.cell? ⟨w.heap.size, 2, none⟩ = some (.slice a2 N2 cap2) ∧ W.cell? ⟨w.heap.size, 3, none⟩ = some (.slice (some ⟨b, off, none⟩) N3 cap3) ∧ W.cell? ⟨W0.heap.size, 0, none⟩ = some (.string (str nm)) ∧ W.cell? ⟨W0.heap.size, 1, none⟩ = some (.int .i64 A) ∧ W.cell? ⟨W0.heap.size, 2, none⟩ = some (.slice af F capf) ∧ W.cell? ⟨W0.heap.size, 3, none⟩ = some (.slice ag G capg) ∧ W.cell? ⟨W0.heap.size, 4, none⟩ = some (.slice ap T capp) ∧ Below W1.heap.size W1 W) (HFD0.out W (HB1.out.trans (hS.2.2.2.2.2.2.2.2.2.mono HB1.out.size))) (fun W' hb => ⟨kept_cell hb hS.1, kept_cell hb hS.2.1, kept_cell hb hS.2.2.1, kept_cell hb hS.2.2.2.1, kept_cell hb hS.2.2.2.2.1, kept_cell hb hS.2.2.2.2.2.1, kept_cell hb hS.2.2.2.2.2.2.1, kept_cell hb hS.2.2.2.2.2.2.2.1, kept_cell hb hS.2.2.2.2.2.2.2.2.1, hS.2.2.2.2.2.2.2.2.2.trans (hb.mono hS.2.2.2.2.2.2.2.2.2.size)⟩))
  have HON := Lib.hid (fun (W : World) (hS : W.cell? ⟨w.heap.size, 0, none⟩ = some (.slice a0 N0 cap0) ∧ W.cell? ⟨w.heap.size, 1, none⟩ = some (.slice a1 N1 cap1) ∧ W.cell? ⟨w.heap.size, 2, none⟩ = some (.slice a2 N2 cap2) ∧ W.cell? ⟨w.heap.size, 3, none⟩ = some (.slice (some ⟨b, off, none⟩) N3 cap3) ∧ W.cell? ⟨W0.heap.size, 0, none⟩ = some (.string (str nm)) ∧ W.cell? ⟨W0.heap.size, 1, none⟩ = some (.int .i64 A) ∧ W.cell? ⟨W0.heap.size, 2, none⟩ = some (.slice af F capf) ∧ W.cell? ⟨W0.heap.size, 3, none⟩ = some (.slice ag G capg) ∧ W.cell? ⟨W0.heap.size, 4, none⟩ = some (.slice ap T capp) ∧ Below W1.heap.size W1 W) => calls_keepB (S := fun W => W.cell? ⟨w.heap.size, 0, none⟩ = some (.slice a0 N0 cap0) ∧ W.cell? ⟨w.heap.size, 1, none⟩ = some (.slice a1 N1 cap1) ∧ W.cell? ⟨w.heap.size, 2, none⟩ = some (.slice a2 N2 cap2) ∧ W.cell? ⟨w.heap.size, 3, none⟩ = some (.slice (some ⟨b, off, none⟩) N3 cap3) ∧ W.cell? ⟨W0.heap.size, 0, none⟩ = some (.string (str nm)) ∧ W.cell? ⟨W0.heap.size, 1, none⟩ = some (.int .i64 A) ∧ W.cell? ⟨W0.heap.size, 2, none⟩ = some (.slice af F capf) ∧ W.cell? ⟨W0.heap.size, 3, none⟩ = some (.slice ag G capg) ∧ W.cell? ⟨W0.heap.size, 4, none⟩ = some (.slice ap T capp) ∧ Below W1.heap.size W1 W) (HON0.out W (HB1.out.trans (hS.2.2.2.2.2.2.2.2.2.mono HB1.out.size))) hS)
  have HFR := Lib.hid (fun (W : World) (hS : W.cell? ⟨w.heap.size, 0, none⟩ = some (.slice a0 N0 cap0) ∧ W.cell? ⟨w.heap.size, 1, none⟩ = some (.slice a1 N1 cap1) ∧ W.cell? ⟨w.heap.size, 2, none⟩ = some (.slice a2 N2 cap2) ∧ W.cell? ⟨w.heap.size, 3, none⟩ = some (.slice (some ⟨b, off, none⟩) N3 cap3) ∧ W.cell? ⟨W0.heap.size, 0, none⟩ = some (.string (str nm)) ∧ W.cell? ⟨W0.heap.size, 1, none⟩ = some (.int .i64 A) ∧ W.cell? ⟨W0.heap.size, 2, none⟩ = some (.slice af F capf) ∧ W.cell? ⟨W0.heap.size, 3, none⟩ = some (.slice ag G capg) ∧ W.cell? ⟨W0.heap.size, 4, none⟩ = some (.slice ap T capp) ∧ Below W1.heap.size W1 W) => calls_keepF (S := fun W => W.cell? ⟨w.heap.size, 0, none⟩ = some (.slice a0 N0 cap0) ∧ W.cell? ⟨w.heap.size, 1, none⟩ = some (.slice a1 N1 cap1) ∧ W.cell? ⟨w.heap.size, 2, none⟩ = some (.slice a2 N2 cap2) ∧ W.cell? ⟨w.heap.size, 3, none⟩ = some (.slice (some ⟨b, off, none⟩) N3 cap3) ∧ W.cell? ⟨W0.heap.size, 0, none⟩ = some (.string (str nm)) ∧ W.cell? ⟨W0.heap.size, 1, none⟩ = some (.int .i64 A) ∧ W.cell? ⟨W0.heap.size, 2, none⟩ = some (.slice af F capf) ∧ W.cell? ⟨W0.heap.size, 3, none⟩ = some (.slice ag G capg) ∧ W.cell? ⟨W0.heap.size, 4, none⟩ = some (.slice ap T capp) ∧ Below W1.heap.size W1 W) (HFR0.out W (HB1.out.trans (hS.2.2.2.2.2.2.2.2.2.mono HB1.out.size))) (fun W' hb => ⟨kept_cell hb hS.1, kept_cell hb hS.2.1, kept_cell hb hS.2.2.1, kept_cell hb hS.2.2.2.1, kept_cell hb hS.2.2.2.2.1, kept_cell hb hS.2.2.2.2.2.1, kept_cell hb hS.2.2.2.2.2.2.1, kept_cell hb hS.2.2.2.2.2.2.2.1, kept_cell hb hS.2.2.2.2.2.2.2.2.1, hS.2.2.2.2.2.2.2.2.2.trans (hb.mono hS.2.2.2.2.2.2.2.2.2.size)⟩))
  have HGD := Lib.hid (fun (W : World) (hS : W.cell? ⟨w.heap.size, 0, none⟩ = some (.slice a0 N0 cap0) ∧ W.cell? ⟨w.heap.size, 1, none⟩ = some (.slice a1 N1 cap1) ∧ W.cell? ⟨w.heap.size, 2, none⟩ = some (.slice a2 N2 cap2) ∧ W.cell? ⟨w.heap.size, 3, none⟩ = some (.slice (some ⟨b, off, none⟩) N3 cap3) ∧ W.cell? ⟨W0.heap.size, 0, none⟩ = some (.string (str nm)) ∧ W.cell? ⟨W0.heap.size, 1, none⟩ = some (.int .i64 A) ∧ W.cell? ⟨W0.heap.size, 2, none⟩ = some (.slice af F capf) ∧ W.cell? ⟨W0.heap.size, 3, none⟩ = some (.slice ag G capg) ∧ W.cell? ⟨W0.heap.size, 4, none⟩ = some (.slice ap T capp) ∧ Below W1.heap.size W1 W) => calls_keepF (S := fun W => W.cell? ⟨w.heap.size, 0, none⟩ = some (.slice a0 N0 cap0) ∧ W.cell? ⟨w.heap.size, 1, none⟩ = some (.slice a1 N1 cap1) ∧ W.cell? ⟨w.heap.size, 2, none⟩ = some (.slice a2 N2 cap2) ∧ W.cell? ⟨w.heap.size, 3, none⟩ = some (.slice (some ⟨b, off, none⟩) N3 cap3) ∧ W.cell? ⟨W0.heap.size, 0, none⟩ = some (.string (str nm)) ∧ W.cell? ⟨W0.heap.size, 1, none⟩ = some (.int .i64 A) ∧ W.cell? ⟨W0.heap.size, 2, none⟩ = some (.slice af F capf) ∧ W.cell? ⟨W0.heap.size, 3, none⟩ = some (.slice ag G capg) ∧ W.cell? ⟨W0.heap.size, 4, none⟩ = some (.slice ap T capp) ∧ Below W1.heap.size W1 W) (HGD0.out W (HB1.out.trans (hS.2.2.2.2.2.2.2.2.2.mono HB1.out.size))) (fun W' hb => ⟨kept_cell hb hS.1, kept_cell hb hS.2.1, kept_cell hb hS.2.2.1, kept_cell hb hS.2.2.2.1, kept_cell hb hS.2.2.2.2.1, kept_cell hb hS.2.2.2.2.2.1, kept_cell hb hS.2.2.2.2.2.2.1, kept_cell hb hS.2.2.2.2.2.2.2.1, kept_cell hb hS.2.2.2.2.2.2.2.2.1, hS.2.2.2.2.2.2.2.2.2.trans (hb.mono hS.2.2.2.2.2.2.2.2.2.size)⟩))
  have HSP := Lib.hid (fun (W : World) (hS : W.cell? ⟨w.heap.size, 0, none⟩ = some (.slice a0 N0 cap0) ∧ W.cell? ⟨w.heap.size, 1, none⟩ = some (.slice a1 N1 cap1) ∧ W.cell? ⟨w.heap.size, 2, none⟩ = some (.slice a2 N2 cap2) ∧ W.cell? ⟨w.heap.size, 3, none⟩ = some (.slice (some ⟨b, off, none⟩) N3 cap3) ∧ W.cell? ⟨W0.heap.size, 0, none⟩ = some (.string (str nm)) ∧ W.cell? ⟨W0.heap.size, 1, none⟩ = some (.int .i64 A) ∧ W.cell? ⟨W0.heap.size, 2, none⟩ = some (.slice af F capf) ∧ W.cell? ⟨W0.heap.size, 3, none⟩ = some (.slice ag G capg) ∧ W.cell? ⟨W0.heap.size, 4, none⟩ = some (.slice ap T capp) ∧ Below W1.heap.size W1 W) => calls_keepF (S := fun W => W.cell? ⟨w.heap.size, 0, none⟩ = some (.slice a0 N0 cap0) ∧ W.cell? ⟨w.heap.size, 1, none⟩ = some (.slice a1 N1 cap1) ∧ W.cell? ⟨w.heap.size, 2, none⟩ = some (.slice a2 N2 cap2) ∧ W.cell? ⟨w.heap.size, 3, none⟩ = some (.slice (some ⟨b, off, none⟩) N3 cap3) ∧ W.cell? ⟨W0.heap.size, 0, none⟩ = some (.string (str nm)) ∧ W.cell? ⟨W0.heap.size, 1, none⟩ = some (.int .i64 A) ∧ W.cell? ⟨W0.heap.size, 2, none⟩ = some (.slice af F capf) ∧ W.cell? ⟨W0.heap.size, 3, none⟩ = some (.slice ag G capg) ∧ W.cell? ⟨W0.heap.size, 4, none⟩ = some (.slice ap T capp) ∧ Below W1.heap.size W1 W) (HSP0.out W (HB1.out.trans (hS.2.2.2.2.2.2.2.2.2.mono HB1.out.size))) (fun W' hb => ⟨kept_cell hb hS.1, kept_cell hb hS.2.1, kept_cell hb hS.2.2.1, kept_cell hb hS.2.2.2.1, kept_cell hb hS.2.2.2.2.1, kept_cell hb hS.2.2.2.2.2.1, kept_cell hb hS.2.2.2.2.2.2.1, kept_cell hb hS.2.2.2.2.2.2.2.1, kept_cell hb hS.2.2.2.2.2.2.2.2.1, hS.2.2.2.2.2.2.2.2.2.trans (hb.mono hS.2.2.2.2.2.2.2.2.2.size)⟩))
  have HKA := Lib.hid (fun (W : World) (o : Obj) (hS : W.cell? ⟨w.heap.size, 0, none⟩ = some (.slice a0 N0 cap0) ∧ W.cell? ⟨w.heap.size, 1, none⟩ = some (.slice a1 N1 cap1) ∧ W.cell? ⟨w.heap.size, 2, none⟩ = some (.slice a2 N2 cap2) ∧ W.cell? ⟨w.heap.size, 3, none⟩ = some (.slice (some ⟨b, off, none⟩) N3 cap3) ∧ W.cell? ⟨W0.heap.size, 0, none⟩ = some (.string (str nm)) ∧ W.cell? ⟨W0.heap.size, 1, none⟩ = some (.int .i64 A) ∧ W.cell? ⟨W0.heap.size, 2, none⟩ = some (.slice af F capf) ∧ W.cell? ⟨W0.heap.size, 3, none⟩ = some (.slice ag G capg) ∧ W.cell? ⟨W0.heap.size, 4, none⟩ = some (.slice ap T capp) ∧ Below W1.heap.size W1 W) => (show (W.alloc o).cell? ⟨w.heap.size, 0, none⟩ = some (.slice a0 N0 cap0) ∧ (W.alloc o).cell? ⟨w.heap.size, 1, none⟩ = some (.slice a1 N1 cap1) ∧ (W.alloc o).cell? ⟨w.heap.size, 2, none⟩ = some (.slice a2 N2 cap2) ∧ (W.alloc o).cell? ⟨w.heap.size, 3, none⟩ = some (.slice (some ⟨b, off, none⟩) N3 cap3) ∧ (W.alloc o).cell? ⟨W0.heap.size, 0, none⟩ = some (.string (str nm)) ∧ (W.alloc o).cell? ⟨W0.heap.size, 1, none⟩ = some (.int .i64 A) ∧ (W.alloc o).cell? ⟨W0.heap.size, 2, none⟩ = some (.slice af F capf) ∧ (W.alloc o).cell? ⟨W0.heap.size, 3, none⟩ = some (.slice ag G capg) ∧ (W.alloc o).cell? ⟨W0.heap.size, 4, none⟩ = some (.slice ap T capp) ∧ Below W1.heap.size W1 (W.alloc o) from (fun hb => ⟨kept_cell hb hS.1, kept_cell hb hS.2.1, kept_cell hb hS.2.2.1, kept_cell hb hS.2.2.2.1, kept_cell hb hS.2.2.2.2.1, kept_cell hb hS.2.2.2.2.2.1, kept_cell hb hS.2.2.2.2.2.2.1, kept_cell hb hS.2.2.2.2.2.2.2.1, kept_cell hb hS.2.2.2.2.2.2.2.2.1, hS.2.2.2.2.2.2.2.2.2.trans (hb.mono hS.2.2.2.2.2.2.2.2.2.size)⟩) (below_alloc W o)))
  obtain ⟨E8, hE8⟩ : ∃ E, countE (G : Int) 0 4 = E := ⟨_, rfl⟩
  obtain ⟨E9, hE9⟩ : ∃ E, countE (T : Int) 1 3 = E := ⟨_, rfl⟩
  have HCG := Lib.hid (fun (W : World) (hS : W.cell? ⟨w.heap.size, 0, none⟩ = some (.slice a0 N0 cap0) ∧ W.cell? ⟨w.heap.size, 1, none⟩ = some (.slice a1 N1 cap1) ∧ W.cell? ⟨w.heap.size, 2, none⟩ = some (.slice a2 N2 cap2) ∧ W.cell? ⟨w.heap.size, 3, none⟩ = some (.slice (some ⟨b, off, none⟩) N3 cap3) ∧ W.cell? ⟨W0.heap.size, 0, none⟩ = some (.string (str nm)) ∧ W.cell? ⟨W0.heap.size, 1, none⟩ = some (.int .i64 A) ∧ W.cell? ⟨W0.heap.size, 2, none⟩ = some (.slice af F capf) ∧ W.cell? ⟨W0.heap.size, 3, none⟩ = some (.slice ag G capg) ∧ W.cell? ⟨W0.heap.size, 4, none⟩ = some (.slice ap T capp) ∧ Below W1.heap.size W1 W) => calls_keepB (S := fun W => W.cell? ⟨w.heap.size, 0, none⟩ = some (.slice a0 N0 cap0) ∧ W.cell? ⟨w.heap.size, 1, none⟩ = some (.slice a1 N1 cap1) ∧ W.cell? ⟨w.heap.size, 2, none⟩ = some (.slice a2 N2 cap2) ∧ W.cell? ⟨w.heap.size, 3, none⟩ = some (.slice (some ⟨b, off, none⟩) N3 cap3) ∧ W.cell? ⟨W0.heap.size, 0, none⟩ = some (.string (str nm)) ∧ W.cell? ⟨W0.heap.size, 1, none⟩ = some (.int .i64 A) ∧ W.cell? ⟨W0.heap.size, 2, none⟩ = some (.slice af F capf) ∧ W.cell? ⟨W0.heap.size, 3, none⟩ = some (.slice ag G capg) ∧ W.cell? ⟨W0.heap.size, 4, none⟩ = some (.slice ap T capp) ∧ Below W1.heap.size W1 W) (hE8 ▸ count_any (G : Int) 0 4 W) hS)
  have HCT := Lib.hid (fun (W : World) (hS : W.cell? ⟨w.heap.size, 0, none⟩ = some (.slice a0 N0 cap0) ∧ W.cell? ⟨w.heap.size, 1, none⟩ = some (.slice a1 N1 cap1) ∧ W.cell? ⟨w.heap.size, 2, none⟩ = some (.slice a2 N2 cap2) ∧ W.cell? ⟨w.heap.size, 3, none⟩ = some (.slice (some ⟨b, off, none⟩) N3 cap3) ∧ W.cell? ⟨W0.heap.size, 0, none⟩ = some (.string (str nm)) ∧ W.cell? ⟨W0.heap.size, 1, none⟩ = some (.int .i64 A) ∧ W.cell? ⟨W0.heap.size, 2, none⟩ = some (.slice af F capf) ∧ W.cell? ⟨W0.heap.size, 3, none⟩ = some (.slice ag G capg) ∧ W.cell? ⟨W0.heap.size, 4, none⟩ = some (.slice ap T capp) ∧ Below W1.heap.size W1 W) => calls_keepB (S := fun W => W.cell? ⟨w.heap.size, 0, none⟩ = some (.slice a0 N0 cap0) ∧ W.cell? ⟨w.heap.size, 1, none⟩ = some (.slice a1 N1 cap1) ∧ W.cell? ⟨w.heap.size, 2, none⟩ = some (.slice a2 N2 cap2) ∧ W.cell? ⟨w.heap.size, 3, none⟩ = some (.slice (some ⟨b, off, none⟩) N3 cap3) ∧ W.cell? ⟨W0.heap.size, 0, none⟩ = some (.string (str nm)) ∧ W.cell? ⟨W0.heap.size, 1, none⟩ = some (.int .i64 A) ∧ W.cell? ⟨W0.heap.size, 2, none⟩ = some (.slice af F capf) ∧ W.cell? ⟨W0.heap.size, 3, none⟩ = some (.slice ag G capg) ∧ W.cell? ⟨W0.heap.size, 4, none⟩ = some (.slice ap T capp) ∧ Below W1.heap.size W1 W) (hE9 ▸ count_any (T : Int) 1 3 W) hS)
  rw [hE8, hE9]
  have hnI : (n : Int) < (N3 : Int) := by omega
  clear h0 h1 h2 h3 hw0 hw1 hw2 hw3 hl0 hl1 hl2 hl3 hG hRP HFD0 HON0 HFR0 HGD0 HSP0 hB0 hB1 q0 q1 q2 r0 r1 r2 r3 r4 hc hf hg hp hSf hnm hfw hfl hgw hgl hpw hpl hN0 hN1 hN2 hN3 hF hGG hTT hfB hgB hsB hE5 hE8 hE9 hi hA hnm0 hr HT HW
  have hcase : (0 ≤ A ∧ A ≤ 4) ∨ (0 ≤ A ∧ ¬ A ≤ 4) ∨ ¬ 0 ≤ A := by omega
  rcases hcase with ⟨x1, x2⟩ | ⟨x1, x2⟩ | x1
  case' inl => (rw [show decide (0 ≤ A ∧ A ≤ 4) = true from decide_eq_true ⟨x1, x2⟩]; have HU0 := Lib.hid (fun W => unless_any true 3 W); have y1 : decide (0 ≤ A) = true := decide_eq_true x1; have y2 : decide (A ≤ 4) = true := decide_eq_true x2; clear x1 x2)
  case' inr.inl => (rw [show decide (0 ≤ A ∧ A ≤ 4) = false from decide_eq_false (fun h => x2 h.2)]; have HU0 := Lib.hid (fun W => unless_any false 3 W); have y1 : decide (0 ≤ A) = true := decide_eq_true x1; have y2 : decide (A ≤ 4) = false := decide_eq_false x2; clear x1 x2)
  case' inr.inr => (rw [show decide (0 ≤ A ∧ A ≤ 4) = false from decide_eq_false (fun h => x1 h.1)]; have HU0 := Lib.hid (fun W => unless_any false 3 W); have y1 : decide (0 ≤ A) = false := decide_eq_false x1; clear x1)
  case inr.inr =>
    have HU := Lib.hid (fun (W : World) (hS : W.cell? ⟨w.heap.size, 0, none⟩ = some (.slice a0 N0 cap0) ∧ W.cell? ⟨w.heap.size, 1, none⟩ = some (.slice a1 N1 cap1) ∧ W.cell? ⟨w.heap.size, 2, none⟩ = some (.slice a2 N2 cap2) ∧ W.cell? ⟨w.heap.size, 3, none⟩ = some (.slice (some ⟨b, off, none⟩) N3 cap3) ∧ W.cell? ⟨W0.heap.size, 0, none⟩ = some (.string (str nm)) ∧ W.cell? ⟨W0.heap.size, 1, none⟩ = some (.int .i64 A) ∧ W.cell? ⟨W0.heap.size, 2, none⟩ = some (.slice af F capf) ∧ W.cell? ⟨W0.heap.size, 3, none⟩ = some (.slice ag G capg) ∧ W.cell? ⟨W0.heap.size, 4, none⟩ = some (.slice ap T capp) ∧ Below W1.heap.size W1 W) => calls_keepB (S := fun W => W.cell? ⟨w.heap.size, 0, none⟩ = some (.slice a0 N0 cap0) ∧ W.cell? ⟨w.heap.size, 1, none⟩ = some (.slice a1 N1 cap1) ∧ W.cell? ⟨w.heap.size, 2, none⟩ = some (.slice a2 N2 cap2) ∧ W.cell? ⟨w.heap.size, 3, none⟩ = some (.slice (some ⟨b, off, none⟩) N3 cap3) ∧ W.cell? ⟨W0.heap.size, 0, none⟩ = some (.string (str nm)) ∧ W.cell? ⟨W0.heap.size, 1, none⟩ = some (.int .i64 A) ∧ W.cell? ⟨W0.heap.size, 2, none⟩ = some (.slice af F capf) ∧ W.cell? ⟨W0.heap.size, 3, none⟩ = some (.slice ag G capg) ∧ W.cell? ⟨W0.heap.size, 4, none⟩ = some (.slice ap T capp) ∧ Below W1.heap.size W1 W) (HU0.out W) hS)
    simp only [unlessE, Bool.false_eq_true, if_false] at HU ⊢
    clear HU0
    go_enter Tryz.func20, Tryz.ntmps20
    go_upto_region 2 with fail
    have hS0 : W1.drew.cell? ⟨w.heap.size, 0, none⟩ = some (.slice a0 N0 cap0) ∧ W1.drew.cell? ⟨w.heap.size, 1, none⟩ = some (.slice a1 N1 cap1) ∧ W1.drew.cell? ⟨w.heap.size, 2, none⟩ = some (.slice a2 N2 cap2) ∧ W1.drew.cell? ⟨w.heap.size, 3, none⟩ = some (.slice (some ⟨b, off, none⟩) N3 cap3) ∧ W1.drew.cell? ⟨W0.heap.size, 0, none⟩ = some (.string (str nm)) ∧ W1.drew.cell? ⟨W0.heap.size, 1, none⟩ = some (.int .i64 A) ∧ W1.drew.cell? ⟨W0.heap.size, 2, none⟩ = some (.slice af F capf) ∧ W1.drew.cell? ⟨W0.heap.size, 3, none⟩ = some (.slice ag G capg) ∧ W1.drew.cell? ⟨W0.heap.size, 4, none⟩ = some (.slice ap T capp) ∧ Below W1.heap.size W1 W1.drew := HR.out
    refine wp_region_held_drew (S := (fun W => W.cell? ⟨w.heap.size, 0, none⟩ = some (.slice a0 N0 cap0) ∧ W.cell? ⟨w.heap.size, 1, none⟩ = some (.slice a1 N1 cap1) ∧ W.cell? ⟨w.heap.size, 2, none⟩ = some (.slice a2 N2 cap2) ∧ W.cell? ⟨w.heap.size, 3, none⟩ = some (.slice (some ⟨b, off, none⟩) N3 cap3) ∧ W.cell? ⟨W0.heap.size, 0, none⟩ = some (.string (str nm)) ∧ W.cell? ⟨W0.heap.size, 1, none⟩ = some (.int .i64 A) ∧ W.cell? ⟨W0.heap.size, 2, none⟩ = some (.slice af F capf) ∧ W.cell? ⟨W0.heap.size, 3, none⟩ = some (.slice ag G capg) ∧ W.cell? ⟨W0.heap.size, 4, none⟩ = some (.slice ap T capp) ∧ Below W1.heap.size W1 W)) (by kernel_rfl) hS0 (fun hHeld => ?_)
    refine wpAnyH_take (i := 0) (v := ?_) rfl (by kernel_rfl) (by kernel_rfl) (by kernel_rfl) (fun _ _ _ h => h) (Or.inl ⟨by rfl, ?_⟩) (by assumption) ?_
    rotate_left
    focus (intro w hSw; (try dsimp only at hSw); go_simp; try with_reducible rfl)
    (try simp only [Act.put, List.getElem_toArray, List.getElem_cons_zero, List.setIfInBounds_toArray, List.set_cons_zero, List.set_cons_succ])
    refine wpAnyH_take (i := 1) (v := ?_) rfl (by kernel_rfl) (by kernel_rfl) (by kernel_rfl) (fun _ _ _ h => h) (Or.inl ⟨by rfl, ?_⟩) (by assumption) ?_
    rotate_left
    focus (intro w hSw; (try dsimp only at hSw); go_simp; try with_reducible rfl)
    (try simp only [Act.put, List.getElem_toArray, List.getElem_cons_succ, List.getElem_cons_zero, List.setIfInBounds_toArray, List.set_cons_zero, List.set_cons_succ])
    refine wpAnyH_take (i := 2) (v := ?_) rfl (by kernel_rfl) (by kernel_rfl) (by kernel_rfl) (fun _ _ _ h => h) (Or.inl ⟨by rfl, ?_⟩) (by assumption) ?_
    rotate_left
    focus (intro w hSw; (try dsimp only at hSw); go_simp; try with_reducible rfl)
    (try simp only [Act.put, List.getElem_toArray, List.getElem_cons_succ, List.getElem_cons_zero, List.setIfInBounds_toArray, List.set_cons_zero, List.set_cons_succ])
    refine wpAnyH_take (i := 3) (v := ?_) rfl (by kernel_rfl) (by kernel_rfl) (by kernel_rfl) (fun _ _ _ h => h) (Or.inl ⟨by rfl, ?_⟩) (by assumption) ?_
    rotate_left
    focus (intro w hSw; (try dsimp only at hSw); go_simp; try with_reducible rfl)
    (try simp only [Act.put, List.getElem_toArray, List.getElem_cons_succ, List.getElem_cons_zero, List.setIfInBounds_toArray, List.set_cons_zero, List.set_cons_succ])
    refine wpAnyH_take (i := 4) (v := ?_) rfl (by kernel_rfl) (by kernel_rfl) (by kernel_rfl) (fun _ _ _ h => h) (Or.inl ⟨by rfl, ?_⟩) (by assumption) ?_
    rotate_left
    focus (intro w hSw; (try dsimp only at hSw); go_simp; try with_reducible rfl)
    (try simp only [Act.put, List.getElem_toArray, List.getElem_cons_succ, List.getElem_cons_zero, List.setIfInBounds_toArray, List.set_cons_zero, List.set_cons_succ])
    refine wpAnyH_take (i := 6) (v := ?_) rfl (by kernel_rfl) (by kernel_rfl) (by kernel_rfl) (fun _ _ _ h => h) (Or.inl ⟨by rfl, ?_⟩) (by assumption) ?_
    rotate_left
    focus (intro w hSw; (try dsimp only at hSw); go_simp; try with_reducible rfl)
    (try simp only [Act.put, List.getElem_toArray, List.getElem_cons_succ, List.getElem_cons_zero, List.setIfInBounds_toArray, List.set_cons_zero, List.set_cons_succ])
    refine wpAnyH_take (i := 10) (v := ?_) rfl (by kernel_rfl) (by kernel_rfl) (by kernel_rfl) (fun _ _ _ h => h) (Or.inl ⟨by rfl, ?_⟩) (by assumption) ?_
    rotate_left
    focus (intro w hSw; (try dsimp only at hSw); go_simp; try with_reducible rfl)
    (try simp only [Act.put, List.getElem_toArray, List.getElem_cons_succ, List.getElem_cons_zero, List.setIfInBounds_toArray, List.set_cons_zero, List.set_cons_succ])
    refine wpAnyH_take (i := 11) (v := ?_) rfl (by kernel_rfl) (by kernel_rfl) (by kernel_rfl) (fun _ _ _ h => h) (Or.inl ⟨by rfl, ?_⟩) (by assumption) ?_
    rotate_left
    focus (intro w hSw; (try dsimp only at hSw); go_simp; try with_reducible rfl)
    (try simp only [Act.put, List.getElem_toArray, List.getElem_cons_succ, List.getElem_cons_zero, List.setIfInBounds_toArray, List.set_cons_zero, List.set_cons_succ])
    refine wpAnyH_take (i := 12) (v := ?_) rfl (by kernel_rfl) (by kernel_rfl) (by kernel_rfl) (fun _ _ _ h => h) (Or.inl ⟨by rfl, ?_⟩) (by assumption) ?_
    rotate_left
    focus (intro w hSw; (try dsimp only at hSw); go_simp; try with_reducible rfl)
    (try simp only [Act.put, List.getElem_toArray, List.getElem_cons_succ, List.getElem_cons_zero, List.setIfInBounds_toArray, List.set_cons_zero, List.set_cons_succ])
    refine wpAnyH_take (i := 20) (v := ?_) rfl (by kernel_rfl) (by kernel_rfl) (by kernel_rfl) (fun _ _ _ h => h) (Or.inl ⟨by rfl, ?_⟩) (by assumption) ?_
    rotate_left
    focus (intro w hSw; (try dsimp only at hSw); go_simp; try with_reducible rfl)
    (try simp only [Act.put, List.getElem_toArray, List.getElem_cons_succ, List.getElem_cons_zero, List.setIfInBounds_toArray, List.set_cons_zero, List.set_cons_succ])
    refine wpAnyH_take (i := 21) (v := ?_) rfl (by kernel_rfl) (by kernel_rfl) (by kernel_rfl) (fun _ _ _ h => h) (Or.inl ⟨by rfl, ?_⟩) (by assumption) ?_
    rotate_left
    focus (intro w hSw; (try dsimp only at hSw); go_simp; try with_reducible rfl)
    (try simp only [Act.put, List.getElem_toArray, List.getElem_cons_succ, List.getElem_cons_zero, List.setIfInBounds_toArray, List.set_cons_zero, List.set_cons_succ])
    refine wpAnyH_take (i := 22) (v := ?_) rfl (by kernel_rfl) (by kernel_rfl) (by kernel_rfl) (fun _ _ _ h => h) (Or.inl ⟨by rfl, ?_⟩) (by assumption) ?_
    rotate_left
    focus (intro w hSw; (try dsimp only at hSw); go_simp; try with_reducible rfl)
    (try simp only [Act.put, List.getElem_toArray, List.getElem_cons_succ, List.getElem_cons_zero, List.setIfInBounds_toArray, List.set_cons_zero, List.set_cons_succ])
    refine wpAnyH_take (i := 23) (v := ?_) rfl (by kernel_rfl) (by kernel_rfl) (by kernel_rfl) (fun _ _ _ h => h) (Or.inl ⟨by rfl, ?_⟩) (by assumption) ?_
    rotate_left
    focus (intro w hSw; (try dsimp only at hSw); go_simp; try with_reducible rfl)
    (try simp only [Act.put, List.getElem_toArray, List.getElem_cons_succ, List.getElem_cons_zero, List.setIfInBounds_toArray, List.set_cons_zero, List.set_cons_succ])
    refine wpAnyH_take (i := 24) (v := ?_) rfl (by kernel_rfl) (by kernel_rfl) (by kernel_rfl) (fun _ _ _ h => h) (Or.inl ⟨by rfl, ?_⟩) (by assumption) ?_
    rotate_left
    focus (intro w hSw; (try dsimp only at hSw); go_simp; try with_reducible rfl)
    (try simp only [Act.put, List.getElem_toArray, List.getElem_cons_succ, List.getElem_cons_zero, List.setIfInBounds_toArray, List.set_cons_zero, List.set_cons_succ])
    refine wpAnyH_take (i := 27) (v := ?_) rfl (by kernel_rfl) (by kernel_rfl) (by kernel_rfl) (fun _ _ _ h => h) (Or.inl ⟨by rfl, ?_⟩) (by assumption) ?_
    rotate_left
    focus (intro w hSw; (try dsimp only at hSw); go_simp; try with_reducible rfl)
    (try simp only [Act.put, List.getElem_toArray, List.getElem_cons_succ, List.getElem_cons_zero, List.setIfInBounds_toArray, List.set_cons_zero, List.set_cons_succ])
    refine wpAnyH_take (i := 28) (v := ?_) rfl (by kernel_rfl) (by kernel_rfl) (by kernel_rfl) (fun _ _ _ h => h) (Or.inl ⟨by rfl, ?_⟩) (by assumption) ?_
    rotate_left
    focus (intro w hSw; (try dsimp only at hSw); go_simp; try with_reducible rfl)
    (try simp only [Act.put, List.getElem_toArray, List.getElem_cons_succ, List.getElem_cons_zero, List.setIfInBounds_toArray, List.set_cons_zero, List.set_cons_succ])
    refine wpAnyH_take (i := 29) (v := ?_) rfl (by kernel_rfl) (by kernel_rfl) (by kernel_rfl) (fun _ _ _ h => h) (Or.inl ⟨by rfl, ?_⟩) (by assumption) ?_
    rotate_left
    focus (intro w hSw; (try dsimp only at hSw); go_simp; try with_reducible rfl)
    (try simp only [Act.put, List.getElem_toArray, List.getElem_cons_succ, List.getElem_cons_zero, List.setIfInBounds_toArray, List.set_cons_zero, List.set_cons_succ])
    refine wpAnyH_take (i := 31) (v := ?_) rfl (by kernel_rfl) (by kernel_rfl) (by kernel_rfl) (fun _ _ _ h => h) (Or.inl ⟨by rfl, ?_⟩) (by assumption) ?_
    rotate_left
    focus (intro w hSw; (try dsimp only at hSw); go_simp; try with_reducible rfl)
    (try simp only [Act.put, List.getElem_toArray, List.getElem_cons_succ, List.getElem_cons_zero, List.setIfInBounds_toArray, List.set_cons_zero, List.set_cons_succ])
    refine wpAnyH_take (i := 32) (v := ?_) rfl (by kernel_rfl) (by kernel_rfl) (by kernel_rfl) (fun _ _ _ h => h) (Or.inl ⟨by rfl, ?_⟩) (by assumption) ?_
    rotate_left
    focus (intro w hSw; (try dsimp only at hSw); go_simp; try with_reducible rfl)
    (try simp only [Act.put, List.getElem_toArray, List.getElem_cons_succ, List.getElem_cons_zero, List.setIfInBounds_toArray, List.set_cons_zero, List.set_cons_succ])
    refine wpAnyH_take (i := 33) (v := ?_) rfl (by kernel_rfl) (by kernel_rfl) (by kernel_rfl) (fun _ _ _ h => h) (Or.inl ⟨by rfl, ?_⟩) (by assumption) ?_
    rotate_left
    focus (intro w hSw; (try dsimp only at hSw); go_simp; try with_reducible rfl)
    (try simp only [Act.put, List.getElem_toArray, List.getElem_cons_succ, List.getElem_cons_zero, List.setIfInBounds_toArray, List.set_cons_zero, List.set_cons_succ])
    refine wpAnyH_take (i := 34) (v := ?_) rfl (by kernel_rfl) (by kernel_rfl) (by kernel_rfl) (fun _ _ _ h => h) (Or.inl ⟨by rfl, ?_⟩) (by assumption) ?_
    rotate_left
    focus (intro w hSw; (try dsimp only at hSw); go_simp; try with_reducible rfl)
    (try simp only [Act.put, List.getElem_toArray, List.getElem_cons_succ, List.getElem_cons_zero, List.setIfInBounds_toArray, List.set_cons_zero, List.set_cons_succ])
    refine wpAnyH_take (i := 35) (v := ?_) rfl (by kernel_rfl) (by kernel_rfl) (by kernel_rfl) (fun _ _ _ h => h) (Or.inl ⟨by rfl, ?_⟩) (by assumption) ?_
    rotate_left
    focus (intro w hSw; (try dsimp only at hSw); go_simp; try with_reducible rfl)
    (try simp only [Act.put, List.getElem_toArray, List.getElem_cons_succ, List.getElem_cons_zero, List.setIfInBounds_toArray, List.set_cons_zero, List.set_cons_succ])
    refine wpAnyH_take (i := 38) (v := ?_) rfl (by kernel_rfl) (by kernel_rfl) (by kernel_rfl) (fun _ _ _ h => h) (Or.inl ⟨by rfl, ?_⟩) (by assumption) ?_
    rotate_left
    focus (intro w hSw; (try dsimp only at hSw); go_simp; try with_reducible rfl)
    (try simp only [Act.put, List.getElem_toArray, List.getElem_cons_succ, List.getElem_cons_zero, List.setIfInBounds_toArray, List.set_cons_zero, List.set_cons_succ])
    refine wpAnyH_take (i := 39) (v := ?_) rfl (by kernel_rfl) (by kernel_rfl) (by kernel_rfl) (fun _ _ _ h => h) (Or.inl ⟨by rfl, ?_⟩) (by assumption) ?_
    rotate_left
    focus (intro w hSw; (try dsimp only at hSw); go_simp; try with_reducible rfl)
    (try simp only [Act.put, List.getElem_toArray, List.getElem_cons_succ, List.getElem_cons_zero, List.setIfInBounds_toArray, List.set_cons_zero, List.set_cons_succ])
    refine wpAnyH_take (i := 40) (v := ?_) rfl (by kernel_rfl) (by kernel_rfl) (by kernel_rfl) (fun _ _ _ h => h) (Or.inl ⟨by rfl, ?_⟩) (by assumption) ?_
    rotate_left
    focus (intro w hSw; (try dsimp only at hSw); go_simp; try with_reducible rfl)
    (try simp only [Act.put, List.getElem_toArray, List.getElem_cons_succ, List.getElem_cons_zero, List.setIfInBounds_toArray, List.set_cons_zero, List.set_cons_succ])
    refine wpAnyH_take (i := 42) (v := ?_) rfl (by kernel_rfl) (by kernel_rfl) (by kernel_rfl) (fun _ _ _ h => h) (Or.inl ⟨by rfl, ?_⟩) (by assumption) ?_
    rotate_left
    focus (intro w hSw; (try dsimp only at hSw); go_simp; try with_reducible rfl)
    (try simp only [Act.put, List.getElem_toArray, List.getElem_cons_succ, List.getElem_cons_zero, List.setIfInBounds_toArray, List.set_cons_zero, List.set_cons_succ])
    refine wpAnyH_take (i := 43) (v := ?_) rfl (by kernel_rfl) (by kernel_rfl) (by kernel_rfl) (fun _ _ _ h => h) (Or.inl ⟨by rfl, ?_⟩) (by assumption) ?_
    rotate_left
    focus (intro w hSw; (try dsimp only at hSw); go_simp; try with_reducible rfl)
    (try simp only [Act.put, List.getElem_toArray, List.getElem_cons_succ, List.getElem_cons_zero, List.setIfInBounds_toArray, List.set_cons_zero, List.set_cons_succ])
    refine wpAnyH_take (i := 44) (v := ?_) rfl (by kernel_rfl) (by kernel_rfl) (by kernel_rfl) (fun _ _ _ h => h) (Or.inl ⟨by rfl, ?_⟩) (by assumption) ?_
    rotate_left
    focus (intro w hSw; (try dsimp only at hSw); go_simp; try with_reducible rfl)
    (try simp only [Act.put, List.getElem_toArray, List.getElem_cons_succ, List.getElem_cons_zero, List.setIfInBounds_toArray, List.set_cons_zero, List.set_cons_succ])
    refine wpAnyH_take (i := 45) (v := ?_) rfl (by kernel_rfl) (by kernel_rfl) (by kernel_rfl) (fun _ _ _ h => h) (Or.inl ⟨by rfl, ?_⟩) (by assumption) ?_
    rotate_left
    focus (intro w hSw; (try dsimp only at hSw); go_simp; try with_reducible rfl)
    (try simp only [Act.put, List.getElem_toArray, List.getElem_cons_succ, List.getElem_cons_zero, List.setIfInBounds_toArray, List.set_cons_zero, List.set_cons_succ])
    refine wpAnyH_take (i := 46) (v := ?_) rfl (by kernel_rfl) (by kernel_rfl) (by kernel_rfl) (fun _ _ _ h => h) (Or.inl ⟨by rfl, ?_⟩) (by assumption) ?_
    rotate_left
    focus (intro w hSw; (try dsimp only at hSw); go_simp; try with_reducible rfl)
    (try simp only [Act.put, List.getElem_toArray, List.getElem_cons_succ, List.getElem_cons_zero, List.setIfInBounds_toArray, List.set_cons_zero, List.set_cons_succ])
    refine wpAnyH_ready (rs := [5]) (by kernel_rfl) (by simp) ?_
    refine AllReadyH.cons rfl (fun K hK => ?_) ?_
    rotate_left
    exact AllReadyH.nil
    (try simp only [List.getElem_toArray, List.getElem_cons_succ, List.getElem_cons_zero])
    go_simp
    go_at_call 46
    (with_reducible refine (HFD.out _ ?_).mono ?_)
    assumption
    rintro _ w3 ⟨rfl, hS3, hb3⟩
    go_simp
    refine hK.out _ _ ?_ (fun hHeld => ?_)
    assumption
    clear hK K
    (try simp only [Act.put, List.getElem_toArray, List.getElem_cons_succ, List.getElem_cons_zero, List.setIfInBounds_toArray, List.set_cons_zero, List.set_cons_succ])
    refine wpAnyH_take (i := 7) (v := ?_) rfl (by kernel_rfl) (by kernel_rfl) (by kernel_rfl) (fun _ _ _ h => h) (Or.inl ⟨by rfl, ?_⟩) (by assumption) ?_
    rotate_left
    focus (intro w hSw; (try dsimp only at hSw); go_simp; try with_reducible rfl)
    (try simp only [Act.put, List.getElem_toArray, List.getElem_cons_succ, List.getElem_cons_zero, List.setIfInBounds_toArray, List.set_cons_zero, List.set_cons_succ])
    refine wpAnyH_ready (rs := [8]) (by kernel_rfl) (by simp) ?_
    refine AllReadyH.cons rfl (fun K hK => ?_) ?_
    rotate_left
    exact AllReadyH.nil
    (try simp only [List.getElem_toArray, List.getElem_cons_succ, List.getElem_cons_zero])
    go_simp
    go_at_call 45
    (with_reducible refine (HON.out _ ?_).mono ?_)
    assumption
    rintro _ w4 ⟨rfl, hS4, hb4⟩
    go_simp
    refine hK.out _ _ ?_ (fun hHeld => ?_)
    assumption
    clear hK K
    (try simp only [Act.put, List.getElem_toArray, List.getElem_cons_succ, List.getElem_cons_zero, List.setIfInBounds_toArray, List.set_cons_zero, List.set_cons_succ])
    refine wpAnyH_take (i := 9) (v := ?_) rfl (by kernel_rfl) (by kernel_rfl) (by kernel_rfl) (fun _ _ _ h => h) (Or.inl ⟨by rfl, ?_⟩) (by assumption) ?_
    rotate_left
    focus (intro w hSw; (try dsimp only at hSw); go_simp; try with_reducible rfl)
    (try simp only [Act.put, List.getElem_toArray, List.getElem_cons_succ, List.getElem_cons_zero, List.setIfInBounds_toArray, List.set_cons_zero, List.set_cons_succ])
    refine wpAnyH_take (i := 13) (v := ?_) rfl (by kernel_rfl) (by kernel_rfl) (by kernel_rfl) (fun _ _ _ h => h) (Or.inl ⟨by rfl, ?_⟩) (by assumption) ?_
    rotate_left
    focus (intro w hSw; (try dsimp only at hSw); go_simp; try with_reducible rfl)
    (try simp only [Act.put, List.getElem_toArray, List.getElem_cons_succ, List.getElem_cons_zero, List.setIfInBounds_toArray, List.set_cons_zero, List.set_cons_succ])
    refine wpAnyH_take (i := 14) (v := undef) rfl (by kernel_rfl) (by kernel_rfl) (by kernel_rfl) (fun _ _ _ h => h) (Or.inr ⟨by rfl, rfl⟩) (by assumption) ?_
    (try simp only [Act.put, List.getElem_toArray, List.getElem_cons_succ, List.getElem_cons_zero, List.setIfInBounds_toArray, List.set_cons_zero, List.set_cons_succ])
    refine wpAnyH_take (i := 15) (v := undef) rfl (by kernel_rfl) (by kernel_rfl) (by kernel_rfl) (fun _ _ _ h => h) (Or.inr ⟨by rfl, rfl⟩) (by assumption) ?_
    (try simp only [Act.put, List.getElem_toArray, List.getElem_cons_succ, List.getElem_cons_zero, List.setIfInBounds_toArray, List.set_cons_zero, List.set_cons_succ])
    refine wpAnyH_take (i := 16) (v := undef) rfl (by kernel_rfl) (by kernel_rfl) (by kernel_rfl) (fun _ _ _ h => h) (Or.inr ⟨by rfl, rfl⟩) (by assumption) ?_
    (try simp only [Act.put, List.getElem_toArray, List.getElem_cons_succ, List.getElem_cons_zero, List.setIfInBounds_toArray, List.set_cons_zero, List.set_cons_succ])
    refine wpAnyH_take (i := 17) (v := ?_) rfl (by kernel_rfl) (by kernel_rfl) (by kernel_rfl) (fun _ _ _ h => h) (Or.inl ⟨by rfl, ?_⟩) (by assumption) ?_
    rotate_left
    focus (intro w hSw; (try dsimp only at hSw); go_simp; try with_reducible rfl)
    (try simp only [Act.put, List.getElem_toArray, List.getElem_cons_succ, List.getElem_cons_zero, List.setIfInBounds_toArray, List.set_cons_zero, List.set_cons_succ])
    refine wpAnyH_ready (rs := [18]) (by kernel_rfl) (by simp) ?_
    refine AllReadyH.cons rfl (fun K hK => ?_) ?_
    rotate_left
    exact AllReadyH.nil
    (try simp only [List.getElem_toArray, List.getElem_cons_succ, List.getElem_cons_zero])
    go_simp
    go_at_call 41
    (with_reducible refine (HU.out _ ?_).mono ?_)
    assumption
    rintro _ w5 ⟨rfl, hS5, hb5⟩
    go_simp
    refine hK.out _ _ ?_ (fun hHeld => ?_)
    assumption
    clear hK K
    (try simp only [Act.put, List.getElem_toArray, List.getElem_cons_succ, List.getElem_cons_zero, List.setIfInBounds_toArray, List.set_cons_zero, List.set_cons_succ])
    refine wpAnyH_take (i := 19) (v := ?_) rfl (by kernel_rfl) (by kernel_rfl) (by kernel_rfl) (fun _ _ _ h => h) (Or.inl ⟨by rfl, ?_⟩) (by assumption) ?_
    rotate_left
    focus (intro w hSw; (try dsimp only at hSw); go_simp; try with_reducible rfl)
    (try simp only [Act.put, List.getElem_toArray, List.getElem_cons_succ, List.getElem_cons_zero, List.setIfInBounds_toArray, List.set_cons_zero, List.set_cons_succ])
    refine wpAnyH_ready (rs := [25]) (by kernel_rfl) (by simp) ?_
    refine AllReadyH.cons rfl (fun K hK => ?_) ?_
    rotate_left
    exact AllReadyH.nil
    (try simp only [List.getElem_toArray, List.getElem_cons_succ, List.getElem_cons_zero])
    go_simp
    go_at_call 47
    (with_reducible refine (HFR.out _ ?_).mono ?_)
    assumption
    rintro _ w6 ⟨⟨fv6, rfl, ho6, hF6⟩, hS6, hb6⟩
    have HF6 := Lib.hid hF6; obtain ⟨n6, caps6, rfl, -, -⟩ := hF6
    go_simp
    refine hK.out _ _ ?_ (fun hHeld => ?_)
    assumption
    clear hK K
    (try simp only [Act.put, List.getElem_toArray, List.getElem_cons_succ, List.getElem_cons_zero, List.setIfInBounds_toArray, List.set_cons_zero, List.set_cons_succ])
    refine wpAnyH_take (i := 26) (v := ?_) rfl (by kernel_rfl) (by kernel_rfl) (by kernel_rfl) (fun _ _ _ h => h) (Or.inl ⟨by rfl, ?_⟩) (by assumption) ?_
    rotate_left
    focus (intro w hSw; (try dsimp only at hSw); go_simp; try with_reducible rfl)
    (try simp only [Act.put, List.getElem_toArray, List.getElem_cons_succ, List.getElem_cons_zero, List.setIfInBounds_toArray, List.set_cons_zero, List.set_cons_succ])
    refine wpAnyH_ready (rs := [30]) (by kernel_rfl) (by simp) ?_
    refine AllReadyH.cons rfl (fun K hK => ?_) ?_
    rotate_left
    exact AllReadyH.nil
    (try simp only [List.getElem_toArray, List.getElem_cons_succ, List.getElem_cons_zero])
    go_simp
    go_at_call 43
    (with_reducible refine (HCG.out _ ?_).mono ?_)
    assumption
    rintro _ w1 ⟨rfl, hS1, hb1⟩
    go_simp
    refine hK.out _ _ ?_ (fun hHeld => ?_)
    assumption
    clear hK K
    (try simp only [Act.put, List.getElem_toArray, List.getElem_cons_succ, List.getElem_cons_zero, List.setIfInBounds_toArray, List.set_cons_zero, List.set_cons_succ])
    refine wpAnyH_ready (rs := [36]) (by kernel_rfl) (by simp) ?_
    refine AllReadyH.cons rfl (fun K hK => ?_) ?_
    rotate_left
    exact AllReadyH.nil
    (try simp only [List.getElem_toArray, List.getElem_cons_succ, List.getElem_cons_zero])
    go_simp
    go_at_call 48
    (with_reducible refine (HGD.out _ ?_).mono ?_)
    assumption
    rintro _ w7 ⟨⟨fv7, rfl, ho7, hF7⟩, hS7, hb7⟩
    have HF7 := Lib.hid hF7; obtain ⟨n7, caps7, rfl, -, -⟩ := hF7
    go_simp
    refine hK.out _ _ ?_ (fun hHeld => ?_)
    assumption
    clear hK K
    (try simp only [Act.put, List.getElem_toArray, List.getElem_cons_succ, List.getElem_cons_zero, List.setIfInBounds_toArray, List.set_cons_zero, List.set_cons_succ])
    refine wpAnyH_take (i := 37) (v := ?_) rfl (by kernel_rfl) (by kernel_rfl) (by kernel_rfl) (fun _ _ _ h => h) (Or.inl ⟨by rfl, ?_⟩) (by assumption) ?_
    rotate_left
    focus (intro w hSw; (try dsimp only at hSw); go_simp; try with_reducible rfl)
    (try simp only [Act.put, List.getElem_toArray, List.getElem_cons_succ, List.getElem_cons_zero, List.setIfInBounds_toArray, List.set_cons_zero, List.set_cons_succ])
    refine wpAnyH_ready (rs := [41]) (by kernel_rfl) (by simp) ?_
    refine AllReadyH.cons rfl (fun K hK => ?_) ?_
    rotate_left
    exact AllReadyH.nil
    (try simp only [List.getElem_toArray, List.getElem_cons_succ, List.getElem_cons_zero])
    go_simp
    go_at_call 43
    (with_reducible refine (HCT.out _ ?_).mono ?_)
    assumption
    rintro _ w2 ⟨rfl, hS2, hb2⟩
    go_simp
    refine hK.out _ _ ?_ (fun hHeld => ?_)
    assumption
    clear hK K
    (try simp only [Act.put, List.getElem_toArray, List.getElem_cons_succ, List.getElem_cons_zero, List.setIfInBounds_toArray, List.set_cons_zero, List.set_cons_succ])
    refine wpAnyH_ready (rs := [47]) (by kernel_rfl) (by simp) ?_
    refine AllReadyH.cons rfl (fun K hK => ?_) ?_
    rotate_left
    exact AllReadyH.nil
    (try simp only [List.getElem_toArray, List.getElem_cons_succ, List.getElem_cons_zero])
    go_simp
    go_at_call 49
    (with_reducible refine (HSP.out _ ?_).mono ?_)
    assumption
    rintro _ w8 ⟨⟨fv8, rfl, ho8, hF8⟩, hS8, hb8⟩
    have HF8 := Lib.hid hF8; obtain ⟨n8, caps8, rfl, -, -⟩ := hF8
    go_simp
    refine hK.out _ _ ?_ (fun hHeld => ?_)
    assumption
    clear hK K
    (try simp only [Act.put, List.getElem_toArray, List.getElem_cons_succ, List.getElem_cons_zero, List.setIfInBounds_toArray, List.set_cons_zero, List.set_cons_succ])
    refine wpAnyH_take (i := 48) (v := ?_) rfl (by kernel_rfl) (by kernel_rfl) (by kernel_rfl) (fun _ _ _ h => h) (Or.inl ⟨by rfl, ?_⟩) (by assumption) ?_
    rotate_left
    focus (intro w hSw; (try dsimp only at hSw); go_simp; try with_reducible rfl)
    (try simp only [Act.put, List.getElem_toArray, List.getElem_cons_succ, List.getElem_cons_zero, List.setIfInBounds_toArray, List.set_cons_zero, List.set_cons_succ])
    refine wpAnyH_ready (rs := [49]) (by kernel_rfl) (by simp) ?_
    refine AllReadyH.cons rfl (fun K hK => ?_) ?_
    rotate_left
    exact AllReadyH.nil
    (try simp only [List.getElem_toArray, List.getElem_cons_succ, List.getElem_cons_zero])
    go_simp
    refine hK.out _ _ ?_ (fun hHeld => ?_)
    exact HKA.out _ _ (by assumption)
    clear hK K
    (try simp only [Act.put, List.getElem_toArray, List.getElem_cons_succ, List.getElem_cons_zero, List.setIfInBounds_toArray, List.set_cons_zero, List.set_cons_succ])
    refine wpAnyH_take (i := 50) (v := ?_) rfl (by kernel_rfl) (by kernel_rfl) (by kernel_rfl) (fun _ _ _ h => h) (Or.inl ⟨by rfl, ?_⟩) (by assumption) ?_
    rotate_left
    focus (intro w hSw; (try dsimp only at hSw); go_simp; try with_reducible rfl)
    (try simp only [Act.put, List.getElem_toArray, List.getElem_cons_succ, List.getElem_cons_zero, List.setIfInBounds_toArray, List.set_cons_zero, List.set_cons_succ])
    refine wpAnyH_done (by kernel_rfl) ?_ _
    -- Find, ofName, unless, from (w6), count (w1), guards (w7), count (w2), steps (w8)
    have H78 := Lib.hid (hb2.trans (hb8.mono hb2.size))
    have H68 := Lib.hid (hb1.trans ((hb7.trans (H78.out.mono hb7.size)).mono hb1.size))
    have HB8 := Lib.hid (HB1.out.trans (hS8.2.2.2.2.2.2.2.2.2.mono HB1.out.size))
    clear hS0 hS1 hS2 hS3 hS4 hS5 hS6 hS7 hS8 hb1 hb2 hb3 hb4 hb5 hb6 hb7 hb8
    go_wp2_with fail
    go_ret
    refine ⟨⟨.slice (some ⟨w8.heap.size, 0, none⟩) 5 5, rfl, ?_⟩, HB8.out.trans ((below_alloc _ _).mono HB8.out.size)⟩
    refine slof_rows w8 89 4 (PtIs _) [⟨5, E5, 0, fun _ => 0⟩, ⟨6, _, 0, fun _ => 0⟩, ⟨7, 0, F, fB⟩, ⟨8, E8, G, gB⟩, ⟨9, E9, T, sB⟩]
      [[.int .i64 5, .int .i64 E5, .int .i64 0, .nilFunc], [.int .i64 6, .int .i64 _, .int .i64 0, .nilFunc], [.int .i64 7, .int .i64 0, .int .i64 (F : Int), .func (.func n6) #[] caps6], [.int .i64 8, .int .i64 E8, .int .i64 (G : Int), .func (.func n7) #[] caps7], [.int .i64 9, .int .i64 E9, .int .i64 (T : Int), .func (.func n8) #[] caps8]] 5 _ rfl rfl ?_
    intro j x cs hx hcs
    match j, hx, hcs with
    | 0, hx, hcs => cases hx; cases hcs; exact ⟨rfl, _, rfl, rfl, fun h => absurd h (Nat.lt_irrefl 0)⟩
    | 1, hx, hcs => cases hx; cases hcs; exact ⟨rfl, _, rfl, rfl, fun h => absurd h (Nat.lt_irrefl 0)⟩
    | 2, hx, hcs => cases hx; cases hcs; exact ⟨rfl, _, rfl, rfl, fun _ => (HF6.out.below H68.out).below (below_alloc _ _)⟩
    | 3, hx, hcs => cases hx; cases hcs; exact ⟨rfl, _, rfl, rfl, fun _ => (HF7.out.below H78.out).below (below_alloc _ _)⟩
    | 4, hx, hcs => cases hx; cases hcs; exact ⟨rfl, _, rfl, rfl, fun _ => HF8.out.below (below_alloc _ _)⟩
    | j + 5, hx, hcs => cases hx
  all_goals
    have HU := Lib.hid (fun (W : World) (hS : W.cell? ⟨w.heap.size, 0, none⟩ = some (.slice a0 N0 cap0) ∧ W.cell? ⟨w.heap.size, 1, none⟩ = some (.slice a1 N1 cap1) ∧ W.cell? ⟨w.heap.size, 2, none⟩ = some (.slice a2 N2 cap2) ∧ W.cell? ⟨w.heap.size, 3, none⟩ = some (.slice (some ⟨b, off, none⟩) N3 cap3) ∧ W.cell? ⟨W0.heap.size, 0, none⟩ = some (.string (str nm)) ∧ W.cell? ⟨W0.heap.size, 1, none⟩ = some (.int .i64 A) ∧ W.cell? ⟨W0.heap.size, 2, none⟩ = some (.slice af F capf) ∧ W.cell? ⟨W0.heap.size, 3, none⟩ = some (.slice ag G capg) ∧ W.cell? ⟨W0.heap.size, 4, none⟩ = some (.slice ap T capp) ∧ Below W1.heap.size W1 W) => calls_keepB (S := fun W => W.cell? ⟨w.heap.size, 0, none⟩ = some (.slice a0 N0 cap0) ∧ W.cell? ⟨w.heap.size, 1, none⟩ = some (.slice a1 N1 cap1) ∧ W.cell? ⟨w.heap.size, 2, none⟩ = some (.slice a2 N2 cap2) ∧ W.cell? ⟨w.heap.size, 3, none⟩ = some (.slice (some ⟨b, off, none⟩) N3 cap3) ∧ W.cell? ⟨W0.heap.size, 0, none⟩ = some (.string (str nm)) ∧ W.cell? ⟨W0.heap.size, 1, none⟩ = some (.int .i64 A) ∧ W.cell? ⟨W0.heap.size, 2, none⟩ = some (.slice af F capf) ∧ W.cell? ⟨W0.heap.size, 3, none⟩ = some (.slice ag G capg) ∧ W.cell? ⟨W0.heap.size, 4, none⟩ = some (.slice ap T capp) ∧ Below W1.heap.size W1 W) (HU0.out W) hS)
    simp only [unlessE, if_true, Bool.false_eq_true, if_false] at HU ⊢
    clear HU0
    go_enter Tryz.func20, Tryz.ntmps20
    go_upto_region 2 with fail
    have hS0 : W1.drew.cell? ⟨w.heap.size, 0, none⟩ = some (.slice a0 N0 cap0) ∧ W1.drew.cell? ⟨w.heap.size, 1, none⟩ = some (.slice a1 N1 cap1) ∧ W1.drew.cell? ⟨w.heap.size, 2, none⟩ = some (.slice a2 N2 cap2) ∧ W1.drew.cell? ⟨w.heap.size, 3, none⟩ = some (.slice (some ⟨b, off, none⟩) N3 cap3) ∧ W1.drew.cell? ⟨W0.heap.size, 0, none⟩ = some (.string (str nm)) ∧ W1.drew.cell? ⟨W0.heap.size, 1, none⟩ = some (.int .i64 A) ∧ W1.drew.cell? ⟨W0.heap.size, 2, none⟩ = some (.slice af F capf) ∧ W1.drew.cell? ⟨W0.heap.size, 3, none⟩ = some (.slice ag G capg) ∧ W1.drew.cell? ⟨W0.heap.size, 4, none⟩ = some (.slice ap T capp) ∧ Below W1.heap.size W1 W1.drew := HR.out
    go_region_held3 (fun W => W.cell? ⟨w.heap.size, 0, none⟩ = some (.slice a0 N0 cap0) ∧ W.cell? ⟨w.heap.size, 1, none⟩ = some (.slice a1 N1 cap1) ∧ W.cell? ⟨w.heap.size, 2, none⟩ = some (.slice a2 N2 cap2) ∧ W.cell? ⟨w.heap.size, 3, none⟩ = some (.slice (some ⟨b, off, none⟩) N3 cap3) ∧ W.cell? ⟨W0.heap.size, 0, none⟩ = some (.string (str nm)) ∧ W.cell? ⟨W0.heap.size, 1, none⟩ = some (.int .i64 A) ∧ W.cell? ⟨W0.heap.size, 2, none⟩ = some (.slice af F capf) ∧ W.cell? ⟨W0.heap.size, 3, none⟩ = some (.slice ag G capg) ∧ W.cell? ⟨W0.heap.size, 4, none⟩ = some (.slice ap T capp) ∧ Below W1.heap.size W1 W) (first | exact hS0 | assumption | exact HKA.out _ _ (by assumption)) (first | (go_at_call 43; ((with_reducible refine (HCG.out _ ?_).mono ?_); (first | exact hS0 | assumption)); rintro _ w1 ⟨rfl, hS1, hb1⟩) | (go_at_call 43; ((with_reducible refine (HCT.out _ ?_).mono ?_); (first | exact hS0 | assumption)); rintro _ w2 ⟨rfl, hS2, hb2⟩) | (go_at_call 46; ((with_reducible refine (HFD.out _ ?_).mono ?_); (first | exact hS0 | assumption)); rintro _ w3 ⟨rfl, hS3, hb3⟩) | (go_at_call 45; ((with_reducible refine (HON.out _ ?_).mono ?_); (first | exact hS0 | assumption)); rintro _ w4 ⟨rfl, hS4, hb4⟩) | (go_at_call 41; ((with_reducible refine (HU.out _ ?_).mono ?_); (first | exact hS0 | assumption)); rintro _ w5 ⟨rfl, hS5, hb5⟩) | (go_at_call 47; ((with_reducible refine (HFR.out _ ?_).mono ?_); (first | exact hS0 | assumption)); rintro _ w6 ⟨⟨fv6, rfl, ho6, hF6⟩, hS6, hb6⟩; have HF6 := Lib.hid hF6; obtain ⟨n6, caps6, rfl, -, -⟩ := hF6) | (go_at_call 48; ((with_reducible refine (HGD.out _ ?_).mono ?_); (first | exact hS0 | assumption)); rintro _ w7 ⟨⟨fv7, rfl, ho7, hF7⟩, hS7, hb7⟩; have HF7 := Lib.hid hF7; obtain ⟨n7, caps7, rfl, -, -⟩ := hF7) | (go_at_call 49; ((with_reducible refine (HSP.out _ ?_).mono ?_); (first | exact hS0 | assumption)); rintro _ w8 ⟨⟨fv8, rfl, ho8, hF8⟩, hS8, hb8⟩; have HF8 := Lib.hid hF8; obtain ⟨n8, caps8, rfl, -, -⟩ := hF8))
    -- Find, ofName, unless, from (w6), count (w1), guards (w7), count (w2), steps (w8)
    have H78 := Lib.hid (hb2.trans (hb8.mono hb2.size))
    have H68 := Lib.hid (hb1.trans ((hb7.trans (H78.out.mono hb7.size)).mono hb1.size))
    have HB8 := Lib.hid (HB1.out.trans (hS8.2.2.2.2.2.2.2.2.2.mono HB1.out.size))
    clear hS0 hS1 hS2 hS3 hS4 hS5 hS6 hS7 hS8 hb1 hb2 hb3 hb4 hb5 hb6 hb7 hb8
    go_wp2_with fail
    go_ret
    refine ⟨⟨.slice (some ⟨w8.heap.size, 0, none⟩) 5 5, rfl, ?_⟩, HB8.out.trans ((below_alloc _ _).mono HB8.out.size)⟩
    refine slof_rows w8 89 4 (PtIs _) [⟨5, E5, 0, fun _ => 0⟩, ⟨6, _, 0, fun _ => 0⟩, ⟨7, 0, F, fB⟩, ⟨8, E8, G, gB⟩, ⟨9, E9, T, sB⟩]
      [[.int .i64 5, .int .i64 E5, .int .i64 0, .nilFunc], [.int .i64 6, .int .i64 _, .int .i64 0, .nilFunc], [.int .i64 7, .int .i64 0, .int .i64 (F : Int), .func (.func n6) #[] caps6], [.int .i64 8, .int .i64 E8, .int .i64 (G : Int), .func (.func n7) #[] caps7], [.int .i64 9, .int .i64 E9, .int .i64 (T : Int), .func (.func n8) #[] caps8]] 5 _ rfl rfl ?_
    intro j x cs hx hcs
    match j, hx, hcs with
    | 0, hx, hcs => cases hx; cases hcs; exact ⟨rfl, _, rfl, rfl, fun h => absurd h (Nat.lt_irrefl 0)⟩
    | 1, hx, hcs => cases hx; cases hcs; exact ⟨rfl, _, rfl, rfl, fun h => absurd h (Nat.lt_irrefl 0)⟩
    | 2, hx, hcs => cases hx; cases hcs; exact ⟨rfl, _, rfl, rfl, fun _ => (HF6.out.below H68.out).below (below_alloc _ _)⟩
    | 3, hx, hcs => cases hx; cases hcs; exact ⟨rfl, _, rfl, rfl, fun _ => (HF7.out.below H78.out).below (below_alloc _ _)⟩
    | 4, hx, hcs => cases hx; cases hcs; exact ⟨rfl, _, rfl, rfl, fun _ => HF8.out.below (below_alloc _ _)⟩
    | j + 5, hx, hcs => cases hx
end Go.Proofs.YtfooiggedgcjcaaGreatDoor.R
