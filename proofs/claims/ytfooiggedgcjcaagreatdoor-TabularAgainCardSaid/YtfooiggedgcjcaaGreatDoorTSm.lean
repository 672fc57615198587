/-
  Layer 6, the document's answer: the same tables.
-/
import Derived.Test.YtfooiggedgcjcaaGreatDoorESame
import Derived.Test.YtfooiggedgcjcaaGreatDoorTRead
import Derived.Test.YtfooiggedgcjcaaGreatDoorEPCheck
import Derived.Test.YtfooiggedgcjcaaGreatDoorRPr
import Derived.Deep.RegionHeld3
import Derived.BigQuiet
namespace Go.Proofs.YtfooiggedgcjcaaGreatDoor.T
open Go Go.RowKit Go.Proofs.YtfooiggedgcjcaaGreatDoor.B Go.Proofs.YtfooiggedgcjcaaGreatDoor.K Go.Proofs.YtfooiggedgcjcaaGreatDoor.E Go.Proofs.YtfooiggedgcjcaaGreatDoor.R
set_option linter.unusedVariables false
set_option maxRecDepth 100000

set_option maxHeartbeats 4000000 in
theorem sets_any (l : List Se) (v v' : Value) (w : World) (h : SlOf w 2 (SeIs w) v l) (h' : SlOf w 2 (SeIs w) v' l) (hl : l.length ≤ 9223372036854775807) (hl8 : ∀ e ∈ l, e.value.length ≤ 9223372036854775807) :
    Calls Tryz.prog 36 #[v, v'] w fun z w' => z = .returned (.bool true) ∧ Below w.heap.size w w' := by
  obtain ⟨a, cap, rfl, h⟩ := h.open
  obtain ⟨a', cap', rfl, h'⟩ := h'.open
  have HS := Lib.hid h
  have HS' := Lib.hid h'
  have HL8 := Lib.hid hl8
  obtain ⟨N, hN⟩ : ∃ N, l.length = N := ⟨_, rfl⟩
  rw [hN] at hl HS HS' ⊢
  have HL := Lib.hid hl
  have HN := Lib.hid hN
  clear hN hl h h' hl8
  go_enter Tryz.func36, Tryz.ntmps36
  go_wp2_with fail
  go_loopw [5] (fun k wr => ∃ (K : Nat), k = .int .i64 (K : Int) ∧ K ≤ N ∧ Hid (Below w.heap.size w wr)) (fun k _ => N - (intOf k).toNat)
  case atStart => exact ⟨0, rfl, Nat.zero_le _, Lib.hid (Below.refl _ _)⟩
  case round =>
    obtain ⟨K, rfl, hK, HB⟩ := hrel
    by_cases hlt : K < N
    · have hltI : (K : Int) < (N : Int) := by omega
      obtain ⟨e, he⟩ : ∃ e, l[K]? = some e := ⟨_, List.getElem?_eq_getElem (by rw [HN.out]; exact hlt)⟩
      obtain ⟨b, off, ea, cs, -, ⟨x, rfl, hx⟩, hc⟩ := HS.out.at he
      obtain ⟨b', off', ea', cs', -, ⟨x', rfl, hx'⟩, hc'⟩ := HS'.out.at he
      subst ea ea'
      obtain ⟨p, hp⟩ : ∃ p, e.var = p := ⟨_, rfl⟩
      have k0 := kept_cell HB.out (hc 0 _ rfl)
      have k1 := kept_cell HB.out (hc 1 _ rfl)
      have k0 : wr.cell? ⟨b, off + K * 2, none⟩ = some (.int .i64 e.var) := k0
      have j0 := kept_cell HB.out (hc' 0 _ rfl)
      have j1 := kept_cell HB.out (hc' 1 _ rfl)
      have j0 : wr.cell? ⟨b', off' + K * 2, none⟩ = some (.int .i64 e.var) := j0
      rw [hp] at k0 j0
      have hin := HL8.out e (List.mem_of_getElem? he)
      have HI := Lib.hid (fun (W : World) (hb : Below wr.heap.size wr W) => refSame_same e.value x x' W (SlI.below hx (HB.out.trans (hb.mono HB.out.size))) (SlI.below hx' (HB.out.trans (hb.mono HB.out.size))) hin)
      have HC := Lib.hid (fun (W : World) (hS : W.cell? ⟨b, off + K * 2, none⟩ = some (.int .i64 p) ∧ W.cell? ⟨b, off + K * 2 + 1, none⟩ = some x ∧ W.cell? ⟨b', off' + K * 2, none⟩ = some (.int .i64 p) ∧ W.cell? ⟨b', off' + K * 2 + 1, none⟩ = some x' ∧ Below wr.heap.size wr W) => (HI.out W hS.2.2.2.2).mono (fun z w' (hz : z = .returned (.bool true) ∧ Below W.heap.size W w') => show z = .returned (.bool true) ∧ w'.cell? ⟨b, off + K * 2, none⟩ = some (.int .i64 p) ∧ w'.cell? ⟨b, off + K * 2 + 1, none⟩ = some x ∧ w'.cell? ⟨b', off' + K * 2, none⟩ = some (.int .i64 p) ∧ w'.cell? ⟨b', off' + K * 2 + 1, none⟩ = some x' ∧ Below wr.heap.size wr w' from ⟨hz.1, kept_cell hz.2 hS.1, kept_cell hz.2 hS.2.1, kept_cell hz.2 hS.2.2.1, kept_cell hz.2 hS.2.2.2.1, hS.2.2.2.2.trans (hz.2.mono hS.2.2.2.2.size)⟩))
      have HSD := Lib.hid (show wr.drew.cell? ⟨b, off + K * 2, none⟩ = some (.int .i64 p) ∧ wr.drew.cell? ⟨b, off + K * 2 + 1, none⟩ = some x ∧ wr.drew.cell? ⟨b', off' + K * 2, none⟩ = some (.int .i64 p) ∧ wr.drew.cell? ⟨b', off' + K * 2 + 1, none⟩ = some x' ∧ Below wr.heap.size wr wr.drew from ⟨k0, k1, j0, j1, (Below.refl _ _).drew⟩)
      have hwK := wrap_next K (Nat.lt_of_lt_of_le hlt HL.out)
      clear he hc hc' hx hx' hp hin k0 k1 j0 j1 HI
      go_upto_region 6 with fail
      have hS0 : wr.drew.cell? ⟨b, off + K * 2, none⟩ = some (.int .i64 p) ∧ wr.drew.cell? ⟨b, off + K * 2 + 1, none⟩ = some x ∧ wr.drew.cell? ⟨b', off' + K * 2, none⟩ = some (.int .i64 p) ∧ wr.drew.cell? ⟨b', off' + K * 2 + 1, none⟩ = some x' ∧ Below wr.heap.size wr wr.drew := HSD.out
      go_region_held3 (fun Wz => Wz.cell? ⟨b, off + K * 2, none⟩ = some (.int .i64 p) ∧ Wz.cell? ⟨b, off + K * 2 + 1, none⟩ = some x ∧ Wz.cell? ⟨b', off' + K * 2, none⟩ = some (.int .i64 p) ∧ Wz.cell? ⟨b', off' + K * 2 + 1, none⟩ = some x' ∧ Below wr.heap.size wr Wz) (first | exact hS0 | assumption) (first | (go_at_call 35; ((with_reducible refine (HC.out _ ?_).mono ?_); (first | exact hS0 | assumption)); rintro _ w2 ⟨rfl, hS1⟩))
      have HB2 := Lib.hid (HB.out.trans (hS1.2.2.2.2.mono HB.out.size))
      clear hS1 hS0 HSD HC
      go_wp2_with fail
      go_round
      case rel => exact ⟨K + 1, by go_num, by omega, HB2⟩
      case measure => simp [intOf]; omega
    · have hltI : ¬ (K : Int) < (N : Int) := by omega
      go_wp2_with fail
      go_ret
      exact ⟨rfl, HB.out⟩

theorem norm_rule {r q : Rl} (h : normR r = normR q) : q.name = r.name ∧ q.args = r.args ∧ q.from_ = r.from_ ∧ q.guards = r.guards ∧ r.steps.map stays = q.steps.map stays := by
  unfold normR at h
  injection h with h1 h2 h3 h4 h5
  exact ⟨h1.symm, h2.symm, h3.symm, h4.symm, h5⟩

theorem norm_step {p p' : Sp} (h : stays p = stays p') : p'.sets = p.sets ∧ ((p.to = p'.to ∧ 0 ≤ p.to) ∨ (p.to < 0 ∧ p'.to < 0)) := by
  unfold stays at h
  split at h <;> split at h
  · rename_i a b
    exact ⟨by injection h with h1 h2; exact h1.symm, Or.inr ⟨a, b⟩⟩
  · rename_i a b
    injection h with h1 h2
    first | omega | exact (b (by omega)).elim
  · rename_i a b
    injection h with h1 h2
    first | omega | exact (a (by omega)).elim
  · rename_i a b
    injection h with h1 h2
    exact ⟨h1.symm, Or.inl ⟨h2, by omega⟩⟩

set_option maxHeartbeats 8000000 in
theorem rules_any (r q : Rl) (hn : normR r = normR q) (f g s f' g' s' : Value) (w : World) (hf : SlN w f r.from_) (hg : SlOf w 2 (GdIs w) g r.guards) (hs : SlOf w 2 (SpIs w) s r.steps)
    (hf' : SlN w f' q.from_) (hg' : SlOf w 2 (GdIs w) g' q.guards) (hs' : SlOf w 2 (SpIs w) s' q.steps)
    (l1 : r.from_.length ≤ 4611686018427387904) (l2 : r.guards.length ≤ 4611686018427387904) (l3 : ∀ e ∈ r.guards, e.test.length ≤ 9223372036854775807) (l4 : r.steps.length ≤ 4611686018427387904) (l5 : ∀ e ∈ r.steps, e.sets.length ≤ 9223372036854775807 ∧ ∀ z ∈ e.sets, z.value.length ≤ 9223372036854775807) :
    Calls Tryz.prog 16 #[.agg #[sv r.name, .int .i64 r.args, f, g, s], .agg #[sv q.name, .int .i64 q.args, f', g', s']] w fun z w' => z = .returned (.bool true) ∧ Below w.heap.size w w' := by
  obtain ⟨n1, n2, n3, n4, n5⟩ := norm_rule hn
  rw [n1, n2]
  rw [n3] at hf'
  rw [n4] at hg'
  have hl5 : q.steps.length = r.steps.length := by have := congrArg List.length n5; simpa using this.symm
  have HI0 := fun (W : World) (hb : Below w.heap.size w W) => V.ints_same f f' r.from_ W l1 (Sl.below hf hb) (Sl.below hf' hb)
  obtain ⟨af, kf, rfl⟩ := sl_len hf
  obtain ⟨af', kf', rfl⟩ := sl_len hf'
  obtain ⟨ag, kg, rfl, hgo⟩ := hg.open
  obtain ⟨ag', kg', rfl, hgo'⟩ := hg'.open
  obtain ⟨as_, ks, rfl, hso⟩ := hs.open
  obtain ⟨as', ks', rfl, hso'⟩ := hs'.open
  obtain ⟨NF, hNF⟩ : ∃ N, (r.from_.map fun n => Value.int .i64 n).length = N := ⟨_, rfl⟩
  obtain ⟨NG, hNG⟩ : ∃ N, r.guards.length = N := ⟨_, rfl⟩
  obtain ⟨NT, hNT⟩ : ∃ N, r.steps.length = N := ⟨_, rfl⟩
  rw [hl5] at hso' ⊢
  rw [hNF, hNG, hNT]
  rw [hNF] at HI0
  rw [hNG] at hgo hgo' l2
  rw [hNT] at hso hso' l4 hl5
  have HG := Lib.hid hgo
  have HG' := Lib.hid hgo'
  have HT := Lib.hid hso
  have HT' := Lib.hid hso'
  have HN5 := Lib.hid n5
  have HL3 := Lib.hid l3
  have HL5 := Lib.hid l5
  have HNG := Lib.hid hNG
  have HNT := Lib.hid (And.intro hNT hl5)
  have HLL := Lib.hid (And.intro l2 l4)
  have hself : ((str r.name).toList == (str r.name).toList) = true := beq_self_eq_true _
  have hsz : (str r.name).size = r.name.length := str_size r.name
  obtain ⟨ra, hra⟩ : ∃ N, r.args = N := ⟨_, rfl⟩
  rw [hra]
  obtain ⟨W1, hW1⟩ : ∃ W, w.alloc (.cells #[sv r.name, .int .i64 ra, .slice af NF kf, .slice ag NG kg, .slice as_ NT ks] 58) = W := ⟨_, rfl⟩
  obtain ⟨g1, hg1⟩ : ∃ g, w.heap.size = g := ⟨_, rfl⟩
  obtain ⟨g2, hg2⟩ : ∃ g, W1.heap.size = g := ⟨_, rfl⟩
  obtain ⟨W2, hW2⟩ : ∃ W, W1.alloc (.cells #[sv r.name, .int .i64 ra, .slice af' NF kf', .slice ag' NG kg', .slice as' NT ks'] 58) = W := ⟨_, rfl⟩
  have hB1 : Below w.heap.size w W1 := by rw [← hW1]; exact below_alloc _ _
  have hB2 : Below W1.heap.size W1 W2 := by rw [← hW2]; exact below_alloc _ _
  have hB := hB1.trans (hB2.mono hB1.size)
  have hb1 : W2.heap[g1]? = some (.cells #[sv r.name, .int .i64 ra, .slice af NF kf, .slice ag NG kg, .slice as_ NT ks] 58 (0, 0)) := by
    have : W1.heap[g1]? = some (.cells #[sv r.name, .int .i64 ra, .slice af NF kf, .slice ag NG kg, .slice as_ NT ks] 58 (0, 0)) := by rw [← hW1, ← hg1]; exact heap_alloc_at _ _
    exact (hB2.block _ (Array.getElem?_eq_some_iff.1 this).1).trans this
  have hb2 : W2.heap[g2]? = some (.cells #[sv r.name, .int .i64 ra, .slice af' NF kf', .slice ag' NG kg', .slice as' NT ks'] 58 (0, 0)) := by rw [← hW2, ← hg2]; exact heap_alloc_at _ _
  have HB := Lib.hid hB
  have HX1 := Lib.hid hb1
  have HX2 := Lib.hid hb2
  have HI := Lib.hid (HI0 W2 hB)
  have a0 : W2.cell? ⟨g1, 0, none⟩ = some (.string (str r.name)) := by rw [cell_of_row _ _ _ _ _ _ hb1]; rfl
  have a1 : W2.cell? ⟨g1, 1, none⟩ = some (.int .i64 ra) := by rw [cell_of_row _ _ _ _ _ _ hb1]; rfl
  have a2 : W2.cell? ⟨g1, 2, none⟩ = some (.slice af NF kf) := by rw [cell_of_row _ _ _ _ _ _ hb1]; rfl
  have c0 : W2.cell? ⟨g2, 0, none⟩ = some (.string (str r.name)) := by rw [cell_of_row _ _ _ _ _ _ hb2]; rfl
  have c1 : W2.cell? ⟨g2, 1, none⟩ = some (.int .i64 ra) := by rw [cell_of_row _ _ _ _ _ _ hb2]; rfl
  have c2 : W2.cell? ⟨g2, 2, none⟩ = some (.slice af' NF kf') := by rw [cell_of_row _ _ _ _ _ _ hb2]; rfl
  clear hf hg hs hf' hg' hs' l1 l2 l3 l4 l5 n1 n2 n3 n4 n5 hn hl5 HI0 hgo hgo' hso hso' hNF hNG hNT hra hB1 hB2 hB hb1 hb2
  unfold sv at hW1 hW2 ⊢
  go_enter Tryz.func16, Tryz.ntmps16
  go_wp2_with (go_at_call 15; refine HI.out.mono ?_; rintro _ w3 ⟨rfl, hb3⟩; have HX13 := Lib.hid ((hb3.block _ (Array.getElem?_eq_some_iff.1 HX1.out).1).trans HX1.out); have HX23 := Lib.hid ((hb3.block _ (Array.getElem?_eq_some_iff.1 HX2.out).1).trans HX2.out); have HB3 := Lib.hid (HB.out.trans (hb3.mono HB.out.size)); have a3 : w3.cell? ⟨g1, 3, none⟩ = some (.slice ag NG kg) := (by rw [cell_of_row _ _ _ _ _ _ HX13.out]; rfl); have a4 : w3.cell? ⟨g1, 4, none⟩ = some (.slice as_ NT ks) := (by rw [cell_of_row _ _ _ _ _ _ HX13.out]; rfl); have c3 : w3.cell? ⟨g2, 3, none⟩ = some (.slice ag' NG kg') := (by rw [cell_of_row _ _ _ _ _ _ HX23.out]; rfl); have c4 : w3.cell? ⟨g2, 4, none⟩ = some (.slice as' NT ks') := (by rw [cell_of_row _ _ _ _ _ _ HX23.out]; rfl); clear hb3)
  clear a0 a1 a2 c0 c1 c2 hW1 hW2 hg1 hg2 HI
  go_loopw [5] (fun k wr => ∃ (K : Nat), k = .int .i64 (K : Int) ∧ K ≤ NG ∧ Hid (Below w3.heap.size w3 wr)) (fun k _ => NG - (intOf k).toNat)
  case atStart => exact ⟨0, rfl, Nat.zero_le _, Lib.hid (Below.refl _ _)⟩
  case round =>
    obtain ⟨K, rfl, hK, HBR⟩ := hrel
    have d3 := kept_cell HBR.out a3
    have e3 := kept_cell HBR.out c3
    by_cases hlt : K < NG
    · have hltI : (K : Int) < (NG : Int) := by omega
      obtain ⟨e, he⟩ : ∃ e, r.guards[K]? = some e := ⟨_, List.getElem?_eq_getElem (by rw [HNG.out]; exact hlt)⟩
      obtain ⟨b, off, ea, cs, -, ⟨x, rfl, hx⟩, hc⟩ := HG.out.at he
      obtain ⟨b', off', ea', cs', -, ⟨x', rfl, hx'⟩, hc'⟩ := HG'.out.at he
      subst ea ea'
      obtain ⟨p, hp⟩ : ∃ p, e.code = p := ⟨_, rfl⟩
      have hbw := HB3.out.trans (HBR.out.mono HB3.out.size)
      have HBW := Lib.hid hbw
      have k0 : wr.cell? ⟨b, off + K * 2, none⟩ = some (.int .i64 e.code) := kept_cell hbw (hc 0 _ rfl)
      have k1 := kept_cell hbw (hc 1 _ rfl)
      have j0 : wr.cell? ⟨b', off' + K * 2, none⟩ = some (.int .i64 e.code) := kept_cell hbw (hc' 0 _ rfl)
      have j1 := kept_cell hbw (hc' 1 _ rfl)
      rw [hp] at k0 j0
      have hin := HL3.out e (List.mem_of_getElem? he)
      have HI := Lib.hid (fun (W : World) (hb : Below wr.heap.size wr W) => refSame_same e.test x x' W (SlI.below hx (hbw.trans (hb.mono hbw.size))) (SlI.below hx' (hbw.trans (hb.mono hbw.size))) hin)
      have HKP := Lib.hid (fun (Wa Wb : World) (hb : Below Wa.heap.size Wa Wb) (h : Wa.cell? ⟨g1, 3, none⟩ = some (.slice (some ⟨b, off, none⟩) NG kg) ∧ Wa.cell? ⟨g2, 3, none⟩ = some (.slice (some ⟨b', off', none⟩) NG kg') ∧ Wa.cell? ⟨b, off + K * 2, none⟩ = some (.int .i64 p) ∧ Wa.cell? ⟨b, off + K * 2 + 1, none⟩ = some (x) ∧ Wa.cell? ⟨b', off' + K * 2, none⟩ = some (.int .i64 p) ∧ Wa.cell? ⟨b', off' + K * 2 + 1, none⟩ = some (x') ∧ Below wr.heap.size wr Wa) => show Wb.cell? ⟨g1, 3, none⟩ = some (.slice (some ⟨b, off, none⟩) NG kg) ∧ Wb.cell? ⟨g2, 3, none⟩ = some (.slice (some ⟨b', off', none⟩) NG kg') ∧ Wb.cell? ⟨b, off + K * 2, none⟩ = some (.int .i64 p) ∧ Wb.cell? ⟨b, off + K * 2 + 1, none⟩ = some (x) ∧ Wb.cell? ⟨b', off' + K * 2, none⟩ = some (.int .i64 p) ∧ Wb.cell? ⟨b', off' + K * 2 + 1, none⟩ = some (x') ∧ Below wr.heap.size wr Wb from ⟨kept_cell hb h.1, kept_cell hb h.2.1, kept_cell hb h.2.2.1, kept_cell hb h.2.2.2.1, kept_cell hb h.2.2.2.2.1, kept_cell hb h.2.2.2.2.2.1, h.2.2.2.2.2.2.trans (hb.mono h.2.2.2.2.2.2.size)⟩)
      have HC := Lib.hid (fun (W : World) (hS : W.cell? ⟨g1, 3, none⟩ = some (.slice (some ⟨b, off, none⟩) NG kg) ∧ W.cell? ⟨g2, 3, none⟩ = some (.slice (some ⟨b', off', none⟩) NG kg') ∧ W.cell? ⟨b, off + K * 2, none⟩ = some (.int .i64 p) ∧ W.cell? ⟨b, off + K * 2 + 1, none⟩ = some (x) ∧ W.cell? ⟨b', off' + K * 2, none⟩ = some (.int .i64 p) ∧ W.cell? ⟨b', off' + K * 2 + 1, none⟩ = some (x') ∧ Below wr.heap.size wr W) => (HI.out W hS.2.2.2.2.2.2).mono (fun z w' (hz : z = .returned (.bool true) ∧ Below W.heap.size W w') => show z = .returned (.bool true) ∧ w'.cell? ⟨g1, 3, none⟩ = some (.slice (some ⟨b, off, none⟩) NG kg) ∧ w'.cell? ⟨g2, 3, none⟩ = some (.slice (some ⟨b', off', none⟩) NG kg') ∧ w'.cell? ⟨b, off + K * 2, none⟩ = some (.int .i64 p) ∧ w'.cell? ⟨b, off + K * 2 + 1, none⟩ = some (x) ∧ w'.cell? ⟨b', off' + K * 2, none⟩ = some (.int .i64 p) ∧ w'.cell? ⟨b', off' + K * 2 + 1, none⟩ = some (x') ∧ Below wr.heap.size wr w' from ⟨hz.1, HKP.out W w' hz.2 hS⟩))
      have HSD := Lib.hid (show wr.drew.cell? ⟨g1, 3, none⟩ = some (.slice (some ⟨b, off, none⟩) NG kg) ∧ wr.drew.cell? ⟨g2, 3, none⟩ = some (.slice (some ⟨b', off', none⟩) NG kg') ∧ wr.drew.cell? ⟨b, off + K * 2, none⟩ = some (.int .i64 p) ∧ wr.drew.cell? ⟨b, off + K * 2 + 1, none⟩ = some (x) ∧ wr.drew.cell? ⟨b', off' + K * 2, none⟩ = some (.int .i64 p) ∧ wr.drew.cell? ⟨b', off' + K * 2 + 1, none⟩ = some (x') ∧ Below wr.heap.size wr wr.drew from ⟨d3, e3, k0, k1, j0, j1, (Below.refl _ _).drew⟩)
      have hwK := wrap_next K (by have := HLL.out.1; omega)
      clear he hc hc' hx hx' hp hin k0 k1 j0 j1 HI hbw
      go_upto_region 6 with fail
      have hS0 : wr.drew.cell? ⟨g1, 3, none⟩ = some (.slice (some ⟨b, off, none⟩) NG kg) ∧ wr.drew.cell? ⟨g2, 3, none⟩ = some (.slice (some ⟨b', off', none⟩) NG kg') ∧ wr.drew.cell? ⟨b, off + K * 2, none⟩ = some (.int .i64 p) ∧ wr.drew.cell? ⟨b, off + K * 2 + 1, none⟩ = some (x) ∧ wr.drew.cell? ⟨b', off' + K * 2, none⟩ = some (.int .i64 p) ∧ wr.drew.cell? ⟨b', off' + K * 2 + 1, none⟩ = some (x') ∧ Below wr.heap.size wr wr.drew := HSD.out
      go_region_held3 (fun Wz => Wz.cell? ⟨g1, 3, none⟩ = some (.slice (some ⟨b, off, none⟩) NG kg) ∧ Wz.cell? ⟨g2, 3, none⟩ = some (.slice (some ⟨b', off', none⟩) NG kg') ∧ Wz.cell? ⟨b, off + K * 2, none⟩ = some (.int .i64 p) ∧ Wz.cell? ⟨b, off + K * 2 + 1, none⟩ = some (x) ∧ Wz.cell? ⟨b', off' + K * 2, none⟩ = some (.int .i64 p) ∧ Wz.cell? ⟨b', off' + K * 2 + 1, none⟩ = some (x') ∧ Below wr.heap.size wr Wz) (first | exact hS0 | assumption) (first | (go_at_call 35; ((with_reducible refine (HC.out _ ?_).mono ?_); (first | exact hS0 | assumption)); rintro _ w2 ⟨rfl, hS1⟩))
      have HB2 := Lib.hid (HBR.out.trans (hS1.2.2.2.2.2.2.mono HBR.out.size))
      clear hS1 hS0 HSD HC d3 e3
      go_wp2_with fail
      go_round
      case rel => exact ⟨K + 1, by go_num, by omega, HB2⟩
      case measure => simp [intOf]; omega
    · have hltI : ¬ (K : Int) < (NG : Int) := by omega
      clear hK
      have d4 := kept_cell HBR.out a4
      have e4 := kept_cell HBR.out c4
      go_wp2_with fail
      clear d3 e3 a3 c3 a4 c4
      go_loopw [6] (fun k wt => ∃ (K : Nat), k = .int .i64 (K : Int) ∧ K ≤ NT ∧ Hid (Below wr.heap.size wr wt)) (fun k _ => NT - (intOf k).toNat)
      case atStart => exact ⟨0, rfl, Nat.zero_le _, Lib.hid (Below.refl _ _)⟩
      case round =>
        obtain ⟨K, rfl, hK, HBT⟩ := hrel
        have f4 := kept_cell HBT.out d4
        have h4 := kept_cell HBT.out e4
        by_cases hlt : K < NT
        · have hltI : (K : Int) < (NT : Int) := by omega
          obtain ⟨e, he⟩ : ∃ e, r.steps[K]? = some e := ⟨_, List.getElem?_eq_getElem (by rw [HNT.out.1]; exact hlt)⟩
          obtain ⟨e', he'⟩ : ∃ e', q.steps[K]? = some e' := ⟨_, List.getElem?_eq_getElem (by rw [HNT.out.2]; exact hlt)⟩
          have hse : stays e = stays e' := by
            have := congrArg (fun l => l[K]?) HN5.out
            simp only [List.getElem?_map, he, he', Option.map_some, Option.some.injEq] at this
            exact this
          obtain ⟨hsets, hto⟩ := norm_step hse
          obtain ⟨b, off, ea, cs, -, ⟨x, rfl, hx⟩, hc⟩ := HT.out.at he
          obtain ⟨b', off', ea', cs', -, ⟨x', rfl, hx'⟩, hc'⟩ := HT'.out.at he'
          subst ea ea'
          rw [hsets] at hx'
          obtain ⟨p, hp⟩ : ∃ p, e.to = p := ⟨_, rfl⟩
          obtain ⟨p', hp'⟩ : ∃ p, e'.to = p := ⟨_, rfl⟩
          have hbw := HB3.out.trans ((HBR.out.trans (HBT.out.mono HBR.out.size)).mono HB3.out.size)
          have HBW := Lib.hid hbw
          have k0 := kept_cell hbw (hc 0 _ rfl)
          have k1 : wr.cell? ⟨b, off + K * 2 + 1, none⟩ = some (.int .i64 e.to) := kept_cell hbw (hc 1 _ rfl)
          have j0 := kept_cell hbw (hc' 0 _ rfl)
          have j1 : wr.cell? ⟨b', off' + K * 2 + 1, none⟩ = some (.int .i64 e'.to) := kept_cell hbw (hc' 1 _ rfl)
          rw [hp] at k1 hto
          rw [hp'] at j1 hto
          have hin := HL5.out e (List.mem_of_getElem? he)
          have HI := Lib.hid (fun (W : World) (hb : Below wr.heap.size wr W) => sets_any e.sets x x' W (hx.below (hbw.trans (hb.mono hbw.size)) (fun _ _ z => z.below (hbw.trans (hb.mono hbw.size)))) (hx'.below (hbw.trans (hb.mono hbw.size)) (fun _ _ z => z.below (hbw.trans (hb.mono hbw.size)))) hin.1 hin.2)
          have HKP := Lib.hid (fun (Wa Wb : World) (hb : Below Wa.heap.size Wa Wb) (h : Wa.cell? ⟨g1, 4, none⟩ = some (.slice (some ⟨b, off, none⟩) NT ks) ∧ Wa.cell? ⟨g2, 4, none⟩ = some (.slice (some ⟨b', off', none⟩) NT ks') ∧ Wa.cell? ⟨b, off + K * 2, none⟩ = some (x) ∧ Wa.cell? ⟨b, off + K * 2 + 1, none⟩ = some (.int .i64 p) ∧ Wa.cell? ⟨b', off' + K * 2, none⟩ = some (x') ∧ Wa.cell? ⟨b', off' + K * 2 + 1, none⟩ = some (.int .i64 p') ∧ Below wr.heap.size wr Wa) => show Wb.cell? ⟨g1, 4, none⟩ = some (.slice (some ⟨b, off, none⟩) NT ks) ∧ Wb.cell? ⟨g2, 4, none⟩ = some (.slice (some ⟨b', off', none⟩) NT ks') ∧ Wb.cell? ⟨b, off + K * 2, none⟩ = some (x) ∧ Wb.cell? ⟨b, off + K * 2 + 1, none⟩ = some (.int .i64 p) ∧ Wb.cell? ⟨b', off' + K * 2, none⟩ = some (x') ∧ Wb.cell? ⟨b', off' + K * 2 + 1, none⟩ = some (.int .i64 p') ∧ Below wr.heap.size wr Wb from ⟨kept_cell hb h.1, kept_cell hb h.2.1, kept_cell hb h.2.2.1, kept_cell hb h.2.2.2.1, kept_cell hb h.2.2.2.2.1, kept_cell hb h.2.2.2.2.2.1, h.2.2.2.2.2.2.trans (hb.mono h.2.2.2.2.2.2.size)⟩)
          have HC := Lib.hid (fun (W : World) (hS : W.cell? ⟨g1, 4, none⟩ = some (.slice (some ⟨b, off, none⟩) NT ks) ∧ W.cell? ⟨g2, 4, none⟩ = some (.slice (some ⟨b', off', none⟩) NT ks') ∧ W.cell? ⟨b, off + K * 2, none⟩ = some (x) ∧ W.cell? ⟨b, off + K * 2 + 1, none⟩ = some (.int .i64 p) ∧ W.cell? ⟨b', off' + K * 2, none⟩ = some (x') ∧ W.cell? ⟨b', off' + K * 2 + 1, none⟩ = some (.int .i64 p') ∧ Below wr.heap.size wr W) => (HI.out W hS.2.2.2.2.2.2).mono (fun z w' (hz : z = .returned (.bool true) ∧ Below W.heap.size W w') => show z = .returned (.bool true) ∧ w'.cell? ⟨g1, 4, none⟩ = some (.slice (some ⟨b, off, none⟩) NT ks) ∧ w'.cell? ⟨g2, 4, none⟩ = some (.slice (some ⟨b', off', none⟩) NT ks') ∧ w'.cell? ⟨b, off + K * 2, none⟩ = some (x) ∧ w'.cell? ⟨b, off + K * 2 + 1, none⟩ = some (.int .i64 p) ∧ w'.cell? ⟨b', off' + K * 2, none⟩ = some (x') ∧ w'.cell? ⟨b', off' + K * 2 + 1, none⟩ = some (.int .i64 p') ∧ Below wr.heap.size wr w' from ⟨hz.1, HKP.out W w' hz.2 hS⟩))
          have HSD := Lib.hid (show wr.drew.cell? ⟨g1, 4, none⟩ = some (.slice (some ⟨b, off, none⟩) NT ks) ∧ wr.drew.cell? ⟨g2, 4, none⟩ = some (.slice (some ⟨b', off', none⟩) NT ks') ∧ wr.drew.cell? ⟨b, off + K * 2, none⟩ = some (x) ∧ wr.drew.cell? ⟨b, off + K * 2 + 1, none⟩ = some (.int .i64 p) ∧ wr.drew.cell? ⟨b', off' + K * 2, none⟩ = some (x') ∧ wr.drew.cell? ⟨b', off' + K * 2 + 1, none⟩ = some (.int .i64 p') ∧ Below wr.heap.size wr wr.drew from ⟨f4, h4, k0, k1, j0, j1, (Below.refl _ _).drew⟩)
          have hwK := wrap_next K (by have := HLL.out.2; omega)
          have HTO := Lib.hid hto
          clear he he' hse hto hsets hc hc' hx hx' hp hp' hin k0 k1 j0 j1 HI hbw
          go_upto_region 11 with fail
          have hS0 : wr.drew.cell? ⟨g1, 4, none⟩ = some (.slice (some ⟨b, off, none⟩) NT ks) ∧ wr.drew.cell? ⟨g2, 4, none⟩ = some (.slice (some ⟨b', off', none⟩) NT ks') ∧ wr.drew.cell? ⟨b, off + K * 2, none⟩ = some (x) ∧ wr.drew.cell? ⟨b, off + K * 2 + 1, none⟩ = some (.int .i64 p) ∧ wr.drew.cell? ⟨b', off' + K * 2, none⟩ = some (x') ∧ wr.drew.cell? ⟨b', off' + K * 2 + 1, none⟩ = some (.int .i64 p') ∧ Below wr.heap.size wr wr.drew := HSD.out
          rcases HTO.out with ⟨hpe, hp0⟩ | ⟨hp0, hp0'⟩
          · have hm1 : max p (-1) = p := by omega
            have hm1' : max p' (-1) = p := by omega
            clear hpe
            go_region_held3 (fun Wz => Wz.cell? ⟨g1, 4, none⟩ = some (.slice (some ⟨b, off, none⟩) NT ks) ∧ Wz.cell? ⟨g2, 4, none⟩ = some (.slice (some ⟨b', off', none⟩) NT ks') ∧ Wz.cell? ⟨b, off + K * 2, none⟩ = some (x) ∧ Wz.cell? ⟨b, off + K * 2 + 1, none⟩ = some (.int .i64 p) ∧ Wz.cell? ⟨b', off' + K * 2, none⟩ = some (x') ∧ Wz.cell? ⟨b', off' + K * 2 + 1, none⟩ = some (.int .i64 p') ∧ Below wr.heap.size wr Wz) (first | exact hS0 | assumption) (first | (go_at_call 36; ((with_reducible refine (HC.out _ ?_).mono ?_); (first | exact hS0 | assumption)); rintro _ w2 ⟨rfl, hS1⟩))
            all_goals have HB2 := Lib.hid (HBT.out.trans (hS1.2.2.2.2.2.2.mono HBT.out.size))
            all_goals clear hS1 hS0 HSD HC f4 h4
            all_goals go_wp2_with fail
            all_goals go_round
            all_goals first | exact ⟨K + 1, by go_num, by omega, HB2⟩ | (simp [intOf]; omega)
          · have hm1 : max p (-1) = -1 := by omega
            have hm1' : max p' (-1) = -1 := by omega
            go_region_held3 (fun Wz => Wz.cell? ⟨g1, 4, none⟩ = some (.slice (some ⟨b, off, none⟩) NT ks) ∧ Wz.cell? ⟨g2, 4, none⟩ = some (.slice (some ⟨b', off', none⟩) NT ks') ∧ Wz.cell? ⟨b, off + K * 2, none⟩ = some (x) ∧ Wz.cell? ⟨b, off + K * 2 + 1, none⟩ = some (.int .i64 p) ∧ Wz.cell? ⟨b', off' + K * 2, none⟩ = some (x') ∧ Wz.cell? ⟨b', off' + K * 2 + 1, none⟩ = some (.int .i64 p') ∧ Below wr.heap.size wr Wz) (first | exact hS0 | assumption) (first | (go_at_call 36; ((with_reducible refine (HC.out _ ?_).mono ?_); (first | exact hS0 | assumption)); rintro _ w2 ⟨rfl, hS1⟩))
            all_goals have HB2 := Lib.hid (HBT.out.trans (hS1.2.2.2.2.2.2.mono HBT.out.size))
            all_goals clear hS1 hS0 HSD HC f4 h4
            all_goals go_wp2_with fail
            all_goals go_round
            all_goals first | exact ⟨K + 1, by go_num, by omega, HB2⟩ | (simp [intOf]; omega)
        · have hltI : ¬ (K : Int) < (NT : Int) := by omega
          go_wp2_with fail
          go_ret
          exact ⟨rfl, HB3.out.trans ((HBR.out.trans (HBT.out.mono HBR.out.size)).mono HB3.out.size)⟩

end Go.Proofs.YtfooiggedgcjcaaGreatDoor.T
