/-
  Layer 6, the document's answer: the same tables (R06.Same), for tables that are the same but for where steps stay.
-/
import Derived.Test.YtfooiggedgcjcaaGreatDoorTSm
namespace Go.Proofs.YtfooiggedgcjcaaGreatDoor.T
open Go Go.RowKit Go.Proofs.YtfooiggedgcjcaaGreatDoor.B Go.Proofs.YtfooiggedgcjcaaGreatDoor.K Go.Proofs.YtfooiggedgcjcaaGreatDoor.E Go.Proofs.YtfooiggedgcjcaaGreatDoor.R
set_option linter.unusedVariables false
set_option maxRecDepth 100000

/-- What must not be too long in a table, so that places in it are numbers. -/
structure Bnd (t : Tb) : Prop where
  st : t.states.length ≤ 4611686018427387904
  va : t.vars.length ≤ 4611686018427387904
  sa : t.start.length ≤ 4611686018427387904
  ru : t.rules.length ≤ 4611686018427387904
  rl : ∀ r ∈ t.rules, r.from_.length ≤ 4611686018427387904 ∧ r.guards.length ≤ 4611686018427387904 ∧ (∀ e ∈ r.guards, e.test.length ≤ 9223372036854775807) ∧ r.steps.length ≤ 4611686018427387904 ∧ ∀ e ∈ r.steps, e.sets.length ≤ 9223372036854775807 ∧ ∀ z ∈ e.sets, z.value.length ≤ 9223372036854775807

theorem norm_rules {t q : Tb} (h : normT t = normT q) : q.states = t.states ∧ q.vars = t.vars ∧ q.start = t.start ∧ t.rules.map normR = q.rules.map normR := by
  unfold normT at h
  injection h with h1 h2 h3 h4
  exact ⟨h1.symm, h2.symm, h3.symm, h4⟩

set_option maxHeartbeats 8000000 in
theorem same_any (t q : Tb) (hn : normT t = normT q) (c0 c1 c2 c3 d0 d1 d2 d3 : Value) (w : World) (h : TbIs w [c0, c1, c2, c3] t) (h' : TbIs w [d0, d1, d2, d3] q) (hB : Bnd t) :
    Calls Tryz.prog 5 #[.agg #[c0, c1, c2, c3], .agg #[d0, d1, d2, d3]] w fun z w' => z = .returned (.bool true) ∧ Below w.heap.size w w' := by
  obtain ⟨n1, n2, n3, n4⟩ := norm_rules hn
  obtain ⟨_, _, _, _, he, hs, hx, hm, hr⟩ := h
  injection he with e0 he; injection he with e1 he; injection he with e2 he; injection he with e3 he
  subst e0 e1 e2 e3; clear he
  obtain ⟨_, _, _, _, he, hs', hx', hm', hr'⟩ := h'
  injection he with e0 he; injection he with e1 he; injection he with e2 he; injection he with e3 he
  subst e0 e1 e2 e3; clear he
  rw [n1] at hs'
  rw [n2] at hx'
  rw [n3] at hm'
  have hl : q.rules.length = t.rules.length := by have := congrArg List.length n4; simpa using this.symm
  have HS0 := fun (W : World) (hb : Below w.heap.size w W) => V.same_same c0 d0 t.states W hB.st (Sl.below hs hb) (Sl.below hs' hb)
  have HX0 := fun (W : World) (hb : Below w.heap.size w W) => V.same_same c1 d1 t.vars W hB.va (Sl.below hx hb) (Sl.below hx' hb)
  have HM0 := fun (W : World) (hb : Below w.heap.size w W) => V.ints_same c2 d2 t.start W hB.sa (Sl.below hm hb) (Sl.below hm' hb)
  obtain ⟨as_, ks, rfl⟩ := sl_len hs
  obtain ⟨as', ks', rfl⟩ := sl_len hs'
  obtain ⟨ax, kx, rfl⟩ := sl_len hx
  obtain ⟨ax', kx', rfl⟩ := sl_len hx'
  obtain ⟨am, km, rfl⟩ := sl_len hm
  obtain ⟨am', km', rfl⟩ := sl_len hm'
  obtain ⟨ar_, kr, rfl, hro⟩ := hr.open
  obtain ⟨ar_', kr', rfl, hro'⟩ := hr'.open
  obtain ⟨NS, hNS⟩ : ∃ N, (t.states.map sv).length = N := ⟨_, rfl⟩
  obtain ⟨NX, hNX⟩ : ∃ N, (t.vars.map sv).length = N := ⟨_, rfl⟩
  obtain ⟨NM, hNM⟩ : ∃ N, (t.start.map fun n => Value.int .i64 n).length = N := ⟨_, rfl⟩
  obtain ⟨NR, hNR⟩ : ∃ N, t.rules.length = N := ⟨_, rfl⟩
  have hBr := hB.ru
  rw [hl] at hro' ⊢
  rw [hNS, hNX, hNM, hNR]
  rw [hNS] at HS0
  rw [hNX] at HX0
  rw [hNM] at HM0
  rw [hNR] at hro hro' hl hBr
  have HR := Lib.hid hro
  have HR' := Lib.hid hro'
  have HN4 := Lib.hid n4
  have HRL := Lib.hid hB.rl
  have HNR := Lib.hid (And.intro hNR hl)
  have HBR0 := Lib.hid hBr
  obtain ⟨W1, hW1⟩ : ∃ W, w.alloc (.cells #[.slice as_ NS ks, .slice ax NX kx, .slice am NM km, .slice ar_ NR kr] 26) = W := ⟨_, rfl⟩
  obtain ⟨g1, hg1⟩ : ∃ g, w.heap.size = g := ⟨_, rfl⟩
  obtain ⟨g2, hg2⟩ : ∃ g, W1.heap.size = g := ⟨_, rfl⟩
  obtain ⟨W2, hW2⟩ : ∃ W, W1.alloc (.cells #[.slice as' NS ks', .slice ax' NX kx', .slice am' NM km', .slice ar_' NR kr'] 26) = W := ⟨_, rfl⟩
  have hB1 : Below w.heap.size w W1 := by rw [← hW1]; exact below_alloc _ _
  have hB2 : Below W1.heap.size W1 W2 := by rw [← hW2]; exact below_alloc _ _
  have hBB := hB1.trans (hB2.mono hB1.size)
  have hb1 : W2.heap[g1]? = some (.cells #[.slice as_ NS ks, .slice ax NX kx, .slice am NM km, .slice ar_ NR kr] 26 (0, 0)) := by
    have : W1.heap[g1]? = some (.cells #[.slice as_ NS ks, .slice ax NX kx, .slice am NM km, .slice ar_ NR kr] 26 (0, 0)) := by rw [← hW1, ← hg1]; exact heap_alloc_at _ _
    exact (hB2.block _ (Array.getElem?_eq_some_iff.1 this).1).trans this
  have hb2 : W2.heap[g2]? = some (.cells #[.slice as' NS ks', .slice ax' NX kx', .slice am' NM km', .slice ar_' NR kr'] 26 (0, 0)) := by rw [← hW2, ← hg2]; exact heap_alloc_at _ _
  have HB := Lib.hid hBB
  have a0 : W2.cell? ⟨g1, 0, none⟩ = some (.slice as_ NS ks) := by rw [cell_of_row _ _ _ _ _ _ hb1]; rfl
  have a1 : W2.cell? ⟨g1, 1, none⟩ = some (.slice ax NX kx) := by rw [cell_of_row _ _ _ _ _ _ hb1]; rfl
  have a2 : W2.cell? ⟨g1, 2, none⟩ = some (.slice am NM km) := by rw [cell_of_row _ _ _ _ _ _ hb1]; rfl
  have a3 : W2.cell? ⟨g1, 3, none⟩ = some (.slice ar_ NR kr) := by rw [cell_of_row _ _ _ _ _ _ hb1]; rfl
  have b0 : W2.cell? ⟨g2, 0, none⟩ = some (.slice as' NS ks') := by rw [cell_of_row _ _ _ _ _ _ hb2]; rfl
  have b1 : W2.cell? ⟨g2, 1, none⟩ = some (.slice ax' NX kx') := by rw [cell_of_row _ _ _ _ _ _ hb2]; rfl
  have b2 : W2.cell? ⟨g2, 2, none⟩ = some (.slice am' NM km') := by rw [cell_of_row _ _ _ _ _ _ hb2]; rfl
  have b3 : W2.cell? ⟨g2, 3, none⟩ = some (.slice ar_' NR kr') := by rw [cell_of_row _ _ _ _ _ _ hb2]; rfl
  have HIS := Lib.hid (HS0 W2 hBB)
  have HIX := Lib.hid (fun (W : World) (hb : Below W2.heap.size W2 W) => HX0 W (hBB.trans (hb.mono hBB.size)))
  have HIM := Lib.hid (fun (W : World) (hb : Below W2.heap.size W2 W) => HM0 W (hBB.trans (hb.mono hBB.size)))
  clear hs hx hm hr hs' hx' hm' hr' n1 n2 n3 n4 hn hl HS0 HX0 HM0 hro hro' hNS hNX hNM hNR hB1 hB2 hBB hb1 hb2 hBr hB
  go_enter Tryz.func5, Tryz.ntmps5
  go_wp2_with (first
    | (go_at_call 14; with_reducible refine HIS.out.mono ?_; rintro _ w3 ⟨rfl, hb3⟩; have a13 := kept_cell hb3 a1; have a23 := kept_cell hb3 a2; have a33 := kept_cell hb3 a3; have b13 := kept_cell hb3 b1; have b23 := kept_cell hb3 b2; have b33 := kept_cell hb3 b3; have HB3 := Lib.hid hb3; clear hb3)
    | (go_at_call 14; with_reducible refine (HIX.out _ HB3.out).mono ?_; rintro _ w4 ⟨rfl, hb4⟩; have a24 := kept_cell hb4 a23; have a34 := kept_cell hb4 a33; have b24 := kept_cell hb4 b23; have b34 := kept_cell hb4 b33; have HB4 := Lib.hid (HB3.out.trans (hb4.mono HB3.out.size)); clear hb4)
    | (go_at_call 15; with_reducible refine (HIM.out _ HB4.out).mono ?_; rintro _ w5 ⟨rfl, hb5⟩; have a35 := kept_cell hb5 a34; have b35 := kept_cell hb5 b34; have HB5 := Lib.hid (HB.out.trans ((HB4.out.trans (hb5.mono HB4.out.size)).mono HB.out.size)); clear hb5))
  clear a0 a1 a2 a3 b0 b1 b2 b3 a13 a23 a33 b13 b23 b33 a24 a34 b24 b34 HB3 HB4 HIS HIX HIM hW1 hW2
  go_loopw [5] (fun k wr => ∃ (K : Nat), k = .int .i64 (K : Int) ∧ K ≤ NR ∧ Hid (Below w5.heap.size w5 wr)) (fun k _ => NR - (intOf k).toNat)
  case atStart => exact ⟨0, rfl, Nat.zero_le _, Lib.hid (Below.refl _ _)⟩
  case round =>
    obtain ⟨K, rfl, hK, HBR⟩ := hrel
    have p3 := kept_cell HBR.out a35
    have q3 := kept_cell HBR.out b35
    by_cases hlt : K < NR
    · have hltI : (K : Int) < (NR : Int) := by omega
      obtain ⟨e, he⟩ : ∃ e, t.rules[K]? = some e := ⟨_, List.getElem?_eq_getElem (by rw [HNR.out.1]; exact hlt)⟩
      obtain ⟨e', he'⟩ : ∃ e', q.rules[K]? = some e' := ⟨_, List.getElem?_eq_getElem (by rw [HNR.out.2]; exact hlt)⟩
      have hse : normR e = normR e' := by
        have := congrArg (fun l => l[K]?) HN4.out
        simp only [List.getElem?_map, he, he', Option.map_some, Option.some.injEq] at this
        exact this
      obtain ⟨m1, m2, -, -, -⟩ := norm_rule hse
      obtain ⟨b, off, ea, cs, -, ⟨f, g, s, rfl, hf, hg, hs⟩, hc⟩ := HR.out.at he
      obtain ⟨b', off', ea', cs', -, ⟨f', g', s', rfl, hf', hg', hs'⟩, hc'⟩ := HR'.out.at he'
      subst ea ea'
      obtain ⟨l1, l2, l3, l4, l5⟩ := HRL.out e (List.mem_of_getElem? he)
      have hbw := HB5.out.trans (HBR.out.mono HB5.out.size)
      have HI0 := fun (W : World) (hb : Below wr.heap.size wr W) => rules_any e e' hse f g s f' g' s' W (Sl.below hf (hbw.trans (hb.mono hbw.size))) (hg.below (hbw.trans (hb.mono hbw.size)) (fun _ _ z => z.below (hbw.trans (hb.mono hbw.size)))) (hs.below (hbw.trans (hb.mono hbw.size)) (fun _ _ z => z.below (hbw.trans (hb.mono hbw.size))))
        (Sl.below hf' (hbw.trans (hb.mono hbw.size))) (hg'.below (hbw.trans (hb.mono hbw.size)) (fun _ _ z => z.below (hbw.trans (hb.mono hbw.size)))) (hs'.below (hbw.trans (hb.mono hbw.size)) (fun _ _ z => z.below (hbw.trans (hb.mono hbw.size)))) l1 l2 l3 l4 l5
      rw [m1, m2] at HI0
      have k0 : wr.cell? ⟨b, off + K * 5, none⟩ = some (sv e.name) := kept_cell hbw (hc 0 _ rfl)
      have k1 : wr.cell? ⟨b, off + K * 5 + 1, none⟩ = some (.int .i64 e.args) := kept_cell hbw (hc 1 _ rfl)
      have k2 := kept_cell hbw (hc 2 _ rfl)
      have k3 := kept_cell hbw (hc 3 _ rfl)
      have k4 := kept_cell hbw (hc 4 _ rfl)
      have j0 : wr.cell? ⟨b', off' + K * 5, none⟩ = some (sv e'.name) := kept_cell hbw (hc' 0 _ rfl)
      have j1 : wr.cell? ⟨b', off' + K * 5 + 1, none⟩ = some (.int .i64 e'.args) := kept_cell hbw (hc' 1 _ rfl)
      have j2 := kept_cell hbw (hc' 2 _ rfl)
      have j3 := kept_cell hbw (hc' 3 _ rfl)
      have j4 := kept_cell hbw (hc' 4 _ rfl)
      rw [m1] at j0
      rw [m2] at j1
      obtain ⟨ar, har⟩ : ∃ a, e.args = a := ⟨_, rfl⟩
      rw [har] at k1 j1 HI0
      obtain ⟨nm, hnm⟩ : ∃ a, e.name = a := ⟨_, rfl⟩
      rw [hnm] at k0 j0 HI0
      unfold sv at k0 j0 HI0
      have HI := Lib.hid HI0
      have HKP := Lib.hid (fun (Wa Wb : World) (hb : Below Wa.heap.size Wa Wb) (h : Wa.cell? ⟨g1, 3, none⟩ = some (.slice (some ⟨b, off, none⟩) NR kr) ∧ Wa.cell? ⟨g2, 3, none⟩ = some (.slice (some ⟨b', off', none⟩) NR kr') ∧ Wa.cell? ⟨b, off + K * 5, none⟩ = some (.string (str nm)) ∧ Wa.cell? ⟨b, off + K * 5 + 1, none⟩ = some (.int .i64 ar) ∧ Wa.cell? ⟨b, off + K * 5 + 2, none⟩ = some (f) ∧ Wa.cell? ⟨b, off + K * 5 + 3, none⟩ = some (g) ∧ Wa.cell? ⟨b, off + K * 5 + 4, none⟩ = some (s) ∧ Wa.cell? ⟨b', off' + K * 5, none⟩ = some (.string (str nm)) ∧ Wa.cell? ⟨b', off' + K * 5 + 1, none⟩ = some (.int .i64 ar) ∧ Wa.cell? ⟨b', off' + K * 5 + 2, none⟩ = some (f') ∧ Wa.cell? ⟨b', off' + K * 5 + 3, none⟩ = some (g') ∧ Wa.cell? ⟨b', off' + K * 5 + 4, none⟩ = some (s') ∧ Below wr.heap.size wr Wa) => show Wb.cell? ⟨g1, 3, none⟩ = some (.slice (some ⟨b, off, none⟩) NR kr) ∧ Wb.cell? ⟨g2, 3, none⟩ = some (.slice (some ⟨b', off', none⟩) NR kr') ∧ Wb.cell? ⟨b, off + K * 5, none⟩ = some (.string (str nm)) ∧ Wb.cell? ⟨b, off + K * 5 + 1, none⟩ = some (.int .i64 ar) ∧ Wb.cell? ⟨b, off + K * 5 + 2, none⟩ = some (f) ∧ Wb.cell? ⟨b, off + K * 5 + 3, none⟩ = some (g) ∧ Wb.cell? ⟨b, off + K * 5 + 4, none⟩ = some (s) ∧ Wb.cell? ⟨b', off' + K * 5, none⟩ = some (.string (str nm)) ∧ Wb.cell? ⟨b', off' + K * 5 + 1, none⟩ = some (.int .i64 ar) ∧ Wb.cell? ⟨b', off' + K * 5 + 2, none⟩ = some (f') ∧ Wb.cell? ⟨b', off' + K * 5 + 3, none⟩ = some (g') ∧ Wb.cell? ⟨b', off' + K * 5 + 4, none⟩ = some (s') ∧ Below wr.heap.size wr Wb from ⟨kept_cell hb h.1, kept_cell hb h.2.1, kept_cell hb h.2.2.1, kept_cell hb h.2.2.2.1, kept_cell hb h.2.2.2.2.1, kept_cell hb h.2.2.2.2.2.1, kept_cell hb h.2.2.2.2.2.2.1, kept_cell hb h.2.2.2.2.2.2.2.1, kept_cell hb h.2.2.2.2.2.2.2.2.1, kept_cell hb h.2.2.2.2.2.2.2.2.2.1, kept_cell hb h.2.2.2.2.2.2.2.2.2.2.1, kept_cell hb h.2.2.2.2.2.2.2.2.2.2.2.1, h.2.2.2.2.2.2.2.2.2.2.2.2.trans (hb.mono h.2.2.2.2.2.2.2.2.2.2.2.2.size)⟩)
      have HC := Lib.hid (fun (W : World) (hS : W.cell? ⟨g1, 3, none⟩ = some (.slice (some ⟨b, off, none⟩) NR kr) ∧ W.cell? ⟨g2, 3, none⟩ = some (.slice (some ⟨b', off', none⟩) NR kr') ∧ W.cell? ⟨b, off + K * 5, none⟩ = some (.string (str nm)) ∧ W.cell? ⟨b, off + K * 5 + 1, none⟩ = some (.int .i64 ar) ∧ W.cell? ⟨b, off + K * 5 + 2, none⟩ = some (f) ∧ W.cell? ⟨b, off + K * 5 + 3, none⟩ = some (g) ∧ W.cell? ⟨b, off + K * 5 + 4, none⟩ = some (s) ∧ W.cell? ⟨b', off' + K * 5, none⟩ = some (.string (str nm)) ∧ W.cell? ⟨b', off' + K * 5 + 1, none⟩ = some (.int .i64 ar) ∧ W.cell? ⟨b', off' + K * 5 + 2, none⟩ = some (f') ∧ W.cell? ⟨b', off' + K * 5 + 3, none⟩ = some (g') ∧ W.cell? ⟨b', off' + K * 5 + 4, none⟩ = some (s') ∧ Below wr.heap.size wr W) => (HI.out W hS.2.2.2.2.2.2.2.2.2.2.2.2).mono (fun z w' (hz : z = .returned (.bool true) ∧ Below W.heap.size W w') => show z = .returned (.bool true) ∧ w'.cell? ⟨g1, 3, none⟩ = some (.slice (some ⟨b, off, none⟩) NR kr) ∧ w'.cell? ⟨g2, 3, none⟩ = some (.slice (some ⟨b', off', none⟩) NR kr') ∧ w'.cell? ⟨b, off + K * 5, none⟩ = some (.string (str nm)) ∧ w'.cell? ⟨b, off + K * 5 + 1, none⟩ = some (.int .i64 ar) ∧ w'.cell? ⟨b, off + K * 5 + 2, none⟩ = some (f) ∧ w'.cell? ⟨b, off + K * 5 + 3, none⟩ = some (g) ∧ w'.cell? ⟨b, off + K * 5 + 4, none⟩ = some (s) ∧ w'.cell? ⟨b', off' + K * 5, none⟩ = some (.string (str nm)) ∧ w'.cell? ⟨b', off' + K * 5 + 1, none⟩ = some (.int .i64 ar) ∧ w'.cell? ⟨b', off' + K * 5 + 2, none⟩ = some (f') ∧ w'.cell? ⟨b', off' + K * 5 + 3, none⟩ = some (g') ∧ w'.cell? ⟨b', off' + K * 5 + 4, none⟩ = some (s') ∧ Below wr.heap.size wr w' from ⟨hz.1, HKP.out W w' hz.2 hS⟩))
      have HSD := Lib.hid (show wr.drew.cell? ⟨g1, 3, none⟩ = some (.slice (some ⟨b, off, none⟩) NR kr) ∧ wr.drew.cell? ⟨g2, 3, none⟩ = some (.slice (some ⟨b', off', none⟩) NR kr') ∧ wr.drew.cell? ⟨b, off + K * 5, none⟩ = some (.string (str nm)) ∧ wr.drew.cell? ⟨b, off + K * 5 + 1, none⟩ = some (.int .i64 ar) ∧ wr.drew.cell? ⟨b, off + K * 5 + 2, none⟩ = some (f) ∧ wr.drew.cell? ⟨b, off + K * 5 + 3, none⟩ = some (g) ∧ wr.drew.cell? ⟨b, off + K * 5 + 4, none⟩ = some (s) ∧ wr.drew.cell? ⟨b', off' + K * 5, none⟩ = some (.string (str nm)) ∧ wr.drew.cell? ⟨b', off' + K * 5 + 1, none⟩ = some (.int .i64 ar) ∧ wr.drew.cell? ⟨b', off' + K * 5 + 2, none⟩ = some (f') ∧ wr.drew.cell? ⟨b', off' + K * 5 + 3, none⟩ = some (g') ∧ wr.drew.cell? ⟨b', off' + K * 5 + 4, none⟩ = some (s') ∧ Below wr.heap.size wr wr.drew from ⟨p3, q3, k0, k1, k2, k3, k4, j0, j1, j2, j3, j4, (Below.refl _ _).drew⟩)
      have hwK := wrap_next K (by have := HBR0.out; omega)
      clear he he' hse hc hc' hf hg hs hf' hg' hs' m1 m2 har hnm k0 k1 k2 k3 k4 j0 j1 j2 j3 j4 HI HI0 hbw l1 l2 l3 l4 l5
      go_upto_region 6 with fail
      have hS0 : wr.drew.cell? ⟨g1, 3, none⟩ = some (.slice (some ⟨b, off, none⟩) NR kr) ∧ wr.drew.cell? ⟨g2, 3, none⟩ = some (.slice (some ⟨b', off', none⟩) NR kr') ∧ wr.drew.cell? ⟨b, off + K * 5, none⟩ = some (.string (str nm)) ∧ wr.drew.cell? ⟨b, off + K * 5 + 1, none⟩ = some (.int .i64 ar) ∧ wr.drew.cell? ⟨b, off + K * 5 + 2, none⟩ = some (f) ∧ wr.drew.cell? ⟨b, off + K * 5 + 3, none⟩ = some (g) ∧ wr.drew.cell? ⟨b, off + K * 5 + 4, none⟩ = some (s) ∧ wr.drew.cell? ⟨b', off' + K * 5, none⟩ = some (.string (str nm)) ∧ wr.drew.cell? ⟨b', off' + K * 5 + 1, none⟩ = some (.int .i64 ar) ∧ wr.drew.cell? ⟨b', off' + K * 5 + 2, none⟩ = some (f') ∧ wr.drew.cell? ⟨b', off' + K * 5 + 3, none⟩ = some (g') ∧ wr.drew.cell? ⟨b', off' + K * 5 + 4, none⟩ = some (s') ∧ Below wr.heap.size wr wr.drew := HSD.out
      go_region_held3 (fun Wz => Wz.cell? ⟨g1, 3, none⟩ = some (.slice (some ⟨b, off, none⟩) NR kr) ∧ Wz.cell? ⟨g2, 3, none⟩ = some (.slice (some ⟨b', off', none⟩) NR kr') ∧ Wz.cell? ⟨b, off + K * 5, none⟩ = some (.string (str nm)) ∧ Wz.cell? ⟨b, off + K * 5 + 1, none⟩ = some (.int .i64 ar) ∧ Wz.cell? ⟨b, off + K * 5 + 2, none⟩ = some (f) ∧ Wz.cell? ⟨b, off + K * 5 + 3, none⟩ = some (g) ∧ Wz.cell? ⟨b, off + K * 5 + 4, none⟩ = some (s) ∧ Wz.cell? ⟨b', off' + K * 5, none⟩ = some (.string (str nm)) ∧ Wz.cell? ⟨b', off' + K * 5 + 1, none⟩ = some (.int .i64 ar) ∧ Wz.cell? ⟨b', off' + K * 5 + 2, none⟩ = some (f') ∧ Wz.cell? ⟨b', off' + K * 5 + 3, none⟩ = some (g') ∧ Wz.cell? ⟨b', off' + K * 5 + 4, none⟩ = some (s') ∧ Below wr.heap.size wr Wz) (first | exact hS0 | assumption) (first | (go_at_call 16; ((with_reducible refine (HC.out _ ?_).mono ?_); (first | exact hS0 | assumption)); rintro _ w2 ⟨rfl, hS1⟩))
      all_goals have HB2 := Lib.hid (HBR.out.trans (hS1.2.2.2.2.2.2.2.2.2.2.2.2.mono HBR.out.size))
      all_goals clear hS1 hS0 HSD HC p3 q3
      all_goals go_wp2_with fail
      all_goals go_round
      all_goals first | exact ⟨K + 1, by go_num, by omega, HB2⟩ | (simp [intOf]; omega)
    · have hltI : ¬ (K : Int) < (NR : Int) := by omega
      go_wp2_with fail
      go_ret
      exact ⟨rfl, by first | exact HB5.out.trans (HBR.out.mono HB5.out.size) | (rw [← hg1]; exact HB5.out.trans (HBR.out.mono HB5.out.size))⟩
end Go.Proofs.YtfooiggedgcjcaaGreatDoor.T
