/-
  Layer 10, the program: ReadRecord.
-/
import Derived.Test.YtebglkpejdoggaaGreatP10Lg
namespace Go.Proofs.YtebglkpejdoggaaGreat.C10
open Go Go.RowKit Go.Proofs Go.Proofs.YtebglkpejdoggaaGreat.B Go.Proofs.YtebglkpejdoggaaGreat.K Go.Proofs.YtebglkpejdoggaaGreat.P8
set_option linter.unusedVariables false
set_option maxRecDepth 100000

set_option maxHeartbeats 8000000 in
theorem pReadRecord0 (s : List UInt8) (p : Int) (w : World) (hs : s.length ≤ 140737488355328) :
    Calls Tryz.prog 56 #[.string (str s), .int .i64 p, .func (.func 57) #[] #[], .func (.func 54) #[] #[]] w (RcOut (fun (c : Rc) u => .agg #[.int .i64 c.client, .int .i64 c.seq, .string (str c.stream), .int .i64 c.code, u]) (fun W u c => LsIs 2 QE w.heap.size W u c.events) rdRec s p w) := by
  obtain ⟨g0, hg0⟩ : ∃ g, w.heap.size = g := ⟨_, rfl⟩
  obtain ⟨W0, hW0⟩ : ∃ W0, w.alloc (.cells #[.int .i64 0, .int .i64 0, .string ⟨#[]⟩, .int .i64 0, .slice none 0 0] 44) = W0 := ⟨_, rfl⟩
  obtain ⟨g1, hg1⟩ : ∃ g, W0.heap.size = g := ⟨_, rfl⟩
  obtain ⟨W1, hW1⟩ : ∃ W1, W0.alloc (.cells #[.string (str s), .int .i64 p, .int .i64 0] 125) = W1 := ⟨_, rfl⟩
  have hB0 : Below w.heap.size w W0 := by rw [← hW0]; exact below_alloc _ _
  have hB01 : Below W0.heap.size W0 W1 := by rw [← hW1]; exact below_alloc _ _
  have hB1 := hB0.trans (hB01.mono hB0.size)
  have hrow0 : W0.heap[g0]? = some (.cells #[.int .i64 0, .int .i64 0, .string ⟨#[]⟩, .int .i64 0, .slice none 0 0] 44 (0, 0)) := by rw [← hW0, ← hg0]; exact heap_alloc_at _ _
  have hrow1 : W1.heap[g0]? = some (.cells #[.int .i64 0, .int .i64 0, .string ⟨#[]⟩, .int .i64 0, .slice none 0 0] 44 (0, 0)) := (hB01.block g0 (Array.getElem?_eq_some_iff.1 hrow0).1).trans hrow0
  have hr0 : Rdr W1 g1 s p 0 := by rw [← hW1, ← hg1]; exact heap_alloc_at _ _
  have hlt01 : g0 < g1 := by rw [← hg1]; exact (Array.getElem?_eq_some_iff.1 hrow0).1
  have hg1s := hr0.lt
  have hg00 : w.heap.size ≤ g0 := Nat.le_of_eq hg0
  obtain ⟨x, q1, e1, hst⟩ : ∃ x q e, sRec s p 0 = (x, q, e) := ⟨_, _, _, rfl⟩
  have HR := Lib.hid (show Calls Tryz.prog 57 #[.pointer (some ⟨g1, 0, none⟩)] W1 (fun e w' => ∃ u, e = .returned (.agg #[.int .i64 x.client, .int .i64 x.seq, .string (str x.stream), .int .i64 x.code, u]) ∧ LsIs 2 QE W1.heap.size w' u x.events ∧ Rdr w' g1 s q1 e1 ∧ Tg g1 W1 w') from (preadRecord_any g1 s hs p 0 W1 hr0).mono fun e w' ⟨x', u, q', er', h1, h2⟩ => by
    rw [hst] at h1
    simp only [Prod.mk.injEq] at h1
    obtain ⟨rfl, rfl, rfl⟩ := h1
    exact ⟨u, h2⟩)
  have hwf := all_rec s p 0
  rw [hst] at hwf
  dsimp only at hwf
  have HM := Lib.hid (fun W (u : Value) (hv : EvsIs W u x.events) => (mayRecord_any x u W hv hwf))
  have HB1 := Lib.hid hB1
  have HROW1 := Lib.hid hrow1
  have hgz : w.heap.size ≤ g1 := by omega
  by_cases he : e1 = 0
  · subst he
    cases hok : recP x with
    | true =>
      have HYES := Lib.hid (sim_good sim_rec hst hok)
      rw [hok] at HM
      clear hst hok hwf hr0 hB0 hB01 hB1 hrow0 hrow1
      go_enter Tryz.func56, Tryz.ntmps56
      go_wp2_with fail
      refine HR.out.mono ?_
      rintro _ w2 ⟨u, rfl, hv, hr2, ht2⟩
      have HV2 := Lib.hid hv
      have HR2 := Lib.hid hr2
      have HB2 := Lib.hid (Tg.onto HB1.out (Nat.le_refl _) hgz ht2)
      have HROW2 := Lib.hid ((ht2.block g0 (Array.getElem?_eq_some_iff.1 HROW1.out).1 (by omega)).trans HROW1.out)
      have hsz2 := ht2.size
      obtain ⟨a, cap, rfl, -⟩ := (evs_of' HV2.out).open
      obtain ⟨n0, n1, t, n3, sl⟩ := x
      dsimp only at *
      obtain ⟨L, hL⟩ : ∃ L, sl.length = L := ⟨_, rfl⟩
      rw [hL] at HV2 ⊢
      obtain ⟨g2, hg2⟩ : ∃ g, w2.heap.size = g := ⟨_, rfl⟩
      obtain ⟨W3, hW3⟩ : ∃ W3, w2.alloc (.cells #[.int .i64 n0, .int .i64 n1, .string (str t), .int .i64 n3, .slice a L cap] 44) = W3 := ⟨_, rfl⟩
      have hB23 : Below w2.heap.size w2 W3 := by rw [← hW3]; exact below_alloc _ _
      have hrow3 : W3.heap[g2]? = some (.cells #[.int .i64 n0, .int .i64 n1, .string (str t), .int .i64 n3, .slice a L cap] 44 (0, 0)) := by rw [← hW3, ← hg2]; exact heap_alloc_at _ _
      have HROW3 := Lib.hid hrow3
      have hr3 := HR2.out.below hB23
      have HR3 := Lib.hid hr3
      have HV3 := Lib.hid (EvsF.below HV2.out hB23)
      have HB3 := Lib.hid (HB2.out.trans (hB23.mono HB2.out.size))
      have HZ3 := Lib.hid ((hB23.block g0 (Array.getElem?_eq_some_iff.1 HROW2.out).1).trans HROW2.out)
      have k0 := (row_at hrow3 0 _ rfl).1
      have kf0 := (row_at hrow3 0 _ rfl).2
      have k1 := (row_at hrow3 1 _ rfl).1
      have kf1 := (row_at hrow3 1 _ rfl).2
      have k2 := (row_at hrow3 2 _ rfl).1
      have kf2 := (row_at hrow3 2 _ rfl).2
      have k3 := (row_at hrow3 3 _ rfl).1
      have kf3 := (row_at hrow3 3 _ rfl).2
      have k4 := (row_at hrow3 4 _ rfl).1
      have kf4 := (row_at hrow3 4 _ rfl).2
      obtain ⟨-, c1, c2, -, -⟩ := hr3.cells
      clear hv hr2 ht2 HR hW0 hW1 hr3 hrow3
      go_wp2_with fail
      refine (HM.out _ _ (evs_of' HV3.out)).mono ?_
      rintro _ w4 ⟨rfl, hb4⟩
      have hrow4 := (hb4.block g2 (Array.getElem?_eq_some_iff.1 HROW3.out).1).trans HROW3.out
      have hz4 := (hb4.block g0 (Array.getElem?_eq_some_iff.1 HZ3.out).1).trans HZ3.out
      have HZ4 := Lib.hid hz4
      have HR4 := Lib.hid (HR3.out.below hb4)
      have HV4 := Lib.hid (EvsF.below HV3.out hb4)
      have HB4 := Lib.hid (HB3.out.trans (hb4.mono HB3.out.size))
      obtain ⟨-, d1, d2, -, -⟩ := HR4.out.cells
      have m0 := (row_at hrow4 0 _ rfl).1
      have mf0 := (row_at hrow4 0 _ rfl).2
      have m1 := (row_at hrow4 1 _ rfl).1
      have mf1 := (row_at hrow4 1 _ rfl).2
      have m2 := (row_at hrow4 2 _ rfl).1
      have mf2 := (row_at hrow4 2 _ rfl).2
      have m3 := (row_at hrow4 3 _ rfl).1
      have mf3 := (row_at hrow4 3 _ rfl).2
      have m4 := (row_at hrow4 4 _ rfl).1
      have mf4 := (row_at hrow4 4 _ rfl).2
      have z0 := (row_at hz4 0 _ rfl).1
      have zf0 := (row_at hz4 0 _ rfl).2
      have z1 := (row_at hz4 1 _ rfl).1
      have zf1 := (row_at hz4 1 _ rfl).2
      have z2 := (row_at hz4 2 _ rfl).1
      have zf2 := (row_at hz4 2 _ rfl).2
      have z3 := (row_at hz4 3 _ rfl).1
      have zf3 := (row_at hz4 3 _ rfl).2
      have z4 := (row_at hz4 4 _ rfl).1
      have zf4 := (row_at hz4 4 _ rfl).2
      clear hb4 hrow4 hz4 c1 c2 HM hW3 k0 kf0 k1 kf1 k2 kf2 k3 kf3 k4 kf4
      go_wp2_with fail
      go_region
      all_goals go_wp2_with fail
      all_goals have htg : Tg g0 w4 (((((w4.setCell ⟨g0, 0, none⟩ (.int .i64 n0)).setCell ⟨g0, 1, none⟩ (.int .i64 n1)).setCell ⟨g0, 2, none⟩ (.string (str t))).setCell ⟨g0, 3, none⟩ (.int .i64 n3)).setCell ⟨g0, 4, none⟩ (.slice a L cap)) := (((((Tg.set _ _ _ _).trans (Tg.set _ _ _ _)).trans (Tg.set _ _ _ _)).trans (Tg.set _ _ _ _)).trans (Tg.set _ _ _ _))
      all_goals refine row_end3 (g := g0) (cs := #[.int .i64 n0, .int .i64 n1, .string (str t), .int .i64 n3, .slice a L cap]) (.int .i64 q1) (.int .i64 0) rfl rfl rfl rfl rfl (row_drew (heap_setCell_same _ g0 4 _ 44 _ (heap_setCell_same _ g0 3 _ 44 _ (heap_setCell_same _ g0 2 _ 44 _ (heap_setCell_same _ g0 1 _ 44 _ (heap_setCell_same _ g0 0 _ 44 _ HZ4.out)))))) Tryz.underlying44 (by kernel_rfl) ?_
      all_goals exact rcOut_good HYES.out rfl (pevf_drew (EvsF.mono (EvsF.tg HV4.out htg (by omega)) HB1.out.size)) (((((HB4.out.setCell (p := ⟨g0, 0, none⟩) hg00 _).setCell (p := ⟨g0, 1, none⟩) hg00 _).setCell (p := ⟨g0, 2, none⟩) hg00 _).setCell (p := ⟨g0, 3, none⟩) hg00 _).setCell (p := ⟨g0, 4, none⟩) hg00 _).drew
    | false =>
      have HNO := Lib.hid (sim_bad sim_rec hst (Or.inr hok))
      rw [hok] at HM
      clear hst hok hwf hr0 hB0 hB01 hB1 hrow0 hrow1
      go_enter Tryz.func56, Tryz.ntmps56
      go_wp2_with fail
      refine HR.out.mono ?_
      rintro _ w2 ⟨u, rfl, hv, hr2, ht2⟩
      have HV2 := Lib.hid hv
      have HR2 := Lib.hid hr2
      have HB2 := Lib.hid (Tg.onto HB1.out (Nat.le_refl _) hgz ht2)
      have HROW2 := Lib.hid ((ht2.block g0 (Array.getElem?_eq_some_iff.1 HROW1.out).1 (by omega)).trans HROW1.out)
      have hsz2 := ht2.size
      obtain ⟨a, cap, rfl, -⟩ := (evs_of' HV2.out).open
      obtain ⟨n0, n1, t, n3, sl⟩ := x
      dsimp only at *
      obtain ⟨L, hL⟩ : ∃ L, sl.length = L := ⟨_, rfl⟩
      rw [hL] at HV2 ⊢
      obtain ⟨g2, hg2⟩ : ∃ g, w2.heap.size = g := ⟨_, rfl⟩
      obtain ⟨W3, hW3⟩ : ∃ W3, w2.alloc (.cells #[.int .i64 n0, .int .i64 n1, .string (str t), .int .i64 n3, .slice a L cap] 44) = W3 := ⟨_, rfl⟩
      have hB23 : Below w2.heap.size w2 W3 := by rw [← hW3]; exact below_alloc _ _
      have hrow3 : W3.heap[g2]? = some (.cells #[.int .i64 n0, .int .i64 n1, .string (str t), .int .i64 n3, .slice a L cap] 44 (0, 0)) := by rw [← hW3, ← hg2]; exact heap_alloc_at _ _
      have HROW3 := Lib.hid hrow3
      have hr3 := HR2.out.below hB23
      have HR3 := Lib.hid hr3
      have HV3 := Lib.hid (EvsF.below HV2.out hB23)
      have HB3 := Lib.hid (HB2.out.trans (hB23.mono HB2.out.size))
      have HZ3 := Lib.hid ((hB23.block g0 (Array.getElem?_eq_some_iff.1 HROW2.out).1).trans HROW2.out)
      have k0 := (row_at hrow3 0 _ rfl).1
      have kf0 := (row_at hrow3 0 _ rfl).2
      have k1 := (row_at hrow3 1 _ rfl).1
      have kf1 := (row_at hrow3 1 _ rfl).2
      have k2 := (row_at hrow3 2 _ rfl).1
      have kf2 := (row_at hrow3 2 _ rfl).2
      have k3 := (row_at hrow3 3 _ rfl).1
      have kf3 := (row_at hrow3 3 _ rfl).2
      have k4 := (row_at hrow3 4 _ rfl).1
      have kf4 := (row_at hrow3 4 _ rfl).2
      obtain ⟨-, c1, c2, -, -⟩ := hr3.cells
      clear hv hr2 ht2 HR hW0 hW1 hr3 hrow3
      go_wp2_with fail
      refine (HM.out _ _ (evs_of' HV3.out)).mono ?_
      rintro _ w4 ⟨rfl, hb4⟩
      have hz4 := (hb4.block g0 (Array.getElem?_eq_some_iff.1 HZ3.out).1).trans HZ3.out
      have HZ4 := Lib.hid hz4
      have HR4 := Lib.hid (HR3.out.below hb4)
      have HB4 := Lib.hid (HB3.out.trans (hb4.mono HB3.out.size))
      obtain ⟨-, d1, d2, d3, d4⟩ := HR4.out.cells
      have hlt4 := (Array.getElem?_eq_some_iff.1 hz4).1
      obtain ⟨w5, hw5⟩ : ∃ w5, w4.setCell ⟨g1, 2, none⟩ (.int .i64 6) = w5 := ⟨_, rfl⟩
      have HR5 := Lib.hid (show Rdr w5 g1 s q1 6 by rw [← hw5]; exact HR4.out.err 6)
      have HB5 := Lib.hid (show Below w.heap.size w w5 by rw [← hw5]; exact Tg.onto HB4.out (Nat.le_refl _) hgz (Tg.set _ _ _ _))
      have HZ5 := Lib.hid (show w5.heap[g0]? = some (.cells #[.int .i64 0, .int .i64 0, .string ⟨#[]⟩, .int .i64 0, .slice none 0 0] 44 (0, 0)) by rw [← hw5]; exact ((Tg.set w4 g1 2 (.int .i64 6)).block g0 (Array.getElem?_eq_some_iff.1 HZ4.out).1 (by omega)).trans HZ4.out)
      obtain ⟨-, f1, f2, -, -⟩ := HR5.out.cells
      obtain ⟨g3, hg3⟩ : ∃ g, w5.heap.size = g := ⟨_, rfl⟩
      obtain ⟨W6, hW6⟩ : ∃ W6, w5.alloc (.cells #[.int .i64 0, .int .i64 0, .string ⟨#[]⟩, .int .i64 0, .slice none 0 0] 44) = W6 := ⟨_, rfl⟩
      have hB6 : Below w5.heap.size w5 W6 := by rw [← hW6]; exact below_alloc _ _
      have hrow6 : W6.heap[g3]? = some (.cells #[.int .i64 0, .int .i64 0, .string ⟨#[]⟩, .int .i64 0, .slice none 0 0] 44 (0, 0)) := by rw [← hW6, ← hg3]; exact heap_alloc_at _ _
      have hz6 := (hB6.block g0 (Array.getElem?_eq_some_iff.1 HZ5.out).1).trans HZ5.out
      have HZ6 := Lib.hid hz6
      have HB6 := Lib.hid (HB5.out.trans (hB6.mono HB5.out.size))
      obtain ⟨-, r1, r2, -, -⟩ := (HR5.out.below hB6).cells
      have m0 := (row_at hrow6 0 _ rfl).1
      have mf0 := (row_at hrow6 0 _ rfl).2
      have m1 := (row_at hrow6 1 _ rfl).1
      have mf1 := (row_at hrow6 1 _ rfl).2
      have m2 := (row_at hrow6 2 _ rfl).1
      have mf2 := (row_at hrow6 2 _ rfl).2
      have m3 := (row_at hrow6 3 _ rfl).1
      have mf3 := (row_at hrow6 3 _ rfl).2
      have m4 := (row_at hrow6 4 _ rfl).1
      have mf4 := (row_at hrow6 4 _ rfl).2
      have z0 := (row_at hz6 0 _ rfl).1
      have zf0 := (row_at hz6 0 _ rfl).2
      have z1 := (row_at hz6 1 _ rfl).1
      have zf1 := (row_at hz6 1 _ rfl).2
      have z2 := (row_at hz6 2 _ rfl).1
      have zf2 := (row_at hz6 2 _ rfl).2
      have z3 := (row_at hz6 3 _ rfl).1
      have zf3 := (row_at hz6 3 _ rfl).2
      have z4 := (row_at hz6 4 _ rfl).1
      have zf4 := (row_at hz6 4 _ rfl).2
      clear hrow6 hz6 hB6 hb4 hz4 HM hW3 k0 kf0 k1 kf1 k2 kf2 k3 kf3 k4 kf4
      go_wp2_with fail
      go_region
      all_goals go_wp2_with fail
      all_goals refine row_end3 (g := g0) (cs := #[.int .i64 0, .int .i64 0, .string ⟨#[]⟩, .int .i64 0, .slice none 0 0]) (.int .i64 0) (.int .i64 6) rfl rfl rfl rfl rfl (row_drew (heap_setCell_same _ g0 4 _ 44 _ (heap_setCell_same _ g0 3 _ 44 _ (heap_setCell_same _ g0 2 _ 44 _ (heap_setCell_same _ g0 1 _ 44 _ (heap_setCell_same _ g0 0 _ 44 _ HZ6.out)))))) Tryz.underlying44 (by kernel_rfl) ?_
      all_goals exact rcOut_bad (c := (⟨0, 0, [], 0, []⟩ : Rc)) (u := .slice none 0 0) (q := 0) HNO.out (by decide) rfl (LsIs.nil _ _ _ _) (((((HB6.out.setCell (p := ⟨g0, 0, none⟩) hg00 _).setCell (p := ⟨g0, 1, none⟩) hg00 _).setCell (p := ⟨g0, 2, none⟩) hg00 _).setCell (p := ⟨g0, 3, none⟩) hg00 _).setCell (p := ⟨g0, 4, none⟩) hg00 _).drew
  · have HNO := Lib.hid (sim_bad sim_rec hst (Or.inl he))
    have HE := Lib.hid he
    have hbe : (e1 == 0) = false := beq_eq_false_iff_ne.2 he
    clear hst hwf hr0 hB0 hB01 hB1 hrow0 hrow1 he HM
    go_enter Tryz.func56, Tryz.ntmps56
    go_wp2_with fail
    refine HR.out.mono ?_
    rintro _ w2 ⟨u, rfl, hv, hr2, ht2⟩
    have HV2 := Lib.hid hv
    have HR2 := Lib.hid hr2
    have HB2 := Lib.hid (Tg.onto HB1.out (Nat.le_refl _) hgz ht2)
    have HROW2 := Lib.hid ((ht2.block g0 (Array.getElem?_eq_some_iff.1 HROW1.out).1 (by omega)).trans HROW1.out)
    have hsz2 := ht2.size
    obtain ⟨a, cap, rfl, -⟩ := (evs_of' HV2.out).open
    obtain ⟨n0, n1, t, n3, sl⟩ := x
    dsimp only at *
    obtain ⟨L, hL⟩ : ∃ L, sl.length = L := ⟨_, rfl⟩
    rw [hL] at HV2 ⊢
    obtain ⟨g2, hg2⟩ : ∃ g, w2.heap.size = g := ⟨_, rfl⟩
    obtain ⟨W3, hW3⟩ : ∃ W3, w2.alloc (.cells #[.int .i64 n0, .int .i64 n1, .string (str t), .int .i64 n3, .slice a L cap] 44) = W3 := ⟨_, rfl⟩
    have hB23 : Below w2.heap.size w2 W3 := by rw [← hW3]; exact below_alloc _ _
    have hrow3 : W3.heap[g2]? = some (.cells #[.int .i64 n0, .int .i64 n1, .string (str t), .int .i64 n3, .slice a L cap] 44 (0, 0)) := by rw [← hW3, ← hg2]; exact heap_alloc_at _ _
    have HROW3 := Lib.hid hrow3
    have hr3 := HR2.out.below hB23
    have HR3 := Lib.hid hr3
    have HV3 := Lib.hid (EvsF.below HV2.out hB23)
    have HB3 := Lib.hid (HB2.out.trans (hB23.mono HB2.out.size))
    have HZ3 := Lib.hid ((hB23.block g0 (Array.getElem?_eq_some_iff.1 HROW2.out).1).trans HROW2.out)
    have k0 := (row_at hrow3 0 _ rfl).1
    have kf0 := (row_at hrow3 0 _ rfl).2
    have k1 := (row_at hrow3 1 _ rfl).1
    have kf1 := (row_at hrow3 1 _ rfl).2
    have k2 := (row_at hrow3 2 _ rfl).1
    have kf2 := (row_at hrow3 2 _ rfl).2
    have k3 := (row_at hrow3 3 _ rfl).1
    have kf3 := (row_at hrow3 3 _ rfl).2
    have k4 := (row_at hrow3 4 _ rfl).1
    have kf4 := (row_at hrow3 4 _ rfl).2
    obtain ⟨-, c1, c2, -, -⟩ := hr3.cells
    clear hv hr2 ht2 HR hW0 hW1 hr3 hrow3
    obtain ⟨g3, hg3⟩ : ∃ g, W3.heap.size = g := ⟨_, rfl⟩
    obtain ⟨W6, hW6⟩ : ∃ W6, W3.alloc (.cells #[.int .i64 0, .int .i64 0, .string ⟨#[]⟩, .int .i64 0, .slice none 0 0] 44) = W6 := ⟨_, rfl⟩
    have hB6 : Below W3.heap.size W3 W6 := by rw [← hW6]; exact below_alloc _ _
    have hrow6 : W6.heap[g3]? = some (.cells #[.int .i64 0, .int .i64 0, .string ⟨#[]⟩, .int .i64 0, .slice none 0 0] 44 (0, 0)) := by rw [← hW6, ← hg3]; exact heap_alloc_at _ _
    have hz6 := (hB6.block g0 (Array.getElem?_eq_some_iff.1 HZ3.out).1).trans HZ3.out
    have HZ6 := Lib.hid hz6
    have HB6 := Lib.hid (HB3.out.trans (hB6.mono HB3.out.size))
    obtain ⟨-, r1, r2, -, -⟩ := (HR3.out.below hB6).cells
    have m0 := (row_at hrow6 0 _ rfl).1
    have mf0 := (row_at hrow6 0 _ rfl).2
    have m1 := (row_at hrow6 1 _ rfl).1
    have mf1 := (row_at hrow6 1 _ rfl).2
    have m2 := (row_at hrow6 2 _ rfl).1
    have mf2 := (row_at hrow6 2 _ rfl).2
    have m3 := (row_at hrow6 3 _ rfl).1
    have mf3 := (row_at hrow6 3 _ rfl).2
    have m4 := (row_at hrow6 4 _ rfl).1
    have mf4 := (row_at hrow6 4 _ rfl).2
    have z0 := (row_at hz6 0 _ rfl).1
    have zf0 := (row_at hz6 0 _ rfl).2
    have z1 := (row_at hz6 1 _ rfl).1
    have zf1 := (row_at hz6 1 _ rfl).2
    have z2 := (row_at hz6 2 _ rfl).1
    have zf2 := (row_at hz6 2 _ rfl).2
    have z3 := (row_at hz6 3 _ rfl).1
    have zf3 := (row_at hz6 3 _ rfl).2
    have z4 := (row_at hz6 4 _ rfl).1
    have zf4 := (row_at hz6 4 _ rfl).2
    clear hrow6 hz6 hB6 
    go_wp2_with fail
    go_region
    all_goals go_wp2_with fail
    all_goals refine row_end3 (g := g0) (cs := #[.int .i64 0, .int .i64 0, .string ⟨#[]⟩, .int .i64 0, .slice none 0 0]) (.int .i64 0) (.int .i64 e1) rfl rfl rfl rfl rfl (row_drew (heap_setCell_same _ g0 4 _ 44 _ (heap_setCell_same _ g0 3 _ 44 _ (heap_setCell_same _ g0 2 _ 44 _ (heap_setCell_same _ g0 1 _ 44 _ (heap_setCell_same _ g0 0 _ 44 _ HZ6.out)))))) Tryz.underlying44 (by kernel_rfl) ?_
    all_goals exact rcOut_bad (c := (⟨0, 0, [], 0, []⟩ : Rc)) (u := .slice none 0 0) (q := 0) HNO.out HE.out rfl (LsIs.nil _ _ _ _) (((((HB6.out.setCell (p := ⟨g0, 0, none⟩) hg00 _).setCell (p := ⟨g0, 1, none⟩) hg00 _).setCell (p := ⟨g0, 2, none⟩) hg00 _).setCell (p := ⟨g0, 3, none⟩) hg00 _).setCell (p := ⟨g0, 4, none⟩) hg00 _).drew

set_option maxHeartbeats 4000000 in
theorem pReadRecord_any (s : List UInt8) (p : Int) (w : World) (hs : s.length ≤ 140737488355328) :
    Calls Tryz.prog 21 #[.string (str s), .int .i64 p] w (RcOut (fun (c : Rc) u => .agg #[.int .i64 c.client, .int .i64 c.seq, .string (str c.stream), .int .i64 c.code, u]) (fun W u c => EvsIs W u c.events) rdRec s p w) := by
  obtain ⟨g0, hg0⟩ : ∃ g, w.heap.size = g := ⟨_, rfl⟩
  obtain ⟨W0, hW0⟩ : ∃ W0, w.alloc (.cells #[.int .i64 0, .int .i64 0, .string ⟨#[]⟩, .int .i64 0, .slice none 0 0] 44) = W0 := ⟨_, rfl⟩
  have hB0 : Below w.heap.size w W0 := by rw [← hW0]; exact below_alloc _ _
  have hrow0 : W0.heap[g0]? = some (.cells #[.int .i64 0, .int .i64 0, .string ⟨#[]⟩, .int .i64 0, .slice none 0 0] 44 (0, 0)) := by rw [← hW0, ← hg0]; exact heap_alloc_at _ _
  have hg00 : w.heap.size ≤ g0 := Nat.le_of_eq hg0
  have hgl : g0 < W0.heap.size := (Array.getElem?_eq_some_iff.1 hrow0).1
  have H := Lib.hid (pReadRecord0 s p W0 hs)
  have HB0 := Lib.hid hB0
  have HROW0 := Lib.hid hrow0
  clear hB0 hrow0
  go_enter Tryz.func21, Tryz.ntmps21
  go_wp2_with fail
  refine H.out.mono ?_
  rintro _ w1 ⟨c, u, q, er, rfl, hv, hb1, hm⟩
  have HV := Lib.hid hv
  have HM := Lib.hid hm
  have HB1 := Lib.hid (HB0.out.trans (hb1.mono HB0.out.size))
  have hrow1 := (hb1.block g0 hgl).trans HROW0.out
  have HROW1 := Lib.hid hrow1
  have k0 := (row_at hrow1 0 _ rfl).1
  have kf0 := (row_at hrow1 0 _ rfl).2
  have k1 := (row_at hrow1 1 _ rfl).1
  have kf1 := (row_at hrow1 1 _ rfl).2
  have k2 := (row_at hrow1 2 _ rfl).1
  have kf2 := (row_at hrow1 2 _ rfl).2
  have k3 := (row_at hrow1 3 _ rfl).1
  have kf3 := (row_at hrow1 3 _ rfl).2
  have k4 := (row_at hrow1 4 _ rfl).1
  have kf4 := (row_at hrow1 4 _ rfl).2
  obtain ⟨a, cap, rfl, -⟩ := (evs_of' HV.out).open
  obtain ⟨n0, n1, t, n3, sl⟩ := c
  dsimp only at *
  obtain ⟨L, hL⟩ : ∃ L, sl.length = L := ⟨_, rfl⟩
  rw [hL] at HV ⊢
  clear hv hm hb1 hrow1 hW0
  go_wp2_with fail
  have htg : Tg g0 w1 (((((w1.setCell ⟨g0, 0, none⟩ (.int .i64 n0)).setCell ⟨g0, 1, none⟩ (.int .i64 n1)).setCell ⟨g0, 2, none⟩ (.string (str t))).setCell ⟨g0, 3, none⟩ (.int .i64 n3)).setCell ⟨g0, 4, none⟩ (.slice a L cap)) := (((((Tg.set _ _ _ _).trans (Tg.set _ _ _ _)).trans (Tg.set _ _ _ _)).trans (Tg.set _ _ _ _)).trans (Tg.set _ _ _ _))
  refine row_end3 (g := g0) (cs := #[.int .i64 n0, .int .i64 n1, .string (str t), .int .i64 n3, .slice a L cap]) (.int .i64 q) (.int .i64 er) rfl rfl rfl rfl rfl (heap_setCell_same _ g0 4 _ 44 _ (heap_setCell_same _ g0 3 _ 44 _ (heap_setCell_same _ g0 2 _ 44 _ (heap_setCell_same _ g0 1 _ 44 _ (heap_setCell_same _ g0 0 _ 44 _ HROW1.out))))) Tryz.underlying44 (by kernel_rfl) ?_
  exact ⟨⟨n0, n1, t, n3, sl⟩, .slice a L cap, q, er, rfl, evs_of' (EvsF.tg HV.out htg hgl), (((((HB1.out.setCell (p := ⟨g0, 0, none⟩) hg00 _).setCell (p := ⟨g0, 1, none⟩) hg00 _).setCell (p := ⟨g0, 2, none⟩) hg00 _).setCell (p := ⟨g0, 3, none⟩) hg00 _).setCell (p := ⟨g0, 4, none⟩) hg00 _), HM.out⟩
end Go.Proofs.YtebglkpejdoggaaGreat.C10
