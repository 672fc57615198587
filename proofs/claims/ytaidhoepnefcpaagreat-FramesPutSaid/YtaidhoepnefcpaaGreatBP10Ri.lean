/-
  Layer 10, the program: what reads values, one verdict, one event, one item, and lists of them.
-/
import Derived.Test.YtaidhoepnefcpaaGreatBP10RlV
import Derived.Test.YtaidhoepnefcpaaGreatBP10RlT
namespace Go.Proofs.YtaidhoepnefcpaaGreat.C10
open Go Go.RowKit Go.Proofs B K P8
set_option linter.unusedVariables false
set_option maxRecDepth 100000
theorem num_item (b : Nat) (s : List UInt8) (hs : s.length <= 140737488355328) : ∀ (p er : Int) (W : World), Rdr W b s p er -> Calls Tryz.prog 194 #[.pointer (some ⟨b, 0, none⟩)] W fun e w' => ∃ x q er', sNum s p er = (x, q, er') /\ (e = .returned (.int .i64 x) /\ Rdr w' b s q er' /\ Tg b W w') := fun p er W h =>
 (zA b s p er W h hs).mono fun e w' hh => ⟨_, _, _, rfl, hh⟩
theorem txt_item (b : Nat) (s : List UInt8) (hs : s.length <= 140737488355328) : ∀ (p er : Int) (W : World), Rdr W b s p er -> Calls Tryz.prog 193 #[.pointer (some ⟨b, 0, none⟩)] W fun e w' => ∃ x q er', sTxt s p er = (x, q, er') /\ (e = .returned (.string (str x)) /\ Rdr w' b s q er' /\ Tg b W w') := fun p er W h =>
 (Zw b s p er W h hs).mono fun e w' hh => ⟨_, _, _, rfl, hh⟩
def NsF (base : Nat) (w : World) (v : Value) (xs : List Int) : Prop := SlN w v xs /\ FrV base v
theorem nsf_of {base : Nat} {w : World} {v : Value} {xs : List Int} (h : LsIs 1 QI base w v xs) : NsF base w v xs := ⟨sln_of h.list, h.fr⟩
theorem NsF.tg {base g : Nat} {w w' : World} {v : Value} {xs : List Int} (h : NsF base w v xs) (t : Tg g w w') (hg : g < base) : NsF base w' v xs := ⟨SlN.tg h.1 t h.2 hg, h.2⟩
theorem NsF.mono {base base' : Nat} {w : World} {v : Value} {xs : List Int} (h : NsF base w v xs) (hb : base' <= base) : NsF base' w v xs := ⟨h.1, h.2.mono hb⟩
theorem jd (b : Nat) (s : List UInt8) (most : Nat) (m : Int) (em : m = (most : Int)) (hm : most <= 256) (hs : s.length <= 140737488355328) (p er : Int) (w : World) (h : Rdr w b s p er) :
 Calls Tryz.prog 195 #[.pointer (some ⟨b, 0, none⟩), .int .i64 m] w fun e w' => ∃ v, e = .returned v /\ NsF w.heap.size w' v (sList sNum most s p er).1 /\ Rdr w' b s (sList sNum most s p er).2.1 (sList sNum most s p er).2.2 /\ Tg b w w' := by
 have hmf : ∀ (fn : Fn) (first cap : Array Value) (w : World), (Instr.makeFunc fn first cap).run Tryz.prog w = .ok (.func fn first cap) w := fun _ _ _ _ => rfl
 have HC := Lib.hid (readList_I b s most hm hs (num_item b s hs) p er w h);clear h;subst em;go_enter Tryz.func195, Tryz.ntmps195;go_wp2_with (go_at_call 224; refine HC.out.mono ?_; rintro _ w1 ⟨v, rfl, hv, h1⟩; have HV := Lib.hid hv; have H1 := Lib.hid h1; clear hv h1)
 go_ret;exact ⟨v, rfl, nsf_of HV.out, H1.out⟩
theorem zM {fn : Func} {p g : Nat} {ty : TypeId} {cs : Array Value} {fs : Array Field} {R : Ending -> World -> Prop} {ac : Act} {w : World} (hres : fn.results = #[.cell p ty]) (hp : ac.tmps.getD p undef = .pointer (some ⟨g, 0, none⟩)) (hd : ac.defers = [])
 (hg : w.heap[g]? = some (.cells cs ty (0, 0))) (hu : Tryz.prog.underlying ty = some (.struct fs)) (hi : (Tryz.prog.info? ty).map (·.size) = some cs.size) (hR : R (.returned (.agg cs)) w) : bodyPost Tryz.prog fn R .ret ac w :=
 bodyPost_ret (v := .agg cs) (results_cell_row hres _ _ g ty _ (0, 0) _ hp hg hu rfl hi) hd hR
set_option maxHeartbeats 4000000 in
theorem vd_item (A b : Nat) (s : List UInt8) (hs : s.length <= 140737488355328) (p er : Int) (w : World) (h : Rdr w b s p er) (hA : w.cell? ⟨A, 0, none⟩ = some (.pointer (some ⟨b, 0, none⟩))) (hne : A ≠ b) :
 Calls Tryz.prog 202 #[.pointer (some ⟨A, 0, none⟩)] w fun e w' => ∃ x q er', sVd s p er = (x, q, er') /\ (e = .returned (.agg #[.int .i64 x.seq, .int .i64 x.code]) /\ Rdr w' b s q er' /\ Tg b w w') := by
 obtain ⟨x1, p1, e1, q1⟩ : ∃ x q e, sNum s p er = (x, q, e) := ⟨_, _, _, rfl⟩;obtain ⟨x2, p2, e2, q2⟩ : ∃ x q e, sNum s p1 e1 = (x, q, e) := ⟨_, _, _, rfl⟩;have hd : sVd s p er = (⟨x1, x2⟩, p2, e2) := by
  unfold sVd sThen;rw [q1]; dsimp only; rw [q2]; rfl
 have C1 := fun W (H : Rdr W b s p er) => zA b s p er W H hs
 rw [q1] at C1;dsimp only at C1;have C2 := fun W (H : Rdr W b s p1 e1) => zA b s p1 e1 W H hs
 rw [q2] at C2;dsimp only at C2;have C1 := Lib.hid C1;have C2 := Lib.hid C2;refine (show Calls Tryz.prog 202 #[.pointer (some ⟨A, 0, none⟩)] w (fun e w' => e = .returned (.agg #[.int .i64 x1, .int .i64 x2]) /\ Rdr w' b s p2 e2 /\ Tg b w w') from ?_).mono fun e w' h => ⟨_, _, _, hd, h⟩
 have HR := Lib.hid h;clear h hd q1 q2;obtain ⟨W0, hW0⟩ : ∃ W0, w.alloc (.cells #[.int .i64 0, .int .i64 0] 82) = W0 := ⟨_, rfl⟩;obtain ⟨g, hg⟩ : ∃ g, w.heap.size = g := ⟨_, rfl⟩;have hB0 : Below w.heap.size w W0 := by rw [<- hW0]; exact zf _ _
 have hblk : W0.heap[g]? = some (.cells #[.int .i64 0, .int .i64 0] 82 (0, 0)) := by rw [<- hW0, <- hg]; exact zg _ _
 have hA0 : W0.drew.cell? ⟨A, 0, none⟩ = some (.pointer (some ⟨b, 0, none⟩)) := za hB0.drew hA;have hbl := HR.out.lt;have hbg : g ≠ b := by omega
 have hAg : A ≠ g := by have := World.block_lt_of_cell? w _ hA; dsimp only at this; omega
 have HK := Lib.hid (show ∀ W W' : World, W.cell? ⟨A, 0, none⟩ = some (.pointer (some ⟨b, 0, none⟩)) -> Tg b W W' -> W'.cell? ⟨A, 0, none⟩ = some (.pointer (some ⟨b, 0, none⟩)) from fun W W' h1 h2 => yu h2 hne h1);have HBLK := Lib.hid hblk;have HT0 := Lib.hid (show Tg b w W0.drew from Tg.of_below hB0.drew);have G1 := Lib.hid (C1.out W0.drew (HR.out.below hB0.drew));clear hA hB0 hblk;go_enter Tryz.func202, Tryz.ntmps202;go_upto_region 1 with fail
 go_region_held_law (fun W => W.cell? ⟨A, 0, none⟩ = some (.pointer (some ⟨b, 0, none⟩))) (first | exact hA0 | assumption | exact yu ((Tg.set _ _ _ _).trans (Tg.set _ _ _ _)) hAg hA2) (first
  | (go_at_call 194; (with_reducible refine G1.out.mono ?_); rintro _ w1 ⟨rfl, hr1, ht1⟩; have hA1 := HK.out _ _ hA0 ht1; have htt1 := ht1)
  | (go_at_call 194; (with_reducible refine (C2.out _ hr1).mono ?_); rintro _ w2 ⟨rfl, hr2, ht2⟩; have hA2 := HK.out _ _ hA1 ht2; have htt2 := htt1.trans ht2; have hb2 := (htt2.block g (Array.getElem?_eq_some_iff.1 HBLK.out).1 hbg).trans HBLK.out; have hc0 := (zb hb2 0 _ rfl).1; have hf0 := (zb hb2 0 _ rfl).2; have hc1 := (zb hb2 1 _ rfl).1; have hf1 := (zb hb2 1 _ rfl).2))
 go_wp2_with fail;refine zM (g := g) (cs := #[.int .i64 x1, .int .i64 x2]) rfl rfl rfl (heap_setCell_same _ g 1 _ 82 _ (heap_setCell_same _ g 0 _ 82 _ hb2)) Tryz.underlying82 (by kernel_rfl) ?_;have htg : Tg g w2 ((w2.setCell ⟨g, 0, none⟩ (.int .i64 x1)).setCell ⟨g, 1, none⟩ (.int .i64 x2)) := ((Tg.set _ _ _ _).trans (Tg.set _ _ _ _));have hrr := hr2.tg htg (fun e => hbg e.symm);exact ⟨rfl, hrr, Tg.above (HT0.out.trans htt2) (Nat.le_of_eq hg) htg⟩
set_option maxHeartbeats 4000000 in
theorem ev_item (A b : Nat) (s : List UInt8) (hs : s.length <= 140737488355328) (p er : Int) (w : World) (h : Rdr w b s p er) (hA : w.cell? ⟨A, 0, none⟩ = some (.pointer (some ⟨b, 0, none⟩))) (hne : A ≠ b) :
 Calls Tryz.prog 226 #[.pointer (some ⟨A, 0, none⟩)] w fun e w' => ∃ x q er', sEv s p er = (x, q, er') /\ (∃ u, e = .returned (.agg #[.int .i64 x.pos, u]) /\ SlN w' u x.vars /\ FrV w.heap.size u /\ Rdr w' b s q er' /\ Tg b w w') := by
 obtain ⟨x1, p1, e1, q1⟩ : ∃ x q e, sNum s p er = (x, q, e) := ⟨_, _, _, rfl⟩;obtain ⟨x2, p2, e2, q2⟩ : ∃ x q e, (sList sNum 6) s p1 e1 = (x, q, e) := ⟨_, _, _, rfl⟩;have hd : sEv s p er = (⟨x1, x2⟩, p2, e2) := by
  unfold sEv sThen;rw [q1]; dsimp only; rw [q2]; rfl
 have C1 := fun W (H : Rdr W b s p er) => zA b s p er W H hs
 rw [q1] at C1;dsimp only at C1;have C2 := fun W (H : Rdr W b s p1 e1) => jd b s 6 6 rfl (by decide) hs p1 e1 W H
 rw [q2] at C2;dsimp only at C2;have C1 := Lib.hid C1;have C2 := Lib.hid C2;refine (show Calls Tryz.prog 226 #[.pointer (some ⟨A, 0, none⟩)] w (fun e w' => ∃ u, e = .returned (.agg #[.int .i64 x1, u]) /\ SlN w' u x2 /\ FrV w.heap.size u /\ Rdr w' b s p2 e2 /\ Tg b w w') from ?_).mono fun e w' h => ⟨_, _, _, hd, h⟩
 have HR := Lib.hid h;clear h hd q1 q2;obtain ⟨W0, hW0⟩ : ∃ W0, w.alloc (.cells #[.int .i64 0, .slice none 0 0] 120) = W0 := ⟨_, rfl⟩;obtain ⟨g, hg⟩ : ∃ g, w.heap.size = g := ⟨_, rfl⟩;have hB0 : Below w.heap.size w W0 := by rw [<- hW0]; exact zf _ _
 have hblk : W0.heap[g]? = some (.cells #[.int .i64 0, .slice none 0 0] 120 (0, 0)) := by rw [<- hW0, <- hg]; exact zg _ _
 have hA0 : W0.drew.cell? ⟨A, 0, none⟩ = some (.pointer (some ⟨b, 0, none⟩)) := za hB0.drew hA;have hbl := HR.out.lt;have hbg : g ≠ b := by omega
 have hAg : A ≠ g := by have := World.block_lt_of_cell? w _ hA; dsimp only at this; omega
 have HK := Lib.hid (show ∀ W W' : World, W.cell? ⟨A, 0, none⟩ = some (.pointer (some ⟨b, 0, none⟩)) -> Tg b W W' -> W'.cell? ⟨A, 0, none⟩ = some (.pointer (some ⟨b, 0, none⟩)) from fun W W' h1 h2 => yu h2 hne h1);have HBLK := Lib.hid hblk;have HT0 := Lib.hid (show Tg b w W0.drew from Tg.of_below hB0.drew);have G1 := Lib.hid (C1.out W0.drew (HR.out.below hB0.drew));clear hA hB0 hblk;go_enter Tryz.func226, Tryz.ntmps226;go_upto_region 1 with fail
 go_region_held_law (fun W => W.cell? ⟨A, 0, none⟩ = some (.pointer (some ⟨b, 0, none⟩))) (first | exact hA0 | assumption | exact yu ((Tg.set _ _ _ _).trans (Tg.set _ _ _ _)) hAg hA2) (first
  | (go_at_call 194; (with_reducible refine G1.out.mono ?_); rintro _ w1 ⟨rfl, hr1, ht1⟩; have hA1 := HK.out _ _ hA0 ht1; have htt1 := ht1)
  | (go_at_call 195; (with_reducible refine (C2.out _ hr1).mono ?_); rintro _ w2 ⟨v, rfl, hv, hr2, ht2⟩; have hA2 := HK.out _ _ hA1 ht2; have htt2 := htt1.trans ht2; obtain ⟨au, cu, rfl, -⟩ := id hv.1.open; have HV := Lib.hid hv; clear hv; have hb2 := (htt2.block g (Array.getElem?_eq_some_iff.1 HBLK.out).1 hbg).trans HBLK.out; have hc0 := (zb hb2 0 _ rfl).1; have hf0 := (zb hb2 0 _ rfl).2; have hc1 := (zb hb2 1 _ rfl).1; have hf1 := (zb hb2 1 _ rfl).2))
 go_wp2_with fail;refine zM (g := g) (cs := #[.int .i64 x1, .slice au x2.length cu]) rfl rfl rfl (heap_setCell_same _ g 1 _ 120 _ (heap_setCell_same _ g 0 _ 120 _ hb2)) Tryz.underlying120 (by kernel_rfl) ?_;have htg : Tg g w2 ((w2.setCell ⟨g, 0, none⟩ (.int .i64 x1)).setCell ⟨g, 1, none⟩ (.slice au x2.length cu)) := ((Tg.set _ _ _ _).trans (Tg.set _ _ _ _));have hrr := hr2.tg htg (fun e => hbg e.symm);have hgl : g < w1.heap.size := Nat.lt_of_lt_of_le (Array.getElem?_eq_some_iff.1 HBLK.out).1 htt1.size;have hvv := NsF.tg HV.out htg hgl;exact ⟨_, rfl, hvv.1, hvv.2.mono (by omega), hrr, Tg.above (HT0.out.trans htt2) (Nat.le_of_eq hg) htg⟩
set_option maxHeartbeats 4000000 in
theorem it_item (A b : Nat) (s : List UInt8) (hs : s.length <= 140737488355328) (p er : Int) (w : World) (h : Rdr w b s p er) (hA : w.cell? ⟨A, 0, none⟩ = some (.pointer (some ⟨b, 0, none⟩))) (hne : A ≠ b) :
 Calls Tryz.prog 200 #[.pointer (some ⟨A, 0, none⟩)] w fun e w' => ∃ x q er', sIt s p er = (x, q, er') /\ (∃ u, e = .returned (.agg #[.string (str x.stream), .int .i64 x.st.pos, .int .i64 x.st.ver, u]) /\ SlN w' u x.st.vars /\ FrV w.heap.size u /\ Rdr w' b s q er' /\ Tg b w w') := by
 obtain ⟨x1, p1, e1, q1⟩ : ∃ x q e, sTxt s p er = (x, q, e) := ⟨_, _, _, rfl⟩;obtain ⟨x2, p2, e2, q2⟩ : ∃ x q e, sNum s p1 e1 = (x, q, e) := ⟨_, _, _, rfl⟩;obtain ⟨x3, p3, e3, q3⟩ : ∃ x q e, sNum s p2 e2 = (x, q, e) := ⟨_, _, _, rfl⟩;obtain ⟨x4, p4, e4, q4⟩ : ∃ x q e, (sList sNum 6) s p3 e3 = (x, q, e) := ⟨_, _, _, rfl⟩;have hd : sIt s p er = (⟨x1, ⟨x2, x3, x4⟩⟩, p4, e4) := by
  unfold sIt sThen;rw [q1]; dsimp only; rw [q2]; dsimp only; rw [q3]; dsimp only; rw [q4]; rfl
 have C1 := fun W (H : Rdr W b s p er) => Zw b s p er W H hs
 rw [q1] at C1;dsimp only at C1;have C2 := fun W (H : Rdr W b s p1 e1) => zA b s p1 e1 W H hs
 rw [q2] at C2;dsimp only at C2;have C3 := fun W (H : Rdr W b s p2 e2) => zA b s p2 e2 W H hs
 rw [q3] at C3;dsimp only at C3;have C4 := fun W (H : Rdr W b s p3 e3) => jd b s 6 6 rfl (by decide) hs p3 e3 W H
 rw [q4] at C4;dsimp only at C4;have C1 := Lib.hid C1;have C2 := Lib.hid C2;have C3 := Lib.hid C3;have C4 := Lib.hid C4;refine (show Calls Tryz.prog 200 #[.pointer (some ⟨A, 0, none⟩)] w (fun e w' => ∃ u, e = .returned (.agg #[.string (str x1), .int .i64 x2, .int .i64 x3, u]) /\ SlN w' u x4 /\ FrV w.heap.size u /\ Rdr w' b s p4 e4 /\ Tg b w w') from ?_).mono fun e w' h => ⟨_, _, _, hd, h⟩
 have HR := Lib.hid h;clear h hd q1 q2 q3 q4;obtain ⟨W0, hW0⟩ : ∃ W0, w.alloc (.cells #[.string ⟨#[]⟩, .int .i64 0, .int .i64 0, .slice none 0 0] 91) = W0 := ⟨_, rfl⟩;obtain ⟨g, hg⟩ : ∃ g, w.heap.size = g := ⟨_, rfl⟩;have hB0 : Below w.heap.size w W0 := by rw [<- hW0]; exact zf _ _
 have hblk : W0.heap[g]? = some (.cells #[.string ⟨#[]⟩, .int .i64 0, .int .i64 0, .slice none 0 0] 91 (0, 0)) := by rw [<- hW0, <- hg]; exact zg _ _
 have hA0 : W0.drew.cell? ⟨A, 0, none⟩ = some (.pointer (some ⟨b, 0, none⟩)) := za hB0.drew hA;have hbl := HR.out.lt;have hbg : g ≠ b := by omega
 have hAg : A ≠ g := by have := World.block_lt_of_cell? w _ hA; dsimp only at this; omega
 have HK := Lib.hid (show ∀ W W' : World, W.cell? ⟨A, 0, none⟩ = some (.pointer (some ⟨b, 0, none⟩)) -> Tg b W W' -> W'.cell? ⟨A, 0, none⟩ = some (.pointer (some ⟨b, 0, none⟩)) from fun W W' h1 h2 => yu h2 hne h1);have HBLK := Lib.hid hblk;have HT0 := Lib.hid (show Tg b w W0.drew from Tg.of_below hB0.drew);have G1 := Lib.hid (C1.out W0.drew (HR.out.below hB0.drew));clear hA hB0 hblk;go_enter Tryz.func200, Tryz.ntmps200;go_upto_region 1 with fail
 go_region_held_law (fun W => W.cell? ⟨A, 0, none⟩ = some (.pointer (some ⟨b, 0, none⟩))) (first | exact hA0 | assumption | exact yu ((((Tg.set _ _ _ _).trans (Tg.set _ _ _ _)).trans (Tg.set _ _ _ _)).trans (Tg.set _ _ _ _)) hAg hA4) (first
  | (go_at_call 193; (with_reducible refine G1.out.mono ?_); rintro _ w1 ⟨rfl, hr1, ht1⟩; have hA1 := HK.out _ _ hA0 ht1; have htt1 := ht1)
  | (go_at_call 194; (with_reducible refine (C2.out _ hr1).mono ?_); rintro _ w2 ⟨rfl, hr2, ht2⟩; have hA2 := HK.out _ _ hA1 ht2; have htt2 := htt1.trans ht2)
  | (go_at_call 194; (with_reducible refine (C3.out _ hr2).mono ?_); rintro _ w3 ⟨rfl, hr3, ht3⟩; have hA3 := HK.out _ _ hA2 ht3; have htt3 := htt2.trans ht3)
  | (go_at_call 195; (with_reducible refine (C4.out _ hr3).mono ?_); rintro _ w4 ⟨v, rfl, hv, hr4, ht4⟩; have hA4 := HK.out _ _ hA3 ht4; have htt4 := htt3.trans ht4; obtain ⟨au, cu, rfl, -⟩ := id hv.1.open; have HV := Lib.hid hv; clear hv; have hb2 := (htt4.block g (Array.getElem?_eq_some_iff.1 HBLK.out).1 hbg).trans HBLK.out; have hc0 := (zb hb2 0 _ rfl).1; have hf0 := (zb hb2 0 _ rfl).2; have hc1 := (zb hb2 1 _ rfl).1; have hf1 := (zb hb2 1 _ rfl).2; have hc2 := (zb hb2 2 _ rfl).1; have hf2 := (zb hb2 2 _ rfl).2; have hc3 := (zb hb2 3 _ rfl).1; have hf3 := (zb hb2 3 _ rfl).2))
 go_wp2_with fail;refine zM (g := g) (cs := #[.string (str x1), .int .i64 x2, .int .i64 x3, .slice au x4.length cu]) rfl rfl rfl (heap_setCell_same _ g 3 _ 91 _ (heap_setCell_same _ g 2 _ 91 _ (heap_setCell_same _ g 1 _ 91 _ (heap_setCell_same _ g 0 _ 91 _ hb2)))) Tryz.underlying91 (by kernel_rfl) ?_;have htg : Tg g w4 ((((w4.setCell ⟨g, 0, none⟩ (.string (str x1))).setCell ⟨g, 1, none⟩ (.int .i64 x2)).setCell ⟨g, 2, none⟩ (.int .i64 x3)).setCell ⟨g, 3, none⟩ (.slice au x4.length cu)) := ((((Tg.set _ _ _ _).trans (Tg.set _ _ _ _)).trans (Tg.set _ _ _ _)).trans (Tg.set _ _ _ _));have hrr := hr4.tg htg (fun e => hbg e.symm);have hgl : g < w3.heap.size := Nat.lt_of_lt_of_le (Array.getElem?_eq_some_iff.1 HBLK.out).1 htt3.size;have hvv := NsF.tg HV.out htg hgl;exact ⟨_, rfl, hvv.1, hvv.2.mono (by omega), hrr, Tg.above (HT0.out.trans htt4) (Nat.le_of_eq hg) htg⟩
set_option maxHeartbeats 2000000 in
theorem readVerdicts_any (b : Nat) (s : List UInt8) (hs : s.length <= 140737488355328) (p er : Int) (w : World) (h : Rdr w b s p er) :
 Calls Tryz.prog 148 #[.pointer (some ⟨b, 0, none⟩)] w fun e w' => ∃ v, e = .returned v /\ LsIs 2 QV w.heap.size w' v (sVds s p er).1 /\ Rdr w' b s (sVds s p er).2.1 (sVds s p er).2.2 /\ Tg b w w' := by
 have hmf : ∀ (fn : Fn) (first cap : Array Value) (w : World), (Instr.makeFunc fn first cap).run Tryz.prog w = .ok (.func fn first cap) w := fun _ _ _ _ => rfl
 obtain ⟨g, hg⟩ : ∃ g, w.heap.size = g := ⟨_, rfl⟩;have hbl := h.lt;have hcell : (w.alloc (.cells #[.pointer (some ⟨b, 0, none⟩)] 204)).cell? ⟨g, 0, none⟩ = some (.pointer (some ⟨b, 0, none⟩)) := by rw [<- hg]; exact ze w [_] _ 0 _ rfl
 have HC := Lib.hid (readList_V g b s 32 (by decide) hs (fun p er W h hA => vd_item g b s hs p er W h hA (by omega)) p er _ (h.below (zf w (.cells #[.pointer (some ⟨b, 0, none⟩)] 204))) hcell (by omega));have hsz : w.heap.size <= (w.alloc (.cells #[.pointer (some ⟨b, 0, none⟩)] 204)).heap.size := (zf _ _).size;have hba : Tg b w (w.alloc (.cells #[.pointer (some ⟨b, 0, none⟩)] 204)) := Tg.of_below (zf _ _);clear h;go_enter Tryz.func148, Tryz.ntmps148;rw [hg];go_wp2_with (go_at_call 201; refine HC.out.mono ?_; rintro _ w1 ⟨v, rfl, hv, h1⟩; have HV := Lib.hid hv; have H1 := Lib.hid h1; clear hv h1)
 go_ret;exact ⟨v, rfl, ⟨HV.out.list.imp fun ds x hq => hq.mono (by omega), HV.out.fr.mono (by omega)⟩, H1.out.1, hba.trans H1.out.2⟩
set_option maxHeartbeats 2000000 in
theorem readEvents_any (b : Nat) (s : List UInt8) (hs : s.length <= 140737488355328) (p er : Int) (w : World) (h : Rdr w b s p er) :
 Calls Tryz.prog 198 #[.pointer (some ⟨b, 0, none⟩)] w fun e w' => ∃ v, e = .returned v /\ LsIs 2 QE w.heap.size w' v (sEvs s p er).1 /\ Rdr w' b s (sEvs s p er).2.1 (sEvs s p er).2.2 /\ Tg b w w' := by
 have hmf : ∀ (fn : Fn) (first cap : Array Value) (w : World), (Instr.makeFunc fn first cap).run Tryz.prog w = .ok (.func fn first cap) w := fun _ _ _ _ => rfl
 obtain ⟨g, hg⟩ : ∃ g, w.heap.size = g := ⟨_, rfl⟩;have hbl := h.lt;have hcell : (w.alloc (.cells #[.pointer (some ⟨b, 0, none⟩)] 204)).cell? ⟨g, 0, none⟩ = some (.pointer (some ⟨b, 0, none⟩)) := by rw [<- hg]; exact ze w [_] _ 0 _ rfl
 have HC := Lib.hid (readList_E g b s 3 (by decide) hs (fun p er W h hA => ev_item g b s hs p er W h hA (by omega)) p er _ (h.below (zf w (.cells #[.pointer (some ⟨b, 0, none⟩)] 204))) hcell (by omega));have hsz : w.heap.size <= (w.alloc (.cells #[.pointer (some ⟨b, 0, none⟩)] 204)).heap.size := (zf _ _).size;have hba : Tg b w (w.alloc (.cells #[.pointer (some ⟨b, 0, none⟩)] 204)) := Tg.of_below (zf _ _);clear h;go_enter Tryz.func198, Tryz.ntmps198;rw [hg];go_wp2_with (go_at_call 225; refine HC.out.mono ?_; rintro _ w1 ⟨v, rfl, hv, h1⟩; have HV := Lib.hid hv; have H1 := Lib.hid h1; clear hv h1)
 go_ret;exact ⟨v, rfl, ⟨HV.out.list.imp fun ds x hq => hq.mono (by omega), HV.out.fr.mono (by omega)⟩, H1.out.1, hba.trans H1.out.2⟩
set_option maxHeartbeats 2000000 in
theorem readItems_any (b : Nat) (s : List UInt8) (hs : s.length <= 140737488355328) (p er : Int) (w : World) (h : Rdr w b s p er) :
 Calls Tryz.prog 146 #[.pointer (some ⟨b, 0, none⟩)] w fun e w' => ∃ v, e = .returned v /\ LsIs 4 QT w.heap.size w' v (sIts s p er).1 /\ Rdr w' b s (sIts s p er).2.1 (sIts s p er).2.2 /\ Tg b w w' := by
 have hmf : ∀ (fn : Fn) (first cap : Array Value) (w : World), (Instr.makeFunc fn first cap).run Tryz.prog w = .ok (.func fn first cap) w := fun _ _ _ _ => rfl
 obtain ⟨g, hg⟩ : ∃ g, w.heap.size = g := ⟨_, rfl⟩;have hbl := h.lt;have hcell : (w.alloc (.cells #[.pointer (some ⟨b, 0, none⟩)] 204)).cell? ⟨g, 0, none⟩ = some (.pointer (some ⟨b, 0, none⟩)) := by rw [<- hg]; exact ze w [_] _ 0 _ rfl
 have HC := Lib.hid (readList_T g b s 64 (by decide) hs (fun p er W h hA => it_item g b s hs p er W h hA (by omega)) p er _ (h.below (zf w (.cells #[.pointer (some ⟨b, 0, none⟩)] 204))) hcell (by omega));have hsz : w.heap.size <= (w.alloc (.cells #[.pointer (some ⟨b, 0, none⟩)] 204)).heap.size := (zf _ _).size;have hba : Tg b w (w.alloc (.cells #[.pointer (some ⟨b, 0, none⟩)] 204)) := Tg.of_below (zf _ _);clear h;go_enter Tryz.func146, Tryz.ntmps146;rw [hg];go_wp2_with (go_at_call 199; refine HC.out.mono ?_; rintro _ w1 ⟨v, rfl, hv, h1⟩; have HV := Lib.hid hv; have H1 := Lib.hid h1; clear hv h1)
 go_ret;exact ⟨v, rfl, ⟨HV.out.list.imp fun ds x hq => hq.mono (by omega), HV.out.fr.mono (by omega)⟩, H1.out.1, hba.trans H1.out.2⟩
set_option maxHeartbeats 2000000 in
theorem readFilter_any (b : Nat) (s : List UInt8) (hs : s.length <= 140737488355328) (p er : Int) (w : World) (h : Rdr w b s p er) :
 Calls Tryz.prog 138 #[.pointer (some ⟨b, 0, none⟩)] w fun e w' => ∃ v, e = .returned v /\ LsIs 1 QS w.heap.size w' v (sFilt s p er).1 /\ Rdr w' b s (sFilt s p er).2.1 (sFilt s p er).2.2 /\ Tg b w w' := by
 have hmf : ∀ (fn : Fn) (first cap : Array Value) (w : World), (Instr.makeFunc fn first cap).run Tryz.prog w = .ok (.func fn first cap) w := fun _ _ _ _ => rfl
 have HC := Lib.hid (readList_S b s 8 (by decide) hs (txt_item b s hs) p er w h);clear h;go_enter Tryz.func138, Tryz.ntmps138;go_wp2_with (go_at_call 192; refine HC.out.mono ?_; rintro _ w1 ⟨v, rfl, hv, h1⟩; have HV := Lib.hid hv; have H1 := Lib.hid h1; clear hv h1)
 go_ret;exact ⟨v, rfl, HV.out, H1.out⟩
end Go.Proofs.YtaidhoepnefcpaaGreat.C10
