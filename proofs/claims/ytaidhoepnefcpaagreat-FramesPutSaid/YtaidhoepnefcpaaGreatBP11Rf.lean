/-
  Layer 11, the program: lists of entries read.
-/
import Derived.Test.YtaidhoepnefcpaaGreatBP10Lh
namespace Go.Proofs.YtaidhoepnefcpaaGreat.C10
open Go Go.RowKit Go.Proofs B K P8
set_option linter.unusedVariables false
set_option maxRecDepth 100000
set_option maxHeartbeats 8000000 in
theorem freadC_any (b : Nat) (s : List UInt8) (p er : Int) (w : World) (h : FRdr w b s p er) (hs : s.length <= 140737488355328) :
 Calls Tryz.prog 86 #[.pointer (some ⟨b, 0, none⟩), .func (.func 87) #[] #[]] w (fun z w' => ∃ (x : Cm) (u : Value) (q e : Int), z = .returned (.agg #[.int .i64 x.client, .int .i64 x.seq, .string (str x.stream), .int .i64 x.rule, u, .int .i64 x.expect]) /\ NsF w.heap.size w' u x.args /\ FRdr w' b s q e /\ Tg b w w' /\ FOut rdCmd s p er x q e) := by
 obtain ⟨g0, hg0⟩ : ∃ g, w.heap.size = g := ⟨_, rfl⟩;obtain ⟨W0, hW0⟩ : ∃ W0, w.alloc (.cells #[.int .i64 0, .int .i64 0, .string ⟨#[]⟩, .int .i64 0, .slice none 0 0, .int .i64 0] 59) = W0 := ⟨_, rfl⟩;obtain ⟨g1, hg1⟩ : ∃ g, W0.heap.size = g := ⟨_, rfl⟩;obtain ⟨W1, hW1⟩ : ∃ W1, W0.alloc (.cells #[.int .i64 0, .int .i64 0, .string ⟨#[]⟩, .int .i64 0, .slice none 0 0, .int .i64 0] 59) = W1 := ⟨_, rfl⟩;have hB0 : Below w.heap.size w W0 := by rw [<- hW0]; exact zf _ _
 have hB01 : Below W0.heap.size W0 W1 := by rw [<- hW1]; exact zf _ _
 have hB1 := hB0.trans (hB01.mono hB0.size);have hrow0 : W0.heap[g0]? = some (.cells #[.int .i64 0, .int .i64 0, .string ⟨#[]⟩, .int .i64 0, .slice none 0 0, .int .i64 0] 59 (0, 0)) := by rw [<- hW0, <- hg0]; exact zg _ _
 have hz0 : W1.heap[g0]? = some (.cells #[.int .i64 0, .int .i64 0, .string ⟨#[]⟩, .int .i64 0, .slice none 0 0, .int .i64 0] 59 (0, 0)) := (hB01.block g0 (Array.getElem?_eq_some_iff.1 hrow0).1).trans hrow0;have hz1 : W1.heap[g1]? = some (.cells #[.int .i64 0, .int .i64 0, .string ⟨#[]⟩, .int .i64 0, .slice none 0 0, .int .i64 0] 59 (0, 0)) := by rw [<- hW1, <- hg1]; exact zg _ _
 have hl01 : g0 < g1 := by rw [<- hg1]; exact (Array.getElem?_eq_some_iff.1 hrow0).1
 have hbl := h.lt;have hb0 : b < g0 := by omega
 have hg0w : g0 < W1.heap.size := (Array.getElem?_eq_some_iff.1 hz0).1;have hg1w : g1 < W1.heap.size := (Array.getElem?_eq_some_iff.1 hz1).1;have hwg : w.heap.size <= g0 := Nat.le_of_eq hg0;have hr1 := h.below hB1;have HB1 := Lib.hid hB1;obtain ⟨c0, c1, c2, c3, c4⟩ := hr1.cells;have HR1 := Lib.hid hr1;have HZ0 := Lib.hid hz0;have HZ1 := Lib.hid hz1;have hlw : w.heap.size <= W1.heap.size := hB1.size;clear h hr1 hB0 hB01 hB1 hrow0;by_cases he : er = 0
 ·subst he
  have HF := Lib.hid (fun W => (show Calls Tryz.prog 87 #[.string (str s), .int .i64 p] W (fun z w' => ∃ (n0 n1 : Int) (t : List UInt8) (n3 : Int) (l : List Int) (n5 : Int) (a : Option Addr) (cap L : Nat) (q e : Int), z = .returned (.tuple #[.agg #[.int .i64 n0, .int .i64 n1, .string (str t), .int .i64 n3, .slice a L cap, .int .i64 n5], .int .i64 q, .int .i64 e]) /\ NsF W.heap.size w' (.slice a L cap) l /\ Below W.heap.size W w' /\ FOut rdCmd s p 0 ⟨n0, n1, t, n3, l, n5⟩ q e) from (pReadCmd_any s p W hs).mono fun z w' h => by
   obtain ⟨⟨n0, n1, t, n3, l, n5⟩, u, q, e, h1, h2, h3, h4⟩ := h;obtain ⟨a, c, rfl, -⟩ := h2.1.open;exact ⟨n0, n1, t, n3, l, n5, a, c, l.length, q, e, h1, h2, h3, by cases hr : rdCmd s p with | none => (rw [hr] at h4; exact qK hr h4) | some r => (rw [hr] at h4; exact qJ hr h4)⟩))
  clear hz0 hz1;go_enter Tryz.func86, Tryz.ntmps86;go_upto_region 3 with fail
  go_region_with (go_at_call 87; refine (HF.out _).mono ?_; rintro _ w2 ⟨n0, n1, t, n3, l, n5, a, cap, L, q, e, rfl, hu, hb2, hm⟩; have HO := Lib.hid hm; have HU := Lib.hid hu; have hr2 := FRdr.below (w := W1.drew) (show FRdr W1.drew b s p 0 from HR1.out) hb2; have d0 := hr2.cells.1; have d1 := hr2.cells.2.1; have d2 := hr2.cells.2.2.1; have d3 := hr2.cells.2.2.2.1; have d4 := hr2.cells.2.2.2.2; have hz2 := (hb2.block g1 (Array.getElem?_eq_some_iff.1 HZ1.out).1).trans HZ1.out; have hy2 := (hb2.block g0 (Array.getElem?_eq_some_iff.1 HZ0.out).1).trans HZ0.out; have HY2 := Lib.hid hy2; have HZ2 := Lib.hid hz2; have k0 := (zb hz2 0 _ rfl).1; have kf0 := (zb hz2 0 _ rfl).2; have k1 := (zb hz2 1 _ rfl).1; have kf1 := (zb hz2 1 _ rfl).2; have k2 := (zb hz2 2 _ rfl).1; have kf2 := (zb hz2 2 _ rfl).2; have k3 := (zb hz2 3 _ rfl).1; have kf3 := (zb hz2 3 _ rfl).2; have k4 := (zb hz2 4 _ rfl).1; have kf4 := (zb hz2 4 _ rfl).2; have k5 := (zb hz2 5 _ rfl).1; have kf5 := (zb hz2 5 _ rfl).2; clear hm hu hz2 hy2)
  all_goals obtain ⟨W3, hW3⟩ : ∃ W3, (((((((w2.setCell ⟨g1, 0, none⟩ (.int .i64 n0)).setCell ⟨g1, 1, none⟩ (.int .i64 n1)).setCell ⟨g1, 2, none⟩ (.string (str t))).setCell ⟨g1, 3, none⟩ (.int .i64 n3)).setCell ⟨g1, 4, none⟩ (.slice a L cap)).setCell ⟨g1, 5, none⟩ (.int .i64 n5)).setCell ⟨b, 1, none⟩ (.int .i64 q)).setCell ⟨b, 2, none⟩ (.int .i64 e) = W3 := ⟨_, rfl⟩
  all_goals rw [hW3]
  all_goals have hlb2 : b ≠ g1 := by omega
  all_goals have hsz2 := hb2.size
  all_goals have ht23 : Tg g1 w2 ((((((w2.setCell ⟨g1, 0, none⟩ (.int .i64 n0)).setCell ⟨g1, 1, none⟩ (.int .i64 n1)).setCell ⟨g1, 2, none⟩ (.string (str t))).setCell ⟨g1, 3, none⟩ (.int .i64 n3)).setCell ⟨g1, 4, none⟩ (.slice a L cap)).setCell ⟨g1, 5, none⟩ (.int .i64 n5)) := ((((((Tg.set _ _ _ _).trans (Tg.set _ _ _ _)).trans (Tg.set _ _ _ _)).trans (Tg.set _ _ _ _)).trans (Tg.set _ _ _ _)).trans (Tg.set _ _ _ _))
  all_goals have hr3 : FRdr W3 b s q e := by rw [<- hW3]; exact ((hr2.tg ht23 hlb2).place q).err e
  all_goals have hrow3 : W3.heap[g1]? = some (.cells #[.int .i64 n0, .int .i64 n1, .string (str t), .int .i64 n3, .slice a L cap, .int .i64 n5] 59 (0, 0)) := by rw [<- hW3]; exact ((((Tg.set _ b 1 _).trans (Tg.set _ b 2 _)).block g1 (by have := ht23.size; have := (Array.getElem?_eq_some_iff.1 HZ2.out).1; omega) (fun e => hlb2 e.symm)).trans (heap_setCell_same _ g1 5 _ 59 _ (heap_setCell_same _ g1 4 _ 59 _ (heap_setCell_same _ g1 3 _ 59 _ (heap_setCell_same _ g1 2 _ 59 _ (heap_setCell_same _ g1 1 _ 59 _ (heap_setCell_same _ g1 0 _ 59 _ HZ2.out)))))))
  all_goals have hy3 : W3.heap[g0]? = some (.cells #[.int .i64 0, .int .i64 0, .string ⟨#[]⟩, .int .i64 0, .slice none 0 0, .int .i64 0] 59 (0, 0)) := by rw [<- hW3]; exact (((Tg.set _ b 1 _).trans (Tg.set _ b 2 _)).block g0 (by have := ht23.size; have := (Array.getElem?_eq_some_iff.1 HY2.out).1; omega) (by omega)).trans ((ht23.block g0 (Array.getElem?_eq_some_iff.1 HY2.out).1 (by omega)).trans HY2.out)
  all_goals have hu3 : NsF W1.heap.size W3 (.slice a L cap) l := by rw [<- hW3]; exact NsF.tg (NsF.tg (NsF.tg HU.out ht23 (Array.getElem?_eq_some_iff.1 HZ1.out).1) (Tg.set _ b 1 _) (by show b < W1.heap.size; omega)) (Tg.set _ b 2 _) (by show b < W1.heap.size; omega)
  all_goals have ht3 : Tg b w W3 := by rw [<- hW3]; exact (Tg.above (Tg.of_below (HB1.out.drew.trans (hb2.mono HB1.out.drew.size))) (by omega) ht23).trans ((Tg.set _ b 1 _).trans (Tg.set _ b 2 _))
  all_goals have HR3 := Lib.hid hr3
  all_goals have HROW3 := Lib.hid hrow3
  all_goals have HY3 := Lib.hid hy3
  all_goals have HU3 := Lib.hid hu3
  all_goals have HT3 := Lib.hid ht3
  all_goals have k0 := (zb hrow3 0 _ rfl).1
  all_goals have m0 := (zb hy3 0 _ rfl).1
  all_goals have mf0 := (zb hy3 0 _ rfl).2
  all_goals have k1 := (zb hrow3 1 _ rfl).1
  all_goals have m1 := (zb hy3 1 _ rfl).1
  all_goals have mf1 := (zb hy3 1 _ rfl).2
  all_goals have k2 := (zb hrow3 2 _ rfl).1
  all_goals have m2 := (zb hy3 2 _ rfl).1
  all_goals have mf2 := (zb hy3 2 _ rfl).2
  all_goals have k3 := (zb hrow3 3 _ rfl).1
  all_goals have m3 := (zb hy3 3 _ rfl).1
  all_goals have mf3 := (zb hy3 3 _ rfl).2
  all_goals have k4 := (zb hrow3 4 _ rfl).1
  all_goals have m4 := (zb hy3 4 _ rfl).1
  all_goals have mf4 := (zb hy3 4 _ rfl).2
  all_goals have k5 := (zb hrow3 5 _ rfl).1
  all_goals have m5 := (zb hy3 5 _ rfl).1
  all_goals have mf5 := (zb hy3 5 _ rfl).2
  all_goals clear hr3 hrow3 hy3 hu3 ht3 ht23 hW3 hr2 hb2
  all_goals go_wp2_with fail
  all_goals have htg : Tg g0 W3 ((((((W3.setCell ⟨g0, 0, none⟩ (.int .i64 n0)).setCell ⟨g0, 1, none⟩ (.int .i64 n1)).setCell ⟨g0, 2, none⟩ (.string (str t))).setCell ⟨g0, 3, none⟩ (.int .i64 n3)).setCell ⟨g0, 4, none⟩ (.slice a L cap)).setCell ⟨g0, 5, none⟩ (.int .i64 n5)) := ((((((Tg.set _ _ _ _).trans (Tg.set _ _ _ _)).trans (Tg.set _ _ _ _)).trans (Tg.set _ _ _ _)).trans (Tg.set _ _ _ _)).trans (Tg.set _ _ _ _))
  all_goals refine zM (g := g0) (cs := #[.int .i64 n0, .int .i64 n1, .string (str t), .int .i64 n3, .slice a L cap, .int .i64 n5]) rfl rfl rfl (heap_setCell_same _ g0 5 _ 59 _ (heap_setCell_same _ g0 4 _ 59 _ (heap_setCell_same _ g0 3 _ 59 _ (heap_setCell_same _ g0 2 _ 59 _ (heap_setCell_same _ g0 1 _ 59 _ (heap_setCell_same _ g0 0 _ 59 _ HY3.out)))))) Tryz.underlying59 (by kernel_rfl) ?_
  all_goals exact ⟨⟨n0, n1, t, n3, l, n5⟩, .slice a L cap, q, e, rfl, NsF.mono (NsF.tg HU3.out htg (by omega)) (by omega), HR3.out.tg htg (by omega), Tg.above HT3.out (hwg) htg, HO.out⟩
 ·have hb : (er == 0) = false := beq_eq_false_iff_ne.2 he
  have HO := Lib.hid (yx (rd := rdCmd) (s := s) (p := p) (x := ⟨0, 0, [], 0, [], 0⟩) (q := p) he he);clear he;have k0 := (zb hz1 0 _ rfl).1;have kf0 := (zb hz1 0 _ rfl).2;have k1 := (zb hz1 1 _ rfl).1;have kf1 := (zb hz1 1 _ rfl).2;have k2 := (zb hz1 2 _ rfl).1;have kf2 := (zb hz1 2 _ rfl).2;have k3 := (zb hz1 3 _ rfl).1;have kf3 := (zb hz1 3 _ rfl).2;have k4 := (zb hz1 4 _ rfl).1;have kf4 := (zb hz1 4 _ rfl).2;have k5 := (zb hz1 5 _ rfl).1;have kf5 := (zb hz1 5 _ rfl).2;have m0 := (zb hz0 0 _ rfl).1;have mf0 := (zb hz0 0 _ rfl).2;have m1 := (zb hz0 1 _ rfl).1;have mf1 := (zb hz0 1 _ rfl).2;have m2 := (zb hz0 2 _ rfl).1;have mf2 := (zb hz0 2 _ rfl).2;have m3 := (zb hz0 3 _ rfl).1;have mf3 := (zb hz0 3 _ rfl).2;have m4 := (zb hz0 4 _ rfl).1;have mf4 := (zb hz0 4 _ rfl).2;have m5 := (zb hz0 5 _ rfl).1;have mf5 := (zb hz0 5 _ rfl).2;clear hz0 hz1;go_enter Tryz.func86, Tryz.ntmps86;go_wp2_with fail;have htg : Tg g0 W1 ((((((W1.setCell ⟨g0, 0, none⟩ (.int .i64 0)).setCell ⟨g0, 1, none⟩ (.int .i64 0)).setCell ⟨g0, 2, none⟩ (.string ⟨#[]⟩)).setCell ⟨g0, 3, none⟩ (.int .i64 0)).setCell ⟨g0, 4, none⟩ (.slice none 0 0)).setCell ⟨g0, 5, none⟩ (.int .i64 0)) := ((((((Tg.set _ _ _ _).trans (Tg.set _ _ _ _)).trans (Tg.set _ _ _ _)).trans (Tg.set _ _ _ _)).trans (Tg.set _ _ _ _)).trans (Tg.set _ _ _ _));refine zM (g := g0) (cs := #[.int .i64 0, .int .i64 0, .string ⟨#[]⟩, .int .i64 0, .slice none 0 0, .int .i64 0]) rfl rfl rfl (heap_setCell_same _ g0 5 _ 59 _ (heap_setCell_same _ g0 4 _ 59 _ (heap_setCell_same _ g0 3 _ 59 _ (heap_setCell_same _ g0 2 _ 59 _ (heap_setCell_same _ g0 1 _ 59 _ (heap_setCell_same _ g0 0 _ 59 _ HZ0.out)))))) Tryz.underlying59 (by kernel_rfl) ?_;exact ⟨⟨0, 0, [], 0, [], 0⟩, .slice none 0 0, p, er, rfl, ⟨Sl.nil _, FrV.nil _⟩, HR1.out.tg htg (by omega), Tg.above (Tg.of_below HB1.out) (hwg) htg, HO.out⟩
set_option maxHeartbeats 4000000 in
theorem fcmd_item (A b : Nat) (s : List UInt8) (hs : s.length <= 140737488355328) (p er : Int) (w : World) (h : FRdr w b s p er) (hA : w.cell? ⟨A, 0, none⟩ = some (.pointer (some ⟨b, 0, none⟩))) :
 Calls Tryz.prog 85 #[.pointer (some ⟨A, 0, none⟩)] w (fun z w' => ∃ (x : Cm) (u : Value) (q e : Int), z = .returned (.agg #[.int .i64 x.client, .int .i64 x.seq, .string (str x.stream), .int .i64 x.rule, u, .int .i64 x.expect]) /\ NsF w.heap.size w' u x.args /\ FRdr w' b s q e /\ Tg b w w' /\ FOut rdCmd s p er x q e) := by
 obtain ⟨g0, hg0⟩ : ∃ g, w.heap.size = g := ⟨_, rfl⟩;obtain ⟨W0, hW0⟩ : ∃ W0, w.alloc (.cells #[.int .i64 0, .int .i64 0, .string ⟨#[]⟩, .int .i64 0, .slice none 0 0, .int .i64 0] 59) = W0 := ⟨_, rfl⟩;have hB0 : Below w.heap.size w W0 := by rw [<- hW0]; exact zf _ _
 have hz0 : W0.heap[g0]? = some (.cells #[.int .i64 0, .int .i64 0, .string ⟨#[]⟩, .int .i64 0, .slice none 0 0, .int .i64 0] 59 (0, 0)) := by rw [<- hW0, <- hg0]; exact zg _ _
 have hA0 := za hB0 hA;have hbl := h.lt;have hb0 : b < g0 := by omega
 have hwg : w.heap.size <= g0 := Nat.le_of_eq hg0;have hg0w : g0 < W0.heap.size := (Array.getElem?_eq_some_iff.1 hz0).1;have HC := Lib.hid (freadC_any b s p er W0 (h.below hB0) hs);have HB0 := Lib.hid hB0;have HZ0 := Lib.hid hz0;have hws := hB0.size;clear h hA hB0 hz0;go_enter Tryz.func85, Tryz.ntmps85;go_wp2_with fail;refine HC.out.mono ?_;rintro _ w1 ⟨⟨n0, n1, t, n3, l, n5⟩, u, q, e, rfl, hu, hr, ht, ho⟩;dsimp only at hu ho ⊢;obtain ⟨a, cap, rfl, -⟩ := hu.1.open;obtain ⟨L, hL⟩ : ∃ L, l.length = L := ⟨_, rfl⟩;rw [hL] at hu ⊢;have HU := Lib.hid hu;have HR := Lib.hid hr;have HT := Lib.hid ht;have HO := Lib.hid ho;have hz1 := (ht.block g0 hg0w (by omega)).trans HZ0.out;have HZ1 := Lib.hid hz1;have m0 := (zb hz1 0 _ rfl).1;have mf0 := (zb hz1 0 _ rfl).2;have m1 := (zb hz1 1 _ rfl).1;have mf1 := (zb hz1 1 _ rfl).2;have m2 := (zb hz1 2 _ rfl).1;have mf2 := (zb hz1 2 _ rfl).2;have m3 := (zb hz1 3 _ rfl).1;have mf3 := (zb hz1 3 _ rfl).2;have m4 := (zb hz1 4 _ rfl).1;have mf4 := (zb hz1 4 _ rfl).2;have m5 := (zb hz1 5 _ rfl).1;have mf5 := (zb hz1 5 _ rfl).2;clear hu hr ht ho hz1 hL hW0;go_wp2_with fail;have htg : Tg g0 w1 ((((((w1.setCell ⟨g0, 0, none⟩ (.int .i64 n0)).setCell ⟨g0, 1, none⟩ (.int .i64 n1)).setCell ⟨g0, 2, none⟩ (.string (str t))).setCell ⟨g0, 3, none⟩ (.int .i64 n3)).setCell ⟨g0, 4, none⟩ (.slice a L cap)).setCell ⟨g0, 5, none⟩ (.int .i64 n5)) := ((((((Tg.set _ _ _ _).trans (Tg.set _ _ _ _)).trans (Tg.set _ _ _ _)).trans (Tg.set _ _ _ _)).trans (Tg.set _ _ _ _)).trans (Tg.set _ _ _ _));refine zM (g := g0) (cs := #[.int .i64 n0, .int .i64 n1, .string (str t), .int .i64 n3, .slice a L cap, .int .i64 n5]) rfl rfl rfl (heap_setCell_same _ g0 5 _ 59 _ (heap_setCell_same _ g0 4 _ 59 _ (heap_setCell_same _ g0 3 _ 59 _ (heap_setCell_same _ g0 2 _ 59 _ (heap_setCell_same _ g0 1 _ 59 _ (heap_setCell_same _ g0 0 _ 59 _ HZ1.out)))))) Tryz.underlying59 (by kernel_rfl) ?_;exact ⟨⟨n0, n1, t, n3, l, n5⟩, .slice a L cap, q, e, rfl, NsF.mono (NsF.tg HU.out htg hg0w) hws, HR.out.tg htg (by omega), Tg.above ((Tg.of_below HB0.out).trans HT.out) hwg htg, HO.out⟩
set_option maxHeartbeats 4000000 in
theorem fentry_any (b : Nat) (s : List UInt8) (hs : s.length <= 140737488355328) (p er : Int) (w : World) (h : FRdr w b s p er) :
 Calls Tryz.prog 89 #[.pointer (some ⟨b, 0, none⟩)] w (fun z w' => ∃ (x : En) (u : Value) (q e : Int), z = .returned (.agg #[.int .i64 x.index, .string (str x.stream), u, .int .i64 x.seq, .int .i64 x.code]) /\ LsIs 2 QE w.heap.size w' u x.events /\ FRdr w' b s q e /\ Tg b w w' /\ FOut rEn s p er x q e) := by
 obtain ⟨g0, hg0⟩ : ∃ g, w.heap.size = g := ⟨_, rfl⟩;obtain ⟨W0, hW0⟩ : ∃ W0, w.alloc (.cells #[.int .i64 0, .string ⟨#[]⟩, .slice none 0 0, .int .i64 0, .int .i64 0] 53) = W0 := ⟨_, rfl⟩;have hB0 : Below w.heap.size w W0 := by rw [<- hW0]; exact zf _ _
 have hz0 : W0.heap[g0]? = some (.cells #[.int .i64 0, .string ⟨#[]⟩, .slice none 0 0, .int .i64 0, .int .i64 0] 53 (0, 0)) := by rw [<- hW0, <- hg0]; exact zg _ _
 have hbl := h.lt;have hb0 : b < g0 := by omega
 have hwg : w.heap.size <= g0 := Nat.le_of_eq hg0;have hg0w : g0 < W0.heap.size := (Array.getElem?_eq_some_iff.1 hz0).1;have HR0 := Lib.hid (h.below hB0);have HB0 := Lib.hid hB0;have HZ0 := Lib.hid hz0;have HN := Lib.hid (fun p er W (H : FRdr W b s p er) => yU b s p er W H hs);have HX := Lib.hid (fun p er W (H : FRdr W b s p er) => freadT_any b s p er W H hs);have HE := Lib.hid (fun p er W (H : FRdr W b s p er) => freadE_any b s p er W H hs);have hws := hB0.size;clear h hB0 hz0;go_enter Tryz.func89, Tryz.ntmps89;go_wp2_with fail;refine (HN.out _ _ _ HR0.out).mono ?_;rintro _ w1 ⟨n0, p1, e1, rfl, hr1, ht1, ho1⟩;have HR1 := Lib.hid hr1;have HT1 := Lib.hid ht1;have HO1 := Lib.hid ho1;clear hr1 ht1 ho1;go_wp2_with fail;refine (HX.out _ _ _ HR1.out).mono ?_;rintro _ w2 ⟨n1, p2, e2, rfl, hr2, ht2, ho2⟩;have HR2 := Lib.hid hr2;have HT2 := Lib.hid (HT1.out.trans ht2);have HO2 := Lib.hid ho2;clear hr2 ht2 ho2;go_wp2_with fail;refine (HE.out _ _ _ HR2.out).mono ?_;rintro _ w3 ⟨l, u, p3, e3, rfl, hu, hr3, ht3, ho3⟩;obtain ⟨a, cap, rfl, -⟩ := hu.list.open;obtain ⟨L, hL⟩ : ∃ L, l.length = L := ⟨_, rfl⟩;rw [hL] at hu;have HU := Lib.hid hu;have HR3 := Lib.hid hr3;have HT3 := Lib.hid (HT2.out.trans ht3);have HO3 := Lib.hid ho3;clear hr3 ht3 ho3 hu;rw [hL];go_wp2_with fail;refine (HN.out _ _ _ HR3.out).mono ?_;rintro _ w4 ⟨n3, p4, e4, rfl, hr4, ht4, ho4⟩;have HR4 := Lib.hid hr4;have HU4 := Lib.hid (qB HU.out ht4 (by have := HR2.out.lt; exact this));have HT4 := Lib.hid (HT3.out.trans ht4);have HO4 := Lib.hid ho4;clear hr4 ht4 ho4;go_wp2_with fail;refine (HN.out _ _ _ HR4.out).mono ?_;rintro _ w5 ⟨n4, p5, e5, rfl, hr5, ht5, ho5⟩;have HR5 := Lib.hid hr5;have HU5 := Lib.hid (qB HU4.out ht5 (by have := HR2.out.lt; exact this));have ht5' := HT4.out.trans ht5;have HT5 := Lib.hid ht5';have HO5 := Lib.hid ho5;have hz1 := (ht5'.block g0 hg0w (by omega)).trans HZ0.out;have HZ1 := Lib.hid hz1;have hs2 : W0.heap.size <= w2.heap.size := HT2.out.size;have m0 := (zb hz1 0 _ rfl).1;have mf0 := (zb hz1 0 _ rfl).2;have m1 := (zb hz1 1 _ rfl).1;have mf1 := (zb hz1 1 _ rfl).2;have m2 := (zb hz1 2 _ rfl).1;have mf2 := (zb hz1 2 _ rfl).2;have m3 := (zb hz1 3 _ rfl).1;have mf3 := (zb hz1 3 _ rfl).2;have m4 := (zb hz1 4 _ rfl).1;have mf4 := (zb hz1 4 _ rfl).2;clear hr5 ht5 ht5' ho5 hz1 hL hW0;go_wp2_with fail;have htg : Tg g0 w5 (((((w5.setCell ⟨g0, 0, none⟩ (.int .i64 n0)).setCell ⟨g0, 1, none⟩ (.string (str n1))).setCell ⟨g0, 2, none⟩ (.slice a L cap)).setCell ⟨g0, 3, none⟩ (.int .i64 n3)).setCell ⟨g0, 4, none⟩ (.int .i64 n4)) := (((((Tg.set _ _ _ _).trans (Tg.set _ _ _ _)).trans (Tg.set _ _ _ _)).trans (Tg.set _ _ _ _)).trans (Tg.set _ _ _ _));refine zM (g := g0) (cs := #[.int .i64 n0, .string (str n1), .slice a L cap, .int .i64 n3, .int .i64 n4]) rfl rfl rfl (heap_setCell_same _ g0 4 _ 53 _ (heap_setCell_same _ g0 3 _ 53 _ (heap_setCell_same _ g0 2 _ 53 _ (heap_setCell_same _ g0 1 _ 53 _ (heap_setCell_same _ g0 0 _ 53 _ HZ1.out))))) Tryz.underlying53 (by kernel_rfl) ?_;exact ⟨⟨n0, n1, l, n3, n4⟩, .slice a L cap, p5, e5, rfl, qH (qB HU5.out htg (by omega)) (by omega), HR5.out.tg htg (by omega), Tg.above ((Tg.of_below HB0.out).trans HT5.out) hwg htg,
  zk HO1.out (zk HO2.out (zk HO3.out (zk HO4.out (zk HO5.out (yI _ _ _ _)))))⟩
def QC (base : Nat) (w : World) (cs : List Value) (x : Cm) : Prop := ∃ u, cs = [Value.int .i64 x.client, .int .i64 x.seq, .string (str x.stream), .int .i64 x.rule, u, .int .i64 x.expect] /\ NsF base w u x.args
def QN (base : Nat) (w : World) (cs : List Value) (x : En) : Prop := ∃ u, cs = [Value.int .i64 x.index, .string (str x.stream), u, .int .i64 x.seq, .int .i64 x.code] /\ LsIs 2 QE base w u x.events
theorem QC.tg {base g : Nat} {w w' : World} {cs : List Value} {x : Cm} (h : QC base w cs x) (t : Tg g w w') (hg : g < base) : QC base w' cs x := by
 obtain ⟨u, e, h1⟩ := h; exact ⟨u, e, h1.tg t hg⟩
theorem QN.tg {base g : Nat} {w w' : World} {cs : List Value} {x : En} (h : QN base w cs x) (t : Tg g w w') (hg : g < base) : QN base w' cs x := by
 obtain ⟨u, e, h1⟩ := h; exact ⟨u, e, qB h1 t hg⟩
theorem QC.mono {base base' : Nat} {w : World} {cs : List Value} {x : Cm} (h : QC base w cs x) (hb : base' <= base) : QC base' w cs x := by
 obtain ⟨u, e, h1⟩ := h; exact ⟨u, e, h1.mono hb⟩
theorem QN.mono {base base' : Nat} {w : World} {cs : List Value} {x : En} (h : QN base w cs x) (hb : base' <= base) : QN base' w cs x := by
 obtain ⟨u, e, h1⟩ := h; exact ⟨u, e, qH h1 hb⟩
def FLs {X : Type} (k : Nat) (Q : Nat -> World -> List Value -> X -> Prop) (rd : Rd (List X)) (b : Nat) (s : List UInt8) (p er : Int) (w : World) (z : Ending) (w' : World) : Prop :=
 ∃ (x : List X) (u : Value) (q e : Int), z = .returned u /\ LsIs k Q w.heap.size w' u x /\ FRdr w' b s q e /\ Tg b w w' /\ FOut rd s p er x q e
theorem ZK {X : Type} (f : Rd X) (n : Nat) : rBehind [] f n = rMany f n := by funext s p; unfold rBehind; cases rMany f n s p <;> simp
theorem info_QC : ∃ i z, Tryz.prog.info? 59 = some i /\ i.zero = some z /\ i.size = 6 /\ i.bytes = 72 := by
 have h : (Tryz.prog.info? 59).map (fun i => (i.zero.isSome, i.size, i.bytes)) = some (true, 6, 72) := by kernel_rfl
 obtain ⟨i, hi, e⟩ := Option.map_eq_some_iff.1 h;simp only [Prod.mk.injEq] at e;obtain ⟨z, hz⟩ := Option.isSome_iff_exists.1 e.1;exact ⟨i, z, hi, hz, e.2.1, e.2.2⟩
set_option maxHeartbeats 8000000 in
theorem freadListCmd_any (A b : Nat) (s : List UInt8) (hs : s.length <= 140737488355328) (p er : Int) (w : World) (h : FRdr w b s p er) (hA : w.cell? ⟨A, 0, none⟩ = some (.pointer (some ⟨b, 0, none⟩))) (hne : A ≠ b) :
 Calls Tryz.prog 84 #[.pointer (some ⟨b, 0, none⟩), .int .i64 8, .func (.func 85) #[] #[.pointer (some ⟨A, 0, none⟩)]] w (FLs 6 QC (rList rdCmd 8) b s p er w) := by
 have C0 := Lib.hid (yU b s p er w h hs);have hblt := h.lt;clear h;obtain ⟨i0, z0, hi0, hz0, hsz, hby⟩ := info_QC;go_enter Tryz.func84, Tryz.ntmps84;go_wp2_with fail;refine C0.out.mono ?_;rintro _ w1 ⟨c, p1, e1, rfl, hr1, ht1, ho1⟩;have HR1 := Lib.hid hr1;have HT1 := Lib.hid ht1;have HO1 := Lib.hid ho1;obtain ⟨-, g1, g2, g3, g4⟩ := hr1.cells;have HR6 := Lib.hid (hr1.err 6);have HT6 := Lib.hid (ht1.trans (Tg.set w1 b 2 (.int .i64 6)));have g26 := HR6.out.cells.2.2.1;have CW := Lib.hid (fun W => zO c 0 8 W);clear hr1 ht1 ho1 C0;by_cases he : e1 = 0
 rotate_left 1
 ·have hb : (e1 == 0) = false := beq_eq_false_iff_ne.2 he
  have hb' : (e1 != 0) = true := by simp [he]
  have HZ := Lib.hid (show FOut (rList rdCmd 8) s p er [] p1 e1 from zk HO1.out (yx he he));clear he CW;go_wp2_with fail;go_ret;exact ⟨[], _, p1, e1, rfl, LsIs.nil _ _ _ _, HR1.out, HT1.out, HZ.out⟩
 subst he;obtain ⟨ok, hok⟩ : ∃ ok, inn c 0 8 = ok := ⟨_, rfl⟩;rw [hok] at CW;cases ok with
 | false =>
  have HZ := Lib.hid (show FOut (rList rdCmd 8) s p er [] p1 6 from zk HO1.out (by
   have h' : ¬ (0 <= c /\ c <= 8) := fun e => by rw [zq.2 e] at hok; cases hok
   rw [if_pos (by omega)]; exact ⟨fun _ => Or.inr ⟨rfl, by decide⟩, fun _ => by decide⟩))
  clear hok;go_wp2_with (go_at_call 51; refine (CW.out _).mono ?_; rintro _ w2 ⟨rfl, rfl⟩)
  go_ret;exact ⟨[], _, p1, 6, rfl, LsIs.nil _ _ _ _, HR6.out, HT6.out, HZ.out⟩
 | true =>
  obtain ⟨N, rfl⟩ : ∃ N : Nat, c = (N : Int) := ⟨c.toNat, by have := (zq.1 hok).1; omega⟩
  have hN : N <= 8 := by have := (zq.1 hok).2; omega
  have HL0 := Lib.hid (show ∀ l q e, FOut (rMany rdCmd N) s p1 0 l q e -> FOut (rList rdCmd 8) s p er l q e from fun l q e hh => zk HO1.out (by
   have h' := zq.1 hok;rw [if_neg (by omega), Int.toNat_natCast]; exact hh))
  obtain ⟨cur0, hcs0, hmk⟩ := yH (P := Tryz.prog) w1 23 59 i0 z0 Tryz.underlying23 hi0 hz0 N (by rw [hby]; omega) (by omega);rw [hsz] at hcs0;have HCS0 := Lib.hid hcs0;clear hcs0 hok g26;go_wp2_with (go_at_call 51; refine (CW.out _).mono ?_; rintro _ w2 ⟨rfl, rfl⟩)
  clear hmk;obtain ⟨g, hg⟩ : ∃ g, w1.heap.size = g := ⟨_, rfl⟩;have hwg : w.heap.size <= g := by rw [<- hg]; exact HT1.out.size
  have hrow0 : (w1.alloc (.cells cur0 59)).heap[g]? = some (.cells cur0 59 (0, 0)) := by rw [<- hg]; exact zg _ _
  have hr0 : FRdr (w1.alloc (.cells cur0 59)) b s p1 0 := HR1.out.below (zf _ _);have ht0 : Tg b w (w1.alloc (.cells cur0 59)) := HT1.out.trans (Tg.of_below (zf _ _));rw [hg];go_loopw [35] (fun i wr => ∃ (K : Nat) (q er : Int) (xs : List Cm) (cs : List Value) (cur : Array Value), i = .int .i64 (K : Int) /\ K <= N /\ Hid (∀ l' q' e', FOut (rBehind xs rdCmd (N - K)) s q er l' q' e' -> FOut (rMany rdCmd N) s p1 0 l' q' e') /\ Hid (xs.length = K) /\ Hid (FRdr wr b s q er) /\
   Hid (wr.heap[g]? = some (.cells cur 59 (0, 0))) /\ Hid (cur.size = N * 6) /\ Hid (cur.toList.take (K * 6) = cs) /\ Hid (Lie 6 (QC (g + 1) wr) cs xs) /\ Hid (Tg b w wr)) (fun i _ => N - (intOf i).toNat)
  case atStart => exact ⟨0, p1, 0, [], [], cur0, rfl, Nat.zero_le _, Lib.hid (by rw [Nat.sub_zero, ZK]; exact fun _ _ _ h => h), Lib.hid rfl, Lib.hid hr0, Lib.hid hrow0, HCS0, Lib.hid (by simp), Lib.hid (Lie.nil _ _), Lib.hid ht0⟩
  case round =>
   obtain ⟨K, q, er1, xs, cs, cur, rfl, hK, HG, HL, HR, HROW, HCS, HTK, HLIE, HT⟩ := hrel;by_cases hlt : K < N
   ·have hltI : (K : Int) < (N : Int) := by omega
    have hk0 : 0 <= (K : Int) := by omega
    have hw1 : IntKind.i64.wrap ((K : Int) + 1) = (K : Int) + 1 := IntWalk.i64_in _ (by omega);have CI := Lib.hid (fcmd_item A b s hs q er1 wr HR.out (yu HT.out hne hA));go_wp2_with (go_at_call 85; refine CI.out.mono ?_; rintro _ w3 ⟨x, u, q2, e2, rfl, hu, hr2, ht2, ho2⟩; obtain ⟨au, cu, rfl, -⟩ := hu.1.open; have HO2 := Lib.hid ho2; have HR2 := Lib.hid hr2; have HT2 := Lib.hid ht2; have HU := Lib.hid hu; have hrow3 : w3.heap[g]? = some (.cells cur 59 (0, 0)) := (ht2.block g (Array.getElem?_eq_some_iff.1 HROW.out).1 (by omega)).trans HROW.out; obtain ⟨old0, hold0, hfz0⟩ := zB hrow3 (k := K * 6) (by rw [HCS.out]; omega); obtain ⟨old1, hold1, hfz1⟩ := zB hrow3 (k := K * 6 + 1) (by rw [HCS.out]; omega); obtain ⟨old2, hold2, hfz2⟩ := zB hrow3 (k := K * 6 + 2) (by rw [HCS.out]; omega); obtain ⟨old3, hold3, hfz3⟩ := zB hrow3 (k := K * 6 + 3) (by rw [HCS.out]; omega); obtain ⟨old4, hold4, hfz4⟩ := zB hrow3 (k := K * 6 + 4) (by rw [HCS.out]; omega); obtain ⟨old5, hold5, hfz5⟩ := zB hrow3 (k := K * 6 + 5) (by rw [HCS.out]; omega); have HROW3 := Lib.hid hrow3; clear hrow3 ho2 hr2 ht2 hu)
    try simp only [Nat.zero_add]
    obtain ⟨cur1, hrow4, hcs0, htk0⟩ := zD (k := K * 6) HROW3.out (by rw [HCS.out]; omega) HTK.out (.int .i64 x.client);obtain ⟨cur2, hrow5, hcs1, htk1⟩ := zD (k := K * 6 + 1) hrow4 (by rw [hcs0, HCS.out]; omega) htk0 (.int .i64 x.seq);obtain ⟨cur3, hrow6, hcs2, htk2⟩ := zD (k := K * 6 + 2) hrow5 (by rw [hcs1, hcs0, HCS.out]; omega) htk1 (.string (str x.stream));obtain ⟨cur4, hrow7, hcs3, htk3⟩ := zD (k := K * 6 + 3) hrow6 (by rw [hcs2, hcs1, hcs0, HCS.out]; omega) htk2 (.int .i64 x.rule);obtain ⟨cur5, hrow8, hcs4, htk4⟩ := zD (k := K * 6 + 4) hrow7 (by rw [hcs3, hcs2, hcs1, hcs0, HCS.out]; omega) htk3 (.slice au x.args.length cu);obtain ⟨cur6, hrow9, hcs5, htk5⟩ := zD (k := K * 6 + 5) hrow8 (by rw [hcs4, hcs3, hcs2, hcs1, hcs0, HCS.out]; omega) htk4 (.int .i64 x.expect);have hgr : g < wr.heap.size := (Array.getElem?_eq_some_iff.1 HROW.out).1;have htg : Tg g w3 ((((((w3.setCell ⟨g, K * 6, none⟩ (.int .i64 x.client)).setCell ⟨g, K * 6 + 1, none⟩ (.int .i64 x.seq)).setCell ⟨g, K * 6 + 2, none⟩ (.string (str x.stream))).setCell ⟨g, K * 6 + 3, none⟩ (.int .i64 x.rule)).setCell ⟨g, K * 6 + 4, none⟩ (.slice au x.args.length cu)).setCell ⟨g, K * 6 + 5, none⟩ (.int .i64 x.expect)) := ((((((Tg.set _ _ _ _).trans (Tg.set _ _ _ _)).trans (Tg.set _ _ _ _)).trans (Tg.set _ _ _ _)).trans (Tg.set _ _ _ _)).trans (Tg.set _ _ _ _));have hLie : Lie 6 (QC (g + 1) ((((((w3.setCell ⟨g, K * 6, none⟩ (.int .i64 x.client)).setCell ⟨g, K * 6 + 1, none⟩ (.int .i64 x.seq)).setCell ⟨g, K * 6 + 2, none⟩ (.string (str x.stream))).setCell ⟨g, K * 6 + 3, none⟩ (.int .i64 x.rule)).setCell ⟨g, K * 6 + 4, none⟩ (.slice au x.args.length cu)).setCell ⟨g, K * 6 + 5, none⟩ (.int .i64 x.expect))) (cs ++ [.int .i64 x.client] ++ [.int .i64 x.seq] ++ [.string (str x.stream)] ++ [.int .i64 x.rule] ++ [.slice au x.args.length cu] ++ [.int .i64 x.expect]) (xs ++ [x]) := by
     have h1 : Lie 6 (QC (g + 1) ((((((w3.setCell ⟨g, K * 6, none⟩ (.int .i64 x.client)).setCell ⟨g, K * 6 + 1, none⟩ (.int .i64 x.seq)).setCell ⟨g, K * 6 + 2, none⟩ (.string (str x.stream))).setCell ⟨g, K * 6 + 3, none⟩ (.int .i64 x.rule)).setCell ⟨g, K * 6 + 4, none⟩ (.slice au x.args.length cu)).setCell ⟨g, K * 6 + 5, none⟩ (.int .i64 x.expect))) cs xs := HLIE.out.imp fun ds y hq => (hq.tg HT2.out (by omega)).tg htg (by omega)
     have h2 := h1.snoc (ds := [.int .i64 x.client, .int .i64 x.seq, .string (str x.stream), .int .i64 x.rule, .slice au x.args.length cu, .int .i64 x.expect]) (x := x) rfl (show QC (g + 1) ((((((w3.setCell ⟨g, K * 6, none⟩ (.int .i64 x.client)).setCell ⟨g, K * 6 + 1, none⟩ (.int .i64 x.seq)).setCell ⟨g, K * 6 + 2, none⟩ (.string (str x.stream))).setCell ⟨g, K * 6 + 3, none⟩ (.int .i64 x.rule)).setCell ⟨g, K * 6 + 4, none⟩ (.slice au x.args.length cu)).setCell ⟨g, K * 6 + 5, none⟩ (.int .i64 x.expect)) [.int .i64 x.client, .int .i64 x.seq, .string (str x.stream), .int .i64 x.rule, .slice au x.args.length cu, .int .i64 x.expect] x from ⟨_, rfl, NsF.mono (NsF.tg HU.out htg hgr) (Nat.succ_le_of_lt hgr)⟩);simpa using h2
    go_roundw
    case rel =>
     refine ⟨K + 1, q2, e2, xs ++ [x], cs ++ [.int .i64 x.client] ++ [.int .i64 x.seq] ++ [.string (str x.stream)] ++ [.int .i64 x.rule] ++ [.slice au x.args.length cu] ++ [.int .i64 x.expect], cur6, by go_num, by omega, Lib.hid ?_, Lib.hid ?_, Lib.hid ?_, Lib.hid hrow9, Lib.hid (by rw [hcs5, hcs4, hcs3, hcs2, hcs1, hcs0, HCS.out]), Lib.hid ?_, Lib.hid hLie, Lib.hid (Tg.above (HT.out.trans HT2.out) hwg htg)⟩
     ·intro l' q' e' hh
      refine HG.out l' q' e' ?_;rw [show N - K = (N - (K + 1)) + 1 by omega, jK];exact zk HO2.out hh
     ·rw [List.length_append, HL.out]; rfl
     ·exact HR2.out.tg htg (by omega)
     ·rw [show (K + 1) * 6 = K * 6 + 5 + 1 by omega]; exact htk5
    case measure => simp [intOf]; omega
   ·have hltI : ¬ (K : Int) < (N : Int) := by omega
    have hKN : K = N := by omega
    subst hKN;have HZ := Lib.hid (HL0.out xs q er1 (HG.out xs q er1 (by rw [Nat.sub_self, jL]; exact yI _ _ _ _)));go_wp2_with fail;go_ret;refine ⟨xs, _, q, er1, rfl, ⟨?_, FrV.new _ _ _ _ hwg⟩, HR.out, HT.out, HZ.out⟩;have h1 := HLIE.out.slice (cap := K) HROW.out (by rw [HLIE.out.1, HL.out]; exact HTK.out);rw [HL.out] at h1;exact h1.imp fun ds y hq => hq.mono (by omega)
theorem info_QN : ∃ i z, Tryz.prog.info? 53 = some i /\ i.zero = some z /\ i.size = 5 /\ i.bytes = 64 := by
 have h : (Tryz.prog.info? 53).map (fun i => (i.zero.isSome, i.size, i.bytes)) = some (true, 5, 64) := by kernel_rfl
 obtain ⟨i, hi, e⟩ := Option.map_eq_some_iff.1 h;simp only [Prod.mk.injEq] at e;obtain ⟨z, hz⟩ := Option.isSome_iff_exists.1 e.1;exact ⟨i, z, hi, hz, e.2.1, e.2.2⟩
set_option maxHeartbeats 8000000 in
theorem freadListEntry_any (b : Nat) (s : List UInt8) (hs : s.length <= 140737488355328) (p er : Int) (w : World) (h : FRdr w b s p er) :
 Calls Tryz.prog 88 #[.pointer (some ⟨b, 0, none⟩), .int .i64 16, .func (.func 89) #[.pointer (some ⟨b, 0, none⟩)] #[]] w (FLs 5 QN (rList rEn 16) b s p er w) := by
 have C0 := Lib.hid (yU b s p er w h hs);have hblt := h.lt;clear h;obtain ⟨i0, z0, hi0, hz0, hsz, hby⟩ := info_QN;go_enter Tryz.func88, Tryz.ntmps88;go_wp2_with fail;refine C0.out.mono ?_;rintro _ w1 ⟨c, p1, e1, rfl, hr1, ht1, ho1⟩;have HR1 := Lib.hid hr1;have HT1 := Lib.hid ht1;have HO1 := Lib.hid ho1;obtain ⟨-, g1, g2, g3, g4⟩ := hr1.cells;have HR6 := Lib.hid (hr1.err 6);have HT6 := Lib.hid (ht1.trans (Tg.set w1 b 2 (.int .i64 6)));have g26 := HR6.out.cells.2.2.1;have CW := Lib.hid (fun W => zO c 0 16 W);clear hr1 ht1 ho1 C0;by_cases he : e1 = 0
 rotate_left 1
 ·have hb : (e1 == 0) = false := beq_eq_false_iff_ne.2 he
  have hb' : (e1 != 0) = true := by simp [he]
  have HZ := Lib.hid (show FOut (rList rEn 16) s p er [] p1 e1 from zk HO1.out (yx he he));clear he CW;go_wp2_with fail;go_ret;exact ⟨[], _, p1, e1, rfl, LsIs.nil _ _ _ _, HR1.out, HT1.out, HZ.out⟩
 subst he;obtain ⟨ok, hok⟩ : ∃ ok, inn c 0 16 = ok := ⟨_, rfl⟩;rw [hok] at CW;cases ok with
 | false =>
  have HZ := Lib.hid (show FOut (rList rEn 16) s p er [] p1 6 from zk HO1.out (by
   have h' : ¬ (0 <= c /\ c <= 16) := fun e => by rw [zq.2 e] at hok; cases hok
   rw [if_pos (by omega)]; exact ⟨fun _ => Or.inr ⟨rfl, by decide⟩, fun _ => by decide⟩))
  clear hok;go_wp2_with (go_at_call 51; refine (CW.out _).mono ?_; rintro _ w2 ⟨rfl, rfl⟩)
  go_ret;exact ⟨[], _, p1, 6, rfl, LsIs.nil _ _ _ _, HR6.out, HT6.out, HZ.out⟩
 | true =>
  obtain ⟨N, rfl⟩ : ∃ N : Nat, c = (N : Int) := ⟨c.toNat, by have := (zq.1 hok).1; omega⟩
  have hN : N <= 16 := by have := (zq.1 hok).2; omega
  have HL0 := Lib.hid (show ∀ l q e, FOut (rMany rEn N) s p1 0 l q e -> FOut (rList rEn 16) s p er l q e from fun l q e hh => zk HO1.out (by
   have h' := zq.1 hok;rw [if_neg (by omega), Int.toNat_natCast]; exact hh))
  obtain ⟨cur0, hcs0, hmk⟩ := yH (P := Tryz.prog) w1 24 53 i0 z0 Tryz.underlying24 hi0 hz0 N (by rw [hby]; omega) (by omega);rw [hsz] at hcs0;have HCS0 := Lib.hid hcs0;clear hcs0 hok g26;go_wp2_with (go_at_call 51; refine (CW.out _).mono ?_; rintro _ w2 ⟨rfl, rfl⟩)
  clear hmk;obtain ⟨g, hg⟩ : ∃ g, w1.heap.size = g := ⟨_, rfl⟩;have hwg : w.heap.size <= g := by rw [<- hg]; exact HT1.out.size
  have hrow0 : (w1.alloc (.cells cur0 53)).heap[g]? = some (.cells cur0 53 (0, 0)) := by rw [<- hg]; exact zg _ _
  have hr0 : FRdr (w1.alloc (.cells cur0 53)) b s p1 0 := HR1.out.below (zf _ _);have ht0 : Tg b w (w1.alloc (.cells cur0 53)) := HT1.out.trans (Tg.of_below (zf _ _));rw [hg];go_loopw [35] (fun i wr => ∃ (K : Nat) (q er : Int) (xs : List En) (cs : List Value) (cur : Array Value), i = .int .i64 (K : Int) /\ K <= N /\ Hid (∀ l' q' e', FOut (rBehind xs rEn (N - K)) s q er l' q' e' -> FOut (rMany rEn N) s p1 0 l' q' e') /\ Hid (xs.length = K) /\ Hid (FRdr wr b s q er) /\
   Hid (wr.heap[g]? = some (.cells cur 53 (0, 0))) /\ Hid (cur.size = N * 5) /\ Hid (cur.toList.take (K * 5) = cs) /\ Hid (Lie 5 (QN (g + 1) wr) cs xs) /\ Hid (Tg b w wr)) (fun i _ => N - (intOf i).toNat)
  case atStart => exact ⟨0, p1, 0, [], [], cur0, rfl, Nat.zero_le _, Lib.hid (by rw [Nat.sub_zero, ZK]; exact fun _ _ _ h => h), Lib.hid rfl, Lib.hid hr0, Lib.hid hrow0, HCS0, Lib.hid (by simp), Lib.hid (Lie.nil _ _), Lib.hid ht0⟩
  case round =>
   obtain ⟨K, q, er1, xs, cs, cur, rfl, hK, HG, HL, HR, HROW, HCS, HTK, HLIE, HT⟩ := hrel;by_cases hlt : K < N
   ·have hltI : (K : Int) < (N : Int) := by omega
    have hk0 : 0 <= (K : Int) := by omega
    have hw1 : IntKind.i64.wrap ((K : Int) + 1) = (K : Int) + 1 := IntWalk.i64_in _ (by omega);have CI := Lib.hid (fentry_any b s hs q er1 wr HR.out);go_wp2_with (go_at_call 89; refine CI.out.mono ?_; rintro _ w3 ⟨x, u, q2, e2, rfl, hu, hr2, ht2, ho2⟩; obtain ⟨au, cu, rfl, -⟩ := hu.list.open; have HO2 := Lib.hid ho2; have HR2 := Lib.hid hr2; have HT2 := Lib.hid ht2; have HU := Lib.hid hu; have hrow3 : w3.heap[g]? = some (.cells cur 53 (0, 0)) := (ht2.block g (Array.getElem?_eq_some_iff.1 HROW.out).1 (by omega)).trans HROW.out; obtain ⟨old0, hold0, hfz0⟩ := zB hrow3 (k := K * 5) (by rw [HCS.out]; omega); obtain ⟨old1, hold1, hfz1⟩ := zB hrow3 (k := K * 5 + 1) (by rw [HCS.out]; omega); obtain ⟨old2, hold2, hfz2⟩ := zB hrow3 (k := K * 5 + 2) (by rw [HCS.out]; omega); obtain ⟨old3, hold3, hfz3⟩ := zB hrow3 (k := K * 5 + 3) (by rw [HCS.out]; omega); obtain ⟨old4, hold4, hfz4⟩ := zB hrow3 (k := K * 5 + 4) (by rw [HCS.out]; omega); have HROW3 := Lib.hid hrow3; clear hrow3 ho2 hr2 ht2 hu)
    try simp only [Nat.zero_add]
    obtain ⟨cur1, hrow4, hcs0, htk0⟩ := zD (k := K * 5) HROW3.out (by rw [HCS.out]; omega) HTK.out (.int .i64 x.index);obtain ⟨cur2, hrow5, hcs1, htk1⟩ := zD (k := K * 5 + 1) hrow4 (by rw [hcs0, HCS.out]; omega) htk0 (.string (str x.stream));obtain ⟨cur3, hrow6, hcs2, htk2⟩ := zD (k := K * 5 + 2) hrow5 (by rw [hcs1, hcs0, HCS.out]; omega) htk1 (.slice au x.events.length cu);obtain ⟨cur4, hrow7, hcs3, htk3⟩ := zD (k := K * 5 + 3) hrow6 (by rw [hcs2, hcs1, hcs0, HCS.out]; omega) htk2 (.int .i64 x.seq);obtain ⟨cur5, hrow8, hcs4, htk4⟩ := zD (k := K * 5 + 4) hrow7 (by rw [hcs3, hcs2, hcs1, hcs0, HCS.out]; omega) htk3 (.int .i64 x.code);have hgr : g < wr.heap.size := (Array.getElem?_eq_some_iff.1 HROW.out).1;have htg : Tg g w3 (((((w3.setCell ⟨g, K * 5, none⟩ (.int .i64 x.index)).setCell ⟨g, K * 5 + 1, none⟩ (.string (str x.stream))).setCell ⟨g, K * 5 + 2, none⟩ (.slice au x.events.length cu)).setCell ⟨g, K * 5 + 3, none⟩ (.int .i64 x.seq)).setCell ⟨g, K * 5 + 4, none⟩ (.int .i64 x.code)) := (((((Tg.set _ _ _ _).trans (Tg.set _ _ _ _)).trans (Tg.set _ _ _ _)).trans (Tg.set _ _ _ _)).trans (Tg.set _ _ _ _));have hLie : Lie 5 (QN (g + 1) (((((w3.setCell ⟨g, K * 5, none⟩ (.int .i64 x.index)).setCell ⟨g, K * 5 + 1, none⟩ (.string (str x.stream))).setCell ⟨g, K * 5 + 2, none⟩ (.slice au x.events.length cu)).setCell ⟨g, K * 5 + 3, none⟩ (.int .i64 x.seq)).setCell ⟨g, K * 5 + 4, none⟩ (.int .i64 x.code))) (cs ++ [.int .i64 x.index] ++ [.string (str x.stream)] ++ [.slice au x.events.length cu] ++ [.int .i64 x.seq] ++ [.int .i64 x.code]) (xs ++ [x]) := by
     have h1 : Lie 5 (QN (g + 1) (((((w3.setCell ⟨g, K * 5, none⟩ (.int .i64 x.index)).setCell ⟨g, K * 5 + 1, none⟩ (.string (str x.stream))).setCell ⟨g, K * 5 + 2, none⟩ (.slice au x.events.length cu)).setCell ⟨g, K * 5 + 3, none⟩ (.int .i64 x.seq)).setCell ⟨g, K * 5 + 4, none⟩ (.int .i64 x.code))) cs xs := HLIE.out.imp fun ds y hq => (hq.tg HT2.out (by omega)).tg htg (by omega)
     have h2 := h1.snoc (ds := [.int .i64 x.index, .string (str x.stream), .slice au x.events.length cu, .int .i64 x.seq, .int .i64 x.code]) (x := x) rfl (show QN (g + 1) (((((w3.setCell ⟨g, K * 5, none⟩ (.int .i64 x.index)).setCell ⟨g, K * 5 + 1, none⟩ (.string (str x.stream))).setCell ⟨g, K * 5 + 2, none⟩ (.slice au x.events.length cu)).setCell ⟨g, K * 5 + 3, none⟩ (.int .i64 x.seq)).setCell ⟨g, K * 5 + 4, none⟩ (.int .i64 x.code)) [.int .i64 x.index, .string (str x.stream), .slice au x.events.length cu, .int .i64 x.seq, .int .i64 x.code] x from ⟨_, rfl, qH (qB HU.out htg hgr) (Nat.succ_le_of_lt hgr)⟩);simpa using h2
    go_roundw
    case rel =>
     refine ⟨K + 1, q2, e2, xs ++ [x], cs ++ [.int .i64 x.index] ++ [.string (str x.stream)] ++ [.slice au x.events.length cu] ++ [.int .i64 x.seq] ++ [.int .i64 x.code], cur5, by go_num, by omega, Lib.hid ?_, Lib.hid ?_, Lib.hid ?_, Lib.hid hrow8, Lib.hid (by rw [hcs4, hcs3, hcs2, hcs1, hcs0, HCS.out]), Lib.hid ?_, Lib.hid hLie, Lib.hid (Tg.above (HT.out.trans HT2.out) hwg htg)⟩
     ·intro l' q' e' hh
      refine HG.out l' q' e' ?_;rw [show N - K = (N - (K + 1)) + 1 by omega, jK];exact zk HO2.out hh
     ·rw [List.length_append, HL.out]; rfl
     ·exact HR2.out.tg htg (by omega)
     ·rw [show (K + 1) * 5 = K * 5 + 4 + 1 by omega]; exact htk4
    case measure => simp [intOf]; omega
   ·have hltI : ¬ (K : Int) < (N : Int) := by omega
    have hKN : K = N := by omega
    subst hKN;have HZ := Lib.hid (HL0.out xs q er1 (HG.out xs q er1 (by rw [Nat.sub_self, jL]; exact yI _ _ _ _)));go_wp2_with fail;go_ret;refine ⟨xs, _, q, er1, rfl, ⟨?_, FrV.new _ _ _ _ hwg⟩, HR.out, HT.out, HZ.out⟩;have h1 := HLIE.out.slice (cap := K) HROW.out (by rw [HLIE.out.1, HL.out]; exact HTK.out);rw [HL.out] at h1;exact h1.imp fun ds y hq => hq.mono (by omega)
end Go.Proofs.YtaidhoepnefcpaaGreat.C10
