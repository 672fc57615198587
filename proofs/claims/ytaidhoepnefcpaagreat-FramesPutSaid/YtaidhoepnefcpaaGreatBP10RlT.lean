/-
  Layer 10, the program: lists of surmise/api.Item read.
-/
import Derived.Test.YtaidhoepnefcpaaGreatBP10PmV
namespace Go.Proofs.YtaidhoepnefcpaaGreat.C10
open Go Go.RowKit Go.Proofs B K P8
set_option linter.unusedVariables false
set_option maxRecDepth 100000
theorem info_E : ∃ i z, Tryz.prog.info? 120 = some i /\ i.zero = some z /\ i.size = 2 /\ i.bytes = 32 := by
 have h : (Tryz.prog.info? 120).map (fun i => (i.zero.isSome, i.size, i.bytes)) = some (true, 2, 32) := by kernel_rfl
 obtain ⟨i, hi, e⟩ := Option.map_eq_some_iff.1 h;simp only [Prod.mk.injEq] at e;obtain ⟨z, hz⟩ := Option.isSome_iff_exists.1 e.1;exact ⟨i, z, hi, hz, e.2.1, e.2.2⟩
set_option maxHeartbeats 4000000 in
theorem readList_E (A b : Nat) (s : List UInt8) (most : Nat) (hm : most <= 256) (hs : s.length <= 140737488355328)
 (HI : ∀ (p er : Int) (W : World), Rdr W b s p er -> W.cell? ⟨A, 0, none⟩ = some (.pointer (some ⟨b, 0, none⟩)) -> Calls Tryz.prog 226 #[.pointer (some ⟨A, 0, none⟩)] W fun e w' => ∃ x q er', sEv s p er = (x, q, er') /\ (∃ u, e = .returned (.agg #[.int .i64 x.pos, u]) /\ SlN w' u x.vars /\ FrV W.heap.size u /\  Rdr w' b s q er' /\ Tg b W w'))
 (p er : Int) (w : World) (h : Rdr w b s p er) (hA : w.cell? ⟨A, 0, none⟩ = some (.pointer (some ⟨b, 0, none⟩))) (hne : A ≠ b) :
 Calls Tryz.prog 225 #[.pointer (some ⟨b, 0, none⟩), .int .i64 (most : Int), .func (.func 226) #[] #[.pointer (some ⟨A, 0, none⟩)]] w fun e w' => ∃ v, e = .returned v /\ LsIs 2 QE w.heap.size w' v (sList sEv most s p er).1 /\ Rdr w' b s (sList sEv most s p er).2.1 (sList sEv most s p er).2.2 /\ Tg b w w' := by
 obtain ⟨c, p1, e1, hc⟩ : ∃ x q e, sNum s p er = (x, q, e) := ⟨_, _, _, rfl⟩;have hd : sList sEv most s p er = sItems sEv most c s p1 e1 := by
  unfold sList sThen;rw [hc]
 rw [hd];have C0 := Lib.hid (zA b s p er w h hs);rw [hc] at C0;dsimp only at C0;have hblt := h.lt;clear hd hc;by_cases he : e1 = 0
 ·subst he
  obtain ⟨ok, hok⟩ : ∃ ok, inn c 0 (most : Int) = ok := ⟨_, rfl⟩;have CW := Lib.hid (fun W => zG c 0 (most : Int) W);rw [hok] at CW;cases ok with
  | false =>
   rw [qo _ _ _ _ _ hok];clear hok HI;go_enter Tryz.func225, Tryz.ntmps225;go_wp2_with (go_at_call 194; refine C0.out.mono ?_; rintro _ w1 ⟨rfl, hr1, ht1⟩; have g2 := hr1.cells.2.2.1; have g4 := hr1.cells.2.2.2.2; have HR1 := Lib.hid hr1; have HT1 := Lib.hid ht1; clear hr1 ht1)
   go_wp2_with (go_at_call 167; refine (CW.out _).mono ?_; rintro _ w2 ⟨rfl, rfl⟩)
   have HR2 := Lib.hid (HR1.out.err 6);have g2' := HR2.out.cells.2.2.1;go_wp2_with fail;go_ret;exact ⟨_, rfl, LsIs.nil _ _ _ _, HR2.out, HT1.out.trans (Tg.set _ _ _ _)⟩
  | true =>
   obtain ⟨N, rfl⟩ : ∃ N : Nat, c = (N : Int) := ⟨c.toNat, by have := (zq.1 hok).1; omega⟩
   have hN : N <= 256 := by have := (zq.1 hok).2; omega
   rw [qI _ _ _ _ _ hok];obtain ⟨i0, z0, hi0, hz0, hsz, hby⟩ := info_E;have HMK := Lib.hid (fun W => yH (P := Tryz.prog) W 51 120 i0 z0 Tryz.underlying51 hi0 hz0 N (by rw [hby]; omega) hN);clear hok;go_enter Tryz.func225, Tryz.ntmps225;go_wp2_with (go_at_call 194; refine C0.out.mono ?_; rintro _ w1 ⟨rfl, hr1, ht1⟩; have g2 := hr1.cells.2.2.1; have HR1 := Lib.hid hr1; have HT1 := Lib.hid ht1; clear hr1 ht1)
   obtain ⟨cur0, hcs0, hmk⟩ := HMK.out w1;rw [hsz] at hcs0;have HCS0 := Lib.hid hcs0;clear hcs0 HMK;go_wp2_with (go_at_call 167; refine (CW.out _).mono ?_; rintro _ w2 ⟨rfl, rfl⟩)
   clear hmk;obtain ⟨g, hg⟩ : ∃ g, w1.heap.size = g := ⟨_, rfl⟩;have hwg : w.heap.size <= g := by rw [<- hg]; exact HT1.out.size
   have hrow0 : (w1.alloc (.cells cur0 120)).heap[g]? = some (.cells cur0 120 (0, 0)) := by rw [<- hg]; exact zg _ _
   have hr0 : Rdr (w1.alloc (.cells cur0 120)) b s p1 0 := HR1.out.below (zf _ _);have ht0 : Tg b w (w1.alloc (.cells cur0 120)) := HT1.out.trans (Tg.of_below (zf _ _));rw [hg];have hgs : g < (w1.alloc (.cells cur0 120)).heap.size := (Array.getElem?_eq_some_iff.1 hrow0).1;go_loopw [35] (fun i wr => ∃ (K : Nat) (q er : Int) (xs : List (Ev)) (cs : List Value) (cur : Array Value), i = .int .i64 (K : Int) /\ K <= N /\ Hid (sGo sEv N [] s p1 0 = sGo sEv (N - K) xs s q er) /\ Hid (xs.length = K) /\ Hid (Rdr wr b s q er) /\
    Hid (wr.heap[g]? = some (.cells cur 120 (0, 0))) /\ Hid (cur.size = N * 2) /\ Hid (cur.toList.take (K * 2) = cs) /\ Hid (Lie 2 (QE (g + 1) wr) cs xs) /\ Hid (Tg b w wr)) (fun i _ => N - (intOf i).toNat)
   case atStart => exact ⟨0, p1, 0, [], [], cur0, rfl, Nat.zero_le _, Lib.hid (by rw [Nat.sub_zero]), Lib.hid rfl, Lib.hid hr0, Lib.hid hrow0, HCS0, Lib.hid (by simp), Lib.hid (Lie.nil _ _), Lib.hid ht0⟩
   case round =>
    obtain ⟨K, q, er1, xs, cs, cur, rfl, hK, HG, HL, HR, HROW, HCS, HTK, HLIE, HT⟩ := hrel;by_cases hlt : K < N
    ·have hltI : (K : Int) < (N : Int) := by omega
     have hk0 : 0 <= (K : Int) := by omega
     have hw1 : IntKind.i64.wrap ((K : Int) + 1) = (K : Int) + 1 := IntWalk.i64_in _ (by omega);have hAr := yu HT.out hne hA;have CI := Lib.hid (HI q er1 wr HR.out hAr);go_wp2_with (go_at_call 226; refine CI.out.mono ?_; rintro _ w3 ⟨x, q2, e2, hst, u, rfl, hu, hfu, hr2, ht2⟩; obtain ⟨au, cu, rfl, -⟩ := id hu.open; have HST := Lib.hid hst; have HR2 := Lib.hid hr2; have HT2 := Lib.hid ht2; have HU := Lib.hid hu; have HFU := Lib.hid hfu; have hrow3 : w3.heap[g]? = some (.cells cur 120 (0, 0)) := (ht2.block g (Array.getElem?_eq_some_iff.1 HROW.out).1 (by omega)).trans HROW.out; obtain ⟨old0, hold0, hfz0⟩ := zB hrow3 (k := K * 2) (by rw [HCS.out]; omega); obtain ⟨old1, hold1, hfz1⟩ := zB hrow3 (k := K * 2 + 1) (by rw [HCS.out]; omega); have HROW3 := Lib.hid hrow3; clear hrow3 hst hr2 ht2 hu hfu)
     try simp only [Nat.zero_add]
     obtain ⟨cur1, hrow4, hcs0, htk0⟩ := zD (k := K * 2) HROW3.out (by rw [HCS.out]; omega) HTK.out (.int .i64 x.pos);obtain ⟨cur2, hrow5, hcs1, htk1⟩ := zD (k := K * 2 + 1) hrow4 (by rw [hcs0, HCS.out]; omega) htk0 (.slice au x.vars.length cu);have hgr : g < wr.heap.size := (Array.getElem?_eq_some_iff.1 HROW.out).1;have htg : Tg g w3 ((w3.setCell ⟨g, K * 2, none⟩ (.int .i64 x.pos)).setCell ⟨g, K * 2 + 1, none⟩ (.slice au x.vars.length cu)) := ((Tg.set _ _ _ _).trans (Tg.set _ _ _ _));have hLie : Lie 2 (QE (g + 1) ((w3.setCell ⟨g, K * 2, none⟩ (.int .i64 x.pos)).setCell ⟨g, K * 2 + 1, none⟩ (.slice au x.vars.length cu))) (cs ++ [.int .i64 x.pos] ++ [.slice au x.vars.length cu]) (xs ++ [x]) := by
      have h1 : Lie 2 (QE (g + 1) ((w3.setCell ⟨g, K * 2, none⟩ (.int .i64 x.pos)).setCell ⟨g, K * 2 + 1, none⟩ (.slice au x.vars.length cu))) cs xs := HLIE.out.imp fun ds y hq => (hq.tg HT2.out (by omega)).tg htg (by omega)
      have h2 := h1.snoc (ds := [.int .i64 x.pos, .slice au x.vars.length cu]) (x := x) rfl (show QE (g + 1) ((w3.setCell ⟨g, K * 2, none⟩ (.int .i64 x.pos)).setCell ⟨g, K * 2 + 1, none⟩ (.slice au x.vars.length cu)) [.int .i64 x.pos, .slice au x.vars.length cu] x from ⟨_, rfl, HU.out.tg htg (HFU.out.mono (Nat.succ_le_of_lt hgr)) (by omega), HFU.out.mono (Nat.succ_le_of_lt hgr)⟩);simpa using h2
     go_roundw
     case rel =>
      refine ⟨K + 1, q2, e2, xs ++ [x], cs ++ [.int .i64 x.pos] ++ [.slice au x.vars.length cu], cur2, by go_num, by omega, Lib.hid ?_, Lib.hid ?_, Lib.hid ?_, Lib.hid hrow5, Lib.hid (by rw [hcs1, hcs0, HCS.out]), Lib.hid ?_, Lib.hid hLie, Lib.hid (Tg.above (HT.out.trans HT2.out) hwg htg)⟩
      ·rw [HG.out, show N - K = (N - (K + 1)) + 1 by omega, jl _ _ _ _ _ _ HST.out]
      ·rw [List.length_append, HL.out]; rfl
      ·exact HR2.out.tg htg (by omega)
      ·rw [show (K + 1) * 2 = K * 2 + 1 + 1 by omega]; exact htk1
     case measure => simp [intOf]; omega
    ·have hltI : ¬ (K : Int) < (N : Int) := by omega
     have hKN : K = N := by omega
     subst hKN;have hend : sGo sEv K [] s p1 0 = (xs, q, er1) := by rw [HG.out, Nat.sub_self]; rfl
     rw [hend];go_wp2_with fail;go_ret;refine ⟨_, rfl, ⟨?_, FrV.new _ _ _ _ hwg⟩, HR.out, HT.out⟩;have h1 := HLIE.out.slice (cap := K) HROW.out (by rw [HLIE.out.1, HL.out]; exact HTK.out);rw [HL.out] at h1;exact h1.imp fun ds y hq => hq.mono (by omega)
 ·rw [ql _ _ _ _ _ _ he]
  have hb : (e1 == 0) = false := beq_eq_false_iff_ne.2 he;clear HI;go_enter Tryz.func225, Tryz.ntmps225;go_wp2_with (go_at_call 194; refine C0.out.mono ?_; rintro _ w1 ⟨rfl, hr1, ht1⟩; have g2 := hr1.cells.2.2.1; have HR1 := Lib.hid hr1; have HT1 := Lib.hid ht1; clear hr1 ht1)
  go_ret;exact ⟨_, rfl, LsIs.nil _ _ _ _, HR1.out, HT1.out⟩
theorem info_T : ∃ i z, Tryz.prog.info? 91 = some i /\ i.zero = some z /\ i.size = 4 /\ i.bytes = 56 := by
 have h : (Tryz.prog.info? 91).map (fun i => (i.zero.isSome, i.size, i.bytes)) = some (true, 4, 56) := by kernel_rfl
 obtain ⟨i, hi, e⟩ := Option.map_eq_some_iff.1 h;simp only [Prod.mk.injEq] at e;obtain ⟨z, hz⟩ := Option.isSome_iff_exists.1 e.1;exact ⟨i, z, hi, hz, e.2.1, e.2.2⟩
set_option maxHeartbeats 4000000 in
theorem readList_T (A b : Nat) (s : List UInt8) (most : Nat) (hm : most <= 256) (hs : s.length <= 140737488355328)
 (HI : ∀ (p er : Int) (W : World), Rdr W b s p er -> W.cell? ⟨A, 0, none⟩ = some (.pointer (some ⟨b, 0, none⟩)) -> Calls Tryz.prog 200 #[.pointer (some ⟨A, 0, none⟩)] W fun e w' => ∃ x q er', sIt s p er = (x, q, er') /\ (∃ u, e = .returned (.agg #[.string (str x.stream), .int .i64 x.st.pos, .int .i64 x.st.ver, u]) /\ SlN w' u x.st.vars /\ FrV W.heap.size u /\  Rdr w' b s q er' /\ Tg b W w'))
 (p er : Int) (w : World) (h : Rdr w b s p er) (hA : w.cell? ⟨A, 0, none⟩ = some (.pointer (some ⟨b, 0, none⟩))) (hne : A ≠ b) :
 Calls Tryz.prog 199 #[.pointer (some ⟨b, 0, none⟩), .int .i64 (most : Int), .func (.func 200) #[] #[.pointer (some ⟨A, 0, none⟩)]] w fun e w' => ∃ v, e = .returned v /\ LsIs 4 QT w.heap.size w' v (sList sIt most s p er).1 /\ Rdr w' b s (sList sIt most s p er).2.1 (sList sIt most s p er).2.2 /\ Tg b w w' := by
 obtain ⟨c, p1, e1, hc⟩ : ∃ x q e, sNum s p er = (x, q, e) := ⟨_, _, _, rfl⟩;have hd : sList sIt most s p er = sItems sIt most c s p1 e1 := by
  unfold sList sThen;rw [hc]
 rw [hd];have C0 := Lib.hid (zA b s p er w h hs);rw [hc] at C0;dsimp only at C0;have hblt := h.lt;clear hd hc;by_cases he : e1 = 0
 ·subst he
  obtain ⟨ok, hok⟩ : ∃ ok, inn c 0 (most : Int) = ok := ⟨_, rfl⟩;have CW := Lib.hid (fun W => zG c 0 (most : Int) W);rw [hok] at CW;cases ok with
  | false =>
   rw [qo _ _ _ _ _ hok];clear hok HI;go_enter Tryz.func199, Tryz.ntmps199;go_wp2_with (go_at_call 194; refine C0.out.mono ?_; rintro _ w1 ⟨rfl, hr1, ht1⟩; have g2 := hr1.cells.2.2.1; have g4 := hr1.cells.2.2.2.2; have HR1 := Lib.hid hr1; have HT1 := Lib.hid ht1; clear hr1 ht1)
   go_wp2_with (go_at_call 167; refine (CW.out _).mono ?_; rintro _ w2 ⟨rfl, rfl⟩)
   have HR2 := Lib.hid (HR1.out.err 6);have g2' := HR2.out.cells.2.2.1;go_wp2_with fail;go_ret;exact ⟨_, rfl, LsIs.nil _ _ _ _, HR2.out, HT1.out.trans (Tg.set _ _ _ _)⟩
  | true =>
   obtain ⟨N, rfl⟩ : ∃ N : Nat, c = (N : Int) := ⟨c.toNat, by have := (zq.1 hok).1; omega⟩
   have hN : N <= 256 := by have := (zq.1 hok).2; omega
   rw [qI _ _ _ _ _ hok];obtain ⟨i0, z0, hi0, hz0, hsz, hby⟩ := info_T;have HMK := Lib.hid (fun W => yH (P := Tryz.prog) W 25 91 i0 z0 Tryz.underlying25 hi0 hz0 N (by rw [hby]; omega) hN);clear hok;go_enter Tryz.func199, Tryz.ntmps199;go_wp2_with (go_at_call 194; refine C0.out.mono ?_; rintro _ w1 ⟨rfl, hr1, ht1⟩; have g2 := hr1.cells.2.2.1; have HR1 := Lib.hid hr1; have HT1 := Lib.hid ht1; clear hr1 ht1)
   obtain ⟨cur0, hcs0, hmk⟩ := HMK.out w1;rw [hsz] at hcs0;have HCS0 := Lib.hid hcs0;clear hcs0 HMK;go_wp2_with (go_at_call 167; refine (CW.out _).mono ?_; rintro _ w2 ⟨rfl, rfl⟩)
   clear hmk;obtain ⟨g, hg⟩ : ∃ g, w1.heap.size = g := ⟨_, rfl⟩;have hwg : w.heap.size <= g := by rw [<- hg]; exact HT1.out.size
   have hrow0 : (w1.alloc (.cells cur0 91)).heap[g]? = some (.cells cur0 91 (0, 0)) := by rw [<- hg]; exact zg _ _
   have hr0 : Rdr (w1.alloc (.cells cur0 91)) b s p1 0 := HR1.out.below (zf _ _);have ht0 : Tg b w (w1.alloc (.cells cur0 91)) := HT1.out.trans (Tg.of_below (zf _ _));rw [hg];have hgs : g < (w1.alloc (.cells cur0 91)).heap.size := (Array.getElem?_eq_some_iff.1 hrow0).1;go_loopw [35] (fun i wr => ∃ (K : Nat) (q er : Int) (xs : List (It)) (cs : List Value) (cur : Array Value), i = .int .i64 (K : Int) /\ K <= N /\ Hid (sGo sIt N [] s p1 0 = sGo sIt (N - K) xs s q er) /\ Hid (xs.length = K) /\ Hid (Rdr wr b s q er) /\
    Hid (wr.heap[g]? = some (.cells cur 91 (0, 0))) /\ Hid (cur.size = N * 4) /\ Hid (cur.toList.take (K * 4) = cs) /\ Hid (Lie 4 (QT (g + 1) wr) cs xs) /\ Hid (Tg b w wr)) (fun i _ => N - (intOf i).toNat)
   case atStart => exact ⟨0, p1, 0, [], [], cur0, rfl, Nat.zero_le _, Lib.hid (by rw [Nat.sub_zero]), Lib.hid rfl, Lib.hid hr0, Lib.hid hrow0, HCS0, Lib.hid (by simp), Lib.hid (Lie.nil _ _), Lib.hid ht0⟩
   case round =>
    obtain ⟨K, q, er1, xs, cs, cur, rfl, hK, HG, HL, HR, HROW, HCS, HTK, HLIE, HT⟩ := hrel;by_cases hlt : K < N
    ·have hltI : (K : Int) < (N : Int) := by omega
     have hk0 : 0 <= (K : Int) := by omega
     have hw1 : IntKind.i64.wrap ((K : Int) + 1) = (K : Int) + 1 := IntWalk.i64_in _ (by omega);have hAr := yu HT.out hne hA;have CI := Lib.hid (HI q er1 wr HR.out hAr);go_wp2_with (go_at_call 200; refine CI.out.mono ?_; rintro _ w3 ⟨x, q2, e2, hst, u, rfl, hu, hfu, hr2, ht2⟩; obtain ⟨au, cu, rfl, -⟩ := id hu.open; have HST := Lib.hid hst; have HR2 := Lib.hid hr2; have HT2 := Lib.hid ht2; have HU := Lib.hid hu; have HFU := Lib.hid hfu; have hrow3 : w3.heap[g]? = some (.cells cur 91 (0, 0)) := (ht2.block g (Array.getElem?_eq_some_iff.1 HROW.out).1 (by omega)).trans HROW.out; obtain ⟨old0, hold0, hfz0⟩ := zB hrow3 (k := K * 4) (by rw [HCS.out]; omega); obtain ⟨old1, hold1, hfz1⟩ := zB hrow3 (k := K * 4 + 1) (by rw [HCS.out]; omega); obtain ⟨old2, hold2, hfz2⟩ := zB hrow3 (k := K * 4 + 2) (by rw [HCS.out]; omega); obtain ⟨old3, hold3, hfz3⟩ := zB hrow3 (k := K * 4 + 3) (by rw [HCS.out]; omega); have HROW3 := Lib.hid hrow3; clear hrow3 hst hr2 ht2 hu hfu)
     try simp only [Nat.zero_add]
     obtain ⟨cur1, hrow4, hcs0, htk0⟩ := zD (k := K * 4) HROW3.out (by rw [HCS.out]; omega) HTK.out (.string (str x.stream));obtain ⟨cur2, hrow5, hcs1, htk1⟩ := zD (k := K * 4 + 1) hrow4 (by rw [hcs0, HCS.out]; omega) htk0 (.int .i64 x.st.pos);obtain ⟨cur3, hrow6, hcs2, htk2⟩ := zD (k := K * 4 + 2) hrow5 (by rw [hcs1, hcs0, HCS.out]; omega) htk1 (.int .i64 x.st.ver);obtain ⟨cur4, hrow7, hcs3, htk3⟩ := zD (k := K * 4 + 3) hrow6 (by rw [hcs2, hcs1, hcs0, HCS.out]; omega) htk2 (.slice au x.st.vars.length cu);have hgr : g < wr.heap.size := (Array.getElem?_eq_some_iff.1 HROW.out).1;have htg : Tg g w3 ((((w3.setCell ⟨g, K * 4, none⟩ (.string (str x.stream))).setCell ⟨g, K * 4 + 1, none⟩ (.int .i64 x.st.pos)).setCell ⟨g, K * 4 + 2, none⟩ (.int .i64 x.st.ver)).setCell ⟨g, K * 4 + 3, none⟩ (.slice au x.st.vars.length cu)) := ((((Tg.set _ _ _ _).trans (Tg.set _ _ _ _)).trans (Tg.set _ _ _ _)).trans (Tg.set _ _ _ _));have hLie : Lie 4 (QT (g + 1) ((((w3.setCell ⟨g, K * 4, none⟩ (.string (str x.stream))).setCell ⟨g, K * 4 + 1, none⟩ (.int .i64 x.st.pos)).setCell ⟨g, K * 4 + 2, none⟩ (.int .i64 x.st.ver)).setCell ⟨g, K * 4 + 3, none⟩ (.slice au x.st.vars.length cu))) (cs ++ [.string (str x.stream)] ++ [.int .i64 x.st.pos] ++ [.int .i64 x.st.ver] ++ [.slice au x.st.vars.length cu]) (xs ++ [x]) := by
      have h1 : Lie 4 (QT (g + 1) ((((w3.setCell ⟨g, K * 4, none⟩ (.string (str x.stream))).setCell ⟨g, K * 4 + 1, none⟩ (.int .i64 x.st.pos)).setCell ⟨g, K * 4 + 2, none⟩ (.int .i64 x.st.ver)).setCell ⟨g, K * 4 + 3, none⟩ (.slice au x.st.vars.length cu))) cs xs := HLIE.out.imp fun ds y hq => (hq.tg HT2.out (by omega)).tg htg (by omega)
      have h2 := h1.snoc (ds := [.string (str x.stream), .int .i64 x.st.pos, .int .i64 x.st.ver, .slice au x.st.vars.length cu]) (x := x) rfl (show QT (g + 1) ((((w3.setCell ⟨g, K * 4, none⟩ (.string (str x.stream))).setCell ⟨g, K * 4 + 1, none⟩ (.int .i64 x.st.pos)).setCell ⟨g, K * 4 + 2, none⟩ (.int .i64 x.st.ver)).setCell ⟨g, K * 4 + 3, none⟩ (.slice au x.st.vars.length cu)) [.string (str x.stream), .int .i64 x.st.pos, .int .i64 x.st.ver, .slice au x.st.vars.length cu] x from ⟨_, rfl, HU.out.tg htg (HFU.out.mono (Nat.succ_le_of_lt hgr)) (by omega), HFU.out.mono (Nat.succ_le_of_lt hgr)⟩);simpa using h2
     go_roundw
     case rel =>
      refine ⟨K + 1, q2, e2, xs ++ [x], cs ++ [.string (str x.stream)] ++ [.int .i64 x.st.pos] ++ [.int .i64 x.st.ver] ++ [.slice au x.st.vars.length cu], cur4, by go_num, by omega, Lib.hid ?_, Lib.hid ?_, Lib.hid ?_, Lib.hid hrow7, Lib.hid (by rw [hcs3, hcs2, hcs1, hcs0, HCS.out]), Lib.hid ?_, Lib.hid hLie, Lib.hid (Tg.above (HT.out.trans HT2.out) hwg htg)⟩
      ·rw [HG.out, show N - K = (N - (K + 1)) + 1 by omega, jl _ _ _ _ _ _ HST.out]
      ·rw [List.length_append, HL.out]; rfl
      ·exact HR2.out.tg htg (by omega)
      ·rw [show (K + 1) * 4 = K * 4 + 3 + 1 by omega]; exact htk3
     case measure => simp [intOf]; omega
    ·have hltI : ¬ (K : Int) < (N : Int) := by omega
     have hKN : K = N := by omega
     subst hKN;have hend : sGo sIt K [] s p1 0 = (xs, q, er1) := by rw [HG.out, Nat.sub_self]; rfl
     rw [hend];go_wp2_with fail;go_ret;refine ⟨_, rfl, ⟨?_, FrV.new _ _ _ _ hwg⟩, HR.out, HT.out⟩;have h1 := HLIE.out.slice (cap := K) HROW.out (by rw [HLIE.out.1, HL.out]; exact HTK.out);rw [HL.out] at h1;exact h1.imp fun ds y hq => hq.mono (by omega)
 ·rw [ql _ _ _ _ _ _ he]
  have hb : (e1 == 0) = false := beq_eq_false_iff_ne.2 he;clear HI;go_enter Tryz.func199, Tryz.ntmps199;go_wp2_with (go_at_call 194; refine C0.out.mono ?_; rintro _ w1 ⟨rfl, hr1, ht1⟩; have g2 := hr1.cells.2.2.1; have HR1 := Lib.hid hr1; have HT1 := Lib.hid ht1; clear hr1 ht1)
  go_ret;exact ⟨_, rfl, LsIs.nil _ _ _ _, HR1.out, HT1.out⟩
end Go.Proofs.YtaidhoepnefcpaaGreat.C10
