/-
  Layer 10, the program: lists of int read.
  Layer 10, the program: lists of string read.
  Layer 10, the program: lists of surmise/api.Verdict read.
  Layer 10, the program: lists of surmise/api.Event read.
  Layer 10, the program: lists of surmise/api.Item read.
-/
import Derived.Test.YtebglkpejdoggaaP8RefE
namespace Go.Proofs.Ytebglkpejdoggaa.C10
open Go Go.RowKit Go.Proofs Go.Proofs.Ytebglkpejdoggaa.B Go.Proofs.Ytebglkpejdoggaa.K Go.Proofs.Ytebglkpejdoggaa.P8
set_option linter.unusedVariables false
set_option maxRecDepth 100000

theorem info_I : ∃ i z, Try.prog.info? 3 = some i ∧ i.zero = some z ∧ i.size = 1 ∧ i.bytes = 8 := by
  have h : (Try.prog.info? 3).map (fun i => (i.zero.isSome, i.size, i.bytes)) = some (true, 1, 8) := by kernel_rfl
  obtain ⟨i, hi, e⟩ := Option.map_eq_some_iff.1 h
  simp only [Prod.mk.injEq] at e
  obtain ⟨z, hz⟩ := Option.isSome_iff_exists.1 e.1
  exact ⟨i, z, hi, hz, e.2.1, e.2.2⟩

set_option maxHeartbeats 4000000 in
theorem readList_I (b : Nat) (s : List UInt8) (most : Nat) (hm : most ≤ 256) (hs : s.length ≤ 140737488355328)
    (HI : ∀ (p er : Int) (W : World), Rdr W b s p er → Calls Try.prog 59 #[.pointer (some ⟨b, 0, none⟩)] W fun e w' => ∃ x q er', sNum s p er = (x, q, er') ∧ (e = .returned (.int .i64 x) ∧  Rdr w' b s q er' ∧ Tg b W w'))
    (p er : Int) (w : World) (h : Rdr w b s p er) :
    Calls Try.prog 76 #[.pointer (some ⟨b, 0, none⟩), .int .i64 (most : Int), .func (.func 59) #[.pointer (some ⟨b, 0, none⟩)] #[]] w fun e w' => ∃ v, e = .returned v ∧ LsIs 1 QI w.heap.size w' v (sList sNum most s p er).1 ∧ Rdr w' b s (sList sNum most s p er).2.1 (sList sNum most s p er).2.2 ∧ Tg b w w' := by
  obtain ⟨c, p1, e1, hc⟩ : ∃ x q e, sNum s p er = (x, q, e) := ⟨_, _, _, rfl⟩
  have hd : sList sNum most s p er = sItems sNum most c s p1 e1 := by
    unfold sList sThen
    rw [hc]
  rw [hd]
  have C0 := Lib.hid (number_any b s p er w h hs)
  rw [hc] at C0
  dsimp only at C0
  have hblt := h.lt
  clear hd hc
  by_cases he : e1 = 0
  · subst he
    obtain ⟨ok, hok⟩ : ∃ ok, inn c 0 (most : Int) = ok := ⟨_, rfl⟩
    have CW := Lib.hid (fun W => within10_any c 0 (most : Int) W)
    rw [hok] at CW
    cases ok with
    | false =>
      rw [sItems_out _ _ _ _ _ hok]
      clear hok HI
      go_enter Try.func76, Try.ntmps76
      go_wp2_with (go_at_call 59; refine C0.out.mono ?_; rintro _ w1 ⟨rfl, hr1, ht1⟩; have g2 := hr1.cells.2.2.1; have g4 := hr1.cells.2.2.2.2; have HR1 := Lib.hid hr1; have HT1 := Lib.hid ht1; clear hr1 ht1)
      go_wp2_with (go_at_call 34; refine (CW.out _).mono ?_; rintro _ w2 ⟨rfl, rfl⟩)
      have HR2 := Lib.hid (HR1.out.err 6)
      have g2' := HR2.out.cells.2.2.1
      go_wp2_with fail
      go_ret
      exact ⟨_, rfl, LsIs.nil _ _ _ _, HR2.out, HT1.out.trans (Tg.set _ _ _ _)⟩
    | true =>
      obtain ⟨N, rfl⟩ : ∃ N : Nat, c = (N : Int) := ⟨c.toNat, by have := (inn_iff.1 hok).1; omega⟩
      have hN : N ≤ 256 := by have := (inn_iff.1 hok).2; omega
      rw [sItems_in _ _ _ _ _ hok]
      obtain ⟨i0, z0, hi0, hz0, hsz, hby⟩ := info_I
      have HMK := Lib.hid (fun W => run_make_k (P := Try.prog) W 22 3 i0 z0 Try.underlying22 hi0 hz0 N (by rw [hby]; omega) hN)
      clear hok
      go_enter Try.func76, Try.ntmps76
      go_wp2_with (go_at_call 59; refine C0.out.mono ?_; rintro _ w1 ⟨rfl, hr1, ht1⟩; have g2 := hr1.cells.2.2.1; have HR1 := Lib.hid hr1; have HT1 := Lib.hid ht1; clear hr1 ht1)
      obtain ⟨cur0, hcs0, hmk⟩ := HMK.out w1
      rw [hsz] at hcs0
      have HCS0 := Lib.hid hcs0
      clear hcs0 HMK
      go_wp2_with (go_at_call 34; refine (CW.out _).mono ?_; rintro _ w2 ⟨rfl, rfl⟩)
      clear hmk
      obtain ⟨g, hg⟩ : ∃ g, w1.heap.size = g := ⟨_, rfl⟩
      have hwg : w.heap.size ≤ g := by rw [← hg]; exact HT1.out.size
      have hrow0 : (w1.alloc (.cells cur0 3)).heap[g]? = some (.cells cur0 3 (0, 0)) := by rw [← hg]; exact heap_alloc_at _ _
      have hr0 : Rdr (w1.alloc (.cells cur0 3)) b s p1 0 := HR1.out.below (below_alloc _ _)
      have ht0 : Tg b w (w1.alloc (.cells cur0 3)) := HT1.out.trans (Tg.of_below (below_alloc _ _))
      rw [hg]
      have hgs : g < (w1.alloc (.cells cur0 3)).heap.size := (Array.getElem?_eq_some_iff.1 hrow0).1
      go_loopw [35] (fun i wr => ∃ (K : Nat) (q er : Int) (xs : List (Int)) (cs : List Value) (cur : Array Value), i = .int .i64 (K : Int) ∧ K ≤ N ∧ Hid (sGo sNum N [] s p1 0 = sGo sNum (N - K) xs s q er) ∧ Hid (xs.length = K) ∧ Hid (Rdr wr b s q er) ∧
          Hid (wr.heap[g]? = some (.cells cur 3 (0, 0))) ∧ Hid (cur.size = N * 1) ∧ Hid (cur.toList.take (K * 1) = cs) ∧ Hid (Lie 1 (QI (g + 1) wr) cs xs) ∧ Hid (Tg b w wr)) (fun i _ => N - (intOf i).toNat)
      case atStart => exact ⟨0, p1, 0, [], [], cur0, rfl, Nat.zero_le _, Lib.hid (by rw [Nat.sub_zero]), Lib.hid rfl, Lib.hid hr0, Lib.hid hrow0, HCS0, Lib.hid (by simp), Lib.hid (Lie.nil _ _), Lib.hid ht0⟩
      case round =>
        obtain ⟨K, q, er1, xs, cs, cur, rfl, hK, HG, HL, HR, HROW, HCS, HTK, HLIE, HT⟩ := hrel
        by_cases hlt : K < N
        · have hltI : (K : Int) < (N : Int) := by omega
          have hk0 : 0 ≤ (K : Int) := by omega
          have hw1 : IntKind.i64.wrap ((K : Int) + 1) = (K : Int) + 1 := IntWalk.i64_in _ (by omega)
          have CI := Lib.hid (HI q er1 wr HR.out)
          go_wp2_with (go_at_call 59; refine CI.out.mono ?_; rintro _ w3 ⟨x, q2, e2, hst, rfl, hr2, ht2⟩; have HST := Lib.hid hst; have HR2 := Lib.hid hr2; have HT2 := Lib.hid ht2; have hrow3 : w3.heap[g]? = some (.cells cur 3 (0, 0)) := (ht2.block g (Array.getElem?_eq_some_iff.1 HROW.out).1 (by omega)).trans HROW.out; obtain ⟨old0, hold0, hfz0⟩ := row_cell hrow3 (k := K) (by rw [HCS.out]; omega); have HROW3 := Lib.hid hrow3; clear hrow3 hst hr2 ht2)
          try simp only [Nat.zero_add]
          obtain ⟨cur1, hrow4, hcs0, htk0⟩ := row_fill (k := K) HROW3.out (by rw [HCS.out]; omega) (xs := cs) (by have := HTK.out; rw [Nat.mul_one] at this; exact this) (.int .i64 x)
          have htg : Tg g w3 (w3.setCell ⟨g, K, none⟩ (.int .i64 x)) := (Tg.set _ _ _ _)
          have hLie : Lie 1 (QI (g + 1) (w3.setCell ⟨g, K, none⟩ (.int .i64 x))) (cs ++ [.int .i64 x]) (xs ++ [x]) := by
            have h1 : Lie 1 (QI (g + 1) (w3.setCell ⟨g, K, none⟩ (.int .i64 x))) cs xs := HLIE.out.imp fun ds y hq => (hq.tg HT2.out (by omega)).tg htg (by omega)
            have h2 := h1.snoc (ds := [.int .i64 x]) (x := x) rfl (show QI (g + 1) (w3.setCell ⟨g, K, none⟩ (.int .i64 x)) [.int .i64 x] x from rfl)
            simpa using h2
          go_roundw
          case rel =>
            refine ⟨K + 1, q2, e2, xs ++ [x], cs ++ [.int .i64 x], cur1, by go_num, by omega, Lib.hid ?_, Lib.hid ?_, Lib.hid ?_, Lib.hid hrow4, Lib.hid (by rw [hcs0, HCS.out]), Lib.hid ?_, Lib.hid hLie, Lib.hid (Tg.above (HT.out.trans HT2.out) hwg htg)⟩
            · rw [HG.out, show N - K = (N - (K + 1)) + 1 by omega, sGo_next _ _ _ _ _ _ HST.out]
            · rw [List.length_append, HL.out]; rfl
            · exact HR2.out.tg htg (by omega)
            · rw [show (K + 1) * 1 = K + 1 by omega]; exact htk0
          case measure => simp [intOf]; omega
        · have hltI : ¬ (K : Int) < (N : Int) := by omega
          have hKN : K = N := by omega
          subst hKN
          have hend : sGo sNum K [] s p1 0 = (xs, q, er1) := by rw [HG.out, Nat.sub_self]; rfl
          rw [hend]
          go_wp2_with fail
          go_ret
          refine ⟨_, rfl, ⟨?_, Fr.new _ _ _ _ hwg⟩, HR.out, HT.out⟩
          have h1 := HLIE.out.slice (cap := K) HROW.out (by rw [HLIE.out.1, HL.out]; exact HTK.out)
          rw [HL.out] at h1
          exact h1.imp fun ds y hq => hq.mono (by omega)
  · rw [sItems_err _ _ _ _ _ _ he]
    have hb : (e1 == 0) = false := beq_eq_false_iff_ne.2 he
    clear HI
    go_enter Try.func76, Try.ntmps76
    go_wp2_with (go_at_call 59; refine C0.out.mono ?_; rintro _ w1 ⟨rfl, hr1, ht1⟩; have g2 := hr1.cells.2.2.1; have HR1 := Lib.hid hr1; have HT1 := Lib.hid ht1; clear hr1 ht1)
    go_ret
    exact ⟨_, rfl, LsIs.nil _ _ _ _, HR1.out, HT1.out⟩
end Go.Proofs.Ytebglkpejdoggaa.C10

namespace Go.Proofs.Ytebglkpejdoggaa.C10
open Go Go.RowKit Go.Proofs Go.Proofs.Ytebglkpejdoggaa.B Go.Proofs.Ytebglkpejdoggaa.K Go.Proofs.Ytebglkpejdoggaa.P8
set_option linter.unusedVariables false
set_option maxRecDepth 100000

theorem info_S : ∃ i z, Try.prog.info? 9 = some i ∧ i.zero = some z ∧ i.size = 1 ∧ i.bytes = 16 := by
  have h : (Try.prog.info? 9).map (fun i => (i.zero.isSome, i.size, i.bytes)) = some (true, 1, 16) := by kernel_rfl
  obtain ⟨i, hi, e⟩ := Option.map_eq_some_iff.1 h
  simp only [Prod.mk.injEq] at e
  obtain ⟨z, hz⟩ := Option.isSome_iff_exists.1 e.1
  exact ⟨i, z, hi, hz, e.2.1, e.2.2⟩

end Go.Proofs.Ytebglkpejdoggaa.C10

namespace Go.Proofs.Ytebglkpejdoggaa.C10
open Go Go.RowKit Go.Proofs Go.Proofs.Ytebglkpejdoggaa.B Go.Proofs.Ytebglkpejdoggaa.K Go.Proofs.Ytebglkpejdoggaa.P8
set_option linter.unusedVariables false
set_option maxRecDepth 100000

end Go.Proofs.Ytebglkpejdoggaa.C10

namespace Go.Proofs.Ytebglkpejdoggaa.C10
open Go Go.RowKit Go.Proofs Go.Proofs.Ytebglkpejdoggaa.B Go.Proofs.Ytebglkpejdoggaa.K Go.Proofs.Ytebglkpejdoggaa.P8
set_option linter.unusedVariables false
set_option maxRecDepth 100000

theorem info_E : ∃ i z, Try.prog.info? 54 = some i ∧ i.zero = some z ∧ i.size = 2 ∧ i.bytes = 32 := by
  have h : (Try.prog.info? 54).map (fun i => (i.zero.isSome, i.size, i.bytes)) = some (true, 2, 32) := by kernel_rfl
  obtain ⟨i, hi, e⟩ := Option.map_eq_some_iff.1 h
  simp only [Prod.mk.injEq] at e
  obtain ⟨z, hz⟩ := Option.isSome_iff_exists.1 e.1
  exact ⟨i, z, hi, hz, e.2.1, e.2.2⟩

end Go.Proofs.Ytebglkpejdoggaa.C10

namespace Go.Proofs.Ytebglkpejdoggaa.C10
open Go Go.RowKit Go.Proofs Go.Proofs.Ytebglkpejdoggaa.B Go.Proofs.Ytebglkpejdoggaa.K Go.Proofs.Ytebglkpejdoggaa.P8
set_option linter.unusedVariables false
set_option maxRecDepth 100000

end Go.Proofs.Ytebglkpejdoggaa.C10
