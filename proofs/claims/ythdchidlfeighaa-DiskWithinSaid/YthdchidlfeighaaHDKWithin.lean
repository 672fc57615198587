/-
  The law DiskWithin: never more bytes or files than may be. For every input; no condition.
-/
import Derived.Test.YthdchidlfeighaaRows
import Derived.Test.YthdchidlfeighaaHP12Ld
import Derived.Test.YthdchidlfeighaaHP12Arg
import Derived.Test.YthdchidlfeighaaHKLaw
import Derived.SizedLaws
import Derived.Test.YthdchidlfeighaaHP12Aw
import Derived.Deep.RegionHeldLaw
namespace Go.Proofs.Ythdchidlfeighaa.diskWithin
open Go Go.ChangeShapes Go.WideShapes Go.ChangeAt Go.RowKit Go.Proofs
open Go.ChangeMaps (open_string shut_string)
open Go.Proofs.Ythdchidlfeighaa.C10 (Fits)
open Go.Proofs.Ythdchidlfeighaa.C12 Go.Proofs.Ythdchidlfeighaa.P8 Go.Proofs.Ythdchidlfeighaa.K Go.Proofs.Ythdchidlfeighaa.B
set_option linter.unusedVariables false
set_option maxRecDepth 100000

theorem own : ownKnob Try.prog.godebug = none := by kernel_rfl
theorem laidOut : laidOutB Try.prog = true := by kernel_rfl

set_option maxHeartbeats 16000000 in
theorem walk (z : Int) (l : List ActL) (lv : Value) (w : World) (hl : ActsIs w w.heap.size lv l) (hz : 0 ≤ z ∧ z ≤ 65535) :
    Calls Try.prog 7 #[.int .u16 z, lv] w fun e w' => e = .returned (.bool true) ∧ Below w.heap.size w w' := by
  have HA := Lib.hid (fun W => awake_any W)
  have HNW := Lib.hid (own_new z w (by omega))
  have HL := Lib.hid hl
  obtain ⟨la, lc, rfl, -⟩ := hl
  obtain ⟨N, hN⟩ : ∃ N, l.length = N := ⟨_, rfl⟩
  rw [hN] at HL ⊢
  have HN := Lib.hid hN
  have hwz : IntKind.i64.wrap z = z := IntWalk.i64_in _ (by omega)
  have HZ := Lib.hid hz
  have HR0 := Lib.hid (fun W => new_good 0 W (by decide))
  clear hN hz
  go_enter Try.func7, Try.ntmps7
  go_wp2_with (first
    | (go_at_call 19; refine HNW.out.mono ?_; rintro _ w1 ⟨d, rfl, ho1, hb1⟩; have H1 := Lib.hid ho1; have B1 := Lib.hid hb1; clear ho1 hb1)
    | (go_at_call 10; refine (HA.out _).mono ?_; rintro _ w2 ⟨rfl, hb2⟩; have H2 := Lib.hid (H1.out.below hb2); have B2 := Lib.hid (B1.out.trans (hb2.mono B1.out.size)); clear hb2))
  clear H1 B1
  go_loopw [7] (fun i wr => ∃ (K : Nat) (D : Dst), i = .int .i64 (K : Int) ∧ K ≤ N ∧ Hid (Own w.heap.size wr d D) ∧ Hid (D.room = z) ∧ Hid (Below w.heap.size w wr)) (fun i _ => N - (intOf i).toNat)
  case atStart => exact ⟨0, _, rfl, Nat.zero_le _, H2, Lib.hid rfl, B2⟩
  case round =>
    obtain ⟨K, D, rfl, hK, HO, HRM, HBK⟩ := hrel
    have hk0 : 0 ≤ (K : Int) := by omega
    by_cases hlt : K < N
    rotate_left 1
    · have hltI : ¬ (K : Int) < (N : Int) := by omega
      go_wp2_with fail
      go_ret
      exact ⟨rfl, HBK.out⟩
    have hltI : (K : Int) < (N : Int) := by omega
    by_cases h200 : K < 200
    rotate_left 1
    · have h2I : ¬ (K : Int) < 200 := by omega
      go_wp2_with fail
      go_ret
      exact ⟨rfl, HBK.out⟩
    have h2I : (K : Int) < 200 := by omega
    have hw1 : IntKind.i64.wrap ((K : Int) + 1) = (K : Int) + 1 := IntWalk.i64_in _ (by omega)
    obtain ⟨y, hy⟩ : ∃ y, l[K]? = some y := ⟨_, List.getElem?_eq_getElem (by rw [HN.out]; exact hlt)⟩
    obtain ⟨a', cap', he, hc⟩ := HL.out.below HBK.out
    obtain ⟨b, off, cs, rfl, -, hact, hcs⟩ := hc K y hy
    rw [HN.out] at he
    cases he
    obtain ⟨kv, rfl, hkv, hwf⟩ := hact
    have m0 := hcs 0 _ rfl
    have m1 := hcs 1 _ rfl
    have m2 := hcs 2 _ rfl
    have m3 := hcs 3 _ rfl
    have m4 := hcs 4 _ rfl
    have m5 := hcs 5 _ rfl
    rw [Nat.add_zero] at m0
    have HKV := Lib.hid hkv
    have HWF := Lib.hid hwf
    obtain ⟨ka, kc, rfl, -⟩ := hkv
    clear hy hc hcs hwf
    have HU := Lib.hid (fun W E (h : Own w.heap.size W d E) => o_used h)
    have HLS := Lib.hid (fun W E (h : Own w.heap.size W d E) => o_list h)
    obtain ⟨g0, hg0⟩ : ∃ g, wr.heap.size = g := ⟨_, rfl⟩
    obtain ⟨X, hX⟩ : ∃ X, wr.alloc (.cells #[.int .i64 y.kind, .string (str y.name), .string (str y.s), .string (str y.tox), .int .i64 y.n, .slice ka y.keep.length kc] 52) = X := ⟨_, rfl⟩
    have HBX := Lib.hid (show Below wr.heap.size wr X from by rw [← hX]; exact below_alloc _ _)
    have HX := Lib.hid (HO.out.below HBX.out)
    have HBB := Lib.hid (show w.heap.size ≤ wr.heap.size from HO.out.base)
    have e0 : X.cell? ⟨g0, 0, none⟩ = some (Value.int .i64 y.kind) := by rw [← hX, ← hg0]; exact alloc_cell wr [_, _, _, _, _, _] _ 0 _ rfl
    have e1 : X.cell? ⟨g0, 1, none⟩ = some (Value.string (str y.name)) := by rw [← hX, ← hg0]; exact alloc_cell wr [_, _, _, _, _, _] _ 1 _ rfl
    have e2 : X.cell? ⟨g0, 2, none⟩ = some (Value.string (str y.s)) := by rw [← hX, ← hg0]; exact alloc_cell wr [_, _, _, _, _, _] _ 2 _ rfl
    have e3 : X.cell? ⟨g0, 3, none⟩ = some (Value.string (str y.tox)) := by rw [← hX, ← hg0]; exact alloc_cell wr [_, _, _, _, _, _] _ 3 _ rfl
    have e4 : X.cell? ⟨g0, 4, none⟩ = some (Value.int .i64 y.n) := by rw [← hX, ← hg0]; exact alloc_cell wr [_, _, _, _, _, _] _ 4 _ rfl
    have e5 : X.cell? ⟨g0, 5, none⟩ = some (Value.slice ka y.keep.length kc) := by rw [← hX, ← hg0]; exact alloc_cell wr [_, _, _, _, _, _] _ 5 _ rfl
    have hgl : g0 < X.heap.size := World.block_lt_of_cell? _ _ e0
    have HALL := Lib.hid (show ∀ W, Below X.heap.size X W → W.cell? ⟨g0, 0, none⟩ = some (Value.int .i64 y.kind) ∧ W.cell? ⟨g0, 1, none⟩ = some (Value.string (str y.name)) ∧ W.cell? ⟨g0, 2, none⟩ = some (Value.string (str y.s)) ∧ W.cell? ⟨g0, 3, none⟩ = some (Value.string (str y.tox)) ∧ W.cell? ⟨g0, 4, none⟩ = some (Value.int .i64 y.n) ∧ W.cell? ⟨g0, 5, none⟩ = some (Value.slice ka y.keep.length kc) from fun W hb => ⟨cell_same (hb.block _ hgl) e0, cell_same (hb.block _ hgl) e1, cell_same (hb.block _ hgl) e2, cell_same (hb.block _ hgl) e3, cell_same (hb.block _ hgl) e4, cell_same (hb.block _ hgl) e5⟩)
    have HX2 := Lib.hid hX
    have HXB := Lib.hid (show Below w.heap.size wr X from below_base HBX.out HBB.out)
    have HKX := Lib.hid (HKV.out.below HXB.out)
    obtain ⟨U, hU⟩ : ∃ U, usedF D.files = U := ⟨_, rfl⟩
    obtain ⟨LN, hLN⟩ : ∃ U, D.files.length = U := ⟨_, rfl⟩
    have HUL := Lib.hid (show usedF D.files = U ∧ D.files.length = LN from ⟨hU, hLN⟩)
    have hFD := HO.out.fine
    have HFD := Lib.hid hFD
    clear hgl hU hLN hFD
    by_cases klo : y.kind < 0
    · obtain ⟨D1, hD1⟩ : ∃ D1, (stepD D y).1 = D1 := ⟨_, rfl⟩
      have HD1 := Lib.hid hD1
      obtain ⟨U1, hU1⟩ : ∃ U, usedF D1.files = U := ⟨_, rfl⟩
      obtain ⟨L1, hL1⟩ : ∃ U, D1.files.length = U := ⟨_, rfl⟩
      have HUV := Lib.hid (show usedF D1.files = U1 ∧ D1.files.length = L1 from ⟨hU1, hL1⟩)
      have HRMx := Lib.hid (show D1.room = z from by rw [← HD1.out, step_room]; exact HRM.out)
      clear hD1 hU1 hL1
      go_wp2_with (first
        | (go_at_call 17; (try rw [hX]); (with_reducible refine (HU.out _ _ HX.out).mono ?_); rw [HUL.out.1]; rintro _ wa ⟨rfl, hb⟩; have HXa := Lib.hid (HX.out.below hb); have HBa := Lib.hid hb; clear hb)
        | (go_at_call 13; (with_reducible refine (HLS.out _ _ HXa.out).mono ?_); rw [HUL.out.2]; rintro _ wb ⟨aa, ca, rfl, hb⟩; have HXb := Lib.hid (HXa.out.below hb); have HBb := Lib.hid (HBa.out.trans (hb.mono HBa.out.size)); clear hb)
        | (go_at_call 23; (with_reducible refine (HR0.out _).mono ?_); rintro _ wc ⟨rfl, hr, hb⟩; have HT := Lib.hid (own_two HXb.out hr hb); have HXc := Lib.hid (HXb.out.below hb); have HBc := Lib.hid (HBb.out.trans (hb.mono HBb.out.size)); obtain ⟨f0, f1, f2, f3, f4, f5⟩ := HALL.out _ HBc.out; clear hr hb e0 e1 e2 e3 e4 e5)
        | (go_at_call 24; (with_reducible refine (do_any w.heap.size _ d _ D _ y _ HT.out (HKX.out.below (below_base HBc.out (Nat.le_trans HBB.out HBX.out.size))) HWF.out).mono ?_); rintro _ wd ⟨rfl, ht, hb⟩; have HXd := Lib.hid (HD1.out ▸ ht.own); have u1 : ¬ z < (U1 : Int) := (by have h1 := HXd.out.fine.used; rw [HUV.out.1, HRMx.out] at h1; omega); have u2 : ¬ (128 : Int) < (L1 : Int) := (by have h2 := HXd.out.fine.ok.count; rw [HUV.out.2] at h2; omega); have HBd := Lib.hid hb; clear ht hb)
        | (go_at_call 17; (with_reducible refine (HU.out _ _ HXd.out).mono ?_); rw [HUV.out.1]; rintro _ wy ⟨rfl, hb⟩; have HXy := Lib.hid (HXd.out.below hb); have HBy := Lib.hid (below_base hb HXd.out.base); clear hb)
        | (go_at_call 13; (with_reducible refine (HLS.out _ _ HXy.out).mono ?_); rw [HUV.out.2]; rintro _ wz ⟨ab, cb, rfl, hb⟩; have HXz := Lib.hid (HXy.out.below hb); have HBz := Lib.hid (HBy.out.trans (below_base hb HXy.out.base)); clear hb))
      go_roundw
      case rel => exact ⟨K + 1, D1, by go_num, by omega, HXz, HRMx, Lib.hid (HBK.out.trans (HXB.out.trans ((below_base HBc.out (Nat.le_trans HBB.out HBX.out.size)).trans (HBd.out.trans HBz.out))))⟩
      case measure => simp [intOf]; omega
    by_cases khi : 2 < y.kind
    · obtain ⟨D1, hD1⟩ : ∃ D1, (stepD D y).1 = D1 := ⟨_, rfl⟩
      have HD1 := Lib.hid hD1
      obtain ⟨U1, hU1⟩ : ∃ U, usedF D1.files = U := ⟨_, rfl⟩
      obtain ⟨L1, hL1⟩ : ∃ U, D1.files.length = U := ⟨_, rfl⟩
      have HUV := Lib.hid (show usedF D1.files = U1 ∧ D1.files.length = L1 from ⟨hU1, hL1⟩)
      have HRMx := Lib.hid (show D1.room = z from by rw [← HD1.out, step_room]; exact HRM.out)
      clear hD1 hU1 hL1
      have k1 : ¬ y.kind < 0 := by omega
      go_wp2_with (first
        | (go_at_call 17; (try rw [hX]); (with_reducible refine (HU.out _ _ HX.out).mono ?_); rw [HUL.out.1]; rintro _ wa ⟨rfl, hb⟩; have HXa := Lib.hid (HX.out.below hb); have HBa := Lib.hid hb; clear hb)
        | (go_at_call 13; (with_reducible refine (HLS.out _ _ HXa.out).mono ?_); rw [HUL.out.2]; rintro _ wb ⟨aa, ca, rfl, hb⟩; have HXb := Lib.hid (HXa.out.below hb); have HBb := Lib.hid (HBa.out.trans (hb.mono HBa.out.size)); clear hb)
        | (go_at_call 23; (with_reducible refine (HR0.out _).mono ?_); rintro _ wc ⟨rfl, hr, hb⟩; have HT := Lib.hid (own_two HXb.out hr hb); have HXc := Lib.hid (HXb.out.below hb); have HBc := Lib.hid (HBb.out.trans (hb.mono HBb.out.size)); obtain ⟨f0, f1, f2, f3, f4, f5⟩ := HALL.out _ HBc.out; clear hr hb e0 e1 e2 e3 e4 e5)
        | (go_at_call 24; (with_reducible refine (do_any w.heap.size _ d _ D _ y _ HT.out (HKX.out.below (below_base HBc.out (Nat.le_trans HBB.out HBX.out.size))) HWF.out).mono ?_); rintro _ wd ⟨rfl, ht, hb⟩; have HXd := Lib.hid (HD1.out ▸ ht.own); have u1 : ¬ z < (U1 : Int) := (by have h1 := HXd.out.fine.used; rw [HUV.out.1, HRMx.out] at h1; omega); have u2 : ¬ (128 : Int) < (L1 : Int) := (by have h2 := HXd.out.fine.ok.count; rw [HUV.out.2] at h2; omega); have HBd := Lib.hid hb; clear ht hb)
        | (go_at_call 17; (with_reducible refine (HU.out _ _ HXd.out).mono ?_); rw [HUV.out.1]; rintro _ wy ⟨rfl, hb⟩; have HXy := Lib.hid (HXd.out.below hb); have HBy := Lib.hid (below_base hb HXd.out.base); clear hb)
        | (go_at_call 13; (with_reducible refine (HLS.out _ _ HXy.out).mono ?_); rw [HUV.out.2]; rintro _ wz ⟨ab, cb, rfl, hb⟩; have HXz := Lib.hid (HXy.out.below hb); have HBz := Lib.hid (HBy.out.trans (below_base hb HXy.out.base)); clear hb))
      go_roundw
      case rel => exact ⟨K + 1, D1, by go_num, by omega, HXz, HRMx, Lib.hid (HBK.out.trans (HXB.out.trans ((below_base HBc.out (Nat.le_trans HBB.out HBX.out.size)).trans (HBd.out.trans HBz.out))))⟩
      case measure => simp [intOf]; omega
    have k2 : 0 ≤ y.kind ∧ y.kind ≤ 2 := by omega
    have hst : stepD D y = appendD D y.name y.s := by unfold stepD; rw [if_pos (by omega)]
    obtain ⟨D1, hD1⟩ : ∃ D1, (stepD D y).1 = D1 := ⟨_, rfl⟩
    have HD1 := Lib.hid hD1
    obtain ⟨U1, hU1⟩ : ∃ U, usedF D1.files = U := ⟨_, rfl⟩
    obtain ⟨L1, hL1⟩ : ∃ U, D1.files.length = U := ⟨_, rfl⟩
    have HUV := Lib.hid (show usedF D1.files = U1 ∧ D1.files.length = L1 from ⟨hU1, hL1⟩)
    have HRMx := Lib.hid (show D1.room = z from by rw [← HD1.out, step_room]; exact HRM.out)
    clear hD1 hU1 hL1
    obtain ⟨F0, hp0, hF0, hB0⟩ := HO.out
    have hgF : ¬ F0 g0 := fun e => by have := hp0.lt _ e; omega
    have HGF := Lib.hid hgF
    have HAP := Lib.hid (fun W (hb : Below wr.heap.size wr W) => pappend_any (hp0.below hb) y.name y.s HWF.out.name HWF.out.s)
    have HBN := Lib.hid (show (∀ i, F0 i → w.heap.size ≤ i) ∧ w.heap.size ≤ wr.heap.size from ⟨hF0, hB0⟩)
    have hDD : (appendD D y.name y.s).1 = D1 := by rw [← hst]; exact HD1.out
    have HDD := Lib.hid hDD
    have hfull := append_full (D := D) (s := y.name) (t := y.s)
    have hmore := append_more (D := D) HFD.out.rise (s := y.name) (t := y.s)
    rw [hDD] at hfull hmore
    obtain ⟨c, hc⟩ : ∃ c, (appendD D y.name y.s).2 = c := ⟨_, rfl⟩
    rw [hc] at hfull hmore
    have HC := Lib.hid hc
    have HZS : (str y.s).size = y.s.length := str_size _
    have kk1 : ¬ y.kind < 0 := by omega
    have kk2 : ¬ 2 < y.kind := by omega
    clear hp0 hF0 hB0 hgF hDD hc hst k2
    by_cases h10 : c = 10
    rotate_left 1
    by_cases h0 : c = 0
    rotate_left 1
    · have t10 : (c == 10) = false := beq_eq_false_iff_ne.2 h10
      have t0 : (c == 0) = false := beq_eq_false_iff_ne.2 h0
      clear h10 h0 hfull hmore
      go_upto_region 13 with (first
        | (go_at_call 17; (try rw [hX]); (with_reducible refine (HU.out _ _ HX.out).mono ?_); rw [HUL.out.1]; rintro _ wa ⟨rfl, hb⟩; have HXa := Lib.hid (HX.out.below hb); have HBa := Lib.hid hb; clear hb)
        | (go_at_call 13; (with_reducible refine (HLS.out _ _ HXa.out).mono ?_); rw [HUL.out.2]; rintro _ wb ⟨aa, ca, rfl, hb⟩; have HXb := Lib.hid (HXa.out.below hb); have HBb := Lib.hid (HBa.out.trans (hb.mono HBa.out.size)); clear hb)
        | (go_at_call 23; (with_reducible refine (HR0.out _).mono ?_); rintro _ wc ⟨rfl, hr, hb⟩; have HT := Lib.hid (own_two HXb.out hr hb); have HXc := Lib.hid (HXb.out.below hb); have HBc := Lib.hid (HBb.out.trans (hb.mono HBb.out.size)); obtain ⟨f0, f1, f2, f3, f4, f5⟩ := HALL.out _ HBc.out; clear hr hb e0 e1 e2 e3 e4 e5)
        | (go_at_call 20; refine (HAP.out _ (HBX.out.trans (HBc.out.mono HBX.out.size))).mono ?_; rintro _ wd ⟨rfl, F1, hp, hc⟩; rw [HC.out]; rw [HDD.out] at hp; have s2 := box_keep2 hc HGF.out f2; have hcb := chg_base hc HBN.out.1 HXc.out.base; have HXd := Lib.hid (show Own w.heap.size wd d D1 from ⟨F1, hp, hcb.2, Nat.le_trans HXc.out.base hcb.1.size⟩); have HBd := Lib.hid hcb.1; have u1 : ¬ z < (U1 : Int) := (by have h1 := HXd.out.fine.used; rw [HUV.out.1, HRMx.out] at h1; omega); have u2 : ¬ (128 : Int) < (L1 : Int) := (by have h2 := HXd.out.fine.ok.count; rw [HUV.out.2] at h2; omega); clear hp hc hcb))
      have hSd : Below wd.heap.size wd wd.drew := (Below.refl _ _).drew
      haveI hne : Nonempty (WdQ (fun W => Below wd.heap.size wd W)) := ⟨⟨_, hSd⟩⟩
      refine region_quiet_q (S := fun W => Below wd.heap.size wd W) (by kernel_rfl) (by kernel_rfl) hSd ?_
      repeat (go_big_quiet_step (fail))
      refine wpQuiet_nil ?_
      intro _ hw'
      obtain ⟨zz, rfl⟩ := hw'
      obtain ⟨wq, hSq⟩ := zz
      try dsimp only
      clear hne hSd
      have HXq := Lib.hid (HXd.out.below hSq)
      have HBq := Lib.hid (below_base hSq HXd.out.base)
      clear hSq
      go_wp2_with (first
        | (go_at_call 17; (with_reducible refine (HU.out _ _ HXq.out).mono ?_); rw [HUV.out.1]; rintro _ wy ⟨rfl, hb⟩; have HXy := Lib.hid (HXq.out.below hb); have HBy := Lib.hid (below_base hb HXq.out.base); clear hb)
        | (go_at_call 13; (with_reducible refine (HLS.out _ _ HXy.out).mono ?_); rw [HUV.out.2]; rintro _ wz ⟨ab, cb, rfl, hb⟩; have HXz := Lib.hid (HXy.out.below hb); have HBz := Lib.hid (HBy.out.trans (below_base hb HXy.out.base)); clear hb))
      go_roundw
      case rel => exact ⟨K + 1, D1, by go_num, by omega, HXz, HRMx, Lib.hid (HBK.out.trans (HXB.out.trans ((below_base HBc.out (Nat.le_trans HBB.out HBX.out.size)).trans (HBd.out.trans (HBq.out.trans HBz.out)))))⟩
      case measure => simp [intOf]; omega
    · have hm := hfull h10
      subst h10
      have e1 : U1 = U := by rw [← HUV.out.1, ← HUL.out.1, hm]
      have e2 : L1 = LN := by rw [← HUV.out.2, ← HUL.out.2, hm]
      subst e1
      subst e2
      have t3 : ((U1 : Int) != (U1 : Int)) = false := by simp
      have t4 : ((L1 : Int) != (L1 : Int)) = false := by simp
      clear hfull hmore hm
      go_upto_region 13 with (first
        | (go_at_call 17; (try rw [hX]); (with_reducible refine (HU.out _ _ HX.out).mono ?_); rw [HUL.out.1]; rintro _ wa ⟨rfl, hb⟩; have HXa := Lib.hid (HX.out.below hb); have HBa := Lib.hid hb; clear hb)
        | (go_at_call 13; (with_reducible refine (HLS.out _ _ HXa.out).mono ?_); rw [HUL.out.2]; rintro _ wb ⟨aa, ca, rfl, hb⟩; have HXb := Lib.hid (HXa.out.below hb); have HBb := Lib.hid (HBa.out.trans (hb.mono HBa.out.size)); clear hb)
        | (go_at_call 23; (with_reducible refine (HR0.out _).mono ?_); rintro _ wc ⟨rfl, hr, hb⟩; have HT := Lib.hid (own_two HXb.out hr hb); have HXc := Lib.hid (HXb.out.below hb); have HBc := Lib.hid (HBb.out.trans (hb.mono HBb.out.size)); obtain ⟨f0, f1, f2, f3, f4, f5⟩ := HALL.out _ HBc.out; clear hr hb e0 e1 e2 e3 e4 e5)
        | (go_at_call 20; refine (HAP.out _ (HBX.out.trans (HBc.out.mono HBX.out.size))).mono ?_; rintro _ wd ⟨rfl, F1, hp, hc⟩; rw [HC.out]; rw [HDD.out] at hp; have s2 := box_keep2 hc HGF.out f2; have hcb := chg_base hc HBN.out.1 HXc.out.base; have HXd := Lib.hid (show Own w.heap.size wd d D1 from ⟨F1, hp, hcb.2, Nat.le_trans HXc.out.base hcb.1.size⟩); have HBd := Lib.hid hcb.1; have u1 : ¬ z < (U1 : Int) := (by have h1 := HXd.out.fine.used; rw [HUV.out.1, HRMx.out] at h1; omega); have u2 : ¬ (128 : Int) < (L1 : Int) := (by have h2 := HXd.out.fine.ok.count; rw [HUV.out.2] at h2; omega); clear hp hc hcb))
      have hSd : Below wd.heap.size wd wd.drew := (Below.refl _ _).drew
      refine wp_region_held_drew (S := fun W => Below wd.heap.size wd W) (by kernel_rfl) hSd (fun hHeld => ?_)
      refine wpAnyH_take (i := 0) (v := ?_) rfl (by kernel_rfl) (by kernel_rfl) (by kernel_rfl) (fun _ _ _ h => h) (Or.inl ⟨by rfl, ?_⟩) (by assumption) ?_
      rotate_left
      focus (intro w hSw; (try dsimp only at hSw); go_simp; try with_reducible rfl)
      (try simp only [Act.put, List.getElem_toArray, List.getElem_cons_zero, List.setIfInBounds_toArray, List.set_cons_zero, List.set_cons_succ])
      refine wpAnyH_take (i := 1) (v := ?_) rfl (by kernel_rfl) (by kernel_rfl) (by kernel_rfl) (fun _ _ _ h => h) (Or.inl ⟨by rfl, ?_⟩) (by assumption) ?_
      rotate_left
      focus (intro w hSw; (try dsimp only at hSw); go_simp; try with_reducible rfl)
      (try simp only [Act.put, List.getElem_toArray, List.getElem_cons_succ, List.getElem_cons_zero, List.setIfInBounds_toArray, List.set_cons_zero, List.set_cons_succ])
      refine wpAnyH_take (i := 2) (v := ?_) rfl (by kernel_rfl) (by kernel_rfl) (by kernel_rfl) (fun _ _ _ h => h) (Or.inl ⟨by rfl, ?_⟩) (by assumption) ?_
      rotate_left
      focus (intro w hSw; (try dsimp only at hSw); go_simp; try with_reducible rfl)
      (try simp only [Act.put, List.getElem_toArray, List.getElem_cons_succ, List.getElem_cons_zero, List.setIfInBounds_toArray, List.set_cons_zero, List.set_cons_succ])
      refine wpAnyH_take (i := 3) (v := ?_) rfl (by kernel_rfl) (by kernel_rfl) (by kernel_rfl) (fun _ _ _ h => h) (Or.inl ⟨by rfl, ?_⟩) (by assumption) ?_
      rotate_left
      focus (intro w hSw; (try dsimp only at hSw); go_simp; try with_reducible rfl)
      (try simp only [Act.put, List.getElem_toArray, List.getElem_cons_succ, List.getElem_cons_zero, List.setIfInBounds_toArray, List.set_cons_zero, List.set_cons_succ])
      refine wpAnyH_take (i := 5) (v := ?_) rfl (by kernel_rfl) (by kernel_rfl) (by kernel_rfl) (fun _ _ _ h => h) (Or.inl ⟨by rfl, ?_⟩) (by assumption) ?_
      rotate_left
      focus (intro w hSw; (try dsimp only at hSw); go_simp; try with_reducible rfl)
      (try simp only [Act.put, List.getElem_toArray, List.getElem_cons_succ, List.getElem_cons_zero, List.setIfInBounds_toArray, List.set_cons_zero, List.set_cons_succ])
      refine wpAnyH_ready (rs := [4]) (by kernel_rfl) (by simp) ?_
      refine AllReadyH.cons rfl (fun K hK => ?_) ?_
      rotate_left
      exact AllReadyH.nil
      (try simp only [List.getElem_toArray, List.getElem_cons_succ, List.getElem_cons_zero])
      go_simp
      (with_reducible refine (HU.out _ _ (HXd.out.below hSd)).mono ?_)
      rintro _ we ⟨rfl, hb⟩
      have hSwe : Below wd.heap.size wd we := hSd.trans (hb.mono hSd.size)
      clear hb
      (try rw [HUV.out.1])
      (try rw [HUV.out.2])
      go_simp
      refine hK.out _ _ ?_ (fun hHeld => ?_)
      assumption
      clear hK K
      (try simp only [Act.put, List.getElem_toArray, List.getElem_cons_succ, List.getElem_cons_zero, List.setIfInBounds_toArray, List.set_cons_zero, List.set_cons_succ])
      refine wpAnyH_take (i := 6) (v := ?_) rfl (by kernel_rfl) (by kernel_rfl) (by kernel_rfl) (fun _ _ _ h => h) (Or.inl ⟨by rfl, ?_⟩) (by assumption) ?_
      rotate_left
      focus (intro w hSw; (try dsimp only at hSw); go_simp; try with_reducible rfl)
      (try simp only [Act.put, List.getElem_toArray, List.getElem_cons_succ, List.getElem_cons_zero, List.setIfInBounds_toArray, List.set_cons_zero, List.set_cons_succ])
      refine wpAnyH_take (i := 7) (v := ?_) rfl (by kernel_rfl) (by kernel_rfl) (by kernel_rfl) (fun _ _ _ h => h) (Or.inl ⟨by rfl, ?_⟩) (by assumption) ?_
      rotate_left
      focus (intro w hSw; (try dsimp only at hSw); go_simp; try with_reducible rfl)
      (try simp only [Act.put, List.getElem_toArray, List.getElem_cons_succ, List.getElem_cons_zero, List.setIfInBounds_toArray, List.set_cons_zero, List.set_cons_succ])
      refine wpAnyH_take (i := 8) (v := ?_) rfl (by kernel_rfl) (by kernel_rfl) (by kernel_rfl) (fun _ _ _ h => h) (Or.inl ⟨by rfl, ?_⟩) (by assumption) ?_
      rotate_left
      focus (intro w hSw; (try dsimp only at hSw); go_simp; try with_reducible rfl)
      (try simp only [Act.put, List.getElem_toArray, List.getElem_cons_succ, List.getElem_cons_zero, List.setIfInBounds_toArray, List.set_cons_zero, List.set_cons_succ])
      refine wpAnyH_take (i := 11) (v := ?_) rfl (by kernel_rfl) (by kernel_rfl) (by kernel_rfl) (fun _ _ _ h => h) (Or.inl ⟨by rfl, ?_⟩) (by assumption) ?_
      rotate_left
      focus (intro w hSw; (try dsimp only at hSw); go_simp; try with_reducible rfl)
      (try simp only [Act.put, List.getElem_toArray, List.getElem_cons_succ, List.getElem_cons_zero, List.setIfInBounds_toArray, List.set_cons_zero, List.set_cons_succ])
      refine wpAnyH_ready (rs := [9]) (by kernel_rfl) (by simp) ?_
      refine AllReadyH.cons rfl (fun K hK => ?_) ?_
      rotate_left
      exact AllReadyH.nil
      (try simp only [List.getElem_toArray, List.getElem_cons_succ, List.getElem_cons_zero])
      go_simp
      (with_reducible refine (HLS.out _ _ (HXd.out.below hSwe)).mono ?_)
      rintro _ wf ⟨aq, cq, rfl, hb⟩
      have hSwf : Below wd.heap.size wd wf := hSwe.trans (hb.mono hSwe.size)
      clear hb
      (try rw [HUV.out.1])
      (try rw [HUV.out.2])
      go_simp
      refine hK.out _ _ ?_ (fun hHeld => ?_)
      assumption
      clear hK K
      (try simp only [Act.put, List.getElem_toArray, List.getElem_cons_succ, List.getElem_cons_zero, List.setIfInBounds_toArray, List.set_cons_zero, List.set_cons_succ])
      refine wpAnyH_take (i := 10) (v := ?_) rfl (by kernel_rfl) (by kernel_rfl) (by kernel_rfl) (fun _ _ _ h => h) (Or.inl ⟨by rfl, ?_⟩) (by assumption) ?_
      rotate_left
      focus (intro w hSw; (try dsimp only at hSw); go_simp; try with_reducible rfl)
      (try simp only [Act.put, List.getElem_toArray, List.getElem_cons_succ, List.getElem_cons_zero, List.setIfInBounds_toArray, List.set_cons_zero, List.set_cons_succ])
      refine wpAnyH_take (i := 12) (v := ?_) rfl (by kernel_rfl) (by kernel_rfl) (by kernel_rfl) (fun _ _ _ h => h) (Or.inl ⟨by rfl, ?_⟩) (by assumption) ?_
      rotate_left
      focus (intro w hSw; (try dsimp only at hSw); go_simp; try with_reducible rfl)
      (try simp only [Act.put, List.getElem_toArray, List.getElem_cons_succ, List.getElem_cons_zero, List.setIfInBounds_toArray, List.set_cons_zero, List.set_cons_succ])
      refine wpAnyH_take (i := 13) (v := ?_) rfl (by kernel_rfl) (by kernel_rfl) (by kernel_rfl) (fun _ _ _ h => h) (Or.inl ⟨by rfl, ?_⟩) (by assumption) ?_
      rotate_left
      focus (intro w hSw; (try dsimp only at hSw); go_simp; try with_reducible rfl)
      (try simp only [Act.put, List.getElem_toArray, List.getElem_cons_succ, List.getElem_cons_zero, List.setIfInBounds_toArray, List.set_cons_zero, List.set_cons_succ])
      refine wpAnyH_take (i := 14) (v := ?_) rfl (by kernel_rfl) (by kernel_rfl) (by kernel_rfl) (fun _ _ _ h => h) (Or.inl ⟨by rfl, ?_⟩) (by assumption) ?_
      rotate_left
      focus (intro w hSw; (try dsimp only at hSw); go_simp; try with_reducible rfl)
      (try simp only [Act.put, List.getElem_toArray, List.getElem_cons_succ, List.getElem_cons_zero, List.setIfInBounds_toArray, List.set_cons_zero, List.set_cons_succ])
      refine wpAnyH_take (i := 15) (v := ?_) rfl (by kernel_rfl) (by kernel_rfl) (by kernel_rfl) (fun _ _ _ h => h) (Or.inl ⟨by rfl, ?_⟩) (by assumption) ?_
      rotate_left
      focus (intro w hSw; (try dsimp only at hSw); go_simp; try with_reducible rfl)
      (try simp only [Act.put, List.getElem_toArray, List.getElem_cons_succ, List.getElem_cons_zero, List.setIfInBounds_toArray, List.set_cons_zero, List.set_cons_succ])
      refine wpAnyH_take (i := 16) (v := ?_) rfl (by kernel_rfl) (by kernel_rfl) (by kernel_rfl) (fun _ _ _ h => h) (Or.inl ⟨by rfl, ?_⟩) (by assumption) ?_
      rotate_left
      focus (intro w hSw; (try dsimp only at hSw); go_simp; try with_reducible rfl)
      (try simp only [Act.put, List.getElem_toArray, List.getElem_cons_succ, List.getElem_cons_zero, List.setIfInBounds_toArray, List.set_cons_zero, List.set_cons_succ])
      refine wpAnyH_take (i := 17) (v := ?_) rfl (by kernel_rfl) (by kernel_rfl) (by kernel_rfl) (fun _ _ _ h => h) (Or.inl ⟨by rfl, ?_⟩) (by assumption) ?_
      rotate_left
      focus (intro w hSw; (try dsimp only at hSw); go_simp; try with_reducible rfl)
      (try simp only [Act.put, List.getElem_toArray, List.getElem_cons_succ, List.getElem_cons_zero, List.setIfInBounds_toArray, List.set_cons_zero, List.set_cons_succ])
      refine wpAnyH_take (i := 18) (v := ?_) rfl (by kernel_rfl) (by kernel_rfl) (by kernel_rfl) (fun _ _ _ h => h) (Or.inl ⟨by rfl, ?_⟩) (by assumption) ?_
      rotate_left
      focus (intro w hSw; (try dsimp only at hSw); go_simp; try with_reducible rfl)
      (try simp only [Act.put, List.getElem_toArray, List.getElem_cons_succ, List.getElem_cons_zero, List.setIfInBounds_toArray, List.set_cons_zero, List.set_cons_succ])
      refine wpAnyH_take (i := 19) (v := undef) rfl (by kernel_rfl) (by kernel_rfl) (by kernel_rfl) (fun _ _ _ h => h) (Or.inr ⟨by rfl, rfl⟩) (by assumption) ?_
      (try simp only [Act.put, List.getElem_toArray, List.getElem_cons_succ, List.getElem_cons_zero, List.setIfInBounds_toArray, List.set_cons_zero, List.set_cons_succ])
      refine wpAnyH_take (i := 20) (v := undef) rfl (by kernel_rfl) (by kernel_rfl) (by kernel_rfl) (fun _ _ _ h => h) (Or.inr ⟨by rfl, rfl⟩) (by assumption) ?_
      (try simp only [Act.put, List.getElem_toArray, List.getElem_cons_succ, List.getElem_cons_zero, List.setIfInBounds_toArray, List.set_cons_zero, List.set_cons_succ])
      refine wpAnyH_take (i := 21) (v := undef) rfl (by kernel_rfl) (by kernel_rfl) (by kernel_rfl) (fun _ _ _ h => h) (Or.inr ⟨by rfl, rfl⟩) (by assumption) ?_
      (try simp only [Act.put, List.getElem_toArray, List.getElem_cons_succ, List.getElem_cons_zero, List.setIfInBounds_toArray, List.set_cons_zero, List.set_cons_succ])
      refine wpAnyH_take (i := 22) (v := undef) rfl (by kernel_rfl) (by kernel_rfl) (by kernel_rfl) (fun _ _ _ h => h) (Or.inr ⟨by rfl, rfl⟩) (by assumption) ?_
      (try simp only [Act.put, List.getElem_toArray, List.getElem_cons_succ, List.getElem_cons_zero, List.setIfInBounds_toArray, List.set_cons_zero, List.set_cons_succ])
      refine wpAnyH_take (i := 23) (v := undef) rfl (by kernel_rfl) (by kernel_rfl) (by kernel_rfl) (fun _ _ _ h => h) (Or.inr ⟨by rfl, rfl⟩) (by assumption) ?_
      (try simp only [Act.put, List.getElem_toArray, List.getElem_cons_succ, List.getElem_cons_zero, List.setIfInBounds_toArray, List.set_cons_zero, List.set_cons_succ])
      refine wpAnyH_take (i := 24) (v := undef) rfl (by kernel_rfl) (by kernel_rfl) (by kernel_rfl) (fun _ _ _ h => h) (Or.inr ⟨by rfl, rfl⟩) (by assumption) ?_
      (try simp only [Act.put, List.getElem_toArray, List.getElem_cons_succ, List.getElem_cons_zero, List.setIfInBounds_toArray, List.set_cons_zero, List.set_cons_succ])
      refine wpAnyH_take (i := 25) (v := undef) rfl (by kernel_rfl) (by kernel_rfl) (by kernel_rfl) (fun _ _ _ h => h) (Or.inr ⟨by rfl, rfl⟩) (by assumption) ?_
      (try simp only [Act.put, List.getElem_toArray, List.getElem_cons_succ, List.getElem_cons_zero, List.setIfInBounds_toArray, List.set_cons_zero, List.set_cons_succ])
      refine wpAnyH_take (i := 26) (v := undef) rfl (by kernel_rfl) (by kernel_rfl) (by kernel_rfl) (fun _ _ _ h => h) (Or.inr ⟨by rfl, rfl⟩) (by assumption) ?_
      (try simp only [Act.put, List.getElem_toArray, List.getElem_cons_succ, List.getElem_cons_zero, List.setIfInBounds_toArray, List.set_cons_zero, List.set_cons_succ])
      refine wpAnyH_take (i := 27) (v := ?_) rfl (by kernel_rfl) (by kernel_rfl) (by kernel_rfl) (fun _ _ _ h => h) (Or.inl ⟨by rfl, ?_⟩) (by assumption) ?_
      rotate_left
      focus (intro w hSw; (try dsimp only at hSw); go_simp; try with_reducible rfl)
      (try simp only [Act.put, List.getElem_toArray, List.getElem_cons_succ, List.getElem_cons_zero, List.setIfInBounds_toArray, List.set_cons_zero, List.set_cons_succ])
      refine wpAnyH_take (i := 28) (v := ?_) rfl (by kernel_rfl) (by kernel_rfl) (by kernel_rfl) (fun _ _ _ h => h) (Or.inl ⟨by rfl, ?_⟩) (by assumption) ?_
      rotate_left
      focus (intro w hSw; (try dsimp only at hSw); go_simp; try with_reducible rfl)
      (try simp only [Act.put, List.getElem_toArray, List.getElem_cons_succ, List.getElem_cons_zero, List.setIfInBounds_toArray, List.set_cons_zero, List.set_cons_succ])
      refine wpAnyH_done (by kernel_rfl) ?_ _
      have HXq := Lib.hid (HXd.out.below hSwf)
      have HBq := Lib.hid (below_base hSwf HXd.out.base)
      clear hSd hSwe hSwf hHeld
      go_wp2_with (first
        | (go_at_call 17; (with_reducible refine (HU.out _ _ HXq.out).mono ?_); rw [HUV.out.1]; rintro _ wy ⟨rfl, hb⟩; have HXy := Lib.hid (HXq.out.below hb); have HBy := Lib.hid (below_base hb HXq.out.base); clear hb)
        | (go_at_call 13; (with_reducible refine (HLS.out _ _ HXy.out).mono ?_); rw [HUV.out.2]; rintro _ wz ⟨ab, cb, rfl, hb⟩; have HXz := Lib.hid (HXy.out.below hb); have HBz := Lib.hid (HBy.out.trans (below_base hb HXy.out.base)); clear hb))
      go_roundw
      case rel => exact ⟨K + 1, D1, by go_num, by omega, HXz, HRMx, Lib.hid (HBK.out.trans (HXB.out.trans ((below_base HBc.out (Nat.le_trans HBB.out HBX.out.size)).trans (HBd.out.trans (HBq.out.trans HBz.out)))))⟩
      case measure => simp [intOf]; omega
    · have hm := hmore h0
      rw [HUV.out.1, HUL.out.1] at hm
      have hUL := HFD.out.ok.used
      rw [HUL.out.1] at hUL
      subst h0
      have hfu := HO.out
      have a1 : IntKind.i64.wrap ((U : Int) + (y.s.length : Int)) = (U1 : Int) := by
        have := HWF.out.s
        rw [IntWalk.i64_in _ (by omega)]; omega
      have t3 : ((U1 : Int) != (U1 : Int)) = false := by simp
      have HA1 := Lib.hid hm
      clear hfull hmore h10 hm hUL hfu
      go_upto_region 13 with (first
        | (go_at_call 17; (try rw [hX]); (with_reducible refine (HU.out _ _ HX.out).mono ?_); rw [HUL.out.1]; rintro _ wa ⟨rfl, hb⟩; have HXa := Lib.hid (HX.out.below hb); have HBa := Lib.hid hb; clear hb)
        | (go_at_call 13; (with_reducible refine (HLS.out _ _ HXa.out).mono ?_); rw [HUL.out.2]; rintro _ wb ⟨aa, ca, rfl, hb⟩; have HXb := Lib.hid (HXa.out.below hb); have HBb := Lib.hid (HBa.out.trans (hb.mono HBa.out.size)); clear hb)
        | (go_at_call 23; (with_reducible refine (HR0.out _).mono ?_); rintro _ wc ⟨rfl, hr, hb⟩; have HT := Lib.hid (own_two HXb.out hr hb); have HXc := Lib.hid (HXb.out.below hb); have HBc := Lib.hid (HBb.out.trans (hb.mono HBb.out.size)); obtain ⟨f0, f1, f2, f3, f4, f5⟩ := HALL.out _ HBc.out; clear hr hb e0 e1 e2 e3 e4 e5)
        | (go_at_call 20; refine (HAP.out _ (HBX.out.trans (HBc.out.mono HBX.out.size))).mono ?_; rintro _ wd ⟨rfl, F1, hp, hc⟩; rw [HC.out]; rw [HDD.out] at hp; have s2 := box_keep2 hc HGF.out f2; have hcb := chg_base hc HBN.out.1 HXc.out.base; have HXd := Lib.hid (show Own w.heap.size wd d D1 from ⟨F1, hp, hcb.2, Nat.le_trans HXc.out.base hcb.1.size⟩); have HBd := Lib.hid hcb.1; have u1 : ¬ z < (U1 : Int) := (by have h1 := HXd.out.fine.used; rw [HUV.out.1, HRMx.out] at h1; omega); have u2 : ¬ (128 : Int) < (L1 : Int) := (by have h2 := HXd.out.fine.ok.count; rw [HUV.out.2] at h2; omega); clear hp hc hcb))
      have hSd : Below wd.heap.size wd wd.drew := (Below.refl _ _).drew
      haveI hne : Nonempty (WdQ (fun W => Below wd.heap.size wd W)) := ⟨⟨_, hSd⟩⟩
      have QG1 := wdq_call (S := fun W => Below wd.heap.size wd W) (f := 17) (args := #[.pointer (some ⟨d, 0, none⟩)]) (v := .int .i64 (U1 : Int)) (fun W hS => (HU.out W D1 (HXd.out.below hS)).mono fun e w2 hh => ⟨by rw [← HUV.out.1]; exact hh.1, hS.trans (hh.2.mono hS.size)⟩)
      have q2 := fun zz : WdQ (fun W => Below wd.heap.size wd W) => kept_cell zz.ok s2
      try dsimp only at q2
      refine region_quiet_q (S := fun W => Below wd.heap.size wd W) (by kernel_rfl) (by kernel_rfl) hSd ?_
      repeat (go_big_quiet_step (first | (with_reducible exact QG1 _)))
      refine wpQuiet_nil ?_
      intro _ hw'
      obtain ⟨zz, rfl⟩ := hw'
      obtain ⟨wq, hSq⟩ := zz
      try dsimp only
      clear hne q2 QG1 hSd
      have HXq := Lib.hid (HXd.out.below hSq)
      have HBq := Lib.hid (below_base hSq HXd.out.base)
      clear hSq
      go_wp2_with (first
        | (go_at_call 17; (with_reducible refine (HU.out _ _ HXq.out).mono ?_); rw [HUV.out.1]; rintro _ wy ⟨rfl, hb⟩; have HXy := Lib.hid (HXq.out.below hb); have HBy := Lib.hid (below_base hb HXq.out.base); clear hb)
        | (go_at_call 13; (with_reducible refine (HLS.out _ _ HXy.out).mono ?_); rw [HUV.out.2]; rintro _ wz ⟨ab, cb, rfl, hb⟩; have HXz := Lib.hid (HXy.out.below hb); have HBz := Lib.hid (HBy.out.trans (below_base hb HXy.out.base)); clear hb))
      go_roundw
      case rel => exact ⟨K + 1, D1, by go_num, by omega, HXz, HRMx, Lib.hid (HBK.out.trans (HXB.out.trans ((below_base HBc.out (Nat.le_trans HBB.out HBX.out.size)).trans (HBd.out.trans (HBq.out.trans HBz.out)))))⟩
      case measure => simp [intOf]; omega

theorem lifted (os : Os) (started : os.Started) (H : Type) (enc : TypeId × Value → H) :
    ReturnsInHanded {} Try.checked os 7 .any (Rows.diskWithinSpec.pre6 enc Try.prog Try.f7 Rows.diskWithinRow.domain false) (Rows.diskWithinSpec.post enc Try.prog Try.f7 false true false false) := by
  refine returnsInHanded_of_change_sized (C := Try.checked) own started (by kernel_rfl) Try.func7
    (ChangeSpec.witness6 (enc := enc) (C := Try.checked) false ⟨#[], #[.int .u16 0, .slice none 0 0], []⟩ 8 (by kernel_rfl) (by kernel_rfl) (by kernel_rfl) (by kernel_rfl)) ?_
  intro W base args ds gs before hval0 hW hcnd hsz0 _
  have hsz : (DataW.weightsEach Try.prog (Try.f7.params.toList ++ Rows.diskWithinSpec.plain.varTypes Try.prog) (ds ++ gs)).all (· ≤ reachBytes) = true := hsz0
  clear hsz0
  have hval : ∀ (j : Nat) t v, Try.f7.params[j]? = some t → args[j]? = some v → Value.okWide Try.prog W .any base t v := hval0
  have hW' := hW
  obtain ⟨p, q, hA0, hV, rfl, hfz, hnd⟩ := hW
  have hA : DataW.TrodAll enc Try.prog W 0 (fun _ => true) true Try.f7.params.toList args.toList ds p := hA0
  rw [Try.params7] at hA hval hsz
  obtain ⟨v0, vs0, d0, ds0, p0, q0, hargs, rfl, rfl, h0, r0⟩ := trodAll_cons hA
  obtain ⟨v1, vs1, d1, ds1, p1, q1, rfl, rfl, rfl, h1, r1⟩ := trodAll_cons r0
  obtain ⟨rfl, rfl, rfl⟩ := trodAll_nil r1
  obtain rfl : args = #[v0, v1] := by cases args; simp_all
  obtain ⟨z0, rfl, rfl, rfl, wz0⟩ := open_int Try.underlying58 (hval 0 58 v0 rfl rfl) h0
  have hi0 : 0 ≤ z0 ∧ z0 ≤ 65535 := by
    have := wz0
    simp [Lit.wf, IntKind.min, IntKind.max, IntKind.signed, IntKind.bits] at this
    exact this
  have hb1 : Fits (P := Try.prog) 22 d1 := fun m hm => by
    have h := List.all_eq_true.1 hsz m (DataW.weights_mem_each (j := 1) (t := 22) rfl rfl m hm)
    simpa using h
  obtain ⟨as1, ns1, ks1, rfl⟩ := okWide_slice Try.underlying22 (hval 1 22 v1 rfl rfl)
  obtain ⟨fuel1, hf1⟩ := h1
  obtain ⟨l1, hu1⟩ := acts_el (c := .slice as1 ns1 ks1) (z := (d1, p1)) (by simpa [Value.cells] using hf1) hb1
  have hw := walk z0 l1 _ W hu1 hi0
  refine hw.mono fun e W' ⟨he, hb⟩ => ?_
  subst he
  exact ⟨_, rfl, post_law hW' hb laidOut rfl rfl rfl Try.underlying4 (by rw [Try.params7]; decide +kernel)⟩

theorem over : Rows.diskWithinRow.holds Try.pinned (OpenSpec.ofChange Rows.diskWithinSpec) :=
  OpenClaim.holds_of_wide 7 Try.f7 rfl rfl rfl rfl rfl rfl rfl ⟨rfl, rfl, rfl, rfl, rfl⟩ rfl rfl rfl rfl rfl (by kernel_rfl) Try.func7 (by kernel_rfl)
    (of_decide_eq_true (by kernel_rfl)) (by unfold Func.isWrapper; first | (rw [if_pos (by decide +kernel)]; kernel_rfl) | (rw [if_neg (by decide +kernel)]; exact ⟨rfl, rfl⟩))
    (fun os started H enc _ => lifted os started H enc)

theorem proved : Rows.DiskWithinSaid := over
#print axioms proved
end Go.Proofs.Ythdchidlfeighaa.diskWithin
