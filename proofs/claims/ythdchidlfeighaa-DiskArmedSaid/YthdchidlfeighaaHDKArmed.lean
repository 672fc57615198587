/-
  The law DiskArmed: a disk that is down does nothing, and goes down at just the write that was chosen. For every input; no condition.
-/
import Derived.Test.YthdchidlfeighaaRows
import Derived.Test.YthdchidlfeighaaHP12Ld
import Derived.Test.YthdchidlfeighaaHP12Arg
import Derived.Test.YthdchidlfeighaaHKLaw
import Derived.SizedLaws
import Derived.Test.YthdchidlfeighaaHP12At
namespace Go.Proofs.Ythdchidlfeighaa.diskArmed
open Go Go.ChangeShapes Go.WideShapes Go.ChangeAt Go.RowKit Go.Proofs
open Go.ChangeMaps (open_string shut_string)
open Go.Proofs.Ythdchidlfeighaa.C10 (Fits)
open Go.Proofs.Ythdchidlfeighaa.C12 Go.Proofs.Ythdchidlfeighaa.P8 Go.Proofs.Ythdchidlfeighaa.K Go.Proofs.Ythdchidlfeighaa.B
set_option linter.unusedVariables false
set_option maxRecDepth 100000

theorem own : ownKnob Try.prog.godebug = none := by kernel_rfl
theorem laidOut : laidOutB Try.prog = true := by kernel_rfl

set_option maxHeartbeats 16000000 in
theorem walk (z : Int) (l : List ActL) (lv : Value) (w : World) (hl : ActsIs w w.heap.size lv l) (hz : 0 ≤ z ∧ z ≤ 255) :
    Calls Try.prog 5 #[.int .u8 z, lv] w fun e w' => e = .returned (.bool true) ∧ Below w.heap.size w w' := by
  have HA := Lib.hid (fun W => awake_any W)
  have HNW := Lib.hid (own_new 1000 w (by decide))
  have HL := Lib.hid hl
  obtain ⟨la, lc, rfl, -⟩ := hl
  obtain ⟨N, hN⟩ : ∃ N, l.length = N := ⟨_, rfl⟩
  rw [hN] at HL ⊢
  have HN := Lib.hid hN
  have HR0 := Lib.hid (fun W => new_good 0 W (by decide))
  have HAP := Lib.hid (fun W d (h : Own w.heap.size W d ⟨1000, [], 0, false⟩) => a_app0 h)
  have HAR := Lib.hid (fun W d (h : Own w.heap.size W d (ar 0 0)) => a_arm h)
  have HAQ := Lib.hid (fun W d j c (h : Own w.heap.size W d (ar j c)) => a_app1 h)
  have HSY := Lib.hid (fun W d j (h : Own w.heap.size W d (ar j 1)) => a_sync h)
  have HDN := Lib.hid (fun W d j (h : Own w.heap.size W d (dn j)) => a_down h)
  have HSF := Lib.hid (fun W d j (h : Own w.heap.size W d (dn j)) => a_safe h)
  have HUS := Lib.hid (fun W d j (h : Own w.heap.size W d (dn j)) => a_used h)
  have HRD := Lib.hid (fun W d j (h : Own w.heap.size W d (dn j)) => a_read h)
  have HCR := Lib.hid (fun W d j (h : Own w.heap.size W d (dn j)) => a_crash h)
  have HD2 := Lib.hid (fun W d (h : Own w.heap.size W d ⟨1000, [⟨[97], [], []⟩], 0, false⟩) => a_down2 h)
  have HU2 := Lib.hid (fun W d (h : Own w.heap.size W d ⟨1000, [⟨[97], [], []⟩], 0, false⟩) => a_used2 h)
  obtain ⟨k, hk⟩ : ∃ k : Nat, z % 5 + 1 = (k : Int) := ⟨(z % 5 + 1).toNat, by omega⟩
  have hk1 : 1 ≤ k := by omega
  have hk5 : k ≤ 5 := by omega
  have HK := Lib.hid hk
  clear hN hk
  go_enter Try.func5, Try.ntmps5
  go_upto_region 3 with (go_at_call 19; (with_reducible refine HNW.out.mono ?_); rintro _ w1 ⟨d, rfl, ho1, hb1⟩; have H1 := Lib.hid ho1; have B1 := Lib.hid hb1; clear ho1 hb1)
  rw [HK.out]
  go_wp2_with (first
    | (go_at_call 20; (with_reducible refine (HAP.out _ _ H1.out).mono ?_); rintro _ w2 ⟨rfl, ho, hb⟩; have H2 := Lib.hid ho; have B2 := Lib.hid (B1.out.trans hb); clear ho hb)
    | (go_at_call 21; (with_reducible refine (HAR.out _ _ H2.out k hk1 hk5).mono ?_); rintro _ w3 ⟨rfl, ho, hb⟩; have H3 := Lib.hid ho; have B3 := Lib.hid (B2.out.trans hb); clear ho hb)
    | (go_at_call 10; (with_reducible refine (HA.out _).mono ?_); rintro _ w4 ⟨rfl, hb⟩; have H4 := Lib.hid (H3.out.below hb); have B4 := Lib.hid (B3.out.trans (below_base hb H3.out.base)); clear hb))
  clear H1 H2 H3 B1 B2 B3 hz HK
  go_loopw [8] (fun i wr => ∃ j c : Nat, i = .int .i64 ((j + 1 : Nat) : Int) ∧ j + c = k ∧ 1 ≤ c ∧ Hid (Own w.heap.size wr d (ar j c)) ∧ Hid (Below w.heap.size w wr)) (fun i _ => k - (intOf i).toNat)
  case atStart => exact ⟨0, k, rfl, by omega, hk1, H4, B4⟩
  case round =>
    obtain ⟨j, c, rfl, hjc, hc1, HO, HB⟩ := hrel
    have hw1 : IntKind.i64.wrap (((j + 1 : Nat) : Int) + 1) = ((j + 1 : Nat) : Int) + 1 := IntWalk.i64_in _ (by omega)
    by_cases hlt : j + 1 < k
    · have hltI : ((j + 1 : Nat) : Int) < (k : Int) := by omega
      have HB1 := Lib.hid (show j < 5 ∧ 2 ≤ c ∧ c ≤ 5 from by omega)
      go_wp2_with (go_at_call 20; (with_reducible refine (HAQ.out _ _ _ _ HO.out HB1.out.1 HB1.out.2.1 HB1.out.2.2).mono ?_); rintro _ w5 ⟨rfl, ho, hb⟩; have H5 := Lib.hid ho; have B5 := Lib.hid (HB.out.trans hb); clear ho hb)
      go_roundw
      case rel => exact ⟨j + 1, c - 1, by go_num, by omega, by omega, H5, B5⟩
      case measure => simp [intOf]; omega
    have hltI : ¬ ((j + 1 : Nat) : Int) < (k : Int) := by omega
    have hc : c = 1 := by omega
    subst hc
    have hj5 : j < 5 := by omega
    subst hjc
    clear hk1 hk5 H4 B4 hlt hc1 hw1
    go_wp2_with (first
      | (go_at_call 22; (with_reducible refine (HSY.out _ _ _ HO.out hj5).mono ?_); rintro _ w5 ⟨rfl, ho, hb⟩; have H5 := Lib.hid ho; have B5 := Lib.hid (HB.out.trans hb); clear ho hb)
      | (go_at_call 18; (with_reducible refine (HDN.out _ _ _ H5.out).mono ?_); rintro _ w6 ⟨rfl, hb⟩; have H6 := Lib.hid (H5.out.below hb); have B6 := Lib.hid (B5.out.trans (below_base hb H5.out.base)); clear hb)
      | (go_at_call 16; (with_reducible refine (HSF.out _ _ _ H6.out).mono ?_); rintro _ w7 ⟨rfl, hb⟩; have H7 := Lib.hid (H6.out.below hb); have B7 := Lib.hid (B6.out.trans (below_base hb H6.out.base)); clear hb))
    clear H5 H6 B5 B6 HO HB
    go_loopw [9] (fun i wr => ∃ K : Nat, i = .int .i64 (K : Int) ∧ K ≤ N ∧ Hid (Own w.heap.size wr d (dn j)) ∧ Hid (Below w.heap.size w wr)) (fun i _ => N - (intOf i).toNat)
    case atStart => exact ⟨0, rfl, Nat.zero_le _, H7, B7⟩
    case round =>
      obtain ⟨K, rfl, hK, HO, HBK⟩ := hrel
      have hk0 : 0 ≤ (K : Int) := by omega
      by_cases hlt : K < N
      rotate_left 1
      · have hltI : ¬ (K : Int) < (N : Int) := by omega
        go_wp2_with (first
          | (go_at_call 14; (with_reducible refine (HRD.out _ _ _ HO.out).mono ?_); rintro _ wa ⟨rfl, hb⟩; have Ha := Lib.hid (HO.out.below hb); have Ba := Lib.hid (HBK.out.trans (below_base hb HO.out.base)); clear hb)
          | (go_at_call 12; (with_reducible refine (HCR.out _ _ _ Ha.out).mono ?_); rintro _ wb ⟨rfl, ho, hb⟩; have Hb := Lib.hid ho; have Bb := Lib.hid (Ba.out.trans hb); clear ho hb)
          | (go_at_call 18; (with_reducible refine (HD2.out _ _ Hb.out).mono ?_); rintro _ wc ⟨rfl, hb⟩; have Hc := Lib.hid (Hb.out.below hb); have Bc := Lib.hid (Bb.out.trans (below_base hb Hb.out.base)); clear hb)
          | (go_at_call 17; (with_reducible refine (HU2.out _ _ Hc.out).mono ?_); rintro _ we ⟨rfl, hb⟩; have Be := Lib.hid (Bc.out.trans (below_base hb Hc.out.base)); clear hb))
        go_ret
        exact ⟨rfl, Be.out⟩
      have hltI2 : (K : Int) < (N : Int) := by omega
      by_cases h20 : K < 20
      rotate_left 1
      · have h2I : ¬ (K : Int) < 20 := by omega
        go_wp2_with (first
          | (go_at_call 14; (with_reducible refine (HRD.out _ _ _ HO.out).mono ?_); rintro _ wa ⟨rfl, hb⟩; have Ha := Lib.hid (HO.out.below hb); have Ba := Lib.hid (HBK.out.trans (below_base hb HO.out.base)); clear hb)
          | (go_at_call 12; (with_reducible refine (HCR.out _ _ _ Ha.out).mono ?_); rintro _ wb ⟨rfl, ho, hb⟩; have Hb := Lib.hid ho; have Bb := Lib.hid (Ba.out.trans hb); clear ho hb)
          | (go_at_call 18; (with_reducible refine (HD2.out _ _ Hb.out).mono ?_); rintro _ wc ⟨rfl, hb⟩; have Hc := Lib.hid (Hb.out.below hb); have Bc := Lib.hid (Bb.out.trans (below_base hb Hb.out.base)); clear hb)
          | (go_at_call 17; (with_reducible refine (HU2.out _ _ Hc.out).mono ?_); rintro _ we ⟨rfl, hb⟩; have Be := Lib.hid (Bc.out.trans (below_base hb Hc.out.base)); clear hb))
        go_ret
        exact ⟨rfl, Be.out⟩
      have h2I : (K : Int) < 20 := by omega
      have hw1 : IntKind.i64.wrap ((K : Int) + 1) = (K : Int) + 1 := IntWalk.i64_in _ (by omega)
      obtain ⟨y, hy⟩ : ∃ y, l[K]? = some y := ⟨_, List.getElem?_eq_getElem (by rw [HN.out]; exact hlt)⟩
      obtain ⟨a', cap', he, hc⟩ := HL.out.below HBK.out
      obtain ⟨b, off, cs, rfl, -, hact, hcs⟩ := hc K y hy
      rw [HN.out] at he
      cases he
      obtain ⟨kv, rfl, hkv, hwf⟩ := hact
      have m0 := hcs 0 _ rfl
      have m1 := hcs 1 _ rfl
      have m2 := hcs 2 _ rfl
      have m3 := hcs 3 _ rfl
      have m4 := hcs 4 _ rfl
      have m5 := hcs 5 _ rfl
      rw [Nat.add_zero] at m0
      have HKV := Lib.hid hkv
      have HWF := Lib.hid hwf
      obtain ⟨ka, kc, rfl, -⟩ := hkv
      clear hy hc hcs hwf hltI
      obtain ⟨g0, hg0⟩ : ∃ g, wr.heap.size = g := ⟨_, rfl⟩
      obtain ⟨X, hX⟩ : ∃ X, wr.alloc (.cells #[.int .i64 y.kind, .string (str y.name), .string (str y.s), .string (str y.tox), .int .i64 y.n, .slice ka y.keep.length kc] 52) = X := ⟨_, rfl⟩
      have HBX := Lib.hid (show Below wr.heap.size wr X from by rw [← hX]; exact below_alloc _ _)
      have HX := Lib.hid (HO.out.below HBX.out)
      have HBB := Lib.hid (show w.heap.size ≤ wr.heap.size from HO.out.base)
      have e0 : X.cell? ⟨g0, 0, none⟩ = some (Value.int .i64 y.kind) := by rw [← hX, ← hg0]; exact alloc_cell wr [_, _, _, _, _, _] _ 0 _ rfl
      have e1 : X.cell? ⟨g0, 1, none⟩ = some (Value.string (str y.name)) := by rw [← hX, ← hg0]; exact alloc_cell wr [_, _, _, _, _, _] _ 1 _ rfl
      have e2 : X.cell? ⟨g0, 2, none⟩ = some (Value.string (str y.s)) := by rw [← hX, ← hg0]; exact alloc_cell wr [_, _, _, _, _, _] _ 2 _ rfl
      have e3 : X.cell? ⟨g0, 3, none⟩ = some (Value.string (str y.tox)) := by rw [← hX, ← hg0]; exact alloc_cell wr [_, _, _, _, _, _] _ 3 _ rfl
      have e4 : X.cell? ⟨g0, 4, none⟩ = some (Value.int .i64 y.n) := by rw [← hX, ← hg0]; exact alloc_cell wr [_, _, _, _, _, _] _ 4 _ rfl
      have e5 : X.cell? ⟨g0, 5, none⟩ = some (Value.slice ka y.keep.length kc) := by rw [← hX, ← hg0]; exact alloc_cell wr [_, _, _, _, _, _] _ 5 _ rfl
      have hgl : g0 < X.heap.size := World.block_lt_of_cell? _ _ e0
      have HALL := Lib.hid (show ∀ W, Below X.heap.size X W → W.cell? ⟨g0, 0, none⟩ = some (Value.int .i64 y.kind) ∧ W.cell? ⟨g0, 1, none⟩ = some (Value.string (str y.name)) ∧ W.cell? ⟨g0, 2, none⟩ = some (Value.string (str y.s)) ∧ W.cell? ⟨g0, 3, none⟩ = some (Value.string (str y.tox)) ∧ W.cell? ⟨g0, 4, none⟩ = some (Value.int .i64 y.n) ∧ W.cell? ⟨g0, 5, none⟩ = some (Value.slice ka y.keep.length kc) from fun W hb => ⟨cell_same (hb.block _ hgl) e0, cell_same (hb.block _ hgl) e1, cell_same (hb.block _ hgl) e2, cell_same (hb.block _ hgl) e3, cell_same (hb.block _ hgl) e4, cell_same (hb.block _ hgl) e5⟩)
      have HXB := Lib.hid (show Below w.heap.size wr X from below_base HBX.out HBB.out)
      have HBXW := Lib.hid (HBK.out.trans HXB.out)
      have HKX := Lib.hid (HKV.out.below HXB.out)
      by_cases k7 : 7 < y.kind
      · go_wp2_with fail
        (try rw [hX])
        go_roundw
        case rel => exact ⟨K + 1, by go_num, by omega, by first | exact HX | exact hX ▸ HX, by first | exact HBXW | exact hX ▸ HBXW⟩
        case measure => simp [intOf]; omega
      by_cases k0 : y.kind < 0
      · go_wp2_with fail
        (try rw [hX])
        go_roundw
        case rel => exact ⟨K + 1, by go_num, by omega, by first | exact HX | exact hX ▸ HX, by first | exact HBXW | exact hX ▸ HBXW⟩
        case measure => simp [intOf]; omega
      have HDB := Lib.hid (show doB (dn j) ⟨0, [], 0, true⟩ y = true ∧ stepD (dn j) y = (dn j, 11) from by
        have h1 := step_down (D := dn j) (a := y) rfl (by omega)
        have h2 := step_down (D := ⟨0, [], 0, true⟩) (a := y) rfl (by omega)
        refine ⟨?_, h1⟩
        unfold doB
        rw [h1, h2]
        simp)
      go_wp2_with (first
        | (go_at_call 23; (try rw [hX]); (with_reducible refine (HR0.out _).mono ?_); rintro _ wc ⟨rfl, hr, hb⟩; have HT := Lib.hid (own_two HX.out hr hb).fell; have HBS := Lib.hid (below_store (x := X.heap.size) (i := 3) (v := .bool true) hb (Nat.le_refl _)); obtain ⟨f0, f1, f2, f3, f4, f5⟩ := HALL.out _ hb; obtain ⟨vx, h1x, -⟩ := hr.cell; have hx3 := (row_at h1x 3 _ rfl).1; have hx4 := (row_at h1x 3 _ rfl).2; clear h1x; have n1 : ¬ X.heap.size = g0 := (by omega); have n2 : ¬ g0 = X.heap.size := (by omega); clear hr hb e0 e1 e2 e3 e4 e5)
        | (go_at_call 24; (with_reducible refine (do_any w.heap.size _ d _ _ _ y _ HT.out (HKX.out.below (below_base HBS.out (Nat.le_trans HBB.out HBX.out.size))) HWF.out).mono ?_); rintro _ wd ⟨rfl, ht, hb⟩; have HXd := Lib.hid (show Own w.heap.size wd d (dn j) from by have := ht.own; rw [HDB.out.2] at this; exact this); have HBd := Lib.hid hb; rw [HDB.out.1]; clear ht hb)
        | (go_at_call 17; (with_reducible refine (HUS.out _ _ _ HXd.out).mono ?_); rintro _ we ⟨rfl, hb⟩; have HXe := Lib.hid (HXd.out.below hb); have HBe := Lib.hid (below_base hb HXd.out.base); clear hb))
      go_roundw
      case rel => exact ⟨K + 1, by go_num, by omega, HXe, Lib.hid (HBXW.out.trans ((below_base HBS.out (Nat.le_trans HBB.out HBX.out.size)).trans (HBd.out.trans HBe.out)))⟩
      case measure => simp [intOf]; omega

theorem lifted (os : Os) (started : os.Started) (H : Type) (enc : TypeId × Value → H) :
    ReturnsInHanded {} Try.checked os 5 .any (Rows.diskArmedSpec.pre6 enc Try.prog Try.f5 Rows.diskArmedRow.domain false) (Rows.diskArmedSpec.post enc Try.prog Try.f5 false true false false) := by
  refine returnsInHanded_of_change_sized (C := Try.checked) own started (by kernel_rfl) Try.func5
    (ChangeSpec.witness6 (enc := enc) (C := Try.checked) false ⟨#[], #[.int .u8 0, .slice none 0 0], []⟩ 8 (by kernel_rfl) (by kernel_rfl) (by kernel_rfl) (by kernel_rfl)) ?_
  intro W base args ds gs before hval0 hW hcnd hsz0 _
  have hsz : (DataW.weightsEach Try.prog (Try.f5.params.toList ++ Rows.diskArmedSpec.plain.varTypes Try.prog) (ds ++ gs)).all (· ≤ reachBytes) = true := hsz0
  clear hsz0
  have hval : ∀ (j : Nat) t v, Try.f5.params[j]? = some t → args[j]? = some v → Value.okWide Try.prog W .any base t v := hval0
  have hW' := hW
  obtain ⟨p, q, hA0, hV, rfl, hfz, hnd⟩ := hW
  have hA : DataW.TrodAll enc Try.prog W 0 (fun _ => true) true Try.f5.params.toList args.toList ds p := hA0
  rw [Try.params5] at hA hval hsz
  obtain ⟨v0, vs0, d0, ds0, p0, q0, hargs, rfl, rfl, h0, r0⟩ := trodAll_cons hA
  obtain ⟨v1, vs1, d1, ds1, p1, q1, rfl, rfl, rfl, h1, r1⟩ := trodAll_cons r0
  obtain ⟨rfl, rfl, rfl⟩ := trodAll_nil r1
  obtain rfl : args = #[v0, v1] := by cases args; simp_all
  obtain ⟨z0, rfl, rfl, rfl, wz0⟩ := open_int Try.underlying5 (hval 0 5 v0 rfl rfl) h0
  have hi0 : 0 ≤ z0 ∧ z0 ≤ 255 := by
    have := wz0
    simp [Lit.wf, IntKind.min, IntKind.max, IntKind.signed, IntKind.bits] at this
    exact this
  have hb1 : Fits (P := Try.prog) 22 d1 := fun m hm => by
    have h := List.all_eq_true.1 hsz m (DataW.weights_mem_each (j := 1) (t := 22) rfl rfl m hm)
    simpa using h
  obtain ⟨as1, ns1, ks1, rfl⟩ := okWide_slice Try.underlying22 (hval 1 22 v1 rfl rfl)
  obtain ⟨fuel1, hf1⟩ := h1
  obtain ⟨l1, hu1⟩ := acts_el (c := .slice as1 ns1 ks1) (z := (d1, p1)) (by simpa [Value.cells] using hf1) hb1
  have hw := walk z0 l1 _ W hu1 hi0
  refine hw.mono fun e W' ⟨he, hb⟩ => ?_
  subst he
  exact ⟨_, rfl, post_law hW' hb laidOut rfl rfl rfl Try.underlying4 (by rw [Try.params5]; decide +kernel)⟩

theorem over : Rows.diskArmedRow.holds Try.pinned (OpenSpec.ofChange Rows.diskArmedSpec) :=
  OpenClaim.holds_of_wide 5 Try.f5 rfl rfl rfl rfl rfl rfl rfl ⟨rfl, rfl, rfl, rfl, rfl⟩ rfl rfl rfl rfl rfl (by kernel_rfl) Try.func5 (by kernel_rfl)
    (of_decide_eq_true (by kernel_rfl)) (by unfold Func.isWrapper; first | (rw [if_pos (by decide +kernel)]; kernel_rfl) | (rw [if_neg (by decide +kernel)]; exact ⟨rfl, rfl⟩))
    (fun os started H enc _ => lifted os started H enc)

theorem proved : Rows.DiskArmedSaid := over
#print axioms proved
end Go.Proofs.Ythdchidlfeighaa.diskArmed
