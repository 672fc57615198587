/-
  The law DiskSafe: behind a crash each file has its safe bytes and is a beginning of what it was. For every input; no condition.
-/
import Derived.Test.YthdchidlfeighaaRows
import Derived.Test.YthdchidlfeighaaHP12Ld
import Derived.Test.YthdchidlfeighaaHP12Arg
import Derived.Test.YthdchidlfeighaaHKLaw
import Derived.SizedLaws
import Derived.Test.YthdchidlfeighaaHP12As
import Derived.BigQuiet
namespace Go.Proofs.Ythdchidlfeighaa.diskSafe
open Go Go.ChangeShapes Go.WideShapes Go.ChangeAt Go.RowKit Go.Proofs
open Go.ChangeMaps (open_string shut_string)
open Go.Proofs.Ythdchidlfeighaa.C10 (Fits)
open Go.Proofs.Ythdchidlfeighaa.C12 Go.Proofs.Ythdchidlfeighaa.P8 Go.Proofs.Ythdchidlfeighaa.K Go.Proofs.Ythdchidlfeighaa.B
set_option linter.unusedVariables false
set_option maxRecDepth 100000

theorem own : ownKnob Try.prog.godebug = none := by kernel_rfl
theorem laidOut : laidOutB Try.prog = true := by kernel_rfl

theorem t_crash {B : Nat} {w : World} {d x : Nat} {D E : Dst} (h : Two B w d x D E) (keep : List Int) (kv : Value) (hk : Kp0 w B kv keep) (hki : ∀ n ∈ keep, -9223372036854775808 ≤ n ∧ n ≤ 9223372036854775807) : Calls Try.prog 12 #[.pointer (some ⟨d, 0, none⟩), kv] w fun e w' => e = .returned (.int .i64 0) ∧ Two B w' d x (crashD D keep) E ∧ Below B w w' ∧ ∀ i v, w.cell? ⟨x, i, none⟩ = some v → w'.cell? ⟨x, i, none⟩ = some v := by
  obtain ⟨F, G, h⟩ := h
  refine (pcrash_any h.prog keep kv (hk.kp h.newF) hki).mono ?_
  rintro e w' ⟨he, F', hp', hch⟩
  obtain ⟨h1, h2⟩ := chg_base hch h.newF h.base
  refine ⟨he, ⟨F', G, hp', two_ref h (Below.refl _ _) hch, fun i hi hg => ?_, h2, h.newG, Nat.le_trans h.base hch.turn.size⟩, h1, fun i v hc => box_keep2 hch (fun e => h.apart _ e h.ref.own) hc⟩
  rcases hch.new i hi with h3 | h3
  · exact h.apart i h3 hg
  · have := h.ref.lt i hg; omega
set_option maxHeartbeats 16000000 in
theorem walk (l : List ActL) (l1 l2 : List Int) (lv kv1 kv2 : Value) (w : World) (hl : ActsIs w w.heap.size lv l) (hk1 : Kp0 w w.heap.size kv1 l1) (hk2 : Kp0 w w.heap.size kv2 l2) (hw1 : ∀ n ∈ l1, -9223372036854775808 ≤ n ∧ n ≤ 9223372036854775807) (hw2 : ∀ n ∈ l2, -9223372036854775808 ≤ n ∧ n ≤ 9223372036854775807) :
    Calls Try.prog 4 #[lv, kv1, kv2] w fun e w' => e = .returned (.bool true) ∧ Below w.heap.size w w' := by
  have HA := Lib.hid (fun W => awake_any W)
  have HM := Lib.hid (made_good 1048576 l lv w hl (by decide))
  generalize runD ⟨1048576, [], 0, false⟩ (l.take 200) = R at HM
  have HK1 := Lib.hid hk1
  have HK2 := Lib.hid hk2
  have HW1 := Lib.hid hw1
  have HW2 := Lib.hid hw2
  obtain ⟨la, lc, rfl, -⟩ := hl
  obtain ⟨ka, kc, rfl, -⟩ := hk1
  obtain ⟨kb, kd, rfl, -⟩ := hk2
  clear hw1 hw2
  go_enter Try.func4, Try.ntmps4
  go_upto_region 4 with (first
    | (go_at_call 9; (with_reducible refine HM.out.mono ?_); rintro _ w1 ⟨d, x, rfl, ht, hb1⟩; have HT := Lib.hid ht; have HB1 := Lib.hid hb1; clear ht hb1)
    | (go_at_call 10; (with_reducible refine (HA.out _).mono ?_); rintro _ w2 ⟨rfl, hb2⟩; have HT2 := Lib.hid (HT.out.below hb2); have HB2 := Lib.hid (HB1.out.trans (below_base hb2 HT.out.base)); clear hb2))
  have HR := Lib.hid HT2.out.fine
  obtain ⟨-, xa, xc, c1, -⟩ := t_cells HT2.out
  obtain ⟨N, hN⟩ : ∃ N, R.files.length = N := ⟨_, rfl⟩
  rw [hN] at c1
  have hNc : N ≤ 128 := by rw [← hN]; exact HR.out.ok.count
  have HN := Lib.hid hN
  have HCR := Lib.hid (t_crash HT2.out l1 _ (HK1.out.below HB2.out) HW1.out)
  have HC1 := Lib.hid c1
  have hne : ((N : Int) != (N : Int)) = false := by simp
  obtain ⟨C, hC⟩ : ∃ C, crashD R l1 = C := ⟨_, rfl⟩
  rw [hC] at HCR
  have HC := Lib.hid hC
  have HLN := Lib.hid (show C.files.length = N from by rw [← hC, ← hN]; exact crash_len _ _)
  have HLS := Lib.hid (fun W (h : Own w.heap.size W d C) => o_list h)
  rw [HLN.out] at HLS
  clear hN hC
  go_wp2_with (first
    | (go_at_call 12; (with_reducible refine HCR.out.mono ?_); rintro _ w3 ⟨rfl, ht3, hb3, hx3⟩; have HT3 := Lib.hid ht3; have HB3 := Lib.hid (HB2.out.trans hb3); have HC3 := Lib.hid (hx3 1 _ HC1.out); clear ht3 hb3 hx3 c1)
    | (go_at_call 13; (with_reducible refine (HLS.out _ HT3.out.own).mono ?_); rintro _ w4 ⟨aa, ca, rfl, hb⟩; have HB4 := Lib.hid hb; clear hb))
  have HXC := Lib.hid (show ∀ (K : Nat) y, R.files[K]? = some y → ∃ fb off, xa = some ⟨fb, off, none⟩ ∧ w3.cell? ⟨fb, off + K * 3, none⟩ = some (.string (str y.name)) ∧ w3.cell? ⟨fb, off + K * 3 + 1, none⟩ = some (.string (str y.safe)) ∧ w3.cell? ⟨fb, off + K * 3 + 2, none⟩ = some (.string (str y.more)) from by
    obtain ⟨-, xa', xc', e1, e2⟩ := t_cells HT3.out
    rw [HC3.out] at e1
    obtain ⟨rfl, -, -⟩ : xa = xa' ∧ N = _ ∧ xc = xc' := by simpa using e1
    exact e2)
  clear HC1 HC3 HCR HLS HT HT2 HM
  go_loopw [12] (fun i wr => ∃ K : Nat, i = .int .i64 (K : Int) ∧ K ≤ N ∧ Hid (Below w3.heap.size w3 wr)) (fun i _ => N - (intOf i).toNat)
  case atStart => exact ⟨0, rfl, Nat.zero_le _, HB4⟩
  case round =>
    obtain ⟨K, rfl, hK, HB⟩ := hrel
    have hk0 : 0 ≤ (K : Int) := by omega
    have hw1 : IntKind.i64.wrap ((K : Int) + 1) = (K : Int) + 1 := IntWalk.i64_in _ (by omega)
    by_cases hlt : K < N
    · have hltI : (K : Int) < (N : Int) := by omega
      obtain ⟨y, hy⟩ : ∃ y, R.files[K]? = some y := ⟨_, List.getElem?_eq_getElem (by rw [HN.out]; exact hlt)⟩
      obtain ⟨fb, off, rfl, m0, m1, m2⟩ := HXC.out K y hy
      have hyf := List.mem_of_getElem? hy
      have hye := HR.out.ok.each y hyf
      have hyl : y.name.length ≤ maxLen := by unfold maxLen; omega
      obtain ⟨k, hrd, hsf⟩ := crash_tells HR.out.rise l1 hy
      rw [HC.out] at hrd hsf
      have hl1 : (y.more.take k).length ≤ y.more.length := by rw [List.length_take]; omega
      have hsum := add_str12 y.safe y.more (by omega)
      obtain ⟨T, hT⟩ : ∃ T, y.safe ++ y.more.take k = T := ⟨_, rfl⟩
      obtain ⟨Q, hQ⟩ : ∃ Q, y.safe ++ y.more = Q := ⟨_, rfl⟩
      rw [hT] at hrd hsf
      rw [hQ] at hsum
      have p2 : T <+: Q := by rw [← hT, ← hQ]; exact (List.prefix_append_right_inj _).2 (List.take_prefix _ _)
      have B1 := Lib.hid (show y.safe = T.take y.safe.length ∧ y.safe.length ≤ T.length ∧ T.length ≤ 140737488355328 from ⟨by rw [← hT]; simp, by rw [← hT]; simp, by rw [← hT, List.length_append]; omega⟩)
      have B2 := Lib.hid (show T = Q.take T.length ∧ T.length ≤ Q.length ∧ Q.length ≤ 140737488355328 from ⟨List.prefix_iff_eq_take.1 p2, p2.length_le, by rw [← hQ, List.length_append]; omega⟩)
      obtain ⟨Z, hZ⟩ : ∃ Z, T.length = Z := ⟨_, rfl⟩
      rw [hZ] at hsf
      have hzs : (str T).size = Z := by rw [str_size, hZ]
      have hzz : ((Z : Int) != (Z : Int)) = false := by simp
      have HRD := Lib.hid (fun W (hb : Below w3.heap.size w3 W) => by
        have := o_read (HT3.out.own.below hb) y.name hyl
        rw [hrd] at this
        exact this)
      dsimp only at HRD
      have HSF := Lib.hid (fun W (hb : Below w3.heap.size w3 W) => by
        have := o_safe (HT3.out.own.below hb) y.name hyl
        rw [hsf] at this
        exact this)
      have n0 := kept_cell HB.out m0
      have HMM := Lib.hid (show w3.cell? ⟨fb, off + K * 3, none⟩ = some (.string (str y.name)) ∧ w3.cell? ⟨fb, off + K * 3 + 1, none⟩ = some (.string (str y.safe)) ∧ w3.cell? ⟨fb, off + K * 3 + 2, none⟩ = some (.string (str y.more)) from ⟨m0, m1, m2⟩)
      clear hy hyf hye hyl hrd hsf hl1 hT hQ p2 hZ m0 m1 m2
      go_upto_region 13 with (go_at_call 14; (with_reducible refine (HRD.out _ HB.out).mono ?_); rintro _ w7 ⟨rfl, hb7⟩; have HB7 := Lib.hid (HB.out.trans (hb7.mono HB.out.size)); clear hb7 n0)
      have QG1 := wdq_call (S := fun W => Below w3.heap.size w3 W) (f := 15) (args := #[.string (str y.safe), .string (str T)]) (v := .bool true) (fun W hS => (begins_any y.safe T W B1.out.1 B1.out.2.1 B1.out.2.2).mono fun e w2 hh => ⟨hh.1, hS.trans (hh.2.mono hS.size)⟩)
      have QG2 := wdq_call (S := fun W => Below w3.heap.size w3 W) (f := 15) (args := #[.string (str T), .string (str Q)]) (v := .bool true) (fun W hS => (begins_any T Q W B2.out.1 B2.out.2.1 B2.out.2.2).mono fun e w2 hh => ⟨hh.1, hS.trans (hh.2.mono hS.size)⟩)
      have QG3 := wdq_call (S := fun W => Below w3.heap.size w3 W) (f := 16) (args := #[.pointer (some ⟨d, 0, none⟩), .string (str y.name)]) (v := .int .i64 (Z : Int)) (fun W hS => (HSF.out W hS).mono fun e w2 hh => ⟨hh.1, hS.trans (hh.2.mono hS.size)⟩)
      have hSq : Below w3.heap.size w3 w7.drew := HB7.out.trans ((Below.refl _ _).drew.mono HB7.out.size)
      have q0 := fun z : WdQ (fun W => Below w3.heap.size w3 W) => kept_cell z.ok HMM.out.1
      have q1 := fun z : WdQ (fun W => Below w3.heap.size w3 W) => kept_cell z.ok HMM.out.2.1
      have q2 := fun z : WdQ (fun W => Below w3.heap.size w3 W) => kept_cell z.ok HMM.out.2.2
      haveI hne : Nonempty (WdQ (fun W => Below w3.heap.size w3 W)) := ⟨⟨_, hSq⟩⟩
      try dsimp only at q0 q1 q2
      refine region_quiet_q (S := fun W => Below w3.heap.size w3 W) (by kernel_rfl) (by kernel_rfl) hSq ?_
      repeat (go_big_quiet_step (first | (with_reducible exact QG1 _) | (with_reducible exact QG2 _) | (with_reducible exact QG3 _)))
      refine wpQuiet_nil ?_
      intro _ hw'
      obtain ⟨z, rfl⟩ := hw'
      obtain ⟨X, hSX⟩ := z
      try dsimp only
      clear hne q0 q1 q2 hSq QG1 QG2 QG3
      have HBX := Lib.hid hSX
      clear hSX
      go_wp2_with fail
      go_roundw
      case rel => exact ⟨K + 1, by go_num, by omega, HBX⟩
      case measure => simp [intOf]; omega
    · have hltI : ¬ (K : Int) < (N : Int) := by omega
      obtain ⟨U, hU⟩ : ∃ U, usedF C.files = U := ⟨_, rfl⟩
      obtain ⟨C2, hC2⟩ : ∃ C2, crashD C l2 = C2 := ⟨_, rfl⟩
      have hfl : C2.files = C.files := by
        rw [← hC2]
        exact crash_idle _ _ fun f hf => crash_safe R.files l1 f (by rw [← HC.out] at hf; exact hf)
      have hdn : C2.down = false := by rw [← hC2]; rfl
      have HU := Lib.hid (fun W (h : Own w.heap.size W d C) => o_used h)
      have HCR2 := Lib.hid (fun W (h : Own w.heap.size W d C) (hbw : Below w.heap.size w W) => o_crash h l2 _ (HK2.out.below hbw) HW2.out)
      have HU2 := Lib.hid (fun W (h : Own w.heap.size W d C2) => o_used h)
      have HD2 := Lib.hid (fun W (h : Own w.heap.size W d C2) => o_down h)
      rw [hU] at HU
      rw [hC2] at HCR2
      rw [hfl, hU] at HU2
      rw [hdn] at HD2
      have heq : ((U : Int) == (U : Int)) = true := by simp
      have HO := Lib.hid (HT3.out.own.below HB.out)
      have HBW := Lib.hid (HB3.out.trans (below_base HB.out HT3.out.base))
      clear hU hC2 hfl hdn
      go_wp2_with (first
        | (go_at_call 17; (with_reducible refine (HU.out _ HO.out).mono ?_); rintro _ w5 ⟨rfl, hb⟩; have HO5 := Lib.hid (HO.out.below hb); have HB5 := Lib.hid (HBW.out.trans (below_base hb HO.out.base)); clear hb)
        | (go_at_call 12; (with_reducible refine (HCR2.out _ HO5.out HB5.out).mono ?_); rintro _ w6 ⟨rfl, ho, hb⟩; have HO6 := Lib.hid ho; have HB6 := Lib.hid (HB5.out.trans hb); clear ho hb)
        | (go_at_call 17; (with_reducible refine (HU2.out _ HO6.out).mono ?_); rintro _ w7 ⟨rfl, hb⟩; have HO7 := Lib.hid (HO6.out.below hb); have HB7 := Lib.hid (HB6.out.trans (below_base hb HO6.out.base)); clear hb)
        | (go_at_call 18; (with_reducible refine (HD2.out _ HO7.out).mono ?_); rintro _ w8 ⟨rfl, hb⟩; have HB8 := Lib.hid (HB7.out.trans (below_base hb HO7.out.base)); clear hb))
      go_ret
      exact ⟨by simp, HB8.out⟩

theorem lifted (os : Os) (started : os.Started) (H : Type) (enc : TypeId × Value → H) :
    ReturnsInHanded {} Try.checked os 4 .any (Rows.diskSafeSpec.pre6 enc Try.prog Try.f4 Rows.diskSafeRow.domain false) (Rows.diskSafeSpec.post enc Try.prog Try.f4 false true false false) := by
  refine returnsInHanded_of_change_sized (C := Try.checked) own started (by kernel_rfl) Try.func4
    (ChangeSpec.witness6 (enc := enc) (C := Try.checked) false ⟨#[], #[.slice none 0 0, .slice none 0 0, .slice none 0 0], []⟩ 8 (by kernel_rfl) (by kernel_rfl) (by kernel_rfl) (by kernel_rfl)) ?_
  intro W base args ds gs before hval0 hW hcnd hsz0 _
  have hsz : (DataW.weightsEach Try.prog (Try.f4.params.toList ++ Rows.diskSafeSpec.plain.varTypes Try.prog) (ds ++ gs)).all (· ≤ reachBytes) = true := hsz0
  clear hsz0
  have hval : ∀ (j : Nat) t v, Try.f4.params[j]? = some t → args[j]? = some v → Value.okWide Try.prog W .any base t v := hval0
  have hW' := hW
  obtain ⟨p, q, hA0, hV, rfl, hfz, hnd⟩ := hW
  have hA : DataW.TrodAll enc Try.prog W 0 (fun _ => true) true Try.f4.params.toList args.toList ds p := hA0
  rw [Try.params4] at hA hval hsz
  obtain ⟨v0, vs0, d0, ds0, p0, q0, hargs, rfl, rfl, h0, r0⟩ := trodAll_cons hA
  obtain ⟨v1, vs1, d1, ds1, p1, q1, rfl, rfl, rfl, h1, r1⟩ := trodAll_cons r0
  obtain ⟨v2, vs2, d2, ds2, p2, q2, rfl, rfl, rfl, h2, r2⟩ := trodAll_cons r1
  obtain ⟨rfl, rfl, rfl⟩ := trodAll_nil r2
  obtain rfl : args = #[v0, v1, v2] := by cases args; simp_all
  have hb0 : Fits (P := Try.prog) 22 d0 := fun m hm => by
    have h := List.all_eq_true.1 hsz m (DataW.weights_mem_each (j := 0) (t := 22) rfl rfl m hm)
    simpa using h
  obtain ⟨as0, ns0, ks0, rfl⟩ := okWide_slice Try.underlying22 (hval 0 22 v0 rfl rfl)
  obtain ⟨fuel0, hf0⟩ := h0
  obtain ⟨l0, hu0⟩ := acts_el (c := .slice as0 ns0 ks0) (z := (d0, p0)) (by simpa [Value.cells] using hf0) hb0
  have hb1 : Fits (P := Try.prog) 30 d1 := fun m hm => by
    have h := List.all_eq_true.1 hsz m (DataW.weights_mem_each (j := 1) (t := 30) rfl rfl m hm)
    simpa using h
  obtain ⟨as1, ns1, ks1, rfl⟩ := okWide_slice Try.underlying30 (hval 1 30 v1 rfl rfl)
  obtain ⟨fuel1, hf1⟩ := h1
  obtain ⟨l1, hu1, hw1⟩ := kp_el (c := .slice as1 ns1 ks1) (z := (d1, p1)) (by simpa [Value.cells] using hf1) hb1
  have hb2 : Fits (P := Try.prog) 30 d2 := fun m hm => by
    have h := List.all_eq_true.1 hsz m (DataW.weights_mem_each (j := 2) (t := 30) rfl rfl m hm)
    simpa using h
  obtain ⟨as2, ns2, ks2, rfl⟩ := okWide_slice Try.underlying30 (hval 2 30 v2 rfl rfl)
  obtain ⟨fuel2, hf2⟩ := h2
  obtain ⟨l2, hu2, hw2⟩ := kp_el (c := .slice as2 ns2 ks2) (z := (d2, p2)) (by simpa [Value.cells] using hf2) hb2
  have hw := walk l0 l1 l2 _ _ _ W hu0 hu1 hu2 hw1 hw2
  refine hw.mono fun e W' ⟨he, hb⟩ => ?_
  subst he
  exact ⟨_, rfl, post_law hW' hb laidOut rfl rfl rfl Try.underlying4 (by rw [Try.params4]; decide +kernel)⟩

theorem over : Rows.diskSafeRow.holds Try.pinned (OpenSpec.ofChange Rows.diskSafeSpec) :=
  OpenClaim.holds_of_wide 4 Try.f4 rfl rfl rfl rfl rfl rfl rfl ⟨rfl, rfl, rfl, rfl, rfl⟩ rfl rfl rfl rfl rfl (by kernel_rfl) Try.func4 (by kernel_rfl)
    (of_decide_eq_true (by kernel_rfl)) (by unfold Func.isWrapper; first | (rw [if_pos (by decide +kernel)]; kernel_rfl) | (rw [if_neg (by decide +kernel)]; exact ⟨rfl, rfl⟩))
    (fun os started H enc _ => lifted os started H enc)

theorem proved : Rows.DiskSafeSaid := over
#print axioms proved
end Go.Proofs.Ythdchidlfeighaa.diskSafe
