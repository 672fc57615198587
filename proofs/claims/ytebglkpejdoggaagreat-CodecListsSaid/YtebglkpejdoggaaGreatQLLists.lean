/-
  CodecLists: which lists of items, verdicts and patterns may be laid, and their bytes: the program answers as the document says. No condition.
-/
import Derived.Test.YtebglkpejdoggaaGreatRows
import Derived.Test.YtebglkpejdoggaaGreatP10Arg
import Derived.Test.YtebglkpejdoggaaGreatKLaw
import Derived.SizedLaws
import Derived.BigQuiet
import Derived.Deep.RegionHeld3
import Derived.Deep.DeepCutAuto
namespace Go.Proofs.YtebglkpejdoggaaGreat.codecLists
open Go.ChangeShapes Go.WideShapes Go.ChangeAt Go.RowKit Go.Proofs
open Go.ChangeMaps (open_string shut_string)
open Go.Proofs.YtebglkpejdoggaaGreat.C10 Go.Proofs.YtebglkpejdoggaaGreat.P8 Go.Proofs.YtebglkpejdoggaaGreat.K Go.Proofs.YtebglkpejdoggaaGreat.B
set_option linter.unusedVariables false
set_option maxRecDepth 100000

theorem own : ownKnob Tryz.prog.godebug = none := by kernel_rfl
theorem laidOut : laidOutB Tryz.prog = true := by kernel_rfl


set_option maxHeartbeats 16000000 in
theorem walk (L : Low) (F : Cod) (l : List It) (v : List Vd) (p : List (List UInt8)) (x y z : Value) (w : World) (hl : ItsIs w x l) (hwl : ItsWf l) (hv : VdsIs w y v) (hwv : VdsWf v) (hp : SlT w z p) (hwp : FlWf p) :
    Calls Tryz.prog 3 #[x, y, z] w fun e w' => e = .returned (.bool true) ∧ Below w.heap.size w w' := by
  have P1 := fun W (hb : Below w.heap.size w W) => F.putItems l x W (hl.below hb) hwl
  have P2 := fun W (hb : Below w.heap.size w W) => F.putVds v y W (hv.below hb) hwv
  have P3 := fun W (hb : Below w.heap.size w W) => F.putFilt p z W (hp.below hb) hwp
  have R1 := fun W (hb : Below w.heap.size w W) => items_any L l x W (hl.below hb) hwl
  have R2 := fun (h : l.length ≤ 1000) W (hb : Below w.heap.size w W) => layItems_any L l x W (hl.below hb) hwl h
  have R3 := fun W (hb : Below w.heap.size w W) => verdicts_any L v y W (hv.below hb) hwv
  have R4 := fun (h : v.length ≤ 1000) W (hb : Below w.heap.size w W) => layVds_any L v y W (hv.below hb) hwv h
  have R5 := fun W (hb : Below w.heap.size w W) => L.right p z W (hp.below hb) (fun a ha => by have := hwp.1 a ha; unfold TxWf at this; omega)
  have R6 := fun (h : p.length ≤ 40) W (hb : Below w.heap.size w W) => layFilt_any L p z W (hp.below hb) hwp h
  have A := fun (W : World) (_ : Below w.heap.size w W) => awake10_any F W
  have HI := Lib.hid (fun (h : itemsP l = true) => (show l.length ≤ 64 by unfold itemsP at h; rw [Bool.and_eq_true, decide_eq_true_eq] at h; exact h.2))
  obtain ⟨a1, c1, rfl, -⟩ := id hl.open
  obtain ⟨a2, c2, rfl, -⟩ := id hv.open
  obtain ⟨a3, c3, rfl, -⟩ := id hp.open
  have D1 := fun W => laid_any (itemsP l) (layItems l) W
  have D2 := fun W => laid_any (vdsP v) (layVds v) W
  have D3 := fun W => laid_any (filtP p) (layFilt p) W
  generalize itemsP l = b1 at *
  generalize layItems l = t1 at *
  generalize vdsP v = b2 at *
  generalize layVds v = t2 at *
  generalize filtP p = b3 at *
  generalize layFilt p = t3 at *
  obtain ⟨e1, he1⟩ : ∃ e, putE b1 = e := ⟨_, rfl⟩
  have HE := Lib.hid he1.symm
  rw [he1] at P1 D1
  generalize putS b1 t1 = s1 at *
  generalize putS b2 t2 = s2 at *
  generalize putS b3 t3 = s3 at *
  generalize putE b2 = e2 at *
  generalize putE b3 = e3 at *
  obtain ⟨N1, hN1⟩ : ∃ N, l.length = N := ⟨_, rfl⟩
  obtain ⟨N2, hN2⟩ : ∃ N, v.length = N := ⟨_, rfl⟩
  obtain ⟨N3, hN3⟩ : ∃ N, p.length = N := ⟨_, rfl⟩
  rw [hN1] at P1 R1 R2 HI
  rw [hN2] at P2 R3 R4
  rw [hN3] at P3 R5 R6
  rw [hN1, hN2, hN3]
  clear hl hv hp hwl hwv hwp hN1 hN2 hN3 he1
  have h1 := Below.refl w.heap.size w
  go_enter Tryz.func3, Tryz.ntmps3
  go_wp2_with fail
  refine (P1 _ h1).mono ?_
  rintro _ w2 ⟨rfl, hb2⟩
  have h2 := h1.trans (hb2.mono h1.size)
  clear hb2
  go_wp2_with fail
  refine (P2 _ h2).mono ?_
  rintro _ w3 ⟨rfl, hb3⟩
  have h3 := h2.trans (hb3.mono h2.size)
  clear hb3
  go_wp2_with fail
  refine (P3 _ h3).mono ?_
  rintro _ w4 ⟨rfl, hb4⟩
  have h4 := h3.trans (hb4.mono h3.size)
  clear hb4
  by_cases g1 : 80 < N1
  · have i1 : (80 : Int) < (N1 : Int) := by omega
    cases hb1 : b1 with
    | true =>
      rw [hb1] at HE
      have hz : ((putE true) == 2) = false := by decide
      have hz2 : putE true = 0 := rfl
      have i64 : (N1 : Int) ≤ 64 := by have := HI.out hb1; omega
      have d64 : decide ((N1 : Int) ≤ 64) = true := decide_eq_true i64
      have n64 : N1 ≤ 64 := by omega
      rw [HE.out, hz2]
      go_wp2_with fail
      refine (A _ h4).mono ?_
      rintro _ w5 ⟨rfl, hb5⟩
      have h5 := h4.trans (hb5.mono h4.size)
      go_wp2_with fail
      go_ret
      exact ⟨rfl, h5⟩
    | false =>
      rw [hb1] at HE
      have hz2 : putE false = 2 := rfl
      rw [HE.out, hz2]
      go_wp2_with fail
      refine (A _ h4).mono ?_
      rintro _ w5 ⟨rfl, hb5⟩
      have h5 := h4.trans (hb5.mono h4.size)
      go_wp2_with fail
      go_ret
      exact ⟨rfl, h5⟩
  · have i1 : ¬ (80 : Int) < (N1 : Int) := by omega
    by_cases g2 : 80 < N2
    · have i2 : (80 : Int) < (N2 : Int) := by omega
      cases hb1 : b1 with
      | true =>
        rw [hb1] at HE
        have hz : ((putE true) == 2) = false := by decide
        have hz2 : putE true = 0 := rfl
        have i64 : (N1 : Int) ≤ 64 := by have := HI.out hb1; omega
        have d64 : decide ((N1 : Int) ≤ 64) = true := decide_eq_true i64
        have n64 : N1 ≤ 64 := by omega
        rw [HE.out, hz2]
        go_wp2_with fail
        refine (A _ h4).mono ?_
        rintro _ w5 ⟨rfl, hb5⟩
        have h5 := h4.trans (hb5.mono h4.size)
        go_wp2_with fail
        go_ret
        exact ⟨rfl, h5⟩
      | false =>
        rw [hb1] at HE
        have hz2 : putE false = 2 := rfl
        rw [HE.out, hz2]
        go_wp2_with fail
        refine (A _ h4).mono ?_
        rintro _ w5 ⟨rfl, hb5⟩
        have h5 := h4.trans (hb5.mono h4.size)
        go_wp2_with fail
        go_ret
        exact ⟨rfl, h5⟩
    · have i2 : ¬ (80 : Int) < (N2 : Int) := by omega
      by_cases g3 : 20 < N3
      · have i3 : (20 : Int) < (N3 : Int) := by omega
        cases hb1 : b1 with
        | true =>
          rw [hb1] at HE
          have hz : ((putE true) == 2) = false := by decide
          have hz2 : putE true = 0 := rfl
          have i64 : (N1 : Int) ≤ 64 := by have := HI.out hb1; omega
          have d64 : decide ((N1 : Int) ≤ 64) = true := decide_eq_true i64
          have n64 : N1 ≤ 64 := by omega
          rw [HE.out, hz2]
          go_wp2_with fail
          refine (A _ h4).mono ?_
          rintro _ w5 ⟨rfl, hb5⟩
          have h5 := h4.trans (hb5.mono h4.size)
          go_wp2_with fail
          go_ret
          exact ⟨rfl, h5⟩
        | false =>
          rw [hb1] at HE
          have hz2 : putE false = 2 := rfl
          rw [HE.out, hz2]
          go_wp2_with fail
          refine (A _ h4).mono ?_
          rintro _ w5 ⟨rfl, hb5⟩
          have h5 := h4.trans (hb5.mono h4.size)
          go_wp2_with fail
          go_ret
          exact ⟨rfl, h5⟩
      · have i3 : ¬ (20 : Int) < (N3 : Int) := by omega
        have R2' := R2 (by omega)
        have R4' := R4 (by omega)
        have R6' := R6 (by omega)
        clear R2 R4 R6 HI HE
        go_wp2_with fail
        refine (A _ h4).mono ?_
        rintro _ w5 ⟨rfl, hb5⟩
        have h5 := h4.trans (hb5.mono h4.size)
        clear hb5
        go_wp2_with fail
        refine (R1 _ h5).mono ?_
        rintro _ w6 ⟨rfl, hb6⟩
        have h6 := h5.trans (hb6.mono h5.size)
        clear hb6
        go_wp2_with fail
        refine (R2' _ h6).mono ?_
        rintro _ w7 ⟨rfl, hb7⟩
        have h7 := h6.trans (hb7.mono h6.size)
        clear hb7
        go_wp2_with fail
        refine (D1 _).mono ?_
        rintro _ w8 ⟨rfl, rfl⟩
        go_wp2_with fail
        refine (R3 _ h7).mono ?_
        rintro _ w8 ⟨rfl, hb8⟩
        have h8 := h7.trans (hb8.mono h7.size)
        clear hb8
        go_wp2_with fail
        refine (R4' _ h8).mono ?_
        rintro _ w9 ⟨rfl, hb9⟩
        have h9 := h8.trans (hb9.mono h8.size)
        clear hb9
        go_wp2_with fail
        refine (D2 _).mono ?_
        rintro _ w10 ⟨rfl, rfl⟩
        go_wp2_with fail
        refine (R5 _ h9).mono ?_
        rintro _ w10 ⟨rfl, hb10⟩
        have h10 := h9.trans (hb10.mono h9.size)
        clear hb10
        go_wp2_with fail
        refine (R6' _ h10).mono ?_
        rintro _ w11 ⟨rfl, hb11⟩
        have h11 := h10.trans (hb11.mono h10.size)
        clear hb11
        go_wp2_with fail
        refine (D3 _).mono ?_
        rintro _ w12 ⟨rfl, rfl⟩
        go_wp2_with fail
        go_ret
        exact ⟨rfl, h11⟩

theorem lifted (os : Os) (started : os.Started) (H : Type) (enc : TypeId × Value → H) :
    ReturnsInHanded {} Tryz.checked os 3 .any (Rows.codecListsSpec.pre6 enc Tryz.prog Tryz.f3 Rows.codecListsRow.domain false) (Rows.codecListsSpec.post enc Tryz.prog Tryz.f3 false true false false) := by
  refine returnsInHanded_of_change_sized (C := Tryz.checked) own started (by kernel_rfl) Tryz.func3
    (ChangeSpec.witness6 (enc := enc) (C := Tryz.checked) false ⟨#[], #[.slice none 0 0, .slice none 0 0, .slice none 0 0], []⟩ 8 (by kernel_rfl) (by kernel_rfl) (by kernel_rfl) (by kernel_rfl)) ?_
  intro W base args ds gs before hval0 hW hcnd hsz0 _
  have hsz : (DataW.weightsEach Tryz.prog (Tryz.f3.params.toList ++ Rows.codecListsSpec.plain.varTypes Tryz.prog) (ds ++ gs)).all (· ≤ reachBytes) = true := hsz0
  clear hsz0
  have hval : ∀ (j : Nat) t v, Tryz.f3.params[j]? = some t → args[j]? = some v → Value.okWide Tryz.prog W .any base t v := hval0
  have hW' := hW
  obtain ⟨p, q, hA0, hV, rfl, hfz, hnd⟩ := hW
  have hA : DataW.TrodAll enc Tryz.prog W 0 (fun _ => true) true Tryz.f3.params.toList args.toList ds p := hA0
  rw [Tryz.params3] at hA hval hsz
  obtain ⟨v0, vs0, d0, ds0, p0, q0, hargs, rfl, rfl, h0, r0⟩ := trodAll_cons hA
  obtain ⟨v1, vs1, d1, ds1, p1, q1, rfl, rfl, rfl, h1, r1⟩ := trodAll_cons r0
  obtain ⟨v2, vs2, d2, ds2, p2, q2, rfl, rfl, rfl, h2, r2⟩ := trodAll_cons r1
  obtain ⟨rfl, rfl, rfl⟩ := trodAll_nil r2
  obtain rfl : args = #[v0, v1, v2] := by cases args; simp_all
  have hb0 : Fits (P := Tryz.prog) 22 d0 := fun m hm => by
    have h := List.all_eq_true.1 hsz m (DataW.weights_mem_each (j := 0) (t := 22) rfl rfl m hm)
    simpa using h
  obtain ⟨as0, ns0, ks0, rfl⟩ := okWide_slice Tryz.underlying22 (hval 0 22 v0 rfl rfl)
  obtain ⟨fuel0, hf0⟩ := h0
  obtain ⟨l0, hu0, hw0⟩ := its_el (c := .slice as0 ns0 ks0) (z := (d0, p0)) (by simpa [Value.cells] using hf0) hb0
  have hb1 : Fits (P := Tryz.prog) 23 d1 := fun m hm => by
    have h := List.all_eq_true.1 hsz m (DataW.weights_mem_each (j := 1) (t := 23) rfl rfl m hm)
    simpa using h
  obtain ⟨as1, ns1, ks1, rfl⟩ := okWide_slice Tryz.underlying23 (hval 1 23 v1 rfl rfl)
  obtain ⟨fuel1, hf1⟩ := h1
  obtain ⟨l1, hu1, hw1⟩ := vds_el (c := .slice as1 ns1 ks1) (z := (d1, p1)) (by simpa [Value.cells] using hf1) hb1
  have hb2 : Fits (P := Tryz.prog) 24 d2 := fun m hm => by
    have h := List.all_eq_true.1 hsz m (DataW.weights_mem_each (j := 2) (t := 24) rfl rfl m hm)
    simpa using h
  obtain ⟨as2, ns2, ks2, rfl⟩ := okWide_slice Tryz.underlying24 (hval 2 24 v2 rfl rfl)
  obtain ⟨fuel2, hf2⟩ := h2
  obtain ⟨l2, hu2, hw2⟩ := fl_el (c := .slice as2 ns2 ks2) (z := (d2, p2)) (by simpa [Value.cells] using hf2) hb2
  have hw := walk low cod l0 l1 l2 _ _ _ W hu0 hw0 hu1 hw1 hu2 hw2
  refine hw.mono fun e W' ⟨he, hb⟩ => ?_
  subst he
  exact ⟨_, rfl, post_law hW' hb laidOut rfl rfl rfl Tryz.underlying4 (by rw [Tryz.params3]; decide +kernel)⟩

theorem over : Rows.codecListsRow.holds Tryz.pinned (OpenSpec.ofChange Rows.codecListsSpec) :=
  OpenClaim.holds_of_wide 3 Tryz.f3 rfl rfl rfl rfl rfl rfl rfl ⟨rfl, rfl, rfl, rfl, rfl⟩ rfl rfl rfl rfl rfl (by kernel_rfl) Tryz.func3 (by kernel_rfl)
    (of_decide_eq_true (by kernel_rfl)) (by unfold Func.isWrapper; first | (rw [if_pos (by decide +kernel)]; kernel_rfl) | (rw [if_neg (by decide +kernel)]; exact ⟨rfl, rfl⟩))
    (fun os started H enc _ => lifted os started H enc)

theorem proved : Rows.CodecListsSaid := over
#print axioms proved
end Go.Proofs.YtebglkpejdoggaaGreat.codecLists
