/-
  CodecOnce: what is read is laid as the very bytes. No condition.
-/
import Derived.Test.YtebglkpejdoggaaGreatRows
import Derived.Test.YtebglkpejdoggaaGreatP10Arg
import Derived.Test.YtebglkpejdoggaaGreatKLaw
import Derived.SizedLaws
import Derived.BigQuiet
import Derived.Deep.RegionHeld3
import Derived.Deep.DeepCutAuto
namespace Go.Proofs.YtebglkpejdoggaaGreat.codecOnce
open Go.ChangeShapes Go.WideShapes Go.ChangeAt Go.RowKit Go.Proofs
open Go.ChangeMaps (open_string shut_string)
open Go.Proofs.YtebglkpejdoggaaGreat.C10 Go.Proofs.YtebglkpejdoggaaGreat.P8 Go.Proofs.YtebglkpejdoggaaGreat.K Go.Proofs.YtebglkpejdoggaaGreat.B
set_option linter.unusedVariables false
set_option maxRecDepth 100000

theorem own : ownKnob Tryz.prog.godebug = none := by kernel_rfl
theorem laidOut : laidOutB Tryz.prog = true := by kernel_rfl

theorem head_wf {c q : Int} {s : List UInt8} (h : headP c q s = true) : I64 c ∧ I64 q ∧ TxWf s := by
  obtain ⟨a, b, d⟩ := head_facts h
  exact ⟨a, b, by unfold TxWf; omega⟩
theorem vals_wf {l : List Int} {m : Nat} (hm : m ≤ 1000) (h : valsP l m = true) : NsWf l := by
  obtain ⟨a, b⟩ := vals_facts h
  exact ⟨a, by omega⟩
theorem cmd_wf {c : Cm} (h : cmdP c = true) : CmWf c := by
  unfold cmdP at h
  simp only [Bool.and_eq_true, inn_iff] at h
  obtain ⟨a, b, d⟩ := head_wf h.1
  exact ⟨a, b, d, ⟨by omega, by omega⟩, vals_wf (by omega) h.2.2.1, ⟨by omega, by omega⟩⟩
theorem ev_wf {e : Ev} (h : evP e = true) : EvWf e := by
  unfold evP at h
  simp only [Bool.and_eq_true, inn_iff] at h
  exact ⟨⟨by omega, by omega⟩, vals_wf (by omega) h.2⟩
theorem evs_wf {l : List Ev} (h : evsP l = true) : EvsWf l := by
  obtain ⟨a, b⟩ := evs_facts h
  exact ⟨fun x hx => ev_wf (a x hx), by omega⟩
theorem rec_wf {c : Rc} (h : recP c = true) : RcWf c := by
  unfold recP at h
  simp only [Bool.and_eq_true, inn_iff] at h
  obtain ⟨a, b, d⟩ := head_wf h.1
  exact ⟨a, b, d, ⟨by omega, by omega⟩, evs_wf h.2.2.1⟩
theorem its_wf {l : List It} (h : itemsP l = true) : ItsWf l := by
  unfold itemsP at h
  rw [Bool.and_eq_true, decide_eq_true_eq] at h
  refine ⟨fun x hx => ?_, by omega⟩
  obtain ⟨a, b⟩ := itemsGo_facts l l 0 h.1 x hx
  unfold stP at b
  simp only [Bool.and_eq_true, inn_iff] at b
  exact ⟨by have := stream_len a; unfold TxWf; omega, ⟨by omega, by omega⟩, ⟨by omega, by omega⟩, vals_wf (by omega) b.2.2⟩
theorem vds_wf {l : List Vd} (h : vdsP l = true) : VdsWf l := by
  unfold vdsP at h
  rw [Bool.and_eq_true, decide_eq_true_eq] at h
  exact ⟨fun x hx => vdsGo_facts l l 0 h.1 x hx, by omega⟩
theorem cut_str (s : List UInt8) {P Q : Nat} (h1 : P ≤ Q) : (str s).extract P Q = str (V.cut s (P : Int) (Q : Int)) := by
  rw [str_extract]
  unfold V.cut
  rw [Int.toNat_natCast, show ((Q : Int) - (P : Int)).toNat = Q - P by omega]
/-- What a reading that succeeds says, in the form that the walk takes. -/
theorem read_some {X : Type} {f : Rd X} {ok : X → Bool} {lay : X → List UInt8} (h : OnceP f ok lay) {s : List UInt8} {P : Nat} {x : X} {q : Int} (hr : f s (P : Int) = some (x, q)) :
    ok x = true ∧ ∃ Q : Nat, q = (Q : Int) ∧ P ≤ Q ∧ Q ≤ s.length ∧ (str s).extract P Q = str (lay x) := by
  obtain ⟨h1, h2, h3, h4, h5⟩ := h s P x q hr
  obtain ⟨Q, rfl⟩ := Int.eq_ofNat_of_zero_le (show 0 ≤ q by omega)
  exact ⟨h1, Q, rfl, by omega, by omega, by rw [h2]; exact cut_str s (by omega)⟩
theorem putS_true (t : List UInt8) : putS true t = t := rfl
theorem putE_true : putE true = 0 := rfl

set_option maxHeartbeats 16000000 in
theorem walk (L : Low) (F : Cod) (s : List UInt8) (p : Int) (w : World) (hs : s.length ≤ 140737488355328) (hp : I64 p) :
    Calls Tryz.prog 5 #[.string (str s), .int .i64 p] w fun e w' => e = .returned (.bool true) ∧ Below w.heap.size w w' := by
  have A := fun (W : World) (_ : Below w.heap.size w W) => awake10_any F W
  obtain ⟨N, hN⟩ : ∃ N, s.length = N := ⟨_, rfl⟩
  have hsz : (str s).size = N := by rw [str_size, hN]
  have h1 := Below.refl w.heap.size w
  by_cases hp0 : p < 0
  · clear hsz hN
    go_enter Tryz.func5, Tryz.ntmps5
    go_wp2_with fail
    refine (A _ h1).mono ?_
    rintro _ w2 ⟨rfl, hb2⟩
    have h2 := h1.trans (hb2.mono h1.size)
    clear hb2
    go_wp2_with fail
    refine (A _ h2).mono ?_
    rintro _ w3 ⟨rfl, hb3⟩
    have h3 := h2.trans (hb3.mono h2.size)
    clear hb3
    go_wp2_with fail
    go_ret
    exact ⟨rfl, h3⟩
  · obtain ⟨P, rfl⟩ := Int.eq_ofNat_of_zero_le (show 0 ≤ p by omega)
    by_cases hpN : (N : Int) < (P : Int)
    · clear hN
      go_enter Tryz.func5, Tryz.ntmps5
      go_wp2_with fail
      refine (A _ h1).mono ?_
      rintro _ w2 ⟨rfl, hb2⟩
      have h2 := h1.trans (hb2.mono h1.size)
      clear hb2
      go_wp2_with fail
      refine (A _ h2).mono ?_
      rintro _ w3 ⟨rfl, hb3⟩
      have h3 := h2.trans (hb3.mono h2.size)
      clear hb3
      go_wp2_with fail
      go_ret
      exact ⟨rfl, h3⟩
    · have R1 := fun W => F.readCmd s (P : Int) W hs hp
      have R2 := fun W => F.readRec s (P : Int) W hs hp
      have R3 := fun W => F.readItems s (P : Int) W hs hp
      have R4 := fun W => F.readVds s (P : Int) W hs hp
      have HN := Lib.hid hN
      clear hN
      have hP0 : 0 ≤ (P : Int) := by omega
      have hPN : (P : Int) ≤ (N : Int) := by omega
      have hPN2 : P ≤ N := by omega
      go_enter Tryz.func5, Tryz.ntmps5
      go_wp2_with fail
      refine (A _ h1).mono ?_
      rintro _ w2 ⟨rfl, hb2⟩
      have h2 := h1.trans (hb2.mono h1.size)
      clear hb2
      clear A
      go_wp2_with fail
      refine (R1 _).mono ?_
      rintro _ w10 ⟨c, u, q, er, rfl, hu, hb, hm⟩
      have h10 := h2.trans (hb.mono h2.size)
      clear hb
      obtain ⟨au, cu, rfl, -⟩ := id hu.open
      cases hcase : rdCmd s (P : Int) with
      | none =>
        rw [hcase] at hm
        have hne : ¬ er = 0 := by first | exact hm | exact hm.1
        have hne2 : (er == 0) = false := beq_eq_false_iff_ne.2 hne
        have hne3 : (er != 0) = true := bne_iff_ne.2 hne
        clear hm hcase hu
        go_wp2_with fail
        refine (R2 _).mono ?_
        rintro _ w11 ⟨c, u, q, er, rfl, hu, hb, hm⟩
        have h11 := h10.trans (((below_alloc w10 _).trans (hb.mono (below_alloc w10 _).size)).mono h10.size)
        clear hb
        obtain ⟨au, cu, rfl, -⟩ := id hu.open
        cases hcase : rdRec s (P : Int) with
        | none =>
          rw [hcase] at hm
          have hne : ¬ er = 0 := by first | exact hm | exact hm.1
          have hne2 : (er == 0) = false := beq_eq_false_iff_ne.2 hne
          have hne3 : (er != 0) = true := bne_iff_ne.2 hne
          clear hm hcase hu
          go_wp2_with fail
          refine (R3 _).mono ?_
          rintro _ w12 ⟨c, u, q, er, rfl, hu, hb, hm⟩
          have h12 := h11.trans (((below_alloc w11 _).trans (hb.mono (below_alloc w11 _).size)).mono h11.size)
          clear hb
          obtain ⟨au, cu, rfl, -⟩ := id hu.open
          cases hcase : rdItems s (P : Int) with
          | none =>
            rw [hcase] at hm
            have hne : ¬ er = 0 := by first | exact hm | exact hm.1
            have hne2 : (er == 0) = false := beq_eq_false_iff_ne.2 hne
            have hne3 : (er != 0) = true := bne_iff_ne.2 hne
            clear hm hcase hu
            go_wp2_with fail
            refine (R4 _).mono ?_
            rintro _ w13 ⟨c, u, q, er, rfl, hu, hb, hm⟩
            have h13 := h12.trans (hb.mono h12.size)
            clear hb
            obtain ⟨au, cu, rfl, -⟩ := id hu.open
            cases hcase : rdVds s (P : Int) with
            | none =>
              rw [hcase] at hm
              have hne : ¬ er = 0 := by first | exact hm | exact hm.1
              have hne2 : (er == 0) = false := beq_eq_false_iff_ne.2 hne
              have hne3 : (er != 0) = true := bne_iff_ne.2 hne
              obtain ⟨-, rfl, rfl⟩ := hm
              go_wp2_with fail
              go_ret
              exact ⟨rfl, h13⟩
            | some r0 =>
              obtain ⟨c0, q0⟩ := r0
              rw [hcase] at hm
              obtain ⟨rfl, rfl, rfl⟩ := hm
              obtain ⟨hok, Q, rfl, hPQ, hQ, hex⟩ := read_some vds_once hcase
              try dsimp only at hok hex hu
              have hPQI : (P : Int) ≤ (Q : Int) := by omega
              have hQI : (Q : Int) ≤ (N : Int) := by rw [← HN.out]; omega
              have hQ0 : 0 ≤ (Q : Int) := by omega
              have hQN : Q ≤ N := by rw [← HN.out]; exact hQ
              have hput := fun W (hW : Below w13.heap.size w13 W) => F.putVds _ _ W (hu.below hW) (vds_wf hok)
              simp only [hok, putS_true, putE_true] at hput
              have hre := eq_refl_b (layVds c)
              generalize layVds c = T at hput hre hex
              clear hcase hok hQ hu
              go_wp2_with fail
              refine (hput _ (Below.refl _ _)).mono ?_
              rintro _ w14 ⟨rfl, hb⟩
              have h14 := h13.trans (hb.mono h13.size)
              clear hb
              clear hput
              go_wp2_with fail
              go_ret
              exact ⟨by simp, h14⟩
          | some r0 =>
            obtain ⟨c0, q0⟩ := r0
            rw [hcase] at hm
            obtain ⟨rfl, rfl, rfl⟩ := hm
            obtain ⟨hok, Q, rfl, hPQ, hQ, hex⟩ := read_some items_once hcase
            try dsimp only at hok hex hu
            have hPQI : (P : Int) ≤ (Q : Int) := by omega
            have hQI : (Q : Int) ≤ (N : Int) := by rw [← HN.out]; omega
            have hQ0 : 0 ≤ (Q : Int) := by omega
            have hQN : Q ≤ N := by rw [← HN.out]; exact hQ
            have hput := fun W (hW : Below w12.heap.size w12 W) => F.putItems _ _ W (hu.below hW) (its_wf hok)
            simp only [hok, putS_true, putE_true] at hput
            have hre := eq_refl_b (layItems c)
            generalize layItems c = T at hput hre hex
            clear hcase hok hQ hu
            go_wp2_with fail
            refine (hput _ (Below.refl _ _)).mono ?_
            rintro _ w15 ⟨rfl, hb⟩
            have h15 := h12.trans (hb.mono h12.size)
            clear hb
            clear hput
            go_wp2_with fail
            refine (R4 _).mono ?_
            rintro _ w16 ⟨c, u, q, er, rfl, hu, hb, hm⟩
            have h16 := h15.trans (hb.mono h15.size)
            clear hb
            obtain ⟨au, cu, rfl, -⟩ := id hu.open
            cases hcase : rdVds s (P : Int) with
            | none =>
              rw [hcase] at hm
              have hne : ¬ er = 0 := by first | exact hm | exact hm.1
              have hne2 : (er == 0) = false := beq_eq_false_iff_ne.2 hne
              have hne3 : (er != 0) = true := bne_iff_ne.2 hne
              obtain ⟨-, rfl, rfl⟩ := hm
              go_wp2_with fail
              go_ret
              exact ⟨rfl, h16⟩
            | some r0 =>
              obtain ⟨c0, q0⟩ := r0
              rw [hcase] at hm
              obtain ⟨rfl, rfl, rfl⟩ := hm
              obtain ⟨hok, Q, rfl, hPQ, hQ, hex⟩ := read_some vds_once hcase
              try dsimp only at hok hex hu
              have hPQI : (P : Int) ≤ (Q : Int) := by omega
              have hQI : (Q : Int) ≤ (N : Int) := by rw [← HN.out]; omega
              have hQ0 : 0 ≤ (Q : Int) := by omega
              have hQN : Q ≤ N := by rw [← HN.out]; exact hQ
              have hput := fun W (hW : Below w16.heap.size w16 W) => F.putVds _ _ W (hu.below hW) (vds_wf hok)
              simp only [hok, putS_true, putE_true] at hput
              have hre := eq_refl_b (layVds c)
              generalize layVds c = T at hput hre hex
              clear hcase hok hQ hu
              go_wp2_with fail
              refine (hput _ (Below.refl _ _)).mono ?_
              rintro _ w17 ⟨rfl, hb⟩
              have h17 := h16.trans (hb.mono h16.size)
              clear hb
              clear hput
              go_wp2_with fail
              go_ret
              exact ⟨by simp, h17⟩
        | some r0 =>
          obtain ⟨c0, q0⟩ := r0
          rw [hcase] at hm
          obtain ⟨rfl, rfl, rfl⟩ := hm
          obtain ⟨hok, Q, rfl, hPQ, hQ, hex⟩ := read_some rec_once hcase
          try dsimp only at hok hex hu
          have hPQI : (P : Int) ≤ (Q : Int) := by omega
          have hQI : (Q : Int) ≤ (N : Int) := by rw [← HN.out]; omega
          have hQ0 : 0 ≤ (Q : Int) := by omega
          have hQN : Q ≤ N := by rw [← HN.out]; exact hQ
          have hput := fun W (hW : Below w11.heap.size w11 W) => F.putRec _ _ W (hu.below hW) (rec_wf hok)
          simp only [hok, putS_true, putE_true] at hput
          have hre := eq_refl_b (layRec c)
          generalize layRec c = T at hput hre hex
          clear hcase hok hQ hu
          go_wp2_with fail
          refine (hput _ (below_alloc _ _)).mono ?_
          rintro _ w18 ⟨rfl, hb⟩
          have h18 := h11.trans (((below_alloc w11 _).trans (hb.mono (below_alloc w11 _).size)).mono h11.size)
          clear hb
          clear hput
          go_wp2_with fail
          refine (R3 _).mono ?_
          rintro _ w19 ⟨c, u, q, er, rfl, hu, hb, hm⟩
          have h19 := h18.trans (hb.mono h18.size)
          clear hb
          obtain ⟨au, cu, rfl, -⟩ := id hu.open
          cases hcase : rdItems s (P : Int) with
          | none =>
            rw [hcase] at hm
            have hne : ¬ er = 0 := by first | exact hm | exact hm.1
            have hne2 : (er == 0) = false := beq_eq_false_iff_ne.2 hne
            have hne3 : (er != 0) = true := bne_iff_ne.2 hne
            clear hm hcase hu
            go_wp2_with fail
            refine (R4 _).mono ?_
            rintro _ w20 ⟨c, u, q, er, rfl, hu, hb, hm⟩
            have h20 := h19.trans (hb.mono h19.size)
            clear hb
            obtain ⟨au, cu, rfl, -⟩ := id hu.open
            cases hcase : rdVds s (P : Int) with
            | none =>
              rw [hcase] at hm
              have hne : ¬ er = 0 := by first | exact hm | exact hm.1
              have hne2 : (er == 0) = false := beq_eq_false_iff_ne.2 hne
              have hne3 : (er != 0) = true := bne_iff_ne.2 hne
              obtain ⟨-, rfl, rfl⟩ := hm
              go_wp2_with fail
              go_ret
              exact ⟨rfl, h20⟩
            | some r0 =>
              obtain ⟨c0, q0⟩ := r0
              rw [hcase] at hm
              obtain ⟨rfl, rfl, rfl⟩ := hm
              obtain ⟨hok, Q, rfl, hPQ, hQ, hex⟩ := read_some vds_once hcase
              try dsimp only at hok hex hu
              have hPQI : (P : Int) ≤ (Q : Int) := by omega
              have hQI : (Q : Int) ≤ (N : Int) := by rw [← HN.out]; omega
              have hQ0 : 0 ≤ (Q : Int) := by omega
              have hQN : Q ≤ N := by rw [← HN.out]; exact hQ
              have hput := fun W (hW : Below w20.heap.size w20 W) => F.putVds _ _ W (hu.below hW) (vds_wf hok)
              simp only [hok, putS_true, putE_true] at hput
              have hre := eq_refl_b (layVds c)
              generalize layVds c = T at hput hre hex
              clear hcase hok hQ hu
              go_wp2_with fail
              refine (hput _ (Below.refl _ _)).mono ?_
              rintro _ w21 ⟨rfl, hb⟩
              have h21 := h20.trans (hb.mono h20.size)
              clear hb
              clear hput
              go_wp2_with fail
              go_ret
              exact ⟨by simp, h21⟩
          | some r0 =>
            obtain ⟨c0, q0⟩ := r0
            rw [hcase] at hm
            obtain ⟨rfl, rfl, rfl⟩ := hm
            obtain ⟨hok, Q, rfl, hPQ, hQ, hex⟩ := read_some items_once hcase
            try dsimp only at hok hex hu
            have hPQI : (P : Int) ≤ (Q : Int) := by omega
            have hQI : (Q : Int) ≤ (N : Int) := by rw [← HN.out]; omega
            have hQ0 : 0 ≤ (Q : Int) := by omega
            have hQN : Q ≤ N := by rw [← HN.out]; exact hQ
            have hput := fun W (hW : Below w19.heap.size w19 W) => F.putItems _ _ W (hu.below hW) (its_wf hok)
            simp only [hok, putS_true, putE_true] at hput
            have hre := eq_refl_b (layItems c)
            generalize layItems c = T at hput hre hex
            clear hcase hok hQ hu
            go_wp2_with fail
            refine (hput _ (Below.refl _ _)).mono ?_
            rintro _ w22 ⟨rfl, hb⟩
            have h22 := h19.trans (hb.mono h19.size)
            clear hb
            clear hput
            go_wp2_with fail
            refine (R4 _).mono ?_
            rintro _ w23 ⟨c, u, q, er, rfl, hu, hb, hm⟩
            have h23 := h22.trans (hb.mono h22.size)
            clear hb
            obtain ⟨au, cu, rfl, -⟩ := id hu.open
            cases hcase : rdVds s (P : Int) with
            | none =>
              rw [hcase] at hm
              have hne : ¬ er = 0 := by first | exact hm | exact hm.1
              have hne2 : (er == 0) = false := beq_eq_false_iff_ne.2 hne
              have hne3 : (er != 0) = true := bne_iff_ne.2 hne
              obtain ⟨-, rfl, rfl⟩ := hm
              go_wp2_with fail
              go_ret
              exact ⟨rfl, h23⟩
            | some r0 =>
              obtain ⟨c0, q0⟩ := r0
              rw [hcase] at hm
              obtain ⟨rfl, rfl, rfl⟩ := hm
              obtain ⟨hok, Q, rfl, hPQ, hQ, hex⟩ := read_some vds_once hcase
              try dsimp only at hok hex hu
              have hPQI : (P : Int) ≤ (Q : Int) := by omega
              have hQI : (Q : Int) ≤ (N : Int) := by rw [← HN.out]; omega
              have hQ0 : 0 ≤ (Q : Int) := by omega
              have hQN : Q ≤ N := by rw [← HN.out]; exact hQ
              have hput := fun W (hW : Below w23.heap.size w23 W) => F.putVds _ _ W (hu.below hW) (vds_wf hok)
              simp only [hok, putS_true, putE_true] at hput
              have hre := eq_refl_b (layVds c)
              generalize layVds c = T at hput hre hex
              clear hcase hok hQ hu
              go_wp2_with fail
              refine (hput _ (Below.refl _ _)).mono ?_
              rintro _ w24 ⟨rfl, hb⟩
              have h24 := h23.trans (hb.mono h23.size)
              clear hb
              clear hput
              go_wp2_with fail
              go_ret
              exact ⟨by simp, h24⟩
      | some r0 =>
        obtain ⟨c0, q0⟩ := r0
        rw [hcase] at hm
        obtain ⟨rfl, rfl, rfl⟩ := hm
        obtain ⟨hok, Q, rfl, hPQ, hQ, hex⟩ := read_some cmd_once hcase
        try dsimp only at hok hex hu
        have hPQI : (P : Int) ≤ (Q : Int) := by omega
        have hQI : (Q : Int) ≤ (N : Int) := by rw [← HN.out]; omega
        have hQ0 : 0 ≤ (Q : Int) := by omega
        have hQN : Q ≤ N := by rw [← HN.out]; exact hQ
        have hput := fun W (hW : Below w10.heap.size w10 W) => F.putCmd _ _ W (hu.below hW) (cmd_wf hok)
        simp only [hok, putS_true, putE_true] at hput
        have hre := eq_refl_b (layCmd c)
        generalize layCmd c = T at hput hre hex
        clear hcase hok hQ hu
        go_wp2_with fail
        refine (hput _ (below_alloc _ _)).mono ?_
        rintro _ w25 ⟨rfl, hb⟩
        have h25 := h10.trans (((below_alloc w10 _).trans (hb.mono (below_alloc w10 _).size)).mono h10.size)
        clear hb
        clear hput
        go_wp2_with fail
        refine (R2 _).mono ?_
        rintro _ w26 ⟨c, u, q, er, rfl, hu, hb, hm⟩
        have h26 := h25.trans (hb.mono h25.size)
        clear hb
        obtain ⟨au, cu, rfl, -⟩ := id hu.open
        cases hcase : rdRec s (P : Int) with
        | none =>
          rw [hcase] at hm
          have hne : ¬ er = 0 := by first | exact hm | exact hm.1
          have hne2 : (er == 0) = false := beq_eq_false_iff_ne.2 hne
          have hne3 : (er != 0) = true := bne_iff_ne.2 hne
          clear hm hcase hu
          go_wp2_with fail
          refine (R3 _).mono ?_
          rintro _ w27 ⟨c, u, q, er, rfl, hu, hb, hm⟩
          have h27 := h26.trans (((below_alloc w26 _).trans (hb.mono (below_alloc w26 _).size)).mono h26.size)
          clear hb
          obtain ⟨au, cu, rfl, -⟩ := id hu.open
          cases hcase : rdItems s (P : Int) with
          | none =>
            rw [hcase] at hm
            have hne : ¬ er = 0 := by first | exact hm | exact hm.1
            have hne2 : (er == 0) = false := beq_eq_false_iff_ne.2 hne
            have hne3 : (er != 0) = true := bne_iff_ne.2 hne
            clear hm hcase hu
            go_wp2_with fail
            refine (R4 _).mono ?_
            rintro _ w28 ⟨c, u, q, er, rfl, hu, hb, hm⟩
            have h28 := h27.trans (hb.mono h27.size)
            clear hb
            obtain ⟨au, cu, rfl, -⟩ := id hu.open
            cases hcase : rdVds s (P : Int) with
            | none =>
              rw [hcase] at hm
              have hne : ¬ er = 0 := by first | exact hm | exact hm.1
              have hne2 : (er == 0) = false := beq_eq_false_iff_ne.2 hne
              have hne3 : (er != 0) = true := bne_iff_ne.2 hne
              obtain ⟨-, rfl, rfl⟩ := hm
              go_wp2_with fail
              go_ret
              exact ⟨rfl, h28⟩
            | some r0 =>
              obtain ⟨c0, q0⟩ := r0
              rw [hcase] at hm
              obtain ⟨rfl, rfl, rfl⟩ := hm
              obtain ⟨hok, Q, rfl, hPQ, hQ, hex⟩ := read_some vds_once hcase
              try dsimp only at hok hex hu
              have hPQI : (P : Int) ≤ (Q : Int) := by omega
              have hQI : (Q : Int) ≤ (N : Int) := by rw [← HN.out]; omega
              have hQ0 : 0 ≤ (Q : Int) := by omega
              have hQN : Q ≤ N := by rw [← HN.out]; exact hQ
              have hput := fun W (hW : Below w28.heap.size w28 W) => F.putVds _ _ W (hu.below hW) (vds_wf hok)
              simp only [hok, putS_true, putE_true] at hput
              have hre := eq_refl_b (layVds c)
              generalize layVds c = T at hput hre hex
              clear hcase hok hQ hu
              go_wp2_with fail
              refine (hput _ (Below.refl _ _)).mono ?_
              rintro _ w29 ⟨rfl, hb⟩
              have h29 := h28.trans (hb.mono h28.size)
              clear hb
              clear hput
              go_wp2_with fail
              go_ret
              exact ⟨by simp, h29⟩
          | some r0 =>
            obtain ⟨c0, q0⟩ := r0
            rw [hcase] at hm
            obtain ⟨rfl, rfl, rfl⟩ := hm
            obtain ⟨hok, Q, rfl, hPQ, hQ, hex⟩ := read_some items_once hcase
            try dsimp only at hok hex hu
            have hPQI : (P : Int) ≤ (Q : Int) := by omega
            have hQI : (Q : Int) ≤ (N : Int) := by rw [← HN.out]; omega
            have hQ0 : 0 ≤ (Q : Int) := by omega
            have hQN : Q ≤ N := by rw [← HN.out]; exact hQ
            have hput := fun W (hW : Below w27.heap.size w27 W) => F.putItems _ _ W (hu.below hW) (its_wf hok)
            simp only [hok, putS_true, putE_true] at hput
            have hre := eq_refl_b (layItems c)
            generalize layItems c = T at hput hre hex
            clear hcase hok hQ hu
            go_wp2_with fail
            refine (hput _ (Below.refl _ _)).mono ?_
            rintro _ w30 ⟨rfl, hb⟩
            have h30 := h27.trans (hb.mono h27.size)
            clear hb
            clear hput
            go_wp2_with fail
            refine (R4 _).mono ?_
            rintro _ w31 ⟨c, u, q, er, rfl, hu, hb, hm⟩
            have h31 := h30.trans (hb.mono h30.size)
            clear hb
            obtain ⟨au, cu, rfl, -⟩ := id hu.open
            cases hcase : rdVds s (P : Int) with
            | none =>
              rw [hcase] at hm
              have hne : ¬ er = 0 := by first | exact hm | exact hm.1
              have hne2 : (er == 0) = false := beq_eq_false_iff_ne.2 hne
              have hne3 : (er != 0) = true := bne_iff_ne.2 hne
              obtain ⟨-, rfl, rfl⟩ := hm
              go_wp2_with fail
              go_ret
              exact ⟨rfl, h31⟩
            | some r0 =>
              obtain ⟨c0, q0⟩ := r0
              rw [hcase] at hm
              obtain ⟨rfl, rfl, rfl⟩ := hm
              obtain ⟨hok, Q, rfl, hPQ, hQ, hex⟩ := read_some vds_once hcase
              try dsimp only at hok hex hu
              have hPQI : (P : Int) ≤ (Q : Int) := by omega
              have hQI : (Q : Int) ≤ (N : Int) := by rw [← HN.out]; omega
              have hQ0 : 0 ≤ (Q : Int) := by omega
              have hQN : Q ≤ N := by rw [← HN.out]; exact hQ
              have hput := fun W (hW : Below w31.heap.size w31 W) => F.putVds _ _ W (hu.below hW) (vds_wf hok)
              simp only [hok, putS_true, putE_true] at hput
              have hre := eq_refl_b (layVds c)
              generalize layVds c = T at hput hre hex
              clear hcase hok hQ hu
              go_wp2_with fail
              refine (hput _ (Below.refl _ _)).mono ?_
              rintro _ w32 ⟨rfl, hb⟩
              have h32 := h31.trans (hb.mono h31.size)
              clear hb
              clear hput
              go_wp2_with fail
              go_ret
              exact ⟨by simp, h32⟩
        | some r0 =>
          obtain ⟨c0, q0⟩ := r0
          rw [hcase] at hm
          obtain ⟨rfl, rfl, rfl⟩ := hm
          obtain ⟨hok, Q, rfl, hPQ, hQ, hex⟩ := read_some rec_once hcase
          try dsimp only at hok hex hu
          have hPQI : (P : Int) ≤ (Q : Int) := by omega
          have hQI : (Q : Int) ≤ (N : Int) := by rw [← HN.out]; omega
          have hQ0 : 0 ≤ (Q : Int) := by omega
          have hQN : Q ≤ N := by rw [← HN.out]; exact hQ
          have hput := fun W (hW : Below w26.heap.size w26 W) => F.putRec _ _ W (hu.below hW) (rec_wf hok)
          simp only [hok, putS_true, putE_true] at hput
          have hre := eq_refl_b (layRec c)
          generalize layRec c = T at hput hre hex
          clear hcase hok hQ hu
          go_wp2_with fail
          refine (hput _ (below_alloc _ _)).mono ?_
          rintro _ w33 ⟨rfl, hb⟩
          have h33 := h26.trans (((below_alloc w26 _).trans (hb.mono (below_alloc w26 _).size)).mono h26.size)
          clear hb
          clear hput
          go_wp2_with fail
          refine (R3 _).mono ?_
          rintro _ w34 ⟨c, u, q, er, rfl, hu, hb, hm⟩
          have h34 := h33.trans (hb.mono h33.size)
          clear hb
          obtain ⟨au, cu, rfl, -⟩ := id hu.open
          cases hcase : rdItems s (P : Int) with
          | none =>
            rw [hcase] at hm
            have hne : ¬ er = 0 := by first | exact hm | exact hm.1
            have hne2 : (er == 0) = false := beq_eq_false_iff_ne.2 hne
            have hne3 : (er != 0) = true := bne_iff_ne.2 hne
            clear hm hcase hu
            go_wp2_with fail
            refine (R4 _).mono ?_
            rintro _ w35 ⟨c, u, q, er, rfl, hu, hb, hm⟩
            have h35 := h34.trans (hb.mono h34.size)
            clear hb
            obtain ⟨au, cu, rfl, -⟩ := id hu.open
            cases hcase : rdVds s (P : Int) with
            | none =>
              rw [hcase] at hm
              have hne : ¬ er = 0 := by first | exact hm | exact hm.1
              have hne2 : (er == 0) = false := beq_eq_false_iff_ne.2 hne
              have hne3 : (er != 0) = true := bne_iff_ne.2 hne
              obtain ⟨-, rfl, rfl⟩ := hm
              go_wp2_with fail
              go_ret
              exact ⟨rfl, h35⟩
            | some r0 =>
              obtain ⟨c0, q0⟩ := r0
              rw [hcase] at hm
              obtain ⟨rfl, rfl, rfl⟩ := hm
              obtain ⟨hok, Q, rfl, hPQ, hQ, hex⟩ := read_some vds_once hcase
              try dsimp only at hok hex hu
              have hPQI : (P : Int) ≤ (Q : Int) := by omega
              have hQI : (Q : Int) ≤ (N : Int) := by rw [← HN.out]; omega
              have hQ0 : 0 ≤ (Q : Int) := by omega
              have hQN : Q ≤ N := by rw [← HN.out]; exact hQ
              have hput := fun W (hW : Below w35.heap.size w35 W) => F.putVds _ _ W (hu.below hW) (vds_wf hok)
              simp only [hok, putS_true, putE_true] at hput
              have hre := eq_refl_b (layVds c)
              generalize layVds c = T at hput hre hex
              clear hcase hok hQ hu
              go_wp2_with fail
              refine (hput _ (Below.refl _ _)).mono ?_
              rintro _ w36 ⟨rfl, hb⟩
              have h36 := h35.trans (hb.mono h35.size)
              clear hb
              clear hput
              go_wp2_with fail
              go_ret
              exact ⟨by simp, h36⟩
          | some r0 =>
            obtain ⟨c0, q0⟩ := r0
            rw [hcase] at hm
            obtain ⟨rfl, rfl, rfl⟩ := hm
            obtain ⟨hok, Q, rfl, hPQ, hQ, hex⟩ := read_some items_once hcase
            try dsimp only at hok hex hu
            have hPQI : (P : Int) ≤ (Q : Int) := by omega
            have hQI : (Q : Int) ≤ (N : Int) := by rw [← HN.out]; omega
            have hQ0 : 0 ≤ (Q : Int) := by omega
            have hQN : Q ≤ N := by rw [← HN.out]; exact hQ
            have hput := fun W (hW : Below w34.heap.size w34 W) => F.putItems _ _ W (hu.below hW) (its_wf hok)
            simp only [hok, putS_true, putE_true] at hput
            have hre := eq_refl_b (layItems c)
            generalize layItems c = T at hput hre hex
            clear hcase hok hQ hu
            go_wp2_with fail
            refine (hput _ (Below.refl _ _)).mono ?_
            rintro _ w37 ⟨rfl, hb⟩
            have h37 := h34.trans (hb.mono h34.size)
            clear hb
            clear hput
            go_wp2_with fail
            refine (R4 _).mono ?_
            rintro _ w38 ⟨c, u, q, er, rfl, hu, hb, hm⟩
            have h38 := h37.trans (hb.mono h37.size)
            clear hb
            obtain ⟨au, cu, rfl, -⟩ := id hu.open
            cases hcase : rdVds s (P : Int) with
            | none =>
              rw [hcase] at hm
              have hne : ¬ er = 0 := by first | exact hm | exact hm.1
              have hne2 : (er == 0) = false := beq_eq_false_iff_ne.2 hne
              have hne3 : (er != 0) = true := bne_iff_ne.2 hne
              obtain ⟨-, rfl, rfl⟩ := hm
              go_wp2_with fail
              go_ret
              exact ⟨rfl, h38⟩
            | some r0 =>
              obtain ⟨c0, q0⟩ := r0
              rw [hcase] at hm
              obtain ⟨rfl, rfl, rfl⟩ := hm
              obtain ⟨hok, Q, rfl, hPQ, hQ, hex⟩ := read_some vds_once hcase
              try dsimp only at hok hex hu
              have hPQI : (P : Int) ≤ (Q : Int) := by omega
              have hQI : (Q : Int) ≤ (N : Int) := by rw [← HN.out]; omega
              have hQ0 : 0 ≤ (Q : Int) := by omega
              have hQN : Q ≤ N := by rw [← HN.out]; exact hQ
              have hput := fun W (hW : Below w38.heap.size w38 W) => F.putVds _ _ W (hu.below hW) (vds_wf hok)
              simp only [hok, putS_true, putE_true] at hput
              have hre := eq_refl_b (layVds c)
              generalize layVds c = T at hput hre hex
              clear hcase hok hQ hu
              go_wp2_with fail
              refine (hput _ (Below.refl _ _)).mono ?_
              rintro _ w39 ⟨rfl, hb⟩
              have h39 := h38.trans (hb.mono h38.size)
              clear hb
              clear hput
              go_wp2_with fail
              go_ret
              exact ⟨by simp, h39⟩

theorem lifted (os : Os) (started : os.Started) (H : Type) (enc : TypeId × Value → H) :
    ReturnsInHanded {} Tryz.checked os 5 .any (Rows.codecOnceSpec.pre6 enc Tryz.prog Tryz.f5 Rows.codecOnceRow.domain false) (Rows.codecOnceSpec.post enc Tryz.prog Tryz.f5 false true false false) := by
  refine returnsInHanded_of_change_sized (C := Tryz.checked) own started (by kernel_rfl) Tryz.func5
    (ChangeSpec.witness6 (enc := enc) (C := Tryz.checked) false ⟨#[], #[.string ⟨#[]⟩, .int .i64 0], []⟩ 8 (by kernel_rfl) (by kernel_rfl) (by kernel_rfl) (by kernel_rfl)) ?_
  intro W base args ds gs before hval0 hW hcnd hsz0 _
  have hsz : (DataW.weightsEach Tryz.prog (Tryz.f5.params.toList ++ Rows.codecOnceSpec.plain.varTypes Tryz.prog) (ds ++ gs)).all (· ≤ reachBytes) = true := hsz0
  clear hsz0
  have hval : ∀ (j : Nat) t v, Tryz.f5.params[j]? = some t → args[j]? = some v → Value.okWide Tryz.prog W .any base t v := hval0
  have hW' := hW
  obtain ⟨p, q, hA0, hV, rfl, hfz, hnd⟩ := hW
  have hA : DataW.TrodAll enc Tryz.prog W 0 (fun _ => true) true Tryz.f5.params.toList args.toList ds p := hA0
  rw [Tryz.params5] at hA hval hsz
  obtain ⟨v0, vs0, d0, ds0, p0, q0, hargs, rfl, rfl, h0, r0⟩ := trodAll_cons hA
  obtain ⟨v1, vs1, d1, ds1, p1, q1, rfl, rfl, rfl, h1, r1⟩ := trodAll_cons r0
  obtain ⟨rfl, rfl, rfl⟩ := trodAll_nil r1
  obtain rfl : args = #[v0, v1] := by cases args; simp_all
  obtain ⟨t0, rfl, rfl, rfl, ws0⟩ := open_string Tryz.underlying9 (hval 0 9 v0 rfl rfl) h0
  obtain ⟨z1, rfl, rfl, rfl, wz1⟩ := open_int Tryz.underlying3 (hval 1 3 v1 rfl rfl) h1
  have hi1 : I64 z1 := by
    have := wz1
    simp [Lit.wf, IntKind.min, IntKind.max, IntKind.signed, IntKind.bits] at this
    exact this
  have hs0 : t0.data.toList.length ≤ 140737488355328 := by
    have h1 := sized_string hsz (j := 0) (t := 9) rfl rfl
    have h2 := reachBytes_lt
    omega
  have hw := walk low cod t0.data.toList z1 W hs0 hi1
  rw [str_eq] at hw
  refine hw.mono fun e W' ⟨he, hb⟩ => ?_
  subst he
  exact ⟨_, rfl, post_law hW' hb laidOut rfl rfl rfl Tryz.underlying4 (by rw [Tryz.params5]; decide +kernel)⟩

theorem over : Rows.codecOnceRow.holds Tryz.pinned (OpenSpec.ofChange Rows.codecOnceSpec) :=
  OpenClaim.holds_of_wide 5 Tryz.f5 rfl rfl rfl rfl rfl rfl rfl ⟨rfl, rfl, rfl, rfl, rfl⟩ rfl rfl rfl rfl rfl (by kernel_rfl) Tryz.func5 (by kernel_rfl)
    (of_decide_eq_true (by kernel_rfl)) (by unfold Func.isWrapper; first | (rw [if_pos (by decide +kernel)]; kernel_rfl) | (rw [if_neg (by decide +kernel)]; exact ⟨rfl, rfl⟩))
    (fun os started H enc _ => lifted os started H enc)

theorem proved : Rows.CodecOnceSaid := over
#print axioms proved
end Go.Proofs.YtebglkpejdoggaaGreat.codecOnce
