/-
  The law DiskApart: what is done to some files changes nothing of another one. For every input; no condition.
-/
import Derived.Test.YthdchidlfeighaaRows
import Derived.Test.YthdchidlfeighaaHP12Ld
import Derived.Test.YthdchidlfeighaaHP12Arg
import Derived.Test.YthdchidlfeighaaHKLaw
import Derived.SizedLaws
import Derived.Test.YthdchidlfeighaaHP12Ap
namespace Go.Proofs.Ythdchidlfeighaa.diskApart
open Go Go.ChangeShapes Go.WideShapes Go.ChangeAt Go.RowKit Go.Proofs
open Go.ChangeMaps (open_string shut_string)
open Go.Proofs.Ythdchidlfeighaa.C10 (Fits)
open Go.Proofs.Ythdchidlfeighaa.C12 Go.Proofs.Ythdchidlfeighaa.P8 Go.Proofs.Ythdchidlfeighaa.K Go.Proofs.Ythdchidlfeighaa.B
set_option linter.unusedVariables false
set_option maxRecDepth 100000

theorem own : ownKnob Try.prog.godebug = none := by kernel_rfl
theorem laidOut : laidOutB Try.prog = true := by kernel_rfl

set_option maxHeartbeats 16000000 in
theorem walk (l : List ActL) (a : ActL) (s : List UInt8) (lv kv : Value) (w : World) (hl : ActsIs w w.heap.size lv l) (hk : Kp0 w w.heap.size kv a.keep) (hwf : ActWf a) (hs : s.length ≤ 140737488355328) :
    Calls Try.prog 6 #[lv, .agg #[.int .i64 a.kind, .string (str a.name), .string (str a.s), .string (str a.tox), .int .i64 a.n, kv], .string (str s)] w fun e w' => e = .returned (.bool true) ∧ Below w.heap.size w w' := by
  have HA := Lib.hid (fun W => awake_any W)
  have HK := Lib.hid hk
  obtain ⟨ka, kc, rfl, -⟩ := hk
  obtain ⟨W0, hW0⟩ : ∃ W0, w.alloc (.cells #[.int .i64 a.kind, .string (str a.name), .string (str a.s), .string (str a.tox), .int .i64 a.n, .slice ka a.keep.length kc] 52) = W0 := ⟨_, rfl⟩
  have hB0 : Below w.heap.size w W0 := by rw [← hW0]; exact below_alloc _ _
  obtain ⟨g0, hg0⟩ : ∃ g, w.heap.size = g := ⟨_, rfl⟩
  have m0 : W0.cell? ⟨g0, 0, none⟩ = some (Value.int .i64 a.kind) := by rw [← hW0, ← hg0]; exact alloc_cell w [_, _, _, _, _, _] _ 0 _ rfl
  have m1 : W0.cell? ⟨g0, 1, none⟩ = some (Value.string (str a.name)) := by rw [← hW0, ← hg0]; exact alloc_cell w [_, _, _, _, _, _] _ 1 _ rfl
  have m2 : W0.cell? ⟨g0, 2, none⟩ = some (Value.string (str a.s)) := by rw [← hW0, ← hg0]; exact alloc_cell w [_, _, _, _, _, _] _ 2 _ rfl
  have m3 : W0.cell? ⟨g0, 3, none⟩ = some (Value.string (str a.tox)) := by rw [← hW0, ← hg0]; exact alloc_cell w [_, _, _, _, _, _] _ 3 _ rfl
  have m4 : W0.cell? ⟨g0, 4, none⟩ = some (Value.int .i64 a.n) := by rw [← hW0, ← hg0]; exact alloc_cell w [_, _, _, _, _, _] _ 4 _ rfl
  have m5 : W0.cell? ⟨g0, 5, none⟩ = some (Value.slice ka a.keep.length kc) := by rw [← hW0, ← hg0]; exact alloc_cell w [_, _, _, _, _, _] _ 5 _ rfl
  have hg0l : g0 < W0.heap.size := World.block_lt_of_cell? _ _ m0
  have HALL := Lib.hid (show ∀ W, Below W0.heap.size W0 W → W.cell? ⟨g0, 0, none⟩ = some (Value.int .i64 a.kind) ∧ W.cell? ⟨g0, 1, none⟩ = some (Value.string (str a.name)) ∧ W.cell? ⟨g0, 2, none⟩ = some (Value.string (str a.s)) ∧ W.cell? ⟨g0, 3, none⟩ = some (Value.string (str a.tox)) ∧ W.cell? ⟨g0, 4, none⟩ = some (Value.int .i64 a.n) ∧ W.cell? ⟨g0, 5, none⟩ = some (Value.slice ka a.keep.length kc) from fun W hb => ⟨cell_same (hb.block _ hg0l) m0, cell_same (hb.block _ hg0l) m1, cell_same (hb.block _ hg0l) m2, cell_same (hb.block _ hg0l) m3, cell_same (hb.block _ hg0l) m4, cell_same (hb.block _ hg0l) m5⟩)
  have HL0 := (hl.below hB0).wide hB0.size
  have HKB := Lib.hid ((HK.out.below hB0).wide hB0.size)
  have HM := Lib.hid (made_good 2000 l lv W0 HL0 (by decide))
  have HWF := Lib.hid hwf
  have HS := Lib.hid (show s.length ≤ maxLen from by unfold maxLen; omega)
  generalize runD ⟨2000, [], 0, false⟩ (l.take 200) = R at HM
  obtain ⟨la, lc, rfl, -⟩ := hl
  have HB0 := Lib.hid hB0
  clear hwf hs HL0 hB0 hg0l
  by_cases hn : a.name = s
  · have t1 : ((str a.name).toList == (str s).toList) = true := by rw [hn]; simp
    clear hn
    clear m0 m1 m2 m3 m4 m5
    go_enter Try.func6, Try.ntmps6
    go_upto_region 3 with (first
      | (go_at_call 9; (try rw [hW0]); refine HM.out.mono ?_; rintro _ w1 ⟨d, x, rfl, ht, hb1⟩; have HT := Lib.hid ht; have HB1 := Lib.hid hb1; clear ht hb1)
      | (go_at_call 10; refine (HA.out _).mono ?_; rintro _ w2 ⟨rfl, hb2⟩; have HT2 := Lib.hid (HT.out.below hb2); have HB2 := Lib.hid (HB1.out.trans (below_base hb2 HT.out.base)); obtain ⟨a0, a1, a2, a3, a4, a5⟩ := HALL.out _ HB2.out; clear hb2))
    go_wp2_with (go_at_call 10; refine (HA.out _).mono ?_; rintro _ w3 ⟨rfl, hb3⟩; have HB3 := Lib.hid (HB2.out.trans (below_base hb3 HT2.out.base)); clear hb3)
    go_ret
    exact ⟨rfl, HB0.out.trans (⟨HB3.out.os, HB3.out.tape, HB3.out.output, HB3.out.size, fun i hi => HB3.out.block i (Nat.lt_of_lt_of_le hi HB0.out.size)⟩)⟩
  by_cases hx : a.tox = s
  · have t1 : ((str a.name).toList == (str s).toList) = false := by rw [str_toList, str_toList]; simpa using hn
    have t2 : ((str a.tox).toList == (str s).toList) = true := by rw [hx]; simp
    clear hn hx
    clear m0 m1 m2 m3 m4 m5
    go_enter Try.func6, Try.ntmps6
    go_upto_region 3 with (first
      | (go_at_call 9; (try rw [hW0]); refine HM.out.mono ?_; rintro _ w1 ⟨d, x, rfl, ht, hb1⟩; have HT := Lib.hid ht; have HB1 := Lib.hid hb1; clear ht hb1)
      | (go_at_call 10; refine (HA.out _).mono ?_; rintro _ w2 ⟨rfl, hb2⟩; have HT2 := Lib.hid (HT.out.below hb2); have HB2 := Lib.hid (HB1.out.trans (below_base hb2 HT.out.base)); obtain ⟨a0, a1, a2, a3, a4, a5⟩ := HALL.out _ HB2.out; clear hb2))
    go_wp2_with (go_at_call 10; refine (HA.out _).mono ?_; rintro _ w3 ⟨rfl, hb3⟩; have HB3 := Lib.hid (HB2.out.trans (below_base hb3 HT2.out.base)); clear hb3)
    go_ret
    exact ⟨rfl, HB0.out.trans (⟨HB3.out.os, HB3.out.tape, HB3.out.output, HB3.out.size, fun i hi => HB3.out.block i (Nat.lt_of_lt_of_le hi HB0.out.size)⟩)⟩
  by_cases h7 : 7 < a.kind
  · have t1 : ((str a.name).toList == (str s).toList) = false := by rw [str_toList, str_toList]; simpa using hn
    have t2 : ((str a.tox).toList == (str s).toList) = false := by rw [str_toList, str_toList]; simpa using hx
    clear hn hx
    clear m0 m1 m2 m3 m4 m5
    go_enter Try.func6, Try.ntmps6
    go_upto_region 3 with (first
      | (go_at_call 9; (try rw [hW0]); refine HM.out.mono ?_; rintro _ w1 ⟨d, x, rfl, ht, hb1⟩; have HT := Lib.hid ht; have HB1 := Lib.hid hb1; clear ht hb1)
      | (go_at_call 10; refine (HA.out _).mono ?_; rintro _ w2 ⟨rfl, hb2⟩; have HT2 := Lib.hid (HT.out.below hb2); have HB2 := Lib.hid (HB1.out.trans (below_base hb2 HT.out.base)); obtain ⟨a0, a1, a2, a3, a4, a5⟩ := HALL.out _ HB2.out; clear hb2))
    go_wp2_with (go_at_call 10; refine (HA.out _).mono ?_; rintro _ w3 ⟨rfl, hb3⟩; have HB3 := Lib.hid (HB2.out.trans (below_base hb3 HT2.out.base)); clear hb3)
    go_ret
    exact ⟨rfl, HB0.out.trans (⟨HB3.out.os, HB3.out.tape, HB3.out.output, HB3.out.size, fun i hi => HB3.out.block i (Nat.lt_of_lt_of_le hi HB0.out.size)⟩)⟩
  by_cases h0 : a.kind < 0
  · have t1 : ((str a.name).toList == (str s).toList) = false := by rw [str_toList, str_toList]; simpa using hn
    have t2 : ((str a.tox).toList == (str s).toList) = false := by rw [str_toList, str_toList]; simpa using hx
    clear hn hx
    clear m0 m1 m2 m3 m4 m5
    go_enter Try.func6, Try.ntmps6
    go_upto_region 3 with (first
      | (go_at_call 9; (try rw [hW0]); refine HM.out.mono ?_; rintro _ w1 ⟨d, x, rfl, ht, hb1⟩; have HT := Lib.hid ht; have HB1 := Lib.hid hb1; clear ht hb1)
      | (go_at_call 10; refine (HA.out _).mono ?_; rintro _ w2 ⟨rfl, hb2⟩; have HT2 := Lib.hid (HT.out.below hb2); have HB2 := Lib.hid (HB1.out.trans (below_base hb2 HT.out.base)); obtain ⟨a0, a1, a2, a3, a4, a5⟩ := HALL.out _ HB2.out; clear hb2))
    go_wp2_with (go_at_call 10; refine (HA.out _).mono ?_; rintro _ w3 ⟨rfl, hb3⟩; have HB3 := Lib.hid (HB2.out.trans (below_base hb3 HT2.out.base)); clear hb3)
    go_ret
    exact ⟨rfl, HB0.out.trans (⟨HB3.out.os, HB3.out.tape, HB3.out.output, HB3.out.size, fun i hi => HB3.out.block i (Nat.lt_of_lt_of_le hi HB0.out.size)⟩)⟩
  have HNX := Lib.hid (show a.name ≠ s ∧ a.tox ≠ s from ⟨hn, hx⟩)
  have HKD := Lib.hid (show 0 ≤ a.kind ∧ a.kind ≤ 7 from by omega)
  have t1 : ((str a.name).toList == (str s).toList) = false := by rw [str_toList, str_toList]; simpa using hn
  have t2 : ((str a.tox).toList == (str s).toList) = false := by rw [str_toList, str_toList]; simpa using hx
  clear hn hx m0 m1 m2 m3 m4 m5
  go_enter Try.func6, Try.ntmps6
  go_upto_region 4 with (first
    | (go_at_call 9; (try rw [hW0]); refine HM.out.mono ?_; rintro _ w1 ⟨d, x, rfl, ht, hb1⟩; have HT := Lib.hid ht; have HB1 := Lib.hid hb1; clear ht hb1)
    | (go_at_call 10; refine (HA.out _).mono ?_; rintro _ w2 ⟨rfl, hb2⟩; have HT2 := Lib.hid (HT.out.below hb2); have HB2 := Lib.hid (HB1.out.trans (below_base hb2 HT.out.base)); obtain ⟨a0, a1, a2, a3, a4, a5⟩ := HALL.out _ HB2.out; clear hb2))
  have HR := Lib.hid HT2.out.fine.rise
  have HF := Lib.hid (step_apart HR.out HKD.out HNX.out.1 HNX.out.2)
  have HAT := Lib.hid (fun W (hb : Below w2.heap.size w2 W) => t_atR (HT2.out.below hb) s)
  have HSF := Lib.hid (fun W (hb : Below w2.heap.size w2 W) => t_safe (HT2.out.below hb) s HS.out)
  have hsf : safeD (stepD R a).1 s = safeD R s := by unfold safeD; rw [HF.out]
  have HSF2 := Lib.hid (fun W D' (ht : Two W0.heap.size W d x D' D') => t_safe ht s HS.out)
  have HRD := Lib.hid (fun W D' (ht : Two W0.heap.size W d x D' D') => t_read ht s HS.out)
  have HDN := Lib.hid (fun W D' (ht : Two W0.heap.size W d x D' D') => t_down ht)
  have HDO := Lib.hid (fun W (hb : Below w2.heap.size w2 W) => do_any W0.heap.size W d x R R a (.slice ka a.keep.length kc) (HT2.out.below hb) (HKB.out.below (HB2.out.trans (below_base hb HT2.out.base))) HWF.out)
  obtain ⟨D', hD'⟩ : ∃ D', (stepD R a).1 = D' := ⟨_, rfl⟩
  rw [hD'] at hsf HF HDO
  obtain ⟨Z, hZ⟩ : ∃ Z, safeD R s = Z := ⟨_, rfl⟩
  rw [hZ] at hsf HSF
  have HSZ := Lib.hid hsf
  have hzz : (Z != Z) = false := by simp
  have HALL2 := Lib.hid (fun W (hb : Below w2.heap.size w2 W) => HALL.out W (HB2.out.trans (below_base hb HT2.out.base)))
  have HE := Lib.hid (show ∀ W, Below W0.heap.size W0 W → Below w.heap.size w W from fun W hb => HB0.out.trans ⟨hb.os, hb.tape, hb.output, hb.size, fun i hi => hb.block i (Nat.lt_of_lt_of_le hi HB0.out.size)⟩)
  have HRDV := Lib.hid (show D'.down = false → readD D' s = (match findF R.files s with | none => ([], 8) | some f => (f.safe ++ f.more, 0)) from fun hd => by unfold readD; rw [hd, if_neg (by simp), HF.out]; cases findF R.files s <;> rfl)
  clear hD' hsf hZ HF
  rcases place_find R.files s with ⟨hp, hf⟩ | ⟨j, f, hp, hj, hf, hfn⟩
  · rw [hp] at HAT
    rw [hf] at HRDV
    dsimp only at HRDV
    clear hp hf
    cases hd : D'.down with
    | true =>
      have HDD := Lib.hid hd
      clear hd
      go_wp2_with (first
        | (go_at_call 16; refine (HSF.out _ (Below.refl _ _)).mono ?_; rintro _ w3 ⟨rfl, hb3⟩; have HB3 := Lib.hid hb3; obtain ⟨e0, e1, e2, e3, e4, e5⟩ := HALL2.out _ hb3; clear hb3 a0 a1 a2 a3 a4 a5)
        | (go_at_call 25; refine (HAT.out _ HB3.out).mono ?_; rintro _ w4 ⟨rfl, rfl⟩)
        | (go_at_call 24; refine (HDO.out _ HB3.out).mono ?_; rintro _ w5 ⟨rfl, ht5, hb5⟩; have HT5 := Lib.hid ht5; have HB5 := Lib.hid ((HB2.out.trans (below_base HB3.out HT2.out.base)).trans hb5); clear ht5 hb5)
        | (go_at_call 16; with_reducible refine (HSF2.out _ _ HT5.out).mono ?_; rintro _ w6 ⟨rfl, hb6⟩; rw [HSZ.out]; have HT6 := Lib.hid (HT5.out.below hb6); have HB6 := Lib.hid (HB5.out.trans (below_base hb6 HT5.out.base)); clear hb6)
        | (go_at_call 14; refine (HRD.out _ _ HT6.out).mono ?_; rintro _ w7 ⟨rfl, hb7⟩; generalize readD D' s = rr; have HT7 := Lib.hid (HT6.out.below hb7); have HB7 := Lib.hid (HB6.out.trans (below_base hb7 HT6.out.base)); clear hb7)
        | (go_at_call 18; refine (HDN.out _ _ HT7.out).mono ?_; rintro _ w8 ⟨rfl, hb8⟩; rw [HDD.out]; have HB8 := Lib.hid (HB7.out.trans (below_base hb8 HT7.out.base)); clear hb8))
      go_ret
      exact ⟨by simp, by first | exact HE.out _ HB8.out | exact hg0 ▸ HE.out _ HB8.out⟩
    | false =>
      have HDD := Lib.hid hd
      have HRX := Lib.hid (HRDV.out hd)
      clear hd
      go_wp2_with (first
        | (go_at_call 16; refine (HSF.out _ (Below.refl _ _)).mono ?_; rintro _ w3 ⟨rfl, hb3⟩; have HB3 := Lib.hid hb3; obtain ⟨e0, e1, e2, e3, e4, e5⟩ := HALL2.out _ hb3; clear hb3 a0 a1 a2 a3 a4 a5)
        | (go_at_call 25; refine (HAT.out _ HB3.out).mono ?_; rintro _ w4 ⟨rfl, rfl⟩)
        | (go_at_call 24; refine (HDO.out _ HB3.out).mono ?_; rintro _ w5 ⟨rfl, ht5, hb5⟩; have HT5 := Lib.hid ht5; have HB5 := Lib.hid ((HB2.out.trans (below_base HB3.out HT2.out.base)).trans hb5); clear ht5 hb5)
        | (go_at_call 16; with_reducible refine (HSF2.out _ _ HT5.out).mono ?_; rintro _ w6 ⟨rfl, hb6⟩; rw [HSZ.out]; have HT6 := Lib.hid (HT5.out.below hb6); have HB6 := Lib.hid (HB5.out.trans (below_base hb6 HT5.out.base)); clear hb6)
        | (go_at_call 14; refine (HRD.out _ _ HT6.out).mono ?_; rintro _ w7 ⟨rfl, hb7⟩; rw [HRX.out]; have HT7 := Lib.hid (HT6.out.below hb7); have HB7 := Lib.hid (HB6.out.trans (below_base hb7 HT6.out.base)); clear hb7)
        | (go_at_call 18; refine (HDN.out _ _ HT7.out).mono ?_; rintro _ w8 ⟨rfl, hb8⟩; rw [HDD.out]; have HB8 := Lib.hid (HB7.out.trans (below_base hb8 HT7.out.base)); clear hb8))
      go_ret
      exact ⟨by simp, by first | exact HE.out _ HB8.out | exact hg0 ▸ HE.out _ HB8.out⟩
  · rw [hp] at HAT
    rw [hf] at HRDV
    dsimp only at HRDV
    have hj0 : (0 : Int) ≤ (j : Int) := by omega
    have hj1 : ¬ (j : Int) < 0 := by omega
    have hfl := (HT2.out.okR.each f (List.mem_of_getElem? hj)).2
    have hsum := add_str12 f.safe f.more (by omega)
    obtain ⟨L, hL⟩ : ∃ L, f.safe ++ f.more = L := ⟨_, rfl⟩
    rw [hL] at hsum HRDV
    have t3 : ((str L).toList == (str L).toList) = true := by simp
    have HCL := Lib.hid (fun W (hb : Below w2.heap.size w2 W) => t_cells (HT2.out.below hb))
    have hjl : j < R.files.length := (List.getElem?_eq_some_iff.1 hj).1
    obtain ⟨N, hN⟩ : ∃ N, R.files.length = N := ⟨_, rfl⟩
    rw [hN] at HCL hjl
    have hjN : (j : Int) < (N : Int) := by omega
    have HJ := Lib.hid hj
    clear hp hf hfl hL hN hj hfn
    go_upto_region 7 with (first
      | (go_at_call 16; refine (HSF.out _ (Below.refl _ _)).mono ?_; rintro _ w3 ⟨rfl, hb3⟩; have HB3 := Lib.hid hb3; clear hb3)
      | (go_at_call 25; refine (HAT.out _ HB3.out).mono ?_; rintro _ w4 ⟨rfl, rfl⟩))
    obtain ⟨-, xa, xc, xc1, xcc⟩ := HCL.out _ HB3.out
    obtain ⟨fb, off, rfl, -, xm1, xm2⟩ := xcc j f HJ.out
    clear xcc
    go_quiet (fail)
    have HBQ := Lib.hid (HB3.out.trans ((drewN_below w3 nq).mono HB3.out.size))
    obtain ⟨X, hX⟩ : ∃ X, w3.drewN nq = X := ⟨_, rfl⟩
    rw [hX] at HBQ ⊢
    obtain ⟨e0, e1, e2, e3, e4, e5⟩ := HALL2.out _ HBQ.out
    clear hX xc1 xm1 xm2 a0 a1 a2 a3 a4 a5 hjN
    cases hd : D'.down with
    | true =>
      have HDD := Lib.hid hd
      clear hd
      go_wp2_with (first
        | (go_at_call 24; refine (HDO.out _ HBQ.out).mono ?_; rintro _ w5 ⟨rfl, ht5, hb5⟩; have HT5 := Lib.hid ht5; have HB5 := Lib.hid ((HB2.out.trans (below_base HBQ.out HT2.out.base)).trans hb5); clear ht5 hb5)
        | (go_at_call 16; with_reducible refine (HSF2.out _ _ HT5.out).mono ?_; rintro _ w6 ⟨rfl, hb6⟩; rw [HSZ.out]; have HT6 := Lib.hid (HT5.out.below hb6); have HB6 := Lib.hid (HB5.out.trans (below_base hb6 HT5.out.base)); clear hb6)
        | (go_at_call 14; refine (HRD.out _ _ HT6.out).mono ?_; rintro _ w7 ⟨rfl, hb7⟩; generalize readD D' s = rr; have HT7 := Lib.hid (HT6.out.below hb7); have HB7 := Lib.hid (HB6.out.trans (below_base hb7 HT6.out.base)); clear hb7)
        | (go_at_call 18; refine (HDN.out _ _ HT7.out).mono ?_; rintro _ w8 ⟨rfl, hb8⟩; rw [HDD.out]; have HB8 := Lib.hid (HB7.out.trans (below_base hb8 HT7.out.base)); clear hb8))
      go_ret
      exact ⟨by simp, by first | exact HE.out _ HB8.out | exact hg0 ▸ HE.out _ HB8.out⟩
    | false =>
      have HDD := Lib.hid hd
      have HRX := Lib.hid (HRDV.out hd)
      clear hd
      go_wp2_with (first
        | (go_at_call 24; refine (HDO.out _ HBQ.out).mono ?_; rintro _ w5 ⟨rfl, ht5, hb5⟩; have HT5 := Lib.hid ht5; have HB5 := Lib.hid ((HB2.out.trans (below_base HBQ.out HT2.out.base)).trans hb5); clear ht5 hb5)
        | (go_at_call 16; with_reducible refine (HSF2.out _ _ HT5.out).mono ?_; rintro _ w6 ⟨rfl, hb6⟩; rw [HSZ.out]; have HT6 := Lib.hid (HT5.out.below hb6); have HB6 := Lib.hid (HB5.out.trans (below_base hb6 HT5.out.base)); clear hb6)
        | (go_at_call 14; refine (HRD.out _ _ HT6.out).mono ?_; rintro _ w7 ⟨rfl, hb7⟩; rw [HRX.out]; have HT7 := Lib.hid (HT6.out.below hb7); have HB7 := Lib.hid (HB6.out.trans (below_base hb7 HT6.out.base)); clear hb7)
        | (go_at_call 18; refine (HDN.out _ _ HT7.out).mono ?_; rintro _ w8 ⟨rfl, hb8⟩; rw [HDD.out]; have HB8 := Lib.hid (HB7.out.trans (below_base hb8 HT7.out.base)); clear hb8))
      go_ret
      exact ⟨by simp, by first | exact HE.out _ HB8.out | exact hg0 ▸ HE.out _ HB8.out⟩

theorem lifted (os : Os) (started : os.Started) (H : Type) (enc : TypeId × Value → H) :
    ReturnsInHanded {} Try.checked os 6 .any (Rows.diskApartSpec.pre6 enc Try.prog Try.f6 Rows.diskApartRow.domain false) (Rows.diskApartSpec.post enc Try.prog Try.f6 false true false false) := by
  refine returnsInHanded_of_change_sized (C := Try.checked) own started (by kernel_rfl) Try.func6
    (ChangeSpec.witness6 (enc := enc) (C := Try.checked) false ⟨#[], #[.slice none 0 0, .agg #[.int .i64 0, .string ⟨#[]⟩, .string ⟨#[]⟩, .string ⟨#[]⟩, .int .i64 0, .slice none 0 0], .string ⟨#[]⟩], []⟩ 8 (by kernel_rfl) (by kernel_rfl) (by kernel_rfl) (by kernel_rfl)) ?_
  intro W base args ds gs before hval0 hW hcnd hsz0 _
  have hsz : (DataW.weightsEach Try.prog (Try.f6.params.toList ++ Rows.diskApartSpec.plain.varTypes Try.prog) (ds ++ gs)).all (· ≤ reachBytes) = true := hsz0
  clear hsz0
  have hval : ∀ (j : Nat) t v, Try.f6.params[j]? = some t → args[j]? = some v → Value.okWide Try.prog W .any base t v := hval0
  have hW' := hW
  obtain ⟨p, q, hA0, hV, rfl, hfz, hnd⟩ := hW
  have hA : DataW.TrodAll enc Try.prog W 0 (fun _ => true) true Try.f6.params.toList args.toList ds p := hA0
  rw [Try.params6] at hA hval hsz
  obtain ⟨v0, vs0, d0, ds0, p0, q0, hargs, rfl, rfl, h0, r0⟩ := trodAll_cons hA
  obtain ⟨v1, vs1, d1, ds1, p1, q1, rfl, rfl, rfl, h1, r1⟩ := trodAll_cons r0
  obtain ⟨v2, vs2, d2, ds2, p2, q2, rfl, rfl, rfl, h2, r2⟩ := trodAll_cons r1
  obtain ⟨rfl, rfl, rfl⟩ := trodAll_nil r2
  obtain rfl : args = #[v0, v1, v2] := by cases args; simp_all
  have hb0 : Fits (P := Try.prog) 22 d0 := fun m hm => by
    have h := List.all_eq_true.1 hsz m (DataW.weights_mem_each (j := 0) (t := 22) rfl rfl m hm)
    simpa using h
  obtain ⟨as0, ns0, ks0, rfl⟩ := okWide_slice Try.underlying22 (hval 0 22 v0 rfl rfl)
  obtain ⟨fuel0, hf0⟩ := h0
  obtain ⟨l0, hu0⟩ := acts_el (c := .slice as0 ns0 ks0) (z := (d0, p0)) (by simpa [Value.cells] using hf0) hb0
  have hb1 : Fits (P := Try.prog) 52 d1 := fun m hm => by
    have h := List.all_eq_true.1 hsz m (DataW.weights_mem_each (j := 1) (t := 52) rfl rfl m hm)
    simpa using h
  obtain ⟨cs1, rfl, hcs1⟩ := okWide_struct Try.underlying52 (hval 1 52 v1 rfl rfl)
  obtain ⟨fuel1, hf1⟩ := h1
  obtain ⟨a1, kv1, hc1, hk1, hwf1⟩ := act_el (show DataW.trod enc Try.prog W 0 (fun _ => true) true fuel1 52 cs1.toList = some (d1, p1) from hf1) hb1
  obtain ⟨ls1⟩ := cs1
  obtain rfl : ls1 = _ := hc1
  obtain ⟨t2, rfl, rfl, rfl, ws2⟩ := open_string Try.underlying9 (hval 2 9 v2 rfl rfl) h2
  have hs2 : t2.data.toList.length ≤ 140737488355328 := by
    have h1 := sized_string hsz (j := 2) (t := 9) rfl rfl
    have h2 := reachBytes_lt
    omega
  have hw := walk l0 a1 t2.data.toList _ _ W hu0 hk1 hwf1 hs2
  rw [str_eq] at hw
  refine hw.mono fun e W' ⟨he, hb⟩ => ?_
  subst he
  exact ⟨_, rfl, post_law hW' hb laidOut rfl rfl rfl Try.underlying4 (by rw [Try.params6]; decide +kernel)⟩

theorem over : Rows.diskApartRow.holds Try.pinned (OpenSpec.ofChange Rows.diskApartSpec) :=
  OpenClaim.holds_of_wide 6 Try.f6 rfl rfl rfl rfl rfl rfl rfl ⟨rfl, rfl, rfl, rfl, rfl⟩ rfl rfl rfl rfl rfl (by kernel_rfl) Try.func6 (by kernel_rfl)
    (of_decide_eq_true (by kernel_rfl)) (by unfold Func.isWrapper; first | (rw [if_pos (by decide +kernel)]; kernel_rfl) | (rw [if_neg (by decide +kernel)]; exact ⟨rfl, rfl⟩))
    (fun os started H enc _ => lifted os started H enc)

theorem proved : Rows.DiskApartSaid := over
#print axioms proved
end Go.Proofs.Ythdchidlfeighaa.diskApart
