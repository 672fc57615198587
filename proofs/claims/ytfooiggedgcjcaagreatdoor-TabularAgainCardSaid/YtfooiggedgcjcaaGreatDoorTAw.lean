/-
  Layer 6: what must come at any rate, of its laws.
-/
import Derived.Test.YtfooiggedgcjcaaGreatDoorTSn
import Derived.Test.YtfooiggedgcjcaaGreatDoorTIq
import Derived.Test.YtfooiggedgcjcaaGreatDoorTEnd
import Derived.Test.YtfooiggedgcjcaaGreatDoorTBack
import Derived.Test.YtfooiggedgcjcaaGreatDoorESame
import Derived.Test.YtfooiggedgcjcaaGreatDoorRTb
import Derived.Deep.RegionHeld3
namespace Go.Proofs.YtfooiggedgcjcaaGreatDoor.T
open Go Go.RowKit Go.Proofs.YtfooiggedgcjcaaGreatDoor.B Go.Proofs.YtfooiggedgcjcaaGreatDoor.K Go.Proofs.YtfooiggedgcjcaaGreatDoor.E Go.Proofs.YtfooiggedgcjcaaGreatDoor.R
set_option linter.unusedVariables false
set_option maxRecDepth 100000

theorem samp_len : (shownT (sampleT [1])).length = 325 := by kernel_rfl
theorem two_err : parseT ipBack [115, 116, 97, 116, 101, 115, 32, 97, 10, 10, 118, 97, 114] = some (T.empty, 2, 6) := by kernel_rfl

theorem apart_of {vs : List Bs} (h : vs.Nodup) : I.Apart vs := fun i j s hi hj =>
  (List.getElem?_inj (List.getElem?_eq_some_iff.1 hi).1 h).1 (hi.trans hj.symm)

theorem back_says {t : Tb} (h : chk5 t = (0, 0, 0, 0)) {w : World} {x : Value} (hg : Globs w) (hx : SlB w x t.vars) (hl : (shownT t).length ≤ 8192) : parseT ipBack (shownT t) = some (normT t, 0, 0) :=
  parse_shown (may_of h) (fun c na h0 h4 hc => ipBack_is (by have := (fine_of h).vars; omega) hg hx hc (by omega) (apart_of (may_of h).vnd) (may_of h).vname) hl

theorem bnd_of {t : Tb} (h : chk5 t = (0, 0, 0, 0)) : Bnd t := by
  have hF := fine_of h
  have hM := may_of h
  refine ⟨by have := hF.states.2; omega, by have := hF.vars; omega, by have := hM.slen; have := hF.vars; omega, by have := hF.rules; omega, fun r hr => ⟨by have := (hF.from_ r hr).1; omega, by have := (hF.guards r hr).1; omega, fun e he => ?_, by have := (hF.steps r hr).1; omega, fun e he => ⟨by have := sets_few h r hr e he; omega, fun z hz => ?_⟩⟩⟩
  · have := (expr_len hM hr e.test ((hF.guards r hr).2 e he)).2; omega
  · have := (expr_len hM hr z.value ((hF.sets r hr e he z hz).2)).2; omega

theorem normT_twice (t : Tb) : normT (normT t) = normT t := by
  have h2 : ∀ r : Rl, normR (normR r) = normR r := fun r => by
    unfold normR
    simp only [List.map_map]
    congr 1
    refine List.map_congr_left fun p _ => ?_
    show stays (stays p) = stays p
    unfold stays
    by_cases h : p.to < 0
    · simp [h]
    · simp [h]
  unfold normT
  simp only [List.map_map]
  congr 1
  exact List.map_congr_left fun r _ => h2 r

theorem bnd_norm {t : Tb} (h : Bnd t) : Bnd (normT t) := by
  refine ⟨h.st, h.va, h.sa, by unfold normT; rw [List.length_map]; exact h.ru, fun r hr => ?_⟩
  obtain ⟨q, hq, rfl⟩ := List.mem_map.1 hr
  obtain ⟨l1, l2, l3, l4, l5⟩ := h.rl q hq
  refine ⟨l1, l2, l3, by unfold normR; rw [List.length_map]; exact l4, fun e he => ?_⟩
  obtain ⟨p, hp, rfl⟩ := List.mem_map.1 he
  exact l5 p hp
theorem samp_bnd : Bnd (normT (sampleT [1])) := bnd_norm (bnd_of sample_chk)

theorem show_fine {t : Tb} (h : chk5 t = (0, 0, 0, 0)) : showT t = shownT t := by unfold showT; rw [h]; rfl

set_option maxHeartbeats 2000000 in
theorem awake_any (w : World) (hG : Globs w) : Calls Tryz.prog 6 #[] w fun z w' => z = .returned (.bool true) ∧ Below w.heap.size w w' := by
  have HGL := Lib.hid hG
  clear hG
  go_enter Tryz.func6, Tryz.ntmps6
  go_wp2_with fail
  refine (sample_any w).mono ?_
  rintro _ w1 ⟨⟨G, rfl, ha, hge, hsz⟩, hb1⟩
  unfold sampVal
  have hn1 : SlN w1 (.slice (some ⟨G 30, 0, none⟩) 1 1) [1] := Sl.row (xs := [.int .i64 1]) ha.2.2.2.2.2.2.2.2.2.2.2.1 rfl
  have hT1 := samp_tb ha hn1
  have hwf := sample_wf [1] ⟨(by intro x hx; rcases List.mem_singleton.1 hx with rfl; exact ⟨by decide, by decide⟩), by decide⟩
  have HB1 := Lib.hid hb1
  obtain ⟨v1, hv1⟩ : ∃ v, G 1 = v := ⟨_, rfl⟩
  obtain ⟨v2, hv2⟩ : ∃ v, G 2 = v := ⟨_, rfl⟩
  obtain ⟨v3, hv3⟩ : ∃ v, G 3 = v := ⟨_, rfl⟩
  obtain ⟨v4, hv4⟩ : ∃ v, G 66 = v := ⟨_, rfl⟩
  rw [hv1, hv2, hv3, hv4] at hT1 ⊢
  have hG1 := HGL.out.below hb1
  have hsh := show_any (sampleT [1]) _ _ _ _ w1 hT1 hwf hG1.glob (by intro a l c e; injection e with e1 e2 e3; omega)
  rw [show_fine sample_chk, sample_chk] at hsh
  obtain ⟨_, _, _, _, he, -, hxs, -, -⟩ := id hT1
  injection he with e0 he; injection he with e1 he
  subst e1
  have hps := back_says sample_chk hG1 hxs (by rw [samp_len]; decide)
  obtain ⟨S, hS⟩ : ∃ S, shownT (sampleT [1]) = S := ⟨_, rfl⟩
  have hSl : S.length = 325 := by rw [← hS]; exact samp_len
  rw [hS] at hsh hps
  unfold sv at hsh
  have HSH := Lib.hid hsh
  have HP := Lib.hid (fun (W : World) (hb : Below w1.heap.size w1 W) => parse_any ipBack_ok S (by omega) (hG1.below hb) hps)
  have HP2 := Lib.hid (fun (W : World) (hb : Below w1.heap.size w1 W) => parse_any ipBack_ok [115, 116, 97, 116, 101, 115, 32, 97, 10, 10, 118, 97, 114] (by decide) (hG1.below hb) two_err)
  have hSS : (str S).size = 325 := by rw [str_size, hSl]
  clear ha hn1 hge hsz hb1 hv1 hv2 hv3 hv4 hT1 hwf hG1 hsh hxs hps hS hSl he e0
  go_wp2_with fail
  refine HSH.out.mono ?_
  rintro _ w2 ⟨rfl, hb2⟩
  go_wp2_with fail
  refine (HP.out w2 hb2).mono ?_
  rintro _ w3 ⟨a, b, c, d, rfl, hb3, htb3, -⟩
  have htb := htb3
  obtain ⟨_, _, _, _, he, hs, hx, hm, hr⟩ := htb3
  injection he with e0 he; injection he with e1 he; injection he with e2 he; injection he with e3 he
  subst e0 e1 e2 e3; clear he
  obtain ⟨aS, kS, rfl⟩ := sl_len hs
  obtain ⟨aX, kX, rfl⟩ := sl_len hx
  obtain ⟨aM, kM, rfl⟩ := sl_len hm
  obtain ⟨aR, kR, rfl, -⟩ := hr.open
  clear hs hx hm hr
  obtain ⟨NS, hNS⟩ : ∃ N, ((normT (sampleT [1])).states.map sv).length = N := ⟨_, rfl⟩
  obtain ⟨NX, hNX⟩ : ∃ N, ((normT (sampleT [1])).vars.map sv).length = N := ⟨_, rfl⟩
  obtain ⟨NM, hNM⟩ : ∃ N, ((normT (sampleT [1])).start.map fun n => Value.int .i64 n).length = N := ⟨_, rfl⟩
  obtain ⟨NR, hNR⟩ : ∃ N, (normT (sampleT [1])).rules.length = N := ⟨_, rfl⟩
  rw [hNS, hNX, hNM, hNR] at htb ⊢
  have HTB := Lib.hid htb
  have HB3 := Lib.hid (hb2.trans (hb3.mono hb2.size))
  clear hNS hNX hNM hNR htb hb2 hb3 HSH HP
  obtain ⟨g3, hg3⟩ : ∃ g, w3.heap.size = g := ⟨_, rfl⟩
  obtain ⟨W4, hW4⟩ : ∃ W, w3.alloc (.cells #[.slice aS NS kS, .slice aX NX kX, .slice aM NM kM, .slice aR NR kR] 26) = W := ⟨_, rfl⟩
  have hB4 : Below w3.heap.size w3 W4 := by rw [← hW4]; exact below_alloc _ _
  have k0 : W4.cell? ⟨g3, 0, none⟩ = some (.slice aS NS kS) := by rw [← hW4, ← hg3]; exact box_cell _ _ _ _ _ rfl
  have k1 : W4.cell? ⟨g3, 1, none⟩ = some (.slice aX NX kX) := by rw [← hW4, ← hg3]; exact box_cell _ _ _ _ _ rfl
  have k2 : W4.cell? ⟨g3, 2, none⟩ = some (.slice aM NM kM) := by rw [← hW4, ← hg3]; exact box_cell _ _ _ _ _ rfl
  have k3 : W4.cell? ⟨g3, 3, none⟩ = some (.slice aR NR kR) := by rw [← hW4, ← hg3]; exact box_cell _ _ _ _ _ rfl
  have hB34 := HB3.out.trans (hB4.mono HB3.out.size)
  have HB4 := Lib.hid hB4
  have HB34 := Lib.hid hB34
  clear hB4 hB34
  go_wp2_with fail
  refine (HP2.out W4 HB34.out).mono ?_
  rintro _ w5 ⟨a, b, c, d, rfl, hb5, htb5, -⟩
  obtain ⟨_, _, _, _, he, hs, hx, hm, hr⟩ := htb5
  injection he with e0 he; injection he with e1 he; injection he with e2 he; injection he with e3 he
  subst e0 e1 e2 e3; clear he
  obtain ⟨bS, lS, rfl⟩ := sl_len hs
  obtain ⟨bX, lX, rfl⟩ := sl_len hx
  obtain ⟨bM, lM, rfl⟩ := sl_len hm
  obtain ⟨bR, lR, rfl, -⟩ := hr.open
  clear hs hx hm hr
  obtain ⟨MS, hMS⟩ : ∃ N, (T.empty.states.map sv).length = N := ⟨_, rfl⟩
  obtain ⟨MX, hMX⟩ : ∃ N, (T.empty.vars.map sv).length = N := ⟨_, rfl⟩
  obtain ⟨MM, hMM⟩ : ∃ N, (T.empty.start.map fun n => Value.int .i64 n).length = N := ⟨_, rfl⟩
  obtain ⟨MR, hMR⟩ : ∃ N, T.empty.rules.length = N := ⟨_, rfl⟩
  rw [hMS, hMX, hMM, hMR]
  have q0 := kept_cell hb5 k0
  have q1 := kept_cell hb5 k1
  have q2 := kept_cell hb5 k2
  have q3 := kept_cell hb5 k3
  have HB45 := Lib.hid (HB4.out.trans (hb5.mono HB4.out.size))
  clear k0 k1 k2 k3 hb5 hMS hMX hMM hMR HP2 hW4 HB34
  obtain ⟨W6, hW6⟩ : ∃ W, w5.alloc (.cells #[.slice bS MS lS, .slice bX MX lX, .slice bM MM lM, .slice bR MR lR] 26) = W := ⟨_, rfl⟩
  have hb6 : Below w5.heap.size w5 W6 := by rw [← hW6]; exact below_alloc _ _
  have z0 := kept_cell hb6 q0
  have z1 := kept_cell hb6 q1
  have z2 := kept_cell hb6 q2
  have z3 := kept_cell hb6 q3
  have hB36 := HB45.out.trans (hb6.mono HB45.out.size)
  have hT6 := HTB.out.below hB36
  have hB16 := HB3.out.trans (hB36.mono HB3.out.size)
  have HB6 := Lib.hid (HB1.out.trans (hB16.mono HB1.out.size))
  have HKP := Lib.hid (fun (Wa Wb : World) (hb : Below Wa.heap.size Wa Wb) (h : Wa.cell? ⟨g3, 0, none⟩ = some (.slice aS NS kS) ∧ Wa.cell? ⟨g3, 1, none⟩ = some (.slice aX NX kX) ∧ Wa.cell? ⟨g3, 2, none⟩ = some (.slice aM NM kM) ∧ Wa.cell? ⟨g3, 3, none⟩ = some (.slice aR NR kR) ∧ Below W6.heap.size W6 Wa) => show Wb.cell? ⟨g3, 0, none⟩ = some (.slice aS NS kS) ∧ Wb.cell? ⟨g3, 1, none⟩ = some (.slice aX NX kX) ∧ Wb.cell? ⟨g3, 2, none⟩ = some (.slice aM NM kM) ∧ Wb.cell? ⟨g3, 3, none⟩ = some (.slice aR NR kR) ∧ Below W6.heap.size W6 Wb from ⟨kept_cell hb h.1, kept_cell hb h.2.1, kept_cell hb h.2.2.1, kept_cell hb h.2.2.2.1, h.2.2.2.2.trans (hb.mono h.2.2.2.2.size)⟩)
  have HCS := Lib.hid (fun (W : World) (hS : W.cell? ⟨g3, 0, none⟩ = some (.slice aS NS kS) ∧ W.cell? ⟨g3, 1, none⟩ = some (.slice aX NX kX) ∧ W.cell? ⟨g3, 2, none⟩ = some (.slice aM NM kM) ∧ W.cell? ⟨g3, 3, none⟩ = some (.slice aR NR kR) ∧ Below W6.heap.size W6 W) => (sample_any W).mono (fun z w' (hz : SampIs W z w' ∧ Below W.heap.size W w') => show (∃ v1 v2 v3 v4, z = .returned (.agg #[.slice (some ⟨v1, 0, none⟩) 3 3, .slice (some ⟨v2, 0, none⟩) 2 2, .slice (some ⟨v3, 0, none⟩) 2 2, .slice (some ⟨v4, 0, none⟩) 4 4]) ∧ Hid (TbIs w' [.slice (some ⟨v1, 0, none⟩) 3 3, .slice (some ⟨v2, 0, none⟩) 2 2, .slice (some ⟨v3, 0, none⟩) 2 2, .slice (some ⟨v4, 0, none⟩) 4 4] (sampleT [1]))) ∧ w'.cell? ⟨g3, 0, none⟩ = some (.slice aS NS kS) ∧ w'.cell? ⟨g3, 1, none⟩ = some (.slice aX NX kX) ∧ w'.cell? ⟨g3, 2, none⟩ = some (.slice aM NM kM) ∧ w'.cell? ⟨g3, 3, none⟩ = some (.slice aR NR kR) ∧ Below W6.heap.size W6 w' from
    ⟨(by
      obtain ⟨⟨G, hzz, ha, -, -⟩, -⟩ := hz
      exact ⟨_, _, _, _, hzz, Lib.hid (samp_tb (fr := [1]) ha (Sl.row (xs := [.int .i64 1]) ha.2.2.2.2.2.2.2.2.2.2.2.1 rfl))⟩), HKP.out W w' hz.2 hS⟩))
  have HCM := Lib.hid (fun (W : World) (v1 v2 v3 v4 : Nat) (hT : Hid (TbIs W [.slice (some ⟨v1, 0, none⟩) 3 3, .slice (some ⟨v2, 0, none⟩) 2 2, .slice (some ⟨v3, 0, none⟩) 2 2, .slice (some ⟨v4, 0, none⟩) 4 4] (sampleT [1]))) (hS : W.cell? ⟨g3, 0, none⟩ = some (.slice aS NS kS) ∧ W.cell? ⟨g3, 1, none⟩ = some (.slice aX NX kX) ∧ W.cell? ⟨g3, 2, none⟩ = some (.slice aM NM kM) ∧ W.cell? ⟨g3, 3, none⟩ = some (.slice aR NR kR) ∧ Below W6.heap.size W6 W) => (same_any (normT (sampleT [1])) (sampleT [1]) (normT_twice _) _ _ _ _ _ _ _ _ W (hT6.below hS.2.2.2.2) hT.out samp_bnd).mono (fun z w' (hz : z = .returned (.bool true) ∧ Below W.heap.size W w') => show z = .returned (.bool true) ∧ w'.cell? ⟨g3, 0, none⟩ = some (.slice aS NS kS) ∧ w'.cell? ⟨g3, 1, none⟩ = some (.slice aX NX kX) ∧ w'.cell? ⟨g3, 2, none⟩ = some (.slice aM NM kM) ∧ w'.cell? ⟨g3, 3, none⟩ = some (.slice aR NR kR) ∧ Below W6.heap.size W6 w' from ⟨hz.1, HKP.out W w' hz.2 hS⟩))
  have HSD := Lib.hid (show W6.drew.cell? ⟨g3, 0, none⟩ = some (.slice aS NS kS) ∧ W6.drew.cell? ⟨g3, 1, none⟩ = some (.slice aX NX kX) ∧ W6.drew.cell? ⟨g3, 2, none⟩ = some (.slice aM NM kM) ∧ W6.drew.cell? ⟨g3, 3, none⟩ = some (.slice aR NR kR) ∧ Below W6.heap.size W6 W6.drew from ⟨z0, z1, z2, z3, (Below.refl _ _).drew⟩)
  clear q0 q1 q2 q3 hb6 HB45 HTB hB36 hB16 hT6 z0 z1 z2 z3
  go_upto_region 4 with fail
  try rw [hW6]
  clear hW6
  have hS0 : W6.drew.cell? ⟨g3, 0, none⟩ = some (.slice aS NS kS) ∧ W6.drew.cell? ⟨g3, 1, none⟩ = some (.slice aX NX kX) ∧ W6.drew.cell? ⟨g3, 2, none⟩ = some (.slice aM NM kM) ∧ W6.drew.cell? ⟨g3, 3, none⟩ = some (.slice aR NR kR) ∧ Below W6.heap.size W6 W6.drew := HSD.out
  go_region_held3 (fun Wz => Wz.cell? ⟨g3, 0, none⟩ = some (.slice aS NS kS) ∧ Wz.cell? ⟨g3, 1, none⟩ = some (.slice aX NX kX) ∧ Wz.cell? ⟨g3, 2, none⟩ = some (.slice aM NM kM) ∧ Wz.cell? ⟨g3, 3, none⟩ = some (.slice aR NR kR) ∧ Below W6.heap.size W6 Wz) (first | exact hS0 | assumption) (first
    | (go_at_call 17; ((with_reducible refine (HCS.out _ ?_).mono ?_); (first | exact hS0 | assumption)); rintro _ w7 ⟨⟨u1, u2, u3, u4, rfl, hT7⟩, hS1⟩)
    | (go_at_call 5; ((with_reducible refine (HCM.out _ _ _ _ _ ?_ ?_).mono ?_); (first | exact hT7); (first | exact hS1 | assumption)); rintro _ w8 ⟨rfl, hS2⟩))
  go_wp2_with fail
  go_ret
  exact ⟨rfl, HB6.out.trans (hS2.2.2.2.2.mono HB6.out.size)⟩
end Go.Proofs.YtfooiggedgcjcaaGreatDoor.T
