/-
  Layer 6: the law TabularBack, walked: what was shown is read as it was.
-/
import Derived.Test.YtjcajeehgjpmmaaGreatDoorTAw
import Derived.Test.YtjcajeehgjpmmaaGreatDoorTSh
namespace Go.Proofs.YtjcajeehgjpmmaaGreatDoor.T
open Go Go.RowKit Go.Proofs.YtjcajeehgjpmmaaGreatDoor.B Go.Proofs.YtjcajeehgjpmmaaGreatDoor.K Go.Proofs.YtjcajeehgjpmmaaGreatDoor.E Go.Proofs.YtjcajeehgjpmmaaGreatDoor.R
set_option linter.unusedVariables false
set_option maxRecDepth 100000

theorem chk5_norm {t : Tb} (h : chk5 t = (0, 0, 0, 0)) : chk5 (normT t) = (0, 0, 0, 0) := by
  obtain ⟨h1, h2⟩ := (chk5_zero t).1 h
  refine (chk5_zero (normT t)).2 ⟨?_, ?_⟩
  · have e : tableParts (normT t) = tableParts t := by
      unfold tableParts normT
      simp only [List.length_map]
    rw [e]; exact h1
  · intro k r hr
    have hr' : (t.rules.map normR)[k]? = some r := hr
    rw [List.getElem?_map] at hr'
    cases hq : t.rules[k]? with
    | none => rw [hq] at hr'; cases hr'
    | some q =>
      rw [hq] at hr'
      injection hr' with hr'
      subst hr'
      have h3 := h2 k q hq
      have hany : ((t.rules.map normR).take k).any (fun x => x.name == q.name) = (t.rules.take k).any fun x => x.name == q.name := by
        rw [← List.map_take, List.any_map]
        rfl
      have hst : ∀ j, stepBad t.states.length t.vars.length q.args (q.steps.map stays) j = stepBad t.states.length t.vars.length q.args q.steps j := by
        intro j
        unfold stepBad
        rw [List.getElem?_map]
        cases hp : q.steps[j]? with
        | none => rfl
        | some p =>
          show spBad _ _ _ (stays p) = spBad _ _ _ p
          unfold spBad stays
          by_cases hn : p.to < 0
          · simp only [hn, if_true]
            rw [if_neg (by omega), if_neg (by omega)]
          · simp only [hn, if_false]
      have e : ruleParts (normT t) k (normR q) = ruleParts t k q := by
        unfold ruleParts
        show [_, _, _, _, (⟨9, countE (q.steps.map stays).length 1 3, (q.steps.map stays).length, stepBad t.states.length t.vars.length q.args (q.steps.map stays)⟩ : Pt)] = _
        rw [show stepBad t.states.length t.vars.length q.args (q.steps.map stays) = stepBad t.states.length t.vars.length q.args q.steps from funext hst, List.length_map]
        show [(⟨5, nameE q.name (((t.rules.map normR).take k).any fun x => x.name == q.name), 0, fun _ => 0⟩ : Pt), _, _, _, _] = _
        rw [hany]
        rfl
      rw [e]
      exact h3

theorem wf_norm {t : Tb} (h : TbWf t) : TbWf (normT t) := by
  obtain ⟨h1, h2, h3, h4, h5⟩ := h
  refine ⟨h1, h2, h3, fun r hr => ?_, by show (t.rules.map normR).length ≤ _; rw [List.length_map]; exact h5⟩
  obtain ⟨q, hq, rfl⟩ := List.mem_map.1 hr
  obtain ⟨a, b, c, d, e, f⟩ := h4 q hq
  refine ⟨a, b, c, d, fun p' hp' => ?_, by show (q.steps.map stays).length ≤ _; rw [List.length_map]; exact f⟩
  obtain ⟨p, hp, rfl⟩ := List.mem_map.1 hp'
  obtain ⟨x, y, z⟩ := e p hp
  refine ⟨x, y, ?_⟩
  show I64 (stays p).to
  unfold stays
  unfold I64 at *
  by_cases hn : p.to < 0
  · simp only [hn, if_true]; omega
  · simp only [hn, if_false]; omega

set_option maxHeartbeats 4000000 in
theorem back_any (t : Tb) (c0 c1 c2 c3 : Value) (w : World) (h : TbIs w [c0, c1, c2, c3] t) (hw : TbWf t) (hG : Globs w) (hcs : ∀ a l c, c0 = .slice a l c → l ≤ c) :
    Calls Tryz.prog 4 #[.agg #[c0, c1, c2, c3]] w fun z w' => z = .returned (.bool true) ∧ Below w.heap.size w w' := by
  have HT := Lib.hid h
  have HW := Lib.hid hw
  have HGL := Lib.hid hG
  have hsh := fun (W : World) (hb : Below w.heap.size w W) => show_any t c0 c1 c2 c3 W (h.below hb) hw (hG.glob.below hb) hcs
  have hxs : SlB w c1 t.vars := by
    obtain ⟨_, _, _, _, he, -, hx, -, -⟩ := h
    injection he with _ he; injection he with e1 he
    subst e1; exact hx
  have hpo : chk5 t = (0, 0, 0, 0) → (shownT t).length ≤ 8192 → parseT ipBack (shownT t) = some (normT t, 0, 0) := fun hc hl => back_says hc hG.glob hxs hl
  have HPO := Lib.hid hpo
  obtain ⟨_, _, _, _, he, hs, hx, hm, hr⟩ := h
  injection he with e0 he; injection he with e1 he; injection he with e2 he; injection he with e3 he
  subst e0 e1 e2 e3; clear he
  obtain ⟨aS, kS, rfl⟩ := sl_len hs
  obtain ⟨aX, kX, rfl⟩ := sl_len hx
  obtain ⟨aM, kM, rfl⟩ := sl_len hm
  obtain ⟨aR, kR, rfl, -⟩ := hr.open
  clear hs hx hm hr hxs hpo hcs hw hG
  obtain ⟨NS, hNS⟩ : ∃ N, (t.states.map sv).length = N := ⟨_, rfl⟩
  obtain ⟨NX, hNX⟩ : ∃ N, (t.vars.map sv).length = N := ⟨_, rfl⟩
  obtain ⟨NM, hNM⟩ : ∃ N, (t.start.map fun n => Value.int .i64 n).length = N := ⟨_, rfl⟩
  obtain ⟨NR, hNR⟩ : ∃ N, t.rules.length = N := ⟨_, rfl⟩
  rw [hNS, hNX, hNM, hNR] at HT hsh ⊢
  obtain ⟨W1, hW1⟩ : ∃ W, w.alloc (.cells #[.slice aS NS kS, .slice aX NX kX, .slice aM NM kM, .slice aR NR kR] 26) = W := ⟨_, rfl⟩
  obtain ⟨g1, hg1⟩ : ∃ g, w.heap.size = g := ⟨_, rfl⟩
  have hB1 : Below w.heap.size w W1 := by rw [← hW1]; exact below_alloc _ _
  have a0 : W1.cell? ⟨g1, 0, none⟩ = some (.slice aS NS kS) := by rw [← hW1, ← hg1]; exact box_cell _ _ _ _ _ rfl
  have a1 : W1.cell? ⟨g1, 1, none⟩ = some (.slice aX NX kX) := by rw [← hW1, ← hg1]; exact box_cell _ _ _ _ _ rfl
  have a2 : W1.cell? ⟨g1, 2, none⟩ = some (.slice aM NM kM) := by rw [← hW1, ← hg1]; exact box_cell _ _ _ _ _ rfl
  have a3 : W1.cell? ⟨g1, 3, none⟩ = some (.slice aR NR kR) := by rw [← hW1, ← hg1]; exact box_cell _ _ _ _ _ rfl
  have HB1 := Lib.hid hB1
  have HAW := Lib.hid (fun (W : World) (hb : Below w.heap.size w W) => awake_any W (HGL.out.below hb))
  have hsh1 := hsh W1 hB1
  clear hNS hNX hNM hNR hB1 hsh
  by_cases hc : (chk5 t).1 = 0
  · have hc0 := chk5_first t hc
    rw [show_fine hc0, hc0] at hsh1
    have hlen := shown_len hc0
    obtain ⟨S, hS⟩ : ∃ S, shownT t = S := ⟨_, rfl⟩
    rw [hS] at hsh1 hlen HPO
    obtain ⟨k, hk⟩ : ∃ k, S.length = k := ⟨_, rfl⟩
    have hsz : (str S).size = k := by rw [str_size]; exact hk
    rw [hk] at hlen HPO
    have HC0 := Lib.hid hc0
    have HK := Lib.hid (And.intro hk hlen)
    unfold sv at hsh1
    have HSH := Lib.hid hsh1
    clear hc hc0 hS hsh1 hlen hk
    by_cases hlt : 8192 < k
    · have hltI : (8192 : Int) < (k : Int) := by omega
      have hps : parseT ipBack S = some (T.empty, 0, 4) := by unfold parseT; rw [if_pos (by rw [HK.out.1]; exact hlt)]
      have HP := Lib.hid (fun (W : World) (hb : Below w.heap.size w W) => parse_any ipBack_ok S (by have := HK.out.1; have := HK.out.2; omega) (HGL.out.below hb) hps)
      unfold sv at HP
      clear hps
      go_enter Tryz.func4, Tryz.ntmps4
      go_wp2_with fail
      refine HSH.out.mono ?_
      rintro _ w2 ⟨rfl, hb2⟩
      have HB2 := Lib.hid (HB1.out.trans (hb2.mono HB1.out.size))
      have f0 := kept_cell hb2 a0
      have f1 := kept_cell hb2 a1
      have f2 := kept_cell hb2 a2
      have f3 := kept_cell hb2 a3
      clear hb2 HSH hW1 a0 a1 a2 a3
      go_wp2_with fail
      refine (HAW.out w2 HB2.out).mono ?_
      rintro _ w3 ⟨rfl, hb3⟩
      have HB3 := Lib.hid (HB2.out.trans (hb3.mono HB2.out.size))
      have p0 := kept_cell hb3 f0
      have p1 := kept_cell hb3 f1
      have p2 := kept_cell hb3 f2
      have p3 := kept_cell hb3 f3
      clear hb3 f0 f1 f2 f3
      go_wp2_with fail
      refine (HP.out w3 HB3.out).mono ?_
      rintro _ w4 ⟨a, b, c, d, rfl, hb4, htb4⟩
      obtain ⟨_, _, _, _, he, hs, hx, hm, hr⟩ := htb4
      injection he with e0 he; injection he with e1 he; injection he with e2 he; injection he with e3 he
      subst e0 e1 e2 e3; clear he
      obtain ⟨bS, lS, rfl⟩ := sl_len hs
      obtain ⟨bX, lX, rfl⟩ := sl_len hx
      obtain ⟨bM, lM, rfl⟩ := sl_len hm
      obtain ⟨bR, lR, rfl, -⟩ := hr.open
      clear hs hx hm hr
      obtain ⟨MS, hMS⟩ : ∃ N, (T.empty.states.map sv).length = N := ⟨_, rfl⟩
      obtain ⟨MX, hMX⟩ : ∃ N, (T.empty.vars.map sv).length = N := ⟨_, rfl⟩
      obtain ⟨MM, hMM⟩ : ∃ N, (T.empty.start.map fun n => Value.int .i64 n).length = N := ⟨_, rfl⟩
      obtain ⟨MR, hMR⟩ : ∃ N, T.empty.rules.length = N := ⟨_, rfl⟩
      rw [hMS, hMX, hMM, hMR]
      have HB4 := Lib.hid (HB3.out.trans (hb4.mono HB3.out.size))
      clear hMS hMX hMM hMR hb4 p0 p1 p2 p3 HB1 HB2 HP HAW
      go_wp2_with fail
      go_ret
      exact ⟨rfl, HB4.out.trans ((below_alloc _ _).mono HB4.out.size)⟩
    · have hltI : ¬ (8192 : Int) < (k : Int) := by omega
      have hps := HPO.out HC0.out (by omega)
      have HP := Lib.hid (fun (W : World) (hb : Below w.heap.size w W) => parse_any ipBack_ok S (by have := HK.out.1; have := HK.out.2; omega) (HGL.out.below hb) hps)
      unfold sv at HP
      clear hps
      go_enter Tryz.func4, Tryz.ntmps4
      go_wp2_with fail
      refine HSH.out.mono ?_
      rintro _ w2 ⟨rfl, hb2⟩
      have HB2 := Lib.hid (HB1.out.trans (hb2.mono HB1.out.size))
      have f0 := kept_cell hb2 a0
      have f1 := kept_cell hb2 a1
      have f2 := kept_cell hb2 a2
      have f3 := kept_cell hb2 a3
      clear hb2 HSH hW1 a0 a1 a2 a3
      go_wp2_with fail
      refine (HAW.out w2 HB2.out).mono ?_
      rintro _ w3 ⟨rfl, hb3⟩
      have HB3 := Lib.hid (HB2.out.trans (hb3.mono HB2.out.size))
      have p0 := kept_cell hb3 f0
      have p1 := kept_cell hb3 f1
      have p2 := kept_cell hb3 f2
      have p3 := kept_cell hb3 f3
      clear hb3 f0 f1 f2 f3
      go_wp2_with fail
      refine (HP.out w3 HB3.out).mono ?_
      rintro _ w4 ⟨a, b, c, d, rfl, hb4, htb4⟩
      have htb := htb4
      obtain ⟨_, _, _, _, he, hs, hx, hm, hr⟩ := htb4
      injection he with e0 he; injection he with e1 he; injection he with e2 he; injection he with e3 he
      subst e0 e1 e2 e3; clear he
      obtain ⟨bS, lS, rfl⟩ := sl_len hs
      obtain ⟨bX, lX, rfl⟩ := sl_len hx
      obtain ⟨bM, lM, rfl⟩ := sl_len hm
      obtain ⟨bR, lR, rfl, -⟩ := hr.open
      clear hs hx hm hr
      obtain ⟨MS, hMS⟩ : ∃ N, ((normT t).states.map sv).length = N := ⟨_, rfl⟩
      obtain ⟨MX, hMX⟩ : ∃ N, ((normT t).vars.map sv).length = N := ⟨_, rfl⟩
      obtain ⟨MM, hMM⟩ : ∃ N, ((normT t).start.map fun n => Value.int .i64 n).length = N := ⟨_, rfl⟩
      obtain ⟨MR, hMR⟩ : ∃ N, (normT t).rules.length = N := ⟨_, rfl⟩
      rw [hMS, hMX, hMM, hMR] at htb ⊢
      have HB4 := Lib.hid (HB3.out.trans (hb4.mono HB3.out.size))
      have q0 := kept_cell hb4 p0
      have q1 := kept_cell hb4 p1
      have q2 := kept_cell hb4 p2
      have q3 := kept_cell hb4 p3
      obtain ⟨g4, hg4⟩ : ∃ g, w4.heap.size = g := ⟨_, rfl⟩
      obtain ⟨W5, hW5⟩ : ∃ W, w4.alloc (.cells #[.slice bS MS lS, .slice bX MX lX, .slice bM MM lM, .slice bR MR lR] 26) = W := ⟨_, rfl⟩
      have hB5 : Below w4.heap.size w4 W5 := by rw [← hW5]; exact below_alloc _ _
      have b0 : W5.cell? ⟨g4, 0, none⟩ = some (.slice bS MS lS) := by rw [← hW5, ← hg4]; exact box_cell _ _ _ _ _ rfl
      have b1 : W5.cell? ⟨g4, 1, none⟩ = some (.slice bX MX lX) := by rw [← hW5, ← hg4]; exact box_cell _ _ _ _ _ rfl
      have b2 : W5.cell? ⟨g4, 2, none⟩ = some (.slice bM MM lM) := by rw [← hW5, ← hg4]; exact box_cell _ _ _ _ _ rfl
      have b3 : W5.cell? ⟨g4, 3, none⟩ = some (.slice bR MR lR) := by rw [← hW5, ← hg4]; exact box_cell _ _ _ _ _ rfl
      have m0 := kept_cell hB5 q0
      have m1 := kept_cell hB5 q1
      have m2 := kept_cell hB5 q2
      have m3 := kept_cell hB5 q3
      have HB5 := Lib.hid (HB4.out.trans (hB5.mono HB4.out.size))
      have hT5 := htb.below hB5
      have HSM := Lib.hid (same_any t (normT t) (normT_twice t).symm _ _ _ _ _ _ _ _ W5 (HT.out.below HB5.out) hT5 (bnd_of HC0.out))
      have hck := fun (W : World) (hb : Below W5.heap.size W5 W) => check_any (normT t) _ _ _ _ W (hT5.below hb) (wf_norm HW.out) (HGL.out.glob.below (HB5.out.trans (hb.mono HB5.out.size)))
      rw [chk5_norm HC0.out] at hck
      unfold Ft.v at hck
      have HCK := Lib.hid hck
      clear hMS hMX hMM hMR hb4 p0 p1 p2 p3 q0 q1 q2 q3 hB5 hT5 htb hck HB1 HB2 HP HAW
      go_wp2_with fail
      try rw [hW5]
      refine HSM.out.mono ?_
      rintro _ w6 ⟨rfl, hb6⟩
      have n0 := kept_cell hb6 b0
      have n1 := kept_cell hb6 b1
      have n2 := kept_cell hb6 b2
      have n3 := kept_cell hb6 b3
      have HB6 := Lib.hid hb6
      clear hW5 hb6 b0 b1 b2 b3 m0 m1 m2 m3
      go_wp2_with fail
      refine (HCK.out w6 HB6.out).mono ?_
      rintro _ w7 ⟨rfl, hb7⟩
      have HB7 := Lib.hid (HB5.out.trans ((HB6.out.trans (hb7.mono HB6.out.size)).mono HB5.out.size))
      clear hb7
      go_wp2_with fail
      go_ret
      exact ⟨rfl, HB7.out⟩
  · have hse : showT t = [] := by unfold showT; rw [if_neg hc]
    rw [hse] at hsh1
    obtain ⟨e, he⟩ : ∃ e, (chk5 t).1 = e := ⟨_, rfl⟩
    rw [he] at hsh1 hc
    have HSH := Lib.hid hsh1
    clear hse hsh1 he
    go_enter Tryz.func4, Tryz.ntmps4
    go_wp2_with fail
    refine HSH.out.mono ?_
    rintro _ w2 ⟨rfl, hb2⟩
    have HB2 := Lib.hid (HB1.out.trans (hb2.mono HB1.out.size))
    have f0 := kept_cell hb2 a0
    have f1 := kept_cell hb2 a1
    have f2 := kept_cell hb2 a2
    have f3 := kept_cell hb2 a3
    clear hb2 HSH hW1 a0 a1 a2 a3
    go_wp2_with fail
    refine (HAW.out w2 HB2.out).mono ?_
    rintro _ w3 ⟨rfl, hb3⟩
    have HB3 := Lib.hid (HB2.out.trans (hb3.mono HB2.out.size))
    have p0 := kept_cell hb3 f0
    have p1 := kept_cell hb3 f1
    have p2 := kept_cell hb3 f2
    have p3 := kept_cell hb3 f3
    clear hb3 f0 f1 f2 f3
    clear p0 p1 p2 p3
    go_wp2_with fail
    refine (HAW.out w3 HB3.out).mono ?_
    rintro _ w4 ⟨rfl, hb4⟩
    have HB4 := Lib.hid (HB3.out.trans (hb4.mono HB3.out.size))
    clear hb4
    go_wp2_with fail
    go_ret
    exact ⟨rfl, HB4.out⟩
end Go.Proofs.YtjcajeehgjpmmaaGreatDoor.T
