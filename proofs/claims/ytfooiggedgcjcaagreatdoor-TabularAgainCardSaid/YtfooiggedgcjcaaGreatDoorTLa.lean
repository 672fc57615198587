/-
  Layer 6: the law TabularAgain, walked: what was read is shown, read and shown the same; lines that say nothing change nothing.
-/
import Derived.Test.YtfooiggedgcjcaaGreatDoorTAw
import Derived.Test.YtfooiggedgcjcaaGreatDoorTEnd
import Derived.Test.YtfooiggedgcjcaaGreatDoorTNorm
import Derived.Deep.DeepCutAuto
namespace Go.Proofs.YtfooiggedgcjcaaGreatDoor.T
open Go Go.RowKit Go.Proofs.YtfooiggedgcjcaaGreatDoor.B Go.Proofs.YtfooiggedgcjcaaGreatDoor.K Go.Proofs.YtfooiggedgcjcaaGreatDoor.E Go.Proofs.YtfooiggedgcjcaaGreatDoor.R
set_option linter.unusedVariables false
set_option maxRecDepth 100000

theorem chk5_norm {t : Tb} (h : chk5 t = (0, 0, 0, 0)) : chk5 (normT t) = (0, 0, 0, 0) := by
  obtain ⟨h1, h2⟩ := (chk5_zero t).1 h
  refine (chk5_zero (normT t)).2 ⟨?_, ?_⟩
  · have e : tableParts (normT t) = tableParts t := by
      unfold tableParts normT
      simp only [List.length_map]
    rw [e]; exact h1
  · intro k r hr
    have hr' : (t.rules.map normR)[k]? = some r := hr
    rw [List.getElem?_map] at hr'
    cases hq : t.rules[k]? with
    | none => rw [hq] at hr'; cases hr'
    | some q =>
      rw [hq] at hr'
      injection hr' with hr'
      subst hr'
      have h3 := h2 k q hq
      have hany : ((t.rules.map normR).take k).any (fun x => x.name == q.name) = (t.rules.take k).any fun x => x.name == q.name := by
        rw [← List.map_take, List.any_map]
        rfl
      have hst : ∀ j, stepBad t.states.length t.vars.length q.args (q.steps.map stays) j = stepBad t.states.length t.vars.length q.args q.steps j := by
        intro j
        unfold stepBad
        rw [List.getElem?_map]
        cases hp : q.steps[j]? with
        | none => rfl
        | some p =>
          show spBad _ _ _ (stays p) = spBad _ _ _ p
          unfold spBad stays
          by_cases hn : p.to < 0
          · simp only [hn, if_true]
            rw [if_neg (by omega), if_neg (by omega)]
          · simp only [hn, if_false]
      have e : ruleParts (normT t) k (normR q) = ruleParts t k q := by
        unfold ruleParts
        show [_, _, _, _, (⟨9, countE (q.steps.map stays).length 1 3, (q.steps.map stays).length, stepBad t.states.length t.vars.length q.args (q.steps.map stays)⟩ : Pt)] = _
        rw [show stepBad t.states.length t.vars.length q.args (q.steps.map stays) = stepBad t.states.length t.vars.length q.args q.steps from funext hst, List.length_map]
        show [(⟨5, nameE q.name (((t.rules.map normR).take k).any fun x => x.name == q.name), 0, fun _ => 0⟩ : Pt), _, _, _, _] = _
        rw [hany]
        rfl
      rw [e]
      exact h3

theorem wf_norm {t : Tb} (h : TbWf t) : TbWf (normT t) := by
  obtain ⟨h1, h2, h3, h4, h5⟩ := h
  refine ⟨h1, h2, h3, fun r hr => ?_, by show (t.rules.map normR).length ≤ _; rw [List.length_map]; exact h5⟩
  obtain ⟨q, hq, rfl⟩ := List.mem_map.1 hr
  obtain ⟨a, b, c, d, e, f⟩ := h4 q hq
  refine ⟨a, b, c, d, fun p' hp' => ?_, by show (q.steps.map stays).length ≤ _; rw [List.length_map]; exact f⟩
  obtain ⟨p, hp, rfl⟩ := List.mem_map.1 hp'
  obtain ⟨x, y, z⟩ := e p hp
  refine ⟨x, y, ?_⟩
  show I64 (stays p).to
  unfold stays
  unfold I64 at *
  by_cases hn : p.to < 0
  · simp only [hn, if_true]; omega
  · simp only [hn, if_false]; omega

set_option maxHeartbeats 1000000 in
theorem parse_huge (s : Bs) (w : World) (hl : 8192 < s.length) : Calls Tryz.prog 4 #[sv s] w (PaOut w.heap.size w empty 0 4) := by
  have hsz : (str s).size = s.length := str_size s
  obtain ⟨k, hk⟩ : ∃ k, s.length = k := ⟨_, rfl⟩
  rw [hk] at hsz hl
  have hltI : (8192 : Int) < (k : Int) := by omega
  unfold sv
  clear hk hl
  go_enter Tryz.func4, Tryz.ntmps4
  go_wp2_with fail
  go_step3
  go_wp2_with fail
  try rw [Exit.noGoto_ret]
  refine bodyPost_ret (v := .tuple #[.agg #[.slice none 0 0, .slice none 0 0, .slice none 0 0, .slice none 0 0], .int .i64 0, .int .i64 4]) (by simp [results, Tryz.results4, go_sem]) rfl ⟨_, _, _, _, rfl, grown_new w _, tb_empty _, cap_none⟩

/-- What Parse answers of any text. -/
theorem parse_all (s : Bs) (w : World) (hg : Globs w) {t : Tb} {n : Nat} {e : Int} (hp : parseT ipT s = some (t, n, e)) : Calls Tryz.prog 4 #[sv s] w (PaOut w.heap.size w t n e) := by
  by_cases hl : 8192 < s.length
  · unfold parseT at hp
    rw [if_pos hl] at hp
    cases hp
    exact parse_huge s w hl
  · exact parse_any ipT_ok s (by omega) hg hp

theorem tb_shape {w : World} {a b c d : Value} {t : Tb} (h : TbIs w [a, b, c, d] t) : ∃ aS nS kS aX nX kX aM nM kM aR nR kR, a = .slice aS nS kS ∧ b = .slice aX nX kX ∧ c = .slice aM nM kM ∧ d = .slice aR nR kR := by
  obtain ⟨_, _, _, _, he, hs, hx, hm, hr⟩ := h
  injection he with e0 he; injection he with e1 he; injection he with e2 he; injection he with e3 he
  subst e0 e1 e2 e3
  obtain ⟨aS, kS, rfl⟩ := sl_len hs
  obtain ⟨aX, kX, rfl⟩ := sl_len hx
  obtain ⟨aM, kM, rfl⟩ := sl_len hm
  obtain ⟨aR, kR, rfl, -⟩ := hr.open
  exact ⟨_, _, _, _, _, _, _, _, _, _, _, _, rfl, rfl, rfl, rfl⟩

/-- A table's four lists in a block. -/
def BxT (W : World) (g : Nat) (a b c d : Value) : Prop := W.heap[g]? = some (.cells #[a, b, c, d] 26 (0, 0))
theorem BxT.cells {W : World} {g : Nat} {a b c d : Value} (h : BxT W g a b c d) : W.cell? ⟨g, 0, none⟩ = some a ∧ W.cell? ⟨g, 1, none⟩ = some b ∧ W.cell? ⟨g, 2, none⟩ = some c ∧ W.cell? ⟨g, 3, none⟩ = some d := by
  unfold BxT at h
  refine ⟨?_, ?_, ?_, ?_⟩ <;> simp [World.cell?, h]
theorem BxT.below {W W' : World} {g : Nat} {a b c d : Value} (h : BxT W g a b c d) (hb : Below W.heap.size W W') : BxT W' g a b c d := (hb.block _ (Array.getElem?_eq_some_iff.1 h).1).trans h
theorem bxt_new (w : World) (a b c d : Value) : BxT (w.alloc (.cells #[a, b, c, d] 26)) w.heap.size a b c d := heap_alloc_at _ _

set_option maxHeartbeats 8000000 in
theorem again_any (s : Bs) (w : World) (hG : Globs w) : Calls Tryz.prog 3 #[sv s] w fun z w' => z = .returned (.bool true) ∧ Below w.heap.size w w' := by
  obtain ⟨t, n, e, hp⟩ := parseT_some s
  obtain ⟨m, hm, hS⟩ := parseT_in ipT_s hp
  have HGL := Lib.hid hG
  have HS := Lib.hid (And.intro hm hS)
  have HP := Lib.hid (fun (W : World) (hb : Below w.heap.size w W) => parse_all s W (hG.below hb) hp)
  have HAW := Lib.hid (fun (W : World) (hb : Below w.heap.size w W) => awake_any W (hG.below hb))
  have HPP := Lib.hid hp
  obtain ⟨k, hk⟩ : ∃ k, s.length = k := ⟨_, rfl⟩
  have hsz : (str s).size = k := by rw [str_size]; exact hk
  have HK := Lib.hid hk
  have HP0 := Lib.hid (HP.out w (Below.refl _ _))
  unfold sv at HP0 ⊢
  clear hG hp hm hS hk
  go_enter Tryz.func3, Tryz.ntmps3
  go_wp2_with fail
  refine HP0.out.mono ?_
  rintro _ w1 ⟨a, b, c, d, rfl, hb1, ht1, hc1⟩
  obtain ⟨aS, nS, kS, aX, nX, kX, aM, nM, kM, aR, nR, kR, rfl, rfl, rfl, rfl⟩ := tb_shape ht1
  have HT1 := Lib.hid (ht1.below (below_alloc w1 (.cells #[.slice aS nS kS, .slice aX nX kX, .slice aM nM kM, .slice aR nR kR] 26)))
  have HX1 := Lib.hid (bxt_new w1 (.slice aS nS kS) (.slice aX nX kX) (.slice aM nM kM) (.slice aR nR kR))
  have HB2 := Lib.hid (hb1.trans ((below_alloc w1 (.cells #[.slice aS nS kS, .slice aX nX kX, .slice aM nM kM, .slice aR nR kR] 26)).mono hb1.size))
  have HC1 := Lib.hid hc1
  obtain ⟨W2, hW2⟩ : ∃ W, w1.alloc (.cells #[.slice aS nS kS, .slice aX nX kX, .slice aM nM kM, .slice aR nR kR] 26) = W := ⟨_, rfl⟩
  rw [hW2] at HT1 HX1 HB2
  clear hb1 ht1 hc1 HP0
  go_upto_if 27 with fail
  obtain ⟨g, hg⟩ : ∃ g, w1.heap.size = g := ⟨_, rfl⟩
  try rw [hW2]
  try rw [hg]
  rw [hg] at HX1
  clear hW2 hg
  go_cut [6, 7, 8, 9, 10, 11] from 27 to 65 (fun s6 s7 s8 s9 s10 s11 wx => Hid (Below W2.heap.size W2 wx))
  case first =>
    by_cases hlt : k < 8192
    · have hltI : (k : Int) < 8192 := by omega
      have hk8 : s.length < 8192 := by rw [HK.out]; exact hlt
      obtain ⟨n1, hp1⟩ := parse_behind hk8 HPP.out
      obtain ⟨n2, hp2⟩ := parse_ahead hk8 HPP.out
      have HQ1 := Lib.hid (fun (W : World) (hb : Below W2.heap.size W2 W) => parse_all (s ++ [10]) W (HGL.out.below (HB2.out.trans (hb.mono HB2.out.size))) hp1)
      have HQ2 := Lib.hid (fun (W : World) (hb : Below W2.heap.size W2 W) => parse_all (10 :: s) W (HGL.out.below (HB2.out.trans (hb.mono HB2.out.size))) hp2)
      have hs1 : (str s).size + (⟨#[10]⟩ : ByteArray).size ≤ 281474976710656 := by rw [hsz]; show k + 1 ≤ _; omega
      have hs2 : (⟨#[10]⟩ : ByteArray).size + (str s).size ≤ 281474976710656 := by rw [hsz]; show 1 + k ≤ _; omega
      have ha1 : str s ++ (⟨#[10]⟩ : ByteArray) = str (s ++ [10]) := str_append s [10]
      have ha2 : (⟨#[10]⟩ : ByteArray) ++ str s = str (10 :: s) := str_append [10] s
      unfold sv at HQ1 HQ2
      clear hp1 hp2 hk8
      go_wp2_with fail
      refine (HQ1.out _ (Below.refl _ _)).mono ?_
      rintro _ w3 ⟨b0, b1, b2, b3, rfl, hb3, ht3, -⟩
      obtain ⟨bS, lS, jS, bX, lX, jX, bM, lM, jM, bR, lR, jR, rfl, rfl, rfl, rfl⟩ := tb_shape ht3
      have HT3 := Lib.hid (ht3.below (below_alloc w3 (.cells #[.slice bS lS jS, .slice bX lX jX, .slice bM lM jM, .slice bR lR jR] 26)))
      have HX3 := Lib.hid (bxt_new w3 (.slice bS lS jS) (.slice bX lX jX) (.slice bM lM jM) (.slice bR lR jR))
      have HB3 := Lib.hid (hb3.trans ((below_alloc w3 (.cells #[.slice bS lS jS, .slice bX lX jX, .slice bM lM jM, .slice bR lR jR] 26)).mono hb3.size))
      obtain ⟨W4, hW4⟩ : ∃ W, w3.alloc (.cells #[.slice bS lS jS, .slice bX lX jX, .slice bM lM jM, .slice bR lR jR] 26) = W := ⟨_, rfl⟩
      obtain ⟨g3, hg3⟩ : ∃ g, w3.heap.size = g := ⟨_, rfl⟩
      rw [hW4] at HT3 HX3 HB3
      rw [hg3] at HX3
      clear hb3 ht3
      go_upto_region 4 with fail
      try rw [hW4]
      try rw [hg3]
      clear hW4 hg3
      go_wp2_with fail
      refine (HQ2.out _ HB3.out).mono ?_
      rintro _ w5 ⟨d0, d1, d2, d3, rfl, hb5, ht5, -⟩
      obtain ⟨dS, mS, iS, dX, mX, iX, dM, mM, iM, dR, mR, iR, rfl, rfl, rfl, rfl⟩ := tb_shape ht5
      have HT5 := Lib.hid (ht5.below (below_alloc w5 (.cells #[.slice dS mS iS, .slice dX mX iX, .slice dM mM iM, .slice dR mR iR] 26)))
      have HX5 := Lib.hid (bxt_new w5 (.slice dS mS iS) (.slice dX mX iX) (.slice dM mM iM) (.slice dR mR iR))
      have HB5' := hb5.trans ((below_alloc w5 (.cells #[.slice dS mS iS, .slice dX mX iX, .slice dM mM iM, .slice dR mR iR] 26)).mono hb5.size)
      obtain ⟨W6, hW6⟩ : ∃ W, w5.alloc (.cells #[.slice dS mS iS, .slice dX mX iX, .slice dM mM iM, .slice dR mR iR] 26) = W := ⟨_, rfl⟩
      obtain ⟨g5, hg5⟩ : ∃ g, w5.heap.size = g := ⟨_, rfl⟩
      rw [hW6] at HT5 HX5 HB5'
      rw [hg5] at HX5
      have HB5 := Lib.hid HB5'
      have HB6 := Lib.hid (HB3.out.trans (HB5.out.mono HB3.out.size))
      clear hb5 ht5 HB5'
      go_upto_region 5 with fail
      try rw [hW6]
      try rw [hg5]
      clear hW6 hg5
      have HT6 := Lib.hid (HT3.out.below HB5.out)
      have HTT := Lib.hid (HT1.out.below HB6.out)
      obtain ⟨x0, x1, x2, x3⟩ := (HX1.out.below HB6.out).cells
      obtain ⟨y0, y1, y2, y3⟩ := (HX3.out.below HB5.out).cells
      obtain ⟨z0, z1, z2, z3⟩ := HX5.out.cells
      have HSM := Lib.hid (fun (W : World) (hb : Below W6.heap.size W6 W) => same_any t t rfl _ _ _ _ _ _ _ _ W (HTT.out.below hb) (HT6.out.below hb) (HS.out.2.bnd HS.out.1))
      have HSN := Lib.hid (fun (W : World) (hb : Below W6.heap.size W6 W) => same_any t t rfl _ _ _ _ _ _ _ _ W (HTT.out.below hb) (HT5.out.below hb) (HS.out.2.bnd HS.out.1))
      have hee : (e != e) = false := by simp
      by_cases he0 : e = 0
      · subst he0
        go_wp2_with (first | (go_at_call 5; with_reducible refine (HSM.out _ (Below.refl _ _)).mono ?_; rintro _ w7 ⟨rfl, hb7⟩; have HB7 := Lib.hid hb7; obtain ⟨x0, x1, x2, x3⟩ := ((HX1.out.below HB6.out).below HB7.out).cells; obtain ⟨z0, z1, z2, z3⟩ := (HX5.out.below HB7.out).cells; clear hb7) | (go_at_call 5; with_reducible refine (HSN.out _ HB7.out).mono ?_; rintro _ w8 ⟨rfl, hb8⟩; have HB8 := Lib.hid (HB7.out.trans (hb8.mono HB7.out.size)); clear hb8))
        go_meet
        exact Lib.hid (HB6.out.trans (HB8.out.mono HB6.out.size))
      · have he1 : (e == 0) = false := beq_eq_false_iff_ne.2 he0
        go_wp2_with fail
        go_meet
        exact HB6
    · have hltI : ¬ (k : Int) < 8192 := by omega
      go_wp2_with fail
      go_meet
      exact Lib.hid (Below.refl _ _)
  case rest =>
    have HBC := Lib.hid hcut
    have HBW := Lib.hid (show Below w.heap.size w wc from HB2.out.trans (hcut.out.mono HB2.out.size))
    have HA7 := Lib.hid (HAW.out wc HBW.out)
    clear hcut
    by_cases he0 : e = 0
    · subst he0
      have hck := fun (W : World) (hb : Below W2.heap.size W2 W) => check_any t _ _ _ _ W (HT1.out.below hb) (HS.out.2.wf HS.out.1) (HGL.out.glob.below (HB2.out.trans (hb.mono HB2.out.size)))
      unfold Ft.v at hck
      by_cases hc : (chk5 t).1 = 0
      · have hc0 := chk5_first t hc
        rw [hc0] at hck
        have HCK := Lib.hid hck
        have HC0 := Lib.hid hc0
        have hlen := shown_len hc0
        have hsh := fun (W : World) (hb : Below W2.heap.size W2 W) => show_any t _ _ _ _ W (HT1.out.below hb) (HS.out.2.wf HS.out.1) (HGL.out.glob.below (HB2.out.trans (hb.mono HB2.out.size))) HC1.out
        rw [show_fine hc0, hc0] at hsh
        obtain ⟨S, hSS⟩ : ∃ S, shownT t = S := ⟨_, rfl⟩
        have HSS := Lib.hid hSS
        rw [hSS] at hsh hlen
        obtain ⟨j, hj⟩ : ∃ j, S.length = j := ⟨_, rfl⟩
        have hsj : (str S).size = j := by rw [str_size]; exact hj
        have HJ := Lib.hid hj
        unfold sv at hsh
        have HSH := Lib.hid hsh
        clear hck hc hc0 hsh hSS hj hlen
        have hz : ((0 : Int) != 0) = false := rfl
        go_wp2_with fail
        refine HA7.out.mono ?_
        rintro _ w7 ⟨rfl, hb7⟩
        have HB7 := Lib.hid (HBC.out.trans (hb7.mono HBC.out.size))
        obtain ⟨x0, x1, x2, x3⟩ := (HX1.out.below HB7.out).cells
        clear hb7
        go_wp2_with fail
        refine (HCK.out w7 HB7.out).mono ?_
        rintro _ w8 ⟨rfl, hb8⟩
        have HB8 := Lib.hid (HB7.out.trans (hb8.mono HB7.out.size))
        clear hb8 x0 x1 x2 x3
        obtain ⟨x0, x1, x2, x3⟩ := (HX1.out.below HB8.out).cells
        go_wp2_with fail
        refine (HSH.out w8 HB8.out).mono ?_
        rintro _ w9 ⟨rfl, hb9⟩
        have HB9 := Lib.hid (HB8.out.trans (hb9.mono HB8.out.size))
        clear hb9 x0 x1 x2 x3
        have HB9w := Lib.hid (HB2.out.trans (HB9.out.mono HB2.out.size))
        by_cases hlt : 8192 < j
        · have hltI : (8192 : Int) < (j : Int) := by omega
          have hps : parseT ipT S = some (T.empty, 0, 4) := by unfold parseT; rw [if_pos (by rw [HJ.out]; exact hlt)]
          have HQ := Lib.hid (parse_all S w9 (HGL.out.below HB9w.out) hps)
          unfold sv at HQ
          clear hps
          go_wp2_with fail
          refine HQ.out.mono ?_
          rintro _ w10 ⟨b0, b1, b2, b3, rfl, hb10, ht10, -⟩
          obtain ⟨bS, lS, jS, bX, lX, jX, bM, lM, jM, bR, lR, jR, rfl, rfl, rfl, rfl⟩ := tb_shape ht10
          have HBA := Lib.hid (HB9w.out.trans ((hb10.trans ((below_alloc w10 (.cells #[.slice bS lS jS, .slice bX lX jX, .slice bM lM jM, .slice bR lR jR] 26)).mono hb10.size)).mono HB9w.out.size))
          clear hb10 ht10
          go_wp2_with fail
          go_ret
          exact ⟨rfl, HBA.out⟩
        · have hltI : ¬ (8192 : Int) < (j : Int) := by omega
          have hxs : SlB W2 (.slice aX nX kX) t.vars := by
            obtain ⟨_, _, _, _, he, -, hx, -, -⟩ := HT1.out
            injection he with _ he; injection he with e1 he
            subst e1; exact hx
          have hps : parseT ipT S = some (normT t, 0, 0) := by
            rw [← HSS.out]
            have hM := may_of HC0.out
            exact parse_shown hM (fun c na h0 h4 hc => ipT_is (by have := (fine_of HC0.out).vars; omega) (HGL.out.below HB2.out) hxs hc h0 (by omega) (apart_of hM.vnd) hM.vname) (by rw [HSS.out, HJ.out]; omega)
          have HQ := Lib.hid (parse_all S w9 (HGL.out.below HB9w.out) hps)
          unfold sv at HQ
          clear hps hxs
          go_wp2_with fail
          refine HQ.out.mono ?_
          rintro _ w10 ⟨b0, b1, b2, b3, rfl, hb10, ht10, hc10⟩
          obtain ⟨bS, lS, jS, bX, lX, jX, bM, lM, jM, bR, lR, jR, rfl, rfl, rfl, rfl⟩ := tb_shape ht10
          have HT10 := Lib.hid (ht10.below (below_alloc w10 (.cells #[.slice bS lS jS, .slice bX lX jX, .slice bM lM jM, .slice bR lR jR] 26)))
          have HX10 := Lib.hid (bxt_new w10 (.slice bS lS jS) (.slice bX lX jX) (.slice bM lM jM) (.slice bR lR jR))
          have HBA := Lib.hid (HB9w.out.trans ((hb10.trans ((below_alloc w10 (.cells #[.slice bS lS jS, .slice bX lX jX, .slice bM lM jM, .slice bR lR jR] 26)).mono hb10.size)).mono HB9w.out.size))
          have HC10 := Lib.hid hc10
          obtain ⟨WA, hWA⟩ : ∃ W, w10.alloc (.cells #[.slice bS lS jS, .slice bX lX jX, .slice bM lM jM, .slice bR lR jR] 26) = W := ⟨_, rfl⟩
          obtain ⟨gA, hgA⟩ : ∃ g, w10.heap.size = g := ⟨_, rfl⟩
          rw [hWA] at HT10 HX10 HBA
          rw [hgA] at HX10
          clear hb10 ht10 hc10
          go_upto_region 11 with fail
          try rw [hWA]
          try rw [hgA]
          clear hWA hgA
          obtain ⟨x0, x1, x2, x3⟩ := HX10.out.cells
          have hsh := show_any (normT t) _ _ _ _ WA HT10.out (wf_norm (HS.out.2.wf HS.out.1)) (HGL.out.glob.below HBA.out) HC10.out
          rw [show_fine (chk5_norm HC0.out), chk5_norm HC0.out, shown_norm, HSS.out] at hsh
          unfold sv at hsh
          have HSH2 := Lib.hid hsh
          have hss : ((str S).toList == (str S).toList) = true := by simp
          clear hsh
          go_wp2_with fail
          refine HSH2.out.mono ?_
          rintro _ w11 ⟨rfl, hb11⟩
          have HB11 := Lib.hid (HBA.out.trans (hb11.mono HBA.out.size))
          clear hb11 x0 x1 x2 x3
          go_wp2_with fail
          go_ret
          exact ⟨rfl, HB11.out⟩
      · obtain ⟨⟨f1, f2, f3, f4⟩, hf⟩ : ∃ f, chk5 t = f := ⟨_, rfl⟩
        rw [hf] at hck hc
        have hf1 : (f1 == 0) = false := beq_eq_false_iff_ne.2 hc
        have HCK := Lib.hid hck
        clear hck hf
        go_wp2_with fail
        refine HA7.out.mono ?_
        rintro _ w7 ⟨rfl, hb7⟩
        have HB7 := Lib.hid (HBC.out.trans (hb7.mono HBC.out.size))
        obtain ⟨x0, x1, x2, x3⟩ := (HX1.out.below HB7.out).cells
        clear hb7
        go_wp2_with fail
        refine (HCK.out w7 HB7.out).mono ?_
        rintro _ w8 ⟨rfl, hb8⟩
        have HB8 := Lib.hid (HB2.out.trans ((HB7.out.trans (hb8.mono HB7.out.size)).mono HB2.out.size))
        clear hb8 x0 x1 x2 x3
        go_wp2_with fail
        refine (HAW.out w8 HB8.out).mono ?_
        rintro _ w9 ⟨rfl, hb9⟩
        have HB9 := Lib.hid (HB8.out.trans (hb9.mono HB8.out.size))
        clear hb9
        go_wp2_with fail
        go_ret
        exact ⟨rfl, HB9.out⟩
    · have he1 : (e == 0) = false := beq_eq_false_iff_ne.2 he0
      have he2 : (e != 0) = true := by simp [bne, he1]
      go_wp2_with fail
      refine HA7.out.mono ?_
      rintro _ w7 ⟨rfl, hb7⟩
      have HB7 := Lib.hid (HBW.out.trans (hb7.mono HBW.out.size))
      clear hb7
      go_wp2_with fail
      refine (HAW.out w7 HB7.out).mono ?_
      rintro _ w8 ⟨rfl, hb8⟩
      have HB8 := Lib.hid (HB7.out.trans (hb8.mono HB7.out.size))
      clear hb8
      go_wp2_with fail
      go_ret
      exact ⟨rfl, HB8.out⟩
end Go.Proofs.YtfooiggedgcjcaaGreatDoor.T
