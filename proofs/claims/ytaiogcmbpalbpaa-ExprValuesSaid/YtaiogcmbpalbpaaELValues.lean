/-
  ExprValues: what an expression comes to is a value, and hangs on the variables and arguments that it names alone. No condition.
-/
import Derived.Test.YtaiogcmbpalbpaaRows
import Derived.Test.YtaiogcmbpalbpaaELaw
import Derived.Test.YtaiogcmbpalbpaaEImpl
import Derived.Test.YtaiogcmbpalbpaaEValAux
import Derived.Test.YtaiogcmbpalbpaaKArgs
import Derived.Test.YtaiogcmbpalbpaaKLaw
import Derived.SizedLaws
namespace Go.Proofs.Ytaiogcmbpalbpaa.exprValues
open Go.ChangeShapes Go.WideShapes Go.ChangeAt Go.RowKit
open Go.Proofs.Ytaiogcmbpalbpaa.E Go.Proofs.Ytaiogcmbpalbpaa.B Go.Proofs.Ytaiogcmbpalbpaa.K
set_option linter.unusedVariables false

theorem own : ownKnob Try.prog.godebug = none := by kernel_rfl
theorem laidOut : laidOutB Try.prog = true := by kernel_rfl

section
variable {P : Program}

/-- A slice that was handed in, nil or not, appended onto an empty row just made. -/
theorem wpList_append_copy {w : World} {ops : Array Oper} {rest : List Oper} {o : Oper} {a : Act} {Q : Exit → Act → World → Prop} (hgd : o.guard = none) (s x : Operand) (t : TypeId)
    (ho : o.op = .call { callee := .builtin .append, args := #[s, x], argTypes := #[t, t] })
    (base : Nat) (e : TypeId) (i : TypeInfo) (z : Value) (bytes : Nat) (ht : P.underlying t = some (.slice e)) (hi : P.info? e = some i) (hz : i.zero = some z) (hsize : i.size = 1) (hby : i.bytes = bytes) (hzs : z.cells.size = 1)
    (g : Nat) (hs : a.eval s = .slice (some ⟨g, 0, none⟩) 0 0) (hown : w.ownsRow base e 1 (.slice (some ⟨g, 0, none⟩) 0 0) 0 [])
    (v : Value) (xs : List Value) (hx : a.eval x = v) (hsl : Sl w v xs) (hnil : ∀ n c, v = .slice none n c → c = 0) (h1 : ∀ u ∈ xs, u.oneCell' = true) (h63 : xs.length ≤ maxLen) (hbytes : xs.length * bytes ≤ 140737488355328) (hbase : base ≤ w.heap.size)
    (h : ∀ g' cap' w', w'.ownsRow base e 1 (.slice (some ⟨g', 0, none⟩) xs.length cap') xs.length xs → w.grownBy w' (some g) → wpList P ops Q rest (a.put o.dst (.slice (some ⟨g', 0, none⟩) xs.length cap')) w') : wpList P ops Q (o :: rest) a w := by
  obtain ⟨ao, cap, rfl, hc⟩ := hsl
  cases ao with
  | none =>
    have hxs : xs = [] := by
      match xs, hc with
      | [], _ => rfl
      | u :: r, hc =>
        obtain ⟨b, off, e, _⟩ := hc 0 u rfl
        cases e
    subst hxs
    refine wpList_append_fits_any w hgd s x t ho base e i 1 ht hi hsize g 0 0 [] hs hown none 0 cap [] hx rfl (fun _ => ⟨rfl, hnil _ _ rfl⟩) (fun ad hh => by cases hh) (by simp) (by omega) ?_
    intro w' hw hg
    exact h _ _ w' hw hg
  | some ad =>
    refine wpList_append_own w hgd s x t ho base e i z 1 bytes ht hi hz hsize hby hzs (by decide) _ 0 [] hs hown ad xs.length cap xs hx (by omega) ?_ h1 (by omega) (by rw [Nat.zero_add]; exact hbytes) hbase ?_
    · intro j u hj
      obtain ⟨b, off, e, hcell⟩ := hc j u hj
      cases e
      rw [add_plain]
      exact hcell
    · intro v' w' hw hg hnn
      rw [Nat.zero_add, List.nil_append] at hw
      obtain ⟨g', cap', rfl⟩ := owns_form hw (fun e => by have := (hnn.1 e).1; cases this)
      exact h g' cap' w' hw hg
end

theorem int_one (l : List Int) : ∀ u ∈ l.map (Value.int .i64), u.oneCell' = true := by
  intro u hu
  obtain ⟨x, _, rfl⟩ := List.mem_map.1 hu
  rfl

theorem mix_wf (u : List Bool) (lim : Nat) (x : Int) (k : Nat) (l : List Int) (hx : I64 x) (hl : ∀ y ∈ l, I64 y) : ∀ y ∈ mix u lim x k l, I64 y := by
  intro y hy
  obtain ⟨j, hj⟩ := List.mem_iff_getElem?.1 hy
  rw [mix_at] at hj
  cases hlj : l[j]? with
  | none => rw [hlj] at hj; cases hj
  | some z =>
    rw [hlj] at hj
    simp only [Option.map, Option.some.injEq] at hj
    split at hj
    · rw [← hj]; exact hx
    · rw [← hj]; exact hl z (List.mem_of_getElem? hlj)

set_option maxHeartbeats 4000000 in
set_option maxRecDepth 100000 in
theorem walk (C : Contracts) (code : List In) (vs ar : List Int) (v v1 v2 : Value) (x : Int) (w : World) (hs : SlI w v code) (hs1 : Sl w v1 (vs.map (Value.int .i64))) (hs2 : Sl w v2 (ar.map (Value.int .i64)))
    (hwf : ∀ i ∈ code, I64 i.1 ∧ I64 i.2) (hw1 : ∀ y ∈ vs, I64 y) (hw2 : ∀ y ∈ ar, I64 y) (hx : I64 x) (hl : code.length ≤ maxLen) (hl1 : vs.length * 8 ≤ 140737488351232) (hl2 : ar.length * 8 ≤ 140737488351232)
    (hn1 : ∀ n c, v1 = .slice none n c → c = 0) (hn2 : ∀ n c, v2 = .slice none n c → c = 0) :
    Calls Try.prog 7 #[.agg #[v, v1, v2, .int .i64 x]] w fun e w' => e = .returned (.bool true) ∧ Below w.heap.size w w' := by
  obtain ⟨i0, hi, hz0, hz1, hz2⟩ := info_parts Try.info3
  have h1 := fun W (hb : Below w.heap.size w W) => C.eval_ code vs ar v v1 v2 W (hs.below hb) (hs1.below hb) (hs2.below hb) hwf hw1 hw2 hl (by omega) (by omega)
  have HU := Lib.hid (fun W (hb : Below w.heap.size w W) => C.uses_ code v W (hs.below hb) hwf hl)
  obtain ⟨⟨p, er⟩, hE⟩ : ∃ t, eval code vs ar = t := ⟨_, rfl⟩
  rw [hE] at h1
  have H1 := Lib.hid h1
  have HE := Lib.hid hE
  have HS := Lib.hid hs
  have HS1 := Lib.hid hs1
  have HS2 := Lib.hid hs2
  have HWF := Lib.hid hwf
  have HW1 := Lib.hid hw1
  have HW2 := Lib.hid hw2
  have HX0 := Lib.hid hx
  have HL := Lib.hid hl
  have HL1 := Lib.hid hl1
  have HL2 := Lib.hid hl2
  have HN1 := Lib.hid hn1
  have HN2 := Lib.hid hn2
  clear h1 hE hs hs1 hs2 hwf hw1 hw2 hx hl hl1 hl2 hn1 hn2
  go_enter Try.func7, Try.ntmps7
  go_wp2_with fail
  go_quiet (fail)
  have B0 := Lib.hid (below_drewN ((Below.refl w.heap.size w).alloc (Nat.le_refl _) (.cells #[v, v1, v2, .int .i64 x] 41)) nq)
  go_wp2_with fail
  refine (H1.out _ B0.out).mono ?_
  rintro _ w2 ⟨rfl, b2⟩
  have B2 := Lib.hid (B0.out.trans (b2.mono B0.out.size))
  clear b2 B0
  by_cases he : er = 0
  rotate_left
  focus
    have hp := eval_zero code vs ar (by rw [HE.out]; exact he)
    rw [HE.out] at hp
    have hp' : p = 0 := hp
    subst hp'
    have be : (er != 0) = true := by simp [he]
    clear hp he
    go_wp2_with fail
    refine (awake_any C _).mono ?_
    rintro _ w3 ⟨rfl, b3⟩
    have B3 := Lib.hid (B2.out.trans (b3.mono B2.out.size)); clear b3
    go_wp2_with fail
    refine (awake_any C _).mono ?_
    rintro _ w4 ⟨rfl, b4⟩
    have B4 := Lib.hid (B3.out.trans (b4.mono B3.out.size)); clear b4
    go_wp2_with fail
    go_ret
    exact ⟨rfl, B4.out⟩
  subst he
  obtain ⟨_, hvv, hva, _, hvp⟩ := eval_good code vs ar p HE.out
  have HVP := Lib.hid (fun W => (show Calls Try.prog 20 #[.int .i64 p] W fun e w' => e = .returned (.bool true) ∧ W = w' by rw [← hvp]; exact refValue_any p W))
  clear hvv hva hvp
  go_wp2_with fail
  refine (awake_any C _).mono ?_
  rintro _ w3 ⟨rfl, b3⟩
  have B3 := Lib.hid (B2.out.trans (b3.mono B2.out.size)); clear b3
  cases hvx : isVal x with
  | false =>
    have HVX := Lib.hid (fun W => (show Calls Try.prog 20 #[.int .i64 x] W fun e w' => e = .returned (.bool false) ∧ W = w' by rw [← hvx]; exact refValue_any x W))
    clear hvx
    go_wp2_with (first | (go_at_call 20; refine (HVP.out _).mono ?_; rintro _ wv ⟨rfl, rfl⟩) | (go_at_call 20; refine (HVX.out _).mono ?_; rintro _ wv ⟨rfl, rfl⟩))
    go_ret
    exact ⟨rfl, B3.out⟩
  | true =>
    have HVX := Lib.hid (fun W => (show Calls Try.prog 20 #[.int .i64 x] W fun e w' => e = .returned (.bool true) ∧ W = w' by rw [← hvx]; exact refValue_any x W))
    have HVV := Lib.hid hvx
    clear hvx
    go_wp2_with (first | (go_at_call 20; refine (HVP.out _).mono ?_; rintro _ wv ⟨rfl, rfl⟩) | (go_at_call 20; refine (HVX.out _).mono ?_; rintro _ wv ⟨rfl, rfl⟩))
    refine (HU.out _ B3.out).mono ?_
    rintro _ w4 ⟨⟨u1, u2, rfl, s1, s2⟩, b4⟩
    have B4 := Lib.hid (B3.out.trans (b4.mono B3.out.size))
    obtain ⟨m1, hm1⟩ : ∃ m, (uses 2 6 code).length = m := ⟨_, rfl⟩
    obtain ⟨m2, hm2⟩ : ∃ m, (uses 3 4 code).length = m := ⟨_, rfl⟩
    obtain ⟨n1, hnv⟩ : ∃ m, vs.length = m := ⟨_, rfl⟩
    obtain ⟨n2, hna⟩ : ∃ m, ar.length = m := ⟨_, rfl⟩
    have SU1' := s1
    have SU2' := s2
    obtain ⟨au1, cu1, e1, -⟩ := s1
    obtain ⟨au2, cu2, e2, -⟩ := s2
    rw [List.length_map, hm1] at e1
    rw [List.length_map, hm2] at e2
    subst e1 e2
    have SU1 := Lib.hid SU1'
    have SU2 := Lib.hid SU2'
    have HM1 := Lib.hid hm1
    have HM2 := Lib.hid hm2
    have hnvh := Lib.hid hnv
    have hnah := Lib.hid hna
    clear hm1 hm2 hnv hna SU1' SU2'
    have LA1 := Lib.hid (show (vs.map (Value.int .i64)).length ≤ maxLen by rw [List.length_map]; have := HL1.out; unfold maxLen; omega)
    have LB1 := Lib.hid (show (vs.map (Value.int .i64)).length * 8 ≤ 140737488355328 by rw [List.length_map]; have := HL1.out; omega)
    have LA2 := Lib.hid (show (ar.map (Value.int .i64)).length ≤ maxLen by rw [List.length_map]; have := HL2.out; unfold maxLen; omega)
    have LB2 := Lib.hid (show (ar.map (Value.int .i64)).length * 8 ≤ 140737488355328 by rw [List.length_map]; have := HL2.out; omega)
    clear b4
    go_wp2_with (first | (at_builtin; refine wpList_append_copy rfl _ _ 28 rfl w4.heap.size 3 i0 (.int .i64 0) 8 Try.underlying28 hi hz0 hz1 hz2 rfl w4.heap.size rfl (owns_base (owns_empty w4 _) (Nat.le_refl _)) _ _ rfl ((HS1.out.below B4.out).below ((Below.refl _ _).alloc (Nat.le_refl _) _)) HN1.out (int_one _) LA1.out LB1.out (((Below.refl w4.heap.size w4).alloc (Nat.le_refl _) _).size) ?_; intro g1 c1 w5 hown hgrow; have OX := Lib.hid hown; have B5 := Lib.hid (((Below.refl w4.heap.size w4).alloc (Nat.le_refl _) _).grown hgrow ((Below.refl w4.heap.size w4).alloc (Nat.le_refl _) _).size (fun k hk => by cases hk; exact Nat.le_refl _)); clear hown hgrow) | (at_builtin; refine wpList_append_copy rfl _ _ 28 rfl w5.heap.size 3 i0 (.int .i64 0) 8 Try.underlying28 hi hz0 hz1 hz2 rfl w5.heap.size rfl (owns_base (owns_empty w5 _) (Nat.le_refl _)) _ _ rfl ((HS2.out.below (B4.out.trans (B5.out.mono B4.out.size))).below ((Below.refl _ _).alloc (Nat.le_refl _) _)) HN2.out (int_one _) LA2.out LB2.out ((Below.refl w5.heap.size w5).alloc (Nat.le_refl _) _).size ?_; intro g2 c2 w6 hown hgrow; have OY := Lib.hid hown; have B56 := Lib.hid (((Below.refl w5.heap.size w5).alloc (Nat.le_refl _) _).grown hgrow ((Below.refl w5.heap.size w5).alloc (Nat.le_refl _) _).size (fun k hk => by cases hk; exact Nat.le_refl _)); clear hown hgrow))
    have hnv := hnvh.out
    have hna := hnah.out
    have hnv := hnvh.out
    have hna := hnah.out
    have hox := own_kept OX.out B56.out
    rw [List.length_map] at hox
    have hoy := OY.out
    rw [List.length_map] at hoy
    have g12 : g1 < g2 := Nat.lt_of_lt_of_le (owns_at OX.out).2 (owns_at OY.out).1
    have HG := Lib.hid g12

    have HNV := Lib.hid hnv
    have HNA := Lib.hid hna
    rw [hnv] at hox ⊢
    rw [hna] at hoy ⊢
    have OX6 := Lib.hid hox
    have OYY := Lib.hid hoy
    have HNB1 := Lib.hid (show n1 * 8 ≤ 140737488351232 by have := HL1.out; rw [HNV.out] at this; exact this)
    have HNB2 := Lib.hid (show n2 * 8 ≤ 140737488351232 by have := HL2.out; rw [HNA.out] at this; exact this)
    have HB6 := Lib.hid (B5.out.trans (B56.out.mono B5.out.size))
    clear hox hoy g12 hnv hna
    go_loopw [13] (fun k wr => ∃ (K : Nat), k = .int .i64 (K : Int) ∧ K ≤ n1 ∧ wr.ownsRow w4.heap.size 3 1 (.slice (some ⟨g1, 0, none⟩) n1 c1) n1 ((mix (uses 2 6 code) 6 x K vs).map (Value.int .i64)) ∧ wr.ownsRow w5.heap.size 3 1 (.slice (some ⟨g2, 0, none⟩) n2 c2) n2 (ar.map (Value.int .i64)) ∧ Hid (Below w4.heap.size w4 wr)) (fun k _ => n1 - (intOf k).toNat)
    case atStart => exact ⟨0, rfl, Nat.zero_le _, by rw [mix_zero]; exact OX6.out, OYY.out, HB6.out⟩
    case round =>
      obtain ⟨K, rfl, hK, hx1, hy1, HBE⟩ := hrel
      have HX := Lib.hid hx1
      have HY := Lib.hid hy1
      clear hx1 hy1
      by_cases hlt : K < n1
      · have hwK : IntKind.i64.wrap ((K : Int) + 1) = (K : Int) + 1 := IntWalk.i64_in _ (by have := HNB1.out; omega)
        have hltI : (K : Int) < (n1 : Int) := by omega
        by_cases k6 : K < 6
        · have k6I : (K : Int) < 6 := by omega
          by_cases km : K < m1
          · obtain ⟨bb, hbb⟩ : ∃ bb, (uses 2 6 code)[K]? = some bb := ⟨_, List.getElem?_eq_getElem (by rw [HM1.out]; exact km)⟩
            have hmm : ((uses 2 6 code).map Value.bool)[K]? = some (.bool bb) := by rw [List.getElem?_map, hbb]; rfl
            obtain ⟨ub, uo, rfl, hub⟩ := (SU1.out.below HBE.out).at hmm
            have bkm : decide ((m1 : Int) ≤ (K : Int)) = false := decide_eq_false (by omega)
            clear hmm
            cases bb with
            | true =>
              have HBB := Lib.hid hbb
              clear hbb
              have hset := mix_skip (uses 2 6 code) 6 x K vs (fun h => h.2 HBB.out)
              have HS9 := Lib.hid hset
              clear hset
              go_wp2_with fail
              go_roundw
              case rel => exact ⟨K + 1, by go_num, by omega, by rw [HS9.out]; exact HX.out, HY.out, HBE.out⟩
              case measure => simp [intOf]; omega
            | false =>
              have HBB := Lib.hid hbb
              clear hbb
              obtain ⟨old, hcell, hfr, hown', hbl⟩ := owns_set2 HX.out K hlt (.int .i64 x)
              have hko := ownsRow_setCell_other HY.out (a := ⟨g1, K, none⟩) (fun e => Nat.lt_irrefl g1 (by cases e; exact HG.out)) (.int .i64 x)
              have hset := mix_put (uses 2 6 code) 6 x K vs (by rw [HNV.out]; exact hlt) ⟨k6, by rw [HBB.out]; decide⟩
              rw [show ((mix (uses 2 6 code) 6 x K vs).map (Value.int .i64)).set K (Value.int .i64 x) = (mix (uses 2 6 code) 6 x (K + 1) vs).map (Value.int .i64) by rw [hset, List.map_set]] at hown'
              have HS9 := Lib.hid hown'
              have HK9 := Lib.hid hko
              have HB9 := Lib.hid (HBE.out.trans hbl)
              clear hown' hbl hset hko
              go_wp2_with fail
              go_roundw
              case rel => exact ⟨K + 1, by go_num, by omega, HS9.out, HK9.out, HB9.out⟩
              case measure => simp [intOf]; omega
          · have kmI : (m1 : Int) ≤ (K : Int) := by omega
            have HBB := Lib.hid (show (uses 2 6 code)[K]? = none from List.getElem?_eq_none (by rw [HM1.out]; omega))
            obtain ⟨old, hcell, hfr, hown', hbl⟩ := owns_set2 HX.out K hlt (.int .i64 x)
            have hko := ownsRow_setCell_other HY.out (a := ⟨g1, K, none⟩) (fun e => Nat.lt_irrefl g1 (by cases e; exact HG.out)) (.int .i64 x)
            have hset := mix_put (uses 2 6 code) 6 x K vs (by rw [HNV.out]; exact hlt) ⟨k6, by rw [HBB.out]; decide⟩
            rw [show ((mix (uses 2 6 code) 6 x K vs).map (Value.int .i64)).set K (Value.int .i64 x) = (mix (uses 2 6 code) 6 x (K + 1) vs).map (Value.int .i64) by rw [hset, List.map_set]] at hown'
            have HS9 := Lib.hid hown'
            have HK9 := Lib.hid hko
            have HB9 := Lib.hid (HBE.out.trans hbl)
            clear hown' hbl hset hko
            go_wp2_with fail
            go_roundw
            case rel => exact ⟨K + 1, by go_num, by omega, HS9.out, HK9.out, HB9.out⟩
            case measure => simp [intOf]; omega
        · have bk6 : decide ((K : Int) < 6) = false := decide_eq_false (by omega)
          have HK6 := Lib.hid k6
          have hset := mix_skip (uses 2 6 code) 6 x K vs (fun h => HK6.out h.1)
          have HS9 := Lib.hid hset
          clear hset
          go_wp2_with fail
          go_roundw
          case rel => exact ⟨K + 1, by go_num, by omega, by rw [HS9.out]; exact HX.out, HY.out, HBE.out⟩
          case measure => simp [intOf]; omega
      · obtain rfl : n1 = K := by omega
        have hltI : ¬ (n1 : Int) < (n1 : Int) := by omega
        go_wp2_with fail
        go_loopw [14] (fun k wr => ∃ (K : Nat), k = .int .i64 (K : Int) ∧ K ≤ n2 ∧ wr.ownsRow w4.heap.size 3 1 (.slice (some ⟨g1, 0, none⟩) n1 c1) n1 ((mix (uses 2 6 code) 6 x n1 vs).map (Value.int .i64)) ∧ wr.ownsRow w5.heap.size 3 1 (.slice (some ⟨g2, 0, none⟩) n2 c2) n2 ((mix (uses 3 4 code) 4 x K ar).map (Value.int .i64)) ∧ Hid (Below w4.heap.size w4 wr)) (fun k _ => n2 - (intOf k).toNat)
        case atStart => exact ⟨0, rfl, Nat.zero_le _, HX.out, by rw [mix_zero]; exact HY.out, HBE.out⟩
        case round =>
          obtain ⟨K, rfl, hK, hx1, hy1, HBE⟩ := hrel
          have HX := Lib.hid hx1
          have HY := Lib.hid hy1
          clear hx1 hy1
          by_cases hlt : K < n2
          · have hwK : IntKind.i64.wrap ((K : Int) + 1) = (K : Int) + 1 := IntWalk.i64_in _ (by have := HNB2.out; omega)
            have hltI : (K : Int) < (n2 : Int) := by omega
            by_cases k6 : K < 4
            · have k6I : (K : Int) < 4 := by omega
              by_cases km : K < m2
              · obtain ⟨bb, hbb⟩ : ∃ bb, (uses 3 4 code)[K]? = some bb := ⟨_, List.getElem?_eq_getElem (by rw [HM2.out]; exact km)⟩
                have hmm : ((uses 3 4 code).map Value.bool)[K]? = some (.bool bb) := by rw [List.getElem?_map, hbb]; rfl
                obtain ⟨ub, uo, rfl, hub⟩ := (SU2.out.below HBE.out).at hmm
                have bkm : decide ((m2 : Int) ≤ (K : Int)) = false := decide_eq_false (by omega)
                clear hmm
                cases bb with
                | true =>
                  have HBB := Lib.hid hbb
                  clear hbb
                  have hset := mix_skip (uses 3 4 code) 4 x K ar (fun h => h.2 HBB.out)
                  have HS9 := Lib.hid hset
                  clear hset
                  go_wp2_with fail
                  go_roundw
                  case rel => exact ⟨K + 1, by go_num, by omega, HX.out, by rw [HS9.out]; exact HY.out, HBE.out⟩
                  case measure => simp [intOf]; omega
                | false =>
                  have HBB := Lib.hid hbb
                  clear hbb
                  obtain ⟨old, hcell, hfr, hown', hbl⟩ := owns_set2 HY.out K hlt (.int .i64 x)
                  have hko := ownsRow_setCell_other HX.out (a := ⟨g2, K, none⟩) (fun e => Nat.lt_irrefl g2 (by cases e; exact HG.out)) (.int .i64 x)
                  have hset := mix_put (uses 3 4 code) 4 x K ar (by rw [HNA.out]; exact hlt) ⟨k6, by rw [HBB.out]; decide⟩
                  rw [show ((mix (uses 3 4 code) 4 x K ar).map (Value.int .i64)).set K (Value.int .i64 x) = (mix (uses 3 4 code) 4 x (K + 1) ar).map (Value.int .i64) by rw [hset, List.map_set]] at hown'
                  have HS9 := Lib.hid hown'
                  have HK9 := Lib.hid hko
                  have HB9 := Lib.hid (HBE.out.trans (hbl.mono B5.out.size))
                  clear hown' hbl hset hko
                  go_wp2_with fail
                  go_roundw
                  case rel => exact ⟨K + 1, by go_num, by omega, HK9.out, HS9.out, HB9.out⟩
                  case measure => simp [intOf]; omega
              · have kmI : (m2 : Int) ≤ (K : Int) := by omega
                have HBB := Lib.hid (show (uses 3 4 code)[K]? = none from List.getElem?_eq_none (by rw [HM2.out]; omega))
                obtain ⟨old, hcell, hfr, hown', hbl⟩ := owns_set2 HY.out K hlt (.int .i64 x)
                have hko := ownsRow_setCell_other HX.out (a := ⟨g2, K, none⟩) (fun e => Nat.lt_irrefl g2 (by cases e; exact HG.out)) (.int .i64 x)
                have hset := mix_put (uses 3 4 code) 4 x K ar (by rw [HNA.out]; exact hlt) ⟨k6, by rw [HBB.out]; decide⟩
                rw [show ((mix (uses 3 4 code) 4 x K ar).map (Value.int .i64)).set K (Value.int .i64 x) = (mix (uses 3 4 code) 4 x (K + 1) ar).map (Value.int .i64) by rw [hset, List.map_set]] at hown'
                have HS9 := Lib.hid hown'
                have HK9 := Lib.hid hko
                have HB9 := Lib.hid (HBE.out.trans (hbl.mono B5.out.size))
                clear hown' hbl hset hko
                go_wp2_with fail
                go_roundw
                case rel => exact ⟨K + 1, by go_num, by omega, HK9.out, HS9.out, HB9.out⟩
                case measure => simp [intOf]; omega
            · have bk6 : decide ((K : Int) < 4) = false := decide_eq_false (by omega)
              have HK6 := Lib.hid k6
              have hset := mix_skip (uses 3 4 code) 4 x K ar (fun h => HK6.out h.1)
              have HS9 := Lib.hid hset
              clear hset
              go_wp2_with fail
              go_roundw
              case rel => exact ⟨K + 1, by go_num, by omega, HX.out, by rw [HS9.out]; exact HY.out, HBE.out⟩
              case measure => simp [intOf]; omega
          · obtain rfl : n2 = K := by omega
            have hltI : ¬ (n2 : Int) < (n2 : Int) := by omega
            go_wp2_with fail
            have HBW := Lib.hid (B4.out.trans (HBE.out.mono B4.out.size))
            have hq := eval_mix code vs ar p x n1 n2 HE.out HVV.out
            have hev := C.eval_ code (mix (uses 2 6 code) 6 x n1 vs) (mix (uses 3 4 code) 4 x n2 ar) v (.slice (some ⟨g1, 0, none⟩) n1 c1) (.slice (some ⟨g2, 0, none⟩) n2 c2) wr (HS.out.below HBW.out) (Sl.owns HX.out) (Sl.owns HY.out) HWF.out (mix_wf _ _ _ _ _ HX0.out HW1.out) (mix_wf _ _ _ _ _ HX0.out HW2.out) HL.out (by rw [mix_length]; have := HL1.out; omega) (by rw [mix_length]; have := HL2.out; omega)
            rw [hq] at hev
            have HEVV := Lib.hid hev
            clear hev hq
            go_wp2_with fail
            refine HEVV.out.mono ?_
            rintro _ w9 ⟨rfl, b9⟩
            have B9 := Lib.hid (HBW.out.trans (b9.mono HBW.out.size))
            clear b9
            go_wp2_with fail
            go_ret
            exact ⟨rfl, B9.out⟩

section
variable {H : Type} {enc : TypeId × Value → H} {P : Program} {W : World}

/-- A struct by value, of fields of one cell each: its cells, and the data of each. -/
theorem agg_data {t : TypeId} {fs : Array Field} (hs : P.underlying t = some (.struct fs)) (hone : Deep.oneCellFields P fs = true) (hC : P.cellsOf t = fs.size) {r : Reach} {base : Nat} {v : Value} {d : DataW H} {p : List MemPlace}
    (hval : Value.okWide P W r base t v) (hd : DataW.Trod enc P W 0 (fun _ => true) true t v d p) :
    ∃ (cs : List Value) (xs : List (DataW H × List MemPlace)) (n : Nat), v = .agg cs.toArray ∧ cs.length = fs.size ∧ xs.length = fs.size ∧ d = .agg (xs.map (·.1)) ∧
      ∀ (j : Nat) (f : Field), fs[j]? = some f → ∃ c, cs[j]? = some c ∧ DataW.trod enc P W 0 (fun _ => true) true n f.type [c] = xs[j]? := by
  obtain ⟨cs, rfl, hsz⟩ := okWide_struct hs hval
  have hlen : cs.toList.length = fs.size := by rw [Array.length_toList]; exact hsz.trans hC
  obtain ⟨fuel, hf⟩ := hd
  obtain ⟨xs, n, _, hx, _, hxl, hg⟩ := DataW.trod_struct hs hf
  simp only [Prod.mk.injEq] at hx
  refine ⟨cs.toList, xs, n, by simp, hlen, hxl, hx.1, fun j f hj => ?_⟩
  obtain ⟨ho, hk⟩ := Deep.hone_of hone j f hj
  have hjl : j < fs.size := (Array.getElem?_eq_some_iff.1 hj).1
  have h1 := hg j f hj
  rw [ho, hk] at h1
  have hcj : cs.toList[j]? = some (cs.toList[j]'(by omega)) := List.getElem?_eq_getElem (by omega)
  have hone1 : (Value.agg cs).cells.toList.drop j = cs.toList[j]'(by omega) :: cs.toList.drop (j + 1) := List.drop_eq_getElem_cons (by omega)
  rw [hone1] at h1
  exact ⟨_, hcj, h1⟩

/-- How long the data of a slice of one cell an element is; a nil one has no room. -/
theorem ints_data {t e : TypeId} (ht : P.underlying t = some (.slice e)) {fuel : Nat} {v : Value} {y : DataW H × List MemPlace} {xs : List Value} (hs : Sl W v xs) (hf : DataW.trod enc P W 0 (fun _ => true) true fuel t [v] = some y) :
    (xs = [] ∨ ∃ elems spare, y.1 = .slice elems spare ∧ elems.length = xs.length) ∧ (∀ n c, v = .slice none n c → c = 0) := by
  obtain ⟨a, cap, rfl, _⟩ := hs
  rcases Go.Deep.open_slice ht hf with ⟨hcs, _⟩ | ⟨a', len, cap', m, n, D, Pl, hcs, _, _, _, _, hx, _⟩
  · simp only [List.cons.injEq, Value.slice.injEq, and_true] at hcs
    refine ⟨Or.inl (List.eq_nil_of_length_eq_zero hcs.2.1), fun n c h => ?_⟩
    cases h
    exact hcs.2.2
  · simp only [List.cons.injEq, Value.slice.injEq, and_true] at hcs
    refine ⟨Or.inr ⟨_, _, by rw [hx], by simp [hcs.2.1]⟩, fun n c h => ?_⟩
    cases h
    cases hcs.1
end

theorem four_list {α : Type} {l : List α} {a b c d : α} (h : l.length = 4) (h0 : l[0]? = some a) (h1 : l[1]? = some b) (h2 : l[2]? = some c) (h3 : l[3]? = some d) : l = [a, b, c, d] := by
  match l, h with
  | [p, q, r, s], _ => simp at h0 h1 h2 h3; rw [h0, h1, h2, h3]

set_option maxRecDepth 100000 in
theorem lifted (C : Contracts) (os : Os) (started : os.Started) (H : Type) (enc : TypeId × Value → H) :
    ReturnsInHanded {} Try.checked os 7 .any (Rows.exprValuesSpec.pre6 enc Try.prog Try.f7 Rows.exprValuesRow.domain false) (Rows.exprValuesSpec.post enc Try.prog Try.f7 false true false false) := by
  refine returnsInHanded_of_change_sized (C := Try.checked) own started (by kernel_rfl) Try.func7
    (ChangeSpec.witness6 (enc := enc) (C := Try.checked) false ⟨#[], #[.agg #[.slice none 0 0, .slice none 0 0, .slice none 0 0, .int .i64 0]], []⟩ 8 (by kernel_rfl) (by kernel_rfl) (by kernel_rfl) (by kernel_rfl)) ?_
  intro W base args ds gs before hval0 hW hcnd hsz0 _
  have hval : ∀ (j : Nat) t v, Try.f7.params[j]? = some t → args[j]? = some v → Value.okWide Try.prog W .any base t v := hval0
  have hW' := hW
  obtain ⟨p, q, hA0, hV, rfl, hfz, hnd⟩ := hW
  have hA : DataW.TrodAll enc Try.prog W 0 (fun _ => true) true Try.f7.params.toList args.toList ds p := hA0
  have hsz : (DataW.weightsEach Try.prog (Try.f7.params.toList ++ Rows.exprValuesSpec.plain.varTypes Try.prog) (ds ++ gs)).all (· ≤ reachBytes) = true := hsz0
  clear hsz0
  rw [Try.params7] at hA hval hsz
  obtain ⟨v0, vs0, d0, ds0, p0, q0, hargs, rfl, rfl, h0, r0⟩ := trodAll_cons hA
  obtain ⟨rfl, rfl, rfl⟩ := trodAll_nil r0
  obtain rfl : args = #[v0] := by cases args; simp_all
  obtain ⟨cs, ys, n, rfl, hlen, hyl, rfl, hf⟩ := agg_data Try.underlying41 (by kernel_rfl) (by kernel_rfl) (hval 0 41 v0 rfl rfl) h0
  obtain ⟨c0, e0, t0⟩ := hf 0 _ rfl
  obtain ⟨c1, e1, t1⟩ := hf 1 _ rfl
  obtain ⟨c2, e2, t2⟩ := hf 2 _ rfl
  obtain ⟨c3, e3, t3⟩ := hf 3 _ rfl
  obtain rfl : cs = [c0, c1, c2, c3] := four_list hlen e0 e1 e2 e3
  obtain ⟨y0, y1, y2, y3, rfl⟩ : ∃ a b c d, ys = [a, b, c, d] := by
    match ys, hyl with
    | [a, b, c, d], _ => exact ⟨a, b, c, d, rfl⟩
  have t0' : DataW.trod enc Try.prog W 0 (fun _ => true) true n 22 [c0] = some y0 := t0
  have t1' : DataW.trod enc Try.prog W 0 (fun _ => true) true n 28 [c1] = some y1 := t1
  have t2' : DataW.trod enc Try.prog W 0 (fun _ => true) true n 28 [c2] = some y2 := t2
  have t3' : DataW.trod enc Try.prog W 0 (fun _ => true) true n 3 [c3] = some y3 := t3
  obtain ⟨code, hs, hwf, hl⟩ := pairs_field Try.underlying22 Try.underlying47 rfl rfl rfl rfl Try.underlying3 Try.underlying3 (by kernel_rfl) (by kernel_rfl) (by kernel_rfl) t0'
  obtain ⟨vs, hs1, hw1, _⟩ := ints_field Try.underlying28 Try.underlying3 (by kernel_rfl) t1'
  obtain ⟨ar, hs2, hw2, _⟩ := ints_field Try.underlying28 Try.underlying3 (by kernel_rfl) t2'
  obtain ⟨x, g3, _, wx⟩ := DataW.trod_int Try.underlying3 t3'
  simp only [List.cons.injEq, and_true] at g3
  subst g3
  have hx : I64 x := by
    have := wx
    simp [Lit.wf, IntKind.min, IntKind.max, IntKind.signed, IntKind.bits] at this
    exact this
  obtain ⟨k1, hn1⟩ := ints_data Try.underlying28 hs1 t1'
  obtain ⟨k2, hn2⟩ := ints_data Try.underlying28 hs2 t2'
  have hb8 : Try.prog.bytesOf 3 = 8 := by kernel_rfl
  have hrb : reachBytes = 140737488351232 := by decide
  have hag : ∀ m ∈ DataW.weightsEach Try.prog [22, 28, 28, 3] [y0.1, y1.1, y2.1, y3.1], m ≤ 140737488351232 := by
    intro m hm
    have h1 : m ∈ DataW.weights Try.prog 41 (.agg [y0.1, y1.1, y2.1, y3.1]) := by
      unfold DataW.weights
      rw [Try.underlying41]
      exact hm
    have h2 := List.all_eq_true.1 hsz m (DataW.weights_mem_each (j := 0) (t := 41) rfl rfl m h1)
    have h3 : m ≤ reachBytes := by simpa using h2
    rw [hrb] at h3
    exact h3
  have size : ∀ (j : Nat) (y : DataW H) (l : List Int), [22, 28, 28, 3][j]? = some 28 → [y0.1, y1.1, y2.1, y3.1][j]? = some y → (l.map (Value.int .i64) = [] ∨ ∃ elems spare, y = .slice elems spare ∧ elems.length = (l.map (Value.int .i64)).length) → l.length * 8 ≤ 140737488351232 := by
    intro j y l hj hy h
    rcases h with h | ⟨elems, spare, rfl, he⟩
    · have : l = [] := List.map_eq_nil_iff.1 h
      subst this; decide
    · rw [List.length_map] at he
      have h1 := hag ((elems.length + spare.length) * 8) (DataW.weights_mem_each hj hy _ (by unfold DataW.weights; rw [Try.underlying28]; simp [hb8]))
      rw [he] at h1
      omega
  have hl1 := size 1 y1.1 vs rfl rfl k1
  have hl2 := size 2 y2.1 ar rfl rfl k2
  refine (walk C code vs ar c0 c1 c2 x W hs hs1 hs2 hwf hw1 hw2 hx hl hl1 hl2 hn1 hn2).mono fun e W' ⟨he, hb⟩ => ?_
  subst he
  exact ⟨_, rfl, post_law hW' hb laidOut rfl rfl rfl Try.underlying4 (by rw [Try.params7]; decide +kernel)⟩

theorem over (C : Contracts) : Rows.exprValuesRow.holds Try.pinned (OpenSpec.ofChange Rows.exprValuesSpec) :=
  OpenClaim.holds_of_wide 7 Try.f7 rfl rfl rfl rfl rfl rfl rfl ⟨rfl, rfl, rfl, rfl, rfl⟩ rfl rfl rfl rfl rfl (by kernel_rfl) Try.func7 (by kernel_rfl)
    (of_decide_eq_true (by kernel_rfl)) (by unfold Func.isWrapper; first | (rw [if_pos (by decide +kernel)]; kernel_rfl) | (rw [if_neg (by decide +kernel)]; exact ⟨rfl, rfl⟩))
    (fun os started H enc _ => lifted C os started H enc)

theorem given (C : Contracts) : Rows.ExprValuesSaid := over C
theorem proved : Rows.ExprValuesSaid := given contracts
#print axioms proved
end Go.Proofs.Ytaiogcmbpalbpaa.exprValues
