/-
  InfixLess: a text with one word more, or that ends too early, is told where; proved where the arguments are together of bulk at most 1048576.
-/
import Derived.Test.YtbeidmkhpcnbbaaDoorRows
import Derived.Test.YtbeidmkhpcnbbaaDoorTie
import Derived.Test.YtbeidmkhpcnbbaaDoorCards
import Derived.Test.YtbeidmkhpcnbbaaDoorILaw
import Derived.Test.YtbeidmkhpcnbbaaDoorIArgs
import Derived.Test.YtbeidmkhpcnbbaaDoorILaid
import Derived.Test.YtbeidmkhpcnbbaaDoorINamed
import Derived.Test.YtbeidmkhpcnbbaaDoorESame
import Derived.Test.YtbeidmkhpcnbbaaDoorKLaw
namespace Go.Proofs.YtbeidmkhpcnbbaaDoor.infixLess
open Go.ChangeShapes Go.WideShapes Go.ChangeAt Go.RowKit
open Go.Proofs.YtbeidmkhpcnbbaaDoor.I Go.Proofs.YtbeidmkhpcnbbaaDoor.E Go.Proofs.YtbeidmkhpcnbbaaDoor.B Go.Proofs.YtbeidmkhpcnbbaaDoor.K
set_option linter.unusedVariables false

theorem own : ownKnob Tryd.prog.godebug = none := by kernel_rfl
theorem laidOut : laidOutB Tryd.prog = true := by kernel_rfl

set_option maxHeartbeats 2000000 in
set_option maxRecDepth 100000 in
theorem walk (C : Contracts) (code : List In) (vs : List Bs) (more : Int) (v : Value) (a : Option Addr) (n0 cap : Nat) (w : World) (hg : Glob w) (hs : SlI w v code) (hn : Names w (.slice a n0 cap) vs)
    (hwf : ∀ i ∈ code, (-9223372036854775808 ≤ i.1 ∧ i.1 ≤ 9223372036854775807) ∧ -9223372036854775808 ≤ i.2 ∧ i.2 ≤ 9223372036854775807) (hl : code.length ≤ 9223372036854775807) (hvl : vs.length ≤ 9223372036854775807) (hc : n0 ≤ cap) (hcap : cap ≤ 9223372036854775807)
    (hmore : 0 ≤ more ∧ more ≤ 255) (hvx : ∀ s ∈ vs, s.length ≤ 1048576) :
    Calls Tryd.prog 5 #[v, .slice a n0 cap, .int .u8 more] w fun e w' => e = .returned (.bool true) ∧ Below w.heap.size w w' := by
  have HG := Lib.hid hg
  have HF := Lib.hid (few_any a n0 cap vs w hn hvl hc hcap)
  have HS := Lib.hid hs
  have HWF := Lib.hid hwf; have HL := Lib.hid hl; have HMO := Lib.hid hmore
  obtain ⟨vs', hvs'⟩ : ∃ vs', vs' = vs.take 20 := ⟨_, rfl⟩
  have hv20 : vs'.length ≤ 20 := by rw [hvs', List.length_take]; omega
  have HVX := Lib.hid (show ∀ s ∈ vs', s.length ≤ 1048576 from fun s hs => hvx s (by rw [hvs'] at hs; exact List.mem_of_mem_take hs))
  rw [← hvs'] at HF
  have HV := Lib.hid hv20
  clear hg hvs' hv20 hn hvl hc hcap hwf hl hmore hvx
  obtain ⟨ac, capc, rfl, -⟩ := hs
  go_enter Tryd.func5, Tryd.ntmps5
  go_wp2_with fail
  refine HF.out.mono ?_
  rintro _ w1 ⟨⟨v', rfl, hn'⟩, rfl⟩
  have HN := Lib.hid hn'
  have HSH := Lib.hid (C.show_ code vs' 3 _ _ w HG.out HS.out HN.out HWF.out HL.out HV.out ⟨by decide, by decide⟩ (fun s hs => Nat.le_trans (HVX.out s hs) (by decide)))
  have HNM := Lib.hid (fun W (hb : Below w.heap.size w W) => named_any _ vs' W (HN.out.below hb) HV.out (fun s hs => Nat.le_trans (HVX.out s hs) (by decide)))
  obtain ⟨a', cap', rfl, -⟩ := hn'
  rw [List.length_map] at HN HSH HNM ⊢
  clear HF
  obtain ⟨st, ee, hsp⟩ : ∃ st ee, showOf vs' 3 code = (st, ee) := ⟨_, _, rfl⟩
  rw [hsp] at HSH
  unfold sv at HSH
  have HSP := Lib.hid hsp
  clear hsp
  go_wp2_with fail
  refine HSH.out.mono ?_
  rintro _ w1 ⟨rfl, b1⟩
  have B1 := Lib.hid b1; clear b1
  go_wp2_with fail
  refine (awake_any C _ (HG.out.below B1.out)).mono ?_
  rintro _ w2 ⟨rfl, b2⟩
  have B2 := Lib.hid (B1.out.trans (b2.mono B1.out.size)); clear b2
  by_cases hee : ee = 0
  case neg =>
    have heI : (ee == 0) = false := beq_eq_false_iff_ne.2 hee
    have HEE := Lib.hid hee
    clear hee
    go_wp2_with fail
    refine (awake_any C _ (HG.out.below B2.out)).mono ?_
    rintro _ w3 ⟨rfl, b3⟩
    have B3 := Lib.hid (B2.out.trans (b3.mono B2.out.size)); clear b3
    go_wp2_with fail
    go_ret
    exact ⟨rfl, B3.out⟩
  subst hee
  go_wp2_with fail
  refine (HNM.out _ B2.out).mono ?_
  rintro _ w3 ⟨⟨r, rfl, hr⟩, b3⟩
  have B3 := Lib.hid (B2.out.trans (b3.mono B2.out.size)); clear b3
  cases r with
  | false =>
    clear hr
    go_wp2_with fail
    refine (awake_any C _ (HG.out.below B3.out)).mono ?_
    rintro _ w4 ⟨rfl, b4⟩
    have B4 := Lib.hid (B3.out.trans (b4.mono B3.out.size)); clear b4
    go_wp2_with fail
    go_ret
    exact ⟨rfl, B4.out⟩
  | true =>
    obtain ⟨hap, hnm⟩ := hr rfl
    by_cases hbig : 1900 < st.length
    · have hbI : 1900 < (st.length : Int) := by omega
      have hsz : (str st).size = st.length := str_size st
      clear hr hap hnm
      go_wp2_with fail
      refine (awake_any C _ (HG.out.below B3.out)).mono ?_
      rintro _ w4 ⟨rfl, b4⟩
      have B4 := Lib.hid (B3.out.trans (b4.mono B3.out.size)); clear b4
      go_wp2_with fail
      go_ret
      exact ⟨rfl, B4.out⟩
    have hbI : decide (1900 < (st.length : Int)) = false := decide_eq_false (by omega)
    have hsz : (str st).size = st.length := str_size st
    obtain ⟨q0, q31, qt, q2048, qth, qnm, qcode⟩ := shown vs' 3 code (by rw [HSP.out]) (by decide) hap hnm
    rw [HSP.out] at qt
    have qt' : st = text vs' (exOf code) := qt
    have hlx : ∀ m, Lx 0 (st ++ 32 :: endW m) (toks 0 (pieces vs' (exOf code)) ++ [(st.length + 1, endW m), (st.length + 1 + (endW m).length, [])]) := by
      intro m
      have h := more_lx vs' (exOf code) qnm m
      rw [← qt'] at h
      exact h
    have hlp : Lx 0 (st ++ [32, 43]) (toks 0 (pieces vs' (exOf code)) ++ [(st.length + 1, [43]), (st.length + 2, [])]) := by
      have h := plus_lx vs' (exOf code) qnm
      rw [← qt'] at h
      exact h
    have HP := Lib.hid (fun W (hb : Below w.heap.size w W) (m : Nat) => C.parseMore_ (st ++ 32 :: endW m) vs' 3 _ _ (st.length + 1) (endW m) _ _ W (HG.out.below hb) (hlx m) (by have := (endW_ok m).2.2.2.1; rw [List.length_append, List.length_cons]; omega) (HN.out.below hb) HV.out hnm (by decide) (by decide) (more_pa vs' 3 hap (exOf code) qth m _ _) (endW_ok m).1)
    have HQ := Lib.hid (fun W (hb : Below w.heap.size w W) => C.parseErr_ (st ++ [32, 43]) vs' 3 _ (st.length + 2) 6 _ W (HG.out.below hb) hlp (by rw [List.length_append]; simp only [List.length_cons, List.length_nil]; omega) (HN.out.below hb) HV.out hnm (by decide) (by decide) (back_plus vs' 3 hap (exOf code) qth _ _))
    clear hlx hlp qt qt' q0 q31 q2048 qth qnm qcode hap hnm hr
    have hst : st.length ≤ 1900 := by omega
    have HST := Lib.hid hst
    clear hbig
    have h8 : more.tmod 8 = 0 ∨ more.tmod 8 = 1 ∨ more.tmod 8 = 2 ∨ more.tmod 8 = 3 ∨ more.tmod 8 = 4 ∨ more.tmod 8 = 5 ∨ more.tmod 8 = 6 ∨ more.tmod 8 = 7 := by
      have := HMO.out
      rw [Int.tmod_eq_emod_of_nonneg this.1]
      omega
    have hq1 : ((st.length + 1 : Nat) : Int) = (st.length : Int) + 1 := by omega
    have hq2 : ((st.length + 2 : Nat) : Int) = (st.length : Int) + 2 := by omega
    have w1 : IntKind.i64.wrap ((st.length : Int) + 1) = (st.length : Int) + 1 := IntWalk.i64_in _ (by omega)
    have w2 : IntKind.i64.wrap ((st.length : Int) + 2) = (st.length : Int) + 2 := IntWalk.i64_in _ (by omega)
    have hcp : str st ++ ⟨#[32, 43]⟩ = str (st ++ [32, 43]) := str_append st [32, 43]
    have hsl : (str st).size ≤ 1900 := by omega
    have hq := HQ.out
    simp only [hq2] at hq
    unfold sv at hq
    have HQ := Lib.hid hq
    clear hq hst
    rcases h8 with h8 | h8 | h8 | h8 | h8 | h8 | h8 | h8
    · have hp := fun W hb => HP.out W hb 0
      simp only [endW, hq1] at hp
      unfold sv at hp
      have HPK := Lib.hid hp
      have hcat : str st ++ ⟨#[32, 41]⟩ = str (st ++ [32, 41]) := str_append st [32, 41]
      clear hp HP
      go_wp2_with fail
      refine (HPK.out _ (B3.out.alloc B3.out.size _)).mono ?_
      rintro _ w4 ⟨⟨v4, rfl⟩, b4⟩
      have B4 := Lib.hid ((B3.out.alloc B3.out.size _).trans (b4.mono (B3.out.alloc B3.out.size _).size)); clear b4
      go_wp2_with fail
      refine (HQ.out _ B4.out).mono ?_
      rintro _ w5 ⟨⟨v5, rfl⟩, b5⟩
      have B5 := Lib.hid (B4.out.trans (b5.mono B4.out.size)); clear b5
      go_wp2_with fail
      go_ret
      exact ⟨rfl, B5.out⟩
    · have hp := fun W hb => HP.out W hb 1
      simp only [endW, hq1] at hp
      unfold sv at hp
      have HPK := Lib.hid hp
      have hcat : str st ++ ⟨#[32, 44]⟩ = str (st ++ [32, 44]) := str_append st [32, 44]
      clear hp HP
      go_wp2_with fail
      refine (HPK.out _ (B3.out.alloc B3.out.size _)).mono ?_
      rintro _ w4 ⟨⟨v4, rfl⟩, b4⟩
      have B4 := Lib.hid ((B3.out.alloc B3.out.size _).trans (b4.mono (B3.out.alloc B3.out.size _).size)); clear b4
      go_wp2_with fail
      refine (HQ.out _ B4.out).mono ?_
      rintro _ w5 ⟨⟨v5, rfl⟩, b5⟩
      have B5 := Lib.hid (B4.out.trans (b5.mono B4.out.size)); clear b5
      go_wp2_with fail
      go_ret
      exact ⟨rfl, B5.out⟩
    · have hp := fun W hb => HP.out W hb 2
      simp only [endW, hq1] at hp
      unfold sv at hp
      have HPK := Lib.hid hp
      have hcat : str st ++ ⟨#[32, 40]⟩ = str (st ++ [32, 40]) := str_append st [32, 40]
      clear hp HP
      go_wp2_with fail
      refine (HPK.out _ (B3.out.alloc B3.out.size _)).mono ?_
      rintro _ w4 ⟨⟨v4, rfl⟩, b4⟩
      have B4 := Lib.hid ((B3.out.alloc B3.out.size _).trans (b4.mono (B3.out.alloc B3.out.size _).size)); clear b4
      go_wp2_with fail
      refine (HQ.out _ B4.out).mono ?_
      rintro _ w5 ⟨⟨v5, rfl⟩, b5⟩
      have B5 := Lib.hid (B4.out.trans (b5.mono B4.out.size)); clear b5
      go_wp2_with fail
      go_ret
      exact ⟨rfl, B5.out⟩
    · have hp := fun W hb => HP.out W hb 3
      simp only [endW, hq1] at hp
      unfold sv at hp
      have HPK := Lib.hid hp
      have hcat : str st ++ ⟨#[32, 49]⟩ = str (st ++ [32, 49]) := str_append st [32, 49]
      clear hp HP
      go_wp2_with fail
      refine (HPK.out _ (B3.out.alloc B3.out.size _)).mono ?_
      rintro _ w4 ⟨⟨v4, rfl⟩, b4⟩
      have B4 := Lib.hid ((B3.out.alloc B3.out.size _).trans (b4.mono (B3.out.alloc B3.out.size _).size)); clear b4
      go_wp2_with fail
      refine (HQ.out _ B4.out).mono ?_
      rintro _ w5 ⟨⟨v5, rfl⟩, b5⟩
      have B5 := Lib.hid (B4.out.trans (b5.mono B4.out.size)); clear b5
      go_wp2_with fail
      go_ret
      exact ⟨rfl, B5.out⟩
    · have hp := fun W hb => HP.out W hb 4
      simp only [endW, hq1] at hp
      unfold sv at hp
      have HPK := Lib.hid hp
      have hcat : str st ++ ⟨#[32, 36, 49]⟩ = str (st ++ [32, 36, 49]) := str_append st [32, 36, 49]
      clear hp HP
      go_wp2_with fail
      refine (HPK.out _ (B3.out.alloc B3.out.size _)).mono ?_
      rintro _ w4 ⟨⟨v4, rfl⟩, b4⟩
      have B4 := Lib.hid ((B3.out.alloc B3.out.size _).trans (b4.mono (B3.out.alloc B3.out.size _).size)); clear b4
      go_wp2_with fail
      refine (HQ.out _ B4.out).mono ?_
      rintro _ w5 ⟨⟨v5, rfl⟩, b5⟩
      have B5 := Lib.hid (B4.out.trans (b5.mono B4.out.size)); clear b5
      go_wp2_with fail
      go_ret
      exact ⟨rfl, B5.out⟩
    · have hp := fun W hb => HP.out W hb 5
      simp only [endW, hq1] at hp
      unfold sv at hp
      have HPK := Lib.hid hp
      have hcat : str st ++ ⟨#[32, 33]⟩ = str (st ++ [32, 33]) := str_append st [32, 33]
      clear hp HP
      go_wp2_with fail
      refine (HPK.out _ (B3.out.alloc B3.out.size _)).mono ?_
      rintro _ w4 ⟨⟨v4, rfl⟩, b4⟩
      have B4 := Lib.hid ((B3.out.alloc B3.out.size _).trans (b4.mono (B3.out.alloc B3.out.size _).size)); clear b4
      go_wp2_with fail
      refine (HQ.out _ B4.out).mono ?_
      rintro _ w5 ⟨⟨v5, rfl⟩, b5⟩
      have B5 := Lib.hid (B4.out.trans (b5.mono B4.out.size)); clear b5
      go_wp2_with fail
      go_ret
      exact ⟨rfl, B5.out⟩
    · have hp := fun W hb => HP.out W hb 6
      simp only [endW, hq1] at hp
      unfold sv at hp
      have HPK := Lib.hid hp
      have hcat : str st ++ ⟨#[32, 97]⟩ = str (st ++ [32, 97]) := str_append st [32, 97]
      clear hp HP
      go_wp2_with fail
      refine (HPK.out _ (B3.out.alloc B3.out.size _)).mono ?_
      rintro _ w4 ⟨⟨v4, rfl⟩, b4⟩
      have B4 := Lib.hid ((B3.out.alloc B3.out.size _).trans (b4.mono (B3.out.alloc B3.out.size _).size)); clear b4
      go_wp2_with fail
      refine (HQ.out _ B4.out).mono ?_
      rintro _ w5 ⟨⟨v5, rfl⟩, b5⟩
      have B5 := Lib.hid (B4.out.trans (b5.mono B4.out.size)); clear b5
      go_wp2_with fail
      go_ret
      exact ⟨rfl, B5.out⟩
    · have hp := fun W hb => HP.out W hb 7
      simp only [endW, hq1] at hp
      unfold sv at hp
      have HPK := Lib.hid hp
      have hcat : str st ++ ⟨#[32, 109, 105, 110]⟩ = str (st ++ [32, 109, 105, 110]) := str_append st [32, 109, 105, 110]
      clear hp HP
      go_wp2_with fail
      refine (HPK.out _ (B3.out.alloc B3.out.size _)).mono ?_
      rintro _ w4 ⟨⟨v4, rfl⟩, b4⟩
      have B4 := Lib.hid ((B3.out.alloc B3.out.size _).trans (b4.mono (B3.out.alloc B3.out.size _).size)); clear b4
      go_wp2_with fail
      refine (HQ.out _ B4.out).mono ?_
      rintro _ w5 ⟨⟨v5, rfl⟩, b5⟩
      have B5 := Lib.hid (B4.out.trans (b5.mono B4.out.size)); clear b5
      go_wp2_with fail
      go_ret
      exact ⟨rfl, B5.out⟩

set_option maxRecDepth 100000 in
/-- WHAT THE WALK GIVES, FOR ARGUMENTS OF A SMAinfixLess BULK AND EVERY WORLD THAT HOLDS WHAT THE ROW LISTS. -/
theorem contract (H : Type) (enc : TypeId × Value → H) (W : World) (base : Nat) (args : Array Value) (ds gs : List (DataW H)) (before : List MemPlace)
    (hval0 : ∀ (j : Nat) t v, Tryd.f5.params[j]? = some t → args[j]? = some v → Value.okWide Tryd.prog W .any base t v)
    (hW : DataW.Whole enc Tryd.prog Tryd.f5.params.toList Rows.infixLessSpec.vars false W args.toList ds gs before)
    (hk : Rows.uptoSmall H (ds ++ gs) = true) (hL : laidMetH Tryd.prog laid6 W) :
    Calls Tryd.prog 5 args W fun e W' => ∃ v, e = .returned v ∧ Rows.infixLessSpec.post enc Tryd.prog Tryd.f5 false true false false W args v W' := by
  have hval : ∀ (j : Nat) t v, Tryd.f5.params[j]? = some t → args[j]? = some v → Value.okWide Tryd.prog W .any base t v := hval0
  have hW' := hW
  obtain ⟨p, q, hA0, hV, rfl, hfz, hnd⟩ := hW
  have hA : DataW.TrodAll enc Tryd.prog W 0 (fun _ => true) true Tryd.f5.params.toList args.toList ds p := hA0
  rw [Tryd.params5] at hA hval
  obtain ⟨v0, vs0, d0, ds0, p0, q0, hargs, rfl, rfl, h0, r0⟩ := trodAll_cons hA
  obtain ⟨v1, vs1, d1, ds1, p1, q1, rfl, rfl, rfl, h1, r1⟩ := trodAll_cons r0
  obtain ⟨v2, vs2, d2, ds2, p2, q2, rfl, rfl, rfl, h2, r2⟩ := trodAll_cons r1
  obtain ⟨rfl, rfl, rfl⟩ := trodAll_nil r2
  obtain rfl : args = #[v0, v1, v2] := by cases args; simp_all
  obtain ⟨code, hsl, hwf, hlen⟩ := pairs_arg Tryd.underlying24 Tryd.underlying45 rfl rfl rfl rfl Tryd.underlying3 Tryd.underlying3 (by kernel_rfl) (by kernel_rfl) (by kernel_rfl) (hval 0 24 v0 rfl rfl) h0
  obtain ⟨vs, hvs, hvx, hvl⟩ := strs_bulk Tryd.underlying25 Tryd.underlying9 (by kernel_rfl) (hval 1 25 v1 rfl rfl) h1 (List.mem_append_left _ (List.mem_cons_of_mem _ List.mem_cons_self)) hk
  obtain ⟨a, n0, cap, rfl, hc, hcap⟩ := slice_cap Tryd.underlying25 (hval 1 25 v1 rfl rfl) h1
  obtain ⟨na, rfl, rfl, rfl, wna⟩ := open_int Tryd.underlying5 (hval 2 5 v2 rfl rfl) h2
  have hna : 0 ≤ na ∧ na ≤ 255 := by simpa [Lit.wf, IntKind.min, IntKind.max, IntKind.signed, IntKind.bits] using wna
  refine (walk contracts code vs na v0 a n0 cap W (glob_of hL) hsl hvs hwf hlen (Nat.le_trans hvl (by decide)) hc (Nat.le_trans hcap (by decide)) hna hvx).mono fun e W' ⟨he, hb⟩ => ?_
  subst he
  exact ⟨_, rfl, post_law hW' hb laidOut rfl rfl rfl Tryd.underlying4 (by rw [Tryd.params5]; decide +kernel)⟩

theorem reads (os : Os) {H : Type} (enc : TypeId × Value → H) : ∃ places, DataW.whole enc Tryd.prog ((World.doorLaid Tryd.prog 67 os).forCall (fun _ _ => 0) ⟨#[], #[.slice none 0 0, .slice none 0 0, .int .u8 0], []⟩).memory Tryd.f5.params.toList Rows.infixLessSpec.vars false #[Value.slice none 0 0, .slice none 0 0, .int .u8 0].toList 8 = some ([.nil, .nil, .lit (.int .u8 0)], [], places) :=
  ⟨[], by kernel_rfl⟩

set_option maxRecDepth 100000 in
theorem lifted (os : Os) (started : os.Started) (H : Type) (enc : TypeId × Value → H) (F : Stop.Interp) :
    ReturnsInHanded {} Tryd.checked os 5 .any ((Rows.OpenSpec.upto Rows.infixLessSpec).preRow enc Tryd.prog Tryd.f5 Rows.infixLessUptoRow.domain false Rows.infixLessUptoRow.laid) (((Rows.OpenSpec.upto Rows.infixLessSpec).at F).post enc Tryd.prog Tryd.f5 false true false false) := by
  obtain ⟨places, hx⟩ := reads os enc
  refine returnsInHanded_of_row (C := Tryd.checked) (s := Rows.OpenSpec.upto Rows.infixLessSpec) own started (by kernel_rfl) Tryd.func5
    (witness_row_atRef (enc := enc) (C := Tryd.checked) false (World.doorLaid Tryd.prog 67 os) #[.slice none 0 0, .slice none 0 0, .int .u8 0] rfl (by kernel_rfl) (by kernel_rfl) (by kernel_rfl)
      (OpenSpec.preRow_of_cond 8 hx (by kernel_rfl) (fun k hk => by cases hk; kernel_rfl) (by kernel_rfl) (laid_met os _))) ?_
  intro W base args ds gs before hval hW _ hcond _ hL _ _
  exact contract H enc W base args ds gs before hval hW (hcond _ rfl) hL

theorem said : Rows.InfixLessUptoSaid :=
  OpenClaim.holds_of_cond 5 Tryd.f5 rfl rfl rfl rfl rfl rfl rfl ⟨rfl, rfl, rfl, rfl, rfl⟩ rfl rfl rfl rfl rfl (by kernel_rfl) Tryd.func5 (by kernel_rfl)
    (of_decide_eq_true (by kernel_rfl)) (by unfold Func.isWrapper; first | (rw [if_pos (by decide +kernel)]; kernel_rfl) | (rw [if_neg (by decide +kernel)]; exact ⟨rfl, rfl⟩))
    (fun os started H enc _ F => by rw [OpenClaim.pre_eq_preRow]; exact lifted os started H enc F)

theorem plain (f : FuncId) (fn : Func) (hf : Tryd.pinned.checked.prog.funcNamed "surmise/surmiselaw04.InfixLess" = some f) (hfn : Tryd.pinned.checked.prog.funcs[f]? = some fn) :
    true = Tryd.pinned.checked.prog.looks [] ∧ ∀ (j : Nat) t, fn.params[j]? = some t → Tryd.pinned.checked.prog.wantsStandIn t = false := by
  obtain rfl : f = 5 := Option.some.inj ((show Tryd.prog.funcNamed "surmise/surmiselaw04.InfixLess" = some 5 by kernel_rfl).symm.trans hf) |>.symm
  obtain rfl : fn = Tryd.f5 := (Option.some.inj (Tryd.func5.symm.trans hfn)).symm
  refine ⟨by kernel_rfl, fun j t ht => ?_⟩
  rw [Tryd.params5] at ht
  have hm := Array.mem_of_getElem? ht
  simp only [List.mem_toArray, List.mem_cons, List.not_mem_nil, or_false] at hm
  rcases hm with rfl | rfl | rfl
  · exact (show Tryd.prog.wantsStandIn 24 = false by kernel_rfl)
  · exact (show Tryd.prog.wantsStandIn 25 = false by kernel_rfl)
  · exact (show Tryd.prog.wantsStandIn 5 = false by kernel_rfl)

/-- THE SECOND FORM's CARD. -/
theorem given : Rows.InfixLessUptoCardSaid :=
  Claim7.holds_tied_plain_at .later [] _ _ _ _ said (fun _ h => by cases h) (by kernel_rfl) (fun _ h => by cases h) infixLessUpto_row_tie rfl ⟨rfl, rfl⟩ (by kernel_rfl) rfl plain (by kernel_rfl)
end Go.Proofs.YtbeidmkhpcnbbaaDoor.infixLess
