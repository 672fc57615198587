/-
  InfixShows: every expression's text, or that it may not be, as the document says. Ahead of it: the contract of the reference's Show.
-/
import Derived.Test.YtbeidmkhpcnbbaaGreatDoorIShow
import Derived.Test.YtbeidmkhpcnbbaaGreatDoorIRefX
import Derived.Test.YtbeidmkhpcnbbaaGreatDoorIRefZ
import Derived.Test.YtbeidmkhpcnbbaaGreatDoorRows
import Derived.Test.YtbeidmkhpcnbbaaGreatDoorTie
import Derived.Test.YtbeidmkhpcnbbaaGreatDoorCards
import Derived.Test.YtbeidmkhpcnbbaaGreatDoorILaw
import Derived.Test.YtbeidmkhpcnbbaaGreatDoorIArgs
import Derived.Test.YtbeidmkhpcnbbaaGreatDoorILaid
import Derived.Test.YtbeidmkhpcnbbaaGreatDoorKLaw
namespace Go.Proofs.YtbeidmkhpcnbbaaGreatDoor.I
open Go Go.RowKit Go.Proofs.YtbeidmkhpcnbbaaGreatDoor.B Go.Proofs.YtbeidmkhpcnbbaaGreatDoor.K Go.Proofs.YtbeidmkhpcnbbaaGreatDoor.E
set_option linter.unusedVariables false

theorem ret_si {a a' : ByteArray} {b b' : Int} (h : a = a') (h' : b = b') : Ending.returned (.tuple #[.string a, .int .i64 b]) = .returned (.tuple #[.string a', .int .i64 b']) := by rw [h, h']

set_option maxHeartbeats 800000 in
theorem refShow_any (code : List In) (vs : List Bs) (na : Int) (v v1 : Value) (w : World) (hs : SlI w v code) (hn : Names w v1 vs) (hl : code.length ≤ 9223372036854775807) (hvs : vs.length ≤ 9223372036854775807) (hna : na ≤ 9223372036854775807)
    (V : Nat) (hV : ∀ s ∈ vs, s.length ≤ V) (hVl : V ≤ 140737488355328) :
    Calls Tryz.prog 7 #[v, v1, .int .i64 na] w fun e w' => e = .returned (.tuple #[.string (str (showOf vs na code).1), .int .i64 (showOf vs na code).2]) ∧ Below w.heap.size w w' := by
  have HS := Lib.hid hs
  have HNM := Lib.hid hn
  obtain ⟨a, cap, rfl, -⟩ := hs
  obtain ⟨a1, cap1, rfl⟩ : ∃ a1 cap1, v1 = .slice a1 vs.length cap1 := by
    obtain ⟨a1, cap1, rfl, _⟩ := hn
    rw [List.length_map]
    exact ⟨a1, cap1, rfl⟩
  have hck := refCheck_any code (.slice a code.length cap) vs.length na w HS.out hl
  obtain ⟨⟨p, er⟩, hE⟩ : ∃ t, check code vs.length na = t := ⟨_, rfl⟩
  have her : (check code vs.length na).2 = er := by rw [hE]
  rw [hE] at hck
  have HCK := Lib.hid hck
  clear hck hE hn
  by_cases he : er = 0
  · subst he
    have hsh := showOf_good vs na code her
    obtain ⟨hw, hcode⟩ := exOf_is code vs.length na her
    obtain ⟨_, _, h31, hcr⟩ := check_ok code _ _ her
    have HTREE := Lib.hid (fun W (h : Below w.heap.size w W) => refTree_any code (.slice a code.length cap) W vs.length na (exOf code) (HS.out.below h) hw hcode h31 hcr)
    have HPL := Lib.hid (plains vs V na hna hvs hV hVl (exOf code) hw (by rw [hcode]; exact h31))
    rw [hsh]
    clear hsh hw hcode h31 hcr her
    go_enter Tryz.func7, Tryz.ntmps7
    go_wp2_with fail
    refine HCK.out.mono ?_
    rintro _ w1 ⟨rfl, hb1⟩
    have HB1 := Lib.hid hb1
    clear hb1
    go_wp2_with fail
    refine (HTREE.out _ HB1.out).mono ?_
    rintro _ w2 ⟨⟨s, rfl, ht⟩, hb2⟩
    have HB2 := Lib.hid (HB1.out.trans (hb2.mono HB1.out.size))
    have HT := Lib.hid ht
    clear hb2 ht
    go_wp2_with fail
    refine (HPL.out w2 s _ HT.out (Sl.below HNM.out HB2.out)).mono ?_
    rintro _ w3 ⟨rfl, hb3⟩
    have HB3 := Lib.hid (HB2.out.trans (hb3.mono HB2.out.size))
    clear hb3
    go_wp2_with fail
    go_ret2
    exact ⟨rfl, HB3.out⟩
  · have hsh := showOf_bad vs na code (by rw [her]; exact he)
    rw [her] at hsh
    rw [hsh]
    have be : (er != 0) = true := by simp [he]
    clear he hsh her
    go_enter Tryz.func7, Tryz.ntmps7
    go_wp2_with fail
    refine HCK.out.mono ?_
    rintro _ w1 ⟨rfl, hb1⟩
    have HB1 := Lib.hid hb1
    clear hb1
    go_wp2_with fail
    go_ret2
    exact ⟨rfl, HB1.out⟩
end Go.Proofs.YtbeidmkhpcnbbaaGreatDoor.I

namespace Go.Proofs.YtbeidmkhpcnbbaaGreatDoor.infixShows
open Go.ChangeShapes Go.WideShapes Go.ChangeAt Go.RowKit
open Go.Proofs.YtbeidmkhpcnbbaaGreatDoor.I Go.Proofs.YtbeidmkhpcnbbaaGreatDoor.E Go.Proofs.YtbeidmkhpcnbbaaGreatDoor.B Go.Proofs.YtbeidmkhpcnbbaaGreatDoor.K
set_option linter.unusedVariables false

theorem own : ownKnob Tryz.prog.godebug = none := by kernel_rfl
theorem laidOut : laidOutB Tryz.prog = true := by kernel_rfl

set_option maxHeartbeats 1000000 in
set_option maxRecDepth 100000 in
theorem walk (C : Contracts) (code : List In) (vs : List Bs) (na : Int) (v : Value) (a : Option Addr) (n0 cap : Nat) (w : World) (hg : Glob w) (hs : SlI w v code) (hn : Names w (.slice a n0 cap) vs)
    (hwf : ∀ i ∈ code, (-9223372036854775808 ≤ i.1 ∧ i.1 ≤ 9223372036854775807) ∧ -9223372036854775808 ≤ i.2 ∧ i.2 ≤ 9223372036854775807) (hl : code.length ≤ 9223372036854775807) (hvl : vs.length ≤ 9223372036854775807) (hc : n0 ≤ cap) (hcap : cap ≤ 9223372036854775807)
    (hna : -9223372036854775808 ≤ na ∧ na ≤ 9223372036854775807) :
    Calls Tryz.prog 3 #[v, .slice a n0 cap, .int .i64 na] w fun e w' => e = .returned (.bool true) ∧ Below w.heap.size w w' := by
  have HG := Lib.hid hg
  have HF := Lib.hid (few_any a n0 cap vs w hn hvl hc hcap)
  have HS := Lib.hid hs
  have HWF := Lib.hid hwf; have HL := Lib.hid hl; have HNA := Lib.hid hna
  obtain ⟨vs', hvs'⟩ : ∃ vs', vs' = vs.take 20 := ⟨_, rfl⟩
  have hv20 : vs'.length ≤ 20 := by rw [hvs', List.length_take]; omega
  rw [← hvs'] at HF
  have HV := Lib.hid hv20
  clear hg hvs' hv20 hn hvl hc hcap hwf hl hna
  obtain ⟨ac, capc, rfl, -⟩ := hs
  go_enter Tryz.func3, Tryz.ntmps3
  go_wp2_with fail
  refine HF.out.mono ?_
  rintro _ w1 ⟨⟨v', rfl, hn'⟩, rfl⟩
  have HN := Lib.hid hn'
  obtain ⟨a', cap', rfl, -⟩ := hn'
  rw [List.length_map] at HN ⊢
  obtain ⟨n, hnn⟩ : ∃ n, vs'.length = n := ⟨_, rfl⟩
  rw [hnn] at HN HV ⊢
  have HNN := Lib.hid hnn
  clear hnn HF
  go_wp2_with fail
  go_loopw [7] (fun k wr => ∃ (K : Nat), k = .int .i64 (K : Int) ∧ K ≤ n ∧ wr = w ∧ Hid (∀ j s, j < K → vs'[j]? = some s → s.length ≤ 100)) (fun k _ => n - (intOf k).toNat)
  case atStart => exact ⟨0, rfl, Nat.zero_le _, rfl, Lib.hid (fun j s h => absurd h (Nat.not_lt_zero _))⟩
  case round =>
    obtain ⟨K, rfl, hK, rfl, HB⟩ := hrel
    by_cases hlt : K < n
    · obtain ⟨x, hx⟩ : ∃ x, vs'[K]? = some x := ⟨_, List.getElem?_eq_getElem (by rw [HNN.out]; exact hlt)⟩
      have hm : (vs'.map sv)[K]? = some (sv x) := by rw [List.getElem?_map, hx]; rfl
      obtain ⟨b, off, ea, h1⟩ := HN.out.at hm
      subst ea
      have hwK : IntKind.i64.wrap ((K : Int) + 1) = (K : Int) + 1 := IntWalk.i64_in _ (by have := HV.out; omega)
      have hltI : (K : Int) < (n : Int) := by omega
      have hsz : (str x).size = x.length := str_size x
      have HX := Lib.hid hx
      unfold sv at h1
      clear hm hx
      by_cases hbig : 100 < x.length
      · have hbI : 100 < (x.length : Int) := by omega
        go_wp2_with fail
        refine (awake_any C _ HG.out).mono ?_
        rintro _ w2 ⟨rfl, b2⟩
        go_wp2_with fail
        go_ret
        exact ⟨rfl, b2⟩
      · have hbI : decide (100 < (x.length : Int)) = false := decide_eq_false (by omega)
        go_wp2_with fail
        go_roundw
        case rel =>
          refine ⟨K + 1, by go_num, by omega, by first | rfl | trivial, Lib.hid ?_⟩
          intro j s hj he
          rcases Nat.lt_succ_iff_lt_or_eq.1 hj with h | rfl
          · exact HB.out j s h he
          · rw [HX.out] at he
            cases he
            omega
        case measure => simp [intOf]; omega
    · have e : K = n := by omega
      have heI : decide ((K : Int) < (n : Int)) = false := decide_eq_false (by omega)
      have hb100 : ∀ s ∈ vs', s.length ≤ 100 := by
        intro s hs
        obtain ⟨j, hj, rfl⟩ := List.mem_iff_getElem.1 hs
        exact HB.out j _ (by rw [e, ← HNN.out]; exact hj) (List.getElem?_eq_getElem hj)
      have hv20 : vs'.length ≤ 20 := by rw [HNN.out]; exact HV.out
      have HSH := Lib.hid (C.show_ code vs' na _ _ wr HG.out HS.out HN.out HWF.out HL.out hv20 HNA.out (fun s hs => Nat.le_trans (hb100 s hs) (by decide)))
      have HR := Lib.hid (fun W (hb : Below wr.heap.size wr W) => refShow_any code vs' na _ _ W (HS.out.below hb) (HN.out.below hb) HL.out (by omega) HNA.out.2 100 hb100 (by decide))
      clear hb100 hv20 HB
      obtain ⟨st, ee, hsp⟩ : ∃ st ee, showOf vs' na code = (st, ee) := ⟨_, _, rfl⟩
      rw [hsp] at HSH HR
      unfold sv at HSH
      clear hsp
      go_wp2_with fail
      refine HSH.out.mono ?_
      rintro _ w1 ⟨rfl, b1⟩
      have B1 := Lib.hid b1; clear b1
      go_wp2_with fail
      refine (HR.out _ B1.out).mono ?_
      rintro _ w2 ⟨rfl, b2⟩
      have B2 := Lib.hid (B1.out.trans (b2.mono B1.out.size)); clear b2
      go_wp2_with fail
      refine (awake_any C _ (HG.out.below B2.out)).mono ?_
      rintro _ w3 ⟨rfl, b3⟩
      have B3 := Lib.hid (B2.out.trans (b3.mono B2.out.size)); clear b3
      go_wp2_with fail
      go_ret
      exact ⟨rfl, B3.out⟩

set_option maxRecDepth 100000 in
/-- WHAT THE WALK GIVES, FOR EVERY ARGUMENT AND EVERY WORLD THAT HOLDS WHAT THE ROW LISTS. -/
theorem contract (H : Type) (enc : TypeId × Value → H) (W : World) (base : Nat) (args : Array Value) (ds gs : List (DataW H)) (before : List MemPlace)
    (hval0 : ∀ (j : Nat) t v, Tryz.f3.params[j]? = some t → args[j]? = some v → Value.okWide Tryz.prog W .any base t v)
    (hW : DataW.Whole enc Tryz.prog Tryz.f3.params.toList Rows.infixShowsSpec.vars false W args.toList ds gs before) (hL : laidMetH Tryz.prog laid6 W) :
    Calls Tryz.prog 3 args W fun e W' => ∃ v, e = .returned v ∧ Rows.infixShowsSpec.post enc Tryz.prog Tryz.f3 false true false false W args v W' := by
  have hval : ∀ (j : Nat) t v, Tryz.f3.params[j]? = some t → args[j]? = some v → Value.okWide Tryz.prog W .any base t v := hval0
  have hW' := hW
  obtain ⟨p, q, hA0, hV, rfl, hfz, hnd⟩ := hW
  have hA : DataW.TrodAll enc Tryz.prog W 0 (fun _ => true) true Tryz.f3.params.toList args.toList ds p := hA0
  rw [Tryz.params3] at hA hval
  obtain ⟨v0, vs0, d0, ds0, p0, q0, hargs, rfl, rfl, h0, r0⟩ := trodAll_cons hA
  obtain ⟨v1, vs1, d1, ds1, p1, q1, rfl, rfl, rfl, h1, r1⟩ := trodAll_cons r0
  obtain ⟨v2, vs2, d2, ds2, p2, q2, rfl, rfl, rfl, h2, r2⟩ := trodAll_cons r1
  obtain ⟨rfl, rfl, rfl⟩ := trodAll_nil r2
  obtain rfl : args = #[v0, v1, v2] := by cases args; simp_all
  obtain ⟨code, hsl, hwf, hlen⟩ := pairs_arg Tryz.underlying22 Tryz.underlying39 rfl rfl rfl rfl Tryz.underlying3 Tryz.underlying3 (by kernel_rfl) (by kernel_rfl) (by kernel_rfl) (hval 0 22 v0 rfl rfl) h0
  obtain ⟨vs, hvs, hvx, hvl⟩ := strs_arg Tryz.underlying23 Tryz.underlying9 (by kernel_rfl) (hval 1 23 v1 rfl rfl) h1
  obtain ⟨a, n0, cap, rfl, hc, hcap⟩ := slice_cap Tryz.underlying23 (hval 1 23 v1 rfl rfl) h1
  obtain ⟨na, rfl, rfl, rfl, wna⟩ := open_int Tryz.underlying3 (hval 2 3 v2 rfl rfl) h2
  have hna : -9223372036854775808 ≤ na ∧ na ≤ 9223372036854775807 := by simpa [Lit.wf, IntKind.min, IntKind.max, IntKind.signed, IntKind.bits] using wna
  refine (walk contracts code vs na v0 a n0 cap W (glob_of hL) hsl hvs hwf hlen (Nat.le_trans hvl (by decide)) hc (Nat.le_trans hcap (by decide)) hna).mono fun e W' ⟨he, hb⟩ => ?_
  subst he
  exact ⟨_, rfl, post_law hW' hb laidOut rfl rfl rfl Tryz.underlying4 (by rw [Tryz.params3]; decide +kernel)⟩

theorem reads (os : Os) {H : Type} (enc : TypeId × Value → H) : ∃ places, DataW.whole enc Tryz.prog ((World.doorLaid Tryz.prog 67 os).forCall (fun _ _ => 0) ⟨#[], #[.slice none 0 0, .slice none 0 0, .int .i64 0], []⟩).memory Tryz.f3.params.toList Rows.infixShowsSpec.vars false #[Value.slice none 0 0, .slice none 0 0, .int .i64 0].toList 8 = some ([.nil, .nil, .lit (.int .i64 0)], [], places) :=
  ⟨[], by kernel_rfl⟩

set_option maxRecDepth 100000 in
theorem lifted (os : Os) (started : os.Started) (H : Type) (enc : TypeId × Value → H) (F : Stop.Interp) :
    ReturnsInHanded {} Tryz.checked os 3 .any ((OpenSpec.ofChange Rows.infixShowsSpec).preRow enc Tryz.prog Tryz.f3 Rows.infixShowsRow.domain false Rows.infixShowsRow.laid) (((OpenSpec.ofChange Rows.infixShowsSpec).at F).post enc Tryz.prog Tryz.f3 false true false false) := by
  obtain ⟨places, hx⟩ := reads os enc
  refine returnsInHanded_of_row (C := Tryz.checked) (s := OpenSpec.ofChange Rows.infixShowsSpec) own started (by kernel_rfl) Tryz.func3
    (witness_row_atRef (enc := enc) (C := Tryz.checked) false (World.doorLaid Tryz.prog 67 os) #[.slice none 0 0, .slice none 0 0, .int .i64 0] rfl (by kernel_rfl) (by kernel_rfl) (by kernel_rfl)
      (OpenSpec.preRow_of_cond 8 hx (by kernel_rfl) (fun k hk => by cases hk) (by kernel_rfl) (laid_met os _))) ?_
  intro W base args ds gs before hval hW _ _ _ hL _ _
  exact contract H enc W base args ds gs before hval hW hL

theorem said : Rows.InfixShowsSaid :=
  OpenClaim.holds_of_cond 3 Tryz.f3 rfl rfl rfl rfl rfl rfl rfl ⟨rfl, rfl, rfl, rfl, rfl⟩ rfl rfl rfl rfl rfl (by kernel_rfl) Tryz.func3 (by kernel_rfl)
    (of_decide_eq_true (by kernel_rfl)) (by unfold Func.isWrapper; first | (rw [if_pos (by decide +kernel)]; kernel_rfl) | (rw [if_neg (by decide +kernel)]; exact ⟨rfl, rfl⟩))
    (fun os started H enc _ F => by rw [OpenClaim.pre_eq_preRow]; exact lifted os started H enc F)

theorem plain (f : FuncId) (fn : Func) (hf : Tryz.pinned.checked.prog.funcNamed "surmise/surmiselaw04.InfixShows" = some f) (hfn : Tryz.pinned.checked.prog.funcs[f]? = some fn) :
    true = Tryz.pinned.checked.prog.looks [] ∧ ∀ (j : Nat) t, fn.params[j]? = some t → Tryz.pinned.checked.prog.wantsStandIn t = false := by
  obtain rfl : f = 3 := Option.some.inj ((show Tryz.prog.funcNamed "surmise/surmiselaw04.InfixShows" = some 3 by kernel_rfl).symm.trans hf) |>.symm
  obtain rfl : fn = Tryz.f3 := (Option.some.inj (Tryz.func3.symm.trans hfn)).symm
  refine ⟨by kernel_rfl, fun j t ht => ?_⟩
  rw [Tryz.params3] at ht
  have hm := Array.mem_of_getElem? ht
  simp only [List.mem_toArray, List.mem_cons, List.not_mem_nil, or_false] at hm
  rcases hm with rfl | rfl | rfl
  · exact (show Tryz.prog.wantsStandIn 22 = false by kernel_rfl)
  · exact (show Tryz.prog.wantsStandIn 23 = false by kernel_rfl)
  · exact (show Tryz.prog.wantsStandIn 3 = false by kernel_rfl)

/-- THE CARD. -/
theorem given : Rows.InfixShowsCardSaid :=
  Claim7.holds_tied_plain_at .later [] _ _ _ _ said (fun _ h => by cases h) (by kernel_rfl) (fun _ h => by cases h) infixShows_row_tie rfl ⟨rfl, rfl⟩ (by kernel_rfl) rfl plain (by kernel_rfl)
end Go.Proofs.YtbeidmkhpcnbbaaGreatDoor.infixShows
