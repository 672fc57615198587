/-
  VarintOnce: what is read at any place of any bytes is laid as the very bytes. No condition.
-/
import Derived.Test.YtaclkofkajehpaaRows
import Derived.Test.YtaclkofkajehpaaVLayTexts
import Derived.Test.YtaclkofkajehpaaVRdTexts
import Derived.Test.YtaclkofkajehpaaVInv
import Derived.Test.YtaclkofkajehpaaKLaw
import Derived.SizedLaws
import Derived.Deep.DeepCutAuto
import Derived.Deep.RegionHeld3
namespace Go.Proofs.Ytaclkofkajehpaa.varintOnce
open Go.ChangeShapes Go.WideShapes Go.ChangeAt Go.RowKit
open Go.ChangeMaps (open_string shut_string)
open Go.Proofs.Ytaclkofkajehpaa.V Go.Proofs.Ytaclkofkajehpaa.K
set_option linter.unusedVariables false

theorem own : ownKnob Try.prog.godebug = none := by kernel_rfl
theorem laidOut : laidOutB Try.prog = true := by kernel_rfl

theorem cut_str (l : List UInt8) (a b : Nat) : (str l).extract a b = str (cut l a b) := by
  unfold str cut
  rw [Lib.extract_eq]
  show (⟨((l.drop a).take (b - a)).toArray⟩ : ByteArray) = _
  congr 3
  omega

set_option maxHeartbeats 2000000 in
set_option maxRecDepth 100000 in
theorem walk (l : List UInt8) (p : Int) (hs : l.length ≤ 140737488355328) (w : World) :
    Calls Try.prog 7 #[.string (str l), .int .i64 p] w fun e w' => e = .returned (.bool true) ∧ Below w.heap.size w w' := by
  have hsz : (str l).size = l.length := str_size l
  by_cases hp : p < 0
  · go_enter Try.func7, Try.ntmps7
    go_wp2_with fail
    refine (awake_any _).mono ?_
    rintro _ w1 ⟨rfl, h1⟩
    go_wp2_with fail
    refine (awake_any _).mono ?_
    rintro _ w2 ⟨rfl, h2⟩
    go_wp2_with fail
    go_ret
    exact ⟨rfl, h1.trans (h2.mono h1.size)⟩
  by_cases hp2 : (l.length : Int) < p
  · go_enter Try.func7, Try.ntmps7
    go_wp2_with fail
    refine (awake_any _).mono ?_
    rintro _ w1 ⟨rfl, h1⟩
    go_wp2_with fail
    refine (awake_any _).mono ?_
    rintro _ w2 ⟨rfl, h2⟩
    go_wp2_with fail
    go_ret
    exact ⟨rfl, h1.trans (h2.mono h1.size)⟩
  obtain ⟨a, rfl⟩ := Int.eq_ofNat_of_zero_le (show 0 ≤ p by omega)
  have hss : (str l).size ≤ 140737488355328 := by rw [str_size]; exact hs
  have hdat : (str l).data.toList = l := str_data l
  have HD := Lib.hid hdat; clear hdat
  have HSS := Lib.hid hss; clear hss
  obtain ⟨⟨x, q, e⟩, hr⟩ : ∃ t, rdAt l (a : Int) = t := ⟨_, rfl⟩
  have hr' : rdAt (str l).data.toList (a : Int) = (x, q, e) := by rw [HD.out]; exact hr
  have HR := Lib.hid hr'; clear hr'
  go_enter Try.func7, Try.ntmps7
  go_wp2_with fail
  refine (awake_any _).mono ?_
  rintro _ w1 ⟨rfl, h1⟩
  go_wp2_with fail
  refine (readNumber_of HR.out _ HSS.out).mono ?_
  rintro _ w2 ⟨rfl, rfl⟩
  go_upto_region 4 with fail
  go_cut [48] (fun s48 wx => s48 = .bool false ∧ Below w.heap.size w wx)
  case first =>
    by_cases he : e = 0
    · subst he
      have hn := num_once l a hr
      have hb := rdAt_bounds l a hr
      have hok := rdAt_ok l a hr
      obtain ⟨b, rfl⟩ := Int.eq_ofNat_of_zero_le (show 0 ≤ q by omega)
      have hex : (str l).extract a b = str (num x) := by rw [cut_str, hn]
      have HB := Lib.hid hb
      have hab : (a : Int) ≤ (b : Int) := by omega
      have hbl : (b : Int) ≤ (l.length : Int) := by omega
      clear hn hb hok hr
      go_region_held3 (fun w' => Below w.heap.size w w') (first | exact h1 | exact h1.drew | assumption) (first | (go_at_call 10; refine (number_any _ _ HB.out.1 HB.out.2).mono ?_; rintro _ w3 ⟨rfl, hb3⟩; have h3 : Below w.heap.size w w3 := h1.drew.trans (hb3.mono h1.size)))
      all_goals (go_wp2_with fail; go_meet; exact ⟨rfl, by assumption⟩)
    · have hb : (e == 0) = false := by simp [he]
      go_quiet (fail)
      go_wp2_with fail
      go_meet
      exact ⟨rfl, below_drewN h1 _⟩
  case rest =>
    obtain ⟨rfl, hc⟩ := hcut
    clear h1 HR hr
    have hrn := readNumbers_any (str l) a wc HSS.out
    rw [HD.out] at hrn
    obtain ⟨⟨xs, q3, e3⟩, hr3⟩ : ∃ t, nums l (a : Int) = t := ⟨_, rfl⟩
    rw [hr3] at hrn
    have HRN := Lib.hid hrn; clear hrn
    go_wp2_with fail
    refine HRN.out.mono ?_
    rintro _ w3 ⟨v, rfl, hv, hb3⟩
    have h3 : Below w.heap.size w w3 := hc.trans (hb3.mono hc.size)
    clear HRN hc hb3
    by_cases he3 : e3 = 0
    focus
      subst he3
      obtain ⟨hlay, _, hab, hbl⟩ := nums_once l a hr3
      have hwf := nums_wf l a hr3
      obtain ⟨b, rfl⟩ := Int.eq_ofNat_of_zero_le (show 0 ≤ q3 by omega)
      have hex : (str l).extract a b = str (cut l a b) := cut_str l a b
      have hcall := numbers_any v xs w3 hwf hv
      rw [hlay] at hcall
      have HCALL := Lib.hid hcall; clear hcall
      clear hwf hv hlay hr3
      go_wp2_with fail
      refine HCALL.out.mono ?_
      rintro _ wz ⟨rfl, hb4⟩
      have hz : Below w.heap.size w wz := h3.trans (hb4.mono h3.size)
      clear h3 hb4 HCALL
      go_wp2_with fail
      clear hex hab hbl
    rotate_left
    focus
      have hb : (e3 == 0) = false := by simp [he3]
      have hz : Below w.heap.size w w3 := h3
      clear h3 hv hr3 he3
      go_wp2_with fail
      clear hb
    all_goals
      have hrt := fun W => readTexts_any (str l) a W HSS.out
      rw [HD.out] at hrt
      obtain ⟨⟨ls, q4, e4⟩, hr4⟩ : ∃ t, txts l (a : Int) = t := ⟨_, rfl⟩
      rw [hr4] at hrt
      refine (hrt _).mono ?_
      clear hrt
      rintro _ w5 ⟨v', rfl, hv', hb5⟩
      have h5 : Below w.heap.size w w5 := hz.trans (hb5.mono hz.size)
      clear hz hb5
      by_cases he4 : e4 = 0
      · subst he4
        obtain ⟨hlay, _, hab, hbl⟩ := txts_once l a hr4
        have hwf := txts_wf l a hr4
        obtain ⟨b, rfl⟩ := Int.eq_ofNat_of_zero_le (show 0 ≤ q4 by omega)
        have hex : (str l).extract a b = str (cut l a b) := cut_str l a b
        have hcall := texts_any v' ls w5 (fun x hx => by have := hwf x hx; unfold maxLen; omega) hv'
        rw [hlay] at hcall
        have HCALL := Lib.hid hcall; clear hcall
        clear hwf hv' hlay hr4
        go_wp2_with fail
        refine HCALL.out.mono ?_
        rintro _ w6 ⟨rfl, hb6⟩
        have h6 : Below w.heap.size w w6 := h5.trans (hb6.mono h5.size)
        clear h5 hb6 HCALL
        go_wp2_with fail
        go_ret
        exact ⟨rfl, h6⟩
      · obtain ⟨rfl, rfl⟩ := list_zero _ _ hr4 he4
        have hb : (e4 == 0) = false := by simp [he4]
        obtain ⟨a', cap', rfl, _⟩ := hv'
        clear hr4 he4
        go_wp2_with fail
        go_ret
        exact ⟨rfl, h5⟩

set_option maxRecDepth 100000 in
theorem lifted (os : Os) (started : os.Started) (H : Type) (enc : TypeId × Value → H) :
    ReturnsInHanded {} Try.checked os 7 .any (Rows.varintOnceSpec.pre6 enc Try.prog Try.f7 Rows.varintOnceRow.domain false) (Rows.varintOnceSpec.post enc Try.prog Try.f7 false true false false) := by
  refine returnsInHanded_of_change_sized (C := Try.checked) own started (by kernel_rfl) Try.func7
    (ChangeSpec.witness6 (enc := enc) (C := Try.checked) false ⟨#[], #[.string ⟨#[]⟩, .int .i64 0], []⟩ 8 (by kernel_rfl) (by kernel_rfl) (by kernel_rfl) (by kernel_rfl)) ?_
  intro W base args ds gs before hval0 hW hcnd hsz0 _
  have hsz : (DataW.weightsEach Try.prog (Try.f7.params.toList ++ Rows.varintOnceSpec.plain.varTypes Try.prog) (ds ++ gs)).all (· ≤ reachBytes) = true := hsz0
  clear hsz0
  have hval : ∀ (j : Nat) t v, Try.f7.params[j]? = some t → args[j]? = some v → Value.okWide Try.prog W .any base t v := hval0
  have hW' := hW
  obtain ⟨p, q, hA0, hV, rfl, hfz, hnd⟩ := hW
  have hA : DataW.TrodAll enc Try.prog W 0 (fun _ => true) true Try.f7.params.toList args.toList ds p := hA0
  rw [Try.params7] at hA hval hsz
  obtain ⟨v0, vs0, d0, ds0, p0, q0, hargs, rfl, rfl, h0, r0⟩ := trodAll_cons hA
  obtain ⟨v1, vs1, d1, ds1, p1, q1, rfl, rfl, rfl, h1, r1⟩ := trodAll_cons r0
  obtain ⟨rfl, rfl, rfl⟩ := trodAll_nil r1
  obtain rfl : args = #[v0, v1] := by cases args; simp_all
  obtain ⟨s, rfl, rfl, rfl, ws⟩ := open_string Try.underlying9 (hval 0 9 v0 rfl rfl) h0
  obtain ⟨n, rfl, rfl, rfl, w0⟩ := open_int Try.underlying3 (hval 1 3 v1 rfl rfl) h1
  obtain ⟨l, rfl⟩ : ∃ l, s = str l := ⟨_, (str_eq s).symm⟩
  have hs : l.length ≤ 140737488355328 := by
    have h1 := sized_string hsz (j := 0) (t := 9) rfl rfl
    have h2 := reachBytes_lt
    rw [str_data] at h1
    omega
  refine (walk l n hs W).mono fun e W' ⟨he, hb⟩ => ?_
  subst he
  exact ⟨_, rfl, post_law hW' hb laidOut rfl rfl rfl Try.underlying4 (by rw [Try.params7]; decide +kernel)⟩

theorem over : Rows.varintOnceRow.holds Try.pinned (OpenSpec.ofChange Rows.varintOnceSpec) :=
  OpenClaim.holds_of_wide 7 Try.f7 rfl rfl rfl rfl rfl rfl rfl ⟨rfl, rfl, rfl, rfl, rfl⟩ rfl rfl rfl rfl rfl (by kernel_rfl) Try.func7 (by kernel_rfl)
    (of_decide_eq_true (by kernel_rfl)) (by unfold Func.isWrapper; first | (rw [if_pos (by decide +kernel)]; kernel_rfl) | (rw [if_neg (by decide +kernel)]; exact ⟨rfl, rfl⟩))
    (fun os started H enc _ => lifted os started H enc)

theorem proved : Rows.VarintOnceSaid := over
#print axioms proved
end Go.Proofs.Ytaclkofkajehpaa.varintOnce
