/-
  FilterNormal: a filter and its normal form have the same streams, and cover one another; that of it is itself; the order of patterns plays no part. No condition.
-/
import Derived.Test.YtbpphghphfbogaaRows
import Derived.Test.YtbpphghphfbogaaP9Prog
import Derived.Test.YtbpphghphfbogaaKLaw
import Derived.SizedLaws
import Derived.Deep.QuietTactic
import Derived.BigQuiet
import Derived.Deep.LoopGhost
import Derived.Deep.DeepCutAuto
import Derived.Deep.RegionHeld3
namespace Go.Proofs.Ytbpphghphfbogaa.filterNormal
open Go.ChangeShapes Go.WideShapes Go.ChangeAt Go.RowKit Go.Shelf Go.Proofs
open Go.ChangeMaps (open_string shut_string)
open Go.Proofs.Ytbpphghphfbogaa.P8 Go.Proofs.Ytbpphghphfbogaa.K Go.Proofs.Ytbpphghphfbogaa.B
set_option linter.unusedVariables false
set_option maxRecDepth 100000

theorem own : ownKnob Try.prog.godebug = none := by kernel_rfl
theorem laidOut : laidOutB Try.prog = true := by kernel_rfl

/-- The patterns of a list, from one on, around. -/
def turnL (l : List (List UInt8)) (f K : Nat) : List (List UInt8) := (List.range K).map fun j => l.getD ((j + f) % l.length) []
theorem turn_succ (l : List (List UInt8)) (f K : Nat) : turnL l f (K + 1) = turnL l f K ++ [l.getD ((K + f) % l.length) []] := by
  unfold turnL
  rw [List.range_succ, List.map_append]; rfl
theorem turn_len (l : List (List UInt8)) (f K : Nat) : (turnL l f K).length = K := by simp [turnL]
theorem turn_place {k N f : Nat} (hk : k < N) : ((k + N - f % N) % N + f) % N = k := by
  have h1 : f % N < N := Nat.mod_lt _ (by omega)
  have h2 := Nat.mod_add_div f N
  rw [Nat.add_mod, Nat.mod_mod, ← Nat.add_mod]
  have h3 : k + N - f % N + f = k + N * (f / N + 1) := by
    rw [Nat.mul_add, Nat.mul_one]
    omega
  rw [h3, Nat.add_mul_mod_self_left, Nat.mod_eq_of_lt hk]
theorem turn_mem (l : List (List UInt8)) (f : Nat) (x : List UInt8) : x ∈ turnL l f l.length ↔ x ∈ l := by
  unfold turnL
  rw [List.mem_map]
  constructor
  · rintro ⟨j, hj, rfl⟩
    rw [List.mem_range] at hj
    have hm : (j + f) % l.length < l.length := Nat.mod_lt _ (by omega)
    rw [List.getD_eq_getElem?_getD, List.getElem?_eq_getElem hm, Option.getD_some]
    exact List.getElem_mem hm
  · intro hx
    obtain ⟨k, hk, rfl⟩ := List.getElem_of_mem hx
    refine ⟨(k + l.length - f % l.length) % l.length, List.mem_range.2 (Nat.mod_lt _ (by omega)), ?_⟩
    rw [turn_place hk, List.getD_eq_getElem?_getD, List.getElem?_eq_getElem hk, Option.getD_some]
theorem turn_right {l : List (List UInt8)} (f : Nat) (h : right9 l = true) : right9 (turnL l f l.length) = true := by
  obtain ⟨h8, hp⟩ := right_all h
  unfold right9
  rw [turn_len]
  simp only [Bool.and_eq_true, decide_eq_true_eq, List.all_eq_true]
  exact ⟨h8, fun x hx => hp x ((turn_mem l f x).1 hx)⟩
theorem turn_norm {l : List (List UInt8)} (f : Nat) (h : right9 l = true) : normF (turnL l f l.length) = leastL l := by
  unfold normF
  rw [if_pos (turn_right f h)]
  exact least_same (turn_mem l f)
theorem norm_norm {l : List (List UInt8)} (h : right9 l = true) : normF (leastL l) = leastL l := by
  unfold normF
  rw [if_pos (least_right h), least_again]

set_option maxHeartbeats 8000000 in
theorem walk (F : Filt) (l0 : List (List UInt8)) (a0 : Option Addr) (n0 c0 : Nat) (s1 : List UInt8) (k2 : Nat) (w : World) (ht0 : Ts w (.slice a0 n0 c0) l0) (hB0 : Bd l0) (hc0 : n0 ≤ c0) (hs1 : s1.length ≤ 140737488355328) (hk2 : k2 < 256) :
    Calls Try.prog 5 #[.slice a0 n0 c0, .string (str s1), .int .u8 (k2 : Int)] w fun e w' => e = .returned (.bool true) ∧ Below w.heap.size w w' := by
  have A := fun (W : World) (_ : Below w.heap.size w W) => awake9_any F W
  have hbb : ∀ b : Bool, (b == b) = true := fun b => by cases b <;> rfl
  obtain ⟨i0, hi, hz0, hz1, hz2⟩ := info_parts Try.info9
  have RT := fun (W : World) (hb : Below w.heap.size w W) => refRight9_any l0 _ W (ht0.below hb) hB0.big
  obtain ⟨r, hr⟩ : ∃ r, right9 l0 = r := ⟨_, rfl⟩
  rw [hr] at RT
  have h0 := Below.refl w.heap.size w
  go_enter Try.func5, Try.ntmps5
  go_wp2_with fail
  refine (A _ h0).mono ?_
  rintro _ w1 ⟨rfl, hb1⟩
  have h1 := h0.trans (hb1.mono h0.size)
  clear hb1
  go_wp2_with fail
  refine (RT _ h1).mono ?_
  rintro _ w2 ⟨rfl, hb2⟩
  have h2 := h1.trans (hb2.mono h1.size)
  clear hb2
  cases r with
  | false =>
    go_wp2_with fail
    refine (A _ h2).mono ?_
    rintro _ w3 ⟨rfl, hb3⟩
    have h3 := h2.trans (hb3.mono h2.size)
    clear hb3
    go_wp2_with fail
    go_ret
    exact ⟨by simp, h3⟩
  | true =>
    have NM := fun (W : World) (hb : Below w.heap.size w W) => F.normal l0 _ W (ht0.below hb) hB0
    rw [show normF l0 = leastL l0 by unfold normF; rw [if_pos hr]] at NM
    go_wp2_with fail
    refine (NM _ h2).mono ?_
    rintro _ w3 ⟨u, rfl, htu, hb3⟩
    have h3 := h2.trans (hb3.mono h2.size)
    clear hb3
    obtain ⟨W0, hW0⟩ : ∃ W : World, w3 = W := ⟨_, rfl⟩
    rw [hW0] at htu h3 ⊢
    obtain ⟨au, cu, rfl, -⟩ := id htu.open
    have hN : l0.length = n0 := by obtain ⟨_, _, e, _⟩ := ht0.open; cases e; rfl
    have HN := Lib.hid hN
    have h8 := (right_all hr).1
    rw [hN] at h8
    have hT3 := ht0.below h3
    have HC := Lib.hid hT3.open
    have HTU := Lib.hid htu
    have HR := Lib.hid hr
    have HH := Lib.hid (show Below w.heap.size w W0 from h3)
    clear hW0 hr hT3 htu h0 h1 h2 h3 RT NM hN
    go_wp2_with fail
    go_loopw [8, 9] (fun t i wr => ∃ K : Nat, i = .int .i64 (K : Int) ∧ K ≤ n0 ∧ Hid (wr.ownsRow W0.heap.size 9 1 t K ((turnL l0 k2 K).map sv)) ∧ Hid (Below W0.heap.size W0 wr)) (fun _ i _ => n0 - (intOf i).toNat)
    case atStart => exact ⟨0, rfl, Nat.zero_le _, Lib.hid (World.ownsRow_nil _ _ _ _), Lib.hid (Below.refl _ _)⟩
    case round =>
      obtain ⟨K, rfl, hK, HO, HB⟩ := hrel
      obtain ⟨at1, ct1, rfl⟩ := shape_own HO.out
      by_cases hlt : K < n0
      · have hltI : (K : Int) < (n0 : Int) := by omega
        have hk0 : 0 ≤ (K : Int) := by omega
        have hw1 : IntKind.i64.wrap ((K : Int) + 1) = (K : Int) + 1 := IntWalk.i64_in _ (by omega)
        have hw2 : IntKind.i64.wrap ((K : Int) + (k2 : Int)) = (K : Int) + (k2 : Int) := IntWalk.i64_in _ (by omega)
        have hw3 : IntKind.i64.wrap (k2 : Int) = (k2 : Int) := IntWalk.i64_in _ (by omega)
        have hne : ¬ (n0 : Int) = 0 := by omega
        have hne2 : ((n0 : Int) == 0) = false := by simp; omega
        obtain ⟨j, hj⟩ : ∃ j, (K + k2) % n0 = j := ⟨_, rfl⟩
        have hjl : j < n0 := by rw [← hj]; exact Nat.mod_lt _ (by omega)
        have htm : ((K : Int) + (k2 : Int)).tmod (n0 : Int) = (j : Int) := by
          rw [Int.tmod_eq_emod_of_nonneg (by omega), ← hj]; simp
        have hj0 : 0 ≤ (j : Int) := by omega
        have hjI : (j : Int) < (n0 : Int) := by omega
        have hw4 : IntKind.i64.wrap (j : Int) = (j : Int) := IntWalk.i64_in _ (by omega)
        obtain ⟨x, hx⟩ : ∃ x, l0[j]? = some x := ⟨_, List.getElem?_eq_getElem (by rw [HN.out]; exact hjl)⟩
        obtain ⟨a', cap', e', hcc⟩ := HC.out
        cases e'
        obtain ⟨b, off, rfl, hcell⟩ := hcc j x hx
        have hc1 := cell_b HB.out hcell
        have HS := Lib.hid (show turnL l0 k2 (K + 1) = turnL l0 k2 K ++ [x] by
          rw [turn_succ, HN.out, hj, List.getD_eq_getElem?_getD, hx]; rfl)
        have HK8 := Lib.hid (show K ≤ 8 by omega)
        clear hcell hcc hx hj
        go_wp2_with (at_builtin; refine wpList_append_own _ rfl _ _ 22 rfl W0.heap.size 9 i0 (.string ⟨#[]⟩) 1 16 Try.underlying22 hi hz0 hz1 hz2 rfl (by decide) _ _ _ rfl (HO.out.alloc _) ⟨wr.heap.size, 0, none⟩ 1 1 [.string (str x)] rfl rfl (one_new _ _ _) (one_cell_str _) (by have := HK8.out; unfold maxLen; omega) (by have := HK8.out; omega) (by have := HB.out.size; simp; omega) ?_; intro v' w8 hown' hgrow hnn; clear hnn; have HB8 := Lib.hid ((HB.out.alloc HB.out.size _).grown hgrow (by have := HB.out.size; simp; omega) (owns_block HO.out)); have HO8 := Lib.hid hown'; clear hown' hgrow)
        go_roundw
        case rel => exact ⟨K + 1, by go_num, by omega, Lib.hid (by rw [HS.out, List.map_append]; exact HO8.out), HB8⟩
        case measure => simp [intOf]; omega
      · have hltI : ¬ (K : Int) < (n0 : Int) := by omega
        obtain rfl : K = n0 := by omega
        have hR := HR.out
        have hBL := hB0.least
        have hT := ts_own HO.out
        rw [show turnL l0 k2 K = turnL l0 k2 l0.length by rw [HN.out]] at hT
        have hBT : Bd (turnL l0 k2 l0.length) := hB0.sub (by rw [turn_len]; exact Nat.le_refl _) fun x hx => (turn_mem l0 k2 x).1 hx
        have h4 := HB.out
        have hu0 := HTU.out
        have hl0 := ht0.below HH.out
        have H1 := fun (W : World) (hb : Below W0.heap.size W0 W) => F.has (leastL l0) s1 _ W (hu0.below hb) hBL hs1
        have H2 := fun (W : World) (hb : Below W0.heap.size W0 W) => F.has l0 s1 _ W (hl0.below hb) hB0 hs1
        have C1 := fun (W : World) (hb : Below W0.heap.size W0 W) => F.covers (leastL l0) l0 _ _ W (hu0.below hb) (hl0.below hb) hBL hB0
        have C2 := fun (W : World) (hb : Below W0.heap.size W0 W) => F.covers l0 (leastL l0) _ _ W (hl0.below hb) (hu0.below hb) hB0 hBL
        have N1 := fun (W : World) (hb : Below W0.heap.size W0 W) => F.normal (leastL l0) _ W (hu0.below hb) hBL
        have N2 := fun (W : World) (hb : Below wr.heap.size wr W) => F.normal (turnL l0 k2 l0.length) _ W (hT.below hb) hBT
        have SM := fun (W : World) (v : Value) (hv : Ts W v (leastL l0)) (hb : Below W0.heap.size W0 W) => same9_any (leastL l0) v _ W hBL.1 hv (hu0.below hb)
        have hle : ((leastL l0).length : Int) ≤ (K : Int) := by have := least_len l0; have := HN.out; omega
        have hled : decide (((leastL l0).length : Int) ≤ (K : Int)) = true := decide_eq_true hle
        rw [has_least hR] at H1
        rw [cov_least hR] at C1
        rw [cov_least' hR] at C2
        rw [norm_norm hR] at N1
        rw [turn_norm k2 hR] at N2
        have h5 := HH.out
        clear hR hT hu0 hl0 hlt HC
        obtain ⟨y, hy⟩ : ∃ y, hasF l0 s1 = y := ⟨_, rfl⟩
        rw [hy] at H1 H2
        clear hy
        go_wp2_with fail
        refine (H1 _ h4).mono ?_
        rintro _ wa ⟨rfl, hba⟩
        have ha := h4.trans (hba.mono h4.size)
        go_wp2_with fail
        refine (H2 _ ha).mono ?_
        rintro _ wb ⟨rfl, hbb1⟩
        have hab := hba.trans (hbb1.mono hba.size)
        have hb := h4.trans (hab.mono h4.size)
        clear ha hba hbb1
        go_wp2_with fail
        refine (C1 _ hb).mono ?_
        rintro _ wc ⟨rfl, hbc⟩
        have hac := hab.trans (hbc.mono hab.size)
        have hc := h4.trans (hac.mono h4.size)
        clear hb hab hbc
        go_wp2_with fail
        refine (C2 _ hc).mono ?_
        rintro _ wd ⟨rfl, hbd⟩
        have had := hac.trans (hbd.mono hac.size)
        have hd := h4.trans (had.mono h4.size)
        clear hc hac hbd
        go_wp2_with fail
        refine (N1 _ hd).mono ?_
        rintro _ we ⟨ve, rfl, hte, hbe⟩
        have hae := had.trans (hbe.mono had.size)
        have he := h4.trans (hae.mono h4.size)
        clear hd had hbe
        go_wp2_with fail
        refine (SM _ _ hte he).mono ?_
        rintro _ wf ⟨rfl, hbf⟩
        have haf := hae.trans (hbf.mono hae.size)
        have hf := h4.trans (haf.mono h4.size)
        clear he hae hbf hte
        go_wp2_with fail
        refine (N2 _ haf).mono ?_
        rintro _ wg ⟨vg, rfl, htg, hbg⟩
        have hg := hf.trans (hbg.mono hf.size)
        clear hf haf hbg
        go_wp2_with fail
        refine (SM _ _ htg hg).mono ?_
        rintro _ wh ⟨rfl, hbh⟩
        have hh := hg.trans (hbh.mono hg.size)
        clear hg hbh htg
        go_wp2_with fail
        go_ret
        exact ⟨by simp, h5.trans (hh.mono h5.size)⟩

theorem lifted (os : Os) (started : os.Started) (H : Type) (enc : TypeId × Value → H) :
    ReturnsInHanded {} Try.checked os 5 .any (Rows.filterNormalSpec.pre6 enc Try.prog Try.f5 Rows.filterNormalRow.domain false) (Rows.filterNormalSpec.post enc Try.prog Try.f5 false true false false) := by
  refine returnsInHanded_of_change_sized (C := Try.checked) own started (by kernel_rfl) Try.func5
    (ChangeSpec.witness6 (enc := enc) (C := Try.checked) false ⟨#[], #[.slice none 0 0, .string ⟨#[]⟩, .int .u8 0], []⟩ 8 (by kernel_rfl) (by kernel_rfl) (by kernel_rfl) (by kernel_rfl)) ?_
  intro W base args ds gs before hval0 hW hcnd hsz0 _
  have hsz : (DataW.weightsEach Try.prog (Try.f5.params.toList ++ Rows.filterNormalSpec.plain.varTypes Try.prog) (ds ++ gs)).all (· ≤ reachBytes) = true := hsz0
  clear hsz0
  have hval : ∀ (j : Nat) t v, Try.f5.params[j]? = some t → args[j]? = some v → Value.okWide Try.prog W .any base t v := hval0
  have hW' := hW
  obtain ⟨p, q, hA0, hV, rfl, hfz, hnd⟩ := hW
  have hA : DataW.TrodAll enc Try.prog W 0 (fun _ => true) true Try.f5.params.toList args.toList ds p := hA0
  rw [Try.params5] at hA hval hsz
  obtain ⟨v0, vs0, d0, ds0, p0, q0, hargs, rfl, rfl, h0, r0⟩ := trodAll_cons hA
  obtain ⟨v1, vs1, d1, ds1, p1, q1, rfl, rfl, rfl, h1, r1⟩ := trodAll_cons r0
  obtain ⟨v2, vs2, d2, ds2, p2, q2, rfl, rfl, rfl, h2, r2⟩ := trodAll_cons r1
  obtain ⟨rfl, rfl, rfl⟩ := trodAll_nil r2
  obtain rfl : args = #[v0, v1, v2] := by cases args; simp_all
  obtain ⟨a0, n0, c0, l0, rfl, hc0, ht0, hB0, -⟩ := strs_argd Try.underlying22 Try.underlying9 (by kernel_rfl) (by kernel_rfl) (hval 0 22 v0 rfl rfl) h0 (j := 0) (by rfl) (by rfl) hsz
  obtain ⟨t1, rfl, rfl, rfl, ws1⟩ := open_string Try.underlying9 (hval 1 9 v1 rfl rfl) h1
  obtain ⟨z2, rfl, rfl, rfl, w2⟩ := open_int Try.underlying5 (hval 2 5 v2 rfl rfl) h2
  obtain ⟨k2, rfl⟩ : ∃ c : Nat, z2 = (c : Int) := Int.eq_ofNat_of_zero_le (by simp [Lit.wf, IntKind.min, IntKind.max, IntKind.signed, IntKind.bits] at w2; omega)
  have hk2 : k2 < 256 := by simp [Lit.wf, IntKind.min, IntKind.max, IntKind.signed, IntKind.bits] at w2; omega
  have hs1 : t1.data.toList.length ≤ 140737488355328 := by
    have h1 := sized_string hsz (j := 1) (t := 9) rfl rfl
    have h2 := reachBytes_lt
    omega
  have hw := walk filt l0 a0 n0 c0 t1.data.toList k2 W ht0 hB0 hc0 hs1 hk2
  rw [str_eq] at hw
  refine hw.mono fun e W' ⟨he, hb⟩ => ?_
  subst he
  exact ⟨_, rfl, post_law hW' hb laidOut rfl rfl rfl Try.underlying4 (by rw [Try.params5]; decide +kernel)⟩

theorem over : Rows.filterNormalRow.holds Try.pinned (OpenSpec.ofChange Rows.filterNormalSpec) :=
  OpenClaim.holds_of_wide 5 Try.f5 rfl rfl rfl rfl rfl rfl rfl ⟨rfl, rfl, rfl, rfl, rfl⟩ rfl rfl rfl rfl rfl (by kernel_rfl) Try.func5 (by kernel_rfl)
    (of_decide_eq_true (by kernel_rfl)) (by unfold Func.isWrapper; first | (rw [if_pos (by decide +kernel)]; kernel_rfl) | (rw [if_neg (by decide +kernel)]; exact ⟨rfl, rfl⟩))
    (fun os started H enc _ => lifted os started H enc)

theorem proved : Rows.FilterNormalSaid := over
#print axioms proved
end Go.Proofs.Ytbpphghphfbogaa.filterNormal
