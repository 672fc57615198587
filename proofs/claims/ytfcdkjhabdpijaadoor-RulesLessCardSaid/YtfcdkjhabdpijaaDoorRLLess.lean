/-
  RulesLess: a table without one of its rules may be, too, and no more states can be reached then.
-/
import Derived.Test.YtfcdkjhabdpijaaDoorRows
import Derived.Test.YtfcdkjhabdpijaaDoorTie
import Derived.Test.YtfcdkjhabdpijaaDoorCards
import Derived.Test.YtfcdkjhabdpijaaDoorRMg
import Derived.Test.YtfcdkjhabdpijaaDoorRLaid
import Derived.Test.YtfcdkjhabdpijaaDoorRUa
import Derived.OpenShut
namespace Go.Proofs.YtfcdkjhabdpijaaDoor.rulesLess
open Go Go.ChangeShapes Go.WideShapes Go.ChangeAt Go.RowKit
open Go.Proofs.YtfcdkjhabdpijaaDoor.B Go.Proofs.YtfcdkjhabdpijaaDoor.K Go.Proofs.YtfcdkjhabdpijaaDoor.E Go.Proofs.YtfcdkjhabdpijaaDoor.R
set_option linter.unusedVariables false

theorem own : ownKnob Tryd.prog.godebug = none := by kernel_rfl
theorem laidOut : laidOutB Tryd.prog = true := by kernel_rfl

theorem four_cases (e0 e1 e2 e3 : Int) : (e0 = 0 ∧ e1 = 0 ∧ e2 = 0 ∧ e3 = 0) ∨ e0 ≠ 0 ∨ (e0 = 0 ∧ e1 ≠ 0) ∨ (e0 = 0 ∧ e1 = 0 ∧ e2 ≠ 0) ∨ (e0 = 0 ∧ e1 = 0 ∧ e2 = 0 ∧ e3 ≠ 0) := by omega

set_option maxRecDepth 100000 in
/-- An argument that is a table, and that its rules' slice has room for its rules. -/
theorem tb_argC {H : Type} {enc : TypeId × Value → H} {W : World} {base : Nat} {v : Value} {d : DataW H} {p : List MemPlace} (hval : Value.okWide Tryd.prog W .any base 26 v) (hd : DataW.Trod enc Tryd.prog W 0 (fun _ => true) true 26 v d p) :
    ∃ c0 c1 c2 c3 t, v = .agg #[c0, c1, c2, c3] ∧ TbIs W [c0, c1, c2, c3] t ∧ TbWf t ∧ ∃ a m cap, c3 = .slice a m cap ∧ m ≤ cap := by
  obtain ⟨cs, rfl, hsz⟩ := okWide_struct Tryd.underlying26 hval
  obtain ⟨fuel, hf0⟩ := hd
  obtain ⟨hl, m, hf⟩ := each_cell Tryd.underlying26 (by kernel_rfl) (by kernel_rfl) (show DataW.trod enc Tryd.prog W 0 (fun _ => true) true fuel 26 cs.toList = some (d, p) from hf0)
  obtain ⟨c0, z0, e0, t0⟩ := hf 0 _ rfl
  obtain ⟨c1, z1, e1, t1⟩ := hf 1 _ rfl
  obtain ⟨c2, z2, e2, t2⟩ := hf 2 _ rfl
  obtain ⟨c3, z3, e3, t3⟩ := hf 3 _ rfl
  have hcs := list4 hl e0 e1 e2 e3
  obtain ⟨l⟩ := cs
  obtain rfl : l = [c0, c1, c2, c3] := hcs
  obtain ⟨t, h1, h2⟩ := tb_cells t0 t1 t2 t3
  refine ⟨c0, c1, c2, c3, t, rfl, h1, h2, ?_⟩
  rcases Go.Deep.open_slice Tryd.underlying24 t3 with ⟨hcs, _⟩ | ⟨a, len, cap, m, n, D, Pl, hcs, _, hlc, hm, hmm, _, hx⟩
  · simp at hcs
    subst hcs
    exact ⟨none, 0, 0, rfl, Nat.le_refl _⟩
  · simp at hcs
    subst hcs
    exact ⟨some a, len, cap, rfl, hlc⟩

set_option maxHeartbeats 8000000 in
set_option maxRecDepth 100000 in
theorem walk (t : Tb) (c0 c1 c2 c3 : Value) (n : Int) (w : World) (h : TbIs w [c0, c1, c2, c3] t) (hw : TbWf t) (hn : I64 n) (hcap : ∃ a m cap, c3 = .slice a m cap ∧ m ≤ cap) (hG : I.Glob w) :
    Calls Tryd.prog 7 #[.agg #[c0, c1, c2, c3], .int .i64 n] w fun e w' => e = .returned (.bool true) ∧ Below w.heap.size w w' := by
  have HT := Lib.hid h
  obtain ⟨d0, d1, d2, d3, e, x0, x1, x2, x3⟩ := id h
  cases e
  obtain ⟨a3, cap3, rfl, x3⟩ := x3.open
  obtain ⟨_, _, _, hce, hcl⟩ := hcap
  cases hce
  obtain ⟨N, hN⟩ : ∃ N, t.rules.length = N := ⟨_, rfl⟩
  rw [hN] at x3 h HT hcl ⊢
  have HR3 := Lib.hid x3
  have HNE := Lib.hid hN
  obtain ⟨W0, hW0⟩ : ∃ W0, w.alloc (.cells #[c0, c1, c2, .slice a3 N cap3] 26) = W0 := ⟨_, rfl⟩
  have hB0 : Below w.heap.size w W0 := by rw [← hW0]; exact below_alloc _ _
  have q0 : W0.cell? ⟨w.heap.size, 0, none⟩ = some (c0) := by rw [← hW0]; exact box_cell _ _ _ _ _ rfl
  have q1 : W0.cell? ⟨w.heap.size, 1, none⟩ = some (c1) := by rw [← hW0]; exact box_cell _ _ _ _ _ rfl
  have q2 : W0.cell? ⟨w.heap.size, 2, none⟩ = some (c2) := by rw [← hW0]; exact box_cell _ _ _ _ _ rfl
  have q3 : W0.cell? ⟨w.heap.size, 3, none⟩ = some (.slice a3 N cap3) := by rw [← hW0]; exact box_cell _ _ _ _ _ rfl
  have HB0 := Lib.hid hB0
  have HK := Lib.hid (fun (Wa Wb : World) (hb : Below Wa.heap.size Wa Wb) (h : Wa.cell? ⟨w.heap.size, 0, none⟩ = some (c0) ∧ Wa.cell? ⟨w.heap.size, 1, none⟩ = some (c1) ∧ Wa.cell? ⟨w.heap.size, 2, none⟩ = some (c2) ∧ Wa.cell? ⟨w.heap.size, 3, none⟩ = some (.slice a3 N cap3) ∧ Below W0.heap.size W0 Wa) => show Wb.cell? ⟨w.heap.size, 0, none⟩ = some (c0) ∧ Wb.cell? ⟨w.heap.size, 1, none⟩ = some (c1) ∧ Wb.cell? ⟨w.heap.size, 2, none⟩ = some (c2) ∧ Wb.cell? ⟨w.heap.size, 3, none⟩ = some (.slice a3 N cap3) ∧ Below W0.heap.size W0 Wb from ⟨kept_cell hb h.1, kept_cell hb h.2.1, kept_cell hb h.2.2.1, kept_cell hb h.2.2.2.1, h.2.2.2.2.trans (hb.mono h.2.2.2.2.size)⟩)
  have HS0 := Lib.hid (show W0.cell? ⟨w.heap.size, 0, none⟩ = some (c0) ∧ W0.cell? ⟨w.heap.size, 1, none⟩ = some (c1) ∧ W0.cell? ⟨w.heap.size, 2, none⟩ = some (c2) ∧ W0.cell? ⟨w.heap.size, 3, none⟩ = some (.slice a3 N cap3) ∧ Below W0.heap.size W0 W0 from ⟨q0, q1, q2, q3, Below.refl _ _⟩)
  have HSD := Lib.hid (show W0.drew.cell? ⟨w.heap.size, 0, none⟩ = some (c0) ∧ W0.drew.cell? ⟨w.heap.size, 1, none⟩ = some (c1) ∧ W0.drew.cell? ⟨w.heap.size, 2, none⟩ = some (c2) ∧ W0.drew.cell? ⟨w.heap.size, 3, none⟩ = some (.slice a3 N cap3) ∧ Below W0.heap.size W0 W0.drew from ⟨q0, q1, q2, q3, (Below.refl _ _).drew⟩)
  have HTB := Lib.hid (fun (W : World) (hS : W.cell? ⟨w.heap.size, 0, none⟩ = some (c0) ∧ W.cell? ⟨w.heap.size, 1, none⟩ = some (c1) ∧ W.cell? ⟨w.heap.size, 2, none⟩ = some (c2) ∧ W.cell? ⟨w.heap.size, 3, none⟩ = some (.slice a3 N cap3) ∧ Below W0.heap.size W0 W) => h.below (hB0.trans (hS.2.2.2.2.mono hB0.size)))
  have HGB := Lib.hid (fun (W : World) (hS : W.cell? ⟨w.heap.size, 0, none⟩ = some (c0) ∧ W.cell? ⟨w.heap.size, 1, none⟩ = some (c1) ∧ W.cell? ⟨w.heap.size, 2, none⟩ = some (c2) ∧ W.cell? ⟨w.heap.size, 3, none⟩ = some (.slice a3 N cap3) ∧ Below W0.heap.size W0 W) => hG.below (hB0.trans (hS.2.2.2.2.mono hB0.size)))
  have HWF := Lib.hid hw
  have HA := Lib.hid (fun (W : World) (hS : W.cell? ⟨w.heap.size, 0, none⟩ = some (c0) ∧ W.cell? ⟨w.heap.size, 1, none⟩ = some (c1) ∧ W.cell? ⟨w.heap.size, 2, none⟩ = some (c2) ∧ W.cell? ⟨w.heap.size, 3, none⟩ = some (.slice a3 N cap3) ∧ Below W0.heap.size W0 W) => (awake_any W (HGB.out W hS)).mono (fun z w' (hz : (z = .returned (.bool true)) ∧ Below W.heap.size W w') => show (z = .returned (.bool true)) ∧ w'.cell? ⟨w.heap.size, 0, none⟩ = some (c0) ∧ w'.cell? ⟨w.heap.size, 1, none⟩ = some (c1) ∧ w'.cell? ⟨w.heap.size, 2, none⟩ = some (c2) ∧ w'.cell? ⟨w.heap.size, 3, none⟩ = some (.slice a3 N cap3) ∧ Below W0.heap.size W0 w' from ⟨hz.1, HK.out W w' hz.2 hS⟩))
  obtain ⟨⟨e0, e1, e2, e3⟩, hf⟩ : ∃ f, chk5 t = f := ⟨_, rfl⟩
  have HC0 := Lib.hid (fun (W : World) (hS : W.cell? ⟨w.heap.size, 0, none⟩ = some (c0) ∧ W.cell? ⟨w.heap.size, 1, none⟩ = some (c1) ∧ W.cell? ⟨w.heap.size, 2, none⟩ = some (c2) ∧ W.cell? ⟨w.heap.size, 3, none⟩ = some (.slice a3 N cap3) ∧ Below W0.heap.size W0 W) => check_any t _ _ _ _ W (HTB.out W hS) HWF.out (HGB.out W hS))
  rw [hf, show Ft.v (e0, e1, e2, e3) = .agg #[.int .i64 e0, .int .i64 e1, .int .i64 e2, .int .i64 e3] from rfl] at HC0
  have HC := Lib.hid (fun (W : World) (hS : W.cell? ⟨w.heap.size, 0, none⟩ = some (c0) ∧ W.cell? ⟨w.heap.size, 1, none⟩ = some (c1) ∧ W.cell? ⟨w.heap.size, 2, none⟩ = some (c2) ∧ W.cell? ⟨w.heap.size, 3, none⟩ = some (.slice a3 N cap3) ∧ Below W0.heap.size W0 W) => (HC0.out W hS).mono (fun z w' (hz : (z = .returned (.agg #[.int .i64 e0, .int .i64 e1, .int .i64 e2, .int .i64 e3])) ∧ Below W.heap.size W w') => show (z = .returned (.agg #[.int .i64 e0, .int .i64 e1, .int .i64 e2, .int .i64 e3])) ∧ w'.cell? ⟨w.heap.size, 0, none⟩ = some (c0) ∧ w'.cell? ⟨w.heap.size, 1, none⟩ = some (c1) ∧ w'.cell? ⟨w.heap.size, 2, none⟩ = some (c2) ∧ w'.cell? ⟨w.heap.size, 3, none⟩ = some (.slice a3 N cap3) ∧ Below W0.heap.size W0 w' from ⟨hz.1, HK.out W w' hz.2 hS⟩))
  by_cases hok : chk5 t = (0, 0, 0, 0) ∧ 0 ≤ n ∧ n < (N : Int)
  case neg =>
    have hcase : (e0 ≠ 0 ∨ (e0 = 0 ∧ e1 ≠ 0) ∨ (e0 = 0 ∧ e1 = 0 ∧ e2 ≠ 0) ∨ (e0 = 0 ∧ e1 = 0 ∧ e2 = 0 ∧ e3 ≠ 0)) ∨ ((e0 = 0 ∧ e1 = 0 ∧ e2 = 0 ∧ e3 = 0) ∧ (n < 0 ∨ (0 ≤ n ∧ (N : Int) ≤ n))) := by
      rcases four_cases e0 e1 e2 e3 with ⟨rfl, rfl, rfl, rfl⟩ | h
      · refine Or.inr ⟨⟨rfl, rfl, rfl, rfl⟩, ?_⟩
        by_cases h0 : n < 0
        · exact Or.inl h0
        · by_cases h1 : n < (N : Int)
          · exact absurd ⟨hf, by omega, h1⟩ hok
          · exact Or.inr ⟨by omega, by omega⟩
      · exact Or.inl h
    clear hw hG h hB0 hf hok hN x0 x1 x2 x3 HC0 hn hcl
    rcases hcase with (h0 | ⟨rfl, h0⟩ | ⟨rfl, rfl, h0⟩ | ⟨rfl, rfl, rfl, h0⟩) | ⟨⟨rfl, rfl, rfl, rfl⟩, h0 | ⟨h0, h1⟩⟩
    case' inl.inl => have hb : (e0 == 0) = false := beq_eq_false_iff_ne.2 h0; clear h0
    case' inl.inr.inl => have hb : (e1 == 0) = false := beq_eq_false_iff_ne.2 h0; clear h0
    case' inl.inr.inr.inl => have hb : (e2 == 0) = false := beq_eq_false_iff_ne.2 h0; clear h0
    case' inl.inr.inr.inr => have hb : (e3 == 0) = false := beq_eq_false_iff_ne.2 h0; clear h0
    case' inr.inr => have h2 : ¬ n < 0 := by omega
    all_goals
      go_enter Tryd.func7, Tryd.ntmps7
      go_wp2_with fail
      refine (HA.out _ HS0.out).mono ?_
      rintro _ w1 ⟨rfl, hS1⟩
      obtain ⟨p0, p1, p2, p3, -⟩ := id hS1
      have HS1 := Lib.hid hS1
      clear hS1
      go_wp2_with fail
      refine (HC.out _ HS1.out).mono ?_
      rintro _ w2 ⟨rfl, hS2⟩
      obtain ⟨p0, p1, p2, p3, -⟩ := id hS2
      have HS2 := Lib.hid hS2
      clear hS2
      go_wp2_with fail
      refine (HA.out _ HS2.out).mono ?_
      rintro _ w3 ⟨rfl, hS3⟩
      have HS3 := Lib.hid hS3
      clear hS3
      go_wp2_with fail
      go_ret
      exact ⟨rfl, HB0.out.trans (HS3.out.2.2.2.2.mono HB0.out.size)⟩
  case pos =>
    obtain ⟨hcz, y0, y1⟩ := hok
    rw [hf] at hcz
    cases hcz
    obtain ⟨k, rfl⟩ : ∃ k : Nat, n = k := ⟨n.toNat, by omega⟩
    have hkN : k < N := by omega
    obtain ⟨r, hr⟩ : ∃ r, t.rules[k]? = some r := ⟨_, List.getElem?_eq_getElem (by omega)⟩
    obtain ⟨b, off, ea, -⟩ := x3.at hr
    subst ea
    have HF := Lib.hid (fine_of hf)
    have HCZ := Lib.hid hf
    have HLC := Lib.hid (less_chk (k := k) (by omega) hf)
    have HN12 := Lib.hid (show N ≤ 12 by rw [← hN]; exact (fine_of hf).rules)
    obtain ⟨rows, hrl, hr5, hrq, hrc⟩ := x3.rows hN
    have hone : ∀ u ∈ rows.flatten, u.oneCell' = true := by
      intro u hu
      obtain ⟨cs, hcs, hu⟩ := List.mem_flatten.1 hu
      obtain ⟨j, hj⟩ := List.getElem?_of_mem hcs
      obtain ⟨x, hx⟩ : ∃ x, t.rules[j]? = some x := ⟨_, List.getElem?_eq_getElem (by have := (List.getElem?_eq_some_iff.1 hj).1; omega)⟩
      exact rl_one (hrq j x cs hx hj).2 u hu
    have hcell : ∀ (q : Nat) cs, rows[q]? = some cs → ∀ (i : Nat) c, cs[i]? = some c → w.cell? ⟨b, off + q * 5 + i, none⟩ = some c := by
      intro q cs hq i c hi
      obtain ⟨b', off', e, h1⟩ := hrc q cs hq
      cases e
      exact h1 i c hi
    have HN1 := Lib.hid (flat_cell w b 5 (rows.take k) off (fun r hr => hr5 r (List.mem_of_mem_take hr)) (fun q cs hq i c hi => hcell q cs (by rw [List.getElem?_take] at hq; split at hq; exact hq; cases hq) i c hi))
    have HN2 := Lib.hid (flat_cell w b 5 (rows.drop (k + 1)) (off + (k + 1) * 5) (fun r hr => hr5 r (List.mem_of_mem_drop hr)) (fun q cs hq i c hi => by
      rw [List.getElem?_drop] at hq
      have := hcell (k + 1 + q) cs hq i c hi
      rw [Nat.add_mul (k + 1) q 5] at this
      rw [show off + (k + 1) * 5 + q * 5 + i = off + ((k + 1) * 5 + q * 5) + i by omega]
      exact this))
    have HL1 := Lib.hid (flatten_take 5 rows k hr5 (by omega))
    have HL2 := Lib.hid (show (rows.drop (k + 1)).flatten.length = (N - (k + 1)) * 5 by
      have h1 := flatten_take 5 (rows.drop (k + 1)) (N - (k + 1)) (fun r hr => hr5 r (List.mem_of_mem_drop hr)) (by rw [List.length_drop]; omega)
      rw [List.take_of_length_le (by rw [List.length_drop]; omega)] at h1
      exact h1)
    have HO1 := Lib.hid (show ∀ u ∈ (rows.take k).flatten, u.oneCell' = true from fun u hu => hone u (by obtain ⟨cs, h1, h2⟩ := List.mem_flatten.1 hu; exact List.mem_flatten.2 ⟨cs, List.mem_of_mem_take h1, h2⟩))
    have HO2 := Lib.hid (show ∀ u ∈ (rows.drop (k + 1)).flatten, u.oneCell' = true from fun u hu => hone u (by obtain ⟨cs, h1, h2⟩ := List.mem_flatten.1 hu; exact List.mem_flatten.2 ⟨cs, List.mem_of_mem_drop h1, h2⟩))
    have HRW := Lib.hid (show rows.length = N ∧ (∀ r ∈ rows, r.length = 5) ∧ ∀ (j : Nat) x cs, t.rules[j]? = some x → rows[j]? = some cs → cs.length = 5 ∧ RlIs w cs x from ⟨hrl, hr5, hrq⟩)
    obtain ⟨o2, ho2, hcut20⟩ := cut_rest b off N (k + 1) cap3 (by omega) hcl
    have hcut2 : ∀ W : World, (Instr.sliceAt 24 (.slice (some ⟨b, off, none⟩) N cap3) (some (.int .i64 ((k : Int) + 1))) none none).run Tryd.prog W = .ok (.slice (some ⟨b, o2, none⟩) (N - (k + 1)) (cap3 - (k + 1))) W := fun W => hcut20 W
    clear hcut20
    have hcut1 := fun W => cut_rules W b off N k cap3 (by omega)
    have HO22 := Lib.hid ho2
    obtain ⟨i0, hi, hz0, hz1, hz2⟩ := info_parts infoR
    have hAW := Lib.hid (fun (W : World) (hb : Below w.heap.size w W) => awake_any W (hG.below hb))
    have HRE := Lib.hid (fun (u : Tb) (W : World) (v0 v1 v2 v3 : Value) (hu : TbIs W [v0, v1, v2, v3] u) (hwu : TbWf u) (hb : Below w.heap.size w W) => reach_any u v0 v1 v2 v3 W hu hwu (hG.below hb))
    have HCE := Lib.hid (fun (u : Tb) (W : World) (v0 v1 v2 v3 : Value) (hu : TbIs W [v0, v1, v2, v3] u) (hwu : TbWf u) (hb : Below w.heap.size w W) => check_any u v0 v1 v2 v3 W hu hwu (hG.below hb))
    have HX := Lib.hid (And.intro x0 (And.intro x1 x2))
    have ho0 : c0.oneCell' = true := by obtain ⟨a, cap, rfl⟩ := sl_len x0; rfl
    have ho1 : c1.oneCell' = true := by obtain ⟨a, cap, rfl⟩ := sl_len x1; rfl
    have ho2 : c2.oneCell' = true := by obtain ⟨a, cap, rfl⟩ := sl_len x2; rfl
    have hs0 : ∀ (A : Addr) (m : Mode) (W : World), (store A c0 m).run Tryd.prog W = stored Tryd.prog W A c0 m := fun A m W => run_store Tryd.prog W A c0 m ho0
    have hs1 : ∀ (A : Addr) (m : Mode) (W : World), (store A c1 m).run Tryd.prog W = stored Tryd.prog W A c1 m := fun A m W => run_store Tryd.prog W A c1 m ho1
    have hs2 : ∀ (A : Addr) (m : Mode) (W : World), (store A c2 m).run Tryd.prog W = stored Tryd.prog W A c2 m := fun A m W => run_store Tryd.prog W A c2 m ho2
    have hk0 : ¬ (k : Int) < 0 := by omega
    have hkn : ¬ (N : Int) ≤ (k : Int) := by omega
    have hwk : IntKind.i64.wrap ((k : Int) + 1) = (k : Int) + 1 := wrap_next k (by have := HN12.out; omega)
    clear hG h hB0 hf hN x0 x1 x2 x3 HC0 hn hr hrl hr5 hrq hrc hone hcell ho2 hcl HTB HGB
    go_enter Tryd.func7, Tryd.ntmps7
    go_wp2_with fail
    refine (HA.out _ HS0.out).mono ?_
    rintro _ w1 ⟨rfl, hS1⟩
    obtain ⟨p0, p1, p2, p3, -⟩ := id hS1
    have HS1 := Lib.hid hS1
    clear hS1
    go_wp2_with fail
    refine (HC.out _ HS1.out).mono ?_
    rintro _ w2 ⟨rfl, hS2⟩
    obtain ⟨p0, p1, p2, p3, -⟩ := id hS2
    have HBW2 := Lib.hid (HB0.out.trans (hS2.2.2.2.2.mono HB0.out.size))
    have hw2 : w.heap.size < w2.heap.size := World.block_lt_of_cell? w2 _ p0
    clear hS2 HA HC HS0 HSD HS1 HK hW0 q0 q1 q2 q3
    obtain ⟨g5, hg5⟩ : ∃ g, w2.heap.size = g := ⟨_, rfl⟩
    obtain ⟨W3, hW3⟩ : ∃ W3, w2.alloc (.cells #[c0, c1, c2, .slice (some ⟨b, off, none⟩) N cap3] 26) = W3 := ⟨_, rfl⟩
    have hB3 : Below w2.heap.size w2 W3 := by rw [← hW3]; exact below_alloc _ _
    have hk5 : W3.heap[g5]? = some (.cells #[c0, c1, c2, .slice (some ⟨b, off, none⟩) N cap3] 26 (0, 0)) := by rw [← hW3, ← hg5]; exact heap_alloc_at _ _
    have p0 := kept_cell hB3 p0
    have p1 := kept_cell hB3 p1
    have p2 := kept_cell hB3 p2
    have p3 := kept_cell hB3 p3
    have HK5 := Lib.hid hk5
    have HB3 := Lib.hid (HBW2.out.trans (hB3.mono HBW2.out.size))
    obtain ⟨g6, hg6⟩ : ∃ g, W3.heap.size = g := ⟨_, rfl⟩
    have hg56 : g5 < g6 := by rw [← hg6]; exact (Array.getElem?_eq_some_iff.1 hk5).1
    have hwg5 : w.heap.size < g5 := by rw [← hg5]; exact hw2
    obtain ⟨W4, hW4⟩ : ∃ W4, W3.drew.alloc (.cells #[] 38) = W4 := ⟨_, rfl⟩
    have hown4 : W4.ownsRow g6 38 5 (.slice (some ⟨g6, 0, none⟩) 0 0) 0 [] := by
      rw [← hW4, ← hg6]; exact own_empty5 W3.drew W3.heap.size 38 5 (Nat.le_refl _)
    have hB4 : Below g6 W3 W4 := by rw [← hW4, ← hg6]; exact ((Below.refl W3.heap.size W3).drew).alloc (Nat.le_refl _) _
    have hg6W4 : g6 ≤ W4.heap.size := by rw [← hg6]; have := hB4.size; omega
    have HOWN4 := Lib.hid hown4
    have HB4 := Lib.hid hB4
    have HG6 := Lib.hid hg6W4
    have HP3 := Lib.hid p3
    have HLT := Lib.hid (And.intro hg56 hwg5)
    have HSX := Lib.hid (show W3.drew.cell? ⟨w.heap.size, 3, none⟩ = some (.slice (some ⟨b, off, none⟩) N cap3) from p3)
    have HSX4 := Lib.hid (show W4.cell? ⟨w.heap.size, 3, none⟩ = some (.slice (some ⟨b, off, none⟩) N cap3) from (hB4.cell (p := ⟨w.heap.size, 3, none⟩) (by show w.heap.size < g6; omega)).trans p3)
    have HKS := Lib.hid (fun (Wx : World) (x : Value) (hx : Wx.cell? ⟨w.heap.size, 3, none⟩ = some (.slice (some ⟨b, off, none⟩) N cap3)) => show (Wx.setCell ⟨g5, 3, none⟩ x).cell? ⟨w.heap.size, 3, none⟩ = some (.slice (some ⟨b, off, none⟩) N cap3) from cell_other5 hx x (by omega))
    have HNW1 := Lib.hid (fun (ad : Addr) (he : some (⟨b, off, none⟩ : Addr) = some ad) (j : Nat) (u : Value) (hu : (rows.take k).flatten[j]? = some u) => show W4.cell? (ad.add j) = some u from by
      cases he
      have h1 := HN1.out j u hu
      have h2 := kept_cell HB3.out h1
      have hlt := World.block_lt_of_cell? W3 _ h2
      rw [Go.WideShapes.add_plain]
      exact (HB4.out.cell (p := ⟨b, off + j, none⟩) (by rw [← hg6]; exact hlt)).trans h2)
    have hm63 : k ≤ maxLen := by have := HN12.out; unfold maxLen; omega
    have HM := Lib.hid (And.intro (show 0 + k ≤ maxLen by rw [Nat.zero_add]; exact hm63) (show (0 + k) * 96 ≤ 140737488355328 by have := HN12.out; omega))
    have HM2 := Lib.hid (And.intro (show k + (N - (k + 1)) ≤ maxLen by have := HN12.out; unfold maxLen; omega) (show (k + (N - (k + 1))) * 96 ≤ 140737488355328 by have := HN12.out; omega))
    clear hown4 hB4 hg6W4 hB3 hk5 hw2 hm63 hg56 hwg5 HN1
    go_upto_region 4 with fail
    have hS0 : W3.drew.cell? ⟨w.heap.size, 3, none⟩ = some (.slice (some ⟨b, off, none⟩) N cap3) := HSX.out
    go_region_held_law (fun Wz => Wz.cell? ⟨w.heap.size, 3, none⟩ = some (.slice (some ⟨b, off, none⟩) N cap3)) (first | exact hS0 | exact HSX4.out | assumption | exact HKS.out _ _ (by assumption))
      (first
        | (refine step_append_all rfl _ _ 24 rfl g6 38 i0 (.agg #[.string ⟨#[]⟩, .int .i64 0, .slice none 0 0, .slice none 0 0, .slice none 0 0]) 5 96 Tryd.underlying24 hi hz0 hz1 hz2 rfl (by decide) _ 0 [] rfl HOWN4.out (some ⟨b, off, none⟩) k cap3 (rows.take k).flatten rfl HL1.out (fun h => by cases h) HNW1.out HO1.out HM.out.1 HM.out.2 HG6.out ?_; intro v6 w6 hown6 hgrow6 hat6; rw [Nat.zero_add, List.nil_append] at hown6; have hb6 := HB4.out.grown hgrow6 HG6.out (owns_block HOWN4.out); have HOWN6 := Lib.hid hown6; have HB6 := Lib.hid hb6; have hS6 : w6.cell? ⟨w.heap.size, 3, none⟩ = some (.slice (some ⟨b, off, none⟩) N cap3) := (HB6.out.cell (p := ⟨w.heap.size, 3, none⟩) (Nat.lt_trans HLT.out.2 HLT.out.1)).trans HP3.out; have HNW2 := Lib.hid (fun (ad : Addr) (he : some (⟨b, o2, none⟩ : Addr) = some ad) (j : Nat) (u : Value) (hu : (rows.drop (k + 1)).flatten[j]? = some u) => show w6.cell? (ad.add j) = some u from by
              cases he
              have hjl := (List.getElem?_eq_some_iff.1 hu).1
              rw [HL2.out] at hjl
              have ho := HO22.out (by intro h0; rw [h0] at hjl; omega)
              rw [ho]
              have h1 := HN2.out j u hu
              have h2 := kept_cell HB3.out h1
              have hlt := World.block_lt_of_cell? W3 _ h2
              rw [Go.WideShapes.add_plain]
              exact (HB6.out.cell (p := ⟨b, off + (k + 1) * 5 + j, none⟩) (by rw [← hg6]; exact hlt)).trans h2); clear hown6 hgrow6 hat6 hb6)
        | (refine step_append_all rfl _ _ 24 rfl g6 38 i0 (.agg #[.string ⟨#[]⟩, .int .i64 0, .slice none 0 0, .slice none 0 0, .slice none 0 0]) 5 96 Tryd.underlying24 hi hz0 hz1 hz2 rfl (by decide) _ k (rows.take k).flatten rfl HOWN6.out (some ⟨b, o2, none⟩) (N - (k + 1)) (cap3 - (k + 1)) (rows.drop (k + 1)).flatten rfl HL2.out (fun h => by cases h) HNW2.out HO2.out HM2.out.1 HM2.out.2 (Nat.le_trans (Nat.le_of_eq hg6.symm) HB6.out.size) ?_; intro v7 w7 hown7 hgrow7 hat7; obtain ⟨a7, c7, rfl⟩ := own_shape5 hown7; have hb7 := HB6.out.grown hgrow7 (Nat.le_trans (Nat.le_of_eq hg6.symm) HB6.out.size) (owns_block HOWN6.out); have HOWN7 := Lib.hid hown7; have HB7 := Lib.hid hb7; have hS7 : w7.cell? ⟨w.heap.size, 3, none⟩ = some (.slice (some ⟨b, off, none⟩) N cap3) := (HB7.out.cell (p := ⟨w.heap.size, 3, none⟩) (Nat.lt_trans HLT.out.2 HLT.out.1)).trans HP3.out; have hk7 := (HB7.out.block g5 HLT.out.1).trans HK5.out; obtain ⟨u7, e7, f7⟩ := row_cell hk7 (show 3 < 4 by decide); have HK7 := Lib.hid hk7; clear hown7 hgrow7 hat7 hb7 hk7))
    obtain ⟨v8, hv8⟩ : ∃ v, Value.slice a7 (k + (N - (k + 1))) c7 = v := ⟨_, rfl⟩
    rw [hv8]
    obtain ⟨W8, hW8⟩ : ∃ W8, w7.setCell ⟨g5, 3, none⟩ v8 = W8 := ⟨_, rfl⟩
    rw [hW8]
    have hk8 : W8.heap[g5]? = some (.cells #[c0, c1, c2, v8] 26 (0, 0)) := by rw [← hW8]; exact heap_setCell_same _ g5 3 _ 26 v8 HK7.out
    have hwg6 : w.heap.size ≤ g6 := Nat.le_of_lt (Nat.lt_trans HLT.out.2 HLT.out.1)
    have hB8 : Below w.heap.size w W8 := by rw [← hW8]; exact (HB3.out.trans (HB7.out.mono hwg6)).setCell (p := ⟨g5, 3, none⟩) (Nat.le_of_lt HLT.out.2) _
    have hrules : (lessT t k).rules = t.rules.take k ++ t.rules.drop (k + 1) := rfl
    have hlen : (t.rules.take k ++ t.rules.drop (k + 1)).length = k + (N - (k + 1)) := by rw [List.length_append, List.length_take, List.length_drop, HNE.out]; omega
    have hrow8 : SlOf W8 5 (RlIs W8) v8 (t.rules.take k ++ t.rules.drop (k + 1)) := by
      have ho : W8.ownsRow g6 38 5 v8 (k + (N - (k + 1))) (rows.take k ++ rows.drop (k + 1)).flatten := by
        rw [List.flatten_append, ← hW8, ← hv8]; exact own_set5 HOWN7.out HLT.out.1
      refine slof_own ho (by rw [hlen, List.length_append, List.length_take, List.length_drop, HRW.out.1]; omega) hlen (fun r hr => HRW.out.2.1 r (less_mem hr)) (fun j x cs hx hcs => ?_)
      have hkr : k < t.rules.length := by rw [HNE.out]; exact hkN
      have hkw : k < rows.length := by rw [HRW.out.1]; exact hkN
      rcases less_at t.rules k j x hkr hx with ⟨g1, g2⟩ | ⟨g1, g2⟩
      · rcases less_at rows k j cs hkw hcs with ⟨_, h2⟩ | ⟨h1, _⟩
        · have := HRW.out.2.2 j x cs g2 h2
          exact ⟨this.1, this.2.below hB8⟩
        · omega
      · rcases less_at rows k j cs hkw hcs with ⟨h1, _⟩ | ⟨_, h2⟩
        · omega
        · have := HRW.out.2.2 (j + 1) x cs g2 h2
          exact ⟨this.1, this.2.below hB8⟩
    have HT8 := Lib.hid (HT.out.below hB8)
    have HU8 : Hid (TbIs W8 [c0, c1, c2, v8] (lessT t k)) := Lib.hid ⟨_, _, _, _, rfl, Sl.below HX.out.1 hB8, Sl.below HX.out.2.1 hB8, Sl.below HX.out.2.2 hB8, hrow8⟩
    have hx8 : ∀ (i : Nat) u, W3.cell? ⟨w.heap.size, i, none⟩ = some u → W8.cell? ⟨w.heap.size, i, none⟩ = some u := by
      intro i u hu
      rw [← hW8]
      exact cell_other5 ((HB7.out.cell (p := ⟨w.heap.size, i, none⟩) (Nat.lt_trans HLT.out.2 HLT.out.1)).trans hu) _ (Nat.ne_of_lt HLT.out.2)
    have hu0 : W8.cell? ⟨g5, 0, none⟩ = some c0 := by unfold World.cell?; rw [hk8]; rfl
    have hu1 : W8.cell? ⟨g5, 1, none⟩ = some c1 := by unfold World.cell?; rw [hk8]; rfl
    have hu2 : W8.cell? ⟨g5, 2, none⟩ = some c2 := by unfold World.cell?; rw [hk8]; rfl
    have hu3 : W8.cell? ⟨g5, 3, none⟩ = some v8 := by unfold World.cell?; rw [hk8]; rfl
    have HS8 := Lib.hid (show W8.drew.cell? ⟨w.heap.size, 0, none⟩ = some (c0) ∧ W8.drew.cell? ⟨w.heap.size, 1, none⟩ = some (c1) ∧ W8.drew.cell? ⟨w.heap.size, 2, none⟩ = some (c2) ∧ W8.drew.cell? ⟨w.heap.size, 3, none⟩ = some (.slice (some ⟨b, off, none⟩) N cap3) ∧ W8.drew.cell? ⟨g5, 0, none⟩ = some (c0) ∧ W8.drew.cell? ⟨g5, 1, none⟩ = some (c1) ∧ W8.drew.cell? ⟨g5, 2, none⟩ = some (c2) ∧ W8.drew.cell? ⟨g5, 3, none⟩ = some (v8) ∧ Below W8.heap.size W8 W8.drew from ⟨hx8 0 _ p0, hx8 1 _ p1, hx8 2 _ p2, hx8 3 _ p3, hu0, hu1, hu2, hu3, (Below.refl _ _).drew⟩)
    have HB8 := Lib.hid hB8
    have HR1 := Lib.hid (fun (W : World) (hS : W.cell? ⟨w.heap.size, 0, none⟩ = some (c0) ∧ W.cell? ⟨w.heap.size, 1, none⟩ = some (c1) ∧ W.cell? ⟨w.heap.size, 2, none⟩ = some (c2) ∧ W.cell? ⟨w.heap.size, 3, none⟩ = some (.slice (some ⟨b, off, none⟩) N cap3) ∧ W.cell? ⟨g5, 0, none⟩ = some (c0) ∧ W.cell? ⟨g5, 1, none⟩ = some (c1) ∧ W.cell? ⟨g5, 2, none⟩ = some (c2) ∧ W.cell? ⟨g5, 3, none⟩ = some (v8) ∧ Below W8.heap.size W8 W) => (HRE.out t W _ _ _ _ (HT8.out.below hS.2.2.2.2.2.2.2.2) HWF.out (HB8.out.trans (hS.2.2.2.2.2.2.2.2.mono HB8.out.size))).mono (fun z w' (hz : ReachOr t z w' ∧ Below W.heap.size W w') => show ReachIs t z w' ∧ (w'.cell? ⟨w.heap.size, 0, none⟩ = some (c0) ∧ w'.cell? ⟨w.heap.size, 1, none⟩ = some (c1) ∧ w'.cell? ⟨w.heap.size, 2, none⟩ = some (c2) ∧ w'.cell? ⟨w.heap.size, 3, none⟩ = some (.slice (some ⟨b, off, none⟩) N cap3) ∧ w'.cell? ⟨g5, 0, none⟩ = some (c0) ∧ w'.cell? ⟨g5, 1, none⟩ = some (c1) ∧ w'.cell? ⟨g5, 2, none⟩ = some (c2) ∧ w'.cell? ⟨g5, 3, none⟩ = some (v8) ∧ Below W8.heap.size W8 w') ∧ Below W.heap.size W w' from ⟨(hz.1.resolve_left (fun hx => by rw [mayB_of HCZ.out] at hx; cases hx.1)).2, ⟨kept_cell hz.2 hS.1, kept_cell hz.2 hS.2.1, kept_cell hz.2 hS.2.2.1, kept_cell hz.2 hS.2.2.2.1, kept_cell hz.2 hS.2.2.2.2.1, kept_cell hz.2 hS.2.2.2.2.2.1, kept_cell hz.2 hS.2.2.2.2.2.2.1, kept_cell hz.2 hS.2.2.2.2.2.2.2.1, hS.2.2.2.2.2.2.2.2.trans (hz.2.mono hS.2.2.2.2.2.2.2.2.size)⟩, hz.2⟩))
    have HR2 := Lib.hid (fun (W : World) (hS : W.cell? ⟨w.heap.size, 0, none⟩ = some (c0) ∧ W.cell? ⟨w.heap.size, 1, none⟩ = some (c1) ∧ W.cell? ⟨w.heap.size, 2, none⟩ = some (c2) ∧ W.cell? ⟨w.heap.size, 3, none⟩ = some (.slice (some ⟨b, off, none⟩) N cap3) ∧ W.cell? ⟨g5, 0, none⟩ = some (c0) ∧ W.cell? ⟨g5, 1, none⟩ = some (c1) ∧ W.cell? ⟨g5, 2, none⟩ = some (c2) ∧ W.cell? ⟨g5, 3, none⟩ = some (v8) ∧ Below W8.heap.size W8 W) => (HRE.out (lessT t k) W _ _ _ _ (HU8.out.below hS.2.2.2.2.2.2.2.2) (less_wf HWF.out) (HB8.out.trans (hS.2.2.2.2.2.2.2.2.mono HB8.out.size))).mono (fun z w' (hz : ReachOr (lessT t k) z w' ∧ Below W.heap.size W w') => show ReachIs (lessT t k) z w' ∧ (w'.cell? ⟨w.heap.size, 0, none⟩ = some (c0) ∧ w'.cell? ⟨w.heap.size, 1, none⟩ = some (c1) ∧ w'.cell? ⟨w.heap.size, 2, none⟩ = some (c2) ∧ w'.cell? ⟨w.heap.size, 3, none⟩ = some (.slice (some ⟨b, off, none⟩) N cap3) ∧ w'.cell? ⟨g5, 0, none⟩ = some (c0) ∧ w'.cell? ⟨g5, 1, none⟩ = some (c1) ∧ w'.cell? ⟨g5, 2, none⟩ = some (c2) ∧ w'.cell? ⟨g5, 3, none⟩ = some (v8) ∧ Below W8.heap.size W8 w') ∧ Below W.heap.size W w' from ⟨(hz.1.resolve_left (fun hx => by rw [mayB_of HLC.out] at hx; cases hx.1)).2, ⟨kept_cell hz.2 hS.1, kept_cell hz.2 hS.2.1, kept_cell hz.2 hS.2.2.1, kept_cell hz.2 hS.2.2.2.1, kept_cell hz.2 hS.2.2.2.2.1, kept_cell hz.2 hS.2.2.2.2.2.1, kept_cell hz.2 hS.2.2.2.2.2.2.1, kept_cell hz.2 hS.2.2.2.2.2.2.2.1, hS.2.2.2.2.2.2.2.2.trans (hz.2.mono hS.2.2.2.2.2.2.2.2.size)⟩, hz.2⟩))
    have HCU := Lib.hid (fun (W : World) (hS : W.cell? ⟨w.heap.size, 0, none⟩ = some (c0) ∧ W.cell? ⟨w.heap.size, 1, none⟩ = some (c1) ∧ W.cell? ⟨w.heap.size, 2, none⟩ = some (c2) ∧ W.cell? ⟨w.heap.size, 3, none⟩ = some (.slice (some ⟨b, off, none⟩) N cap3) ∧ W.cell? ⟨g5, 0, none⟩ = some (c0) ∧ W.cell? ⟨g5, 1, none⟩ = some (c1) ∧ W.cell? ⟨g5, 2, none⟩ = some (c2) ∧ W.cell? ⟨g5, 3, none⟩ = some (v8) ∧ Below W8.heap.size W8 W) => HCE.out (lessT t k) W _ _ _ _ (HU8.out.below hS.2.2.2.2.2.2.2.2) (less_wf HWF.out) (HB8.out.trans (hS.2.2.2.2.2.2.2.2.mono HB8.out.size)))
    rw [HLC.out, show Ft.v (0, 0, 0, 0) = .agg #[.int .i64 0, .int .i64 0, .int .i64 0, .int .i64 0] from rfl] at HCU
    clear hk8 hwg6 hB8 hrules hlen hrow8 hx8 hu0 hu1 hu2 hu3 hW8 hv8 HOWN4 HOWN6 HOWN7 HB4 HB6 HB7 HK7 HSX HSX4 HKS HNW1 HNW2 hS6 hS7 hS0 e7 f7 hcut1 hcut2 hi hz0 hz1 hz2 p0 p1 p2 p3 hwk hk0 hkn hW3 hW4 hg5 hg6
    go_upto_region 5 with fail
    have hS0 : W8.drew.cell? ⟨w.heap.size, 0, none⟩ = some (c0) ∧ W8.drew.cell? ⟨w.heap.size, 1, none⟩ = some (c1) ∧ W8.drew.cell? ⟨w.heap.size, 2, none⟩ = some (c2) ∧ W8.drew.cell? ⟨w.heap.size, 3, none⟩ = some (.slice (some ⟨b, off, none⟩) N cap3) ∧ W8.drew.cell? ⟨g5, 0, none⟩ = some (c0) ∧ W8.drew.cell? ⟨g5, 1, none⟩ = some (c1) ∧ W8.drew.cell? ⟨g5, 2, none⟩ = some (c2) ∧ W8.drew.cell? ⟨g5, 3, none⟩ = some (v8) ∧ Below W8.heap.size W8 W8.drew := HS8.out
    go_region_held3 (fun Wz => Wz.cell? ⟨w.heap.size, 0, none⟩ = some (c0) ∧ Wz.cell? ⟨w.heap.size, 1, none⟩ = some (c1) ∧ Wz.cell? ⟨w.heap.size, 2, none⟩ = some (c2) ∧ Wz.cell? ⟨w.heap.size, 3, none⟩ = some (.slice (some ⟨b, off, none⟩) N cap3) ∧ Wz.cell? ⟨g5, 0, none⟩ = some (c0) ∧ Wz.cell? ⟨g5, 1, none⟩ = some (c1) ∧ Wz.cell? ⟨g5, 2, none⟩ = some (c2) ∧ Wz.cell? ⟨g5, 3, none⟩ = some (v8) ∧ Below W8.heap.size W8 Wz) (first | exact hS0 | assumption) (first | (go_at_call 16; ((with_reducible refine (HR1.out _ ?_).mono ?_); (first | exact hS0 | assumption)); rintro _ w9 ⟨⟨va, la, rfl, ha, hla, hra⟩, hS9, hb9⟩) | (go_at_call 16; ((with_reducible refine (HR2.out _ ?_).mono ?_); (first | exact hS0 | assumption)); rintro _ w10 ⟨⟨vb, lb, rfl, hb, hlb, hrb⟩, hS10, hb10⟩))
    have HAL := Lib.hid (Sl.below ha hb10)
    have HBL := Lib.hid hb
    obtain ⟨aa, capa, rfl⟩ := sl_len ha
    obtain ⟨ab, capb, rfl⟩ := sl_len hb
    have hlb : lb.length = t.states.length := hlb
    rw [List.length_map] at HAL HBL ⊢
    rw [List.length_map]
    rw [hla] at HAL ⊢
    rw [hlb] at HBL ⊢
    obtain ⟨S, hS⟩ : ∃ S, t.states.length = S := ⟨_, rfl⟩
    rw [hS] at hla hlb HAL HBL ⊢
    have hS8 : S ≤ 8 := by rw [← hS]; exact HF.out.states.2
    have HRA := Lib.hid hra
    have HRB := Lib.hid hrb
    have HLA := Lib.hid hla
    have HLB := Lib.hid hlb
    obtain ⟨p0, p1, p2, p3, u0, u1, u2, u3, -⟩ := id hS10
    have HBA := Lib.hid (HB8.out.trans (hS10.2.2.2.2.2.2.2.2.mono HB8.out.size))
    have HCK := Lib.hid (HCU.out w10 hS10)
    clear hS0 hS9 hS10 ha hb hla hlb hra hrb hb9 hb10 hS HR1 HR2 HCU HS8
    go_wp2_with fail
    refine HCK.out.mono ?_
    rintro _ w11 ⟨rfl, hb11⟩
    have HB11 := Lib.hid hb11
    clear hb11 HCK
    have hss : ((S : Int) != (S : Int)) = false := by simp
    go_wp2_with fail
    go_loopw [8] (fun x wr => ∃ (K : Nat), x = .int .i64 (K : Int) ∧ K ≤ S ∧ w11 = wr) (fun x _ => S - (intOf x).toNat)
    case atStart => exact ⟨0, rfl, Nat.zero_le _, rfl⟩
    case round =>
      obtain ⟨K, rfl, hK, rfl⟩ := hrel
      by_cases hlt : K < S
      · have hltI : (K : Int) < (S : Int) := by omega
        obtain ⟨A, hA⟩ : ∃ A, la[K]? = some A := ⟨_, List.getElem?_eq_getElem (by rw [HLA.out]; exact hlt)⟩
        obtain ⟨B, hB⟩ : ∃ B, lb[K]? = some B := ⟨_, List.getElem?_eq_getElem (by rw [HLB.out]; exact hlt)⟩
        have hmA : (la.map Value.bool)[K]? = some (.bool A) := by rw [List.getElem?_map, hA]; rfl
        have hmB : (lb.map Value.bool)[K]? = some (.bool B) := by rw [List.getElem?_map, hB]; rfl
        obtain ⟨bA, oA, ea, hcA⟩ := HAL.out.at hmA
        subst ea
        obtain ⟨bB, oB, eb, hcB⟩ := HBL.out.at hmB
        subst eb
        have kA := kept_cell HB11.out hcA
        have kB := kept_cell HB11.out hcB
        have hwK := wrap_next K (by omega)
        have hBA : B = true → A = true := by
          intro h
          have h1 := (HRB.out K).1 (by rw [getD_of hB, h])
          have h2 := (HRA.out K).2 (less_reached h1)
          rw [getD_of hA] at h2
          exact h2
        clear hA hB hmA hmB hcA hcB
        cases B with
        | false =>
          clear hBA
          go_wp2_with fail
          clear hwK hltI
          exact ⟨⟨K + 1, by go_num, by omega, trivial⟩, by simp [intOf]; omega⟩
        | true =>
          have hAt := hBA rfl
          subst hAt
          clear hBA
          go_wp2_with fail
          clear hwK hltI
          exact ⟨⟨K + 1, by go_num, by omega, trivial⟩, by simp [intOf]; omega⟩
      · have hltI : ¬ (K : Int) < (S : Int) := by omega
        go_wp2_with fail
        go_ret
        exact ⟨rfl, HBA.out.trans (HB11.out.mono HBA.out.size)⟩

set_option maxRecDepth 100000 in
/-- WHAT THE WALK GIVES, FOR EVERY ARGUMENT AND EVERY WORLD THAT HOLDS WHAT THE ROW LISTS. -/
theorem contract (H : Type) (enc : TypeId × Value → H) (W : World) (base : Nat) (args : Array Value) (ds gs : List (DataW H)) (before : List MemPlace)
    (hval0 : ∀ (j : Nat) t v, Tryd.f7.params[j]? = some t → args[j]? = some v → Value.okWide Tryd.prog W .any base t v)
    (hW : DataW.Whole enc Tryd.prog Tryd.f7.params.toList Rows.rulesLessSpec.vars false W args.toList ds gs before) (hL : laidMetH Tryd.prog I.laid1 W) :
    Calls Tryd.prog 7 args W fun e W' => ∃ v, e = .returned v ∧ Rows.rulesLessSpec.post enc Tryd.prog Tryd.f7 false true false false W args v W' := by
  have hval : ∀ (j : Nat) t v, Tryd.f7.params[j]? = some t → args[j]? = some v → Value.okWide Tryd.prog W .any base t v := hval0
  have hW' := hW
  obtain ⟨p, q, hA0, hV, rfl, hfz, hnd⟩ := hW
  have hA : DataW.TrodAll enc Tryd.prog W 0 (fun _ => true) true Tryd.f7.params.toList args.toList ds p := hA0
  rw [Tryd.params7] at hA hval
  obtain ⟨v0, vs0, d0, ds0, p0, q0, hargs, rfl, rfl, h0, r0⟩ := trodAll_cons hA
  obtain ⟨v1, vs1, d1, ds1, p1, q1, rfl, rfl, rfl, h1, r1⟩ := trodAll_cons r0
  obtain ⟨rfl, rfl, rfl⟩ := trodAll_nil r1
  obtain rfl : args = #[v0, v1] := by cases args; simp_all
  obtain ⟨c0, c1, c2, c3, t, rfl, ht, hwf, hcap⟩ := tb_argC (hval 0 26 v0 rfl rfl) h0
  obtain ⟨n, rfl, rfl, rfl, wn⟩ := open_int Tryd.underlying3 (hval 1 3 v1 rfl rfl) h1
  refine (walk t c0 c1 c2 c3 n W ht hwf (by have h := wn; simp [Lit.wf, IntKind.min, IntKind.max, IntKind.signed, IntKind.bits] at h; exact h) hcap (I.glob_of hL)).mono fun e W' ⟨he, hb⟩ => ?_
  subst he
  exact ⟨_, rfl, post_law hW' hb laidOut rfl rfl rfl Tryd.underlying4 (by rw [Tryd.params7]; decide +kernel)⟩

theorem reads (os : Os) {H : Type} (enc : TypeId × Value → H) : ∃ places, DataW.whole enc Tryd.prog ((World.doorLaid Tryd.prog 14 os).forCall (fun _ _ => 0) ⟨#[], #[.agg #[.slice none 0 0, .slice none 0 0, .slice none 0 0, .slice none 0 0], .int .i64 0], []⟩).memory Tryd.f7.params.toList Rows.rulesLessSpec.vars false #[Value.agg #[.slice none 0 0, .slice none 0 0, .slice none 0 0, .slice none 0 0], .int .i64 0].toList 8 = some ([.agg [.nil, .nil, .nil, .nil], .lit (.int .i64 0)], [], places) :=
  ⟨[], by kernel_rfl⟩

set_option maxRecDepth 100000 in
theorem lifted (os : Os) (started : os.Started) (H : Type) (enc : TypeId × Value → H) (F : Stop.Interp) :
    ReturnsInHanded {} Tryd.checked os 7 .any ((OpenSpec.ofChange Rows.rulesLessSpec).preRow enc Tryd.prog Tryd.f7 Rows.rulesLessRow.domain false Rows.rulesLessRow.laid) (((OpenSpec.ofChange Rows.rulesLessSpec).at F).post enc Tryd.prog Tryd.f7 false true false false) := by
  obtain ⟨places, hx⟩ := reads os enc
  refine returnsInHanded_of_row (C := Tryd.checked) (s := OpenSpec.ofChange Rows.rulesLessSpec) own started (by kernel_rfl) Tryd.func7
    (witness_row_atRef (enc := enc) (C := Tryd.checked) false (World.doorLaid Tryd.prog 14 os) #[.agg #[.slice none 0 0, .slice none 0 0, .slice none 0 0, .slice none 0 0], .int .i64 0] rfl (by kernel_rfl) (by kernel_rfl) (by kernel_rfl)
      (OpenSpec.preRow_of_cond 8 hx (by kernel_rfl) (fun k hk => by cases hk) (by kernel_rfl) (I.laid_met os _))) ?_
  intro W base args ds gs before hval hW _ _ hsz hL _ _
  exact contract H enc W base args ds gs before hval hW hL

theorem said : Rows.RulesLessSaid :=
  OpenClaim.holds_of_cond 7 Tryd.f7 rfl rfl rfl rfl rfl rfl rfl ⟨rfl, rfl, rfl, rfl, rfl⟩ rfl rfl rfl rfl rfl (by kernel_rfl) Tryd.func7 (by kernel_rfl)
    (of_decide_eq_true (by kernel_rfl)) (by unfold Func.isWrapper; first | (rw [if_pos (by decide +kernel)]; kernel_rfl) | (rw [if_neg (by decide +kernel)]; exact ⟨rfl, rfl⟩))
    (fun os started H enc _ F => by rw [OpenClaim.pre_eq_preRow]; exact lifted os started H enc F)

theorem plain (f : FuncId) (fn : Func) (hf : Tryd.pinned.checked.prog.funcNamed "surmise/surmiselaw05.RulesLess" = some f) (hfn : Tryd.pinned.checked.prog.funcs[f]? = some fn) :
    false = Tryd.pinned.checked.prog.looks [] ∧ ∀ (j : Nat) t, fn.params[j]? = some t → Tryd.pinned.checked.prog.wantsStandIn t = false := by
  obtain rfl : f = 7 := Option.some.inj ((show Tryd.prog.funcNamed "surmise/surmiselaw05.RulesLess" = some 7 by kernel_rfl).symm.trans hf) |>.symm
  obtain rfl : fn = Tryd.f7 := (Option.some.inj (Tryd.func7.symm.trans hfn)).symm
  refine ⟨by kernel_rfl, fun j t ht => ?_⟩
  rw [Tryd.params7] at ht
  have hm := Array.mem_of_getElem? ht
  simp only [Array.mem_def, List.mem_cons, List.not_mem_nil, or_false] at hm
  rcases hm with rfl | rfl
  · exact (show Tryd.prog.wantsStandIn 26 = false by kernel_rfl)
  · exact (show Tryd.prog.wantsStandIn 3 = false by kernel_rfl)

/-- THE CARD. -/
theorem given : Rows.RulesLessCardSaid :=
  Claim7.holds_tied_plain_at .later [] _ _ _ _ said (fun _ h => by cases h) (by kernel_rfl) (fun _ h => by cases h) rulesLess_row_tie rfl ⟨rfl, rfl⟩ (by kernel_rfl) rfl plain (by kernel_rfl)
end Go.Proofs.YtfcdkjhabdpijaaDoor.rulesLess
