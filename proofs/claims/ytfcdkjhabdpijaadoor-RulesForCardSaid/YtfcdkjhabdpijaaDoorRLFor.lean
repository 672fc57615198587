/-
  RulesFor: for which states rules are, and which one has a name, as the document says.
-/
import Derived.Test.YtfcdkjhabdpijaaDoorRows
import Derived.Test.YtfcdkjhabdpijaaDoorTie
import Derived.Test.YtfcdkjhabdpijaaDoorCards
import Derived.Test.YtfcdkjhabdpijaaDoorRMg
import Derived.Test.YtfcdkjhabdpijaaDoorRLaid
import Derived.Test.YtfcdkjhabdpijaaDoorRMb
import Derived.OpenShut
namespace Go.Proofs.YtfcdkjhabdpijaaDoor.rulesFor
open Go Go.ChangeShapes Go.WideShapes Go.ChangeAt Go.RowKit
open Go.Proofs.YtfcdkjhabdpijaaDoor.B Go.Proofs.YtfcdkjhabdpijaaDoor.K Go.Proofs.YtfcdkjhabdpijaaDoor.E Go.Proofs.YtfcdkjhabdpijaaDoor.R
set_option linter.unusedVariables false

theorem own : ownKnob Tryd.prog.godebug = none := by kernel_rfl
theorem laidOut : laidOutB Tryd.prog = true := by kernel_rfl

set_option maxRecDepth 100000 in
theorem four_arg {H : Type} {enc : TypeId × Value → H} {W : World} {base : Nat} {v : Value} {d : DataW H} {p : List MemPlace} (hval : Value.okWide Tryd.prog W .any base 34 v) (hd : DataW.Trod enc Tryd.prog W 0 (fun _ => true) true 34 v d p) :
    ∃ c0 c1 c2 c3 n s nm t, v = .agg #[c0, c1, c2, c3, .int .i64 n, .int .i64 s, .string (str nm)] ∧ TbIs W [c0, c1, c2, c3] t ∧ TbWf t := by
  obtain ⟨cs, rfl, hsz⟩ := okWide_struct Tryd.underlying34 hval
  obtain ⟨fuel, hf0⟩ := hd
  have hf1 : DataW.trod enc Tryd.prog W 0 (fun _ => true) true fuel 34 cs.toList = some (d, p) := hf0
  obtain ⟨xs, m, _, hx, hcl, hxl, hg⟩ := DataW.trod_struct Tryd.underlying34 hf1
  have h7 : cs.toList.length = 7 := hcl.trans (by kernel_rfl)
  obtain ⟨l⟩ := cs
  match l, h7 with
  | [c0, c1, c2, c3, c4, c5, c6], _ =>
    have hl4 : xs.length = 4 := hxl.trans (by kernel_rfl)
    have t0 := hg 0 _ rfl
    have t1 := hg 1 _ rfl
    have t2 := hg 2 _ rfl
    have t3 := hg 3 _ rfl
    rw [List.getElem?_eq_getElem (by omega)] at t0 t1 t2 t3
    obtain ⟨hl, m2, hf⟩ := each_cell Tryd.underlying26 (by kernel_rfl) (by kernel_rfl) (show DataW.trod enc Tryd.prog W 0 (fun _ => true) true m 26 [c0, c1, c2, c3] = some _ from t0)
    obtain ⟨k0, z0, e0, u0⟩ := hf 0 _ rfl
    obtain ⟨k1, z1, e1, u1⟩ := hf 1 _ rfl
    obtain ⟨k2, z2, e2, u2⟩ := hf 2 _ rfl
    obtain ⟨k3, z3, e3, u3⟩ := hf 3 _ rfl
    cases e0
    cases e1
    cases e2
    cases e3
    obtain ⟨t, ht, hwf⟩ := tb_cells u0 u1 u2 u3
    obtain ⟨n, rfl, -⟩ := int_cell (show DataW.trod enc Tryd.prog W 0 (fun _ => true) true m 3 [c4] = some _ from t1)
    obtain ⟨s, rfl, -⟩ := int_cell (show DataW.trod enc Tryd.prog W 0 (fun _ => true) true m 3 [c5] = some _ from t2)
    obtain ⟨nm, rfl, -⟩ := str_cell (show DataW.trod enc Tryd.prog W 0 (fun _ => true) true m 9 [c6] = some _ from t3)
    exact ⟨c0, c1, c2, c3, n, s, nm, t, rfl, ht, hwf⟩

def IsB (z : Ending) : Prop := ∃ B, z = .returned (.bool B)

set_option maxHeartbeats 4000000 in
set_option maxRecDepth 100000 in
theorem light_any (t : Tb) (c0 c1 c2 c3 : Value) (w : World) (h : TbIs w [c0, c1, c2, c3] t) (hw : TbWf t) :
    Calls Tryd.prog 12 #[.agg #[c0, c1, c2, c3]] w fun z w' => IsB z ∧ Below w.heap.size w w' := by
  obtain ⟨d0, d1, d2, d3, e, h0, h1, h2, h3⟩ := h
  cases e
  obtain ⟨a0, cap0, rfl⟩ := sl_len h0
  obtain ⟨a1, cap1, rfl⟩ := sl_len h1
  obtain ⟨a3, cap3, rfl, h3⟩ := h3.open
  have hNL := hw.2.2.2.2
  rw [List.length_map, List.length_map]
  obtain ⟨S, hS⟩ : ∃ N, t.states.length = N := ⟨_, rfl⟩
  obtain ⟨V, hV⟩ : ∃ N, t.vars.length = N := ⟨_, rfl⟩
  obtain ⟨N, hN⟩ : ∃ N, t.rules.length = N := ⟨_, rfl⟩
  rw [hN] at h3 hNL
  rw [hS, hV, hN]
  have HR3 := Lib.hid h3
  have HN := Lib.hid hN
  have HNL := Lib.hid hNL
  obtain ⟨W0, hW0⟩ : ∃ W0, w.alloc (.cells #[.slice a0 S cap0, .slice a1 V cap1, c2, .slice a3 N cap3] 26) = W0 := ⟨_, rfl⟩
  have hB0 : Below w.heap.size w W0 := by rw [← hW0]; exact below_alloc _ _
  have q0 : W0.cell? ⟨w.heap.size, 0, none⟩ = some (.slice a0 S cap0) := by rw [← hW0]; exact box_cell _ _ _ _ _ rfl
  have q1 : W0.cell? ⟨w.heap.size, 1, none⟩ = some (.slice a1 V cap1) := by rw [← hW0]; exact box_cell _ _ _ _ _ rfl
  have q3 : W0.cell? ⟨w.heap.size, 3, none⟩ = some (.slice a3 N cap3) := by rw [← hW0]; exact box_cell _ _ _ _ _ rfl
  have HB0 := Lib.hid hB0
  clear h0 h1 h2 h3 hw hS hV hN hNL hB0
  by_cases l0 : 40 < (S : Int)
  · go_enter Tryd.func12, Tryd.ntmps12
    go_wp2_with fail
    go_ret
    exact ⟨⟨_, rfl⟩, HB0.out⟩
  by_cases l1 : 40 < (V : Int)
  · go_enter Tryd.func12, Tryd.ntmps12
    go_wp2_with fail
    go_ret
    exact ⟨⟨_, rfl⟩, HB0.out⟩
  by_cases l2 : 40 < (N : Int)
  · go_enter Tryd.func12, Tryd.ntmps12
    go_wp2_with fail
    go_ret
    exact ⟨⟨_, rfl⟩, HB0.out⟩
  go_enter Tryd.func12, Tryd.ntmps12
  go_wp2_with fail
  go_loopw [3] (fun x wr => ∃ (K : Nat), x = .int .i64 (K : Int) ∧ K ≤ N ∧ W0 = wr) (fun x _ => N - (intOf x).toNat)
  case atStart => exact ⟨0, rfl, Nat.zero_le _, rfl⟩
  case round =>
    obtain ⟨K, rfl, hK, rfl⟩ := hrel
    by_cases hlt : K < N
    · have hltI : (K : Int) < (N : Int) := by omega
      obtain ⟨r, hr⟩ : ∃ r, t.rules[K]? = some r := ⟨_, List.getElem?_eq_getElem (by rw [HN.out]; omega)⟩
      obtain ⟨b, off, ea, cs, -, ⟨vf, vg, vp, rfl, hf, hg, hp⟩, hc⟩ := HR3.out.at hr
      subst ea
      obtain ⟨af, capf, rfl⟩ := sl_len hf
      obtain ⟨ag, capg, rfl, -⟩ := hg.open
      obtain ⟨ap, capp, rfl, -⟩ := hp.open
      have k2 := kept_cell HB0.out (hc 2 _ rfl)
      have k3 := kept_cell HB0.out (hc 3 _ rfl)
      have k4 := kept_cell HB0.out (hc 4 _ rfl)
      obtain ⟨lf, hlf⟩ : ∃ x, (r.from_.map fun n => Value.int .i64 n).length = x := ⟨_, rfl⟩
      obtain ⟨lg, hlg⟩ : ∃ x, r.guards.length = x := ⟨_, rfl⟩
      obtain ⟨lp, hlp⟩ : ∃ x, r.steps.length = x := ⟨_, rfl⟩
      rw [hlf] at k2
      rw [hlg] at k3
      rw [hlp] at k4
      have hwK := wrap_next K (by have := HNL.out; omega)
      clear hr hf hg hp hc hlf hlg hlp
      by_cases m0 : 40 < (lf : Int)
      · go_wp2_with fail
        go_ret
        exact ⟨⟨_, rfl⟩, HB0.out⟩
      by_cases m1 : 40 < (lp : Int)
      · go_wp2_with fail
        go_ret
        exact ⟨⟨_, rfl⟩, HB0.out⟩
      by_cases m2 : 40 < (lg : Int)
      · go_wp2_with fail
        go_ret
        exact ⟨⟨_, rfl⟩, HB0.out⟩
      go_wp2_with fail
      clear hwK hltI l0 l1 l2 m0 m1 m2
      exact ⟨⟨K + 1, by go_num, by omega, trivial⟩, by simp [intOf]; omega⟩
    · have hltI : ¬ (K : Int) < (N : Int) := by omega
      go_wp2_with fail
      go_ret
      exact ⟨⟨_, rfl⟩, HB0.out⟩

/-- The first place of those from K on that has the name; -1: there is none. -/
def FirstFrom (l : List Rl) (nm : Bs) (K : Nat) (x : Int) : Prop :=
  (x = -1 ∧ ∀ (j : Nat) y, K ≤ j → l[j]? = some y → (y.name == nm) = false) ∨ (∃ (j : Nat) (y : Rl), x = (j : Int) ∧ K ≤ j ∧ l[j]? = some y ∧ (y.name == nm) = true ∧ ∀ (i : Nat) z, K ≤ i → i < j → l[i]? = some z → (z.name == nm) = false)

theorem FirstFrom.all {l : List Rl} {nm : Bs} {x : Int} (h : FirstFrom l nm 0 x) : x = idxP (fun r => r.name == nm) l := by
  rcases h with ⟨rfl, h⟩ | ⟨j, y, rfl, _, h1, h2, h3⟩
  · exact (idxP_none _ l (fun j y hj => h j y (Nat.zero_le _) hj)).symm
  · exact (idxP_at _ l j y h1 h2 (fun i z hi hz => h3 i z (Nat.zero_le _) hi hz)).symm

theorem FirstFrom.here {l : List Rl} {nm : Bs} {K : Nat} {y : Rl} (hy : l[K]? = some y) (hn : (y.name == nm) = true) : FirstFrom l nm K (K : Int) :=
  Or.inr ⟨K, y, rfl, Nat.le_refl _, hy, hn, fun i z h1 h2 => by omega⟩

theorem FirstFrom.next {l : List Rl} {nm : Bs} {K : Nat} {y : Rl} {x : Int} (h : FirstFrom l nm (K + 1) x) (hy : l[K]? = some y) (hn : (y.name == nm) = false) : FirstFrom l nm K x := by
  have e : ∀ (i : Nat) z, K ≤ i → l[i]? = some z → i = K → (z.name == nm) = false := by
    intro i z _ hz hi
    subst hi
    rw [hy] at hz; cases hz; exact hn
  rcases h with ⟨rfl, h⟩ | ⟨j, z, rfl, h0, h1, h2, h3⟩
  · refine Or.inl ⟨rfl, fun j z h1 h2 => ?_⟩
    by_cases hj : j = K
    · exact e j z h1 h2 hj
    · exact h j z (by omega) h2
  · refine Or.inr ⟨j, z, rfl, by omega, h1, h2, fun i u hi1 hi2 hu => ?_⟩
    by_cases hj : i = K
    · exact e i u hi1 hu hj
    · exact h3 i u (by omega) hi2 hu

set_option maxHeartbeats 8000000 in
set_option maxRecDepth 100000 in
theorem walk (t : Tb) (c0 c1 c2 c3 : Value) (n s : Int) (nm : Bs) (w : World) (h : TbIs w [c0, c1, c2, c3] t) (hw : TbWf t) (hG : I.Glob w) :
    Calls Tryd.prog 4 #[.agg #[c0, c1, c2, c3, .int .i64 n, .int .i64 s, .string (str nm)]] w fun e w' => e = .returned (.bool true) ∧ Below w.heap.size w w' := by
  have HT := Lib.hid h
  obtain ⟨d0, d1, d2, d3, e, x0, x1, x2, x3⟩ := id h
  cases e
  obtain ⟨a3, cap3, rfl, x3⟩ := x3.open
  obtain ⟨N, hN⟩ : ∃ N, t.rules.length = N := ⟨_, rfl⟩
  have hNL := hw.2.2.2.2
  rw [hN] at x3 h HT hNL ⊢
  have HR3 := Lib.hid x3
  have HNE := Lib.hid hN
  have HNL := Lib.hid hNL
  have HWF := Lib.hid hw
  have HGL := Lib.hid hG
  obtain ⟨c3, hc3⟩ : ∃ v, Value.slice a3 N cap3 = v := ⟨_, rfl⟩
  rw [hc3]
  have ho0 : c0.oneCell' = true := by obtain ⟨a, cap, rfl⟩ := sl_len x0; rfl
  have ho1 : c1.oneCell' = true := by obtain ⟨a, cap, rfl⟩ := sl_len x1; rfl
  have ho2 : c2.oneCell' = true := by obtain ⟨a, cap, rfl⟩ := sl_len x2; rfl
  obtain ⟨W0, hW0⟩ : ∃ W0, w.alloc (.cells #[c0, c1, c2, c3, .int .i64 n, .int .i64 s, .string (str nm)] 34) = W0 := ⟨_, rfl⟩
  have hB0 : Below w.heap.size w W0 := by rw [← hW0]; exact below_alloc _ _
  have q0 : W0.cell? ⟨w.heap.size, 0, none⟩ = some (c0) := by rw [← hW0]; exact box_cell _ _ _ _ _ rfl
  have q1 : W0.cell? ⟨w.heap.size, 1, none⟩ = some (c1) := by rw [← hW0]; exact box_cell _ _ _ _ _ rfl
  have q2 : W0.cell? ⟨w.heap.size, 2, none⟩ = some (c2) := by rw [← hW0]; exact box_cell _ _ _ _ _ rfl
  have q3 : W0.cell? ⟨w.heap.size, 3, none⟩ = some (c3) := by rw [← hW0]; exact box_cell _ _ _ _ _ rfl
  have q4 : W0.cell? ⟨w.heap.size, 4, none⟩ = some (.int .i64 n) := by rw [← hW0]; exact box_cell _ _ _ _ _ rfl
  have q5 : W0.cell? ⟨w.heap.size, 5, none⟩ = some (.int .i64 s) := by rw [← hW0]; exact box_cell _ _ _ _ _ rfl
  have q6 : W0.cell? ⟨w.heap.size, 6, none⟩ = some (.string (str nm)) := by rw [← hW0]; exact box_cell _ _ _ _ _ rfl
  have HB0 := Lib.hid hB0
  obtain ⟨g3, hg3⟩ : ∃ g, W0.heap.size = g := ⟨_, rfl⟩
  obtain ⟨W1, hW1⟩ : ∃ W1, (W0.alloc (.cells #[c0, c1, c2, c3] 26)).drew = W1 := ⟨_, rfl⟩
  have hB1 : Below W0.heap.size W0 W1 := by rw [← hW1]; exact (below_alloc W0 _).drew
  have hg3w : w.heap.size ≤ g3 := by rw [← hg3]; exact hB0.size
  have k0 : W1.cell? ⟨g3, 0, none⟩ = some c0 := by rw [← hW1, ← hg3]; exact box_cell W0 _ _ _ _ rfl
  have k1 : W1.cell? ⟨g3, 1, none⟩ = some c1 := by rw [← hW1, ← hg3]; exact box_cell W0 _ _ _ _ rfl
  have k2 : W1.cell? ⟨g3, 2, none⟩ = some c2 := by rw [← hW1, ← hg3]; exact box_cell W0 _ _ _ _ rfl
  have k3 : W1.cell? ⟨g3, 3, none⟩ = some c3 := by rw [← hW1, ← hg3]; exact box_cell W0 _ _ _ _ rfl
  have HSD := Lib.hid (show W0.drew.cell? ⟨w.heap.size, 0, none⟩ = some (c0) ∧ W0.drew.cell? ⟨w.heap.size, 1, none⟩ = some (c1) ∧ W0.drew.cell? ⟨w.heap.size, 2, none⟩ = some (c2) ∧ W0.drew.cell? ⟨w.heap.size, 3, none⟩ = some (c3) ∧ W0.drew.cell? ⟨w.heap.size, 4, none⟩ = some (.int .i64 n) ∧ W0.drew.cell? ⟨w.heap.size, 5, none⟩ = some (.int .i64 s) ∧ W0.drew.cell? ⟨w.heap.size, 6, none⟩ = some (.string (str nm)) ∧ Below W0.heap.size W0 W0.drew from ⟨q0, q1, q2, q3, q4, q5, q6, (Below.refl _ _).drew⟩)
  have HS1 := Lib.hid (show W1.cell? ⟨w.heap.size, 0, none⟩ = some (c0) ∧ W1.cell? ⟨w.heap.size, 1, none⟩ = some (c1) ∧ W1.cell? ⟨w.heap.size, 2, none⟩ = some (c2) ∧ W1.cell? ⟨w.heap.size, 3, none⟩ = some (c3) ∧ W1.cell? ⟨w.heap.size, 4, none⟩ = some (.int .i64 n) ∧ W1.cell? ⟨w.heap.size, 5, none⟩ = some (.int .i64 s) ∧ W1.cell? ⟨w.heap.size, 6, none⟩ = some (.string (str nm)) ∧ Below W0.heap.size W0 W1 from ⟨kept_cell hB1 q0, kept_cell hB1 q1, kept_cell hB1 q2, kept_cell hB1 q3, kept_cell hB1 q4, kept_cell hB1 q5, kept_cell hB1 q6, hB1⟩)
  have HKA := Lib.hid (fun (Wx : World) (o : Obj) (hx : Wx.cell? ⟨w.heap.size, 0, none⟩ = some (c0) ∧ Wx.cell? ⟨w.heap.size, 1, none⟩ = some (c1) ∧ Wx.cell? ⟨w.heap.size, 2, none⟩ = some (c2) ∧ Wx.cell? ⟨w.heap.size, 3, none⟩ = some (c3) ∧ Wx.cell? ⟨w.heap.size, 4, none⟩ = some (.int .i64 n) ∧ Wx.cell? ⟨w.heap.size, 5, none⟩ = some (.int .i64 s) ∧ Wx.cell? ⟨w.heap.size, 6, none⟩ = some (.string (str nm)) ∧ Below W0.heap.size W0 Wx) => (show (Wx.alloc o).cell? ⟨w.heap.size, 0, none⟩ = some (c0) ∧ (Wx.alloc o).cell? ⟨w.heap.size, 1, none⟩ = some (c1) ∧ (Wx.alloc o).cell? ⟨w.heap.size, 2, none⟩ = some (c2) ∧ (Wx.alloc o).cell? ⟨w.heap.size, 3, none⟩ = some (c3) ∧ (Wx.alloc o).cell? ⟨w.heap.size, 4, none⟩ = some (.int .i64 n) ∧ (Wx.alloc o).cell? ⟨w.heap.size, 5, none⟩ = some (.int .i64 s) ∧ (Wx.alloc o).cell? ⟨w.heap.size, 6, none⟩ = some (.string (str nm)) ∧ Below W0.heap.size W0 (Wx.alloc o) from (fun hb => ⟨kept_cell hb hx.1, kept_cell hb hx.2.1, kept_cell hb hx.2.2.1, kept_cell hb hx.2.2.2.1, kept_cell hb hx.2.2.2.2.1, kept_cell hb hx.2.2.2.2.2.1, kept_cell hb hx.2.2.2.2.2.2.1, hx.2.2.2.2.2.2.2.trans (hb.mono hx.2.2.2.2.2.2.2.size)⟩) (below_alloc Wx o)))
  have HKD := Lib.hid (fun (o : Obj) => (show (W0.alloc o).drew.cell? ⟨w.heap.size, 0, none⟩ = some (c0) ∧ (W0.alloc o).drew.cell? ⟨w.heap.size, 1, none⟩ = some (c1) ∧ (W0.alloc o).drew.cell? ⟨w.heap.size, 2, none⟩ = some (c2) ∧ (W0.alloc o).drew.cell? ⟨w.heap.size, 3, none⟩ = some (c3) ∧ (W0.alloc o).drew.cell? ⟨w.heap.size, 4, none⟩ = some (.int .i64 n) ∧ (W0.alloc o).drew.cell? ⟨w.heap.size, 5, none⟩ = some (.int .i64 s) ∧ (W0.alloc o).drew.cell? ⟨w.heap.size, 6, none⟩ = some (.string (str nm)) ∧ Below W0.heap.size W0 (W0.alloc o).drew from (fun hb => ⟨kept_cell hb q0, kept_cell hb q1, kept_cell hb q2, kept_cell hb q3, kept_cell hb q4, kept_cell hb q5, kept_cell hb q6, hb⟩) ((below_alloc W0 o).drew)))
  have ho3 : c3.oneCell' = true := by rw [← hc3]; rfl
  have hs0 : ∀ (A : Addr) (m : Mode) (W : World), (store A c0 m).run Tryd.prog W = stored Tryd.prog W A c0 m := fun A m W => run_store Tryd.prog W A c0 m ho0
  have hs1 : ∀ (A : Addr) (m : Mode) (W : World), (store A c1 m).run Tryd.prog W = stored Tryd.prog W A c1 m := fun A m W => run_store Tryd.prog W A c1 m ho1
  have hs2 : ∀ (A : Addr) (m : Mode) (W : World), (store A c2 m).run Tryd.prog W = stored Tryd.prog W A c2 m := fun A m W => run_store Tryd.prog W A c2 m ho2
  have hs3 : ∀ (A : Addr) (m : Mode) (W : World), (store A c3 m).run Tryd.prog W = stored Tryd.prog W A c3 m := fun A m W => run_store Tryd.prog W A c3 m ho3
  have HB1 := Lib.hid (hB0.trans (hB1.mono hB0.size))
  have HLI := Lib.hid (light_any t c0 c1 c2 c3 W1 (by rw [← hc3]; exact h.below HB1.out) hw)
  have HAW := Lib.hid (fun (W : World) (hb : Below w.heap.size w W) => awake_any W (hG.below hb))
  have HFO := Lib.hid (fun (W : World) (hb : Below w.heap.size w W) => for_any t c0 c1 c2 c3 n s W (by rw [← hc3]; exact h.below hb) hw)
  have HRF := Lib.hid (fun (W : World) (hb : Below w.heap.size w W) => refFor_any t c0 c1 c2 c3 n s W (by rw [← hc3]; exact h.below hb) hw)
  have HFI := Lib.hid (fun (W : World) (hb : Below w.heap.size w W) => find_any t c0 c1 c2 c3 nm W (by rw [← hc3]; exact h.below hb) hw)
  obtain ⟨F, hF⟩ : ∃ F, isFor t n s = F := ⟨_, rfl⟩
  rw [hF] at HFO HRF
  obtain ⟨I0, hI⟩ : ∃ I, idxP (fun r => r.name == nm) t.rules = I := ⟨_, rfl⟩
  rw [hI] at HFI
  have HIE := Lib.hid hI
  unfold sv at HFI
  clear hB0 hB1 hw hG h x0 x1 x2 x3 hN hNL hF hI
  go_enter Tryd.func4, Tryd.ntmps4
  go_upto_region 1 with fail
  have hS0 : W0.drew.cell? ⟨w.heap.size, 0, none⟩ = some (c0) ∧ W0.drew.cell? ⟨w.heap.size, 1, none⟩ = some (c1) ∧ W0.drew.cell? ⟨w.heap.size, 2, none⟩ = some (c2) ∧ W0.drew.cell? ⟨w.heap.size, 3, none⟩ = some (c3) ∧ W0.drew.cell? ⟨w.heap.size, 4, none⟩ = some (.int .i64 n) ∧ W0.drew.cell? ⟨w.heap.size, 5, none⟩ = some (.int .i64 s) ∧ W0.drew.cell? ⟨w.heap.size, 6, none⟩ = some (.string (str nm)) ∧ Below W0.heap.size W0 W0.drew := HSD.out
  go_region_held3 (fun Wz => Wz.cell? ⟨w.heap.size, 0, none⟩ = some (c0) ∧ Wz.cell? ⟨w.heap.size, 1, none⟩ = some (c1) ∧ Wz.cell? ⟨w.heap.size, 2, none⟩ = some (c2) ∧ Wz.cell? ⟨w.heap.size, 3, none⟩ = some (c3) ∧ Wz.cell? ⟨w.heap.size, 4, none⟩ = some (.int .i64 n) ∧ Wz.cell? ⟨w.heap.size, 5, none⟩ = some (.int .i64 s) ∧ Wz.cell? ⟨w.heap.size, 6, none⟩ = some (.string (str nm)) ∧ Below W0.heap.size W0 Wz) (first | exact hS0 | exact HS1.out | assumption | exact HKD.out _ | exact HKA.out _ _ (by assumption)) (fail)
  clear hs0 hs1 hs2 hs3 ho0 ho1 ho2 ho3 HKD hS0 HSD HS1 HKA q0 q1 q2 q3 q4 q5 q6 hW0 hW1 hg3
  go_wp2_with fail
  refine HLI.out.mono ?_
  rintro _ w2 ⟨⟨B, rfl⟩, hb2⟩
  have HB2 := Lib.hid (HB1.out.trans (hb2.mono HB1.out.size))
  have k0 := kept_cell hb2 k0
  have k1 := kept_cell hb2 k1
  have k2 := kept_cell hb2 k2
  have k3 := kept_cell hb2 k3
  clear hb2 HLI
  cases B with
  | false =>
    go_wp2_with fail
    refine (HAW.out _ HB2.out).mono ?_
    rintro _ w4 ⟨rfl, hb4⟩
    have HB4 := Lib.hid (HB2.out.trans (hb4.mono HB2.out.size))
    clear hb4
    go_wp2_with fail
    go_ret
    exact ⟨rfl, HB4.out⟩
  | true =>
    subst hc3
    have hwN : IntKind.i64.wrap ((N : Int) - 1) = (N : Int) - 1 := IntWalk.i64_in _ (by have := HNL.out; omega)
    go_wp2_with fail
    clear hwN
    go_loopw [7, 8] (fun x7 x8 wr => ∃ (K : Nat) (x : Int), x8 = .int .i64 ((K : Int) - 1) ∧ x7 = .int .i64 x ∧ K ≤ N ∧ w2 = wr ∧ Hid (FirstFrom t.rules nm K x)) (fun _ x8 _ => (intOf x8 + 1).toNat)
    case atStart => exact ⟨N, -1, rfl, rfl, Nat.le_refl _, rfl, Lib.hid (Or.inl ⟨rfl, fun j y hj hy => by have := (List.getElem?_eq_some_iff.1 hy).1; rw [HNE.out] at this; omega⟩)⟩
    case round =>
      obtain ⟨K, x, rfl, rfl, hK, rfl, HI⟩ := hrel
      cases K with
      | zero =>
        have hx := HI.out.all
        rw [HIE.out] at hx
        subst hx
        have HSW := Lib.hid (show w2.drew.cell? ⟨g3, 0, none⟩ = some (c0) ∧ w2.drew.cell? ⟨g3, 1, none⟩ = some (c1) ∧ w2.drew.cell? ⟨g3, 2, none⟩ = some (c2) ∧ w2.drew.cell? ⟨g3, 3, none⟩ = some (.slice a3 N cap3) ∧ Below w.heap.size w w2.drew from ⟨k0, k1, k2, k3, HB2.out.drew⟩)
        have HAA := Lib.hid (fun (W : World) (hS : W.cell? ⟨g3, 0, none⟩ = some (c0) ∧ W.cell? ⟨g3, 1, none⟩ = some (c1) ∧ W.cell? ⟨g3, 2, none⟩ = some (c2) ∧ W.cell? ⟨g3, 3, none⟩ = some (.slice a3 N cap3) ∧ Below w.heap.size w W) => (HAW.out W hS.2.2.2.2).mono (fun z w' (hz : z = .returned (.bool true) ∧ Below W.heap.size W w') => show z = .returned (.bool true) ∧ w'.cell? ⟨g3, 0, none⟩ = some (c0) ∧ w'.cell? ⟨g3, 1, none⟩ = some (c1) ∧ w'.cell? ⟨g3, 2, none⟩ = some (c2) ∧ w'.cell? ⟨g3, 3, none⟩ = some (.slice a3 N cap3) ∧ Below w.heap.size w w' from ⟨hz.1, kept_cell hz.2 hS.1, kept_cell hz.2 hS.2.1, kept_cell hz.2 hS.2.2.1, kept_cell hz.2 hS.2.2.2.1, hS.2.2.2.2.trans (hz.2.mono hS.2.2.2.2.size)⟩))
        have HFF := Lib.hid (fun (W : World) (hS : W.cell? ⟨g3, 0, none⟩ = some (c0) ∧ W.cell? ⟨g3, 1, none⟩ = some (c1) ∧ W.cell? ⟨g3, 2, none⟩ = some (c2) ∧ W.cell? ⟨g3, 3, none⟩ = some (.slice a3 N cap3) ∧ Below w.heap.size w W) => (HFO.out W hS.2.2.2.2).mono (fun z w' (hz : z = .returned (.bool F) ∧ Below W.heap.size W w') => show z = .returned (.bool F) ∧ w'.cell? ⟨g3, 0, none⟩ = some (c0) ∧ w'.cell? ⟨g3, 1, none⟩ = some (c1) ∧ w'.cell? ⟨g3, 2, none⟩ = some (c2) ∧ w'.cell? ⟨g3, 3, none⟩ = some (.slice a3 N cap3) ∧ Below w.heap.size w w' from ⟨hz.1, kept_cell hz.2 hS.1, kept_cell hz.2 hS.2.1, kept_cell hz.2 hS.2.2.1, kept_cell hz.2 hS.2.2.2.1, hS.2.2.2.2.trans (hz.2.mono hS.2.2.2.2.size)⟩))
        have HRR := Lib.hid (fun (W : World) (hS : W.cell? ⟨g3, 0, none⟩ = some (c0) ∧ W.cell? ⟨g3, 1, none⟩ = some (c1) ∧ W.cell? ⟨g3, 2, none⟩ = some (c2) ∧ W.cell? ⟨g3, 3, none⟩ = some (.slice a3 N cap3) ∧ Below w.heap.size w W) => (HRF.out W hS.2.2.2.2).mono (fun z w' (hz : z = .returned (.bool F) ∧ Below W.heap.size W w') => show z = .returned (.bool F) ∧ w'.cell? ⟨g3, 0, none⟩ = some (c0) ∧ w'.cell? ⟨g3, 1, none⟩ = some (c1) ∧ w'.cell? ⟨g3, 2, none⟩ = some (c2) ∧ w'.cell? ⟨g3, 3, none⟩ = some (.slice a3 N cap3) ∧ Below w.heap.size w w' from ⟨hz.1, kept_cell hz.2 hS.1, kept_cell hz.2 hS.2.1, kept_cell hz.2 hS.2.2.1, kept_cell hz.2 hS.2.2.2.1, hS.2.2.2.2.trans (hz.2.mono hS.2.2.2.2.size)⟩))
        have HII := Lib.hid (fun (W : World) (hS : W.cell? ⟨g3, 0, none⟩ = some (c0) ∧ W.cell? ⟨g3, 1, none⟩ = some (c1) ∧ W.cell? ⟨g3, 2, none⟩ = some (c2) ∧ W.cell? ⟨g3, 3, none⟩ = some (.slice a3 N cap3) ∧ Below w.heap.size w W) => (HFI.out W hS.2.2.2.2).mono (fun z w' (hz : z = .returned (.int .i64 x) ∧ Below W.heap.size W w') => show z = .returned (.int .i64 x) ∧ w'.cell? ⟨g3, 0, none⟩ = some (c0) ∧ w'.cell? ⟨g3, 1, none⟩ = some (c1) ∧ w'.cell? ⟨g3, 2, none⟩ = some (c2) ∧ w'.cell? ⟨g3, 3, none⟩ = some (.slice a3 N cap3) ∧ Below w.heap.size w w' from ⟨hz.1, kept_cell hz.2 hS.1, kept_cell hz.2 hS.2.1, kept_cell hz.2 hS.2.2.1, kept_cell hz.2 hS.2.2.2.1, hS.2.2.2.2.trans (hz.2.mono hS.2.2.2.2.size)⟩))
        have hFF : (F == F) = true := by cases F <;> rfl
        clear HAW HFO HRF HFI HI HIE
        go_upto_region 10 with fail
        have hS0 : w2.drew.cell? ⟨g3, 0, none⟩ = some (c0) ∧ w2.drew.cell? ⟨g3, 1, none⟩ = some (c1) ∧ w2.drew.cell? ⟨g3, 2, none⟩ = some (c2) ∧ w2.drew.cell? ⟨g3, 3, none⟩ = some (.slice a3 N cap3) ∧ Below w.heap.size w w2.drew := HSW.out
        go_region_held3 (fun Wz => Wz.cell? ⟨g3, 0, none⟩ = some (c0) ∧ Wz.cell? ⟨g3, 1, none⟩ = some (c1) ∧ Wz.cell? ⟨g3, 2, none⟩ = some (c2) ∧ Wz.cell? ⟨g3, 3, none⟩ = some (.slice a3 N cap3) ∧ Below w.heap.size w Wz) (first | exact hS0 | assumption) (first | (go_at_call 9; ((with_reducible refine (HAA.out _ ?_).mono ?_); (first | exact hS0 | assumption)); rintro _ w4 ⟨rfl, hS4⟩) | (go_at_call 13; ((with_reducible refine (HFF.out _ ?_).mono ?_); (first | exact hS0 | assumption)); rintro _ w5 ⟨rfl, hS5⟩) | (go_at_call 14; ((with_reducible refine (HRR.out _ ?_).mono ?_); (first | exact hS0 | assumption)); rintro _ w6 ⟨rfl, hS6⟩) | (go_at_call 15; ((with_reducible refine (HII.out _ ?_).mono ?_); (first | exact hS0 | assumption)); rintro _ w7 ⟨rfl, hS7⟩))
        go_wp2_with fail
        go_ret
        exact ⟨rfl, hS7.2.2.2.2⟩
      | succ K =>
        obtain ⟨y, hy⟩ : ∃ y, t.rules[K]? = some y := ⟨_, List.getElem?_eq_getElem (by rw [HNE.out]; omega)⟩
        obtain ⟨b, off, ea, cs, -, ⟨vf, vg, vp, rfl, -, -, -⟩, hc⟩ := HR3.out.at hy
        subst ea
        have HY := Lib.hid hy
        obtain ⟨ny, hny⟩ : ∃ z, y.name = z := ⟨_, rfl⟩
        rw [hny] at hc
        have e0 : w2.cell? ⟨b, off + K * 5, none⟩ = some (.string (str ny)) := kept_cell HB2.out (hc 0 _ rfl)
        have hi : (((K + 1 : Nat) : Int) - 1) = (K : Int) := by omega
        have hwK : IntKind.i64.wrap ((K : Int) - 1) = (K : Int) - 1 := IntWalk.i64_in _ (by have := HNL.out; omega)
        have hKN : K < N := by omega
        have hKI : (K : Int) < (N : Int) := by omega
        rw [hi]
        clear hc hy
        by_cases hq : ny = nm
        · have hqb : ((str ny).toList == (str nm).toList) = true := by rw [hq]; simp
          have HQ := Lib.hid (show (y.name == nm) = true from beq_iff_eq.2 (hny.trans hq))
          clear hq hny
          go_wp2_with fail
          exact ⟨⟨K, (K : Int), rfl, rfl, by omega, trivial, Lib.hid (FirstFrom.here HY.out HQ.out)⟩, by simp [intOf]⟩
        · have hqb : ((str ny).toList == (str nm).toList) = false := str_ne hq
          have HQ := Lib.hid (show (y.name == nm) = false from beq_eq_false_iff_ne.2 (by rw [hny]; exact hq))
          clear hq hny
          go_wp2_with fail
          exact ⟨⟨K, x, rfl, rfl, by omega, trivial, Lib.hid (HI.out.next HY.out HQ.out)⟩, by simp [intOf]⟩

set_option maxRecDepth 100000 in
/-- WHAT THE WALK GIVES, FOR EVERY ARGUMENT AND EVERY WORLD THAT HOLDS WHAT THE ROW LISTS. -/
theorem contract (H : Type) (enc : TypeId × Value → H) (W : World) (base : Nat) (args : Array Value) (ds gs : List (DataW H)) (before : List MemPlace)
    (hval0 : ∀ (j : Nat) t v, Tryd.f4.params[j]? = some t → args[j]? = some v → Value.okWide Tryd.prog W .any base t v)
    (hW : DataW.Whole enc Tryd.prog Tryd.f4.params.toList Rows.rulesForSpec.vars false W args.toList ds gs before) (hL : laidMetH Tryd.prog I.laid1 W) :
    Calls Tryd.prog 4 args W fun e W' => ∃ v, e = .returned v ∧ Rows.rulesForSpec.post enc Tryd.prog Tryd.f4 false true false false W args v W' := by
  have hval : ∀ (j : Nat) t v, Tryd.f4.params[j]? = some t → args[j]? = some v → Value.okWide Tryd.prog W .any base t v := hval0
  have hW' := hW
  obtain ⟨p, q, hA0, hV, rfl, hfz, hnd⟩ := hW
  have hA : DataW.TrodAll enc Tryd.prog W 0 (fun _ => true) true Tryd.f4.params.toList args.toList ds p := hA0
  rw [Tryd.params4] at hA hval
  obtain ⟨v0, vs0, d0, ds0, p0, q0, hargs, rfl, rfl, h0, r0⟩ := trodAll_cons hA
  obtain ⟨rfl, rfl, rfl⟩ := trodAll_nil r0
  obtain rfl : args = #[v0] := by cases args; simp_all
  obtain ⟨c0, c1, c2, c3, n, s, nm, t, rfl, ht, hwf⟩ := four_arg (hval 0 34 v0 rfl rfl) h0
  refine (walk t c0 c1 c2 c3 n s nm W ht hwf (I.glob_of hL)).mono fun e W' ⟨he, hb⟩ => ?_
  subst he
  exact ⟨_, rfl, post_law hW' hb laidOut rfl rfl rfl Tryd.underlying4 (by rw [Tryd.params4]; decide +kernel)⟩

theorem reads (os : Os) {H : Type} (enc : TypeId × Value → H) : ∃ places, DataW.whole enc Tryd.prog ((World.doorLaid Tryd.prog 14 os).forCall (fun _ _ => 0) ⟨#[], #[.agg #[.slice none 0 0, .slice none 0 0, .slice none 0 0, .slice none 0 0, .int .i64 0, .int .i64 0, .string ⟨#[]⟩]], []⟩).memory Tryd.f4.params.toList Rows.rulesForSpec.vars false #[Value.agg #[.slice none 0 0, .slice none 0 0, .slice none 0 0, .slice none 0 0, .int .i64 0, .int .i64 0, .string ⟨#[]⟩]].toList 8 = some ([.agg [.agg [.nil, .nil, .nil, .nil], .lit (.int .i64 0), .lit (.int .i64 0), .lit (.string [])]], [], places) :=
  ⟨[], by kernel_rfl⟩

set_option maxRecDepth 100000 in
theorem lifted (os : Os) (started : os.Started) (H : Type) (enc : TypeId × Value → H) (F : Stop.Interp) :
    ReturnsInHanded {} Tryd.checked os 4 .any ((OpenSpec.ofChange Rows.rulesForSpec).preRow enc Tryd.prog Tryd.f4 Rows.rulesForRow.domain false Rows.rulesForRow.laid) (((OpenSpec.ofChange Rows.rulesForSpec).at F).post enc Tryd.prog Tryd.f4 false true false false) := by
  obtain ⟨places, hx⟩ := reads os enc
  refine returnsInHanded_of_row (C := Tryd.checked) (s := OpenSpec.ofChange Rows.rulesForSpec) own started (by kernel_rfl) Tryd.func4
    (witness_row_atRef (enc := enc) (C := Tryd.checked) false (World.doorLaid Tryd.prog 14 os) #[.agg #[.slice none 0 0, .slice none 0 0, .slice none 0 0, .slice none 0 0, .int .i64 0, .int .i64 0, .string ⟨#[]⟩]] rfl (by kernel_rfl) (by kernel_rfl) (by kernel_rfl)
      (OpenSpec.preRow_of_cond 8 hx (by kernel_rfl) (fun k hk => by cases hk) (by kernel_rfl) (I.laid_met os _))) ?_
  intro W base args ds gs before hval hW _ _ hsz hL _ _
  exact contract H enc W base args ds gs before hval hW hL

theorem said : Rows.RulesForSaid :=
  OpenClaim.holds_of_cond 4 Tryd.f4 rfl rfl rfl rfl rfl rfl rfl ⟨rfl, rfl, rfl, rfl, rfl⟩ rfl rfl rfl rfl rfl (by kernel_rfl) Tryd.func4 (by kernel_rfl)
    (of_decide_eq_true (by kernel_rfl)) (by unfold Func.isWrapper; first | (rw [if_pos (by decide +kernel)]; kernel_rfl) | (rw [if_neg (by decide +kernel)]; exact ⟨rfl, rfl⟩))
    (fun os started H enc _ F => by rw [OpenClaim.pre_eq_preRow]; exact lifted os started H enc F)

theorem plain (f : FuncId) (fn : Func) (hf : Tryd.pinned.checked.prog.funcNamed "surmise/surmiselaw05.RulesFor" = some f) (hfn : Tryd.pinned.checked.prog.funcs[f]? = some fn) :
    false = Tryd.pinned.checked.prog.looks [] ∧ ∀ (j : Nat) t, fn.params[j]? = some t → Tryd.pinned.checked.prog.wantsStandIn t = false := by
  obtain rfl : f = 4 := Option.some.inj ((show Tryd.prog.funcNamed "surmise/surmiselaw05.RulesFor" = some 4 by kernel_rfl).symm.trans hf) |>.symm
  obtain rfl : fn = Tryd.f4 := (Option.some.inj (Tryd.func4.symm.trans hfn)).symm
  refine ⟨by kernel_rfl, fun j t ht => ?_⟩
  rw [Tryd.params4] at ht
  have hm := Array.mem_of_getElem? ht
  simp only [Array.mem_def, List.mem_cons, List.not_mem_nil, or_false] at hm
  subst hm
  exact (show Tryd.prog.wantsStandIn 34 = false by kernel_rfl)

/-- THE CARD. -/
theorem given : Rows.RulesForCardSaid :=
  Claim7.holds_tied_plain_at .later [] _ _ _ _ said (fun _ h => by cases h) (by kernel_rfl) (fun _ h => by cases h) rulesFor_row_tie rfl ⟨rfl, rfl⟩ (by kernel_rfl) rfl plain (by kernel_rfl)
end Go.Proofs.YtfcdkjhabdpijaaDoor.rulesFor
