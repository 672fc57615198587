/-
  Layer 5, the program's side: going from state to state, each once (the function that Reach makes).
  Layer 5, the program's side: Reach.
-/
import Derived.Test.YtfcdkjhabdpijaaDoorRMa
import Derived.Test.YtfcdkjhabdpijaaDoorRPy
import Derived.Test.YtfcdkjhabdpijaaDoorRPx
import Derived.Test.YtfcdkjhabdpijaaDoorRRefR
namespace Go.Proofs.YtfcdkjhabdpijaaDoor.R
open Go Go.RowKit Go.Proofs.YtfcdkjhabdpijaaDoor.B Go.Proofs.YtfcdkjhabdpijaaDoor.K Go.Proofs.YtfcdkjhabdpijaaDoor.E
set_option linter.unusedVariables false

/-- What the function that Reach makes has: the table's box, the row of bools, the cell of the row's slice, its own cell. -/
structure Cm (w : World) (g c3 c4 : Nat) (cs : Array Value) (S : Nat) (l : List Bool) (W : World) : Prop where
  below : Below w.heap.size w W
  box : W.heap[w.heap.size]? = some (.cells cs 26 (0, 0))
  row : W.heap[g]? = some (.cells (l.map Value.bool).toArray 4 (0, 0))
  k3 : W.cell? ⟨c3, 0, none⟩ = some (.slice (some ⟨g, 0, none⟩) S S)
  k4 : W.cell? ⟨c4, 0, none⟩ = some (.func (.func 40) #[] #[.pointer (some ⟨c3, 0, none⟩), .pointer (some ⟨w.heap.size, 0, none⟩), .pointer (some ⟨c4, 0, none⟩)])
  len : l.length = S
  g0 : w.heap.size < g
  g3 : g < c3
  g4 : c3 < c4

/-- Nothing but block g has turned. -/
def Tg (g : Nat) (W W' : World) : Prop := W.heap.size ≤ W'.heap.size ∧ ∀ b, b < W.heap.size → b ≠ g → W'.heap[b]? = W.heap[b]?

theorem Tg.refl (g : Nat) (W : World) : Tg g W W := ⟨Nat.le_refl _, fun _ _ _ => rfl⟩
theorem Tg.trans {g : Nat} {a b c : World} (h : Tg g a b) (k : Tg g b c) : Tg g a c :=
  ⟨Nat.le_trans h.1 k.1, fun i hi hne => (k.2 i (Nat.lt_of_lt_of_le hi h.1) hne).trans (h.2 i hi hne)⟩
theorem Tg.of_below {g : Nat} {a b : World} (h : Below a.heap.size a b) : Tg g a b := ⟨h.size, fun i hi _ => h.block i hi⟩
theorem Tg.cell {g b j : Nat} {W W' : World} {u : Value} (h : Tg g W W') (hc : W.cell? ⟨b, j, none⟩ = some u) (hne : b ≠ g) : W'.cell? ⟨b, j, none⟩ = some u := by
  have hb : b < W.heap.size := by
    unfold World.cell? at hc
    rcases Nat.lt_or_ge b W.heap.size with h | h
    · exact h
    · rw [Array.getElem?_eq_none h] at hc; cases hc
  unfold World.cell? at hc ⊢
  rw [h.2 b hb hne]; exact hc

section
variable {w W W' : World} {g c3 c4 : Nat} {cs : Array Value} {S : Nat} {l : List Bool}
theorem Cm.call (h : Cm w g c3 c4 cs S l W) (hb : Below W.heap.size W W') : Cm w g c3 c4 cs S l W' :=
  ⟨h.below.trans (hb.mono h.below.size), (hb.block _ (Array.getElem?_eq_some_iff.1 h.box).1).trans h.box, (hb.block _ (Array.getElem?_eq_some_iff.1 h.row).1).trans h.row, kept_cell hb h.k3, kept_cell hb h.k4, h.len, h.g0, h.g3, h.g4⟩
theorem Cm.set (h : Cm w g c3 c4 cs S l W) (k : Nat) : Cm w g c3 c4 cs S (l.set k true) (W.setCell ⟨g, k, none⟩ (.bool true)) := by
  have h0 := h.g0
  have h3 := h.g3
  have h4 := h.g4
  refine ⟨h.below.setCell (p := ⟨g, k, none⟩) (Nat.le_of_lt h0) _, ?_, ?_, ?_, ?_, by rw [List.length_set]; exact h.len, h0, h3, h4⟩
  · rw [heap_setCell_other W ⟨g, k, none⟩ w.heap.size _ (Nat.ne_of_lt h0)]; exact h.box
  · rw [heap_setCell_same W g k _ _ _ h.row, List.map_set]; simp
  · rw [World.cell?_setCell_other W ⟨g, k, none⟩ ⟨c3, 0, none⟩ _ (by intro e; injection e; omega)]; exact h.k3
  · rw [World.cell?_setCell_other W ⟨g, k, none⟩ ⟨c4, 0, none⟩ _ (by intro e; injection e; omega)]; exact h.k4
theorem Tg.set (W : World) (g k : Nat) (v : Value) : Tg g W (W.setCell ⟨g, k, none⟩ v) := by
  refine ⟨by rw [World.size_setCell]; exact Nat.le_refl _, fun b hb hne => ?_⟩
  rw [heap_setCell_other W ⟨g, k, none⟩ b _ hne]
theorem Cm.read (h : Cm w g c3 c4 cs S l W) {i : Nat} {B : Bool} (hv : l[i]? = some B) : W.cell? ⟨g, i, none⟩ = some (.bool B) := by
  unfold World.cell?; rw [h.row]; simp [hv]
theorem Cm.store (h : Cm w g c3 c4 cs S l W) {k : Nat} (hk : k < l.length) : ∃ old, W.cell? ⟨g, k, none⟩ = some old ∧ W.frozen? ⟨g, k, none⟩ = false :=
  row_cell h.row (by simpa using hk)
theorem Cm.cell (h : Cm w g c3 c4 cs S l W) (i : Nat) (v : Value) (hv : cs[i]? = some v) : W.cell? ⟨w.heap.size, i, none⟩ = some v := by
  unfold World.cell?; rw [h.box]; exact hv
end

/-- Where the walk through the rules stands. -/
def Cx (t : Tb) (w : World) (g c3 c4 : Nat) (cs : Array Value) (S : Nat) (l0 : List Bool) (W0 W : World) : Prop := ∃ l', Cm w g c3 c4 cs S l' W ∧ More t l0 l' ∧ Tg g W0 W
/-- What is told of a state. -/
def Cy (t : Tb) (w : World) (g c3 c4 : Nat) (cs : Array Value) (S : Nat) (l0 : List Bool) (W0 : World) (q : Nat) (W : World) : Prop := ∃ l', Cm w g c3 c4 cs S l' W ∧ (More t l0 l' ∧ l'.getD q false = true) ∧ Tg g W0 W

theorem getD_of {l : List Bool} {i : Nat} {B : Bool} (h : l[i]? = some B) : l.getD i false = B := by
  rw [List.getD_eq_getElem?_getD, h]; rfl

set_option maxHeartbeats 1000000 in
set_option maxRecDepth 100000 in
theorem come_any (t : Tb) (v0 v1 v2 v3 : Value) (w : World) (hT : TbIs w [v0, v1, v2, v3] t) (hw : TbWf t) (hR : Ranged t) (g c3 c4 : Nat) (S : Nat) (hS : t.states.length = S) (hS8 : S ≤ 8) :
    ∀ (k : Nat) (l : List Bool) (s : Nat) (W : World), Cm w g c3 c4 #[v0, v1, v2, v3] S l W → S ≤ cnt l + k → s < S → Reached t s →
      Calls Tryd.prog 40 #[.int .i64 (s : Int), .pointer (some ⟨c3, 0, none⟩), .pointer (some ⟨w.heap.size, 0, none⟩), .pointer (some ⟨c4, 0, none⟩)] W fun z w' => z = .returned (.tuple #[]) ∧ Cy t w g c3 c4 #[v0, v1, v2, v3] S l W s w' := by
  intro k
  induction k with
  | zero =>
    intro l s W hC hk hs hrs
    have k3 := hC.k3
    obtain ⟨B, hB⟩ : ∃ B, l[s]? = some B := ⟨_, List.getElem?_eq_getElem (by rw [hC.len]; exact hs)⟩
    have hBt : B = true := by
      cases B with
      | true => rfl
      | false =>
        have := cnt_set (getD_of hB) (by rw [hC.len]; exact hs)
        have := hC.len
        omega
    subst hBt
    have kr := hC.read hB
    have HY : Hid (Cy t w g c3 c4 #[v0, v1, v2, v3] S l W s W) := Lib.hid ⟨l, hC, ⟨More.refl t l, getD_of hB⟩, Tg.refl g W⟩
    have hsI : (s : Int) < (S : Int) := by omega
    clear hB hC hk hT hw hR hrs
    go_enter Tryd.func40, Tryd.ntmps40
    go_wp2_with fail
    refine bodyPost_ret (results_none rfl _ _ _) rfl ?_
    exact ⟨rfl, HY.out⟩
  | succ k ih =>
    intro l s W hC hk hs hrs
    have k3 := hC.k3
    obtain ⟨B, hB⟩ : ∃ B, l[s]? = some B := ⟨_, List.getElem?_eq_getElem (by rw [hC.len]; exact hs)⟩
    have kr := hC.read hB
    have hsI : (s : Int) < (S : Int) := by omega
    cases B with
    | true =>
      have HY : Hid (Cy t w g c3 c4 #[v0, v1, v2, v3] S l W s W) := Lib.hid ⟨l, hC, ⟨More.refl t l, getD_of hB⟩, Tg.refl g W⟩
      clear hB hC hk hT hw hR hrs ih
      go_enter Tryd.func40, Tryd.ntmps40
      go_wp2_with fail
      refine bodyPost_ret (results_none rfl _ _ _) rfl ?_
      exact ⟨rfl, HY.out⟩
    | false =>
      have HT := Lib.hid hT
      have HW := Lib.hid hw
      have HRG := Lib.hid hR
      have HRS := Lib.hid hrs
      have HIH := Lib.hid ih
      obtain ⟨d0, d1, d2, d3, e, h0, h1, h2, h3⟩ := hT
      cases e
      have hNL := hw.2.2.2.2
      obtain ⟨a3, cap3, rfl, h3⟩ := h3.open
      obtain ⟨N, hN⟩ : ∃ N, t.rules.length = N := ⟨_, rfl⟩
      rw [hN] at h3 hNL hC HT HIH ⊢
      have HR := Lib.hid h3
      have HN := Lib.hid hN
      have HNL := Lib.hid hNL
      have hcs := cnt_set (getD_of hB) (by rw [hC.len]; exact hs)
      have HK := Lib.hid (show S ≤ cnt (l.set s true) + k by omega)
      have hC1 := hC.set s
      obtain ⟨old, ko, kf⟩ := hC.store (k := s) (by rw [hC.len]; exact hs)
      obtain ⟨W1, hW1⟩ : ∃ W1, W.setCell ⟨g, s, none⟩ (.bool true) = W1 := ⟨_, rfl⟩
      rw [hW1] at hC1
      have t3 : W1.cell? ⟨w.heap.size, 3, none⟩ = some (.slice a3 N cap3) := hC1.cell 3 _ rfl
      have HC := Lib.hid hC
      have HC1 := Lib.hid hC1
      have HG1 := Lib.hid (hW1 ▸ Tg.set W g s (.bool true))
      have HLS := Lib.hid (show s < l.length by rw [hC.len]; exact hs)
      clear hB hC hC1 hk hR hrs ih h0 h1 h2 h3 hN hNL hw hcs ko
      go_enter Tryd.func40, Tryd.ntmps40
      go_wp2_with fail
      go_loopw [17] (fun x wr => ∃ (M : Nat), x = .int .i64 (M : Int) ∧ M ≤ N ∧ Hid (∃ lM, Cm w g c3 c4 #[v0, v1, v2, .slice a3 N cap3] S lM wr ∧ More t (l.set s true) lM ∧ Tg g W wr ∧ ∀ j r, j < M → t.rules[j]? = some r → rlFor r s = true → lM.getD (toOf r s).toNat false = true)) (fun x _ => N - (intOf x).toNat)
      case atStart => exact ⟨0, rfl, Nat.zero_le _, Lib.hid ⟨_, HC1.out, More.refl _ _, HG1.out, fun j r hj => absurd hj (Nat.not_lt_zero j)⟩⟩
      case round =>
        obtain ⟨M, rfl, hM, HI⟩ := hrel
        clear t3 k3 kr HC1 HG1 HC hW1 W1 kf
        by_cases hlt : M < N
        · have hltI : (M : Int) < (N : Int) := by omega
          obtain ⟨r, hr⟩ : ∃ r, t.rules[M]? = some r := ⟨_, List.getElem?_eq_getElem (by rw [HN.out]; exact hlt)⟩
          have hrm := List.mem_of_getElem? hr
          have HRM := Lib.hid hrm
          have HRA := Lib.hid hr
          have hwK := wrap_next M (Nat.lt_of_lt_of_le hlt HNL.out)
          obtain ⟨b, off, ea, cs, -, hRl, hc⟩ := HR.out.at hr
          have hRW := HW.out.2.2.2.1 r hrm
          obtain ⟨vf, vg, vp, rfl, hf, hg, hp⟩ := id hRl
          subst ea
          obtain ⟨lM, hCM, hMM, hTM, hDM⟩ := HI.out
          have HCM := Lib.hid hCM
          have HMM := Lib.hid hMM
          have HTM := Lib.hid hTM
          have HDM := Lib.hid hDM
          obtain ⟨af, capf, rfl⟩ := sl_len hf
          obtain ⟨ag, capg, rfl, hg⟩ := hg.open
          obtain ⟨ap, capp, rfl, hp⟩ := hp.open
          have HRL := Lib.hid hRl
          have HRW := Lib.hid hRW
          have k0 : wr.cell? ⟨b, off + M * 5, none⟩ = some (.string (str r.name)) := kept_cell hCM.below (hc 0 _ rfl)
          have k1 := kept_cell hCM.below (hc 1 _ rfl)
          have k2 := kept_cell hCM.below (hc 2 _ rfl)
          have k3 := kept_cell hCM.below (hc 3 _ rfl)
          have k4 := kept_cell hCM.below (hc 4 _ rfl)
          have HE0 := Lib.hid (fun (W : World) (hb : Below w.heap.size w W) => end_any r _ _ _ _ _ (s : Int) W (HRL.out.below hb) HRW.out)
          obtain ⟨q, hq⟩ : ∃ q : Nat, toOf r s = (q : Int) := ⟨(toOf r s).toNat, by have := toOf_range HRG.out hrm (s := s) (by omega); omega⟩
          have hqS : q < S := by have := toOf_range HRG.out hrm (s := s) (by omega); omega
          have HQ := Lib.hid hq
          rw [hq] at HE0
          unfold sv at HE0
          obtain ⟨nm, hnm⟩ : ∃ x, r.name = x := ⟨_, rfl⟩
          obtain ⟨ar, har⟩ : ∃ x, r.args = x := ⟨_, rfl⟩
          obtain ⟨lf, hlf⟩ : ∃ x, (r.from_.map fun n => Value.int .i64 n).length = x := ⟨_, rfl⟩
          obtain ⟨lg, hlg⟩ : ∃ x, r.guards.length = x := ⟨_, rfl⟩
          obtain ⟨lp, hlp⟩ : ∃ x, r.steps.length = x := ⟨_, rfl⟩
          rw [hnm, har, hlf, hlg, hlp] at HE0
          rw [hnm] at k0
          rw [har] at k1
          rw [hlf] at k2
          rw [hlg] at k3
          rw [hlp] at k4
          obtain ⟨rb, hrb⟩ : ∃ x, wr.heap.size = x := ⟨_, rfl⟩
          obtain ⟨W2, hW2⟩ : ∃ W2, wr.alloc (.cells #[.string (str nm), .int .i64 ar, .slice af lf capf, .slice ag lg capg, .slice ap lp capp] 38) = W2 := ⟨_, rfl⟩
          have hB2 : Below wr.heap.size wr W2 := by rw [← hW2]; exact (Below.refl wr.heap.size wr).alloc (Nat.le_refl _) _
          have u0 : W2.cell? ⟨rb, 0, none⟩ = some (.string (str nm)) := by rw [← hW2, ← hrb]; unfold World.cell?; rw [heap_alloc_at]; rfl
          have u1 : W2.cell? ⟨rb, 1, none⟩ = some (.int .i64 ar) := by rw [← hW2, ← hrb]; unfold World.cell?; rw [heap_alloc_at]; rfl
          have u2 : W2.cell? ⟨rb, 2, none⟩ = some (.slice af lf capf) := by rw [← hW2, ← hrb]; unfold World.cell?; rw [heap_alloc_at]; rfl
          have u3 : W2.cell? ⟨rb, 3, none⟩ = some (.slice ag lg capg) := by rw [← hW2, ← hrb]; unfold World.cell?; rw [heap_alloc_at]; rfl
          have u4 : W2.cell? ⟨rb, 4, none⟩ = some (.slice ap lp capp) := by rw [← hW2, ← hrb]; unfold World.cell?; rw [heap_alloc_at]; rfl
          have hC2 := hCM.call hB2
          have HC2 := Lib.hid hC2
          have HT2 := Lib.hid (hTM.trans (Tg.of_below hB2))
          have b0 : W2.cell? ⟨w.heap.size, 0, none⟩ = some (v0) := hC2.cell 0 _ rfl
          have b1 : W2.cell? ⟨w.heap.size, 1, none⟩ = some (v1) := hC2.cell 1 _ rfl
          have b2 : W2.cell? ⟨w.heap.size, 2, none⟩ = some (v2) := hC2.cell 2 _ rfl
          have b3 : W2.cell? ⟨w.heap.size, 3, none⟩ = some (.slice (some ⟨b, off, none⟩) N cap3) := hC2.cell 3 _ rfl
          have hrbg : rb ≠ g := by
            have := (Array.getElem?_eq_some_iff.1 hCM.row).1
            omega
          have HFOR := Lib.hid (for_any t v0 v1 v2 (.slice (some ⟨b, off, none⟩) N cap3) (M : Int) (s : Int) W2 (HT.out.below hC2.below) HW.out)
          rw [isFor_at t M s r (by rw [hS]; exact hs) hr] at HFOR
          obtain ⟨B, hBF⟩ : ∃ B, rlFor r s = B := ⟨_, rfl⟩
          rw [hBF] at HFOR
          have HBF := Lib.hid hBF
          clear HI hCM hMM hTM hDM hC2 hc hRl hRW hf hg hp hr hrm hq hnm har hlf hlg hlp hBF hB2
          cases B with
          | false =>
            clear HE0
            go_wp2_with fail
            refine HFOR.out.mono ?_
            rintro _ w4 ⟨rfl, hb4⟩
            have HC4 := Lib.hid (HC2.out.call hb4)
            have HT4 := Lib.hid (HT2.out.trans (Tg.of_below hb4))
            clear hb4
            go_wp2_with fail
            clear hwK hltI
            refine ⟨⟨M + 1, by go_num, by omega, Lib.hid ⟨lM, HC4.out, HMM.out, HT4.out, fun j x hj hx hfx => ?_⟩⟩, by simp [intOf]; omega⟩
            rcases Nat.lt_succ_iff_lt_or_eq.1 hj with h | rfl
            · exact HDM.out j x h hx hfx
            · rw [HRA.out] at hx; cases hx; rw [HBF.out] at hfx; cases hfx
          | true =>
            go_wp2_with fail
            refine HFOR.out.mono ?_
            rintro _ w4 ⟨rfl, hb4⟩
            have HC4 := Lib.hid (HC2.out.call hb4)
            have HT4 := Lib.hid (HT2.out.trans (Tg.of_below hb4))
            have u0 := kept_cell hb4 u0
            have u1 := kept_cell hb4 u1
            have u2 := kept_cell hb4 u2
            have u3 := kept_cell hb4 u3
            have u4 := kept_cell hb4 u4
            clear hb4
            have HEN := Lib.hid (fun (Wx : World) (hx : Wx.cell? ⟨c4, 0, none⟩ = some (.func (.func 40) #[] #[.pointer (some ⟨c3, 0, none⟩), .pointer (some ⟨w.heap.size, 0, none⟩), .pointer (some ⟨c4, 0, none⟩)]) ∧ Wx.cell? ⟨rb, 0, none⟩ = some (.string (str nm)) ∧ Wx.cell? ⟨rb, 1, none⟩ = some (.int .i64 ar) ∧ Wx.cell? ⟨rb, 2, none⟩ = some (.slice af lf capf) ∧ Wx.cell? ⟨rb, 3, none⟩ = some (.slice ag lg capg) ∧ Wx.cell? ⟨rb, 4, none⟩ = some (.slice ap lp capp) ∧ Cx t w g c3 c4 #[v0, v1, v2, .slice (some ⟨b, off, none⟩) N cap3] S lM W Wx) => (HE0.out Wx (by obtain ⟨_, h, _⟩ := hx.2.2.2.2.2.2; exact h.below)).mono (fun z w' (hz : z = .returned (.int .i64 (q : Int)) ∧ Below Wx.heap.size Wx w') => show z = .returned (.int .i64 (q : Int)) ∧ w'.cell? ⟨c4, 0, none⟩ = some (.func (.func 40) #[] #[.pointer (some ⟨c3, 0, none⟩), .pointer (some ⟨w.heap.size, 0, none⟩), .pointer (some ⟨c4, 0, none⟩)]) ∧ w'.cell? ⟨rb, 0, none⟩ = some (.string (str nm)) ∧ w'.cell? ⟨rb, 1, none⟩ = some (.int .i64 ar) ∧ w'.cell? ⟨rb, 2, none⟩ = some (.slice af lf capf) ∧ w'.cell? ⟨rb, 3, none⟩ = some (.slice ag lg capg) ∧ w'.cell? ⟨rb, 4, none⟩ = some (.slice ap lp capp) ∧ Cx t w g c3 c4 #[v0, v1, v2, .slice (some ⟨b, off, none⟩) N cap3] S lM W w' from by
              obtain ⟨rfl, hb⟩ := hz
              obtain ⟨x1, x2, x3, x4, x5, x6, l', y1, y2, y3⟩ := hx
              exact ⟨rfl, kept_cell hb x1, kept_cell hb x2, kept_cell hb x3, kept_cell hb x4, kept_cell hb x5, kept_cell hb x6, l', y1.call hb, y2, y3.trans (Tg.of_below hb)⟩))
            have HCO := Lib.hid (fun (Wx : World) (hx : Wx.cell? ⟨c4, 0, none⟩ = some (.func (.func 40) #[] #[.pointer (some ⟨c3, 0, none⟩), .pointer (some ⟨w.heap.size, 0, none⟩), .pointer (some ⟨c4, 0, none⟩)]) ∧ Wx.cell? ⟨rb, 0, none⟩ = some (.string (str nm)) ∧ Wx.cell? ⟨rb, 1, none⟩ = some (.int .i64 ar) ∧ Wx.cell? ⟨rb, 2, none⟩ = some (.slice af lf capf) ∧ Wx.cell? ⟨rb, 3, none⟩ = some (.slice ag lg capg) ∧ Wx.cell? ⟨rb, 4, none⟩ = some (.slice ap lp capp) ∧ Cx t w g c3 c4 #[v0, v1, v2, .slice (some ⟨b, off, none⟩) N cap3] S lM W Wx) => show Calls Tryd.prog 40 #[.int .i64 (q : Int), .pointer (some ⟨c3, 0, none⟩), .pointer (some ⟨w.heap.size, 0, none⟩), .pointer (some ⟨c4, 0, none⟩)] Wx (fun z w' => z = .returned (.tuple #[]) ∧ (w'.cell? ⟨c4, 0, none⟩ = some (.func (.func 40) #[] #[.pointer (some ⟨c3, 0, none⟩), .pointer (some ⟨w.heap.size, 0, none⟩), .pointer (some ⟨c4, 0, none⟩)]) ∧ w'.cell? ⟨rb, 0, none⟩ = some (.string (str nm)) ∧ w'.cell? ⟨rb, 1, none⟩ = some (.int .i64 ar) ∧ w'.cell? ⟨rb, 2, none⟩ = some (.slice af lf capf) ∧ w'.cell? ⟨rb, 3, none⟩ = some (.slice ag lg capg) ∧ w'.cell? ⟨rb, 4, none⟩ = some (.slice ap lp capp) ∧ Cx t w g c3 c4 #[v0, v1, v2, .slice (some ⟨b, off, none⟩) N cap3] S lM W w') ∧ Cy t w g c3 c4 #[v0, v1, v2, .slice (some ⟨b, off, none⟩) N cap3] S lM W q w') from by
              obtain ⟨x1, x2, x3, x4, x5, x6, l', y1, y2, y3⟩ := hx
              have hrq : Reached t q := by
                have := Reached.go s r HRS.out HRM.out HBF.out
                rw [HQ.out] at this; exact this
              refine (HIH.out l' q Wx y1 ?_ hqS hrq).mono ?_
              · have := (cnt_le_of _ _ HMM.out.1).1
                have := (cnt_le_of _ _ y2.1).1
                have := HK.out
                omega
              · rintro z w' ⟨rfl, l2, z1, ⟨z2, z3⟩, z4⟩
                exact ⟨rfl, ⟨z4.cell x1 (by have := y1.g3; have := y1.g4; omega), z4.cell x2 hrbg, z4.cell x3 hrbg, z4.cell x4 hrbg, z4.cell x5 hrbg, z4.cell x6 hrbg, l2, z1, y2.trans z2, y3.trans z4⟩, l2, z1, ⟨y2.trans z2, z3⟩, y3.trans z4⟩)
            have HS0 := Lib.hid (show w4.drew.cell? ⟨c4, 0, none⟩ = some (.func (.func 40) #[] #[.pointer (some ⟨c3, 0, none⟩), .pointer (some ⟨w.heap.size, 0, none⟩), .pointer (some ⟨c4, 0, none⟩)]) ∧ w4.drew.cell? ⟨rb, 0, none⟩ = some (.string (str nm)) ∧ w4.drew.cell? ⟨rb, 1, none⟩ = some (.int .i64 ar) ∧ w4.drew.cell? ⟨rb, 2, none⟩ = some (.slice af lf capf) ∧ w4.drew.cell? ⟨rb, 3, none⟩ = some (.slice ag lg capg) ∧ w4.drew.cell? ⟨rb, 4, none⟩ = some (.slice ap lp capp) ∧ Cx t w g c3 c4 #[v0, v1, v2, .slice (some ⟨b, off, none⟩) N cap3] S lM W w4.drew from ⟨HC4.out.k4, u0, u1, u2, u3, u4, lM, HC4.out.call ((Below.refl _ _).drew), More.refl t lM, HT4.out.trans (Tg.of_below ((Below.refl _ _).drew))⟩)
            clear HE0 HFOR
            go_upto_region 6 with fail
            have hS0 : w4.drew.cell? ⟨c4, 0, none⟩ = some (.func (.func 40) #[] #[.pointer (some ⟨c3, 0, none⟩), .pointer (some ⟨w.heap.size, 0, none⟩), .pointer (some ⟨c4, 0, none⟩)]) ∧ w4.drew.cell? ⟨rb, 0, none⟩ = some (.string (str nm)) ∧ w4.drew.cell? ⟨rb, 1, none⟩ = some (.int .i64 ar) ∧ w4.drew.cell? ⟨rb, 2, none⟩ = some (.slice af lf capf) ∧ w4.drew.cell? ⟨rb, 3, none⟩ = some (.slice ag lg capg) ∧ w4.drew.cell? ⟨rb, 4, none⟩ = some (.slice ap lp capp) ∧ Cx t w g c3 c4 #[v0, v1, v2, .slice (some ⟨b, off, none⟩) N cap3] S lM W w4.drew := HS0.out
            go_region_held3 (fun Wz => Wz.cell? ⟨c4, 0, none⟩ = some (.func (.func 40) #[] #[.pointer (some ⟨c3, 0, none⟩), .pointer (some ⟨w.heap.size, 0, none⟩), .pointer (some ⟨c4, 0, none⟩)]) ∧ Wz.cell? ⟨rb, 0, none⟩ = some (.string (str nm)) ∧ Wz.cell? ⟨rb, 1, none⟩ = some (.int .i64 ar) ∧ Wz.cell? ⟨rb, 2, none⟩ = some (.slice af lf capf) ∧ Wz.cell? ⟨rb, 3, none⟩ = some (.slice ag lg capg) ∧ Wz.cell? ⟨rb, 4, none⟩ = some (.slice ap lp capp) ∧ Cx t w g c3 c4 #[v0, v1, v2, .slice (some ⟨b, off, none⟩) N cap3] S lM W Wz) (first | exact hS0 | assumption) (first | (go_at_call 41; ((with_reducible refine (HEN.out _ ?_).mono ?_); (first | exact hS0 | assumption)); rintro _ w5 ⟨rfl, hS5⟩) | (go_at_call 40; ((with_reducible refine (HCO.out _ ?_).mono ?_); (first | exact hS0 | assumption)); rintro _ w6 ⟨rfl, hS6, hY6⟩))
            have HY6 := Lib.hid hY6
            clear hS0 hS5 hS6 hY6 HEN HCO HS0
            go_wp2_with fail
            clear hwK hltI
            obtain ⟨l2, z1, ⟨z2, z3⟩, z4⟩ := HY6.out
            refine ⟨⟨M + 1, by go_num, by omega, Lib.hid ⟨l2, z1, HMM.out.trans z2, z4, fun j x hj hx hfx => ?_⟩⟩, by simp [intOf]; omega⟩
            rcases Nat.lt_succ_iff_lt_or_eq.1 hj with h | rfl
            · exact z2.1.2 _ (HDM.out j x h hx hfx)
            · rw [HRA.out] at hx; cases hx; rw [HQ.out]; exact z3
        · have hltI : ¬ (M : Int) < (N : Int) := by omega
          have e : M = N := by omega
          obtain ⟨lM, hCM, hMM, hTM, hDM⟩ := HI.out
          have hrd := More.round hMM HRS.out HLS.out (fun r hr hf => by
            obtain ⟨j, hj⟩ := List.getElem?_of_mem hr
            exact hDM j r (by rw [e, ← HN.out]; exact (List.getElem?_eq_some_iff.1 hj).1) hj hf)
          have HY : Hid (Cy t w g c3 c4 #[v0, v1, v2, .slice a3 N cap3] S l W s wr) := Lib.hid ⟨lM, hCM, hrd, hTM⟩
          clear hCM hMM hTM hDM hrd HI
          go_wp2_with fail
          go_end0
          exact ⟨rfl, HY.out⟩
end Go.Proofs.YtfcdkjhabdpijaaDoor.R

namespace Go.Proofs.YtfcdkjhabdpijaaDoor.R
open Go Go.RowKit Go.Proofs.YtfcdkjhabdpijaaDoor.B Go.Proofs.YtfcdkjhabdpijaaDoor.K Go.Proofs.YtfcdkjhabdpijaaDoor.E
set_option linter.unusedVariables false

/-- What Reach tells. -/
def ReachOr (t : Tb) (e : Ending) (w' : World) : Prop := (mayB t = false ∧ e = .returned (.slice none 0 0)) ∨ (mayB t = true ∧ ReachIs t e w')

theorem cm_start {w w1 V : World} {cs : Array Value} {S g : Nat} (hb : Below w.heap.size w w1) (hx : w1.heap[w.heap.size]? = some (.cells cs 26)) (hV : w1.alloc (.cells (Array.replicate S (.bool false)) 4) = V) (hg : w1.heap.size = g) :
    Cm w g V.heap.size (V.heap.size + 1) cs S (List.replicate S false) ((V.alloc (.cells #[.slice (some ⟨g, 0, none⟩) S S] 42)).alloc (.cells #[.func (.func 40) #[] #[.pointer (some ⟨V.heap.size, 0, none⟩), .pointer (some ⟨w.heap.size, 0, none⟩), .pointer (some ⟨V.heap.size + 1, 0, none⟩)]] 66)) := by
  have h1 := below_alloc w1 (.cells (Array.replicate S (.bool false)) 4)
  have hr : V.heap[g]? = some (.cells (Array.replicate S (.bool false)) 4) := by rw [← hV, ← hg]; exact heap_alloc_at _ _
  rw [hV] at h1
  obtain ⟨X, hX⟩ : ∃ X, V.alloc (.cells #[.slice (some ⟨g, 0, none⟩) S S] 42) = X := ⟨_, rfl⟩
  have h2 := below_alloc V (.cells #[.slice (some ⟨g, 0, none⟩) S S] 42)
  have r2 : X.cell? ⟨V.heap.size, 0, none⟩ = some (.slice (some ⟨g, 0, none⟩) S S) := by rw [← hX]; exact box_cell _ _ _ _ _ rfl
  have s2 : X.heap.size = V.heap.size + 1 := by rw [← hX]; show (V.heap.push _).size = _; rw [Array.size_push]
  rw [hX] at h2
  rw [hX, ← s2]
  have h3 := below_alloc X (.cells #[.func (.func 40) #[] #[.pointer (some ⟨V.heap.size, 0, none⟩), .pointer (some ⟨w.heap.size, 0, none⟩), .pointer (some ⟨X.heap.size, 0, none⟩)]] 66)
  have hgV : g < V.heap.size := (Array.getElem?_eq_some_iff.1 hr).1
  have hwg : w.heap.size < g := by rw [← hg]; exact (Array.getElem?_eq_some_iff.1 hx).1
  have hb2 := (hb.trans (h1.mono hb.size))
  have hb3 := hb2.trans (h2.mono hb2.size)
  refine ⟨hb3.trans (h3.mono hb3.size), ?_, ?_, kept_cell h3 r2, box_cell _ _ _ _ _ rfl, by rw [List.length_replicate], hwg, hgV, by omega⟩
  · rw [h3.block _ (by omega), h2.block _ (by omega), h1.block _ (by omega)]; exact hx
  · rw [h3.block _ (by omega), h2.block _ (by omega), hr]; simp

set_option maxHeartbeats 4000000 in
set_option maxRecDepth 100000 in
theorem reach_any (t : Tb) (c0 c1 c2 c3 : Value) (w : World) (h : TbIs w [c0, c1, c2, c3] t) (hw : TbWf t) (hG : I.Glob w) :
    Calls Tryd.prog 16 #[.agg #[c0, c1, c2, c3]] w fun e w' => ReachOr t e w' ∧ Below w.heap.size w w' := by
  have HM0 := Lib.hid (fun (W : World) (hb : Below w.heap.size w W) => mayBe_any t c0 c1 c2 c3 W (h.below hb) hw (hG.below hb))
  have HT := Lib.hid h
  obtain ⟨d0, d1, d2, d3, e, h0, h1, h2, h3⟩ := h
  cases e
  obtain ⟨a0, cap0, rfl⟩ := sl_len h0
  rw [List.length_map] at HM0 HT ⊢
  obtain ⟨S, hS⟩ : ∃ S, t.states.length = S := ⟨_, rfl⟩
  rw [hS] at HM0 HT ⊢
  obtain ⟨W0, hW0⟩ : ∃ W0, w.alloc (.cells #[.slice a0 S cap0, c1, c2, c3] 26) = W0 := ⟨_, rfl⟩
  have hB0 : Below w.heap.size w W0 := by rw [← hW0]; exact below_alloc _ _
  have hx0 : W0.heap[w.heap.size]? = some (.cells #[.slice a0 S cap0, c1, c2, c3] 26) := by rw [← hW0]; exact heap_alloc_at _ _
  have q0 : W0.cell? ⟨w.heap.size, 0, none⟩ = some (.slice a0 S cap0) := by unfold World.cell?; rw [hx0]; rfl
  have q1 : W0.cell? ⟨w.heap.size, 1, none⟩ = some c1 := by unfold World.cell?; rw [hx0]; rfl
  have q2 : W0.cell? ⟨w.heap.size, 2, none⟩ = some c2 := by unfold World.cell?; rw [hx0]; rfl
  have q3 : W0.cell? ⟨w.heap.size, 3, none⟩ = some c3 := by unfold World.cell?; rw [hx0]; rfl
  have HX0 := Lib.hid hx0
  have H := Lib.hid (HM0.out W0 hB0)
  have HB0 := Lib.hid hB0
  cases hM : mayB t with
  | false =>
    rw [hM] at H
    have HR : Hid (∀ w', ReachOr t (.returned (.slice none 0 0)) w') := Lib.hid fun _ => Or.inl ⟨hM, rfl⟩
    clear hB0 hx0 hw hG h0 h1 h2 h3 HM0 hS HX0
    go_enter Tryd.func16, Tryd.ntmps16
    go_wp2_with fail
    refine H.out.mono ?_
    rintro _ w1 ⟨rfl, hb⟩
    have HB1 := Lib.hid (HB0.out.trans (hb.mono HB0.out.size))
    clear hb
    go_wp2_with fail
    go_ret
    exact ⟨HR.out _, HB1.out⟩
  | true =>
    rw [hM] at H
    have hF := fine_of (by simpa [mayB] using hM)
    have h1S : 0 < S := by rw [← hS]; exact hF.states.1
    have h8 : S ≤ 8 := by rw [← hS]; exact hF.states.2
    have hS0 : (0 : Int) < (S : Int) := by omega
    have HF := Lib.hid hF
    have HW := Lib.hid hw
    have HS := Lib.hid hS
    have HMB := Lib.hid hM
    clear hB0 hx0 hw hG h0 h1 h2 h3 HM0 hS hF hM
    go_enter Tryd.func16, Tryd.ntmps16
    go_wp2_with fail
    refine H.out.mono ?_
    rintro _ w1 ⟨rfl, hb⟩
    have HB1 := Lib.hid (HB0.out.trans (hb.mono HB0.out.size))
    have q0 := kept_cell hb q0
    have HX1 := Lib.hid ((hb.block _ (Array.getElem?_eq_some_iff.1 HX0.out).1).trans HX0.out)
    have hmk := make_bools S h1S h8 w1
    obtain ⟨g, hg⟩ : ∃ g, w1.heap.size = g := ⟨_, rfl⟩
    have hg0 : w.heap.size < g := by rw [← hg]; exact (Array.getElem?_eq_some_iff.1 HX1.out).1
    obtain ⟨V, hV⟩ : ∃ V, w1.alloc (.cells (Array.replicate S (.bool false)) 4) = V := ⟨_, rfl⟩
    have hVr : V.heap[w1.heap.size]? = some (.cells (Array.replicate S (.bool false)) 4) := by rw [← hV]; exact heap_alloc_at _ _
    have hBV : Below w1.heap.size w1 V := by rw [← hV]; exact below_alloc _ _
    rw [hV] at hmk
    rw [hg] at hVr hmk
    clear hb q1 q2 q3
    go_wp2_with fail
    have hC := cm_start HB1.out HX1.out hV hg
    obtain ⟨c3', hc3⟩ : ∃ c, V.heap.size = c := ⟨_, rfl⟩
    obtain ⟨W5, hW5⟩ : ∃ W5, ((V.alloc (.cells #[.slice (some ⟨g, 0, none⟩) S S] 42)).alloc (.cells #[.func (.func 40) #[] #[.pointer (some ⟨V.heap.size, 0, none⟩), .pointer (some ⟨w.heap.size, 0, none⟩), .pointer (some ⟨V.heap.size + 1, 0, none⟩)]] 66)) = W5 := ⟨_, rfl⟩
    rw [hW5] at hC ⊢
    rw [hc3] at hC ⊢
    refine (come_any t _ _ _ _ w HT.out HW.out HF.out.ranged g c3' (c3' + 1) S HS.out h8 S (List.replicate S false) 0 W5 hC (by omega) h1S .first).mono ?_
    rintro _ w6 ⟨rfl, l, hC6, ⟨hM6, h06⟩, -⟩
    have hall := hM6.all S h06
    have k3 := hC6.k3
    have HC6 := Lib.hid hC6
    have HA := Lib.hid hall
    clear hC hC6 hM6 hall h06 hW5 hV hmk hVr hBV q0
    go_wp2_with fail
    go_ret
    refine ⟨Or.inr ⟨HMB.out, _, l, rfl, ?_, by rw [HC6.out.len]; exact HS.out.symm, HA.out⟩, HC6.out.below⟩
    have hlS : (l.map Value.bool).length = S := by rw [List.length_map]; exact HC6.out.len
    rw [← hlS]
    exact Sl.row HC6.out.row (by rw [List.take_of_length_le (by simp)])
end Go.Proofs.YtfcdkjhabdpijaaDoor.R
