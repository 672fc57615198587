/-
  Layer 5, the program's side: what tells what is wrong with each state that a rule is for, each expression, each guard.
-/
import Derived.Test.YtfooiggedgcjcaaGreatDoorEPCheck
namespace Go.Proofs.YtfooiggedgcjcaaGreatDoor.R
open Go Go.RowKit Go.Proofs.YtfooiggedgcjcaaGreatDoor.B Go.Proofs.YtfooiggedgcjcaaGreatDoor.K Go.Proofs.YtfooiggedgcjcaaGreatDoor.E
set_option linter.unusedVariables false

theorem box_cell (w : World) (cs : Array Value) (T : TypeId) (j : Nat) (v : Value) (h : cs[j]? = some v) : (w.alloc (.cells cs T)).cell? ⟨w.heap.size, j, none⟩ = some v := by
  unfold World.cell?; rw [heap_alloc_at]; exact h
theorem below_alloc (w : World) (o : Obj) : Below w.heap.size w (w.alloc o) := (Below.refl w.heap.size w).alloc (Nat.le_refl _) _

/-- Two structs laid anew, of which two cells are told. -/
theorem two_box (w : World) (o1 o2 : Array Value) (T1 T2 : TypeId) : ∃ W1 W2, w.alloc (.cells o1 T1) = W1 ∧ W1.alloc (.cells o2 T2) = W2 ∧ Below w.heap.size w W1 ∧ Below w.heap.size w W2 ∧
    (∀ j v, o1[j]? = some v → W2.cell? ⟨w.heap.size, j, none⟩ = some v) ∧ ∀ j v, o2[j]? = some v → W2.cell? ⟨W1.heap.size, j, none⟩ = some v :=
  ⟨_, _, rfl, rfl, below_alloc _ _, (below_alloc w _).trans ((below_alloc _ _).mono (below_alloc w _).size), fun j v h => kept_cell (below_alloc _ _) (box_cell w o1 T1 j v h), fun j v h => box_cell _ o2 T2 j v h⟩

theorem from_any (l : List Int) (v vt c1 c2 c3 f0 f1 f3 f4 : Value) (S : Nat) (w : World) (h : SlN w v l) (hl : l.length ≤ 9223372036854775807) (hS : ∃ a cap, vt = .slice a S cap) :
    Calls Tryz.prog 47 #[.agg #[vt, c1, c2, c3], .agg #[f0, f1, v, f3, f4]] w fun z w' => (∃ fv, z = .returned fv ∧ fv.oneCell' = true ∧ WrongF w' fv l.length (fromBad S l)) ∧ Below w.heap.size w w' := by
  obtain ⟨W1, W2, hW1, hW2, hB1, hB2, q1, q2⟩ := two_box w #[vt, c1, c2, c3] #[f0, f1, v, f3, f4] 26 58
  have HF : Hid (WrongF W2 (.func (.func 87) #[] #[.pointer (some ⟨W1.heap.size, 0, none⟩), .pointer (some ⟨w.heap.size, 0, none⟩)]) l.length (fromBad S l)) :=
    Lib.hid ⟨_, _, rfl, ent_from, fun W hW k hk => from1_any l v vt S _ _ k W ((Sl.below h hB2).below hW) hl hk (kept_cell hW (q2 2 _ rfl)) hS (kept_cell hW (q1 0 _ rfl))⟩
  have HB := Lib.hid hB2
  clear h hl hS q1 q2 hB1 hB2
  go_enter Tryz.func47, Tryz.ntmps47
  go_wp2_with fail
  go_ret
  exact ⟨⟨_, rfl, rfl, HF.out⟩, HB.out⟩

/-- A function value that tells what is wrong with an expression. -/
def CodeF (w : World) (fc : Value) (V : Nat) (A : Int) : Prop :=
  ∃ gt gr a cap, fc = .func (.func 118) #[] #[.pointer (some ⟨gt, 0, none⟩), .pointer (some ⟨gr, 0, none⟩)] ∧ w.cell? ⟨gt, 1, none⟩ = some (.slice a V cap) ∧ w.cell? ⟨gr, 1, none⟩ = some (.int .i64 A)

theorem CodeF.below {w w' : World} {fc : Value} {V : Nat} {A : Int} (h : CodeF w fc V A) (hb : Below w.heap.size w w') : CodeF w' fc V A := by
  obtain ⟨gt, gr, a, cap, rfl, h1, h2⟩ := h
  exact ⟨gt, gr, a, cap, rfl, kept_cell hb h1, kept_cell hb h2⟩

theorem expr1_any (code : List In) (v : Value) (V : Nat) (A : Int) (gt gr : Nat) (a : Option Addr) (cap : Nat) (w : World) (h : SlI w v code) (hl : code.length ≤ 9223372036854775807) (h1 : w.cell? ⟨gt, 1, none⟩ = some (.slice a V cap)) (h2 : w.cell? ⟨gr, 1, none⟩ = some (.int .i64 A)) :
    Calls Tryz.prog 118 #[v, .pointer (some ⟨gt, 0, none⟩), .pointer (some ⟨gr, 0, none⟩)] w fun z w' => z = .returned (.int .i64 (check code V A).2) ∧ Below w.heap.size w w' := by
  have HC := Lib.hid (check_any code v V A w h hl)
  obtain ⟨av, capv, rfl, -⟩ := h
  obtain ⟨N, hN⟩ : ∃ N, code.length = N := ⟨_, rfl⟩
  rw [hN] at HC ⊢
  obtain ⟨⟨x1, x2⟩, hx⟩ : ∃ x, check code V A = x := ⟨_, rfl⟩
  rw [hx] at HC ⊢
  clear hN hx hl
  go_enter Tryz.func118, Tryz.ntmps118
  go_wp2_with (go_at_call 119; refine HC.out.mono ?_; rintro _ w1 ⟨rfl, hb1⟩; have HB1 := Lib.hid hb1; clear hb1)
  go_ret
  exact ⟨rfl, HB1.out⟩

theorem expressions_any (V : Nat) (A : Int) (c0 vv c2 c3 f0 f2 f3 f4 : Value) (w : World) (hV : ∃ a cap, vv = .slice a V cap) :
    Calls Tryz.prog 90 #[.agg #[c0, vv, c2, c3], .agg #[f0, .int .i64 A, f2, f3, f4]] w fun z w' => (∃ fc, z = .returned fc ∧ CodeF w' fc V A) ∧ Below w.heap.size w w' := by
  obtain ⟨a, cap, rfl⟩ := hV
  obtain ⟨W1, W2, hW1, hW2, hB1, hB2, q1, q2⟩ := two_box w #[c0, .slice a V cap, c2, c3] #[f0, .int .i64 A, f2, f3, f4] 26 58
  have HF : Hid (CodeF W2 (.func (.func 118) #[] #[.pointer (some ⟨w.heap.size, 0, none⟩), .pointer (some ⟨W1.heap.size, 0, none⟩)]) V A) :=
    Lib.hid ⟨_, _, _, _, rfl, q1 1 _ rfl, q2 1 _ rfl⟩
  have HB := Lib.hid hB2
  clear q1 q2 hB1 hB2
  go_enter Tryz.func90, Tryz.ntmps90
  go_wp2_with fail
  go_ret
  exact ⟨⟨_, rfl, HF.out⟩, HB.out⟩

set_option maxHeartbeats 1000000 in
theorem guards1_any (l : List Gd) (v fc : Value) (V : Nat) (A : Int) (g gc k : Nat) (w : World) (h : SlOf w 2 (GdIs w) v l) (hw : ∀ x ∈ l, GdWf x) (hk : k < l.length) (hg : w.cell? ⟨g, 3, none⟩ = some v) (hfc : w.cell? ⟨gc, 0, none⟩ = some fc) (hF : CodeF w fc V A) :
    Calls Tryz.prog 91 #[.int .i64 (k : Int), .pointer (some ⟨g, 0, none⟩), .pointer (some ⟨gc, 0, none⟩)] w fun z w' => z = .returned (.int .i64 (guardBad V A l k)) ∧ Below w.heap.size w w' := by
  obtain ⟨x, hx⟩ : ∃ x, l[k]? = some x := ⟨_, List.getElem?_eq_getElem hk⟩
  obtain ⟨a, cap, rfl, h⟩ := h.open
  obtain ⟨b, off, ea, cs, -, ⟨tv, rfl, hcode⟩, hc⟩ := h.at hx
  subst ea
  have hxw := hw x (List.mem_of_getElem? hx)
  have hres : guardBad V A l k = if x.code < 16 ∨ 63 < x.code then 3 else (check x.test V A).2 := by unfold guardBad; rw [hx]
  rw [hres]
  obtain ⟨N, hN⟩ : ∃ N, l.length = N := ⟨_, rfl⟩
  rw [hN] at hk hg
  have hkI : (k : Int) < (N : Int) := by omega
  have k0 : w.cell? ⟨b, off + k * 2, none⟩ = some (.int .i64 x.code) := hc 0 _ rfl
  have k1 : w.cell? ⟨b, off + k * 2 + 1, none⟩ = some tv := hc 1 _ rfl
  obtain ⟨at_, capt, rfl, htt⟩ := hcode
  have hcode : SlI w (.slice at_ x.test.length capt) x.test := ⟨at_, capt, rfl, htt⟩
  obtain ⟨W1, hW1⟩ : ∃ W1, w.alloc (.cells #[.int .i64 x.code, .slice at_ x.test.length capt] 76) = W1 := ⟨_, rfl⟩
  have hB1 : Below w.heap.size w W1 := by rw [← hW1]; exact below_alloc _ _
  have d0 : W1.cell? ⟨w.heap.size, 0, none⟩ = some (.int .i64 x.code) := by rw [← hW1]; exact box_cell _ _ _ _ _ rfl
  have d1 : W1.cell? ⟨w.heap.size, 1, none⟩ = some (.slice at_ x.test.length capt) := by rw [← hW1]; exact box_cell _ _ _ _ _ rfl
  have d2 := kept_cell hB1 hfc
  obtain ⟨gt, gr, a2, cap2, rfl, e1, e2⟩ := hF.below hB1
  have HC := Lib.hid (expr1_any x.test _ V A gt gr a2 cap2 W1 (hcode.below hB1) hxw.2.2 e1 e2)
  have HB := Lib.hid hB1
  obtain ⟨M, hM⟩ : ∃ M, x.test.length = M := ⟨_, rfl⟩
  obtain ⟨cd, hcd⟩ : ∃ cd, x.code = cd := ⟨_, rfl⟩
  obtain ⟨E, hE⟩ : ∃ E, (check x.test V A).2 = E := ⟨_, rfl⟩
  rw [hM, hE] at HC
  rw [hM] at hW1 d1 k1
  rw [hcd] at hW1 d0 k0 ⊢
  rw [hE]
  clear hx h hw hres hN hcode htt hB1 hfc hF hxw hc hM hcd e1 e2 hE
  by_cases h1 : cd < 16
  · rw [if_pos (Or.inl h1)]
    go_enter Tryz.func91, Tryz.ntmps91
    go_wp2_with fail
    go_ret
    exact ⟨rfl, HB.out⟩
  · by_cases h2 : 63 < cd
    · rw [if_pos (Or.inr h2)]
      go_enter Tryz.func91, Tryz.ntmps91
      go_wp2_with fail
      go_ret
      exact ⟨rfl, HB.out⟩
    · rw [if_neg (by omega)]
      go_enter Tryz.func91, Tryz.ntmps91
      go_wp2_with (go_at_call 118; refine HC.out.mono ?_; rintro _ w1 ⟨rfl, hb1⟩; have HB1 := Lib.hid (HB.out.trans (hb1.mono HB.out.size)); clear hb1)
      go_ret
      exact ⟨rfl, HB1.out⟩

theorem ent_guards : Ent 91 := fun args w => enters_of Tryz.func91 (by kernel_rfl) rfl args w

set_option maxHeartbeats 1000000 in
theorem guards_any (l : List Gd) (v c0 vv c2 c3 f0 f2 f4 : Value) (V : Nat) (A : Int) (w : World) (h : SlOf w 2 (GdIs w) v l) (hw : ∀ x ∈ l, GdWf x) (hV : ∃ a cap, vv = .slice a V cap) :
    Calls Tryz.prog 48 #[.agg #[c0, vv, c2, c3], .agg #[f0, .int .i64 A, f2, v, f4]] w fun z w' => (∃ fv, z = .returned fv ∧ fv.oneCell' = true ∧ WrongF w' fv l.length (guardBad V A l)) ∧ Below w.heap.size w w' := by
  obtain ⟨W1, W2, hW1, hW2, hB1, hB2, q1, q2⟩ := two_box w #[c0, vv, c2, c3] #[f0, .int .i64 A, f2, v, f4] 26 58
  have HX := Lib.hid (expressions_any V A c0 vv c2 c3 f0 f2 v f4 W2 hV)
  have H3 := Lib.hid (q2 3 _ rfl)
  have p0 := q1 0 _ rfl
  have p1 := q1 1 _ rfl
  have p2 := q1 2 _ rfl
  have p3 := q1 3 _ rfl
  have r0 := q2 0 _ rfl
  have r1 := q2 1 _ rfl
  have r2 := q2 2 _ rfl
  have r3 := q2 3 _ rfl
  have r4 := q2 4 _ rfl
  have HB := Lib.hid hB2
  have HS := Lib.hid h
  have HW := Lib.hid hw
  clear q1 q2 hB1 hB2 h hw hV
  go_enter Tryz.func48, Tryz.ntmps48
  go_wp2_with (go_at_call 90; refine HX.out.mono ?_; rintro _ w1 ⟨⟨fc, rfl, hfc⟩, hb1⟩; obtain ⟨gt, gr, a2, cap2, rfl, e1, e2⟩ := hfc; have HB1 := Lib.hid (HB.out.trans (hb1.mono HB.out.size)); have H31 := Lib.hid (kept_cell hb1 H3.out); have HE := Lib.hid (And.intro e1 e2); clear hb1 e1 e2)
  go_ret
  have hw3 := below_alloc w1 (.cells #[.func (.func 118) #[] #[.pointer (some ⟨gt, 0, none⟩), .pointer (some ⟨gr, 0, none⟩)]] 138)
  refine ⟨⟨_, rfl, rfl, _, _, rfl, ent_guards, fun W hW k hk => ?_⟩, HB1.out.trans (hw3.mono HB1.out.size)⟩
  have hWW := hw3.trans (hW.mono hw3.size)
  have hb := HB1.out.trans (hWW.mono HB1.out.size)
  refine guards1_any l v (.func (.func 118) #[] #[.pointer (some ⟨gt, 0, none⟩), .pointer (some ⟨gr, 0, none⟩)]) V A _ _ k W (HS.out.below hb (fun _ _ q => q.below hb)) HW.out hk (kept_cell hWW H31.out) (kept_cell hW (box_cell _ _ _ _ _ rfl)) ⟨gt, gr, a2, cap2, rfl, kept_cell hWW HE.out.1, kept_cell hWW HE.out.2⟩
end Go.Proofs.YtfooiggedgcjcaaGreatDoor.R
