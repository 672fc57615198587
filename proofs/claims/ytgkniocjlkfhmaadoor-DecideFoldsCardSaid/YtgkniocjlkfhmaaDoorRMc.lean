/-
  Layer 5, the program's side: what tells what is wrong with each of some names.
  Layer 5, the program's side: what tells what is wrong with each state that a rule is for, each expression, each guard.
  Layer 5, the program's side: what tells what is wrong with each set of a step, each step.
  Layer 5, the program's side: what tells what is wrong with each step.
  Layer 5, the program's side: the parts of a table.
-/
import Derived.Test.YtgkniocjlkfhmaaDoorSVg
import Derived.Deep.RegionHeld3
import Derived.Deep.DeepCutAuto
namespace Go.Proofs.YtgkniocjlkfhmaaDoor.R
open Go Go.RowKit Go.Proofs.YtgkniocjlkfhmaaDoor.B Go.Proofs.YtgkniocjlkfhmaaDoor.K Go.Proofs.YtgkniocjlkfhmaaDoor.E
set_option linter.unusedVariables false

theorem calls_keep {P : Program} {f : Nat} {args : Array Value} {W : World} {r : Ending} {S : World → Prop} (hc : Calls P f args W (fun z w' => z = r ∧ W = w')) (hS : S W) : Calls P f args W (fun z w' => z = r ∧ S w') :=
  hc.mono (by rintro _ w' ⟨rfl, rfl⟩; exact ⟨rfl, hS⟩)

theorem sl_len {w : World} {v : Value} {xs : List Value} (h : Sl w v xs) : ∃ a cap, v = .slice a xs.length cap := by
  obtain ⟨a, cap, rfl, -⟩ := h; exact ⟨a, cap, rfl⟩

set_option maxHeartbeats 1000000 in
theorem names1_any (l : List Bs) (v : Value) (g k : Nat) (w : World) (h : SlB w v l) (hl : l.length ≤ 9223372036854775807) (hx : ∀ x ∈ l, x.length ≤ 9223372036854775807) (hG : I.Glob w) (hk : k < l.length) (hg : w.cell? ⟨g, 0, none⟩ = some v) :
    Calls Tryd.prog 60 #[.int .i64 (k : Int), .pointer (some ⟨g, 0, none⟩)] w fun z w' => z = .returned (.int .i64 (nameBad l k)) ∧ Below w.heap.size w w' := by
  obtain ⟨s, hs⟩ : ∃ s, l[k]? = some s := ⟨_, List.getElem?_eq_getElem hk⟩
  have hm : (l.map sv)[k]? = some (sv s) := by rw [List.getElem?_map, hs]; rfl
  have HS0 := Lib.hid h
  obtain ⟨a, cap, rfl⟩ := sl_len h
  rw [List.length_map] at HS0 hg
  obtain ⟨b, off, ea, hc⟩ := HS0.out.at hm
  subst ea
  obtain ⟨N, hN⟩ : ∃ N, l.length = N := ⟨_, rfl⟩
  rw [hN] at hk hg HS0
  have hkI : (k : Int) < (N : Int) := by omega
  have hres : nameBad l k = nameE s (decide (idxP (fun y => y == s) l < (k : Int))) := by
    unfold nameBad; rw [hs]; simp only
    rw [idxP_lt _ l k s hs (by simp)]
  rw [hres]
  have hsl := hx s (List.mem_of_getElem? hs)
  have HIX := Lib.hid (fun (W : World) (hS : W.cell? ⟨g, 0, none⟩ = some (.slice (some ⟨b, off, none⟩) N cap) ∧ W.cell? ⟨b, off + k, none⟩ = some (.string (str s)) ∧ Below w.heap.size w W) => calls_keep (S := (fun W => W.cell? ⟨g, 0, none⟩ = some (.slice (some ⟨b, off, none⟩) N cap) ∧ W.cell? ⟨b, off + k, none⟩ = some (.string (str s)) ∧ Below w.heap.size w W)) (indexStr_any l (.slice (some ⟨b, off, none⟩) N cap) s W (Sl.below HS0.out hS.2.2) (by omega)) hS)
  obtain ⟨i, hi⟩ : ∃ i, idxP (fun y => y == s) l = i := ⟨_, rfl⟩
  rw [hi] at HIX ⊢
  have HON := Lib.hid (fun (W : World) (hS : W.cell? ⟨g, 0, none⟩ = some (.slice (some ⟨b, off, none⟩) N cap) ∧ W.cell? ⟨b, off + k, none⟩ = some (.string (str s)) ∧ Below w.heap.size w W) => calls_keep (S := (fun W => W.cell? ⟨g, 0, none⟩ = some (.slice (some ⟨b, off, none⟩) N cap) ∧ W.cell? ⟨b, off + k, none⟩ = some (.string (str s)) ∧ Below w.heap.size w W)) (ofName_any s (decide (i < (k : Int))) W (hG.below hS.2.2) hsl) hS)
  have hS0 : w.cell? ⟨g, 0, none⟩ = some (.slice (some ⟨b, off, none⟩) N cap) ∧ w.cell? ⟨b, off + k, none⟩ = some (.string (str s)) ∧ Below w.heap.size w w := ⟨hg, hc, Below.refl _ _⟩
  unfold sv at HIX HON
  clear hm hs hres hi h hl hx hG HS0 hsl hN hg hc
  go_enter Tryd.func60, Tryd.ntmps60
  go_upto_region 1 with fail
  have hS0 : w.drew.cell? ⟨g, 0, none⟩ = some (.slice (some ⟨b, off, none⟩) N cap) ∧ w.drew.cell? ⟨b, off + k, none⟩ = some (.string (str s)) ∧ Below w.heap.size w w.drew := ⟨hS0.1, hS0.2.1, hS0.2.2.drew⟩
  go_region_held3 (fun W => W.cell? ⟨g, 0, none⟩ = some (.slice (some ⟨b, off, none⟩) N cap) ∧ W.cell? ⟨b, off + k, none⟩ = some (.string (str s)) ∧ Below w.heap.size w W) (first | exact hS0 | assumption) (first | (go_at_call 61; ((with_reducible refine (HIX.out _ ?_).mono ?_); (first | exact hS0 | assumption)); rintro _ w1 ⟨rfl, hS1⟩) | (go_at_call 48; ((with_reducible refine (HON.out _ ?_).mono ?_); (first | exact hS0 | assumption)); rintro _ w2 ⟨rfl, hS2⟩))
  all_goals
    go_wp2_with fail
    go_ret
    exact ⟨rfl, by first | exact hS2.2.2 | exact hS1.2.2⟩

theorem ent_names : Ent 60 := fun args w => enters_of Tryd.func60 (by kernel_rfl) rfl args w

theorem names_any (l : List Bs) (v : Value) (w : World) (h : SlB w v l) (hl : l.length ≤ 9223372036854775807) (hx : ∀ x ∈ l, x.length ≤ 9223372036854775807) (hG : I.Glob w) :
    Calls Tryd.prog 47 #[v] w fun z w' => (∃ fv, z = .returned fv ∧ fv.oneCell' = true ∧ WrongF w' fv l.length (nameBad l)) ∧ Below w.heap.size w w' := by
  have H0 := Lib.hid h
  obtain ⟨a, cap, rfl⟩ := sl_len h
  rw [List.length_map] at H0 ⊢
  obtain ⟨W1, hW1⟩ : ∃ W1, w.alloc (.cells #[.slice a l.length cap] 34) = W1 := ⟨_, rfl⟩
  have hB1 : Below w.heap.size w W1 := by rw [← hW1]; exact (Below.refl w.heap.size w).alloc (Nat.le_refl _) _
  have q0 : W1.cell? ⟨w.heap.size, 0, none⟩ = some (.slice a l.length cap) := by rw [← hW1]; unfold World.cell?; rw [heap_alloc_at]; rfl
  have HF : Hid (WrongF W1 (.func (.func 60) #[] #[.pointer (some ⟨w.heap.size, 0, none⟩)]) l.length (nameBad l)) :=
    Lib.hid ⟨_, _, rfl, ent_names, fun W hW k hk => names1_any l _ _ k W ((Sl.below H0.out hB1).below hW) hl hx ((hG.below hB1).below hW) hk (kept_cell hW q0)⟩
  have HB := Lib.hid hB1
  clear hl hx hG h q0 hB1 H0
  obtain ⟨N, hN⟩ : ∃ N, l.length = N := ⟨_, rfl⟩
  rw [hN] at HF hW1 ⊢
  clear hN
  go_enter Tryd.func47, Tryd.ntmps47
  go_wp2_with fail
  go_ret
  exact ⟨⟨_, rfl, rfl, HF.out⟩, HB.out⟩

theorem start1_any (l : List Int) (v : Value) (g k : Nat) (w : World) (h : SlN w v l) (hk : k < l.length) (hg : w.cell? ⟨g, 2, none⟩ = some v) :
    Calls Tryd.prog 45 #[.int .i64 (k : Int), .pointer (some ⟨g, 0, none⟩)] w fun z w' => z = .returned (.int .i64 (startBad l k)) ∧ Below w.heap.size w w' := by
  obtain ⟨x, hx⟩ : ∃ x, l[k]? = some x := ⟨_, List.getElem?_eq_getElem hk⟩
  have hm : (l.map fun n => Value.int .i64 n)[k]? = some (.int .i64 x) := by rw [List.getElem?_map, hx]; rfl
  have HS0 := Lib.hid h
  obtain ⟨a, cap, rfl⟩ := sl_len h
  rw [List.length_map] at HS0 hg
  obtain ⟨b, off, ea, hc⟩ := HS0.out.at hm
  subst ea
  obtain ⟨N, hN⟩ : ∃ N, l.length = N := ⟨_, rfl⟩
  rw [hN] at hk hg HS0
  have hkI : (k : Int) < (N : Int) := by omega
  have hres : startBad l k = unlessE (isVal x) 3 := by unfold startBad; rw [hx]
  rw [hres]
  have HU := Lib.hid (fun W => unless_any (isVal x) 3 W)
  have hv := isVal_iff x
  clear hm hx hres h HS0 hN
  by_cases h1 : -1099511627776 ≤ x
  · by_cases h2 : x ≤ 1099511627776
    · rw [hv.2 ⟨h1, h2⟩] at HU ⊢
      clear hv
      go_enter Tryd.func45, Tryd.ntmps45
      go_wp2_with (go_at_call 44; refine (HU.out _).mono ?_; rintro _ w1 ⟨rfl, rfl⟩)
      go_ret
      exact ⟨rfl, Below.refl _ _⟩
    · rw [show isVal x = false from by cases e : isVal x with | false => rfl | true => exact absurd (hv.1 e).2 h2] at HU ⊢
      clear hv
      go_enter Tryd.func45, Tryd.ntmps45
      go_wp2_with (go_at_call 44; refine (HU.out _).mono ?_; rintro _ w1 ⟨rfl, rfl⟩)
      go_ret
      exact ⟨rfl, Below.refl _ _⟩
  · rw [show isVal x = false from by cases e : isVal x with | false => rfl | true => exact absurd (hv.1 e).1 h1] at HU ⊢
    clear hv
    go_enter Tryd.func45, Tryd.ntmps45
    go_wp2_with (go_at_call 44; refine (HU.out _).mono ?_; rintro _ w1 ⟨rfl, rfl⟩)
    go_ret
    exact ⟨rfl, Below.refl _ _⟩

theorem ent_start : Ent 45 := fun args w => enters_of Tryd.func45 (by kernel_rfl) rfl args w

set_option maxHeartbeats 1000000 in
theorem from1_any (l : List Int) (v vt : Value) (S : Nat) (g gt k : Nat) (w : World) (h : SlN w v l) (hl : l.length ≤ 9223372036854775807) (hk : k < l.length) (hg : w.cell? ⟨g, 2, none⟩ = some v) (hS : ∃ a cap, vt = .slice a S cap) (ht : w.cell? ⟨gt, 0, none⟩ = some vt) :
    Calls Tryd.prog 65 #[.int .i64 (k : Int), .pointer (some ⟨g, 0, none⟩), .pointer (some ⟨gt, 0, none⟩)] w fun z w' => z = .returned (.int .i64 (fromBad S l k)) ∧ Below w.heap.size w w' := by
  obtain ⟨s, hs⟩ : ∃ s, l[k]? = some s := ⟨_, List.getElem?_eq_getElem hk⟩
  have hm : (l.map fun n => Value.int .i64 n)[k]? = some (.int .i64 s) := by rw [List.getElem?_map, hs]; rfl
  obtain ⟨ast, caps, rfl⟩ := hS
  have HS0 := Lib.hid h
  obtain ⟨a, cap, rfl⟩ := sl_len h
  rw [List.length_map] at HS0 hg
  obtain ⟨b, off, ea, hc⟩ := HS0.out.at hm
  subst ea
  obtain ⟨N, hN⟩ : ∃ N, l.length = N := ⟨_, rfl⟩
  rw [hN] at hk hg HS0
  have hkI : (k : Int) < (N : Int) := by omega
  have hres : fromBad S l k = placeE s S (decide (idxP (fun y => y == s) l < (k : Int))) := by
    unfold fromBad; rw [hs]; simp only
    rw [idxP_lt _ l k s hs (by simp)]
  rw [hres]
  have HIX := Lib.hid (fun (W : World) (hS : W.cell? ⟨g, 2, none⟩ = some (.slice (some ⟨b, off, none⟩) N cap) ∧ W.cell? ⟨b, off + k, none⟩ = some (.int .i64 s) ∧ W.cell? ⟨gt, 0, none⟩ = some (.slice ast S caps) ∧ Below w.heap.size w W) => calls_keep (S := fun W => W.cell? ⟨g, 2, none⟩ = some (.slice (some ⟨b, off, none⟩) N cap) ∧ W.cell? ⟨b, off + k, none⟩ = some (.int .i64 s) ∧ W.cell? ⟨gt, 0, none⟩ = some (.slice ast S caps) ∧ Below w.heap.size w W) (indexInt_any l (.slice (some ⟨b, off, none⟩) N cap) s W (Sl.below HS0.out hS.2.2.2) (by omega)) hS)
  obtain ⟨i, hi⟩ : ∃ i, idxP (fun y => y == s) l = i := ⟨_, rfl⟩
  rw [hi] at HIX ⊢
  have HON := Lib.hid (fun (W : World) (hS : W.cell? ⟨g, 2, none⟩ = some (.slice (some ⟨b, off, none⟩) N cap) ∧ W.cell? ⟨b, off + k, none⟩ = some (.int .i64 s) ∧ W.cell? ⟨gt, 0, none⟩ = some (.slice ast S caps) ∧ Below w.heap.size w W) => calls_keep (S := fun W => W.cell? ⟨g, 2, none⟩ = some (.slice (some ⟨b, off, none⟩) N cap) ∧ W.cell? ⟨b, off + k, none⟩ = some (.int .i64 s) ∧ W.cell? ⟨gt, 0, none⟩ = some (.slice ast S caps) ∧ Below w.heap.size w W) (ofPlace_any s S (decide (i < (k : Int))) W) hS)
  have hS0 : w.cell? ⟨g, 2, none⟩ = some (.slice (some ⟨b, off, none⟩) N cap) ∧ w.cell? ⟨b, off + k, none⟩ = some (.int .i64 s) ∧ w.cell? ⟨gt, 0, none⟩ = some (.slice ast S caps) ∧ Below w.heap.size w w := ⟨hg, hc, ht, Below.refl _ _⟩
  clear hm hs hres hi h hl HS0 hN hg hc ht
  go_enter Tryd.func65, Tryd.ntmps65
  go_upto_region 1 with fail
  have hS0 : w.drew.cell? ⟨g, 2, none⟩ = some (.slice (some ⟨b, off, none⟩) N cap) ∧ w.drew.cell? ⟨b, off + k, none⟩ = some (.int .i64 s) ∧ w.drew.cell? ⟨gt, 0, none⟩ = some (.slice ast S caps) ∧ Below w.heap.size w w.drew := ⟨hS0.1, hS0.2.1, hS0.2.2.1, hS0.2.2.2.drew⟩
  go_region_held3 (fun W => W.cell? ⟨g, 2, none⟩ = some (.slice (some ⟨b, off, none⟩) N cap) ∧ W.cell? ⟨b, off + k, none⟩ = some (.int .i64 s) ∧ W.cell? ⟨gt, 0, none⟩ = some (.slice ast S caps) ∧ Below w.heap.size w W) (first | exact hS0 | assumption) (first | (go_at_call 53; ((with_reducible refine (HIX.out _ ?_).mono ?_); (first | exact hS0 | assumption)); rintro _ w1 ⟨rfl, hS1⟩) | (go_at_call 66; ((with_reducible refine (HON.out _ ?_).mono ?_); (first | exact hS0 | assumption)); rintro _ w2 ⟨rfl, hS2⟩))
  all_goals
    go_wp2_with fail
    go_ret
    exact ⟨rfl, by first | exact hS2.2.2.2 | exact hS1.2.2.2⟩

theorem ent_from : Ent 65 := fun args w => enters_of Tryd.func65 (by kernel_rfl) rfl args w
end Go.Proofs.YtgkniocjlkfhmaaDoor.R

namespace Go.Proofs.YtgkniocjlkfhmaaDoor.R
open Go Go.RowKit Go.Proofs.YtgkniocjlkfhmaaDoor.B Go.Proofs.YtgkniocjlkfhmaaDoor.K Go.Proofs.YtgkniocjlkfhmaaDoor.E
set_option linter.unusedVariables false

theorem box_cell (w : World) (cs : Array Value) (T : TypeId) (j : Nat) (v : Value) (h : cs[j]? = some v) : (w.alloc (.cells cs T)).cell? ⟨w.heap.size, j, none⟩ = some v := by
  unfold World.cell?; rw [heap_alloc_at]; exact h
theorem below_alloc (w : World) (o : Obj) : Below w.heap.size w (w.alloc o) := (Below.refl w.heap.size w).alloc (Nat.le_refl _) _

/-- Two structs laid anew, of which two cells are told. -/
theorem two_box (w : World) (o1 o2 : Array Value) (T1 T2 : TypeId) : ∃ W1 W2, w.alloc (.cells o1 T1) = W1 ∧ W1.alloc (.cells o2 T2) = W2 ∧ Below w.heap.size w W1 ∧ Below w.heap.size w W2 ∧
    (∀ j v, o1[j]? = some v → W2.cell? ⟨w.heap.size, j, none⟩ = some v) ∧ ∀ j v, o2[j]? = some v → W2.cell? ⟨W1.heap.size, j, none⟩ = some v :=
  ⟨_, _, rfl, rfl, below_alloc _ _, (below_alloc w _).trans ((below_alloc _ _).mono (below_alloc w _).size), fun j v h => kept_cell (below_alloc _ _) (box_cell w o1 T1 j v h), fun j v h => box_cell _ o2 T2 j v h⟩

theorem from_any (l : List Int) (v vt c1 c2 c3 f0 f1 f3 f4 : Value) (S : Nat) (w : World) (h : SlN w v l) (hl : l.length ≤ 9223372036854775807) (hS : ∃ a cap, vt = .slice a S cap) :
    Calls Tryd.prog 50 #[.agg #[vt, c1, c2, c3], .agg #[f0, f1, v, f3, f4]] w fun z w' => (∃ fv, z = .returned fv ∧ fv.oneCell' = true ∧ WrongF w' fv l.length (fromBad S l)) ∧ Below w.heap.size w w' := by
  obtain ⟨W1, W2, hW1, hW2, hB1, hB2, q1, q2⟩ := two_box w #[vt, c1, c2, c3] #[f0, f1, v, f3, f4] 37 60
  have HF : Hid (WrongF W2 (.func (.func 65) #[] #[.pointer (some ⟨W1.heap.size, 0, none⟩), .pointer (some ⟨w.heap.size, 0, none⟩)]) l.length (fromBad S l)) :=
    Lib.hid ⟨_, _, rfl, ent_from, fun W hW k hk => from1_any l v vt S _ _ k W ((Sl.below h hB2).below hW) hl hk (kept_cell hW (q2 2 _ rfl)) hS (kept_cell hW (q1 0 _ rfl))⟩
  have HB := Lib.hid hB2
  clear h hl hS q1 q2 hB1 hB2
  go_enter Tryd.func50, Tryd.ntmps50
  go_wp2_with fail
  go_ret
  exact ⟨⟨_, rfl, rfl, HF.out⟩, HB.out⟩

/-- A function value that tells what is wrong with an expression. -/
def CodeF (w : World) (fc : Value) (V : Nat) (A : Int) : Prop :=
  ∃ gt gr a cap, fc = .func (.func 84) #[] #[.pointer (some ⟨gt, 0, none⟩), .pointer (some ⟨gr, 0, none⟩)] ∧ w.cell? ⟨gt, 1, none⟩ = some (.slice a V cap) ∧ w.cell? ⟨gr, 1, none⟩ = some (.int .i64 A)

theorem CodeF.below {w w' : World} {fc : Value} {V : Nat} {A : Int} (h : CodeF w fc V A) (hb : Below w.heap.size w w') : CodeF w' fc V A := by
  obtain ⟨gt, gr, a, cap, rfl, h1, h2⟩ := h
  exact ⟨gt, gr, a, cap, rfl, kept_cell hb h1, kept_cell hb h2⟩

theorem expr1_any (code : List In) (v : Value) (V : Nat) (A : Int) (gt gr : Nat) (a : Option Addr) (cap : Nat) (w : World) (h : SlI w v code) (hl : code.length ≤ 9223372036854775807) (h1 : w.cell? ⟨gt, 1, none⟩ = some (.slice a V cap)) (h2 : w.cell? ⟨gr, 1, none⟩ = some (.int .i64 A)) :
    Calls Tryd.prog 84 #[v, .pointer (some ⟨gt, 0, none⟩), .pointer (some ⟨gr, 0, none⟩)] w fun z w' => z = .returned (.int .i64 (check code V A).2) ∧ Below w.heap.size w w' := by
  have HC := Lib.hid (check_any code v V A w h hl)
  obtain ⟨av, capv, rfl, -⟩ := h
  obtain ⟨N, hN⟩ : ∃ N, code.length = N := ⟨_, rfl⟩
  rw [hN] at HC ⊢
  obtain ⟨⟨x1, x2⟩, hx⟩ : ∃ x, check code V A = x := ⟨_, rfl⟩
  rw [hx] at HC ⊢
  clear hN hx hl
  go_enter Tryd.func84, Tryd.ntmps84
  go_wp2_with (go_at_call 39; refine HC.out.mono ?_; rintro _ w1 ⟨rfl, hb1⟩; have HB1 := Lib.hid hb1; clear hb1)
  go_ret
  exact ⟨rfl, HB1.out⟩

theorem expressions_any (V : Nat) (A : Int) (c0 vv c2 c3 f0 f2 f3 f4 : Value) (w : World) (hV : ∃ a cap, vv = .slice a V cap) :
    Calls Tryd.prog 67 #[.agg #[c0, vv, c2, c3], .agg #[f0, .int .i64 A, f2, f3, f4]] w fun z w' => (∃ fc, z = .returned fc ∧ CodeF w' fc V A) ∧ Below w.heap.size w w' := by
  obtain ⟨a, cap, rfl⟩ := hV
  obtain ⟨W1, W2, hW1, hW2, hB1, hB2, q1, q2⟩ := two_box w #[c0, .slice a V cap, c2, c3] #[f0, .int .i64 A, f2, f3, f4] 37 60
  have HF : Hid (CodeF W2 (.func (.func 84) #[] #[.pointer (some ⟨w.heap.size, 0, none⟩), .pointer (some ⟨W1.heap.size, 0, none⟩)]) V A) :=
    Lib.hid ⟨_, _, _, _, rfl, q1 1 _ rfl, q2 1 _ rfl⟩
  have HB := Lib.hid hB2
  clear q1 q2 hB1 hB2
  go_enter Tryd.func67, Tryd.ntmps67
  go_wp2_with fail
  go_ret
  exact ⟨⟨_, rfl, HF.out⟩, HB.out⟩

set_option maxHeartbeats 1000000 in
theorem guards1_any (l : List Gd) (v fc : Value) (V : Nat) (A : Int) (g gc k : Nat) (w : World) (h : SlOf w 2 (GdIs w) v l) (hw : ∀ x ∈ l, GdWf x) (hk : k < l.length) (hg : w.cell? ⟨g, 3, none⟩ = some v) (hfc : w.cell? ⟨gc, 0, none⟩ = some fc) (hF : CodeF w fc V A) :
    Calls Tryd.prog 68 #[.int .i64 (k : Int), .pointer (some ⟨g, 0, none⟩), .pointer (some ⟨gc, 0, none⟩)] w fun z w' => z = .returned (.int .i64 (guardBad V A l k)) ∧ Below w.heap.size w w' := by
  obtain ⟨x, hx⟩ : ∃ x, l[k]? = some x := ⟨_, List.getElem?_eq_getElem hk⟩
  obtain ⟨a, cap, rfl, h⟩ := h.open
  obtain ⟨b, off, ea, cs, -, ⟨tv, rfl, hcode⟩, hc⟩ := h.at hx
  subst ea
  have hxw := hw x (List.mem_of_getElem? hx)
  have hres : guardBad V A l k = if x.code < 16 ∨ 63 < x.code then 3 else (check x.test V A).2 := by unfold guardBad; rw [hx]
  rw [hres]
  obtain ⟨N, hN⟩ : ∃ N, l.length = N := ⟨_, rfl⟩
  rw [hN] at hk hg
  have hkI : (k : Int) < (N : Int) := by omega
  have k0 : w.cell? ⟨b, off + k * 2, none⟩ = some (.int .i64 x.code) := hc 0 _ rfl
  have k1 : w.cell? ⟨b, off + k * 2 + 1, none⟩ = some tv := hc 1 _ rfl
  obtain ⟨at_, capt, rfl, htt⟩ := hcode
  have hcode : SlI w (.slice at_ x.test.length capt) x.test := ⟨at_, capt, rfl, htt⟩
  obtain ⟨W1, hW1⟩ : ∃ W1, w.alloc (.cells #[.int .i64 x.code, .slice at_ x.test.length capt] 51) = W1 := ⟨_, rfl⟩
  have hB1 : Below w.heap.size w W1 := by rw [← hW1]; exact below_alloc _ _
  have d0 : W1.cell? ⟨w.heap.size, 0, none⟩ = some (.int .i64 x.code) := by rw [← hW1]; exact box_cell _ _ _ _ _ rfl
  have d1 : W1.cell? ⟨w.heap.size, 1, none⟩ = some (.slice at_ x.test.length capt) := by rw [← hW1]; exact box_cell _ _ _ _ _ rfl
  have d2 := kept_cell hB1 hfc
  obtain ⟨gt, gr, a2, cap2, rfl, e1, e2⟩ := hF.below hB1
  have HC := Lib.hid (expr1_any x.test _ V A gt gr a2 cap2 W1 (hcode.below hB1) hxw.2.2 e1 e2)
  have HB := Lib.hid hB1
  obtain ⟨M, hM⟩ : ∃ M, x.test.length = M := ⟨_, rfl⟩
  obtain ⟨cd, hcd⟩ : ∃ cd, x.code = cd := ⟨_, rfl⟩
  obtain ⟨E, hE⟩ : ∃ E, (check x.test V A).2 = E := ⟨_, rfl⟩
  rw [hM, hE] at HC
  rw [hM] at hW1 d1 k1
  rw [hcd] at hW1 d0 k0 ⊢
  rw [hE]
  clear hx h hw hres hN hcode htt hB1 hfc hF hxw hc hM hcd e1 e2 hE
  by_cases h1 : cd < 16
  · rw [if_pos (Or.inl h1)]
    go_enter Tryd.func68, Tryd.ntmps68
    go_wp2_with fail
    go_ret
    exact ⟨rfl, HB.out⟩
  · by_cases h2 : 63 < cd
    · rw [if_pos (Or.inr h2)]
      go_enter Tryd.func68, Tryd.ntmps68
      go_wp2_with fail
      go_ret
      exact ⟨rfl, HB.out⟩
    · rw [if_neg (by omega)]
      go_enter Tryd.func68, Tryd.ntmps68
      go_wp2_with (go_at_call 84; refine HC.out.mono ?_; rintro _ w1 ⟨rfl, hb1⟩; have HB1 := Lib.hid (HB.out.trans (hb1.mono HB.out.size)); clear hb1)
      go_ret
      exact ⟨rfl, HB1.out⟩

theorem ent_guards : Ent 68 := fun args w => enters_of Tryd.func68 (by kernel_rfl) rfl args w

set_option maxHeartbeats 1000000 in
theorem guards_any (l : List Gd) (v c0 vv c2 c3 f0 f2 f4 : Value) (V : Nat) (A : Int) (w : World) (h : SlOf w 2 (GdIs w) v l) (hw : ∀ x ∈ l, GdWf x) (hV : ∃ a cap, vv = .slice a V cap) :
    Calls Tryd.prog 51 #[.agg #[c0, vv, c2, c3], .agg #[f0, .int .i64 A, f2, v, f4]] w fun z w' => (∃ fv, z = .returned fv ∧ fv.oneCell' = true ∧ WrongF w' fv l.length (guardBad V A l)) ∧ Below w.heap.size w w' := by
  obtain ⟨W1, W2, hW1, hW2, hB1, hB2, q1, q2⟩ := two_box w #[c0, vv, c2, c3] #[f0, .int .i64 A, f2, v, f4] 37 60
  have HX := Lib.hid (expressions_any V A c0 vv c2 c3 f0 f2 v f4 W2 hV)
  have H3 := Lib.hid (q2 3 _ rfl)
  have p0 := q1 0 _ rfl
  have p1 := q1 1 _ rfl
  have p2 := q1 2 _ rfl
  have p3 := q1 3 _ rfl
  have r0 := q2 0 _ rfl
  have r1 := q2 1 _ rfl
  have r2 := q2 2 _ rfl
  have r3 := q2 3 _ rfl
  have r4 := q2 4 _ rfl
  have HB := Lib.hid hB2
  have HS := Lib.hid h
  have HW := Lib.hid hw
  clear q1 q2 hB1 hB2 h hw hV
  go_enter Tryd.func51, Tryd.ntmps51
  go_wp2_with (go_at_call 67; refine HX.out.mono ?_; rintro _ w1 ⟨⟨fc, rfl, hfc⟩, hb1⟩; obtain ⟨gt, gr, a2, cap2, rfl, e1, e2⟩ := hfc; have HB1 := Lib.hid (HB.out.trans (hb1.mono HB.out.size)); have H31 := Lib.hid (kept_cell hb1 H3.out); have HE := Lib.hid (And.intro e1 e2); clear hb1 e1 e2)
  go_ret
  have hw3 := below_alloc w1 (.cells #[.func (.func 84) #[] #[.pointer (some ⟨gt, 0, none⟩), .pointer (some ⟨gr, 0, none⟩)]] 119)
  refine ⟨⟨_, rfl, rfl, _, _, rfl, ent_guards, fun W hW k hk => ?_⟩, HB1.out.trans (hw3.mono HB1.out.size)⟩
  have hWW := hw3.trans (hW.mono hw3.size)
  have hb := HB1.out.trans (hWW.mono HB1.out.size)
  refine guards1_any l v (.func (.func 84) #[] #[.pointer (some ⟨gt, 0, none⟩), .pointer (some ⟨gr, 0, none⟩)]) V A _ _ k W (HS.out.below hb (fun _ _ q => q.below hb)) HW.out hk (kept_cell hWW H31.out) (kept_cell hW (box_cell _ _ _ _ _ rfl)) ⟨gt, gr, a2, cap2, rfl, kept_cell hWW HE.out.1, kept_cell hWW HE.out.2⟩
end Go.Proofs.YtgkniocjlkfhmaaDoor.R

namespace Go.Proofs.YtgkniocjlkfhmaaDoor.R
open Go Go.RowKit Go.Proofs.YtgkniocjlkfhmaaDoor.B Go.Proofs.YtgkniocjlkfhmaaDoor.K Go.Proofs.YtgkniocjlkfhmaaDoor.E
set_option linter.unusedVariables false

theorem calls_keep2 {P : Program} {f : Nat} {args : Array Value} {W : World} {r : Ending} {S : World → Prop} (hc : Calls P f args W (fun z w' => z = r ∧ Below W.heap.size W w')) (hS : ∀ W', Below W.heap.size W W' → S W') : Calls P f args W (fun z w' => z = r ∧ S w') :=
  hc.mono (by rintro _ w' ⟨rfl, hb⟩; exact ⟨rfl, hS _ hb⟩)

set_option maxHeartbeats 1000000 in
theorem indexSet_any (l : List Se) (y : Se) (b K N cap off g1 g2 : Nat) (w : World) (h : SlOf w 2 (SeIs w) (.slice (some ⟨b, off, none⟩) N cap) l) (hN : l.length = N) (hl : l.length ≤ 9223372036854775807) (h1 : w.cell? ⟨g1, 0, none⟩ = some (.slice (some ⟨b, off, none⟩) N cap)) (h2 : w.cell? ⟨g2, 0, none⟩ = some (.int .i64 (K : Int))) (hK : K < N)
    (h3 : w.cell? ⟨b, off + K * 2, none⟩ = some (.int .i64 y.var)) :
    Calls Tryd.prog 87 #[.slice (some ⟨b, off, none⟩) N cap, .func (.func 86) #[] #[.pointer (some ⟨g1, 0, none⟩), .pointer (some ⟨g2, 0, none⟩)]] w fun z w' => z = .returned (.int .i64 (idxP (fun s => s.var == y.var) l)) ∧ Below w.heap.size w w' := by
  have HS := Lib.hid h
  have HG := Lib.hid (And.intro h1 (And.intro h2 h3))
  have HKK := Lib.hid hK
  rw [hN] at hl
  have HL := Lib.hid hl
  have HN := Lib.hid hN
  clear hN hl h h1 h2 h3 hK
  go_enter Tryd.func87, Tryd.ntmps87
  go_wp2_with fail
  go_loopw [8] (fun k wr => ∃ (J : Nat), k = .int .i64 (J : Int) ∧ J ≤ N ∧ Hid (Below w.heap.size w wr) ∧ Hid (∀ (j : Nat) s, j < J → l[j]? = some s → (s.var == y.var) = false)) (fun k _ => N - (intOf k).toNat)
  case atStart => exact ⟨0, rfl, Nat.zero_le _, Lib.hid (Below.refl _ _), Lib.hid (fun j s h => absurd h (Nat.not_lt_zero _))⟩
  case round =>
    obtain ⟨J, rfl, hJ, HBW, HI⟩ := hrel
    by_cases hlt : J < N
    · have hltI : (J : Int) < (N : Int) := by omega
      obtain ⟨s, hs⟩ : ∃ s, l[J]? = some s := ⟨_, List.getElem?_eq_getElem (by rw [HN.out]; exact hlt)⟩
      have HY := Lib.hid hs
      obtain ⟨b', off', ea, cs, -, ⟨tv, rfl, -⟩, hc⟩ := HS.out.at hs
      cases ea
      have k0 : wr.cell? ⟨b, off + J * 2, none⟩ = some (.int .i64 s.var) := kept_cell HBW.out (hc 0 _ rfl)
      have k1 := kept_cell HBW.out (hc 1 _ rfl)
      have HC := Lib.hid (set1_any s y b K N cap off tv g1 g2 wr (kept_cell HBW.out HG.out.1) (kept_cell HBW.out HG.out.2.1) HKK.out (kept_cell HBW.out HG.out.2.2))
      have hwK := wrap_next J (Nat.lt_of_lt_of_le hlt HL.out)
      clear hc hs
      cases hq : (s.var == y.var) with
      | true =>
        rw [hq] at HC
        have HQ := Lib.hid hq
        clear hq
        go_wp2_with (go_at_call 86; refine HC.out.mono ?_; rintro _ w1 ⟨rfl, hb1⟩; have HB1 := Lib.hid (HBW.out.trans (hb1.mono HBW.out.size)); clear hb1)
        go_ret
        exact ⟨ret_int (idxP_at _ l J s HY.out HQ.out HI.out).symm, HB1.out⟩
      | false =>
        rw [hq] at HC
        have HQ := Lib.hid hq
        clear hq
        go_wp2_with (go_at_call 86; refine HC.out.mono ?_; rintro _ w1 ⟨rfl, hb1⟩; have HB1 := Lib.hid (HBW.out.trans (hb1.mono HBW.out.size)); clear hb1)
        clear hwK hltI
        exact ⟨⟨J + 1, by go_num, by omega, HB1, Lib.hid (none_next HI.out HY.out HQ.out)⟩, by simp [intOf]; omega⟩
    · have hltI : ¬ (J : Int) < (N : Int) := by omega
      have e : J = N := by omega
      go_wp2_with fail
      go_ret
      exact ⟨ret_int (idxP_none _ l (fun j s hs => HI.out j s (by have := (List.getElem?_eq_some_iff.1 hs).1; rw [HN.out] at this; omega) hs)).symm, HBW.out⟩

set_option maxHeartbeats 1000000 in
theorem sets1_any (l : List Se) (v fc : Value) (V : Nat) (A : Int) (gt gc k : Nat) (w : World) (h : SlOf w 2 (SeIs w) v l) (hw : ∀ x ∈ l, SeWf x) (hl : l.length ≤ 9223372036854775807) (hk : k < l.length) (hV : ∃ a cap, w.cell? ⟨gt, 1, none⟩ = some (.slice a V cap)) (hfc : w.cell? ⟨gc, 0, none⟩ = some fc) (hF : CodeF w fc V A) :
    Calls Tryd.prog 85 #[v, .int .i64 (k : Int), .pointer (some ⟨gt, 0, none⟩), .pointer (some ⟨gc, 0, none⟩)] w fun z w' => z = .returned (.int .i64 (setBad V A l k)) ∧ Below w.heap.size w w' := by
  obtain ⟨x, hx⟩ : ∃ x, l[k]? = some x := ⟨_, List.getElem?_eq_getElem hk⟩
  obtain ⟨a, cap, rfl, h⟩ := h.open
  obtain ⟨b, off, ea, cs, -, ⟨tv, rfl, hcode⟩, hc⟩ := h.at hx
  subst ea
  obtain ⟨a2, cap2, hV⟩ := hV
  have hxw := hw x (List.mem_of_getElem? hx)
  have hres : setBad V A l k = if placeE x.var V (decide (idxP (fun s => s.var == x.var) l < (k : Int))) ≠ 0 then placeE x.var V (decide (idxP (fun s => s.var == x.var) l < (k : Int))) else (check x.value V A).2 := by
    unfold setBad; rw [hx]; simp only
    rw [idxP_lt _ l k x hx (by simp)]
  rw [hres]
  obtain ⟨N, hN⟩ : ∃ N, l.length = N := ⟨_, rfl⟩
  rw [hN] at hk h ⊢
  have hkI : (k : Int) < (N : Int) := by omega
  have k0 : w.cell? ⟨b, off + k * 2, none⟩ = some (.int .i64 x.var) := hc 0 _ rfl
  have k1 : w.cell? ⟨b, off + k * 2 + 1, none⟩ = some tv := hc 1 _ rfl
  obtain ⟨at_, capt, rfl, htt⟩ := hcode
  have hcode : SlI w (.slice at_ x.value.length capt) x.value := ⟨at_, capt, rfl, htt⟩
  obtain ⟨ht, hr, a3, cap3, rfl, e1, e2⟩ := hF
  obtain ⟨W1, W2, hW1, hW2, hB1, hB2, q1, q2⟩ := two_box w #[.slice (some ⟨b, off, none⟩) N cap] #[.int .i64 (k : Int)] 55 3
  have HX := Lib.hid (fun (W : World) (hb : Below w.heap.size w W) => expr1_any x.value (.slice at_ x.value.length capt) V A ht hr a3 cap3 W (hcode.below hb) hxw.2.2 (kept_cell hb e1) (kept_cell hb e2))
  obtain ⟨sv_, hsv⟩ : ∃ s, x.var = s := ⟨_, rfl⟩
  obtain ⟨M, hM⟩ : ∃ M, x.value.length = M := ⟨_, rfl⟩
  obtain ⟨E, hE⟩ : ∃ E, (check x.value V A).2 = E := ⟨_, rfl⟩
  rw [hM, hE] at HX
  rw [hM] at k1
  have hS2 : W2.cell? ⟨w.heap.size, 0, none⟩ = some (.slice (some ⟨b, off, none⟩) N cap) ∧ W2.cell? ⟨W1.heap.size, 0, none⟩ = some (.int .i64 (k : Int)) ∧ W2.cell? ⟨b, off + k * 2, none⟩ = some (.int .i64 sv_) ∧ W2.cell? ⟨b, off + k * 2 + 1, none⟩ = some (.slice at_ M capt) ∧ W2.cell? ⟨gt, 1, none⟩ = some (.slice a2 V cap2) ∧ W2.cell? ⟨gc, 0, none⟩ = some (.func (.func 84) #[] #[.pointer (some ⟨ht, 0, none⟩), .pointer (some ⟨hr, 0, none⟩)]) ∧ Below w.heap.size w W2 := ⟨q1 0 _ rfl, q2 0 _ rfl, by rw [← hsv]; exact kept_cell hB2 k0, kept_cell hB2 k1, kept_cell hB2 hV, kept_cell hB2 hfc, hB2⟩
  have HIX := Lib.hid (fun (W : World) (hS : W.cell? ⟨w.heap.size, 0, none⟩ = some (.slice (some ⟨b, off, none⟩) N cap) ∧ W.cell? ⟨W1.heap.size, 0, none⟩ = some (.int .i64 (k : Int)) ∧ W.cell? ⟨b, off + k * 2, none⟩ = some (.int .i64 sv_) ∧ W.cell? ⟨b, off + k * 2 + 1, none⟩ = some (.slice at_ M capt) ∧ W.cell? ⟨gt, 1, none⟩ = some (.slice a2 V cap2) ∧ W.cell? ⟨gc, 0, none⟩ = some (.func (.func 84) #[] #[.pointer (some ⟨ht, 0, none⟩), .pointer (some ⟨hr, 0, none⟩)]) ∧ Below w.heap.size w W) => calls_keep2 (S := fun W => W.cell? ⟨w.heap.size, 0, none⟩ = some (.slice (some ⟨b, off, none⟩) N cap) ∧ W.cell? ⟨W1.heap.size, 0, none⟩ = some (.int .i64 (k : Int)) ∧ W.cell? ⟨b, off + k * 2, none⟩ = some (.int .i64 sv_) ∧ W.cell? ⟨b, off + k * 2 + 1, none⟩ = some (.slice at_ M capt) ∧ W.cell? ⟨gt, 1, none⟩ = some (.slice a2 V cap2) ∧ W.cell? ⟨gc, 0, none⟩ = some (.func (.func 84) #[] #[.pointer (some ⟨ht, 0, none⟩), .pointer (some ⟨hr, 0, none⟩)]) ∧ Below w.heap.size w W) (indexSet_any l x b k N cap off w.heap.size W1.heap.size W (h.below hS.2.2.2.2.2.2 (fun _ _ q => q.below hS.2.2.2.2.2.2)) hN hl hS.1 hS.2.1 hk (by rw [hsv]; exact hS.2.2.1)) (fun W' hb => ⟨kept_cell hb hS.1, kept_cell hb hS.2.1, kept_cell hb hS.2.2.1, kept_cell hb hS.2.2.2.1, kept_cell hb hS.2.2.2.2.1, kept_cell hb hS.2.2.2.2.2.1, hS.2.2.2.2.2.2.trans (hb.mono hS.2.2.2.2.2.2.size)⟩))
  obtain ⟨i, hi⟩ : ∃ i, idxP (fun s => s.var == x.var) l = i := ⟨_, rfl⟩
  rw [hi] at HIX ⊢
  have HON := Lib.hid (fun (W : World) (hS : W.cell? ⟨w.heap.size, 0, none⟩ = some (.slice (some ⟨b, off, none⟩) N cap) ∧ W.cell? ⟨W1.heap.size, 0, none⟩ = some (.int .i64 (k : Int)) ∧ W.cell? ⟨b, off + k * 2, none⟩ = some (.int .i64 sv_) ∧ W.cell? ⟨b, off + k * 2 + 1, none⟩ = some (.slice at_ M capt) ∧ W.cell? ⟨gt, 1, none⟩ = some (.slice a2 V cap2) ∧ W.cell? ⟨gc, 0, none⟩ = some (.func (.func 84) #[] #[.pointer (some ⟨ht, 0, none⟩), .pointer (some ⟨hr, 0, none⟩)]) ∧ Below w.heap.size w W) => calls_keep (S := fun W => W.cell? ⟨w.heap.size, 0, none⟩ = some (.slice (some ⟨b, off, none⟩) N cap) ∧ W.cell? ⟨W1.heap.size, 0, none⟩ = some (.int .i64 (k : Int)) ∧ W.cell? ⟨b, off + k * 2, none⟩ = some (.int .i64 sv_) ∧ W.cell? ⟨b, off + k * 2 + 1, none⟩ = some (.slice at_ M capt) ∧ W.cell? ⟨gt, 1, none⟩ = some (.slice a2 V cap2) ∧ W.cell? ⟨gc, 0, none⟩ = some (.func (.func 84) #[] #[.pointer (some ⟨ht, 0, none⟩), .pointer (some ⟨hr, 0, none⟩)]) ∧ Below w.heap.size w W) (ofPlace_any sv_ V (decide (i < (k : Int))) W) hS)
  rw [hsv, hE]
  obtain ⟨E2, hE2⟩ : ∃ E2, placeE sv_ V (decide (i < (k : Int))) = E2 := ⟨_, rfl⟩
  rw [hE2] at HON ⊢
  obtain ⟨R, hR⟩ : ∃ R, (if E2 ≠ 0 then E2 else E) = R := ⟨_, rfl⟩
  rw [hR]
  have HR := Lib.hid hR
  clear hR
  clear hx h hw hl hV hres hN k0 k1 htt hcode e1 e2 hB1 hB2 q1 q2 hsv hM hE hi hE2 hfc hxw hc
  go_enter Tryd.func85, Tryd.ntmps85
  go_upto_region 2 with fail
  have hS0 : W2.drew.cell? ⟨w.heap.size, 0, none⟩ = some (.slice (some ⟨b, off, none⟩) N cap) ∧ W2.drew.cell? ⟨W1.heap.size, 0, none⟩ = some (.int .i64 (k : Int)) ∧ W2.drew.cell? ⟨b, off + k * 2, none⟩ = some (.int .i64 sv_) ∧ W2.drew.cell? ⟨b, off + k * 2 + 1, none⟩ = some (.slice at_ M capt) ∧ W2.drew.cell? ⟨gt, 1, none⟩ = some (.slice a2 V cap2) ∧ W2.drew.cell? ⟨gc, 0, none⟩ = some (.func (.func 84) #[] #[.pointer (some ⟨ht, 0, none⟩), .pointer (some ⟨hr, 0, none⟩)]) ∧ Below w.heap.size w W2.drew := ⟨hS2.1, hS2.2.1, hS2.2.2.1, hS2.2.2.2.1, hS2.2.2.2.2.1, hS2.2.2.2.2.2.1, hS2.2.2.2.2.2.2.drew⟩
  clear hS2
  go_region_held3 (fun W => W.cell? ⟨w.heap.size, 0, none⟩ = some (.slice (some ⟨b, off, none⟩) N cap) ∧ W.cell? ⟨W1.heap.size, 0, none⟩ = some (.int .i64 (k : Int)) ∧ W.cell? ⟨b, off + k * 2, none⟩ = some (.int .i64 sv_) ∧ W.cell? ⟨b, off + k * 2 + 1, none⟩ = some (.slice at_ M capt) ∧ W.cell? ⟨gt, 1, none⟩ = some (.slice a2 V cap2) ∧ W.cell? ⟨gc, 0, none⟩ = some (.func (.func 84) #[] #[.pointer (some ⟨ht, 0, none⟩), .pointer (some ⟨hr, 0, none⟩)]) ∧ Below w.heap.size w W) (first | exact hS0 | assumption) (first | (go_at_call 87; ((with_reducible refine (HIX.out _ ?_).mono ?_); (first | exact hS0 | assumption)); rintro _ w1 ⟨rfl, hS1⟩) | (go_at_call 66; ((with_reducible refine (HON.out _ ?_).mono ?_); (first | exact hS0 | assumption)); rintro _ w3 ⟨rfl, hS3⟩))
  clear hS0 HIX HON
  by_cases h0 : E2 = 0
  · have hb0 : (E2 == 0) = true := beq_iff_eq.2 h0
    have HR2 : Hid (E = R) := Lib.hid (by rw [← HR.out, if_neg (by simp [h0])])
    clear h0 HR
    go_upto_region 5 with fail
    have hS0 : w3.drew.cell? ⟨w.heap.size, 0, none⟩ = some (.slice (some ⟨b, off, none⟩) N cap) ∧ w3.drew.cell? ⟨W1.heap.size, 0, none⟩ = some (.int .i64 (k : Int)) ∧ w3.drew.cell? ⟨b, off + k * 2, none⟩ = some (.int .i64 sv_) ∧ w3.drew.cell? ⟨b, off + k * 2 + 1, none⟩ = some (.slice at_ M capt) ∧ w3.drew.cell? ⟨gt, 1, none⟩ = some (.slice a2 V cap2) ∧ w3.drew.cell? ⟨gc, 0, none⟩ = some (.func (.func 84) #[] #[.pointer (some ⟨ht, 0, none⟩), .pointer (some ⟨hr, 0, none⟩)]) ∧ Below w.heap.size w w3.drew := ⟨hS3.1, hS3.2.1, hS3.2.2.1, hS3.2.2.2.1, hS3.2.2.2.2.1, hS3.2.2.2.2.2.1, hS3.2.2.2.2.2.2.drew⟩
    have HX2 := Lib.hid (fun (W : World) (hS : W.cell? ⟨w.heap.size, 0, none⟩ = some (.slice (some ⟨b, off, none⟩) N cap) ∧ W.cell? ⟨W1.heap.size, 0, none⟩ = some (.int .i64 (k : Int)) ∧ W.cell? ⟨b, off + k * 2, none⟩ = some (.int .i64 sv_) ∧ W.cell? ⟨b, off + k * 2 + 1, none⟩ = some (.slice at_ M capt) ∧ W.cell? ⟨gt, 1, none⟩ = some (.slice a2 V cap2) ∧ W.cell? ⟨gc, 0, none⟩ = some (.func (.func 84) #[] #[.pointer (some ⟨ht, 0, none⟩), .pointer (some ⟨hr, 0, none⟩)]) ∧ Below w.heap.size w W) => calls_keep2 (S := fun W => W.cell? ⟨w.heap.size, 0, none⟩ = some (.slice (some ⟨b, off, none⟩) N cap) ∧ W.cell? ⟨W1.heap.size, 0, none⟩ = some (.int .i64 (k : Int)) ∧ W.cell? ⟨b, off + k * 2, none⟩ = some (.int .i64 sv_) ∧ W.cell? ⟨b, off + k * 2 + 1, none⟩ = some (.slice at_ M capt) ∧ W.cell? ⟨gt, 1, none⟩ = some (.slice a2 V cap2) ∧ W.cell? ⟨gc, 0, none⟩ = some (.func (.func 84) #[] #[.pointer (some ⟨ht, 0, none⟩), .pointer (some ⟨hr, 0, none⟩)]) ∧ Below w.heap.size w W) (HX.out W hS.2.2.2.2.2.2) (fun W' hb => ⟨kept_cell hb hS.1, kept_cell hb hS.2.1, kept_cell hb hS.2.2.1, kept_cell hb hS.2.2.2.1, kept_cell hb hS.2.2.2.2.1, kept_cell hb hS.2.2.2.2.2.1, hS.2.2.2.2.2.2.trans (hb.mono hS.2.2.2.2.2.2.size)⟩))
    clear hS3 HX
    go_region_held3 (fun W => W.cell? ⟨w.heap.size, 0, none⟩ = some (.slice (some ⟨b, off, none⟩) N cap) ∧ W.cell? ⟨W1.heap.size, 0, none⟩ = some (.int .i64 (k : Int)) ∧ W.cell? ⟨b, off + k * 2, none⟩ = some (.int .i64 sv_) ∧ W.cell? ⟨b, off + k * 2 + 1, none⟩ = some (.slice at_ M capt) ∧ W.cell? ⟨gt, 1, none⟩ = some (.slice a2 V cap2) ∧ W.cell? ⟨gc, 0, none⟩ = some (.func (.func 84) #[] #[.pointer (some ⟨ht, 0, none⟩), .pointer (some ⟨hr, 0, none⟩)]) ∧ Below w.heap.size w W) (first | exact hS0 | assumption) (first | (go_at_call 84; ((with_reducible refine (HX2.out _ ?_).mono ?_); (first | exact hS0 | assumption)); rintro _ w4 ⟨rfl, hS4⟩))
    all_goals
      go_wp2_with fail
      go_ret
      exact ⟨ret_int HR2.out, hS4.2.2.2.2.2.2⟩
  · have hb0 : (E2 == 0) = false := beq_eq_false_iff_ne.2 h0
    have HR2 : Hid (E2 = R) := Lib.hid (by rw [← HR.out, if_pos h0])
    clear h0 HR
    go_wp2_with fail
    go_ret
    exact ⟨ret_int HR2.out, hS3.2.2.2.2.2.2⟩

theorem ent_sets : Ent 85 := fun args w => enters_of Tryd.func85 (by kernel_rfl) rfl args w

/-- A function value that tells what is wrong with a set of a step. -/
def SetF (w : World) (fs : Value) (V : Nat) (A : Int) : Prop :=
  ∃ gt gc a cap fc, fs = .func (.func 85) #[] #[.pointer (some ⟨gt, 0, none⟩), .pointer (some ⟨gc, 0, none⟩)] ∧ w.cell? ⟨gt, 1, none⟩ = some (.slice a V cap) ∧ w.cell? ⟨gc, 0, none⟩ = some fc ∧ CodeF w fc V A

theorem SetF.below {w w' : World} {fc : Value} {V : Nat} {A : Int} (h : SetF w fc V A) (hb : Below w.heap.size w w') : SetF w' fc V A := by
  obtain ⟨gt, gc, a, cap, fc, rfl, h1, h2, h3⟩ := h
  exact ⟨gt, gc, a, cap, fc, rfl, kept_cell hb h1, kept_cell hb h2, h3.below hb⟩

set_option maxHeartbeats 1000000 in
theorem sets_any (V : Nat) (A : Int) (c0 vv c2 c3 f0 f2 f3 f4 : Value) (w : World) (hV : ∃ a cap, vv = .slice a V cap) :
    Calls Tryd.prog 69 #[.agg #[c0, vv, c2, c3], .agg #[f0, .int .i64 A, f2, f3, f4]] w fun z w' => (∃ fc, z = .returned fc ∧ SetF w' fc V A) ∧ Below w.heap.size w w' := by
  obtain ⟨W1, W2, hW1, hW2, hB1, hB2, q1, q2⟩ := two_box w #[c0, vv, c2, c3] #[f0, .int .i64 A, f2, f3, f4] 37 60
  have HX := Lib.hid (expressions_any V A c0 vv c2 c3 f0 f2 f3 f4 W2 hV)
  obtain ⟨a, cap, rfl⟩ := hV
  have p0 := q1 0 _ rfl
  have p1 := q1 1 _ rfl
  have p2 := q1 2 _ rfl
  have p3 := q1 3 _ rfl
  have r0 := q2 0 _ rfl
  have r1 := q2 1 _ rfl
  have r2 := q2 2 _ rfl
  have r3 := q2 3 _ rfl
  have r4 := q2 4 _ rfl
  have H1 := Lib.hid p1
  have HB := Lib.hid hB2
  clear q1 q2 hB1 hB2
  go_enter Tryd.func69, Tryd.ntmps69
  go_wp2_with (go_at_call 67; refine HX.out.mono ?_; rintro _ w1 ⟨⟨fc, rfl, hfc⟩, hb1⟩; obtain ⟨gt, gr, a2, cap2, rfl, e1, e2⟩ := hfc; have HB1 := Lib.hid (HB.out.trans (hb1.mono HB.out.size)); have H31 := Lib.hid (kept_cell hb1 H1.out); have HE := Lib.hid (And.intro e1 e2); clear hb1 e1 e2)
  go_ret
  have hw3 := below_alloc w1 (.cells #[.func (.func 84) #[] #[.pointer (some ⟨gt, 0, none⟩), .pointer (some ⟨gr, 0, none⟩)]] 119)
  exact ⟨⟨_, rfl, _, _, _, _, _, rfl, kept_cell hw3 H31.out, box_cell _ _ _ _ _ rfl, gt, gr, a2, cap2, rfl, kept_cell hw3 HE.out.1, kept_cell hw3 HE.out.2⟩, HB1.out.trans (hw3.mono HB1.out.size)⟩
end Go.Proofs.YtgkniocjlkfhmaaDoor.R

namespace Go.Proofs.YtgkniocjlkfhmaaDoor.R
open Go Go.RowKit Go.Proofs.YtgkniocjlkfhmaaDoor.B Go.Proofs.YtgkniocjlkfhmaaDoor.K Go.Proofs.YtgkniocjlkfhmaaDoor.E
set_option linter.unusedVariables false

set_option maxHeartbeats 1000000 in
theorem steps1_any (l : List Sp) (v : Value) (S V : Nat) (A : Int) (gr gt gs k : Nat) (w : World) (h : SlOf w 2 (SpIs w) v l) (hw : ∀ x ∈ l, SpWf x) (hk : k < l.length) (hg : w.cell? ⟨gr, 4, none⟩ = some v) (ht : ∃ a cap, w.cell? ⟨gt, 0, none⟩ = some (.slice a S cap)) (hs : ∃ fs, w.cell? ⟨gs, 0, none⟩ = some fs ∧ SetF w fs V A) :
    Calls Tryd.prog 70 #[.int .i64 (k : Int), .pointer (some ⟨gr, 0, none⟩), .pointer (some ⟨gt, 0, none⟩), .pointer (some ⟨gs, 0, none⟩)] w fun z w' => z = .returned (.int .i64 (stepBad S V A l k)) ∧ Below w.heap.size w w' := by
  obtain ⟨x, hx⟩ : ∃ x, l[k]? = some x := ⟨_, List.getElem?_eq_getElem hk⟩
  obtain ⟨a, cap, rfl, h⟩ := h.open
  obtain ⟨b, off, ea, cs, -, ⟨tv, rfl, hsets⟩, hc⟩ := h.at hx
  subst ea
  obtain ⟨fs, hfs, gt2, gc, a2, cap2, fc, rfl, e1, e2, e3⟩ := hs
  obtain ⟨at_, capt, ht⟩ := ht
  have hxw := hw x (List.mem_of_getElem? hx)
  have hres : stepBad S V A l k = spBad S V A x := by unfold stepBad; rw [hx]
  rw [hres]
  unfold spBad
  obtain ⟨N, hN⟩ : ∃ N, l.length = N := ⟨_, rfl⟩
  rw [hN] at hk hg
  have hkI : (k : Int) < (N : Int) := by omega
  have k0 : w.cell? ⟨b, off + k * 2, none⟩ = some tv := hc 0 _ rfl
  have k1 : w.cell? ⟨b, off + k * 2 + 1, none⟩ = some (.int .i64 x.to) := hc 1 _ rfl
  obtain ⟨as_, caps, rfl, hsets⟩ := hsets.open
  obtain ⟨M, hM⟩ : ∃ M, x.sets.length = M := ⟨_, rfl⟩
  have hM9 : M ≤ 9223372036854775807 := hM ▸ hxw.2.1
  rw [hM] at k0 hsets ⊢
  obtain ⟨W1, hW1⟩ : ∃ W1, w.alloc (.cells #[.slice as_ M caps, .int .i64 x.to] 57) = W1 := ⟨_, rfl⟩
  have hB1 : Below w.heap.size w W1 := by rw [← hW1]; exact below_alloc _ _
  have d0 : W1.cell? ⟨w.heap.size, 0, none⟩ = some (.slice as_ M caps) := by rw [← hW1]; exact box_cell _ _ _ _ _ rfl
  have d1 : W1.cell? ⟨w.heap.size, 1, none⟩ = some (.int .i64 x.to) := by rw [← hW1]; exact box_cell _ _ _ _ _ rfl
  have d2 := kept_cell hB1 hfs
  have d3 := kept_cell hB1 ht
  have HD := Lib.hid (And.intro d0 d2)
  have HX := Lib.hid (fun (W : World) (J : Nat) (hJ : J < M) (hb : Below W1.heap.size W1 W) => sets1_any x.sets (.slice as_ M caps) fc V A gt2 gc J W (hsets.below (hB1.trans (hb.mono hB1.size)) (fun _ _ q => q.below (hB1.trans (hb.mono hB1.size)))) hxw.1 hxw.2.1 (by rw [hM]; exact hJ) ⟨a2, cap2, kept_cell hb (kept_cell hB1 e1)⟩ (kept_cell hb (kept_cell hB1 e2)) ((e3.below hB1).below hb))
  have HB := Lib.hid hB1
  obtain ⟨tt, hto⟩ : ∃ tt, x.to = tt := ⟨_, rfl⟩
  obtain ⟨f, hf⟩ : ∃ f, setBad V A x.sets = f := ⟨_, rfl⟩
  rw [hto] at hW1 d1 k1 ⊢
  rw [hf] at HX ⊢
  have HM := Lib.hid hM9
  clear hx h hw hres hN hsets hB1 hfs ht hxw hc hM hto e1 e2 e3 hf hM9
  by_cases h1 : (S : Int) ≤ tt
  · rw [if_pos h1]
    go_enter Tryd.func70, Tryd.ntmps70
    go_wp2_with fail
    go_ret
    exact ⟨rfl, HB.out⟩
  · rw [if_neg h1]
    go_enter Tryd.func70, Tryd.ntmps70
    go_wp2_with fail
    clear d1 d2 d3 k0 k1 d0
    go_loopw [23] (fun k2 wr => ∃ (J : Nat), k2 = .int .i64 (J : Int) ∧ J ≤ M ∧ Hid (Below W1.heap.size W1 wr) ∧ Hid (firstBad f J (M - J) = firstBad f 0 M)) (fun k2 _ => M - (intOf k2).toNat)
    case atStart => exact ⟨0, rfl, Nat.zero_le _, Lib.hid (Below.refl _ _), Lib.hid rfl⟩
    case round =>
      obtain ⟨J, rfl, hJ, HB2, HJ⟩ := hrel
      by_cases hlt2 : J < M
      · have hltI2 : (J : Int) < (M : Int) := by omega
        have d0 := kept_cell HB2.out HD.out.1
        have d2 := kept_cell HB2.out HD.out.2
        have HC := Lib.hid (HX.out wr J hlt2 HB2.out)
        have hfb : firstBad f J (M - J) = if f J ≠ 0 then some (J, f J) else firstBad f (J + 1) (M - (J + 1)) := by
          rw [show M - J = (M - (J + 1)) + 1 by omega]; exact firstBad_at _ _ _
        rw [hfb] at HJ
        have hwJ := wrap_next J (Nat.lt_of_lt_of_le hlt2 HM.out)
        obtain ⟨e, he⟩ : ∃ e, f J = e := ⟨_, rfl⟩
        rw [he] at HJ HC
        clear hfb he
        by_cases he0 : e = 0
        · have hb : (e == 0) = true := beq_iff_eq.2 he0
          rw [if_neg (by simp [he0])] at HJ
          clear he0
          go_wp2_with (go_at_call 85; refine HC.out.mono ?_; rintro _ w1 ⟨rfl, hb1⟩; have HB3 := Lib.hid (HB2.out.trans (hb1.mono HB2.out.size)); clear hb1)
          clear hwJ hltI2
          exact ⟨⟨J + 1, by go_num, by omega, HB3, HJ⟩, by simp [intOf]; omega⟩
        · have hb : (e == 0) = false := beq_eq_false_iff_ne.2 he0
          rw [if_pos he0] at HJ
          clear he0
          go_wp2_with (go_at_call 85; refine HC.out.mono ?_; rintro _ w1 ⟨rfl, hb1⟩; have HB3 := Lib.hid (HB2.out.trans (hb1.mono HB2.out.size)); clear hb1)
          go_ret
          exact ⟨ret_int (by rw [← HJ.out]; rfl), HB.out.trans (HB3.out.mono HB.out.size)⟩
      · have hltI2 : ¬ (J : Int) < (M : Int) := by omega
        have e : J = M := by omega
        go_wp2_with fail
        go_ret
        exact ⟨ret_int (by rw [← HJ.out, e, Nat.sub_self]; rfl), HB.out.trans (HB2.out.mono HB.out.size)⟩

theorem ent_steps : Ent 70 := fun args w => enters_of Tryd.func70 (by kernel_rfl) rfl args w

set_option maxHeartbeats 1000000 in
theorem steps_any (l : List Sp) (v vs vv c2 c3 f0 f2 f3 : Value) (S V : Nat) (A : Int) (w : World) (h : SlOf w 2 (SpIs w) v l) (hw : ∀ x ∈ l, SpWf x) (hS : ∃ a cap, vs = .slice a S cap) (hV : ∃ a cap, vv = .slice a V cap) :
    Calls Tryd.prog 52 #[.agg #[vs, vv, c2, c3], .agg #[f0, .int .i64 A, f2, f3, v]] w fun z w' => (∃ fv, z = .returned fv ∧ fv.oneCell' = true ∧ WrongF w' fv l.length (stepBad S V A l)) ∧ Below w.heap.size w w' := by
  obtain ⟨W1, W2, hW1, hW2, hB1, hB2, q1, q2⟩ := two_box w #[vs, vv, c2, c3] #[f0, .int .i64 A, f2, f3, v] 37 60
  have HX := Lib.hid (sets_any V A vs vv c2 c3 f0 f2 f3 v W2 hV)
  have H3 := Lib.hid (And.intro (q2 4 _ rfl) (q1 0 _ rfl))
  have HSS := Lib.hid hS
  have p0 := q1 0 _ rfl
  have p1 := q1 1 _ rfl
  have p2 := q1 2 _ rfl
  have p3 := q1 3 _ rfl
  have r0 := q2 0 _ rfl
  have r1 := q2 1 _ rfl
  have r2 := q2 2 _ rfl
  have r3 := q2 3 _ rfl
  have r4 := q2 4 _ rfl
  have HB := Lib.hid hB2
  have HS := Lib.hid h
  have HW := Lib.hid hw
  clear q1 q2 hB1 hB2 h hw hV hS
  go_enter Tryd.func52, Tryd.ntmps52
  go_wp2_with (go_at_call 69; refine HX.out.mono ?_; rintro _ w1 ⟨⟨fc, rfl, hfc⟩, hb1⟩; have HFC := Lib.hid hfc; obtain ⟨gt, gc, a2, cap2, fc2, rfl, e1, e2⟩ := hfc; have HB1 := Lib.hid (HB.out.trans (hb1.mono HB.out.size)); have H31 := Lib.hid (And.intro (kept_cell hb1 H3.out.1) (kept_cell hb1 H3.out.2)); clear hb1 e1 e2)
  go_ret
  have hw3 := below_alloc w1 (.cells #[.func (.func 85) #[] #[.pointer (some ⟨gt, 0, none⟩), .pointer (some ⟨gc, 0, none⟩)]] 121)
  refine ⟨⟨_, rfl, rfl, _, _, rfl, ent_steps, fun W hW k hk => ?_⟩, HB1.out.trans (hw3.mono HB1.out.size)⟩
  have hWW := hw3.trans (hW.mono hw3.size)
  have hb := HB1.out.trans (hWW.mono HB1.out.size)
  obtain ⟨as_, caps, hvs⟩ := HSS.out
  exact steps1_any l v S V A _ _ _ k W (HS.out.below hb (fun _ _ q => q.below hb)) HW.out hk (kept_cell hWW H31.out.1) ⟨as_, caps, by rw [← hvs]; exact kept_cell hWW H31.out.2⟩ ⟨_, kept_cell hW (box_cell _ _ _ _ _ rfl), HFC.out.below hWW⟩
end Go.Proofs.YtgkniocjlkfhmaaDoor.R

namespace Go.Proofs.YtgkniocjlkfhmaaDoor.R
open Go Go.RowKit Go.Proofs.YtgkniocjlkfhmaaDoor.B Go.Proofs.YtgkniocjlkfhmaaDoor.K Go.Proofs.YtgkniocjlkfhmaaDoor.E
set_option linter.unusedVariables false

theorem flatten_at (k : Nat) : ∀ (rows : List (List Value)), (∀ r ∈ rows, r.length = k) → ∀ (j : Nat) cs, rows[j]? = some cs → ∀ i, i < k → rows.flatten[j * k + i]? = cs[i]?
  | [], _, j, cs, h, i, hi => by simp at h
  | r :: rest, hl, 0, cs, h, i, hi => by
    have hr := hl r List.mem_cons_self
    simp only [List.getElem?_cons_zero, Option.some.injEq] at h
    subst h
    rw [List.flatten_cons, Nat.zero_mul, Nat.zero_add, List.getElem?_append_left (by omega)]
  | r :: rest, hl, j + 1, cs, h, i, hi => by
    have hr := hl r List.mem_cons_self
    rw [List.getElem?_cons_succ] at h
    rw [List.flatten_cons, List.getElem?_append_right (by rw [hr, Nat.succ_mul]; omega), hr, show (j + 1) * k + i - k = j * k + i by rw [Nat.succ_mul]; omega]
    exact flatten_at k rest (fun x hx => hl x (List.mem_cons_of_mem _ hx)) j cs h i hi

/-- A slice made at once, of structs. -/
theorem slof_rows {X : Type} (w : World) (T : TypeId) (k : Nat) (Q : List Value → X → Prop) (xs : List X) (rows : List (List Value)) (cap : Nat) (arr : Array Value) (ha : arr.toList = rows.flatten) (h1 : rows.length = xs.length)
    (h2 : ∀ (j : Nat) x cs, xs[j]? = some x → rows[j]? = some cs → cs.length = k ∧ Q cs x) : SlOf (w.alloc (.cells arr T)) k Q (.slice (some ⟨w.heap.size, 0, none⟩) xs.length cap) xs := by
  have hl : ∀ r ∈ rows, r.length = k := by
    intro r hr
    obtain ⟨j, hj, rfl⟩ := List.getElem_of_mem hr
    exact (h2 j (xs[j]'(by omega)) _ (List.getElem?_eq_getElem (by omega)) (List.getElem?_eq_getElem hj)).1
  refine ⟨_, cap, rfl, fun j x hj => ?_⟩
  have hjx := (List.getElem?_eq_some_iff.1 hj).1
  obtain ⟨cs, hcs⟩ : ∃ cs, rows[j]? = some cs := ⟨_, List.getElem?_eq_getElem (by omega)⟩
  obtain ⟨e1, e2⟩ := h2 j x cs hj hcs
  refine ⟨_, 0, rfl, cs, e1, e2, fun i c hi => ?_⟩
  have hik : i < k := by rw [← e1]; exact (List.getElem?_eq_some_iff.1 hi).1
  have := flatten_at k rows hl j cs hcs i hik
  rw [hi, ← ha] at this
  rw [Nat.zero_add]
  exact box_cell w arr T (j * k + i) c (by rw [← Array.getElem?_toList]; exact this)

theorem calls_keepB {P : Program} {f : Nat} {args : Array Value} {W : World} {r : Ending} {S : World → Prop} (hc : Calls P f args W (fun z w' => z = r ∧ W = w')) (hS : S W) : Calls P f args W (fun z w' => z = r ∧ S w' ∧ Below W.heap.size W w') :=
  hc.mono (by rintro _ w' ⟨rfl, rfl⟩; exact ⟨rfl, hS, Below.refl _ _⟩)

theorem calls_keepF {P : Program} {f : Nat} {args : Array Value} {W : World} {Q : Ending → World → Prop} {S : World → Prop} (hc : Calls P f args W (fun z w' => Q z w' ∧ Below W.heap.size W w')) (hS : ∀ W', Below W.heap.size W W' → S W') : Calls P f args W (fun z w' => Q z w' ∧ S w' ∧ Below W.heap.size W w') :=
  hc.mono (by rintro _ w' ⟨hq, hb⟩; exact ⟨hq, hS _ hb, hb⟩)

set_option maxHeartbeats 2000000 in
set_option maxRecDepth 100000 in
theorem ofTable_any (t : Tb) (c0 c1 c2 c3 : Value) (w : World) (h : TbIs w [c0, c1, c2, c3] t) (hw : TbWf t) (hG : I.Glob w) :
    Calls Tryd.prog 35 #[.agg #[c0, c1, c2, c3]] w fun z w' => (∃ v, z = .returned v ∧ SlOf w' 4 (PtIs w') v (tableParts t)) ∧ Below w.heap.size w w' := by
  obtain ⟨d0, d1, d2, d3, e, h0, h1, h2, h3⟩ := h
  cases e
  obtain ⟨⟨hw0, hl0⟩, ⟨hw1, hl1⟩, ⟨hw2, hl2⟩, ⟨hw3, hl3⟩⟩ := hw
  have H0 := Lib.hid h0
  have H1 := Lib.hid h1
  have H2 := Lib.hid h2
  obtain ⟨a0, cap0, rfl⟩ := sl_len h0
  obtain ⟨a1, cap1, rfl⟩ := sl_len h1
  obtain ⟨a2, cap2, rfl⟩ := sl_len h2
  obtain ⟨a3, cap3, rfl, h3⟩ := h3.open
  rw [List.length_map] at H0 H1 H2 ⊢
  rw [List.length_map, List.length_map]
  have hTP : tableParts t = [⟨1, countE t.states.length 1 8, t.states.length, nameBad t.states⟩, ⟨2, countE t.vars.length 0 6, t.vars.length, nameBad t.vars⟩, ⟨3, unlessE (decide ((t.start.length : Int) = t.vars.length)) 2, t.start.length, startBad t.start⟩, ⟨4, countE t.rules.length 0 12, 0, fun _ => 0⟩] := rfl
  rw [hTP]
  have HNM0 := Lib.hid (fun (W : World) (hb : Below w.heap.size w W) => names_any t.states (.slice a0 t.states.length cap0) W (Sl.below H0.out hb) hl0 hw0 (hG.below hb))
  have HNM1 := Lib.hid (fun (W : World) (hb : Below w.heap.size w W) => names_any t.vars (.slice a1 t.vars.length cap1) W (Sl.below H1.out hb) hl1 hw1 (hG.below hb))
  obtain ⟨N0, hN0⟩ : ∃ N, t.states.length = N := ⟨_, rfl⟩
  obtain ⟨N1, hN1⟩ : ∃ N, t.vars.length = N := ⟨_, rfl⟩
  obtain ⟨N2, hN2⟩ : ∃ N, t.start.length = N := ⟨_, rfl⟩
  obtain ⟨N3, hN3⟩ : ∃ N, t.rules.length = N := ⟨_, rfl⟩
  rw [hN0] at HNM0 H0 ⊢
  rw [hN1] at HNM1 H1 ⊢
  rw [hN2] at H2 ⊢
  rw [hN3]
  obtain ⟨W0, hW0⟩ : ∃ W0, w.alloc (.cells #[.slice a0 N0 cap0, .slice a1 N1 cap1, .slice a2 N2 cap2, .slice a3 N3 cap3] 37) = W0 := ⟨_, rfl⟩
  have hB0 : Below w.heap.size w W0 := by rw [← hW0]; exact below_alloc _ _
  have q0 : W0.cell? ⟨w.heap.size, 0, none⟩ = some (.slice a0 N0 cap0) := by rw [← hW0]; exact box_cell _ _ _ _ _ rfl
  have q1 : W0.cell? ⟨w.heap.size, 1, none⟩ = some (.slice a1 N1 cap1) := by rw [← hW0]; exact box_cell _ _ _ _ _ rfl
  have q2 : W0.cell? ⟨w.heap.size, 2, none⟩ = some (.slice a2 N2 cap2) := by rw [← hW0]; exact box_cell _ _ _ _ _ rfl
  have q3 : W0.cell? ⟨w.heap.size, 3, none⟩ = some (.slice a3 N3 cap3) := by rw [← hW0]; exact box_cell _ _ _ _ _ rfl
  have HB0 := Lib.hid hB0
  have HK0 := Lib.hid (fun (W : World) (hS : W.cell? ⟨w.heap.size, 0, none⟩ = some (.slice a0 N0 cap0) ∧ W.cell? ⟨w.heap.size, 1, none⟩ = some (.slice a1 N1 cap1) ∧ W.cell? ⟨w.heap.size, 2, none⟩ = some (.slice a2 N2 cap2) ∧ W.cell? ⟨w.heap.size, 3, none⟩ = some (.slice a3 N3 cap3) ∧ Below W0.heap.size W0 W) => calls_keepF (S := fun W => W.cell? ⟨w.heap.size, 0, none⟩ = some (.slice a0 N0 cap0) ∧ W.cell? ⟨w.heap.size, 1, none⟩ = some (.slice a1 N1 cap1) ∧ W.cell? ⟨w.heap.size, 2, none⟩ = some (.slice a2 N2 cap2) ∧ W.cell? ⟨w.heap.size, 3, none⟩ = some (.slice a3 N3 cap3) ∧ Below W0.heap.size W0 W) (HNM0.out W (HB0.out.trans (hS.2.2.2.2.mono HB0.out.size))) (fun W' hb => ⟨kept_cell hb hS.1, kept_cell hb hS.2.1, kept_cell hb hS.2.2.1, kept_cell hb hS.2.2.2.1, hS.2.2.2.2.trans (hb.mono hS.2.2.2.2.size)⟩))
  have HK1 := Lib.hid (fun (W : World) (hS : W.cell? ⟨w.heap.size, 0, none⟩ = some (.slice a0 N0 cap0) ∧ W.cell? ⟨w.heap.size, 1, none⟩ = some (.slice a1 N1 cap1) ∧ W.cell? ⟨w.heap.size, 2, none⟩ = some (.slice a2 N2 cap2) ∧ W.cell? ⟨w.heap.size, 3, none⟩ = some (.slice a3 N3 cap3) ∧ Below W0.heap.size W0 W) => calls_keepF (S := fun W => W.cell? ⟨w.heap.size, 0, none⟩ = some (.slice a0 N0 cap0) ∧ W.cell? ⟨w.heap.size, 1, none⟩ = some (.slice a1 N1 cap1) ∧ W.cell? ⟨w.heap.size, 2, none⟩ = some (.slice a2 N2 cap2) ∧ W.cell? ⟨w.heap.size, 3, none⟩ = some (.slice a3 N3 cap3) ∧ Below W0.heap.size W0 W) (HNM1.out W (HB0.out.trans (hS.2.2.2.2.mono HB0.out.size))) (fun W' hb => ⟨kept_cell hb hS.1, kept_cell hb hS.2.1, kept_cell hb hS.2.2.1, kept_cell hb hS.2.2.2.1, hS.2.2.2.2.trans (hb.mono hS.2.2.2.2.size)⟩))
  have HKA := Lib.hid (fun (W : World) (o : Obj) (hS : W.cell? ⟨w.heap.size, 0, none⟩ = some (.slice a0 N0 cap0) ∧ W.cell? ⟨w.heap.size, 1, none⟩ = some (.slice a1 N1 cap1) ∧ W.cell? ⟨w.heap.size, 2, none⟩ = some (.slice a2 N2 cap2) ∧ W.cell? ⟨w.heap.size, 3, none⟩ = some (.slice a3 N3 cap3) ∧ Below W0.heap.size W0 W) => (show (W.alloc o).cell? ⟨w.heap.size, 0, none⟩ = some (.slice a0 N0 cap0) ∧ (W.alloc o).cell? ⟨w.heap.size, 1, none⟩ = some (.slice a1 N1 cap1) ∧ (W.alloc o).cell? ⟨w.heap.size, 2, none⟩ = some (.slice a2 N2 cap2) ∧ (W.alloc o).cell? ⟨w.heap.size, 3, none⟩ = some (.slice a3 N3 cap3) ∧ Below W0.heap.size W0 (W.alloc o) from (fun hb => ⟨kept_cell hb hS.1, kept_cell hb hS.2.1, kept_cell hb hS.2.2.1, kept_cell hb hS.2.2.2.1, hS.2.2.2.2.trans (hb.mono hS.2.2.2.2.size)⟩) (below_alloc W o)))
  obtain ⟨E0, hE0⟩ : ∃ E, countE (N0 : Int) 1 8 = E := ⟨_, rfl⟩
  obtain ⟨E1, hE1⟩ : ∃ E, countE (N1 : Int) 0 6 = E := ⟨_, rfl⟩
  obtain ⟨E3, hE3⟩ : ∃ E, countE (N3 : Int) 0 12 = E := ⟨_, rfl⟩
  have HC0 := Lib.hid (fun (W : World) (hS : W.cell? ⟨w.heap.size, 0, none⟩ = some (.slice a0 N0 cap0) ∧ W.cell? ⟨w.heap.size, 1, none⟩ = some (.slice a1 N1 cap1) ∧ W.cell? ⟨w.heap.size, 2, none⟩ = some (.slice a2 N2 cap2) ∧ W.cell? ⟨w.heap.size, 3, none⟩ = some (.slice a3 N3 cap3) ∧ Below W0.heap.size W0 W) => calls_keepB (S := fun W => W.cell? ⟨w.heap.size, 0, none⟩ = some (.slice a0 N0 cap0) ∧ W.cell? ⟨w.heap.size, 1, none⟩ = some (.slice a1 N1 cap1) ∧ W.cell? ⟨w.heap.size, 2, none⟩ = some (.slice a2 N2 cap2) ∧ W.cell? ⟨w.heap.size, 3, none⟩ = some (.slice a3 N3 cap3) ∧ Below W0.heap.size W0 W) (hE0 ▸ count_any (N0 : Int) 1 8 W) hS)
  have HC1 := Lib.hid (fun (W : World) (hS : W.cell? ⟨w.heap.size, 0, none⟩ = some (.slice a0 N0 cap0) ∧ W.cell? ⟨w.heap.size, 1, none⟩ = some (.slice a1 N1 cap1) ∧ W.cell? ⟨w.heap.size, 2, none⟩ = some (.slice a2 N2 cap2) ∧ W.cell? ⟨w.heap.size, 3, none⟩ = some (.slice a3 N3 cap3) ∧ Below W0.heap.size W0 W) => calls_keepB (S := fun W => W.cell? ⟨w.heap.size, 0, none⟩ = some (.slice a0 N0 cap0) ∧ W.cell? ⟨w.heap.size, 1, none⟩ = some (.slice a1 N1 cap1) ∧ W.cell? ⟨w.heap.size, 2, none⟩ = some (.slice a2 N2 cap2) ∧ W.cell? ⟨w.heap.size, 3, none⟩ = some (.slice a3 N3 cap3) ∧ Below W0.heap.size W0 W) (hE1 ▸ count_any (N1 : Int) 0 6 W) hS)
  have HC3 := Lib.hid (fun (W : World) (hS : W.cell? ⟨w.heap.size, 0, none⟩ = some (.slice a0 N0 cap0) ∧ W.cell? ⟨w.heap.size, 1, none⟩ = some (.slice a1 N1 cap1) ∧ W.cell? ⟨w.heap.size, 2, none⟩ = some (.slice a2 N2 cap2) ∧ W.cell? ⟨w.heap.size, 3, none⟩ = some (.slice a3 N3 cap3) ∧ Below W0.heap.size W0 W) => calls_keepB (S := fun W => W.cell? ⟨w.heap.size, 0, none⟩ = some (.slice a0 N0 cap0) ∧ W.cell? ⟨w.heap.size, 1, none⟩ = some (.slice a1 N1 cap1) ∧ W.cell? ⟨w.heap.size, 2, none⟩ = some (.slice a2 N2 cap2) ∧ W.cell? ⟨w.heap.size, 3, none⟩ = some (.slice a3 N3 cap3) ∧ Below W0.heap.size W0 W) (hE3 ▸ count_any (N3 : Int) 0 12 W) hS)
  rw [hE0, hE1, hE3]
  obtain ⟨BB, hBB⟩ : ∃ B, decide ((N2 : Int) = (N1 : Int)) = B := ⟨_, rfl⟩
  have b1 : ((N2 : Int) == (N1 : Int)) = BB := by rw [← hBB, Bool.eq_iff_iff]; simp
  have b2 : (N2 == N1) = BB := by rw [← hBB, Bool.eq_iff_iff]; simp; omega
  have b3 : decide (N2 = N1) = BB := by rw [← hBB, Bool.eq_iff_iff]; simp; omega
  rw [hBB]
  obtain ⟨E2, hE2⟩ : ∃ E, unlessE BB 2 = E := ⟨_, rfl⟩
  have HU := Lib.hid (fun W => hE2 ▸ unless_any BB 2 W)
  rw [hE2]
  have HST : Hid (∀ W, Below W0.heap.size W0 W → WrongF W (.func (.func 45) #[] #[.pointer (some ⟨w.heap.size, 0, none⟩)]) N2 (startBad t.start)) :=
    Lib.hid (fun W hW => ⟨_, _, rfl, ent_start, fun W' hW' k hk => start1_any t.start (.slice a2 N2 cap2) _ k W' (Sl.below H2.out ((HB0.out.trans (hW.mono HB0.out.size)).trans (hW'.mono (HB0.out.trans (hW.mono HB0.out.size)).size))) (by rw [hN2]; exact hk) (kept_cell hW' (kept_cell hW q2))⟩)
  have HQ := Lib.hid (And.intro q0 (And.intro q1 (And.intro q2 q3)))
  clear h0 h1 h2 h3 hw0 hw1 hw2 hw3 hl0 hl1 hl2 hl3 hG hTP H0 H1 H2 HNM0 HNM1 hN0 hN1 hN2 hN3 hB0 hE0 hE1 hE2 hE3 hBB
  go_enter Tryd.func35, Tryd.ntmps35
  go_upto_region 3 with (go_at_call 44; refine (HU.out _).mono ?_; rintro _ w1 ⟨rfl, rfl⟩)
  have hS0 : W0.drew.cell? ⟨w.heap.size, 0, none⟩ = some (.slice a0 N0 cap0) ∧ W0.drew.cell? ⟨w.heap.size, 1, none⟩ = some (.slice a1 N1 cap1) ∧ W0.drew.cell? ⟨w.heap.size, 2, none⟩ = some (.slice a2 N2 cap2) ∧ W0.drew.cell? ⟨w.heap.size, 3, none⟩ = some (.slice a3 N3 cap3) ∧ Below W0.heap.size W0 W0.drew := ⟨HQ.out.1, HQ.out.2.1, HQ.out.2.2.1, HQ.out.2.2.2, (Below.refl W0.heap.size W0).drew⟩
  clear q0 q1 q2 q3 b1 b2 b3
  go_region_held3 (fun W => W.cell? ⟨w.heap.size, 0, none⟩ = some (.slice a0 N0 cap0) ∧ W.cell? ⟨w.heap.size, 1, none⟩ = some (.slice a1 N1 cap1) ∧ W.cell? ⟨w.heap.size, 2, none⟩ = some (.slice a2 N2 cap2) ∧ W.cell? ⟨w.heap.size, 3, none⟩ = some (.slice a3 N3 cap3) ∧ Below W0.heap.size W0 W) (first | exact hS0 | assumption | exact HKA.out _ _ (by assumption)) (first | (go_at_call 46; ((with_reducible refine (HC0.out _ ?_).mono ?_); (first | exact hS0 | assumption)); rintro _ w1 ⟨rfl, hS1, hb1⟩) | (go_at_call 46; ((with_reducible refine (HC1.out _ ?_).mono ?_); (first | exact hS0 | assumption)); rintro _ w2 ⟨rfl, hS2, hb2⟩) | (go_at_call 46; ((with_reducible refine (HC3.out _ ?_).mono ?_); (first | exact hS0 | assumption)); rintro _ w3 ⟨rfl, hS3, hb3⟩) | (go_at_call 47; ((with_reducible refine (HK0.out _ ?_).mono ?_); (first | exact hS0 | assumption)); rintro _ w4 ⟨⟨fv4, rfl, ho4, hF4⟩, hS4, hb4⟩; have HF4 := Lib.hid hF4; obtain ⟨n4, caps4, rfl, -, -⟩ := hF4) | (go_at_call 47; ((with_reducible refine (HK1.out _ ?_).mono ?_); (first | exact hS0 | assumption)); rintro _ w5 ⟨⟨fv5, rfl, ho5, hF5⟩, hS5, hb5⟩; have HF5 := Lib.hid hF5; obtain ⟨n5, caps5, rfl, -, -⟩ := hF5))
  have hb53 := hb3
  have hb43 := hb2.trans ((hb5.trans (hb3.mono hb5.size)).mono hb2.size)
  have HB3 := Lib.hid (HB0.out.trans (hS3.2.2.2.2.mono HB0.out.size))
  have HS3 := Lib.hid hS3.2.2.2.2
  have H43 := Lib.hid hb43
  have H53 := Lib.hid hb53
  clear hS0 hS1 hS2 hS3 hS4 hS5 hb1 hb2 hb3 hb4 hb5 hb43 hb53
  go_wp2_with fail
  go_ret
  refine ⟨⟨.slice (some ⟨w3.heap.size, 0, none⟩) 4 4, rfl, ?_⟩, HB3.out.trans ((below_alloc _ _).mono HB3.out.size)⟩
  refine slof_rows w3 97 4 (PtIs _) [⟨1, E0, N0, nameBad t.states⟩, ⟨2, E1, N1, nameBad t.vars⟩, ⟨3, E2, N2, startBad t.start⟩, ⟨4, E3, 0, fun _ => 0⟩]
    [[.int .i64 1, .int .i64 E0, .int .i64 (N0 : Int), .func (.func n4) #[] caps4], [.int .i64 2, .int .i64 E1, .int .i64 (N1 : Int), .func (.func n5) #[] caps5], [.int .i64 3, .int .i64 E2, .int .i64 (N2 : Int), .func (.func 45) #[] #[.pointer (some ⟨w.heap.size, 0, none⟩)]], [.int .i64 4, .int .i64 E3, .int .i64 0, .nilFunc]] 4 _ rfl rfl ?_
  have hba := below_alloc w3 (.cells #[.int .i64 1, .int .i64 E0, .int .i64 (N0 : Int), .func (.func n4) #[] caps4, .int .i64 2, .int .i64 E1, .int .i64 (N1 : Int), .func (.func n5) #[] caps5, .int .i64 3, .int .i64 E2, .int .i64 (N2 : Int), .func (.func 45) #[] #[.pointer (some ⟨w.heap.size, 0, none⟩)], .int .i64 4, .int .i64 E3, .int .i64 0, .nilFunc] 97)
  intro j x cs hx hcs
  match j, hx, hcs with
  | 0, hx, hcs => cases hx; cases hcs; exact ⟨rfl, _, rfl, rfl, fun _ => (HF4.out.below H43.out).below hba⟩
  | 1, hx, hcs => cases hx; cases hcs; exact ⟨rfl, _, rfl, rfl, fun _ => (HF5.out.below H53.out).below hba⟩
  | 2, hx, hcs => cases hx; cases hcs; exact ⟨rfl, _, rfl, rfl, fun _ => (HST.out w3 HS3.out).below hba⟩
  | 3, hx, hcs => cases hx; cases hcs; exact ⟨rfl, _, rfl, rfl, fun h => absurd h (Nat.lt_irrefl 0)⟩
  | j + 4, hx, hcs => cases hx
end Go.Proofs.YtgkniocjlkfhmaaDoor.R
