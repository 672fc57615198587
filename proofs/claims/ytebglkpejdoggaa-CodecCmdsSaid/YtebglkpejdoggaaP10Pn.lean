/-
  Layer 10, the program: what may be laid.
-/
import Derived.Test.YtebglkpejdoggaaP8RefE
import Derived.Test.YtebglkpejdoggaaP9Pa
import Derived.Laws.Cover1
namespace Go.Proofs.Ytebglkpejdoggaa.C10
open Go Go.RowKit Go.Proofs Go.Proofs.Ytebglkpejdoggaa.B Go.Proofs.Ytebglkpejdoggaa.K Go.Proofs.Ytebglkpejdoggaa.P8
set_option linter.unusedVariables false
set_option maxRecDepth 100000
set_option maxHeartbeats 2000000

/-- A world of a class. -/
structure WdP (S : World → Prop) where
  val : World
  ok : S val
theorem region_quiet_p {P : Program} {S : World → Prop} {id : Nat} {Q : Exit → Act → World → Prop} {a : Act} {w : World} {l : List Oper} (hm : P.follows .mixedOrders = true) (hB : Region.lexB .any l.toArray = true) (hS : S w.drew)
    (h : wpQuiet P l.toArray (fun w' => ∃ x : WdP S, w' = x.val) (fun a' => ∀ w', (∃ x : WdP S, w' = x.val) → Q .normal a' w') l a) : (Code.region id l.toArray true).wp P Q a w :=
  wp_region_quiet (C := fun w' => ∃ x : WdP S, w' = x.val) hm hB ⟨⟨_, hS⟩, rfl⟩ (by simpa using h)
theorem wdp_call {P : Program} {S : World → Prop} {f : FuncId} {args : Array Value} {v : Value} (h : ∀ W, S W → Calls P f args W fun e w' => e = .returned v ∧ S w') (x : WdP S) : Calls P f args x.val fun e w' => e = .returned v ∧ ∃ y : WdP S, w' = y.val :=
  (h x.val x.ok).mono fun _ w' ⟨h1, h2⟩ => ⟨h1, ⟨w', h2⟩, rfl⟩

theorem mayValue1_any (n : Int) (w : World) : Calls Try.prog 51 #[.int .i64 n] w fun e w' => e = .returned (.bool (valP n)) ∧ Below w.heap.size w w' := by
  have H := Lib.hid (fun W => within10_any n (-1099511627776) 1099511627776 W)
  go_enter Try.func51, Try.ntmps51
  go_wp2_with (go_at_call 34; refine (H.out _).mono ?_; rintro _ w1 ⟨rfl, rfl⟩)
  go_ret
  exact ⟨rfl, Below.refl _ _⟩
theorem mayValues_any (l : List Int) (most : Nat) (m : Int) (em : m = (most : Int)) (v : Value) (w : World) (h : SlN w v l) (hn : l.length ≤ 4611686018427387904) :
    Calls Try.prog 35 #[v, .int .i64 m] w fun e w' => e = .returned (.bool (valsP l most)) ∧ Below w.heap.size w w' := by
  have H := Lib.hid (mayList_I l (fun W v x _ hv => by subst hv; exact mayValue1_any x W) most m em v w h hn)
  clear em
  unfold valsP
  obtain ⟨c, hc⟩ : ∃ c, (l.all valP && decide (l.length ≤ most)) = c := ⟨_, rfl⟩
  rw [hc] at H ⊢
  clear hc
  obtain ⟨a, cap, rfl, -⟩ := h.open
  clear h
  go_enter Try.func35, Try.ntmps35
  go_wp2_with (go_at_call 50; refine H.out.mono ?_; rintro _ w1 ⟨rfl, hb1⟩; have HB1 := Lib.hid hb1; clear hb1)
  go_ret
  exact ⟨rfl, HB1.out⟩
theorem mayStand_any (pos : Int) (l : List Int) (v : Value) (w : World) (h : SlN w v l) (hn : l.length ≤ 4611686018427387904) :
    Calls Try.prog 41 #[.int .i64 pos, v] w fun e w' => e = .returned (.bool (inn pos 0 7 && valsP l 6)) ∧ Below w.heap.size w w' := by
  have H0 := Lib.hid (fun W => within10_any pos 0 7 W)
  have H1 := Lib.hid (mayValues_any l 6 6 rfl v w h hn)
  have HB0 := Lib.hid (Below.refl w.heap.size w)
  obtain ⟨a, cap, rfl, -⟩ := h.open
  obtain ⟨b0, e0⟩ : ∃ b, inn pos 0 7 = b := ⟨_, rfl⟩
  obtain ⟨b1, e1⟩ : ∃ b, valsP l 6 = b := ⟨_, rfl⟩
  rw [e0] at H0; rw [e1] at H1; rw [e0, e1]
  clear e0 e1 h
  go_enter Try.func41, Try.ntmps41
  go_wp2_with fail
  refine (H0.out _).mono ?_
  rintro _ w1 ⟨rfl, rfl⟩
  cases b0 with
  | false =>
    go_wp2_with fail
    go_ret
    exact ⟨rfl, HB0.out⟩
  | true =>
    go_wp2_with fail
    refine (H1.out).mono ?_
    rintro _ w2 ⟨rfl, hb2⟩
    have HB2 := Lib.hid (HB0.out.trans (hb2.mono HB0.out.size))
    clear hb2
    go_wp2_with fail
    go_ret
    exact ⟨rfl, HB2.out⟩

theorem mayHead_any (c q : Int) (s : List UInt8) (w : World) (hs : s.length ≤ 140737488355328) :
    Calls Try.prog 33 #[.int .i64 c, .int .i64 q, .string (str s)] w fun e w' => e = .returned (.bool (headP c q s)) ∧ Below w.heap.size w w' := by
  have H0 := Lib.hid (fun W => within10_any c 0 5 W)
  have H1 := Lib.hid (fun W => within10_any q 1 1099511627776 W)
  have H2 := Lib.hid (fun W => stream_any s (by omega) W)
  have HB0 := Lib.hid (Below.refl w.heap.size w)
  unfold headP
  obtain ⟨b0, e0⟩ : ∃ b, inn c 0 5 = b := ⟨_, rfl⟩
  obtain ⟨b1, e1⟩ : ∃ b, inn q 1 1099511627776 = b := ⟨_, rfl⟩
  obtain ⟨b2, e2⟩ : ∃ b, streamP s = b := ⟨_, rfl⟩
  rw [e0] at H0; rw [e1] at H1; rw [e2] at H2; rw [e0, e1, e2]
  clear e0 e1 e2
  go_enter Try.func33, Try.ntmps33
  go_wp2_with fail
  refine (H0.out _).mono ?_
  rintro _ w1 ⟨rfl, rfl⟩
  cases b0 with
  | false =>
    go_wp2_with fail
    go_ret
    exact ⟨rfl, HB0.out⟩
  | true =>
    go_wp2_with fail
    refine (H1.out _).mono ?_
    rintro _ w2 ⟨rfl, rfl⟩
    cases b1 with
    | false =>
      go_wp2_with fail
      go_ret
      exact ⟨rfl, HB0.out⟩
    | true =>
      go_wp2_with fail
      refine (H2.out _).mono ?_
      rintro _ w3 ⟨rfl, hb3⟩
      have HB3 := Lib.hid (HB0.out.trans (hb3.mono HB0.out.size))
      clear hb3
      go_wp2_with fail
      go_ret
      exact ⟨rfl, HB3.out⟩

theorem mayEv1_any (x : Ev) (u : Value) (w : World) (hu : SlN w u x.vars) (hn : x.vars.length ≤ 4611686018427387904) : Calls Try.prog 40 #[.agg #[.int .i64 x.pos, u]] w fun e w' => e = .returned (.bool (evP x)) ∧ Below w.heap.size w w' := by
  unfold evP
  obtain ⟨au, cu, rfl, -⟩ := id hu.open
  obtain ⟨W0, hW0⟩ : ∃ W0, w.alloc (.cells #[.int .i64 x.pos, .slice au x.vars.length cu] 54) = W0 := ⟨_, rfl⟩
  have hB0 : Below w.heap.size w W0 := by rw [← hW0]; exact below_alloc _ _
  have k0 : W0.cell? ⟨w.heap.size, 0, none⟩ = some (.int .i64 x.pos) := by rw [← hW0]; exact alloc_cell w [_, _] _ 0 _ rfl
  have k1 : W0.cell? ⟨w.heap.size, 1, none⟩ = some (.slice au x.vars.length cu) := by rw [← hW0]; exact alloc_cell w [_, _] _ 1 _ rfl
  have H0 := Lib.hid (mayStand_any x.pos x.vars _ W0 (hu.below hB0) hn)
  obtain ⟨b0, e0⟩ : ∃ b, (inn x.pos 0 7 && valsP x.vars 6) = b := ⟨_, rfl⟩
  rw [e0] at H0; rw [e0]
  have HB0 := Lib.hid hB0
  clear e0 hB0 hu
  go_enter Try.func40, Try.ntmps40
  go_wp2_with fail
  refine (H0.out).mono ?_
  rintro _ w1 ⟨rfl, hb1⟩
  have HB1 := Lib.hid (HB0.out.trans (hb1.mono HB0.out.size))
  clear hb1
  try clear hW0
  go_wp2_with fail
  go_ret
  exact ⟨rfl, HB1.out⟩

theorem itOk_eq (x : It) : itOk x = (streamP x.stream && ((inn x.st.pos 0 7 && valsP x.st.vars 6) && inn x.st.ver 0 1099511627776)) := by
  unfold itOk stP
  generalize streamP x.stream = b1
  generalize inn x.st.pos 0 7 = b2
  generalize valsP x.st.vars 6 = b3
  generalize inn x.st.ver 0 1099511627776 = b4
  cases b1 <;> cases b2 <;> cases b3 <;> cases b4 <;> rfl
theorem mayEvents_any (l : List Ev) (v : Value) (w : World) (h : EvsIs w v l) (hw : EvsWf l) :
    Calls Try.prog 23 #[v] w fun e w' => e = .returned (.bool (evsP l)) ∧ Below w.heap.size w w' := by
  have H := Lib.hid (mayList_E l (fun W v x hx hv => by obtain ⟨u, rfl, hu⟩ := hv; exact mayEv1_any x u W hu (by have := (hw.1 x hx).2.2; omega)) 3 3 rfl v w h (by have := hw.2; omega))
  unfold evsP
  obtain ⟨c, hc⟩ : ∃ c, (l.all evP && decide (l.length ≤ 3)) = c := ⟨_, rfl⟩
  rw [hc] at H ⊢
  clear hc
  obtain ⟨a, cap, rfl, -⟩ := h.open
  clear h hw
  go_enter Try.func23, Try.ntmps23
  go_wp2_with (go_at_call 39; refine H.out.mono ?_; rintro _ w1 ⟨rfl, hb1⟩; have HB1 := Lib.hid hb1; clear hb1)
  go_ret
  exact ⟨rfl, HB1.out⟩
end Go.Proofs.Ytebglkpejdoggaa.C10
