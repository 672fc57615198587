/-
  Layer 12, the document's answers: the file that a write is done to; Read, Arm, New, Names.
  Layer 12, the document's answers: Sync, Remove, Rename.
-/
import Derived.Test.YthdchidlfeighaaHP12Rt
import Derived.Laws.ResultCell
namespace Go.Proofs.Ythdchidlfeighaa.C12
open Go Go.RowKit Go.Proofs Go.Proofs.Ythdchidlfeighaa.B Go.Proofs.Ythdchidlfeighaa.K Go.Proofs.Ythdchidlfeighaa.P8
set_option linter.unusedVariables false
set_option maxRecDepth 100000

/-- The end of a function whose first result lies in a block. -/
theorem row_end2 {fn : Func} {p u : Tmp} {g : Nat} {ty : TypeId} {cs : Array Value} {fs : Array Field} {R : Ending → World → Prop} {ac : Act} {w : World} (x : Value) (hres : fn.results = #[.cell p ty, .tmp u]) (hp : ac.tmps.getD p undef = .pointer (some ⟨g, 0, none⟩)) (hx : ac.tmps.getD u undef = x) (hd : ac.defers = [])
    (hg : w.heap[g]? = some (.cells cs ty (0, 0))) (hu : Try.prog.underlying ty = some (.struct fs)) (hi : (Try.prog.info? ty).map (·.size) = some cs.size) (hR : R (.returned (.tuple #[.agg cs, x])) w) : bodyPost Try.prog fn R .ret ac w := by
  refine bodyPost_ret (v := .tuple #[.agg cs, x]) ?_ hd hR
  have hl := run_loadVar_row w g ty ty cs (0, 0) _ hg hu rfl hi
  have hp' : ac.tmps[p]?.getD undef = .pointer (some ⟨g, 0, none⟩) := by simpa using hp
  have hx' : ac.tmps[u]?.getD undef = x := by simpa using hx
  simp [results, hres, hp', hx', asAddr, hl]

theorem add_str12 (a b : List UInt8) (h : a.length + b.length ≤ 9223372036854775807) : ∀ W, (Op.stringOp .add (str a) (str b)).run Try.prog W = .ok (.string (str (a ++ b))) W := fun W => by
  rw [run_string_add_sum W _ _ (by rw [str_size, str_size]; omega), ← str_append]
def someR (D : Dst) (s : List UInt8) : Fl × Int := if D.down then (⟨[], [], []⟩, 11) else match findF D.files s with | none => (⟨[], [], []⟩, 8) | some f => (f, 0)
theorem set3 {w : World} {g : Nat} {cs : Array Value} {T : TypeId} (h : w.heap[g]? = some (.cells cs T (0, 0))) (a b c : Value) : (((w.setCell ⟨g, 0, none⟩ a).setCell ⟨g, 1, none⟩ b).setCell ⟨g, 2, none⟩ c).heap[g]? = some (.cells (((cs.setIfInBounds 0 a).setIfInBounds 1 b).setIfInBounds 2 c) T (0, 0)) :=
  heap_setCell_same _ g 2 _ T _ (heap_setCell_same _ g 1 _ T _ (heap_setCell_same _ g 0 _ T _ h))
theorem below_set3 {B : Nat} {w wr : World} (h : Below B w wr) {g : Nat} (hg : B ≤ g) (a b c : Value) : Below B w (((wr.setCell ⟨g, 0, none⟩ a).setCell ⟨g, 1, none⟩ b).setCell ⟨g, 2, none⟩ c) :=
  ((h.setCell (p := ⟨g, 0, none⟩) hg _).setCell (p := ⟨g, 1, none⟩) hg _).setCell (p := ⟨g, 2, none⟩) hg _

set_option maxHeartbeats 4000000 in
theorem some_any (s : List UInt8) (b : Nat) (G : Nat → Prop) (D : Dst) (w : World) (h : RAt w G b D) :
    Calls Try.prog 55 #[.pointer (some ⟨b, 0, none⟩), .string (str s)] w fun e w' => e = .returned (.tuple #[.agg #[.string (str (someR D s).1.name), .string (str (someR D s).1.safe), .string (str (someR D s).1.more)], .int .i64 (someR D s).2]) ∧ Below w.heap.size w w' := by
  obtain ⟨W0, hW0⟩ : ∃ W0, w.alloc (.cells #[.string ⟨#[]⟩, .string ⟨#[]⟩, .string ⟨#[]⟩] 41) = W0 := ⟨_, rfl⟩
  obtain ⟨g0, hg0⟩ : ∃ g, w.heap.size = g := ⟨_, rfl⟩
  have hB0 : Below w.heap.size w W0 := by rw [← hW0]; exact below_alloc _ _
  have hz : W0.heap[g0]? = some (.cells #[.string ⟨#[]⟩, .string ⟨#[]⟩, .string ⟨#[]⟩] 41 (0, 0)) := by rw [← hW0, ← hg0]; exact heap_alloc_at _ _
  have hgz : w.heap.size ≤ g0 := Nat.le_of_eq hg0
  have h0 := h.below hB0
  obtain ⟨v, hrow, hfl, -⟩ := h0.cell
  obtain ⟨a, cap, rfl, hc⟩ := hfl.open
  obtain ⟨N, hN⟩ : ∃ N, D.files.length = N := ⟨_, rfl⟩
  rw [hN] at hrow
  have c1 := (row_at hrow 1 _ rfl).1
  have c3 := (row_at hrow 3 _ rfl).1
  have z0 := (row_at hz 0 _ rfl).1
  have zf0 := (row_at hz 0 _ rfl).2
  have z1 := (row_at hz 1 _ rfl).1
  have zf1 := (row_at hz 1 _ rfl).2
  have z2 := (row_at hz 2 _ rfl).1
  have zf2 := (row_at hz 2 _ rfl).2
  have HC := Lib.hid hc
  have HB0 := Lib.hid hB0
  have HZ := Lib.hid hz
  have HN := Lib.hid hN
  have hcount : N ≤ 128 := by rw [← hN]; exact h.ok.count
  have HAT := Lib.hid (at_any s b G D W0 h0)
  clear hc hfl hrow hz h h0 hB0 hN
  unfold someR
  cases hd : D.down with
  | true =>
    rw [hd] at c3
    rw [if_pos rfl]
    clear hd HAT
    go_enter Try.func55, Try.ntmps55
    go_wp2_with fail
    refine row_end2 (g := g0) (cs := #[.string ⟨#[]⟩, .string ⟨#[]⟩, .string ⟨#[]⟩]) (.int .i64 11) rfl rfl rfl rfl (set3 HZ.out _ _ _) Try.underlying41 (by kernel_rfl) ?_
    exact ⟨rfl, below_set3 HB0.out hgz _ _ _⟩
  | false =>
    rw [hd] at c3
    rw [if_neg (by simp)]
    clear hd
    rcases place_find D.files s with ⟨hp, hf⟩ | ⟨j, f, hp, hj, hf, hn⟩
    · rw [hp] at HAT
      rw [hf]
      clear hp hf
      go_enter Try.func55, Try.ntmps55
      go_wp2_with (go_at_call 25; refine HAT.out.mono ?_; rintro _ w1 ⟨rfl, rfl⟩)
      refine row_end2 (g := g0) (cs := #[.string ⟨#[]⟩, .string ⟨#[]⟩, .string ⟨#[]⟩]) (.int .i64 8) rfl rfl rfl rfl (set3 HZ.out _ _ _) Try.underlying41 (by kernel_rfl) ?_
      exact ⟨rfl, below_set3 HB0.out hgz _ _ _⟩
    · rw [hp] at HAT
      rw [hf]
      obtain ⟨b', off, rfl, k0, k1, k2⟩ := HC.out j f hj
      have hjN : j < N := by rw [← HN.out]; exact (List.getElem?_eq_some_iff.1 hj).1
      have hjI : (j : Int) < (N : Int) := by omega
      have hj0 : 0 ≤ (j : Int) := by omega
      have hj1 : ¬ (j : Int) < 0 := by omega
      clear hp hf hj hn
      go_enter Try.func55, Try.ntmps55
      go_wp2_with (go_at_call 25; refine HAT.out.mono ?_; rintro _ w1 ⟨rfl, rfl⟩)
      refine row_end2 (g := g0) (cs := #[.string (str f.name), .string (str f.safe), .string (str f.more)]) (.int .i64 0) rfl rfl rfl rfl (set3 HZ.out _ _ _) Try.underlying41 (by kernel_rfl) ?_
      exact ⟨rfl, below_set3 HB0.out hgz _ _ _⟩

set_option maxHeartbeats 2000000 in
theorem arm_any (n : Int) (b : Nat) (G : Nat → Prop) (D : Dst) (w : World) (h : RAt w G b D) (hn : n ≤ 9223372036854775807) :
    Calls Try.prog 50 #[.pointer (some ⟨b, 0, none⟩), .int .i64 n] w fun e w' => e = .returned (.int .i64 (armD D n).2) ∧ RAt w' G b (armD D n).1 ∧ Chg G G w w' := by
  obtain ⟨v, hrow, hfl, hg⟩ := h.cell
  have c2 := (row_at hrow 2 _ rfl).1
  have f2 := (row_at hrow 2 _ rfl).2
  have c3 := (row_at hrow 3 _ rfl).1
  unfold armD
  cases hd : D.down with
  | true =>
    rw [hd] at c3
    rw [if_pos rfl]
    go_enter Try.func50, Try.ntmps50
    go_wp2_with fail
    go_ret
    exact ⟨rfl, h, Chg.of_below (Below.refl _ _)⟩
  | false =>
    rw [hd] at c3
    rw [if_neg (by simp)]
    by_cases h1 : n < 1
    · rw [if_pos h1]
      go_enter Try.func50, Try.ntmps50
      go_wp2_with fail
      go_ret
      exact ⟨rfl, h, Chg.of_below (Below.refl _ _)⟩
    · rw [if_neg h1]
      have HROW := Lib.hid hrow
      have HG := Lib.hid hg
      have HF := Lib.hid hfl
      have H := Lib.hid h
      have HD := Lib.hid hd
      clear hrow hg hfl h hd
      go_enter Try.func50, Try.ntmps50
      go_wp2_with fail
      go_ret
      have hrow2 := heap_setCell_same w b 2 _ _ (.int .i64 n) HROW.out
      rw [HD.out] at hrow2
      have ht : Tn G w (w.setCell ⟨b, 2, none⟩ (.int .i64 n)) := ⟨rfl, rfl, rfl, size_set _ _ _ _, fun i hi hne => heap_setCell_other _ ⟨b, 2, none⟩ i _ (fun e => hne (e ▸ H.out.own))⟩
      refine ⟨rfl, ⟨⟨v, hrow2, HF.out.same fun a n c e => heap_setCell_other _ ⟨b, 2, none⟩ _ _ (HG.out a n c e).2, HG.out⟩, H.out.own, fun i hi => Nat.lt_of_lt_of_le (H.out.lt i hi) ht.size, ⟨H.out.ok.room, ⟨?_, ?_⟩, H.out.ok.count, H.out.ok.each⟩⟩, ⟨ht, fun i hi => Or.inl hi⟩⟩
      · show 0 ≤ n; omega
      · exact hn

set_option maxHeartbeats 2000000 in
theorem read_any (s : List UInt8) (b : Nat) (G : Nat → Prop) (D : Dst) (w : World) (h : RAt w G b D) :
    Calls Try.prog 32 #[.pointer (some ⟨b, 0, none⟩), .string (str s)] w fun e w' => e = .returned (.tuple #[.string (str (readD D s).1), .int .i64 (readD D s).2]) ∧ Below w.heap.size w w' := by
  have HS := Lib.hid (some_any s b G D w h)
  have HE := Lib.hid h.ok.each
  obtain ⟨W0, hW0⟩ : ∃ D', someR D s = D' := ⟨_, rfl⟩
  obtain ⟨⟨fn, fs, fm⟩, er⟩ := W0
  rw [hW0] at HS
  dsimp only at HS
  have HB := Lib.hid (show ∀ W : World, Below W.heap.size W (W.alloc (.cells #[.string (str fn), .string (str fs), .string (str fm)] 41)) from fun W => below_alloc _ _)
  have HM := Lib.hid (show ∀ W : World, (W.alloc (.cells #[.string (str fn), .string (str fs), .string (str fm)] 41)).cell? ⟨W.heap.size, 1, none⟩ = some (.string (str fs)) ∧ (W.alloc (.cells #[.string (str fn), .string (str fs), .string (str fm)] 41)).cell? ⟨W.heap.size, 2, none⟩ = some (.string (str fm)) from fun W => ⟨alloc_cell W [_, _, _] _ 1 _ rfl, alloc_cell W [_, _, _] _ 2 _ rfl⟩)
  by_cases he : er = 0
  · subst he
    have hr : readD D s = (fs ++ fm, 0) ∧ fs.length + fm.length ≤ 65536 := by
      unfold someR at hW0
      unfold readD
      cases hd : D.down with
      | true => rw [hd, if_pos rfl] at hW0; simp at hW0
      | false =>
        rw [hd, if_neg (by simp)] at hW0
        rw [if_neg (by simp)]
        cases hf : findF D.files s with
        | none => rw [hf] at hW0; simp at hW0
        | some f =>
          rw [hf] at hW0
          simp only [Prod.mk.injEq, and_true] at hW0
          have hm := (HE.out f (List.mem_of_find?_eq_some hf)).2
          rw [hW0] at hm ⊢
          exact ⟨rfl, hm⟩
    obtain ⟨hr1, hr2⟩ := hr
    rw [hr1]
    have e1 := add_str12 fs fm (by omega)
    obtain ⟨U, hU⟩ : ∃ U, fs ++ fm = U := ⟨_, rfl⟩
    rw [hU] at e1 ⊢
    clear hW0 hr1 hr2 hU h
    go_enter Try.func32, Try.ntmps32
    go_wp2_with (go_at_call 55; refine HS.out.mono ?_; rintro _ w1 ⟨rfl, hb1⟩; have HB1 := Lib.hid hb1; have m1 := (HM.out w1).1; have m2 := (HM.out w1).2; clear hb1)
    go_ret2
    exact ⟨rfl, HB1.out.trans ((HB.out _).mono HB1.out.size)⟩
  · have hr : readD D s = ([], er) := by
      unfold someR at hW0
      unfold readD
      cases hd : D.down with
      | true => rw [hd, if_pos rfl] at hW0; simp only [Prod.mk.injEq] at hW0; rw [if_pos rfl, hW0.2]
      | false =>
        rw [hd, if_neg (by simp)] at hW0
        rw [if_neg (by simp)]
        cases hf : findF D.files s with
        | none => rw [hf] at hW0; simp only [Prod.mk.injEq] at hW0; rw [hW0.2]
        | some f => rw [hf] at hW0; simp only [Prod.mk.injEq] at hW0; exact absurd hW0.2.symm he
    rw [hr]
    have hb : (er == 0) = false := beq_eq_false_iff_ne.2 he
    clear hW0 hr he h
    go_enter Try.func32, Try.ntmps32
    go_wp2_with (go_at_call 55; refine HS.out.mono ?_; rintro _ w1 ⟨rfl, hb1⟩; have HB1 := Lib.hid hb1; clear hb1)
    go_ret2
    exact ⟨rfl, HB1.out.trans ((HB.out _).mono HB1.out.size)⟩
end Go.Proofs.Ythdchidlfeighaa.C12

namespace Go.Proofs.Ythdchidlfeighaa.C12
open Go Go.RowKit Go.Proofs Go.Proofs.Ythdchidlfeighaa.B Go.Proofs.Ythdchidlfeighaa.K Go.Proofs.Ythdchidlfeighaa.P8
set_option linter.unusedVariables false
set_option maxRecDepth 100000

theorem set_len (f : Fl) : ∀ (l : List Fl) (d : Bool), (setGo f l d).length = (if d then 0 else 1) + (dropF l f.name).length
  | [], d => by cases d <;> rfl
  | y :: l, d => by
    unfold setGo
    rw [List.length_append, List.length_append, set_len f l]
    unfold dropF
    by_cases hs : y.name = f.name
    · rw [if_pos hs, List.filter_cons_of_neg (by simpa using hs)]
      cases d <;> cases lessL y.name f.name <;> simp
    · rw [if_neg hs, List.filter_cons_of_pos (by simpa using hs), List.length_cons]
      cases d <;> cases lessL y.name f.name <;> simp <;> omega
theorem find_facts {l : List Fl} {s : List UInt8} {f : Fl} (h : findF l s = some f) : f ∈ l ∧ f.name = s :=
  ⟨List.mem_of_find?_eq_some h, by simpa using List.find?_some h⟩
theorem drop_lt {l : List Fl} {f : Fl} {s : List UInt8} (h : f ∈ l) (hn : f.name = s) : (dropF l s).length + 1 ≤ l.length := by
  unfold dropF
  induction l with
  | nil => cases h
  | cons y l ih =>
    by_cases hy : y.name = s
    · rw [List.filter_cons_of_neg (by simpa using hy), List.length_cons]
      have := List.length_filter_le (fun y : Fl => !decide (y.name = s)) l
      omega
    · rw [List.filter_cons_of_pos (by simpa using hy), List.length_cons, List.length_cons]
      rcases List.mem_cons.1 h with rfl | h
      · exact absurd hn hy
      · have := ih h
        omega
theorem drop_sub {l : List Fl} {s : List UInt8} : (dropF l s).length ≤ l.length := List.length_filter_le _ _
theorem goes_files (D : Dst) : (goesD D).1.files = D.files := by unfold goesD; split <;> rfl
/-- What a write answers and leaves. -/
def Wrote (G : Nat → Prop) (b : Nat) (r : Dst × Int) (w : World) (e : Ending) (w' : World) : Prop := ∃ G', e = .returned (.int .i64 r.2) ∧ RAt w' G' b r.1 ∧ Chg G G' w w'
theorem goD_down {D E : Dst} {k : Dst → Dst} (h : goesD D = (E, true)) : goD D k = (E, 11) := by unfold goD; rw [h]; rfl
theorem goD_on {D E : Dst} {k : Dst → Dst} (h : goesD D = (E, false)) : goD D k = (k E, 0) := by unfold goD; rw [h]; rfl
theorem box_keep {G : Nat → Prop} {w w' : World} {g i : Nat} {v : Value} (h : Chg G G w w') (hg : ¬ G g) (hc : w.cell? ⟨g, i, none⟩ = some v) : w'.cell? ⟨g, i, none⟩ = some v :=
  cell_same (h.turn.block g (World.block_lt_of_cell? w _ hc) hg) hc

set_option maxHeartbeats 8000000 in
theorem sync_any (s : List UInt8) (b : Nat) (G : Nat → Prop) (D : Dst) (w : World) (h : RAt w G b D) :
    Calls Try.prog 46 #[.pointer (some ⟨b, 0, none⟩), .string (str s)] w (Wrote G b (syncD D s) w) := by
  have HS := some_any s b G D w h
  unfold someR at HS
  unfold syncD someD
  cases hd : D.down with
  | true =>
    rw [hd] at HS
    simp only [if_true] at HS ⊢
    have HS := Lib.hid HS
    have H := Lib.hid h
    clear h
    go_enter Try.func46, Try.ntmps46
    go_wp2_with (go_at_call 55; refine HS.out.mono ?_; rintro _ w1 ⟨rfl, hb1⟩; have HB1 := Lib.hid hb1; clear hb1)
    go_ret
    exact ⟨G, rfl, (H.out.below HB1.out).below (below_alloc _ _), Chg.of_below (HB1.out.trans ((below_alloc _ _).mono HB1.out.size))⟩
  | false =>
    rw [hd] at HS
    simp only [Bool.false_eq_true, if_false] at HS ⊢
    cases hf : findF D.files s with
    | none =>
      rw [hf] at HS
      simp only at HS ⊢
      have HS := Lib.hid HS
      have H := Lib.hid h
      clear h
      go_enter Try.func46, Try.ntmps46
      go_wp2_with (go_at_call 55; refine HS.out.mono ?_; rintro _ w1 ⟨rfl, hb1⟩; have HB1 := Lib.hid hb1; clear hb1)
      go_ret
      exact ⟨G, rfl, (H.out.below HB1.out).below (below_alloc _ _), Chg.of_below (HB1.out.trans ((below_alloc _ _).mono HB1.out.size))⟩
    | some f =>
      rw [hf] at HS
      simp only at HS ⊢
      obtain ⟨hfm, hfn⟩ := find_facts hf
      have hfe := h.ok.each f hfm
      have hdl := drop_lt hfm hfn
      have hcn := h.ok.count
      have HS := Lib.hid HS
      have H := Lib.hid h
      have HGO := Lib.hid (fun W (hW : RAt W G b D) => goes_any b G D W hW)
      have HGF := Lib.hid (goes_files D)
      have HLT := Lib.hid (fun i (hi : G i) => h.lt i hi)
      have HFN := Lib.hid hfn
      clear h hf hfn
      go_enter Try.func46, Try.ntmps46
      go_wp2_with fail
      refine HS.out.mono ?_
      rintro _ w1 ⟨rfl, hb1⟩
      obtain ⟨W2, hW2⟩ : ∃ W2, w1.alloc (.cells #[.string (str f.name), .string (str f.safe), .string (str f.more)] 41) = W2 := ⟨_, rfl⟩
      have hB2 : Below w1.heap.size w1 W2 := by rw [← hW2]; exact below_alloc _ _
      have HB2 := Lib.hid (hb1.trans (hB2.mono hb1.size))
      have hR2 := H.out.below HB2.out
      obtain ⟨g0, hg0⟩ : ∃ g, w1.heap.size = g := ⟨_, rfl⟩
      have m1 : W2.cell? ⟨g0, 1, none⟩ = some (.string (str f.safe)) := by rw [← hW2, ← hg0]; exact alloc_cell w1 [_, _, _] _ 1 _ rfl
      have m2 : W2.cell? ⟨g0, 2, none⟩ = some (.string (str f.more)) := by rw [← hW2, ← hg0]; exact alloc_cell w1 [_, _, _] _ 2 _ rfl
      have hG0 : ¬ G g0 := fun e => by
        have := HLT.out g0 e
        have := hb1.size
        omega
      clear hb1 hB2
      go_wp2_with fail
      refine (HGO.out _ hR2).mono ?_
      rintro _ w3 ⟨rfl, hr3, hc3⟩
      have HR3 := Lib.hid hr3
      have HC3 := Lib.hid ((Chg.of_below (F := G) HB2.out).trans hc3)
      have m1' := box_keep hc3 hG0 m1
      have m2' := box_keep hc3 hG0 m2
      clear hr3 hc3 hR2 m1 m2 hW2
      obtain ⟨⟨E, z⟩, hEz⟩ : ∃ p, goesD D = p := ⟨_, rfl⟩
      rw [hEz] at HR3 HGF ⊢
      dsimp only at HR3 HGF ⊢
      have HEZ := Lib.hid hEz
      clear hEz
      cases z with
      | true =>
        go_wp2_with fail
        go_ret
        rw [goD_down HEZ.out]
        exact ⟨G, rfl, HR3.out, HC3.out⟩
      | false =>
        have HST := Lib.hid (set_any ⟨s, f.safe ++ f.more, []⟩ b G E w3 HR3.out (by unfold setF; rw [set_len, HGF.out]; simp only [Bool.false_eq_true, if_false]; omega) ⟨by rw [← HFN.out]; exact hfe.1, by rw [List.length_append, List.length_nil]; exact hfe.2⟩)
        have e1 := add_str12 f.safe f.more (by omega)
        have HE2 := Lib.hid (show str [] = ⟨#[]⟩ from rfl)
        dsimp only at HST
        obtain ⟨U, hU⟩ : ∃ U, f.safe ++ f.more = U := ⟨_, rfl⟩
        rw [hU] at HST e1
        have HU := Lib.hid hU
        clear hU
        go_wp2_with (go_at_call 65; refine HST.out.mono ?_; rintro _ w4 ⟨G', rfl, hr4, hc4⟩; have HR4 := Lib.hid hr4; have HC4 := Lib.hid hc4; clear hr4 hc4)
        go_ret
        rw [goD_on HEZ.out]
        have hr4 := HR4.out
        rw [← HU.out] at hr4
        exact ⟨G', rfl, hr4, HC3.out.trans HC4.out⟩

set_option maxHeartbeats 8000000 in
theorem remove_any (s : List UInt8) (b : Nat) (G : Nat → Prop) (D : Dst) (w : World) (h : RAt w G b D) :
    Calls Try.prog 49 #[.pointer (some ⟨b, 0, none⟩), .string (str s)] w (Wrote G b (removeD D s) w) := by
  have HS := some_any s b G D w h
  unfold someR at HS
  unfold removeD someD
  cases hd : D.down with
  | true =>
    rw [hd] at HS
    simp only [if_true] at HS ⊢
    have HS := Lib.hid HS
    have H := Lib.hid h
    clear h
    go_enter Try.func49, Try.ntmps49
    go_wp2_with (go_at_call 55; refine HS.out.mono ?_; rintro _ w1 ⟨rfl, hb1⟩; have HB1 := Lib.hid hb1; clear hb1)
    go_ret
    exact ⟨G, rfl, (H.out.below HB1.out).below (below_alloc _ _), Chg.of_below (HB1.out.trans ((below_alloc _ _).mono HB1.out.size))⟩
  | false =>
    rw [hd] at HS
    simp only [Bool.false_eq_true, if_false] at HS ⊢
    cases hf : findF D.files s with
    | none =>
      rw [hf] at HS
      simp only at HS ⊢
      have HS := Lib.hid HS
      have H := Lib.hid h
      clear h
      go_enter Try.func49, Try.ntmps49
      go_wp2_with (go_at_call 55; refine HS.out.mono ?_; rintro _ w1 ⟨rfl, hb1⟩; have HB1 := Lib.hid hb1; clear hb1)
      go_ret
      exact ⟨G, rfl, (H.out.below HB1.out).below (below_alloc _ _), Chg.of_below (HB1.out.trans ((below_alloc _ _).mono HB1.out.size))⟩
    | some f =>
      rw [hf] at HS
      simp only at HS ⊢
      obtain ⟨hfm, hfn⟩ := find_facts hf
      have hfe := h.ok.each f hfm
      have hdl := drop_lt hfm hfn
      have hcn := h.ok.count
      have HS := Lib.hid HS
      have H := Lib.hid h
      have HGO := Lib.hid (fun W (hW : RAt W G b D) => goes_any b G D W hW)
      have HGF := Lib.hid (goes_files D)
      have HLT := Lib.hid (fun i (hi : G i) => h.lt i hi)
      have HFN := Lib.hid hfn
      clear h hf hfn
      go_enter Try.func49, Try.ntmps49
      go_wp2_with fail
      refine HS.out.mono ?_
      rintro _ w1 ⟨rfl, hb1⟩
      obtain ⟨W2, hW2⟩ : ∃ W2, w1.alloc (.cells #[.string (str f.name), .string (str f.safe), .string (str f.more)] 41) = W2 := ⟨_, rfl⟩
      have hB2 : Below w1.heap.size w1 W2 := by rw [← hW2]; exact below_alloc _ _
      have HB2 := Lib.hid (hb1.trans (hB2.mono hb1.size))
      have hR2 := H.out.below HB2.out
      obtain ⟨g0, hg0⟩ : ∃ g, w1.heap.size = g := ⟨_, rfl⟩
      have m1 : W2.cell? ⟨g0, 1, none⟩ = some (.string (str f.safe)) := by rw [← hW2, ← hg0]; exact alloc_cell w1 [_, _, _] _ 1 _ rfl
      have m2 : W2.cell? ⟨g0, 2, none⟩ = some (.string (str f.more)) := by rw [← hW2, ← hg0]; exact alloc_cell w1 [_, _, _] _ 2 _ rfl
      have hG0 : ¬ G g0 := fun e => by
        have := HLT.out g0 e
        have := hb1.size
        omega
      clear hb1 hB2
      go_wp2_with fail
      refine (HGO.out _ hR2).mono ?_
      rintro _ w3 ⟨rfl, hr3, hc3⟩
      have HR3 := Lib.hid hr3
      have HC3 := Lib.hid ((Chg.of_below (F := G) HB2.out).trans hc3)
      have m1' := box_keep hc3 hG0 m1
      have m2' := box_keep hc3 hG0 m2
      clear hr3 hc3 hR2 m1 m2 hW2
      obtain ⟨⟨E, z⟩, hEz⟩ : ∃ p, goesD D = p := ⟨_, rfl⟩
      rw [hEz] at HR3 HGF ⊢
      dsimp only at HR3 HGF ⊢
      have HEZ := Lib.hid hEz
      clear hEz
      cases z with
      | true =>
        go_wp2_with fail
        go_ret
        rw [goD_down HEZ.out]
        exact ⟨G, rfl, HR3.out, HC3.out⟩
      | false =>
        have HST := Lib.hid (drop_any s b G E w3 HR3.out)
        go_wp2_with (go_at_call 67; refine HST.out.mono ?_; rintro _ w4 ⟨G', rfl, hr4, hc4⟩; have HR4 := Lib.hid hr4; have HC4 := Lib.hid hc4; clear hr4 hc4)
        go_ret
        rw [goD_on HEZ.out]
        exact ⟨G', rfl, HR4.out, HC3.out.trans HC4.out⟩

set_option maxHeartbeats 8000000 in
theorem rename_any (s t : List UInt8) (b : Nat) (G : Nat → Prop) (D : Dst) (w : World) (h : RAt w G b D) (hs : s.length ≤ 140737488355328) (ht : t.length ≤ 140737488355328) :
    Calls Try.prog 48 #[.pointer (some ⟨b, 0, none⟩), .string (str s), .string (str t)] w (Wrote G b (renameD D s t) w) := by
  have HS := some_any s b G D w h
  unfold someR at HS
  obtain ⟨v, hrow, -, -⟩ := h.cell
  have c3 := (row_at hrow 3 _ rfl).1
  have N1 := Lib.hid (fun W => name_any s W hs)
  have N2 := Lib.hid (fun W => name_any t W ht)
  unfold renameD someD
  clear hrow
  cases hd : D.down with
  | true =>
    rw [hd] at c3
    simp only [if_true]
    have H := Lib.hid h
    clear h HS
    go_enter Try.func48, Try.ntmps48
    go_wp2_with fail
    go_ret
    exact ⟨G, rfl, H.out, Chg.of_below (Below.refl _ _)⟩
  | false =>
    rw [hd] at HS c3
    simp only [Bool.false_eq_true, if_false] at HS ⊢
    cases h1 : nameOk s with
    | false =>
      rw [h1] at N1
      simp only [true_or, if_true]
      have H := Lib.hid h
      clear h HS h1
      go_enter Try.func48, Try.ntmps48
      go_wp2_with (go_at_call 64; refine (N1.out _).mono ?_; rintro _ w1 ⟨rfl, rfl⟩)
      go_ret
      exact ⟨G, rfl, H.out, Chg.of_below (Below.refl _ _)⟩
    | true =>
      rw [h1] at N1
      cases h2 : nameOk t with
      | false =>
        rw [h2] at N2
        simp only [or_true, if_true]
        have H := Lib.hid h
        clear h HS h1 h2
        go_enter Try.func48, Try.ntmps48
        go_wp2_with fail
        refine (N1.out _).mono ?_
        rintro _ w1 ⟨rfl, rfl⟩
        go_wp2_with fail
        refine (N2.out _).mono ?_
        rintro _ w2 ⟨rfl, rfl⟩
        go_wp2_with fail
        go_ret
        exact ⟨G, rfl, H.out, Chg.of_below (Below.refl _ _)⟩
      | true =>
        have N2T := h2
        rw [h2] at N2
        simp only [Bool.true_eq_false, or_self, if_false]
        clear h1
        cases hf : findF D.files s with
        | none =>
          rw [hf] at HS
          simp only at HS ⊢
          have HS := Lib.hid HS
          have H := Lib.hid h
          clear h hf h2 N2T
          go_enter Try.func48, Try.ntmps48
          go_wp2_with fail
          refine (N1.out _).mono ?_
          rintro _ w1 ⟨rfl, rfl⟩
          go_wp2_with fail
          refine (N2.out _).mono ?_
          rintro _ w2 ⟨rfl, rfl⟩
          go_wp2_with (go_at_call 55; refine HS.out.mono ?_; rintro _ w1 ⟨rfl, hb1⟩; have HB1 := Lib.hid hb1; clear hb1)
          go_ret
          exact ⟨G, rfl, (H.out.below HB1.out).below (below_alloc _ _), Chg.of_below (HB1.out.trans ((below_alloc _ _).mono HB1.out.size))⟩
        | some f =>
          rw [hf] at HS
          simp only at HS ⊢
          obtain ⟨hfm, hfn⟩ := find_facts hf
          have hfe := h.ok.each f hfm
          have hdl := drop_lt hfm hfn
          have hcn := h.ok.count
          have HS := Lib.hid HS
          have H := Lib.hid h
          have HGO := Lib.hid (fun W (hW : RAt W G b D) => goes_any b G D W hW)
          have HGF := Lib.hid (goes_files D)
          have HLT := Lib.hid (fun i (hi : G i) => h.lt i hi)
          have HTN := Lib.hid (show t.length ≤ 24 by
            have := N2T
            unfold nameOk at this
            simp only [Bool.and_eq_true, decide_eq_true_eq] at this
            exact this.2.2)
          clear h hf hfn h2 N2T
          obtain ⟨z0, hz0⟩ : ∃ z, decide (f.more = []) = z := ⟨_, rfl⟩
          cases z0 with
          | false =>
            have hmo : f.more ≠ [] := of_decide_eq_false hz0
            rw [if_pos hmo]
            have e1 : ¬ (str f.more).toList = [] := by rw [str_toList]; exact hmo
            have e2 : (str f.more).toList.isEmpty = false := by rw [str_toList]; simpa using hmo
            have e3 : ((str f.more).toList == []) = false := by rw [str_toList]; simpa using hmo
            clear hz0 hmo
            go_enter Try.func48, Try.ntmps48
            go_wp2_with fail
            refine (N1.out _).mono ?_
            rintro _ w0 ⟨rfl, rfl⟩
            go_wp2_with fail
            refine (N2.out _).mono ?_
            rintro _ w0 ⟨rfl, rfl⟩
            go_wp2_with fail
            refine HS.out.mono ?_
            rintro _ w1 ⟨rfl, hb1⟩
            obtain ⟨W2, hW2⟩ : ∃ W2, w1.alloc (.cells #[.string (str f.name), .string (str f.safe), .string (str f.more)] 41) = W2 := ⟨_, rfl⟩
            have hB2 : Below w1.heap.size w1 W2 := by rw [← hW2]; exact below_alloc _ _
            have HB2 := Lib.hid (hb1.trans (hB2.mono hb1.size))
            have hR2 := H.out.below HB2.out
            obtain ⟨g0, hg0⟩ : ∃ g, w1.heap.size = g := ⟨_, rfl⟩
            have m1 : W2.cell? ⟨g0, 1, none⟩ = some (.string (str f.safe)) := by rw [← hW2, ← hg0]; exact alloc_cell w1 [_, _, _] _ 1 _ rfl
            have m2 : W2.cell? ⟨g0, 2, none⟩ = some (.string (str f.more)) := by rw [← hW2, ← hg0]; exact alloc_cell w1 [_, _, _] _ 2 _ rfl
            have hG0 : ¬ G g0 := fun e => by
              have := HLT.out g0 e
              have := hb1.size
              omega
            clear hb1 hB2
            go_wp2_with fail
            go_ret
            exact ⟨G, rfl, hR2, Chg.of_below HB2.out⟩
          | true =>
            have hmo : f.more = [] := of_decide_eq_true hz0
            rw [if_neg (fun e => e hmo)]
            have e1 : (str f.more).toList = [] := by rw [str_toList]; exact hmo
            have e2 : (str f.more).toList.isEmpty = true := by rw [str_toList, hmo]; rfl
            have e3 : ((str f.more).toList == []) = true := by rw [str_toList, hmo]; rfl
            clear hz0 hmo
            go_enter Try.func48, Try.ntmps48
            go_wp2_with fail
            refine (N1.out _).mono ?_
            rintro _ w0 ⟨rfl, rfl⟩
            go_wp2_with fail
            refine (N2.out _).mono ?_
            rintro _ w0 ⟨rfl, rfl⟩
            go_wp2_with fail
            refine HS.out.mono ?_
            rintro _ w1 ⟨rfl, hb1⟩
            obtain ⟨W2, hW2⟩ : ∃ W2, w1.alloc (.cells #[.string (str f.name), .string (str f.safe), .string (str f.more)] 41) = W2 := ⟨_, rfl⟩
            have hB2 : Below w1.heap.size w1 W2 := by rw [← hW2]; exact below_alloc _ _
            have HB2 := Lib.hid (hb1.trans (hB2.mono hb1.size))
            have hR2 := H.out.below HB2.out
            obtain ⟨g0, hg0⟩ : ∃ g, w1.heap.size = g := ⟨_, rfl⟩
            have m1 : W2.cell? ⟨g0, 1, none⟩ = some (.string (str f.safe)) := by rw [← hW2, ← hg0]; exact alloc_cell w1 [_, _, _] _ 1 _ rfl
            have m2 : W2.cell? ⟨g0, 2, none⟩ = some (.string (str f.more)) := by rw [← hW2, ← hg0]; exact alloc_cell w1 [_, _, _] _ 2 _ rfl
            have hG0 : ¬ G g0 := fun e => by
              have := HLT.out g0 e
              have := hb1.size
              omega
            clear hb1 hB2
            go_wp2_with fail
            refine (HGO.out _ hR2).mono ?_
            rintro _ w3 ⟨rfl, hr3, hc3⟩
            have HR3 := Lib.hid hr3
            have HC3 := Lib.hid ((Chg.of_below (F := G) HB2.out).trans hc3)
            have m1' := box_keep hc3 hG0 m1
            have m2' := box_keep hc3 hG0 m2
            clear hr3 hc3 hR2 m1 m2 hW2 e1 e2 e3
            obtain ⟨⟨E, z⟩, hEz⟩ : ∃ p, goesD D = p := ⟨_, rfl⟩
            rw [hEz] at HR3 HGF ⊢
            dsimp only at HR3 HGF ⊢
            have HEZ := Lib.hid hEz
            clear hEz
            cases z with
            | true =>
              go_wp2_with fail
              go_ret
              rw [goD_down HEZ.out]
              exact ⟨G, rfl, HR3.out, HC3.out⟩
            | false =>
              go_wp2_with fail
              refine (drop_any s b G E w3 HR3.out).mono ?_
              rintro _ w4 ⟨G1, rfl, hr4, hc4⟩
              have HC4 := Lib.hid hc4
              have m1'' : w4.cell? ⟨g0, 1, none⟩ = some (.string (str f.safe)) := cell_same (hc4.turn.block g0 (World.block_lt_of_cell? w3 _ m1') hG0) m1'
              have HST := Lib.hid (set_any ⟨t, f.safe, []⟩ b G1 _ w4 hr4 (by unfold setF; rw [set_len]; simp only [Bool.false_eq_true, if_false]; have := drop_sub (l := dropF E.files s) (s := t); rw [HGF.out] at this ⊢; omega) ⟨HTN.out, by show f.safe.length + 0 ≤ 65536; omega⟩)
              dsimp only at HST
              clear hr4 hc4 m1' m2'
              go_wp2_with fail
              refine HST.out.mono ?_
              rintro _ w5 ⟨G', rfl, hr5, hc5⟩
              have HR5 := Lib.hid hr5
              have HC5 := Lib.hid hc5
              clear hr5 hc5
              go_wp2_with fail
              go_ret
              rw [goD_on HEZ.out]
              exact ⟨G', rfl, HR5.out, (HC3.out.trans HC4.out).trans HC5.out⟩
end Go.Proofs.Ythdchidlfeighaa.C12
