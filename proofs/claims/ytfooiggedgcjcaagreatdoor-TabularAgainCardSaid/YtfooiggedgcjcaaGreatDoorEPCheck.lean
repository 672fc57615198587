/-
  Layer 5, the program's side: the first rule of a name, the first set of a variable.
  Layer 5, the program's side: parts of a table, and the first fault of some.
  Layer 5, the program's side: what tells what is wrong with each of some names.
  Contracts of the program of layer 3: takes, isValue.
  Contracts of the program of layer 3: fits, Check.
-/
import Derived.Test.YtfooiggedgcjcaaGreatDoorRPs
import Derived.Laws.Rows
import Derived.Laws.EntriesVeiled
import Derived.Deep.RegionHeld3
import Derived.Deep.DeepCutAuto
import Derived.Test.YtfooiggedgcjcaaGreatDoorTSpec
import Derived.Test.YtfooiggedgcjcaaGreatDoorKBase
import Derived.WalkMore
namespace Go.Proofs.YtfooiggedgcjcaaGreatDoor.R
open Go Go.RowKit Go.Proofs.YtfooiggedgcjcaaGreatDoor.B Go.Proofs.YtfooiggedgcjcaaGreatDoor.K Go.Proofs.YtfooiggedgcjcaaGreatDoor.E
set_option linter.unusedVariables false

theorem SlOf.open {X : Type} {w : World} {k : Nat} {Q : List Value → X → Prop} {v : Value} {xs : List X} (h : SlOf w k Q v xs) : ∃ a cap, v = .slice a xs.length cap ∧ SlOf w k Q (.slice a xs.length cap) xs := by
  obtain ⟨a, cap, rfl, hc⟩ := h
  exact ⟨a, cap, rfl, a, cap, rfl, hc⟩

set_option maxHeartbeats 1000000 in
theorem find1_any (nm x : Bs) (c1 c2 c3 c4 : Value) (g : Nat) (w : World) (hg : w.cell? ⟨g, 0, none⟩ = some (sv x)) :
    Calls Tryz.prog 86 #[.agg #[sv nm, c1, c2, c3, c4], .pointer (some ⟨g, 0, none⟩)] w fun z w' => z = .returned (.bool (nm == x)) ∧ Below w.heap.size w w' := by
  have HB := Lib.hid ((Below.refl w.heap.size w).alloc (Nat.le_refl _) (.cells #[sv nm, c1, c2, c3, c4] 58))
  have k0 := kept_cell HB.out hg
  clear hg
  unfold sv at HB k0 ⊢
  by_cases hq : nm = x
  · have hqb : ((str nm).toList == (str x).toList) = true := by rw [hq]; simp
    have hr : (nm == x) = true := beq_iff_eq.2 hq
    rw [hr]
    clear hr hq
    go_enter Tryz.func86, Tryz.ntmps86
    go_wp2_with fail
    go_ret
    exact ⟨rfl, by first | exact HB.out | exact HB.out.drew | exact below_drewN HB.out _⟩
  · have hqb : ((str nm).toList == (str x).toList) = false := str_ne hq
    have hr : (nm == x) = false := beq_eq_false_iff_ne.2 hq
    rw [hr]
    clear hr hq
    go_enter Tryz.func86, Tryz.ntmps86
    go_wp2_with fail
    go_ret
    exact ⟨rfl, by first | exact HB.out | exact HB.out.drew | exact below_drewN HB.out _⟩

set_option maxHeartbeats 1000000 in
theorem indexRule_any (l : List Rl) (v : Value) (x : Bs) (g : Nat) (w : World) (h : SlOf w 5 (RlIs w) v l) (hl : l.length ≤ 9223372036854775807) (hg : w.cell? ⟨g, 0, none⟩ = some (sv x)) :
    Calls Tryz.prog 85 #[v, .func (.func 86) #[] #[.pointer (some ⟨g, 0, none⟩)]] w fun z w' => z = .returned (.int .i64 (idxP (fun r => r.name == x) l)) ∧ Below w.heap.size w w' := by
  obtain ⟨a, cap, rfl, h⟩ := h.open
  have HS := Lib.hid h
  have HG := Lib.hid hg
  obtain ⟨N, hN⟩ : ∃ N, l.length = N := ⟨_, rfl⟩
  rw [hN] at hl HS ⊢
  have HL := Lib.hid hl
  have HN := Lib.hid hN
  clear hN hl h hg
  go_enter Tryz.func85, Tryz.ntmps85
  go_wp2_with fail
  go_loopw [8] (fun k wr => ∃ (K : Nat), k = .int .i64 (K : Int) ∧ K ≤ N ∧ Hid (Below w.heap.size w wr) ∧ Hid (∀ (j : Nat) y, j < K → l[j]? = some y → (y.name == x) = false)) (fun k _ => N - (intOf k).toNat)
  case atStart => exact ⟨0, rfl, Nat.zero_le _, Lib.hid (Below.refl _ _), Lib.hid (fun j y h => absurd h (Nat.not_lt_zero _))⟩
  case round =>
    obtain ⟨K, rfl, hK, HBW, HI⟩ := hrel
    by_cases hlt : K < N
    · have hltI : (K : Int) < (N : Int) := by omega
      obtain ⟨y, hy⟩ : ∃ y, l[K]? = some y := ⟨_, List.getElem?_eq_getElem (by rw [HN.out]; exact hlt)⟩
      have HY := Lib.hid hy
      obtain ⟨b, off, ea, cs, -, ⟨f, gg, s, rfl, -⟩, hc⟩ := HS.out.at hy
      subst ea
      have k0 := kept_cell HBW.out (hc 0 _ rfl)
      have k1 := kept_cell HBW.out (hc 1 _ rfl)
      have k2 := kept_cell HBW.out (hc 2 _ rfl)
      have k3 := kept_cell HBW.out (hc 3 _ rfl)
      have k4 := kept_cell HBW.out (hc 4 _ rfl)
      have k0 : wr.cell? ⟨b, off + K * 5, none⟩ = some (sv y.name) := k0
      have HC := Lib.hid (find1_any y.name x (.int .i64 y.args) f gg s g wr (kept_cell HBW.out HG.out))
      have hwK : IntKind.i64.wrap ((K : Int) + 1) = (K : Int) + 1 := IntWalk.i64_in _ (by have := HL.out; omega)
      unfold sv at k0 HC
      clear hc hy
      cases hq : (y.name == x) with
      | true =>
        rw [hq] at HC
        have HQ := Lib.hid hq
        clear hq
        go_wp2_with (go_at_call 86; refine HC.out.mono ?_; rintro _ w1 ⟨rfl, hb1⟩; have HB1 := Lib.hid (HBW.out.trans (hb1.mono HBW.out.size)); clear hb1)
        go_ret
        exact ⟨ret_int (idxP_at _ l K y HY.out HQ.out HI.out).symm, HB1.out⟩
      | false =>
        rw [hq] at HC
        have HQ := Lib.hid hq
        clear hq
        go_wp2_with (go_at_call 86; refine HC.out.mono ?_; rintro _ w1 ⟨rfl, hb1⟩; have HB1 := Lib.hid (HBW.out.trans (hb1.mono HBW.out.size)); clear hb1)
        exact ⟨⟨K + 1, by go_num, by omega, HB1, Lib.hid (none_next HI.out HY.out HQ.out)⟩, by simp [intOf]; omega⟩
    · have hltI : ¬ (K : Int) < (N : Int) := by omega
      have e : K = N := by omega
      go_wp2_with fail
      go_ret
      exact ⟨ret_int (idxP_none _ l (fun j y hy => HI.out j y (by have := (List.getElem?_eq_some_iff.1 hy).1; rw [HN.out] at this; omega) hy)).symm, HBW.out⟩

set_option maxHeartbeats 1000000 in
theorem find_any (t : Tb) (c0 c1 c2 c3 : Value) (x : Bs) (w : World) (h : TbIs w [c0, c1, c2, c3] t) (hw : TbWf t) :
    Calls Tryz.prog 46 #[.agg #[c0, c1, c2, c3], sv x] w fun z w' => z = .returned (.int .i64 (idxP (fun r => r.name == x) t.rules)) ∧ Below w.heap.size w w' := by
  obtain ⟨d0, d1, d2, d3, e, h0, h1, h2, h3⟩ := h
  cases e
  obtain ⟨a3, cap3, rfl, h3⟩ := h3.open
  obtain ⟨N, hN⟩ : ∃ N, t.rules.length = N := ⟨_, rfl⟩
  rw [hN] at h3 ⊢
  obtain ⟨W1, hW1⟩ : ∃ W1, w.alloc (.cells #[c0, c1, c2, .slice a3 N cap3] 26) = W1 := ⟨_, rfl⟩
  have hB1 : Below w.heap.size w W1 := by rw [← hW1]; exact (Below.refl w.heap.size w).alloc (Nat.le_refl _) _
  have k3 : W1.cell? ⟨w.heap.size, 3, none⟩ = some (.slice a3 N cap3) := by rw [← hW1]; unfold World.cell?; rw [heap_alloc_at]; rfl
  obtain ⟨W2, hW2⟩ : ∃ W2, W1.alloc (.cells #[sv x] 9) = W2 := ⟨_, rfl⟩
  have hB12 : Below W1.heap.size W1 W2 := by rw [← hW2]; exact (Below.refl W1.heap.size W1).alloc (Nat.le_refl _) _
  have hB2 : Below w.heap.size w W2 := hB1.trans (hB12.mono hB1.size)
  have q3 := kept_cell hB12 k3
  have q0 : W2.cell? ⟨W1.heap.size, 0, none⟩ = some (sv x) := by rw [← hW2]; unfold World.cell?; rw [heap_alloc_at]; rfl
  have HC := Lib.hid (indexRule_any t.rules (.slice a3 N cap3) x W1.heap.size W2 (h3.below hB2 (fun _ _ q => q.below hB2)) hw.2.2.2.2 q0)
  have HB2 := Lib.hid hB2
  clear hB1 k3 hB12 hB2 q0 h0 h1 h2 h3 hN hw
  unfold sv at hW2 ⊢
  go_enter Tryz.func46, Tryz.ntmps46
  go_wp2_with (go_at_call 85; refine HC.out.mono ?_; rintro _ w1 ⟨rfl, hb1⟩; have HB3 := Lib.hid (HB2.out.trans (hb1.mono HB2.out.size)); clear hb1)
  go_ret
  exact ⟨rfl, HB3.out⟩

set_option maxHeartbeats 1000000 in
theorem set1_any (s y : Se) (b K : Nat) (N cap off : Nat) (c1 : Value) (g1 g2 : Nat) (w : World) (h1 : w.cell? ⟨g1, 0, none⟩ = some (.slice (some ⟨b, off, none⟩) N cap)) (h2 : w.cell? ⟨g2, 0, none⟩ = some (.int .i64 (K : Int))) (hK : K < N)
    (h3 : w.cell? ⟨b, off + K * 2, none⟩ = some (.int .i64 y.var)) :
    Calls Tryz.prog 121 #[.agg #[.int .i64 s.var, c1], .pointer (some ⟨g1, 0, none⟩), .pointer (some ⟨g2, 0, none⟩)] w fun z w' => z = .returned (.bool (s.var == y.var)) ∧ Below w.heap.size w w' := by
  have HB := Lib.hid ((Below.refl w.heap.size w).alloc (Nat.le_refl _) (.cells #[.int .i64 s.var, c1] 86))
  have hKI : (K : Int) < (N : Int) := by omega
  have k1 := kept_cell HB.out h1
  have k2 := kept_cell HB.out h2
  have k3 := kept_cell HB.out h3
  clear h1 h2 h3
  cases hq : (s.var == y.var) with
  | true =>
    go_enter Tryz.func121, Tryz.ntmps121
    go_wp2_with (go_quiet (fail))
    go_ret
    exact ⟨rfl, by first | exact HB.out | exact HB.out.drew | exact below_drewN HB.out _⟩
  | false =>
    go_enter Tryz.func121, Tryz.ntmps121
    go_wp2_with (go_quiet (fail))
    go_ret
    exact ⟨rfl, by first | exact HB.out | exact HB.out.drew | exact below_drewN HB.out _⟩
end Go.Proofs.YtfooiggedgcjcaaGreatDoor.R

namespace Go.Proofs.YtfooiggedgcjcaaGreatDoor.R
open Go Go.RowKit Go.Proofs.YtfooiggedgcjcaaGreatDoor.B Go.Proofs.YtfooiggedgcjcaaGreatDoor.K Go.Proofs.YtfooiggedgcjcaaGreatDoor.E
set_option linter.unusedVariables false

def Ent (N : Nat) : Prop := ∀ args w, (callFunc N args).run Tryz.prog w = .ok (.enter N args) w

/-- A function value that tells, in every world above, what is wrong at each of so many places. -/
def WrongF (w : World) (fv : Value) (places : Nat) (wrong : Nat → Int) : Prop :=
  ∃ N caps, fv = .func (.func N) #[] caps ∧ Ent N ∧ ∀ W, Below w.heap.size w W → ∀ k, k < places → Calls Tryz.prog N (#[.int .i64 (k : Int)] ++ caps) W fun z W' => z = .returned (.int .i64 (wrong k)) ∧ Below W.heap.size W W'

theorem WrongF.below {w w' : World} {fv : Value} {n : Nat} {f : Nat → Int} (h : WrongF w fv n f) (hb : Below w.heap.size w w') : WrongF w' fv n f := by
  obtain ⟨N, caps, rfl, hN, h⟩ := h
  exact ⟨N, caps, rfl, hN, fun W hW => h W (hb.trans (hW.mono hb.size))⟩

def PtIs (w : World) (cs : List Value) (p : Pt) : Prop := ∃ fv, cs = [.int .i64 p.number, .int .i64 p.whole, .int .i64 (p.places : Int), fv] ∧ fv.oneCell' = true ∧ (0 < p.places → WrongF w fv p.places p.wrong)

theorem PtIs.below {w w' : World} {cs : List Value} {p : Pt} (h : PtIs w cs p) (hb : Below w.heap.size w w') : PtIs w' cs p := by
  obtain ⟨fv, rfl, h1, h⟩ := h
  exact ⟨fv, rfl, h1, fun h0 => (h h0).below hb⟩

/-- Four numbers in cells of their own. -/
def F4 (w : World) (g : Nat) (f : Ft) : Prop := w.heap[g]? = some (.cells #[.int .i64 f.1, .int .i64 f.2.1, .int .i64 f.2.2.1, .int .i64 f.2.2.2] 33 (0, 0))

theorem f4_info : (Tryz.prog.info? 33).map (·.size) = some 4 := by kernel_rfl

theorem F4.set {w : World} {g : Nat} {f : Ft} (h : F4 w g f) (x : Ft) : F4 ((((w.setCell ⟨g, 0, none⟩ (.int .i64 x.1)).setCell ⟨g, 1, none⟩ (.int .i64 x.2.1)).setCell ⟨g, 2, none⟩ (.int .i64 x.2.2.1)).setCell ⟨g, 3, none⟩ (.int .i64 x.2.2.2)) g x :=
  heap_setCell_same _ g 3 _ 33 _ (heap_setCell_same _ g 2 _ 33 _ (heap_setCell_same _ g 1 _ 33 _ (heap_setCell_same _ g 0 _ 33 _ h)))

theorem F4.cells {w : World} {g : Nat} {f : Ft} (h : F4 w g f) : (w.cell? ⟨g, 0, none⟩ = some (.int .i64 f.1) ∧ w.frozen? ⟨g, 0, none⟩ = false) ∧ (w.cell? ⟨g, 1, none⟩ = some (.int .i64 f.2.1) ∧ w.frozen? ⟨g, 1, none⟩ = false) ∧
    (w.cell? ⟨g, 2, none⟩ = some (.int .i64 f.2.2.1) ∧ w.frozen? ⟨g, 2, none⟩ = false) ∧ (w.cell? ⟨g, 3, none⟩ = some (.int .i64 f.2.2.2) ∧ w.frozen? ⟨g, 3, none⟩ = false) := by
  unfold F4 at h
  refine ⟨⟨?_, ?_⟩, ⟨?_, ?_⟩, ⟨?_, ?_⟩, ⟨?_, ?_⟩⟩ <;> simp [World.cell?, World.frozen?, h]

theorem F4.below {w w' : World} {g : Nat} {f : Ft} (h : F4 w g f) (hb : Below w.heap.size w w') : F4 w' g f := (hb.block _ (Array.getElem?_eq_some_iff.1 h).1).trans h

theorem below_set4 {B : Nat} {w wr : World} (h : Below B w wr) {g : Nat} (hg : B ≤ g) (a b c d : Value) : Below B w ((((wr.setCell ⟨g, 0, none⟩ a).setCell ⟨g, 1, none⟩ b).setCell ⟨g, 2, none⟩ c).setCell ⟨g, 3, none⟩ d) :=
  (((h.setCell (p := ⟨g, 0, none⟩) hg _).setCell (p := ⟨g, 1, none⟩) hg _).setCell (p := ⟨g, 2, none⟩) hg _).setCell (p := ⟨g, 3, none⟩) hg _

theorem f4_end {fn : Func} {p g : Nat} {R : Ending → World → Prop} {a : Act} {w : World} (f : Ft) (hres : fn.results = #[.cell p 33]) (hp : a.tmps.getD p undef = .pointer (some ⟨g, 0, none⟩)) (hd : a.defers = [])
    (hg : F4 w g f) (hR : R (.returned f.v) w) : bodyPost Tryz.prog fn R .ret a w :=
  bodyPost_ret (v := f.v) (results_cell_row hres _ _ g 33 _ (0, 0) _ hp hg Tryz.underlying33 rfl f4_info) hd hR

/-- How the world stands: what was there, and the result's own cells. -/
def Rs (w wr : World) : Prop := Below w.heap.size w wr ∧ F4 wr w.heap.size (0, 0, 0, 0)

theorem Rs.call {w wr w' : World} (h : Rs w wr) (hb : Below wr.heap.size wr w') : Rs w w' :=
  ⟨h.1.trans (hb.mono h.1.size), h.2.below hb⟩

theorem wrap_next (K : Nat) (h : K < 9223372036854775807) : IntKind.i64.wrap ((K : Int) + 1) = (K : Int) + 1 := IntWalk.i64_in _ (by omega)

theorem ff_at (rule : Int) (l : List Pt) (K : Nat) (p : Pt) (h : l[K]? = some p) : ff rule (l.drop K) = if p.whole ≠ 0 then (p.whole, rule, p.number, 0) else match firstBad p.wrong 0 p.places with
    | some x => (x.2, rule, p.number, (x.1 : Int))
    | none => ff rule (l.drop (K + 1)) := by
  obtain ⟨hk, e⟩ := List.getElem?_eq_some_iff.1 h
  rw [List.drop_eq_getElem_cons hk, e]; rfl

set_option maxHeartbeats 2000000 in
set_option maxRecDepth 100000 in
theorem firstFault_any (rule : Int) (l : List Pt) (v : Value) (w : World) (h : SlOf w 4 (PtIs w) v l) (hl : l.length ≤ 100) (hp : ∀ p ∈ l, p.places ≤ 9223372036854775807) :
    Calls Tryz.prog 18 #[.int .i64 rule, v] w fun z w' => z = .returned (ff rule l).v ∧ Below w.heap.size w w' := by
  obtain ⟨a, cap, rfl, h⟩ := h.open
  have HS := Lib.hid h
  have HP := Lib.hid hp
  obtain ⟨N, hN⟩ : ∃ N, l.length = N := ⟨_, rfl⟩
  rw [hN] at hl HS ⊢
  have HL := Lib.hid hl
  have HN := Lib.hid hN
  obtain ⟨W0, hW0⟩ : ∃ W0, w.alloc (.cells #[.int .i64 0, .int .i64 0, .int .i64 0, .int .i64 0] 33) = W0 := ⟨_, rfl⟩
  have HR0 : Hid (Rs w W0) := Lib.hid ⟨by rw [← hW0]; exact (Below.refl w.heap.size w).alloc (Nat.le_refl _) _, by rw [← hW0]; exact heap_alloc_at _ _⟩
  clear hN hl h hp
  go_enter Tryz.func18, Tryz.ntmps18
  go_wp2_with fail
  go_loopw [11] (fun k wr => ∃ (K : Nat), k = .int .i64 (K : Int) ∧ K ≤ N ∧ Hid (Rs w wr) ∧ Hid (ff rule (l.drop K) = ff rule l)) (fun k _ => N - (intOf k).toNat)
  case atStart => exact ⟨0, rfl, Nat.zero_le _, HR0, Lib.hid rfl⟩
  case round =>
    obtain ⟨K, rfl, hK, HR, HI⟩ := hrel
    by_cases hlt : K < N
    · have hltI : (K : Int) < (N : Int) := by omega
      obtain ⟨p, hp⟩ : ∃ p, l[K]? = some p := ⟨_, List.getElem?_eq_getElem (by rw [HN.out]; exact hlt)⟩
      obtain ⟨b, off, ea, cs, -, ⟨fv, rfl, hfn, hF⟩, hc⟩ := HS.out.at hp
      subst ea
      have k0 := kept_cell HR.out.1 (hc 0 _ rfl)
      have k1 := kept_cell HR.out.1 (hc 1 _ rfl)
      have k2 := kept_cell HR.out.1 (hc 2 _ rfl)
      have k3 := kept_cell HR.out.1 (hc 3 _ rfl)
      have k0 : wr.cell? ⟨b, off + K * 4, none⟩ = some (.int .i64 p.number) := k0
      have hff := ff_at rule l K p hp
      have hpl := HP.out p (List.mem_of_getElem? hp)
      obtain ⟨num, who, pla, wrong⟩ := p
      simp only at k0 k1 k2 k3 hff hF hpl
      obtain ⟨W1, hW1⟩ : ∃ W1, wr.alloc (.cells #[.int .i64 num, .int .i64 who, .int .i64 (pla : Int), fv] 89) = W1 := ⟨_, rfl⟩
      have hB1 : Below wr.heap.size wr W1 := by rw [← hW1]; exact (Below.refl wr.heap.size wr).alloc (Nat.le_refl _) _
      obtain ⟨g, hg⟩ : ∃ g, wr.heap.size = g := ⟨_, rfl⟩
      have c0 : W1.cell? ⟨g, 0, none⟩ = some (.int .i64 num) := by rw [← hW1, ← hg]; unfold World.cell?; rw [heap_alloc_at]; rfl
      have c1 : W1.cell? ⟨g, 1, none⟩ = some (.int .i64 who) := by rw [← hW1, ← hg]; unfold World.cell?; rw [heap_alloc_at]; rfl
      have c2 : W1.cell? ⟨g, 2, none⟩ = some (.int .i64 (pla : Int)) := by rw [← hW1, ← hg]; unfold World.cell?; rw [heap_alloc_at]; rfl
      have c3 : W1.cell? ⟨g, 3, none⟩ = some fv := by rw [← hW1, ← hg]; unfold World.cell?; rw [heap_alloc_at]; rfl
      have HR1 := Lib.hid (HR.out.call hB1)
      have HF := Lib.hid (fun h0 => (hF h0).below HR1.out.1)
      clear hF hB1 hc hp
      have hst : ∀ (A : Addr) (m : Mode) (W : World), (store A fv m).run Tryz.prog W = stored Tryz.prog W A fv m := fun A m W => run_store Tryz.prog W A fv m hfn
      by_cases hw0 : who = 0
      · have hwb : (who == 0) = true := beq_iff_eq.2 hw0
        rw [if_neg (by simp [hw0])] at hff
        have HFF := Lib.hid hff
        clear hw0 hff
        have HPL := Lib.hid hpl
        clear hpl
        go_wp2_with fail
        clear c1
        go_loopw [26] (fun k2 wr => ∃ (J : Nat), k2 = .int .i64 (J : Int) ∧ J ≤ pla ∧ Hid (Rs w wr) ∧ Hid (Below W1.heap.size W1 wr) ∧ Hid (firstBad wrong J (pla - J) = firstBad wrong 0 pla)) (fun k2 _ => pla - (intOf k2).toNat)
        case atStart => exact ⟨0, rfl, Nat.zero_le _, HR1, Lib.hid (Below.refl _ _), Lib.hid rfl⟩
        case round =>
          obtain ⟨J, rfl, hJ, HR2, HB2, HJ⟩ := hrel
          by_cases hlt2 : J < pla
          · have hltI2 : (J : Int) < (pla : Int) := by omega
            have d0 := kept_cell HB2.out c0
            have d3 := kept_cell HB2.out c3
            obtain ⟨F, caps, rfl, hN', hcall⟩ := (HF.out (by omega)).below HB2.out
            have HN' := Lib.hid hN'
            have HC := Lib.hid (hcall _ (Below.refl _ _) J hlt2)
            have hfb : firstBad wrong J (pla - J) = if wrong J ≠ 0 then some (J, wrong J) else firstBad wrong (J + 1) (pla - (J + 1)) := by
              rw [show pla - J = (pla - (J + 1)) + 1 by omega]; exact firstBad_at _ _ _
            rw [hfb] at HJ
            unfold Ent at hN'
            have hwJ := wrap_next J (Nat.lt_of_lt_of_le hlt2 HPL.out)
            clear hcall hfb c0 c3
            go_wp2_with fail
            refine HC.out.mono ?_
            rintro _ w1 ⟨rfl, hb1⟩
            have HR3 := Lib.hid (HR2.out.call hb1)
            have HB3 := Lib.hid (HB2.out.trans (hb1.mono HB2.out.size))
            have d0 := kept_cell hb1 d0
            clear hb1 HC d3
            obtain ⟨e, he⟩ : ∃ e, wrong J = e := ⟨_, rfl⟩
            rw [he] at HJ ⊢
            clear he
            by_cases he0 : e = 0
            · have hb : (e == 0) = true := beq_iff_eq.2 he0
              rw [if_neg (by simp [he0])] at HJ
              clear he0
              go_wp2_with fail
              clear hwJ hltI2 hltI
              exact ⟨⟨J + 1, by go_num, by omega, HR3, HB3, HJ⟩, by simp [intOf]; omega⟩
            · have hb : (e == 0) = false := beq_eq_false_iff_ne.2 he0
              rw [if_pos he0] at HJ
              clear he0
              obtain ⟨⟨r0, s0⟩, ⟨r1, s1⟩, ⟨r2, s2⟩, r3, s3⟩ := HR3.out.2.cells
              go_wp2_with fail
              refine f4_end (e, rule, num, (J : Int)) rfl rfl rfl (HR3.out.2.set (e, rule, num, (J : Int))) ⟨?_, below_set4 HR3.out.1 (Nat.le_refl _) _ _ _ _⟩
              rw [← HI.out, HFF.out, ← HJ.out]
          · have hltI2 : ¬ (J : Int) < (pla : Int) := by omega
            have e : J = pla := by omega
            have hwK := wrap_next K (Nat.lt_of_lt_of_le hlt (Nat.le_trans HL.out (by decide)))
            go_wp2_with fail
            clear hwK hltI2 hltI
            refine ⟨⟨K + 1, by go_num, by omega, HR2, Lib.hid ?_⟩, by simp [intOf]; omega⟩
            rw [← HI.out, HFF.out, ← HJ.out, e, Nat.sub_self]
            rfl
      · have hwb : (who == 0) = false := beq_eq_false_iff_ne.2 hw0
        rw [if_pos hw0] at hff
        obtain ⟨⟨r0, s0⟩, ⟨r1, s1⟩, ⟨r2, s2⟩, r3, s3⟩ := HR1.out.2.cells
        have HFF := Lib.hid hff
        clear hw0 hff
        go_wp2_with fail
        refine f4_end (who, rule, num, 0) rfl rfl rfl (HR1.out.2.set (who, rule, num, 0)) ⟨?_, below_set4 HR1.out.1 (Nat.le_refl _) _ _ _ _⟩
        rw [← HI.out, HFF.out]
    · have hltI : ¬ (K : Int) < (N : Int) := by omega
      have e : K = N := by omega
      obtain ⟨⟨r0, s0⟩, ⟨r1, s1⟩, ⟨r2, s2⟩, r3, s3⟩ := HR.out.2.cells
      go_wp2_with fail
      refine f4_end (0, 0, 0, 0) rfl rfl rfl (HR.out.2.set (0, 0, 0, 0)) ⟨?_, below_set4 HR.out.1 (Nat.le_refl _) _ _ _ _⟩
      rw [← HI.out, e, ← HN.out, List.drop_length]; rfl
end Go.Proofs.YtfooiggedgcjcaaGreatDoor.R

namespace Go.Proofs.YtfooiggedgcjcaaGreatDoor.R
open Go Go.RowKit Go.Proofs.YtfooiggedgcjcaaGreatDoor.B Go.Proofs.YtfooiggedgcjcaaGreatDoor.K Go.Proofs.YtfooiggedgcjcaaGreatDoor.E
set_option linter.unusedVariables false

theorem calls_keep {P : Program} {f : Nat} {args : Array Value} {W : World} {r : Ending} {S : World → Prop} (hc : Calls P f args W (fun z w' => z = r ∧ W = w')) (hS : S W) : Calls P f args W (fun z w' => z = r ∧ S w') :=
  hc.mono (by rintro _ w' ⟨rfl, rfl⟩; exact ⟨rfl, hS⟩)

theorem sl_len {w : World} {v : Value} {xs : List Value} (h : Sl w v xs) : ∃ a cap, v = .slice a xs.length cap := by
  obtain ⟨a, cap, rfl, -⟩ := h; exact ⟨a, cap, rfl⟩

set_option maxHeartbeats 1000000 in
theorem names1_any (l : List Bs) (v : Value) (g k : Nat) (w : World) (h : SlB w v l) (hl : l.length ≤ 9223372036854775807) (hx : ∀ x ∈ l, x.length ≤ 9223372036854775807) (hG : I.Glob w) (hk : k < l.length) (hg : w.cell? ⟨g, 0, none⟩ = some v) :
    Calls Tryz.prog 83 #[.int .i64 (k : Int), .pointer (some ⟨g, 0, none⟩)] w fun z w' => z = .returned (.int .i64 (nameBad l k)) ∧ Below w.heap.size w w' := by
  obtain ⟨s, hs⟩ : ∃ s, l[k]? = some s := ⟨_, List.getElem?_eq_getElem hk⟩
  have hm : (l.map sv)[k]? = some (sv s) := by rw [List.getElem?_map, hs]; rfl
  have HS0 := Lib.hid h
  obtain ⟨a, cap, rfl⟩ := sl_len h
  rw [List.length_map] at HS0 hg
  obtain ⟨b, off, ea, hc⟩ := HS0.out.at hm
  subst ea
  obtain ⟨N, hN⟩ : ∃ N, l.length = N := ⟨_, rfl⟩
  rw [hN] at hk hg HS0
  have hkI : (k : Int) < (N : Int) := by omega
  have hres : nameBad l k = nameE s (decide (idxP (fun y => y == s) l < (k : Int))) := by
    unfold nameBad; rw [hs]; simp only
    rw [idxP_lt _ l k s hs (by simp)]
  rw [hres]
  have hsl := hx s (List.mem_of_getElem? hs)
  have HIX := Lib.hid (fun (W : World) (hS : W.cell? ⟨g, 0, none⟩ = some (.slice (some ⟨b, off, none⟩) N cap) ∧ W.cell? ⟨b, off + k, none⟩ = some (.string (str s)) ∧ Below w.heap.size w W) => calls_keep (S := (fun W => W.cell? ⟨g, 0, none⟩ = some (.slice (some ⟨b, off, none⟩) N cap) ∧ W.cell? ⟨b, off + k, none⟩ = some (.string (str s)) ∧ Below w.heap.size w W)) (indexStr_any l (.slice (some ⟨b, off, none⟩) N cap) s W (Sl.below HS0.out hS.2.2) (by omega)) hS)
  obtain ⟨i, hi⟩ : ∃ i, idxP (fun y => y == s) l = i := ⟨_, rfl⟩
  rw [hi] at HIX ⊢
  have HON := Lib.hid (fun (W : World) (hS : W.cell? ⟨g, 0, none⟩ = some (.slice (some ⟨b, off, none⟩) N cap) ∧ W.cell? ⟨b, off + k, none⟩ = some (.string (str s)) ∧ Below w.heap.size w W) => calls_keep (S := (fun W => W.cell? ⟨g, 0, none⟩ = some (.slice (some ⟨b, off, none⟩) N cap) ∧ W.cell? ⟨b, off + k, none⟩ = some (.string (str s)) ∧ Below w.heap.size w W)) (ofName_any s (decide (i < (k : Int))) W (hG.below hS.2.2) hsl) hS)
  have hS0 : w.cell? ⟨g, 0, none⟩ = some (.slice (some ⟨b, off, none⟩) N cap) ∧ w.cell? ⟨b, off + k, none⟩ = some (.string (str s)) ∧ Below w.heap.size w w := ⟨hg, hc, Below.refl _ _⟩
  unfold sv at HIX HON
  clear hm hs hres hi h hl hx hG HS0 hsl hN hg hc
  go_enter Tryz.func83, Tryz.ntmps83
  go_upto_region 1 with fail
  have hS0 : w.drew.cell? ⟨g, 0, none⟩ = some (.slice (some ⟨b, off, none⟩) N cap) ∧ w.drew.cell? ⟨b, off + k, none⟩ = some (.string (str s)) ∧ Below w.heap.size w w.drew := ⟨hS0.1, hS0.2.1, hS0.2.2.drew⟩
  go_region_held3 (fun W => W.cell? ⟨g, 0, none⟩ = some (.slice (some ⟨b, off, none⟩) N cap) ∧ W.cell? ⟨b, off + k, none⟩ = some (.string (str s)) ∧ Below w.heap.size w W) (first | exact hS0 | assumption) (first | (go_at_call 84; ((with_reducible refine (HIX.out _ ?_).mono ?_); (first | exact hS0 | assumption)); rintro _ w1 ⟨rfl, hS1⟩) | (go_at_call 45; ((with_reducible refine (HON.out _ ?_).mono ?_); (first | exact hS0 | assumption)); rintro _ w2 ⟨rfl, hS2⟩))
  all_goals
    go_wp2_with fail
    go_ret
    exact ⟨rfl, by first | exact hS2.2.2 | exact hS1.2.2⟩

theorem ent_names : Ent 83 := fun args w => enters_of Tryz.func83 (by kernel_rfl) rfl args w

theorem names_any (l : List Bs) (v : Value) (w : World) (h : SlB w v l) (hl : l.length ≤ 9223372036854775807) (hx : ∀ x ∈ l, x.length ≤ 9223372036854775807) (hG : I.Glob w) :
    Calls Tryz.prog 44 #[v] w fun z w' => (∃ fv, z = .returned fv ∧ fv.oneCell' = true ∧ WrongF w' fv l.length (nameBad l)) ∧ Below w.heap.size w w' := by
  have H0 := Lib.hid h
  obtain ⟨a, cap, rfl⟩ := sl_len h
  rw [List.length_map] at H0 ⊢
  obtain ⟨W1, hW1⟩ : ∃ W1, w.alloc (.cells #[.slice a l.length cap] 22) = W1 := ⟨_, rfl⟩
  have hB1 : Below w.heap.size w W1 := by rw [← hW1]; exact (Below.refl w.heap.size w).alloc (Nat.le_refl _) _
  have q0 : W1.cell? ⟨w.heap.size, 0, none⟩ = some (.slice a l.length cap) := by rw [← hW1]; unfold World.cell?; rw [heap_alloc_at]; rfl
  have HF : Hid (WrongF W1 (.func (.func 83) #[] #[.pointer (some ⟨w.heap.size, 0, none⟩)]) l.length (nameBad l)) :=
    Lib.hid ⟨_, _, rfl, ent_names, fun W hW k hk => names1_any l _ _ k W ((Sl.below H0.out hB1).below hW) hl hx ((hG.below hB1).below hW) hk (kept_cell hW q0)⟩
  have HB := Lib.hid hB1
  clear hl hx hG h q0 hB1 H0
  obtain ⟨N, hN⟩ : ∃ N, l.length = N := ⟨_, rfl⟩
  rw [hN] at HF hW1 ⊢
  clear hN
  go_enter Tryz.func44, Tryz.ntmps44
  go_wp2_with fail
  go_ret
  exact ⟨⟨_, rfl, rfl, HF.out⟩, HB.out⟩

theorem start1_any (l : List Int) (v : Value) (g k : Nat) (w : World) (h : SlN w v l) (hk : k < l.length) (hg : w.cell? ⟨g, 2, none⟩ = some v) :
    Calls Tryz.prog 42 #[.int .i64 (k : Int), .pointer (some ⟨g, 0, none⟩)] w fun z w' => z = .returned (.int .i64 (startBad l k)) ∧ Below w.heap.size w w' := by
  obtain ⟨x, hx⟩ : ∃ x, l[k]? = some x := ⟨_, List.getElem?_eq_getElem hk⟩
  have hm : (l.map fun n => Value.int .i64 n)[k]? = some (.int .i64 x) := by rw [List.getElem?_map, hx]; rfl
  have HS0 := Lib.hid h
  obtain ⟨a, cap, rfl⟩ := sl_len h
  rw [List.length_map] at HS0 hg
  obtain ⟨b, off, ea, hc⟩ := HS0.out.at hm
  subst ea
  obtain ⟨N, hN⟩ : ∃ N, l.length = N := ⟨_, rfl⟩
  rw [hN] at hk hg HS0
  have hkI : (k : Int) < (N : Int) := by omega
  have hres : startBad l k = unlessE (isVal x) 3 := by unfold startBad; rw [hx]
  rw [hres]
  have HU := Lib.hid (fun W => unless_any (isVal x) 3 W)
  have hv := isVal_iff x
  clear hm hx hres h HS0 hN
  by_cases h1 : -1099511627776 ≤ x
  · by_cases h2 : x ≤ 1099511627776
    · rw [hv.2 ⟨h1, h2⟩] at HU ⊢
      clear hv
      go_enter Tryz.func42, Tryz.ntmps42
      go_wp2_with (go_at_call 41; refine (HU.out _).mono ?_; rintro _ w1 ⟨rfl, rfl⟩)
      go_ret
      exact ⟨rfl, Below.refl _ _⟩
    · rw [show isVal x = false from by cases e : isVal x with | false => rfl | true => exact absurd (hv.1 e).2 h2] at HU ⊢
      clear hv
      go_enter Tryz.func42, Tryz.ntmps42
      go_wp2_with (go_at_call 41; refine (HU.out _).mono ?_; rintro _ w1 ⟨rfl, rfl⟩)
      go_ret
      exact ⟨rfl, Below.refl _ _⟩
  · rw [show isVal x = false from by cases e : isVal x with | false => rfl | true => exact absurd (hv.1 e).1 h1] at HU ⊢
    clear hv
    go_enter Tryz.func42, Tryz.ntmps42
    go_wp2_with (go_at_call 41; refine (HU.out _).mono ?_; rintro _ w1 ⟨rfl, rfl⟩)
    go_ret
    exact ⟨rfl, Below.refl _ _⟩

theorem ent_start : Ent 42 := fun args w => enters_of Tryz.func42 (by kernel_rfl) rfl args w

set_option maxHeartbeats 1000000 in
theorem from1_any (l : List Int) (v vt : Value) (S : Nat) (g gt k : Nat) (w : World) (h : SlN w v l) (hl : l.length ≤ 9223372036854775807) (hk : k < l.length) (hg : w.cell? ⟨g, 2, none⟩ = some v) (hS : ∃ a cap, vt = .slice a S cap) (ht : w.cell? ⟨gt, 0, none⟩ = some vt) :
    Calls Tryz.prog 87 #[.int .i64 (k : Int), .pointer (some ⟨g, 0, none⟩), .pointer (some ⟨gt, 0, none⟩)] w fun z w' => z = .returned (.int .i64 (fromBad S l k)) ∧ Below w.heap.size w w' := by
  obtain ⟨s, hs⟩ : ∃ s, l[k]? = some s := ⟨_, List.getElem?_eq_getElem hk⟩
  have hm : (l.map fun n => Value.int .i64 n)[k]? = some (.int .i64 s) := by rw [List.getElem?_map, hs]; rfl
  obtain ⟨ast, caps, rfl⟩ := hS
  have HS0 := Lib.hid h
  obtain ⟨a, cap, rfl⟩ := sl_len h
  rw [List.length_map] at HS0 hg
  obtain ⟨b, off, ea, hc⟩ := HS0.out.at hm
  subst ea
  obtain ⟨N, hN⟩ : ∃ N, l.length = N := ⟨_, rfl⟩
  rw [hN] at hk hg HS0
  have hkI : (k : Int) < (N : Int) := by omega
  have hres : fromBad S l k = placeE s S (decide (idxP (fun y => y == s) l < (k : Int))) := by
    unfold fromBad; rw [hs]; simp only
    rw [idxP_lt _ l k s hs (by simp)]
  rw [hres]
  have HIX := Lib.hid (fun (W : World) (hS : W.cell? ⟨g, 2, none⟩ = some (.slice (some ⟨b, off, none⟩) N cap) ∧ W.cell? ⟨b, off + k, none⟩ = some (.int .i64 s) ∧ W.cell? ⟨gt, 0, none⟩ = some (.slice ast S caps) ∧ Below w.heap.size w W) => calls_keep (S := fun W => W.cell? ⟨g, 2, none⟩ = some (.slice (some ⟨b, off, none⟩) N cap) ∧ W.cell? ⟨b, off + k, none⟩ = some (.int .i64 s) ∧ W.cell? ⟨gt, 0, none⟩ = some (.slice ast S caps) ∧ Below w.heap.size w W) (indexInt_any l (.slice (some ⟨b, off, none⟩) N cap) s W (Sl.below HS0.out hS.2.2.2) (by omega)) hS)
  obtain ⟨i, hi⟩ : ∃ i, idxP (fun y => y == s) l = i := ⟨_, rfl⟩
  rw [hi] at HIX ⊢
  have HON := Lib.hid (fun (W : World) (hS : W.cell? ⟨g, 2, none⟩ = some (.slice (some ⟨b, off, none⟩) N cap) ∧ W.cell? ⟨b, off + k, none⟩ = some (.int .i64 s) ∧ W.cell? ⟨gt, 0, none⟩ = some (.slice ast S caps) ∧ Below w.heap.size w W) => calls_keep (S := fun W => W.cell? ⟨g, 2, none⟩ = some (.slice (some ⟨b, off, none⟩) N cap) ∧ W.cell? ⟨b, off + k, none⟩ = some (.int .i64 s) ∧ W.cell? ⟨gt, 0, none⟩ = some (.slice ast S caps) ∧ Below w.heap.size w W) (ofPlace_any s S (decide (i < (k : Int))) W) hS)
  have hS0 : w.cell? ⟨g, 2, none⟩ = some (.slice (some ⟨b, off, none⟩) N cap) ∧ w.cell? ⟨b, off + k, none⟩ = some (.int .i64 s) ∧ w.cell? ⟨gt, 0, none⟩ = some (.slice ast S caps) ∧ Below w.heap.size w w := ⟨hg, hc, ht, Below.refl _ _⟩
  clear hm hs hres hi h hl HS0 hN hg hc ht
  go_enter Tryz.func87, Tryz.ntmps87
  go_upto_region 1 with fail
  have hS0 : w.drew.cell? ⟨g, 2, none⟩ = some (.slice (some ⟨b, off, none⟩) N cap) ∧ w.drew.cell? ⟨b, off + k, none⟩ = some (.int .i64 s) ∧ w.drew.cell? ⟨gt, 0, none⟩ = some (.slice ast S caps) ∧ Below w.heap.size w w.drew := ⟨hS0.1, hS0.2.1, hS0.2.2.1, hS0.2.2.2.drew⟩
  go_region_held3 (fun W => W.cell? ⟨g, 2, none⟩ = some (.slice (some ⟨b, off, none⟩) N cap) ∧ W.cell? ⟨b, off + k, none⟩ = some (.int .i64 s) ∧ W.cell? ⟨gt, 0, none⟩ = some (.slice ast S caps) ∧ Below w.heap.size w W) (first | exact hS0 | assumption) (first | (go_at_call 89; ((with_reducible refine (HIX.out _ ?_).mono ?_); (first | exact hS0 | assumption)); rintro _ w1 ⟨rfl, hS1⟩) | (go_at_call 88; ((with_reducible refine (HON.out _ ?_).mono ?_); (first | exact hS0 | assumption)); rintro _ w2 ⟨rfl, hS2⟩))
  all_goals
    go_wp2_with fail
    go_ret
    exact ⟨rfl, by first | exact hS2.2.2.2 | exact hS1.2.2.2⟩

theorem ent_from : Ent 87 := fun args w => enters_of Tryz.func87 (by kernel_rfl) rfl args w
end Go.Proofs.YtfooiggedgcjcaaGreatDoor.R

namespace Go.Proofs.YtfooiggedgcjcaaGreatDoor.E
open Go Go.RowKit Go.Proofs.YtfooiggedgcjcaaGreatDoor.B Go.Proofs.YtfooiggedgcjcaaGreatDoor.K
set_option linter.unusedVariables false

/-- Whether there is such an instruction, and how many numbers it takes. -/
def kn (o : Int) : Bool := decide (0 ≤ takes o)
def tk (o : Int) : Int := if 0 ≤ takes o then takes o else 0

theorem ops_all (o : Int) : (o = 1 ∨ o = 2 ∨ o = 3) ∨ (o = 4 ∨ o = 5) ∨ (o = 6 ∨ o = 7 ∨ o = 8 ∨ o = 9 ∨ o = 10 ∨ o = 11 ∨ o = 12 ∨ o = 13 ∨ o = 14 ∨ o = 15) ∨ o = 16 ∨ (o < 1 ∨ 16 < o) := by omega

set_option maxHeartbeats 400000 in
theorem takes_none (o : Int) (w : World) (h : o < 1 ∨ 16 < o) : Calls Tryz.prog 145 #[.int .i64 o] w fun e w' => e = .returned (.tuple #[.int .i64 0, .bool false]) ∧ w = w' := by
  have b1 : (o == 1) = false := by simp; omega
  have b2 : (o == 2) = false := by simp; omega
  have b3 : (o == 3) = false := by simp; omega
  have b4 : (o == 4) = false := by simp; omega
  have b5 : (o == 5) = false := by simp; omega
  have b6 : (o == 6) = false := by simp; omega
  have b7 : (o == 7) = false := by simp; omega
  have b8 : (o == 8) = false := by simp; omega
  have b9 : (o == 9) = false := by simp; omega
  have b10 : (o == 10) = false := by simp; omega
  have b11 : (o == 11) = false := by simp; omega
  have b12 : (o == 12) = false := by simp; omega
  have b13 : (o == 13) = false := by simp; omega
  have b14 : (o == 14) = false := by simp; omega
  have b15 : (o == 15) = false := by simp; omega
  have b16 : (o == 16) = false := by simp; omega
  clear h
  go_enter Tryz.func145, Tryz.ntmps145
  go_wp2_with fail
  go_ret2
  exact ⟨rfl, rfl⟩

set_option maxHeartbeats 1600000 in
theorem takes_any (o : Int) (w : World) : Calls Tryz.prog 145 #[.int .i64 o] w fun e w' => e = .returned (.tuple #[.int .i64 (tk o), .bool (kn o)]) ∧ w = w' := by
  rcases ops_all o with (rfl | rfl | rfl) | (rfl | rfl) | (rfl | rfl | rfl | rfl | rfl | rfl | rfl | rfl | rfl | rfl) | rfl | h
  all_goals first
    | (have ht : takes o = -1 := by (unfold takes; rw [if_pos h])
       have h1 : tk o = 0 := by (unfold tk; rw [ht]; rfl)
       have h2 : kn o = false := by (unfold kn; rw [ht]; rfl)
       rw [h1, h2]
       exact takes_none o w h)
    | (go_enter Tryz.func145, Tryz.ntmps145
       go_wp2_with fail
       go_ret2
       exact ⟨rfl, rfl⟩)

set_option maxHeartbeats 400000 in
theorem isValue_any (n : Int) (w : World) : Calls Tryz.prog 168 #[.int .i64 n] w fun e w' => e = .returned (.bool (isVal n)) ∧ w = w' := by
  by_cases h1 : -1099511627776 ≤ n
  · by_cases h2 : n ≤ 1099511627776
    · have hv : isVal n = true := (isVal_iff n).2 ⟨h1, h2⟩
      rw [hv]; clear hv
      go_enter Tryz.func168, Tryz.ntmps168
      go_wp2_with fail
      go_ret
      exact ⟨rfl, rfl⟩
    · have hv : isVal n = false := (isVal_not n).2 (by omega)
      have b2 : decide (n ≤ 1099511627776) = false := decide_eq_false h2
      rw [hv]; clear hv h2
      go_enter Tryz.func168, Tryz.ntmps168
      go_wp2_with fail
      go_ret
      exact ⟨rfl, rfl⟩
  · have hv : isVal n = false := (isVal_not n).2 (by omega)
    have b1 : decide (-1099511627776 ≤ n) = false := decide_eq_false h1
    rw [hv]; clear hv h1
    go_enter Tryz.func168, Tryz.ntmps168
    go_wp2_with fail
    go_ret
    exact ⟨rfl, rfl⟩

end Go.Proofs.YtfooiggedgcjcaaGreatDoor.E

namespace Go.Proofs.YtfooiggedgcjcaaGreatDoor.E
open Go Go.RowKit Go.Proofs.YtfooiggedgcjcaaGreatDoor.B Go.Proofs.YtfooiggedgcjcaaGreatDoor.K
set_option linter.unusedVariables false

set_option maxHeartbeats 800000 in
theorem fits_any (o x nv na : Int) (w : World) :
    Calls Tryz.prog 146 #[.agg #[.int .i64 o, .int .i64 x], .int .i64 nv, .int .i64 na] w fun e w' => e = .returned (.bool (right (o, x) nv na)) ∧ Below w.heap.size w w' := by
  by_cases o1 : o = 1
  · subst o1
    rw [right_one]
    go_enter Tryz.func146, Tryz.ntmps146
    go_wp2_with fail
    refine (isValue_any x _).mono ?_
    rintro _ w1 ⟨rfl, rfl⟩
    go_wp2_with fail
    go_ret
    exact ⟨rfl, (Below.refl _ _).alloc (Nat.le_refl _) _⟩
  by_cases o2 : o = 2
  · subst o2
    rw [right_two]
    by_cases x0 : 0 ≤ x
    · have hd : decide (0 ≤ x ∧ x < nv) = decide (x < nv) := by (rw [Bool.eq_iff_iff]; simp [x0])
      rw [hd]; clear hd
      go_enter Tryz.func146, Tryz.ntmps146
      go_wp2_with fail
      go_ret
      exact ⟨rfl, (Below.refl _ _).alloc (Nat.le_refl _) _⟩
    · have hd : decide (0 ≤ x ∧ x < nv) = false := decide_eq_false (by omega)
      have b0 : decide (0 ≤ x) = false := decide_eq_false x0
      rw [hd]; clear hd
      go_enter Tryz.func146, Tryz.ntmps146
      go_wp2_with fail
      go_ret
      exact ⟨rfl, (Below.refl _ _).alloc (Nat.le_refl _) _⟩
  by_cases o3 : o = 3
  · subst o3
    rw [right_three]
    by_cases x0 : 0 ≤ x
    · have hd : decide (0 ≤ x ∧ x < na) = decide (x < na) := by (rw [Bool.eq_iff_iff]; simp [x0])
      rw [hd]; clear hd
      go_enter Tryz.func146, Tryz.ntmps146
      go_wp2_with fail
      go_ret
      exact ⟨rfl, (Below.refl _ _).alloc (Nat.le_refl _) _⟩
    · have hd : decide (0 ≤ x ∧ x < na) = false := decide_eq_false (by omega)
      have b0 : decide (0 ≤ x) = false := decide_eq_false x0
      rw [hd]; clear hd
      go_enter Tryz.func146, Tryz.ntmps146
      go_wp2_with fail
      go_ret
      exact ⟨rfl, (Below.refl _ _).alloc (Nat.le_refl _) _⟩
  rw [right_other o x nv na o1 o2 o3]
  have b1 : (o == 1) = false := by simp [o1]
  have b2 : (o == 2) = false := by simp [o2]
  have b3 : (o == 3) = false := by simp [o3]
  have hx : decide (x = 0) = (x == 0) := by (rw [Bool.eq_iff_iff]; simp)
  rw [hx]
  clear o1 o2 o3 hx
  go_enter Tryz.func146, Tryz.ntmps146
  go_wp2_with fail
  go_ret
  exact ⟨rfl, (Below.refl _ _).alloc (Nat.le_refl _) _⟩

set_option maxHeartbeats 1000000 in
theorem checkLoop_any (code : List In) (v : Value) (nv na : Int) (w : World) (hs : SlI w v code) (hl : code.length ≤ 31) (hv : ¬ nv < 0) (ha : ¬ na < 0) :
    Calls Tryz.prog 119 #[v, .int .i64 nv, .int .i64 na] w fun e w' => e = .returned (.tuple #[.int .i64 (chk nv na code 0 0).1, .int .i64 (chk nv na code 0 0).2]) ∧ Below w.heap.size w w' := by
  have HS := Lib.hid hs
  obtain ⟨a, cap, rfl, -⟩ := hs
  have HL := Lib.hid hl
  obtain ⟨n, hN⟩ : ∃ n, code.length = n := ⟨_, rfl⟩
  rw [hN] at HL hl
  have HN := Lib.hid hN
  rw [hN] at HS ⊢
  have hl' : ¬ 31 < (n : Int) := by omega
  have bv : decide (nv < 0) = false := decide_eq_false hv
  have ba : decide (na < 0) = false := decide_eq_false ha
  clear hN hl hv ha
  go_enter Tryz.func119, Tryz.ntmps119
  go_wp2_with fail
  go_step3
  go_wp2_with fail
  go_step3
  go_wp2_with fail
  go_loopw [8, 9, 10, 11, 12] (fun k r e _ _ wr => ∃ (R : Int) (K : Nat), r = .int .i64 R ∧ k = .int .i64 (K : Int) ∧ e = .int .i64 0 ∧ K ≤ n ∧ 0 ≤ R ∧ R ≤ K ∧ Hid (chk nv na (code.drop K) K R = chk nv na code 0 0) ∧ Hid (Below w.heap.size w wr)) (fun k _ _ _ _ _ => n - (intOf k).toNat)
  case atStart => exact ⟨0, 0, rfl, rfl, rfl, Nat.zero_le _, by omega, by omega, rfl, Below.refl _ _⟩
  case round =>
    obtain ⟨R, K, rfl, rfl, rfl, hK, hR0, hR1, HD, HBE⟩ := hrel
    by_cases hlt : K < n
    · obtain ⟨i, hi⟩ : ∃ i, code[K]? = some i := ⟨_, List.getElem?_eq_getElem (by rw [HN.out]; exact hlt)⟩
      obtain ⟨b, off, rfl, h1, h2⟩ := (HS.out.below HBE.out).at hi
      obtain ⟨T, hT⟩ : ∃ T, takes i.1 = T := ⟨_, rfl⟩
      have hr := takes_range i.1
      have hd := chk_at nv na code K i hi R
      rw [hT] at hr hd
      rw [HD.out] at hd
      have htk : tk i.1 = if 0 ≤ T then T else 0 := by unfold tk; rw [hT]
      have hkn : kn i.1 = decide (0 ≤ T) := by unfold kn; rw [hT]
      have HTK := Lib.hid htk
      have HKN := Lib.hid hkn
      have HDD := Lib.hid hd
      have hwK : IntKind.i64.wrap ((K : Int) + 1) = (K : Int) + 1 := IntWalk.i64_in _ (by have := HL.out; omega)
      have hltI : (K : Int) < (n : Int) := by omega
      obtain ⟨o, x⟩ := i
      clear hT hd htk hkn hi HD
      by_cases hneg : T < 0
      · have hd2 := HDD.out
        rw [if_pos hneg] at hd2
        have HD2 := Lib.hid hd2; clear hd2
        have HT := Lib.hid (fun W => (show Calls Tryz.prog 145 #[.int .i64 o] W fun e w' => e = .returned (.tuple #[.int .i64 0, .bool false]) ∧ W = w' by have h := takes_any o W; rw [HTK.out, HKN.out, if_neg (by omega), decide_eq_false (by omega)] at h; exact h))
        clear HDD HTK HKN
        go_wp2_with fail
        refine (HT.out _).mono ?_
        rintro _ w1 ⟨rfl, rfl⟩
        go_wp2_with fail
        try rw [Exit.noGoto_ret]
        go_ret2
        exact ⟨ret_pair HD2.out.symm, HBE.out⟩
      have hn0 : 0 ≤ T := by omega
      have HT := Lib.hid (fun W => (show Calls Tryz.prog 145 #[.int .i64 o] W fun e w' => e = .returned (.tuple #[.int .i64 T, .bool true]) ∧ W = w' by have h := takes_any o W; rw [HTK.out, HKN.out, if_pos hn0, decide_eq_true hn0] at h; exact h))
      clear HTK HKN
      go_wp2_with fail
      refine (HT.out _).mono ?_
      rintro _ w1 ⟨rfl, rfl⟩
      cases hrt : right (o, x) nv na with
      | false =>
        have hd2 := HDD.out
        rw [if_neg (by omega), hrt, if_pos rfl] at hd2
        have HD2 := Lib.hid hd2
        have HF := Lib.hid (fun W => (show Calls Tryz.prog 146 #[.agg #[.int .i64 o, .int .i64 x], .int .i64 nv, .int .i64 na] W fun e w' => e = .returned (.bool false) ∧ Below W.heap.size W w' by rw [← hrt]; exact fits_any o x nv na W))
        clear hd2 hrt HDD
        go_wp2_with fail
        refine (HF.out _).mono ?_
        rintro _ w2 ⟨rfl, hb2⟩
        have HBE2 := Lib.hid (HBE.out.trans (hb2.mono HBE.out.size))
        clear hb2
        go_wp2_with fail
        try rw [Exit.noGoto_ret]
        go_ret2
        exact ⟨ret_pair HD2.out.symm, HBE2.out⟩
      | true =>
        have hd2 := HDD.out
        rw [if_neg (by omega), hrt, if_neg (by decide)] at hd2
        have HD2 := Lib.hid hd2
        have HF := Lib.hid (fun W => (show Calls Tryz.prog 146 #[.agg #[.int .i64 o, .int .i64 x], .int .i64 nv, .int .i64 na] W fun e w' => e = .returned (.bool true) ∧ Below W.heap.size W w' by rw [← hrt]; exact fits_any o x nv na W))
        clear hd2 hrt HDD
        go_wp2_with fail
        refine (HF.out _).mono ?_
        rintro _ w2 ⟨rfl, hb2⟩
        have HBE2 := Lib.hid (HBE.out.trans (hb2.mono HBE.out.size))
        clear hb2
        by_cases hsh : R < T
        · have hd2 := HD2.out
          rw [if_pos hsh] at hd2
          have HD3 := Lib.hid hd2; clear hd2
          go_wp2_with fail
          try rw [Exit.noGoto_ret]
          go_ret2
          exact ⟨ret_pair HD3.out.symm, HBE2.out⟩
        · have hd2 := HD2.out
          rw [if_neg hsh] at hd2
          have HD3 := Lib.hid hd2; clear hd2
          have hw1 : IntKind.i64.wrap (1 - T) = 1 - T := IntWalk.i64_in _ (by omega)
          have hw2 : IntKind.i64.wrap (R + (1 - T)) = R - T + 1 := by rw [show R + (1 - T) = R - T + 1 by omega]; exact IntWalk.i64_in _ (by have := HL.out; omega)
          go_wp2_with fail
          go_roundw
          case rel => exact ⟨R - T + 1, K + 1, by go_num, by go_num, rfl, by omega, by omega, by omega, HD3.out.symm, HBE2.out⟩
          case measure => simp [intOf]; omega
    · have hend : chk nv na code 0 0 = if R = 1 then (0, 0) else ((K : Int), 6) := by
        rw [← HD.out, List.drop_eq_nil_of_le (by rw [HN.out]; omega)]; rfl
      have hltI : ¬ (K : Int) < (n : Int) := by omega
      have hKn : K = n := by omega
      by_cases hR : R = 1
      · rw [if_pos hR] at hend
        have HE := Lib.hid hend; clear hend
        have bR : (R == 1) = true := by simp [hR]
        have bR' : (R != 1) = false := by simp [hR]
        clear hR hKn
        go_wp2_with fail
        try rw [Exit.noGoto_ret]
        go_ret2
        exact ⟨ret_pair HE.out.symm, HBE.out⟩
      · rw [if_neg hR] at hend
        have HE := Lib.hid hend; clear hend
        have bR : (R == 1) = false := by simp [hR]
        have bR' : (R != 1) = true := by simp [hR]
        clear hR hKn
        go_wp2_with fail
        try rw [Exit.noGoto_ret]
        go_ret2
        exact ⟨ret_pair HE.out.symm, HBE.out⟩

set_option maxHeartbeats 400000 in
theorem check_any (code : List In) (v : Value) (nv na : Int) (w : World) (hs : SlI w v code) (hl : code.length ≤ 9223372036854775807) :
    Calls Tryz.prog 119 #[v, .int .i64 nv, .int .i64 na] w fun e w' => e = .returned (.tuple #[.int .i64 (check code nv na).1, .int .i64 (check code nv na).2]) ∧ Below w.heap.size w w' := by
  by_cases hv : nv < 0
  · have hc : check code nv na = (0, 2) := by unfold check; rw [if_pos (Or.inl hv)]
    rw [hc]
    obtain ⟨a, cap, rfl, -⟩ := hs
    have bv : decide (nv < 0) = true := decide_eq_true hv
    clear hc hl hv
    go_enter Tryz.func119, Tryz.ntmps119
    go_wp2_with fail
    go_step3
    go_wp2_with fail
    try rw [Exit.noGoto_ret]
    go_ret2
    exact ⟨rfl, Below.refl _ _⟩
  by_cases ha : na < 0
  · have hc : check code nv na = (0, 2) := by unfold check; rw [if_pos (Or.inr ha)]
    rw [hc]
    obtain ⟨a, cap, rfl, -⟩ := hs
    have bv : decide (nv < 0) = false := decide_eq_false hv
    have ba : decide (na < 0) = true := decide_eq_true ha
    clear hc hl hv ha
    go_enter Tryz.func119, Tryz.ntmps119
    go_wp2_with fail
    go_step3
    go_wp2_with fail
    try rw [Exit.noGoto_ret]
    go_ret2
    exact ⟨rfl, Below.refl _ _⟩
  by_cases hb : 31 < code.length
  · have hc : check code nv na = (0, 4) := by unfold check; rw [if_neg (by omega), if_pos hb]
    rw [hc]
    obtain ⟨a, cap, rfl, -⟩ := hs
    have hbI : 31 < (code.length : Int) := by omega
    have bv : decide (nv < 0) = false := decide_eq_false hv
    have ba : decide (na < 0) = false := decide_eq_false ha
    clear hc hl hb hv ha
    go_enter Tryz.func119, Tryz.ntmps119
    go_wp2_with fail
    go_step3
    go_wp2_with fail
    try rw [Exit.noGoto_ret]
    go_ret2
    exact ⟨rfl, Below.refl _ _⟩
  · have hc : check code nv na = chk nv na code 0 0 := by unfold check; rw [if_neg (by omega), if_neg hb]
    rw [hc]
    exact checkLoop_any code v nv na w hs (by omega) hv ha
end Go.Proofs.YtfooiggedgcjcaaGreatDoor.E
