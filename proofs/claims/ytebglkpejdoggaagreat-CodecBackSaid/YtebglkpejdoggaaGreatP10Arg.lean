/-
  Layer 10: what the layers beneath answer, and what the landed codec answers.
  Layer 10: what was handed over (commands, records, lists), as it reads; none longer than memory is.
-/
import Derived.Test.YtebglkpejdoggaaGreatP8Lib
import Derived.Test.YtebglkpejdoggaaGreatP8RefD
import Derived.Test.YtebglkpejdoggaaGreatP9Ref
import Derived.Test.YtebglkpejdoggaaGreatVRdText
import Derived.Test.YtebglkpejdoggaaGreatP10Stp
import Derived.Test.YtebglkpejdoggaaGreatP10Le
import Derived.Test.YtebglkpejdoggaaGreatP10Lh
import Derived.Test.YtebglkpejdoggaaGreatP10Lk
import Derived.Test.YtebglkpejdoggaaGreatP10Lf
import Derived.Test.YtebglkpejdoggaaGreatP10Mem
import Derived.Test.YtebglkpejdoggaaGreatIArgs
import Derived.SizedLaws
import Derived.OpenShut
namespace Go.Proofs.YtebglkpejdoggaaGreat.C10
open Go Go.RowKit Go.Proofs Go.Proofs.YtebglkpejdoggaaGreat.B Go.Proofs.YtebglkpejdoggaaGreat.K Go.Proofs.YtebglkpejdoggaaGreat.P8
set_option linter.unusedVariables false
set_option maxRecDepth 100000

theorem refValue10_any (n : Int) (w : World) : Calls Tryz.prog 119 #[.int .i64 n] w fun e w' => e = .returned (.bool (valP n)) ∧ w = w' := by
  unfold valP inn
  by_cases h1 : -1099511627776 ≤ n
  · have d1 : decide (-1099511627776 ≤ n) = true := decide_eq_true h1
    by_cases h2 : n ≤ 1099511627776
    · have d2 : decide (n ≤ 1099511627776) = true := decide_eq_true h2
      rw [d1, d2]
      go_enter Tryz.func119, Tryz.ntmps119
      go_wp2_with fail
      go_ret
      exact ⟨rfl, rfl⟩
    · have d2 : decide (n ≤ 1099511627776) = false := decide_eq_false h2
      rw [d1, d2]
      go_enter Tryz.func119, Tryz.ntmps119
      go_wp2_with fail
      go_ret
      exact ⟨rfl, rfl⟩
  · have d1 : decide (-1099511627776 ≤ n) = false := decide_eq_false h1
    rw [d1]
    go_enter Tryz.func119, Tryz.ntmps119
    go_wp2_with fail
    go_ret
    exact ⟨rfl, rfl⟩
theorem low : Low where
  value := refValue10_any
  stream := fun s w h => refStream_any s h w
  less := fun a b w ha hb => less_any a b ha hb w
  right := fun l v w h hl => refRight9_any l v w h hl
  number := fun n w h => V.refNumber_any n w h.1 h.2
  ints := fun v v' xs w hn h h' => (V.ints_same v v' xs w hn h h').mono fun e w2 h2 => ⟨h2.1, h2.2⟩
  same := fun v v' xs w hn h h' => (V.same_same v v' xs w hn h h').mono fun e w2 h2 => ⟨h2.1, h2.2⟩
theorem cod : Cod where
  putCmd := fun c u w h hw => pPutCmd_any c u w h hw
  putRec := fun c u w h hw => pPutRecord_any c u w h hw
  putItems := fun l u w h hw => pPutItems_any l u w h hw
  putVds := fun l u w h hw => pPutVerdicts_any l u w h hw
  putFilt := fun l u w h hw => pPutFilter_any l u w h hw
  readCmd := fun s p w hs _ => (pReadCmd_any s p w hs).mono fun e w2 ⟨c, u, q, er, h1, h2, h3, h4⟩ => ⟨c, u, q, er, h1, h2, h3, by cases hr : rdCmd s p with | none => (rw [hr] at h4; exact h4) | some r => (rw [hr] at h4; exact h4)⟩
  readRec := fun s p w hs _ => (pReadRecord_any s p w hs).mono fun e w2 ⟨c, u, q, er, h1, h2, h3, h4⟩ => ⟨c, u, q, er, h1, h2, h3, by cases hr : rdRec s p with | none => (rw [hr] at h4; exact h4) | some r => (rw [hr] at h4; exact h4)⟩
  readItems := fun s p w hs _ => (pReadItems_any s p w hs).mono fun e w2 ⟨c, u, q, er, h1, h2, h3, h4⟩ => ⟨c, u, q, er, h1, h2, h3, by cases hr : rdItems s p with | none => (rw [hr] at h4; exact h4) | some r => (rw [hr] at h4; exact h4)⟩
  readVds := fun s p w hs _ => (pReadVerdicts_any s p w hs).mono fun e w2 ⟨c, u, q, er, h1, h2, h3, h4⟩ => ⟨c, u, q, er, h1, h2, h3, by cases hr : rdVds s p with | none => (rw [hr] at h4; exact h4) | some r => (rw [hr] at h4; exact h4)⟩
  readFilt := fun s p w hs _ => (pReadFilter_any s p w hs).mono fun e w2 ⟨c, u, q, er, h1, h2, h3, h4⟩ => ⟨c, u, q, er, h1, h2, h3, by cases hr : rdFilt s p with | none => (rw [hr] at h4; exact h4) | some r => (rw [hr] at h4; exact h4)⟩
end Go.Proofs.YtebglkpejdoggaaGreat.C10

namespace Go.Proofs.YtebglkpejdoggaaGreat.C10
open Go Go.RowKit Go.ChangeShapes Go.WideShapes Go.ChangeAt Go.Proofs Go.Proofs.YtebglkpejdoggaaGreat.B Go.Proofs.YtebglkpejdoggaaGreat.K Go.Proofs.YtebglkpejdoggaaGreat.P8
set_option linter.unusedVariables false
set_option maxRecDepth 100000

section
variable {H : Type} {enc : TypeId × Value → H} {W : World}
theorem reach_is : reachBytes = 140737488351232 := by decide
def Fits {P : Program} (t : TypeId) (d : DataW H) : Prop := ∀ m ∈ DataW.weights P t d, m ≤ reachBytes
theorem int_el {n : Nat} {c : Value} {z : DataW H × List MemPlace} (h : DataW.trod enc Tryz.prog W 0 (fun _ => true) true n 3 [c] = some z) : ∃ x, c = .int .i64 x ∧ I64 x := by
  obtain ⟨x, g, _, wx⟩ := DataW.trod_int Tryz.underlying3 h
  simp only [List.cons.injEq, and_true] at g
  refine ⟨x, g, ?_⟩
  have := wx
  simp [Lit.wf, IntKind.min, IntKind.max, IntKind.signed, IntKind.bits] at this
  exact this
theorem str_el {n : Nat} {c : Value} {z : DataW H × List MemPlace} (h : DataW.trod enc Tryz.prog W 0 (fun _ => true) true n 9 [c] = some z) (hb : Fits (P := Tryz.prog) 9 z.1) : ∃ s, c = .string (str s) ∧ TxWf s := by
  obtain ⟨s, g, hz, ws⟩ := DataW.trod_string Tryz.underlying9 h
  simp only [List.cons.injEq, and_true] at g
  have hm := hb s.data.toList.length (by rw [hz]; unfold DataW.weights; simp)
  rw [reach_is] at hm
  exact ⟨s.data.toList, by rw [g, str_eq], by unfold TxWf; omega⟩
theorem ints_el {n : Nat} {c : Value} {z : DataW H × List MemPlace} (h : DataW.trod enc Tryz.prog W 0 (fun _ => true) true n 39 [c] = some z) (hb : Fits (P := Tryz.prog) 39 z.1) : ∃ l, SlN W c l ∧ NsWf l := by
  obtain ⟨l, hs, hw, hl⟩ := ints_field Tryz.underlying39 Tryz.underlying3 (by kernel_rfl) h
  have hb8 : Tryz.prog.bytesOf 3 = 8 := by kernel_rfl
  refine ⟨l, hs, hw, ?_⟩
  obtain ⟨a, cap, rfl, _⟩ := hs
  rcases Go.Deep.open_slice Tryz.underlying39 h with ⟨hcs, _⟩ | ⟨a', len, cap', m, k, D, Pl, hcs, _, _, _, _, hx, _⟩
  · simp only [List.cons.injEq, Value.slice.injEq, and_true, List.length_map] at hcs
    omega
  · simp only [List.cons.injEq, Value.slice.injEq, and_true, List.length_map] at hcs
    have h1 := hb _ (by rw [hx]; unfold DataW.weights; rw [Tryz.underlying39]; exact List.mem_cons_self ..)
    rw [hb8, reach_is] at h1
    simp at h1
    omega
theorem weights_mem_all {P : Program} {e : TypeId} : ∀ {ds : List (DataW H)} {d : DataW H}, d ∈ ds → ∀ n ∈ d.weights P e, n ∈ DataW.weightsAll P e ds
  | x :: ds, d, h, n, hn => by
    unfold DataW.weightsAll
    rcases List.mem_cons.1 h with rfl | h
    · exact List.mem_append_left _ hn
    · exact List.mem_append_right _ (weights_mem_all h n hn)
theorem add_plain (b o i : Nat) : (⟨b, o, none⟩ : Addr).add i = ⟨b, o + i, none⟩ := by rw [Lib.addr_add]
instance : Inhabited Ev := ⟨⟨0, []⟩⟩
instance : Inhabited It := ⟨⟨[], ⟨0, 0, []⟩⟩⟩
instance : Inhabited Vd := ⟨⟨0, 0⟩⟩
/-- A slice of what lies in k cells each. -/
theorem list_el {X : Type} [Inhabited X] {P : Program} {t e : TypeId} {k : Nat} {Q : List Value → X → Prop} {R : X → Prop} (hu : P.underlying t = some (.slice e)) (hc : P.cellsOf e = k) (hk : 0 < k) (hby : 8 ≤ P.bytesOf e)
    (el : ∀ n cs z, DataW.trod enc P W 0 (fun _ => true) true n e cs = some z → Fits (P := P) e z.1 → ∃ x, Q cs x ∧ R x) {n : Nat} {c : Value} {z : DataW H × List MemPlace} (h : DataW.trod enc P W 0 (fun _ => true) true n t [c] = some z) (hb : Fits (P := P) t z.1) :
    ∃ l : List X, SlOf W k Q c l ∧ (∀ x ∈ l, R x) ∧ l.length ≤ 17592186044416 := by
  rcases Go.Deep.open_slice hu h with ⟨hcs, _⟩ | ⟨a, len, cap, m, n, D, Pl, hcs, _, hl, hm, hmm, hz, hx⟩
  · simp at hcs
    subst hcs
    exact ⟨[], SlOf.nil W k _, by simp, by simp⟩
  · simp at hcs
    subst hcs
    rw [hc] at hx
    have hm' : m = cap := by simpa using hmm
    have hlen : len ≤ 17592186044416 := by
      have h1 := hb _ (by rw [hz]; unfold DataW.weights; rw [hu]; exact List.mem_cons_self ..)
      rw [reach_is] at h1
      simp only [List.length_map, List.length_range] at h1
      have h2 := Nat.mul_le_mul_left (len + (m - len)) hby
      omega
    have hD : ∀ i, i < m → Fits (P := P) e (D i) := by
      intro i hi k hk
      refine hb k ?_
      rw [hz]
      unfold DataW.weights
      rw [hu]
      simp only [List.mem_cons, List.mem_append]
      right
      by_cases hil : i < len
      · exact Or.inl (weights_mem_all (List.mem_map.2 ⟨i, List.mem_range.2 hil, rfl⟩) k hk)
      · exact Or.inr (weights_mem_all (List.mem_map.2 ⟨i - len, List.mem_range.2 (by omega), by rw [show len + (i - len) = i by omega]⟩) k hk)
    obtain ⟨F, hF⟩ := Go.Deep.choose_lt (α := X × List Value) (n := m) (p := fun i x => x.2.length = k ∧ Q x.2 x.1 ∧ R x.1 ∧ ∀ j c, x.2[j]? = some c → W.cell? ((a.add (i * k)).add j) = some c) (fun i hi => by
      obtain ⟨cs', h1, h2⟩ := hx i hi
      obtain ⟨_, hlen, hcell⟩ := World.cells?_some h1
      obtain ⟨x, q, r⟩ := el _ _ _ h2 (hD i hi)
      refine ⟨(x, cs'), hlen, q, r, fun j c hj => ?_⟩
      have hjl := (List.getElem?_eq_some_iff.1 hj).1
      rw [hcell j (by simpa using hlen ▸ hjl)]
      exact hj)
    refine ⟨(List.range len).map fun i => (F i).1, ⟨some a, cap, by simp, fun j i hj => ?_⟩, fun x hxm => ?_, by simpa using hlen⟩
    · have hjl : j < len := by
        have := (List.getElem?_eq_some_iff.1 hj).1
        simpa using this
      rw [List.getElem?_map, List.getElem?_range hjl] at hj
      have hj' : (F j).1 = i := by simpa using hj
      obtain ⟨c0, c1, c2, c3⟩ := hF j (by omega)
      rw [hj'] at c1
      obtain ⟨b, off, spot⟩ := a
      have hs : spot = none := by
        obtain ⟨z0, _, _, z3⟩ := hF 0 (by omega)
        have hk0 : 0 < (F 0).2.length := by omega
        have := World.cell?_spot (z3 0 _ (List.getElem?_eq_getElem hk0))
        simpa [Addr.add] using this
      subst hs
      refine ⟨b, off, rfl, (F j).2, c0, c1, fun i c hi => ?_⟩
      have := c3 i c hi
      rw [add_plain, add_plain] at this
      exact this
    · obtain ⟨j, hj, rfl⟩ := List.mem_map.1 hxm
      exact (hF j (by have := List.mem_range.1 hj; omega)).2.2.1
theorem ev_el {n : Nat} {cs : List Value} {z : DataW H × List MemPlace} (h : DataW.trod enc Tryz.prog W 0 (fun _ => true) true n 133 cs = some z) (hb : Fits (P := Tryz.prog) 133 z.1) : ∃ g, EvIs W cs g ∧ EvWf g := by
  obtain ⟨xs, k, _, hx, hcl, hxl, hg⟩ := DataW.trod_struct Tryz.underlying133 h
  have hcn : cs.length = 2 := hcl.trans (by kernel_rfl)
  obtain ⟨c0, c1, rfl⟩ : ∃ c0 c1, cs = [c0, c1] := by
    match cs, hcn with
    | [c0, c1], _ => exact ⟨c0, c1, rfl⟩
  obtain ⟨y0, y1, rfl⟩ : ∃ y0 y1, xs = [y0, y1] := by
    match xs, hxl with
    | [y0, y1], _ => exact ⟨y0, y1, rfl⟩
  subst hx
  have hf : ∀ m ∈ DataW.weightsEach Tryz.prog [3, 39] [y0.1, y1.1], m ≤ reachBytes := fun m hm => hb m (by
    unfold DataW.weights
    rw [Tryz.underlying133]
    exact hm)
  have t0 : DataW.trod enc Tryz.prog W 0 (fun _ => true) true k 3 [c0] = some y0 := hg 0 _ rfl
  have b0 : Fits (P := Tryz.prog) 3 y0.1 := fun m hm => hf m (DataW.weights_mem_each (j := 0) (t := 3) rfl rfl m hm)
  have t1 : DataW.trod enc Tryz.prog W 0 (fun _ => true) true k 39 [c1] = some y1 := hg 1 _ rfl
  have b1 : Fits (P := Tryz.prog) 39 y1.1 := fun m hm => hf m (DataW.weights_mem_each (j := 1) (t := 39) rfl rfl m hm)
  obtain ⟨x, rfl, hx0⟩ := int_el t0
  obtain ⟨l, h1, h2⟩ := ints_el t1 b1
  exact ⟨⟨x, l⟩, ⟨c1, rfl, h1⟩, hx0, h2⟩
theorem evs_el {n : Nat} {c : Value} {z : DataW H × List MemPlace} (h : DataW.trod enc Tryz.prog W 0 (fun _ => true) true n 42 [c] = some z) (hb : Fits (P := Tryz.prog) 42 z.1) : ∃ l, EvsIs W c l ∧ EvsWf l := by
  obtain ⟨l, h1, h2, h3⟩ := list_el (X := Ev) (k := 2) (Q := EvIs W) (R := EvWf) Tryz.underlying42 (by kernel_rfl) (by decide) (by rw [show Tryz.prog.bytesOf 133 = 32 by kernel_rfl]; decide) (fun n cs z h hb => ev_el h hb) h hb
  exact ⟨l, h1, h2, h3⟩
theorem cm_el {n : Nat} {cs : List Value} {z : DataW H × List MemPlace} (h : DataW.trod enc Tryz.prog W 0 (fun _ => true) true n 41 cs = some z) (hb : Fits (P := Tryz.prog) 41 z.1) : ∃ (g : Cm) (u : Value), cs = [.int .i64 g.client, .int .i64 g.seq, .string (str g.stream), .int .i64 g.rule, u, .int .i64 g.expect] ∧ SlN W u g.args ∧ CmWf g := by
  obtain ⟨xs, k, _, hx, hcl, hxl, hg⟩ := DataW.trod_struct Tryz.underlying41 h
  have hcn : cs.length = 6 := hcl.trans (by kernel_rfl)
  obtain ⟨c0, c1, c2, c3, c4, c5, rfl⟩ : ∃ c0 c1 c2 c3 c4 c5, cs = [c0, c1, c2, c3, c4, c5] := by
    match cs, hcn with
    | [c0, c1, c2, c3, c4, c5], _ => exact ⟨c0, c1, c2, c3, c4, c5, rfl⟩
  obtain ⟨y0, y1, y2, y3, y4, y5, rfl⟩ : ∃ y0 y1 y2 y3 y4 y5, xs = [y0, y1, y2, y3, y4, y5] := by
    match xs, hxl with
    | [y0, y1, y2, y3, y4, y5], _ => exact ⟨y0, y1, y2, y3, y4, y5, rfl⟩
  subst hx
  have hf : ∀ m ∈ DataW.weightsEach Tryz.prog [3, 3, 9, 3, 39, 3] [y0.1, y1.1, y2.1, y3.1, y4.1, y5.1], m ≤ reachBytes := fun m hm => hb m (by
    unfold DataW.weights
    rw [Tryz.underlying41]
    exact hm)
  have t0 : DataW.trod enc Tryz.prog W 0 (fun _ => true) true k 3 [c0] = some y0 := hg 0 _ rfl
  have b0 : Fits (P := Tryz.prog) 3 y0.1 := fun m hm => hf m (DataW.weights_mem_each (j := 0) (t := 3) rfl rfl m hm)
  have t1 : DataW.trod enc Tryz.prog W 0 (fun _ => true) true k 3 [c1] = some y1 := hg 1 _ rfl
  have b1 : Fits (P := Tryz.prog) 3 y1.1 := fun m hm => hf m (DataW.weights_mem_each (j := 1) (t := 3) rfl rfl m hm)
  have t2 : DataW.trod enc Tryz.prog W 0 (fun _ => true) true k 9 [c2] = some y2 := hg 2 _ rfl
  have b2 : Fits (P := Tryz.prog) 9 y2.1 := fun m hm => hf m (DataW.weights_mem_each (j := 2) (t := 9) rfl rfl m hm)
  have t3 : DataW.trod enc Tryz.prog W 0 (fun _ => true) true k 3 [c3] = some y3 := hg 3 _ rfl
  have b3 : Fits (P := Tryz.prog) 3 y3.1 := fun m hm => hf m (DataW.weights_mem_each (j := 3) (t := 3) rfl rfl m hm)
  have t4 : DataW.trod enc Tryz.prog W 0 (fun _ => true) true k 39 [c4] = some y4 := hg 4 _ rfl
  have b4 : Fits (P := Tryz.prog) 39 y4.1 := fun m hm => hf m (DataW.weights_mem_each (j := 4) (t := 39) rfl rfl m hm)
  have t5 : DataW.trod enc Tryz.prog W 0 (fun _ => true) true k 3 [c5] = some y5 := hg 5 _ rfl
  have b5 : Fits (P := Tryz.prog) 3 y5.1 := fun m hm => hf m (DataW.weights_mem_each (j := 5) (t := 3) rfl rfl m hm)
  obtain ⟨x0, rfl, h0⟩ := int_el t0
  obtain ⟨x1, rfl, h1⟩ := int_el t1
  obtain ⟨s, rfl, h2⟩ := str_el t2 b2
  obtain ⟨x3, rfl, h3⟩ := int_el t3
  obtain ⟨l, h4, h5⟩ := ints_el t4 b4
  obtain ⟨x5, rfl, h6⟩ := int_el t5
  exact ⟨⟨x0, x1, s, x3, l, x5⟩, c4, rfl, h4, h0, h1, h2, h3, h5, h6⟩
theorem rc_el {n : Nat} {cs : List Value} {z : DataW H × List MemPlace} (h : DataW.trod enc Tryz.prog W 0 (fun _ => true) true n 44 cs = some z) (hb : Fits (P := Tryz.prog) 44 z.1) : ∃ (g : Rc) (u : Value), cs = [.int .i64 g.client, .int .i64 g.seq, .string (str g.stream), .int .i64 g.code, u] ∧ EvsIs W u g.events ∧ RcWf g := by
  obtain ⟨xs, k, _, hx, hcl, hxl, hg⟩ := DataW.trod_struct Tryz.underlying44 h
  have hcn : cs.length = 5 := hcl.trans (by kernel_rfl)
  obtain ⟨c0, c1, c2, c3, c4, rfl⟩ : ∃ c0 c1 c2 c3 c4, cs = [c0, c1, c2, c3, c4] := by
    match cs, hcn with
    | [c0, c1, c2, c3, c4], _ => exact ⟨c0, c1, c2, c3, c4, rfl⟩
  obtain ⟨y0, y1, y2, y3, y4, rfl⟩ : ∃ y0 y1 y2 y3 y4, xs = [y0, y1, y2, y3, y4] := by
    match xs, hxl with
    | [y0, y1, y2, y3, y4], _ => exact ⟨y0, y1, y2, y3, y4, rfl⟩
  subst hx
  have hf : ∀ m ∈ DataW.weightsEach Tryz.prog [3, 3, 9, 3, 42] [y0.1, y1.1, y2.1, y3.1, y4.1], m ≤ reachBytes := fun m hm => hb m (by
    unfold DataW.weights
    rw [Tryz.underlying44]
    exact hm)
  have t0 : DataW.trod enc Tryz.prog W 0 (fun _ => true) true k 3 [c0] = some y0 := hg 0 _ rfl
  have b0 : Fits (P := Tryz.prog) 3 y0.1 := fun m hm => hf m (DataW.weights_mem_each (j := 0) (t := 3) rfl rfl m hm)
  have t1 : DataW.trod enc Tryz.prog W 0 (fun _ => true) true k 3 [c1] = some y1 := hg 1 _ rfl
  have b1 : Fits (P := Tryz.prog) 3 y1.1 := fun m hm => hf m (DataW.weights_mem_each (j := 1) (t := 3) rfl rfl m hm)
  have t2 : DataW.trod enc Tryz.prog W 0 (fun _ => true) true k 9 [c2] = some y2 := hg 2 _ rfl
  have b2 : Fits (P := Tryz.prog) 9 y2.1 := fun m hm => hf m (DataW.weights_mem_each (j := 2) (t := 9) rfl rfl m hm)
  have t3 : DataW.trod enc Tryz.prog W 0 (fun _ => true) true k 3 [c3] = some y3 := hg 3 _ rfl
  have b3 : Fits (P := Tryz.prog) 3 y3.1 := fun m hm => hf m (DataW.weights_mem_each (j := 3) (t := 3) rfl rfl m hm)
  have t4 : DataW.trod enc Tryz.prog W 0 (fun _ => true) true k 42 [c4] = some y4 := hg 4 _ rfl
  have b4 : Fits (P := Tryz.prog) 42 y4.1 := fun m hm => hf m (DataW.weights_mem_each (j := 4) (t := 42) rfl rfl m hm)
  obtain ⟨x0, rfl, h0⟩ := int_el t0
  obtain ⟨x1, rfl, h1⟩ := int_el t1
  obtain ⟨s, rfl, h2⟩ := str_el t2 b2
  obtain ⟨x3, rfl, h3⟩ := int_el t3
  obtain ⟨l, h4, h5⟩ := evs_el t4 b4
  exact ⟨⟨x0, x1, s, x3, l⟩, c4, rfl, h4, h0, h1, h2, h3, h5⟩
theorem st_el {n : Nat} {cs : List Value} {z : DataW H × List MemPlace} (h : DataW.trod enc Tryz.prog W 0 (fun _ => true) true n 71 cs = some z) (hb : Fits (P := Tryz.prog) 71 z.1) : ∃ (g : St) (u : Value), cs = [.int .i64 g.pos, .int .i64 g.ver, u] ∧ SlN W u g.vars ∧ StWf g := by
  obtain ⟨xs, k, _, hx, hcl, hxl, hg⟩ := DataW.trod_struct Tryz.underlying71 h
  have hcn : cs.length = 3 := hcl.trans (by kernel_rfl)
  obtain ⟨c0, c1, c2, rfl⟩ : ∃ c0 c1 c2, cs = [c0, c1, c2] := by
    match cs, hcn with
    | [c0, c1, c2], _ => exact ⟨c0, c1, c2, rfl⟩
  obtain ⟨y0, y1, y2, rfl⟩ : ∃ y0 y1 y2, xs = [y0, y1, y2] := by
    match xs, hxl with
    | [y0, y1, y2], _ => exact ⟨y0, y1, y2, rfl⟩
  subst hx
  have hf : ∀ m ∈ DataW.weightsEach Tryz.prog [3, 3, 39] [y0.1, y1.1, y2.1], m ≤ reachBytes := fun m hm => hb m (by
    unfold DataW.weights
    rw [Tryz.underlying71]
    exact hm)
  have t0 : DataW.trod enc Tryz.prog W 0 (fun _ => true) true k 3 [c0] = some y0 := hg 0 _ rfl
  have b0 : Fits (P := Tryz.prog) 3 y0.1 := fun m hm => hf m (DataW.weights_mem_each (j := 0) (t := 3) rfl rfl m hm)
  have t1 : DataW.trod enc Tryz.prog W 0 (fun _ => true) true k 3 [c1] = some y1 := hg 1 _ rfl
  have b1 : Fits (P := Tryz.prog) 3 y1.1 := fun m hm => hf m (DataW.weights_mem_each (j := 1) (t := 3) rfl rfl m hm)
  have t2 : DataW.trod enc Tryz.prog W 0 (fun _ => true) true k 39 [c2] = some y2 := hg 2 _ rfl
  have b2 : Fits (P := Tryz.prog) 39 y2.1 := fun m hm => hf m (DataW.weights_mem_each (j := 2) (t := 39) rfl rfl m hm)
  obtain ⟨x0, rfl, h0⟩ := int_el t0
  obtain ⟨x1, rfl, h1⟩ := int_el t1
  obtain ⟨l, h4, h5⟩ := ints_el t2 b2
  exact ⟨⟨x0, x1, l⟩, c2, rfl, h4, h0, h1, h5⟩
theorem it_el {n : Nat} {cs : List Value} {z : DataW H × List MemPlace} (h : DataW.trod enc Tryz.prog W 0 (fun _ => true) true n 73 cs = some z) (hb : Fits (P := Tryz.prog) 73 z.1) : ∃ g, ItIs W cs g ∧ ItWf g := by
  obtain ⟨xs, k, _, hx, hcl, hxl, hg⟩ := DataW.trod_struct Tryz.underlying73 h
  have hcn : cs.length = 4 := hcl.trans (by kernel_rfl)
  obtain ⟨c0, c1, c2, c3, rfl⟩ : ∃ c0 c1 c2 c3, cs = [c0, c1, c2, c3] := by
    match cs, hcn with
    | [c0, c1, c2, c3], _ => exact ⟨c0, c1, c2, c3, rfl⟩
  obtain ⟨y0, y1, rfl⟩ : ∃ y0 y1, xs = [y0, y1] := by
    match xs, hxl with
    | [y0, y1], _ => exact ⟨y0, y1, rfl⟩
  subst hx
  have hf : ∀ m ∈ DataW.weightsEach Tryz.prog [9, 71] [y0.1, y1.1], m ≤ reachBytes := fun m hm => hb m (by
    unfold DataW.weights
    rw [Tryz.underlying73]
    exact hm)
  have t0 : DataW.trod enc Tryz.prog W 0 (fun _ => true) true k 9 [c0] = some y0 := hg 0 _ rfl
  have b0 : Fits (P := Tryz.prog) 9 y0.1 := fun m hm => hf m (DataW.weights_mem_each (j := 0) (t := 9) rfl rfl m hm)
  have t1 : DataW.trod enc Tryz.prog W 0 (fun _ => true) true k 71 [c1, c2, c3] = some y1 := hg 1 _ rfl
  have b1 : Fits (P := Tryz.prog) 71 y1.1 := fun m hm => hf m (DataW.weights_mem_each (j := 1) (t := 71) rfl rfl m hm)
  obtain ⟨s, rfl, h2⟩ := str_el t0 b0
  obtain ⟨g, u, he, h3, h4⟩ := st_el t1 b1
  cases he
  exact ⟨⟨s, g⟩, ⟨_, rfl, h3⟩, h2, h4⟩
theorem its_el {n : Nat} {c : Value} {z : DataW H × List MemPlace} (h : DataW.trod enc Tryz.prog W 0 (fun _ => true) true n 22 [c] = some z) (hb : Fits (P := Tryz.prog) 22 z.1) : ∃ l, ItsIs W c l ∧ ItsWf l := by
  obtain ⟨l, h1, h2, h3⟩ := list_el (X := It) (k := 4) (Q := ItIs W) (R := ItWf) Tryz.underlying22 (by kernel_rfl) (by decide) (by rw [show Tryz.prog.bytesOf 73 = 56 by kernel_rfl]; decide) (fun n cs z h hb => it_el h hb) h hb
  exact ⟨l, h1, h2, h3⟩
theorem vd_el {n : Nat} {cs : List Value} {z : DataW H × List MemPlace} (h : DataW.trod enc Tryz.prog W 0 (fun _ => true) true n 81 cs = some z) (hb : Fits (P := Tryz.prog) 81 z.1) : ∃ g, VdIs cs g ∧ VdWf g := by
  obtain ⟨xs, k, _, hx, hcl, hxl, hg⟩ := DataW.trod_struct Tryz.underlying81 h
  have hcn : cs.length = 2 := hcl.trans (by kernel_rfl)
  obtain ⟨c0, c1, rfl⟩ : ∃ c0 c1, cs = [c0, c1] := by
    match cs, hcn with
    | [c0, c1], _ => exact ⟨c0, c1, rfl⟩
  obtain ⟨y0, y1, rfl⟩ : ∃ y0 y1, xs = [y0, y1] := by
    match xs, hxl with
    | [y0, y1], _ => exact ⟨y0, y1, rfl⟩
  subst hx
  have hf : ∀ m ∈ DataW.weightsEach Tryz.prog [3, 3] [y0.1, y1.1], m ≤ reachBytes := fun m hm => hb m (by
    unfold DataW.weights
    rw [Tryz.underlying81]
    exact hm)
  have t0 : DataW.trod enc Tryz.prog W 0 (fun _ => true) true k 3 [c0] = some y0 := hg 0 _ rfl
  have b0 : Fits (P := Tryz.prog) 3 y0.1 := fun m hm => hf m (DataW.weights_mem_each (j := 0) (t := 3) rfl rfl m hm)
  have t1 : DataW.trod enc Tryz.prog W 0 (fun _ => true) true k 3 [c1] = some y1 := hg 1 _ rfl
  have b1 : Fits (P := Tryz.prog) 3 y1.1 := fun m hm => hf m (DataW.weights_mem_each (j := 1) (t := 3) rfl rfl m hm)
  obtain ⟨x0, rfl, h0⟩ := int_el t0
  obtain ⟨x1, rfl, h1⟩ := int_el t1
  exact ⟨⟨x0, x1⟩, rfl, h0, h1⟩
theorem vds_el {n : Nat} {c : Value} {z : DataW H × List MemPlace} (h : DataW.trod enc Tryz.prog W 0 (fun _ => true) true n 23 [c] = some z) (hb : Fits (P := Tryz.prog) 23 z.1) : ∃ l, VdsIs W c l ∧ VdsWf l := by
  obtain ⟨l, h1, h2, h3⟩ := list_el (X := Vd) (k := 2) (Q := VdIs) (R := VdWf) Tryz.underlying23 (by kernel_rfl) (by decide) (by rw [show Tryz.prog.bytesOf 81 = 16 by kernel_rfl]; decide) (fun n cs z h hb => vd_el h hb) h hb
  exact ⟨l, h1, h2, h3⟩
theorem fl_el {n : Nat} {c : Value} {z : DataW H × List MemPlace} (h : DataW.trod enc Tryz.prog W 0 (fun _ => true) true n 24 [c] = some z) (hb : Fits (P := Tryz.prog) 24 z.1) : ∃ l, SlT W c l ∧ FlWf l := by
  obtain ⟨l, ⟨a, cap, rfl, hs⟩, h2, h3⟩ := list_el (X := List UInt8) (k := 1) (Q := fun cs x => cs = [sv x]) (R := TxWf) Tryz.underlying24 (by kernel_rfl) (by decide) (by rw [show Tryz.prog.bytesOf 9 = 16 by kernel_rfl]; decide) (fun n cs z h hb => by
    obtain ⟨s, g, _, _⟩ := DataW.trod_string Tryz.underlying9 h
    subst g
    obtain ⟨x, hx, hw⟩ := str_el h hb
    exact ⟨x, by rw [hx]; rfl, hw⟩) h hb
  refine ⟨l, ⟨a, cap, by rw [List.length_map], fun j u hj => ?_⟩, h2, h3⟩
  rw [List.getElem?_map] at hj
  cases hz : l[j]? with
  | none => rw [hz] at hj; cases hj
  | some x =>
    rw [hz] at hj
    cases hj
    obtain ⟨b, off, rfl, cs, _, rfl, hc⟩ := hs j x hz
    refine ⟨b, off, rfl, ?_⟩
    have := hc 0 _ rfl
    rw [Nat.mul_one] at this
    exact this
theorem laid_el {n : Nat} {cs : List Value} {z : DataW H × List MemPlace} (h : DataW.trod enc Tryz.prog W 0 (fun _ => true) true n 46 cs = some z) (hb : Fits (P := Tryz.prog) 46 z.1) : ∃ (A B : List UInt8) (c : Cm) (r : Rc) (l : List It) (v : List Vd) (p : List (List UInt8)) (uu uv ux uy uz : Value), cs = [.string (str A), .string (str B), .int .i64 c.client, .int .i64 c.seq, .string (str c.stream), .int .i64 c.rule, uu, .int .i64 c.expect, .int .i64 r.client, .int .i64 r.seq, .string (str r.stream), .int .i64 r.code, uv, ux, uy, uz] ∧ A.length ≤ 140737488355328 ∧ B.length ≤ 140737488355328 ∧ SlN W uu c.args ∧ CmWf c ∧ EvsIs W uv r.events ∧ RcWf r ∧ ItsIs W ux l ∧ ItsWf l ∧ VdsIs W uy v ∧ VdsWf v ∧ SlT W uz p ∧ FlWf p := by
  obtain ⟨xs, k, _, hx, hcl, hxl, hg⟩ := DataW.trod_struct Tryz.underlying46 h
  have hcn : cs.length = 16 := hcl.trans (by kernel_rfl)
  obtain ⟨c0, c1, c2, c3, c4, c5, c6, c7, c8, c9, c10, c11, c12, c13, c14, c15, rfl⟩ : ∃ c0 c1 c2 c3 c4 c5 c6 c7 c8 c9 c10 c11 c12 c13 c14 c15, cs = [c0, c1, c2, c3, c4, c5, c6, c7, c8, c9, c10, c11, c12, c13, c14, c15] := by
    match cs, hcn with
    | [c0, c1, c2, c3, c4, c5, c6, c7, c8, c9, c10, c11, c12, c13, c14, c15], _ => exact ⟨c0, c1, c2, c3, c4, c5, c6, c7, c8, c9, c10, c11, c12, c13, c14, c15, rfl⟩
  obtain ⟨y0, y1, y2, y3, y4, y5, y6, rfl⟩ : ∃ y0 y1 y2 y3 y4 y5 y6, xs = [y0, y1, y2, y3, y4, y5, y6] := by
    match xs, hxl with
    | [y0, y1, y2, y3, y4, y5, y6], _ => exact ⟨y0, y1, y2, y3, y4, y5, y6, rfl⟩
  subst hx
  have hf : ∀ m ∈ DataW.weightsEach Tryz.prog [9, 9, 41, 44, 22, 23, 24] [y0.1, y1.1, y2.1, y3.1, y4.1, y5.1, y6.1], m ≤ reachBytes := fun m hm => hb m (by
    unfold DataW.weights
    rw [Tryz.underlying46]
    exact hm)
  have t0 : DataW.trod enc Tryz.prog W 0 (fun _ => true) true k 9 [c0] = some y0 := hg 0 _ rfl
  have b0 : Fits (P := Tryz.prog) 9 y0.1 := fun m hm => hf m (DataW.weights_mem_each (j := 0) (t := 9) rfl rfl m hm)
  have t1 : DataW.trod enc Tryz.prog W 0 (fun _ => true) true k 9 [c1] = some y1 := hg 1 _ rfl
  have b1 : Fits (P := Tryz.prog) 9 y1.1 := fun m hm => hf m (DataW.weights_mem_each (j := 1) (t := 9) rfl rfl m hm)
  have t2 : DataW.trod enc Tryz.prog W 0 (fun _ => true) true k 41 [c2, c3, c4, c5, c6, c7] = some y2 := hg 2 _ rfl
  have b2 : Fits (P := Tryz.prog) 41 y2.1 := fun m hm => hf m (DataW.weights_mem_each (j := 2) (t := 41) rfl rfl m hm)
  have t3 : DataW.trod enc Tryz.prog W 0 (fun _ => true) true k 44 [c8, c9, c10, c11, c12] = some y3 := hg 3 _ rfl
  have b3 : Fits (P := Tryz.prog) 44 y3.1 := fun m hm => hf m (DataW.weights_mem_each (j := 3) (t := 44) rfl rfl m hm)
  have t4 : DataW.trod enc Tryz.prog W 0 (fun _ => true) true k 22 [c13] = some y4 := hg 4 _ rfl
  have b4 : Fits (P := Tryz.prog) 22 y4.1 := fun m hm => hf m (DataW.weights_mem_each (j := 4) (t := 22) rfl rfl m hm)
  have t5 : DataW.trod enc Tryz.prog W 0 (fun _ => true) true k 23 [c14] = some y5 := hg 5 _ rfl
  have b5 : Fits (P := Tryz.prog) 23 y5.1 := fun m hm => hf m (DataW.weights_mem_each (j := 5) (t := 23) rfl rfl m hm)
  have t6 : DataW.trod enc Tryz.prog W 0 (fun _ => true) true k 24 [c15] = some y6 := hg 6 _ rfl
  have b6 : Fits (P := Tryz.prog) 24 y6.1 := fun m hm => hf m (DataW.weights_mem_each (j := 6) (t := 24) rfl rfl m hm)
  obtain ⟨A, rfl, hA⟩ := str_el t0 b0
  obtain ⟨B, rfl, hB⟩ := str_el t1 b1
  obtain ⟨c, uu, hc, h1, h2⟩ := cm_el t2 b2
  obtain ⟨r, uv, hr, h3, h4⟩ := rc_el t3 b3
  obtain ⟨l, h5, h6⟩ := its_el t4 b4
  obtain ⟨v, h7, h8⟩ := vds_el t5 b5
  obtain ⟨p, h9, h10⟩ := fl_el t6 b6
  cases hc
  cases hr
  exact ⟨A, B, c, r, l, v, p, _, _, _, _, _, rfl, hA, hB, h1, h2, h3, h4, h5, h6, h7, h8, h9, h10⟩
end
end Go.Proofs.YtebglkpejdoggaaGreat.C10
