/-
  DecideFolds: what events make of every state, all at once, or in two parts.
-/
import Derived.Test.YtgkniocjlkfhmaaDoorRows
import Derived.Test.YtgkniocjlkfhmaaDoorTie
import Derived.Test.YtgkniocjlkfhmaaDoorCards
import Derived.Test.YtgkniocjlkfhmaaDoorSVc
import Derived.Test.YtgkniocjlkfhmaaDoorSVd
import Derived.Test.YtgkniocjlkfhmaaDoorSVm
import Derived.Test.YtgkniocjlkfhmaaDoorDRf
import Derived.Test.YtgkniocjlkfhmaaDoorSVn
import Derived.Test.YtgkniocjlkfhmaaDoorDSz
import Derived.OpenShut
import Derived.Deep.RegionHeldLaw
namespace Go.Proofs.YtgkniocjlkfhmaaDoor.decideFolds
open Go Go.ChangeShapes Go.WideShapes Go.ChangeAt Go.RowKit
open Go.Proofs.YtgkniocjlkfhmaaDoor.B Go.Proofs.YtgkniocjlkfhmaaDoor.K Go.Proofs.YtgkniocjlkfhmaaDoor.E Go.Proofs.YtgkniocjlkfhmaaDoor.R Go.Proofs.YtgkniocjlkfhmaaDoor.D
set_option linter.unusedVariables false
set_option maxRecDepth 100000

theorem own : ownKnob Tryd.prog.godebug = none := by kernel_rfl
theorem laidOut : laidOutB Tryd.prog = true := by kernel_rfl

/-- Below a slice of lists' lengths. -/
theorem ints_data {H : Type} {enc : TypeId × Value → H} {W : World} {t e : TypeId} {P : Program} (ht : P.underlying t = some (.slice e)) {fuel : Nat} {v : Value} {y : DataW H × List MemPlace} {xs : List Value} (hs : Sl W v xs) (hf : DataW.trod enc P W 0 (fun _ => true) true fuel t [v] = some y) :
    xs = [] ∨ ∃ elems spare, y.1 = .slice elems spare ∧ elems.length = xs.length := by
  obtain ⟨a, cap, rfl, _⟩ := hs
  rcases Go.Deep.open_slice ht hf with ⟨hcs, _⟩ | ⟨a', len, cap', m, n, D, Pl, hcs, _, _, _, _, hx, _⟩
  · simp only [List.cons.injEq, Value.slice.injEq, and_true] at hcs
    exact Or.inl (List.eq_nil_of_length_eq_zero hcs.2.1)
  · simp only [List.cons.injEq, Value.slice.injEq, and_true] at hcs
    exact Or.inr ⟨_, _, by rw [hx], by simp [hcs.2.1]⟩

/-- Numbers' slice: its weight bounds how many. -/
theorem ints_few {H : Type} {enc : TypeId × Value → H} {W : World} {n : Nat} {u : Value} {y : DataW H × List MemPlace} {vars : List Int} (hs : SlN W u vars) (h : DataW.trod enc Tryd.prog W 0 (fun _ => true) true n 22 [u] = some y)
    (hb : ∀ m ∈ DataW.weights Tryd.prog 22 y.1, m ≤ 140737488351232) : vars.length * 8 ≤ 140737488351232 := by
  have hb8 : Tryd.prog.bytesOf 3 = 8 := by kernel_rfl
  rcases ints_data Tryd.underlying22 hs h with h | ⟨elems, spare, hy, he⟩
  · have : vars = [] := List.map_eq_nil_iff.1 h
    subst this; decide
  · rw [List.length_map] at he
    have h1 := hb ((elems.length + spare.length) * 8) (by rw [hy]; unfold DataW.weights; rw [Tryd.underlying22]; simp [hb8])
    rw [he] at h1
    omega

/-- A state's variables are no more than fit. -/
theorem st_size {H : Type} {enc : TypeId × Value → H} {W : World} {a b u : Value} {d : DataW H} {p : List MemPlace} {vars : List Int} (hd : DataW.Trod enc Tryd.prog W 0 (fun _ => true) true 24 (.agg #[a, b, u]) d p) (hs : SlN W u vars)
    (hb : ∀ m ∈ DataW.weights Tryd.prog 24 d, m ≤ 140737488351232) : vars.length * 8 ≤ 140737488351232 := by
  obtain ⟨fuel, hf⟩ := hd
  obtain ⟨xs, n, _, hx, _, hxl, hg⟩ := DataW.trod_struct Tryd.underlying24 hf
  simp only [Prod.mk.injEq] at hx
  obtain ⟨rfl, _⟩ := hx
  obtain ⟨y0, y1, y2, rfl⟩ : ∃ a b c, xs = [a, b, c] := by
    match xs, hxl with
    | [a, b, c], _ => exact ⟨a, b, c, rfl⟩
  have h2 : DataW.trod enc Tryd.prog W 0 (fun _ => true) true n 22 [u] = some y2 := hg 2 _ rfl
  refine ints_few hs h2 fun m hm => hb m ?_
  unfold DataW.weights
  rw [Tryd.underlying24]
  exact DataW.weights_mem_each (j := 2) (t := 22) rfl rfl m hm

theorem weights_mem_all {H : Type} {P : Program} {e : TypeId} : ∀ {ds : List (DataW H)} {d : DataW H}, d ∈ ds → ∀ n ∈ d.weights P e, n ∈ DataW.weightsAll P e ds
  | x :: ds, d, h, n, hn => by
    unfold DataW.weightsAll
    rcases List.mem_cons.1 h with rfl | h
    · exact List.mem_append_left _ hn
    · exact List.mem_append_right _ (weights_mem_all h n hn)

/-- An event's cells, with its variables no more than fit. -/
theorem ev_sized {H : Type} {enc : TypeId × Value → H} {W : World} {n : Nat} {cs : List Value} {z : DataW H × List MemPlace} (h : DataW.trod enc Tryd.prog W 0 (fun _ => true) true n 31 cs = some z)
    (hb : ∀ m ∈ DataW.weights Tryd.prog 31 z.1, m ≤ 140737488351232) : ∃ g, EvIs W cs g ∧ EvWf g ∧ g.vars.length * 8 ≤ 140737488351232 := by
  obtain ⟨xs, k, _, hx, hcl, hxl, hg⟩ := DataW.trod_struct Tryd.underlying31 h
  obtain ⟨y0, y1, rfl⟩ : ∃ a b, xs = [a, b] := by
    match xs, hxl with
    | [a, b], _ => exact ⟨a, b, rfl⟩
  obtain ⟨g, ⟨u, rfl, h1⟩, h2⟩ := ev_cell h
  have t1 : DataW.trod enc Tryd.prog W 0 (fun _ => true) true k 22 [u] = some y1 := hg 1 _ rfl
  refine ⟨g, ⟨u, rfl, h1⟩, h2, ints_few h1 t1 fun m hm => hb m ?_⟩
  rw [hx]
  unfold DataW.weights
  rw [Tryd.underlying31]
  exact DataW.weights_mem_each (j := 1) (t := 22) rfl rfl m hm

/-- A slice of events, with all variables no more than fit. -/
theorem evs_sized {H : Type} {enc : TypeId × Value → H} {W : World} {n : Nat} {c : Value} {z : DataW H × List MemPlace} (h : DataW.trod enc Tryd.prog W 0 (fun _ => true) true n 25 [c] = some z)
    (hb : ∀ m ∈ DataW.weights Tryd.prog 25 z.1, m ≤ 140737488351232) : ∃ l, EvsIs W c l ∧ (∀ x ∈ l, EvWf x ∧ x.vars.length * 8 ≤ 140737488351232) ∧ l.length ≤ 9223372036854775807 ∧ ∀ a n k, c = .slice a n k → n ≤ k := by
  have hc : Tryd.prog.cellsOf 31 = 2 := by kernel_rfl
  rcases Go.Deep.open_slice Tryd.underlying25 h with ⟨hcs, _⟩ | ⟨a, len, cap, m, n, D, Pl, hcs, _, hl, hm, hmm, hz, hx⟩
  · simp at hcs
    subst hcs
    exact ⟨[], SlOf.nil W 2 _, by simp, by simp, fun a n k e => by cases e; exact Nat.le_refl _⟩
  · simp at hcs
    subst hcs
    rw [hc] at hx
    have hm' : m = cap := by simpa using hmm
    have hD : ∀ i, i < m → ∀ k ∈ DataW.weights Tryd.prog 31 (D i), k ≤ 140737488351232 := by
      intro i hi k hk
      refine hb k ?_
      rw [hz]
      unfold DataW.weights
      rw [Tryd.underlying25]
      simp only [List.mem_cons, List.mem_append]
      right
      by_cases hil : i < len
      · exact Or.inl (weights_mem_all (List.mem_map.2 ⟨i, List.mem_range.2 hil, rfl⟩) k hk)
      · exact Or.inr (weights_mem_all (List.mem_map.2 ⟨i - len, List.mem_range.2 (by omega), by rw [show len + (i - len) = i by omega]⟩) k hk)
    obtain ⟨X, hX⟩ := Go.Deep.choose_lt (α := Ev × List Value) (n := m) (p := fun i x => x.2.length = 2 ∧ EvIs W x.2 x.1 ∧ (EvWf x.1 ∧ x.1.vars.length * 8 ≤ 140737488351232) ∧ ∀ j c, x.2[j]? = some c → W.cell? ((a.add (i * 2)).add j) = some c) (fun i hi => by
      obtain ⟨cs', h1, h2⟩ := hx i hi
      obtain ⟨_, hlen, hcell⟩ := World.cells?_some h1
      obtain ⟨x, q, r⟩ := ev_sized h2 (hD i hi)
      refine ⟨(x, cs'), hlen, q, r, fun j c hj => ?_⟩
      have hjl := (List.getElem?_eq_some_iff.1 hj).1
      rw [hcell j (by simpa using hlen ▸ hjl)]
      exact hj)
    refine ⟨(List.range len).map fun i => (X i).1, ⟨some a, cap, by simp, fun j i hj => ?_⟩, fun x hxm => ?_, by simp; exact Nat.le_trans hl (Nat.le_trans hm (by decide)), fun a' n' k' e => by cases e; exact hl⟩
    · have hjl : j < len := by
        have := (List.getElem?_eq_some_iff.1 hj).1
        simpa using this
      rw [List.getElem?_map, List.getElem?_range hjl] at hj
      have hj' : (X j).1 = i := by simpa using hj
      obtain ⟨c0, c1, c2, c3⟩ := hX j (by omega)
      rw [hj'] at c1
      obtain ⟨b, off, spot⟩ := a
      have hs : spot = none := by
        obtain ⟨z0, _, _, z3⟩ := hX 0 (by omega)
        have hk0 : 0 < (X 0).2.length := by omega
        have := World.cell?_spot (z3 0 _ (List.getElem?_eq_getElem hk0))
        simpa [Addr.add] using this
      subst hs
      refine ⟨b, off, rfl, (X j).2, c0, c1, fun i c hi => ?_⟩
      have := c3 i c hi
      rw [add_plain, add_plain] at this
      exact this
    · obtain ⟨j, hj, rfl⟩ := List.mem_map.1 hxm
      exact (hX j (by have := List.mem_range.1 hj; omega)).2.2.1

/-- 'l[:k]'. -/
theorem cut_head (W : World) (a : Option Addr) (L F cap : Nat) (hF : F ≤ cap) :
    (Instr.sliceAt 25 (.slice a L cap) none (some (.int .i64 (F : Int))) none).run Tryd.prog W = .ok (.slice a F cap) W := by
  have he : Tryd.prog.underlying 25 = some (.slice (Tryd.prog.elem 25)) := by kernel_rfl
  have hs : (sizeOf (Tryd.prog.elem 25)).run Tryd.prog W = .ok 2 W := by kernel_rfl
  rw [run_sliceAt_slice W 25 _ _ _ _ he, run_slice_h W 25 _ _ _ he .i64 (F : Int) (by omega) (by omega), hs]
  simp only [Result.andThen, sliced, Int.toNat_natCast, Nat.zero_mul, Nat.sub_zero]
  cases a with
  | none => simp
  | some ad =>
    obtain ⟨b, o, sp⟩ := ad
    split
    · rfl
    · simp only [Option.map]
      congr 3

/-- 'l[k:]'. -/
theorem cut_tail (a : Option Addr) (L F cap : Nat) (hF : F ≤ L) (hL : L ≤ cap) :
    ∃ a2, (∀ b off, a = some ⟨b, off, none⟩ → L - F ≠ 0 → a2 = some ⟨b, off + F * 2, none⟩) ∧ ∀ W : World, (Instr.sliceAt 25 (.slice a L cap) (some (.int .i64 (F : Int))) none none).run Tryd.prog W = .ok (.slice a2 (L - F) (cap - F)) W := by
  have he : Tryd.prog.underlying 25 = some (.slice (Tryd.prog.elem 25)) := by kernel_rfl
  have hs : ∀ W, (sizeOf (Tryd.prog.elem 25)).run Tryd.prog W = .ok 2 W := fun W => by kernel_rfl
  by_cases h : cap = F
  · refine ⟨a, fun b off _ h2 => by omega, fun W => ?_⟩
    rw [run_sliceAt_slice W 25 _ _ _ _ he, run_slice_l W 25 _ _ _ he .i64 (F : Int) (by omega) (by omega), hs]
    simp only [Result.andThen, sliced, Int.toNat_natCast]
    rw [if_pos (by omega)]
  · refine ⟨a.map (·.add (F * 2)), fun b off e _ => by rw [e]; simp [Go.WideShapes.add_plain], fun W => ?_⟩
    rw [run_sliceAt_slice W 25 _ _ _ _ he, run_slice_l W 25 _ _ _ he .i64 (F : Int) (by omega) (by omega), hs]
    simp only [Result.andThen, sliced, Int.toNat_natCast]
    rw [if_neg (by omega)]

theorem evs_take {w : World} {a : Option Addr} {L cap : Nat} {l : List Ev} (h : EvsIs w (.slice a L cap) l) (k : Nat) (hk : k ≤ l.length) : EvsIs w (.slice a k cap) (l.take k) := by
  obtain ⟨a', cap', e, hc⟩ := h
  cases e
  refine ⟨a, cap, by rw [List.length_take, Nat.min_eq_left hk], fun j x hj => hc j x ?_⟩
  rw [List.getElem?_take] at hj
  split at hj
  · exact hj
  · cases hj

theorem evs_drop {w : World} {a a2 : Option Addr} {L cap : Nat} {l : List Ev} (h : EvsIs w (.slice a L cap) l) (F : Nat) (hF : F ≤ L) (h2 : ∀ b off, a = some ⟨b, off, none⟩ → L - F ≠ 0 → a2 = some ⟨b, off + F * 2, none⟩) : EvsIs w (.slice a2 (L - F) (cap - F)) (l.drop F) := by
  obtain ⟨a', cap', e, hc⟩ := h
  cases e
  refine ⟨a2, cap - F, by rw [List.length_drop], fun j x hj => ?_⟩
  rw [List.getElem?_drop] at hj
  obtain ⟨b, off, ea, cs, h3, h4, h5⟩ := hc (F + j) x hj
  have hne : l.length - F ≠ 0 := by have := (List.getElem?_eq_some_iff.1 hj).1; omega
  refine ⟨b, off + F * 2, h2 b off ea hne, cs, h3, h4, fun i c hi => ?_⟩
  rw [show off + F * 2 + j * 2 + i = off + (F + j) * 2 + i by omega]
  exact h5 i c hi

/-- A state that is handed out, by its parts. -/
def StSl (p r : Int) (vars : List Int) (n : Nat) (w : World) (z : Ending) (w' : World) : Prop := ∃ a k, z = .returned (.agg #[.int .i64 p, .int .i64 r, .slice a n k]) ∧ Hid (SlN w' (.slice a n k) vars) ∧ Below w.heap.size w w'
theorem StSl.of {s : Stt} {p r : Int} {n : Nat} {w w' : World} {z : Ending} (h : StOut s w z w') (hp : s.pos = p) (hr : s.ver = r) (hn : s.vars.length = n) : StSl p r s.vars n w z w' := by
  obtain ⟨v, e, h1, h2⟩ := h
  have h3 := h1
  obtain ⟨a, k, rfl⟩ := sl_len h1
  rw [List.length_map, hn] at e h3
  exact ⟨a, k, by rw [e, hp, hr], h3, h2⟩

/-- A state that is handed out, its variables in a new block. -/
def StN (p r : Int) (vars : List Int) (n : Nat) (w : World) (z : Ending) (w' : World) : Prop := ∃ k, z = .returned (.agg #[.int .i64 p, .int .i64 r, .slice (some ⟨k, 0, none⟩) n n]) ∧ w.heap.size ≤ k ∧ Hid (NumsAt w' k vars) ∧ Below w.heap.size w w'
theorem StN.of {s : Stt} {p r : Int} {n : Nat} {w w' : World} {z : Ending} (h : StNew s w z w') (hp : s.pos = p) (hr : s.ver = r) (hn : s.vars.length = n) : StN p r s.vars n w z w' := by
  obtain ⟨k, m, e, h1, h2, h3, h4⟩ := h
  obtain rfl : m = n := by omega
  exact ⟨k, by rw [e, hp, hr], h1, h2, h4⟩

/-- What stands in a new state's box, its variables in a block of their own. -/
def BMid (W2 : World) (p r : Int) (vars : List Int) (n : Nat) (v : Value) (wx : World) : Prop := ∃ g k, v = .pointer (some ⟨g, 0, none⟩) ∧ S3 wx g (.int .i64 p) (.int .i64 r) (.slice (some ⟨k, 0, none⟩) n n) ∧ NumsAt wx k vars ∧ Below W2.heap.size W2 wx
theorem bm_new {W2 w6 : World} {p r : Int} {vars : List Int} {n k : Nat} (hn : NumsAt w6 k vars) (hb : Below W2.heap.size W2 w6) : BMid W2 p r vars n (.pointer (some ⟨w6.heap.size, 0, none⟩)) (w6.alloc (.cells #[.int .i64 p, .int .i64 r, .slice (some ⟨k, 0, none⟩) n n] 24)) :=
  ⟨_, k, rfl, S3.new _ _ _ _, hn.below (below_alloc _ _), hb.trans ((below_alloc _ _).mono hb.size)⟩
theorem bm_set {W2 w6 : World} {p r : Int} {vars : List Int} {n k g : Nat} (z : w6.heap[g]? = some (.cells #[.int .i64 0, .int .i64 0, .slice none 0 0] 24 (0, 0))) (hn : NumsAt w6 k vars) (hk : k ≠ g) (hg : W2.heap.size ≤ g) (hb : Below W2.heap.size W2 w6) :
    BMid W2 p r vars n (.pointer (some ⟨g, 0, none⟩)) (((w6.setCell ⟨g, 0, none⟩ (.int .i64 p)).setCell ⟨g, 1, none⟩ (.int .i64 r)).setCell ⟨g, 2, none⟩ (.slice (some ⟨k, 0, none⟩) n n)) := by
  refine ⟨g, k, rfl, S3.set (show S3 w6 g _ _ _ from z) _ _ _, ?_, below_set3 hb hg _ _ _⟩
  unfold NumsAt; rw [heap_set3 hk]; exact hn
theorem be1 (w : World) (a : Obj) : Below w.heap.size w (w.alloc a).drew := (below_alloc w a).drew
theorem be5 {w W : World} (h : Below w.heap.size w W) (a : Obj) : Below w.heap.size w (W.alloc a).drew := (h.alloc h.size a).drew
theorem be6 {w W : World} (h : Below w.heap.size w W) (a : Obj) : Below w.heap.size w (W.alloc a) := h.alloc h.size a
def SS7 (w : World) (p r : Int) (av : Option Addr) (nv kv : Nat) (W2 Wq : World) : Prop := Wq.cell? ⟨w.heap.size, 0, none⟩ = some (.int .i64 p) ∧ Wq.cell? ⟨w.heap.size, 1, none⟩ = some (.int .i64 r) ∧ Wq.cell? ⟨w.heap.size, 2, none⟩ = some (.slice av nv kv) ∧ Below W2.heap.size W2 Wq
theorem heap_lt8 {w : World} {g : Nat} {o : Obj} (h : w.heap[g]? = some o) : g < w.heap.size := (Array.getElem?_eq_some_iff.1 h).1
theorem zero_kept2 {W w3 : World} {T : TypeId} {cs : Array Value} (hb : Below (W.alloc (.cells cs T)).heap.size (W.alloc (.cells cs T)) w3) : w3.heap[W.heap.size]? = some (.cells cs T (0, 0)) ∧ Below W.heap.size W w3 := by
  have h1 := below_alloc W (.cells cs T)
  exact ⟨(hb.block _ (heap_alloc_lt W _)).trans (heap_alloc_at W _), h1.trans (hb.mono h1.size)⟩

theorem fold7_vars (s : Stt) (l : List Ev) (B : Nat) (h : s.vars.length * 8 ≤ B) (hl : ∀ e ∈ l, e.vars.length * 8 ≤ B) : (fold7 s l).vars.length * 8 ≤ B := by
  induction l generalizing s with
  | nil => exact h
  | cons e l ih => exact ih (apply7 s e) (hl e (by simp)) (fun x hx => hl x (List.mem_cons_of_mem _ hx))

set_option maxHeartbeats 40000000 in
theorem walk (s : Stt) (v : Value) (l : List Ev) (el : Value) (cut : Nat) (w : World) (hs : SlN w v s.vars) (hsw : StWf s) (hv8 : s.vars.length * 8 ≤ 140737488351232) (hl : EvsIs w el l) (hlw : ∀ x ∈ l, EvWf x) (hll : l.length ≤ 9223372036854775807) (he8 : ∀ e ∈ l, e.vars.length * 8 ≤ 140737488351232) (hcap : ∀ a n k, el = .slice a n k → n ≤ k) (hcut : cut < 256) (hG : I.Glob w) :
    Calls Tryd.prog 3 #[.agg #[.int .i64 s.pos, .int .i64 s.ver, v], el, .int .u8 (cut : Int)] w fun e w' => e = .returned (.bool true) ∧ Below w.heap.size w w' := by
  have hs0 := hs
  obtain ⟨av, kv, rfl⟩ := sl_len hs
  obtain ⟨nv, hnv⟩ : ∃ n, (s.vars.map fun n => Value.int .i64 n).length = n := ⟨_, rfl⟩
  rw [hnv] at hs0 ⊢
  obtain ⟨al, capl, rfl, hl0⟩ := hl.open
  have hcp : l.length ≤ capl := hcap _ _ _ rfl
  obtain ⟨N, hN⟩ : ∃ N, l.length = N := ⟨_, rfl⟩
  obtain ⟨M, hM⟩ : ∃ M, min N 100 = M := ⟨_, rfl⟩
  obtain ⟨l2, hl2⟩ : ∃ x, l.take 100 = x := ⟨_, rfl⟩
  have hM2 : l2.length = M := by rw [← hl2, List.length_take, hN, ← hM, Nat.min_comm]
  have hE : EvsIs w (.slice al M capl) l2 := by
    have := evs_take hl0 (min l.length 100) (Nat.min_le_left _ _)
    rw [hN, hM] at this
    rw [← hl2, show l.take 100 = l.take M from List.take_eq_take_iff.2 (by omega)]
    exact this
  have he2 : ∀ e ∈ l2, e.vars.length * 8 ≤ 140737488351232 := fun e he => he8 e (List.mem_of_mem_take (by rw [hl2]; exact he))
  have hver := hsw.2.1
  have HFA0 := fun (W : World) (hb : Below w.heap.size w W) => fold_any s l2 (.slice av nv kv) (.slice al M capl) W hver (Sl.below hs0 hb) (by omega) (hE.below hb) (by omega) (fun e he => by have := he2 e he; omega)
  have HE := Lib.hid hE
  have HE2 := Lib.hid he2
  have HS0 := Lib.hid hs0
  have HM2 := Lib.hid hM2
  have HVER := Lib.hid hver
  have HV8 := Lib.hid hv8
  have HGL := Lib.hid hG
  obtain ⟨F, hF⟩ : ∃ F, fold7 s l2 = F := ⟨_, rfl⟩
  have hF8 := fold7_vars s l2 _ hv8 he2
  have hFv := fold7_ver s l2 (fun _ _ => trivial) hver
  rw [hF] at HFA0 hF8 hFv
  obtain ⟨Fp, hFp⟩ : ∃ N, F.pos = N := ⟨_, rfl⟩
  obtain ⟨Fr, hFr⟩ : ∃ N, F.ver = N := ⟨_, rfl⟩
  obtain ⟨Fn, hFn⟩ : ∃ N, F.vars.length = N := ⟨_, rfl⟩
  have HFF := Lib.hid (And.intro hF (And.intro hFp (And.intro hFr hFn)))
  have HF8 := Lib.hid (And.intro hF8 hFv)
  obtain ⟨p, hp⟩ : ∃ N, s.pos = N := ⟨_, rfl⟩
  obtain ⟨r, hr⟩ : ∃ N, s.ver = N := ⟨_, rfl⟩
  rw [hp, hr] at HFA0
  rw [hp, hr]
  have HFA1 := fun (W : World) (hb : Below w.heap.size w W) => (HFA0 W hb).mono (fun z w' h => StSl.of h hFp hFr hFn)
  have HPR := Lib.hid (And.intro hp hr)
  have HFA := Lib.hid HFA1
  rw [hN]
  rw [hN] at hcp
  obtain ⟨W0, hW0⟩ : ∃ W0, w.alloc (.cells #[.int .i64 p, .int .i64 r, .slice av nv kv] 24) = W0 := ⟨_, rfl⟩
  have hB0 : Below w.heap.size w W0 := by rw [← hW0]; exact below_alloc _ _
  have hst0 : S3 W0 w.heap.size (.int .i64 p) (.int .i64 r) (.slice av nv kv) := by rw [← hW0]; exact S3.new _ _ _ _
  have HB0 := Lib.hid hB0
  have HST0 := Lib.hid hst0
  clear hs hs0 hl hl0 hlw hll he8 hcap hnv hsw hE he2 hver hv8 hp hr HFA0 HFA1 hB0 hst0 hG hM2 hl2 hF hF8 hFv hFp hFr hFn
  go_enter Tryd.func3, Tryd.ntmps3
  go_upto_if 12 with fail
  clear hW0
  go_cut [1] from 12 to 14 (fun v1 wx => v1 = .slice al M capl ∧ W0 = wx)
  case first =>
    by_cases h100 : 100 < N
    · have hI : (100 : Int) < (N : Int) := by omega
      have hMe : M = 100 := by omega
      have hct : ∀ W : World, (Instr.sliceAt 25 (.slice al N capl) none (some (.int .i64 100)) none).run Tryd.prog W = .ok (.slice al 100 capl) W := fun W => cut_head W al N 100 capl (by omega)
      go_wp2_with fail
      go_meet
      exact ⟨by rw [hMe], rfl⟩
    · have hI : ¬ (100 : Int) < (N : Int) := by omega
      have hMe : M = N := by omega
      go_wp2_with fail
      go_meet
      exact ⟨by rw [hMe], rfl⟩
  case rest =>
    obtain ⟨rfl, rfl⟩ := hcut
    obtain ⟨⟨s0, -⟩, ⟨s1, -⟩, ⟨s2, -⟩⟩ := HST0.out.cells
    go_upto_if 20 with (go_at_call 4; refine (HFA.out _ HB0.out).mono ?_; rintro _ w1 ⟨aa, ka, rfl, HVA, hb1⟩; have HB1 := Lib.hid (HB0.out.trans (hb1.mono HB0.out.size)); have HS1 := Lib.hid (HST0.out.below hb1); clear hb1)
    obtain ⟨W2, hW2⟩ : ∃ W, w1.alloc (.cells #[.int .i64 Fp, .int .i64 Fr, .slice aa Fn ka] 24) = W := ⟨_, rfl⟩
    obtain ⟨ga, hga⟩ : ∃ g, w1.heap.size = g := ⟨_, rfl⟩
    have hb12 : Below w1.heap.size w1 W2 := by rw [← hW2]; exact below_alloc _ _
    have HB2 := Lib.hid (HB1.out.trans (hb12.mono HB1.out.size))
    have HSS := Lib.hid (HS1.out.below hb12)
    have HSA := Lib.hid (show S3 W2 ga (.int .i64 Fp) (.int .i64 Fr) (.slice aa Fn ka) by rw [← hW2, ← hga]; exact S3.new _ _ _ _)
    have HVA2 := Lib.hid (Sl.below HVA.out hb12)
    rw [hW2, hga]
    obtain ⟨K, hK⟩ : ∃ K, (if 0 < M then cut % M else 0) = K := ⟨_, rfl⟩
    have hKM : K ≤ M := by
      rw [← hK]
      split
      · exact Nat.le_of_lt (Nat.mod_lt _ (by omega))
      · omega
    clear s0 s1 s2 hW2 hga hb12 HFA HS1 HST0 HVA
    go_cut [8] from 20 to 25 (fun v8 wx => v8 = .int .i64 (K : Int) ∧ W2 = wx)
    case first =>
      by_cases h0 : 0 < M
      · have hd : decide (0 < M) = true := decide_eq_true h0
        have hM0 : ((M : Int) == 0) = false := by rw [beq_eq_false_iff_ne]; omega
        have hM1 : ¬ (M : Int) = 0 := by omega
        have hw : IntKind.i64.wrap (cut : Int) = (cut : Int) := IntWalk.i64_in _ (by omega)
        have hr0 : Int.tmod (cut : Int) (M : Int) = (K : Int) := by rw [← hK, if_pos h0]; exact (Int.ofNat_tmod cut M).symm
        have hwK : IntKind.i64.wrap (K : Int) = (K : Int) := IntWalk.i64_in _ (by omega)
        go_wp2_with fail
        go_meet
        exact ⟨rfl, rfl⟩
      · have hd : decide (0 < M) = false := decide_eq_false h0
        have hK0 : K = 0 := by rw [← hK, if_neg h0]
        go_wp2_with fail
        go_meet
        exact ⟨by rw [hK0]; rfl, rfl⟩
    case rest =>
      obtain ⟨rfl, rfl⟩ := hcut
      obtain ⟨F1, hF1⟩ : ∃ F, fold7 s (l2.take K) = F := ⟨_, rfl⟩
      have h18 := fold7_vars s (l2.take K) _ HV8.out (fun e he => HE2.out e (List.mem_of_mem_take he))
      have h1v := fold7_ver s (l2.take K) (fun _ _ => trivial) HVER.out
      have hF12 : fold7 F1 (l2.drop K) = F := by rw [← hF1, ← fold7_append, List.take_append_drop]; exact HFF.out.1
      rw [hF1] at h18 h1v
      obtain ⟨p1, hp1⟩ : ∃ N, F1.pos = N := ⟨_, rfl⟩
      obtain ⟨r1, hr1⟩ : ∃ N, F1.ver = N := ⟨_, rfl⟩
      obtain ⟨n1, hn1⟩ : ∃ N, F1.vars.length = N := ⟨_, rfl⟩
      have hfb := fun (W : World) (hb : Below W2.heap.size W2 W) => (fold_new s (l2.take K) (.slice av nv kv) (.slice al K capl) W HVER.out (Sl.below HS0.out (HB2.out.trans (hb.mono HB2.out.size))) (by have := HV8.out; omega) ((evs_take HE.out K (by rw [HM2.out]; exact hKM)).below (HB2.out.trans (hb.mono HB2.out.size))) (by rw [List.length_take, HM2.out]; omega) (fun e he => by have := HE2.out e (List.mem_of_mem_take he); omega)).mono (fun z w' h => StN.of (by rw [hF1] at h; exact h) hp1 hr1 hn1)
      rw [HPR.out.1, HPR.out.2] at hfb
      obtain ⟨a2, ha2, hct2⟩ := cut_tail al M K capl hKM (by omega)
      have hct1 : ∀ W : World, (Instr.sliceAt 25 (.slice al M capl) none (some (.int .i64 (K : Int))) none).run Tryd.prog W = .ok (.slice al K capl) W := fun W => cut_head W al M K capl (by omega)
      have hfc := fun (k1 : Nat) (W : World) (hb : Below W2.heap.size W2 W) (hv : NumsAt W k1 F1.vars) => (fold_new F1 (l2.drop K) (.slice (some ⟨k1, 0, none⟩) n1 n1) (.slice a2 (M - K) (capl - K)) W h1v (sln_ownN hv hn1 _) (by omega) ((evs_drop HE.out K hKM ha2).below (HB2.out.trans (hb.mono HB2.out.size))) (by rw [List.length_drop, HM2.out]; omega) (fun e he => by have := HE2.out e (List.mem_of_mem_drop he); omega)).mono (fun z w' h => StN.of (by rw [hF12] at h; exact h) HFF.out.2.1 HFF.out.2.2.1 HFF.out.2.2.2)
      rw [hp1, hr1] at hfc
      obtain ⟨MK, hMK⟩ : ∃ N, M - K = N := ⟨_, rfl⟩
      obtain ⟨CK, hCK⟩ : ∃ N, capl - K = N := ⟨_, rfl⟩
      rw [hMK, hCK] at hfc hct2
      have HFB := Lib.hid hfb
      have HFC := Lib.hid hfc
      obtain ⟨⟨s0, -⟩, ⟨s1, -⟩, ⟨s2, -⟩⟩ := HSS.out.cells
      clear hfb hfc hF1 h18 h1v hF12 hp1 hr1 hn1 ha2 hMK hCK hK
      go_upto_region 7 with fail
      go_cut [9] from 26 to 34 (fun s9 wx => BMid W2 Fp Fr F.vars Fn s9 wx)
      case first =>
        have HKP := Lib.hid (fun (Wq : World) (hb : Below W2.heap.size W2 Wq) => show SS7 w p r av nv kv W2 Wq from ⟨kept_cell hb s0, kept_cell hb s1, kept_cell hb s2, hb⟩)
        have hS0 : SS7 w p r av nv kv W2 W2.drew := HKP.out _ (Below.refl _ _).drew
        unfold SS7 at HKP hS0
        go_region_held3 (fun Wq => Wq.cell? ⟨w.heap.size, 0, none⟩ = some (.int .i64 p) ∧ Wq.cell? ⟨w.heap.size, 1, none⟩ = some (.int .i64 r) ∧ Wq.cell? ⟨w.heap.size, 2, none⟩ = some (.slice av nv kv) ∧ Below W2.heap.size W2 Wq) (first | exact hS0 | exact HKP.out _ hb6 | exact HKP.out _ hb5 | exact HKP.out _ (be6 hb6 _) | exact HKP.out _ (be6 hb5 _) | exact HKP.out _ (be5 hb5 _) | exact HKP.out _ (be1 _ _) | exact HKP.out _ (be6 (Below.refl _ _).drew _) | exact HKP.out _ (below_set3 hb6 (Nat.le_refl _) _ _ _) | exact HKP.out _ (below_set3 hb6 hb5.size _ _ _) | exact HKP.out _ (below_set3 (be6 hb6 _) hb6.size _ _ _) | assumption) (first
          | (go_at_call 4; ((with_reducible refine (HFB.out _ ?_).mono ?_); (with_reducible exact (Below.refl W2.heap.size W2).drew)); rintro _ w5 ⟨k1, rfl, hk5, hv5, hb5'⟩; have hb5 := ((Below.refl W2.heap.size W2).drew).trans hb5'; clear hb5')
          | (go_at_call 4; ((with_reducible refine (HFB.out _ ?_).mono ?_); (with_reducible exact ((Below.refl W2.heap.size W2).drew).alloc (Nat.le_refl _) _)); rintro _ w5 ⟨k1, rfl, hk5, hv5, hb5'⟩; obtain ⟨z5, hb5, hlt5⟩ := zero_kept (Or.inl rfl) hb5'; clear hb5')
          | (go_at_call 4; ((with_reducible refine (HFB.out _ ?_).mono ?_); (with_reducible exact be1 _ _)); rintro _ w5 ⟨k1, rfl, hk5, hv5, hb5'⟩; obtain ⟨z5, hb5, hlt5⟩ := zero_kept (Or.inr rfl) hb5'; clear hb5')
          | (go_at_call 4; ((with_reducible refine (HFC.out k1 _ ?_ ?_).mono ?_); (with_reducible exact hb5); (with_reducible exact hv5.out)); rintro _ w6 ⟨k2, rfl, hk6, hv6, hb6'⟩; have z6 := (hb6'.block _ (heap_lt8 z5)).trans z5; obtain ⟨⟨y0, z0⟩, ⟨y1, z1⟩, ⟨y2, z2⟩⟩ := zero_cells z6; have hlt6 := heap_lt8 z5; have hb6 := hb5.trans (hb6'.mono hb5.size); clear hb6')
          | (go_at_call 4; ((with_reducible refine (HFC.out k1 _ ?_ ?_).mono ?_); (with_reducible exact hb5); (with_reducible exact hv5.out)); rintro _ w6 ⟨k2, rfl, hk6, hv6, hb6'⟩; have hb6 := hb5.trans (hb6'.mono hb5.size); clear hb6')
          | (go_at_call 4; ((with_reducible refine (HFC.out k1 _ ?_ ?_).mono ?_); (with_reducible exact be6 hb5 _); (with_reducible exact hv5.out.below (below_alloc _ _))); rintro _ w6 ⟨k2, rfl, hk6, hv6, hb6'⟩; obtain ⟨z6, hb56⟩ := zero_kept2 hb6'; obtain ⟨⟨y0, z0⟩, ⟨y1, z1⟩, ⟨y2, z2⟩⟩ := zero_cells z6; have hlt6 := heap_alloc_lt w5 (.cells #[.int .i64 0, .int .i64 0, .slice none 0 0] 24); have hb6 := hb5.trans (hb56.mono hb5.size); clear hb6' hb56))
        all_goals
          have hN6 := hv6.out
          go_wp2_with fail
          go_meet
          first
            | exact bm_set z6 hN6 (by omega) (Nat.le_refl _) hb6
            | exact bm_set z6 hN6 (by omega) hb5.size hb6
            | exact bm_new hN6 hb6
      case rest =>
        obtain ⟨W3, rfl⟩ : ∃ W : World, W = wc := ⟨_, rfl⟩
        obtain ⟨gb, kb, rfl, hSB, hNB, hb3⟩ := (show BMid W2 Fp Fr F.vars Fn _ _ from hcut)
        have hB3 := HB2.out.trans (hb3.mono HB2.out.size)
        have HB3 := Lib.hid hB3
        have HVA3 := Lib.hid (Sl.below HVA2.out hb3)
        have HNB := Lib.hid hNB
        obtain ⟨⟨s0, -⟩, ⟨s1, -⟩, ⟨s2, -⟩⟩ := (HSS.out.below hb3).cells
        obtain ⟨⟨t0, -⟩, ⟨t1, -⟩, ⟨t2, -⟩⟩ := (HSA.out.below hb3).cells
        obtain ⟨⟨u0, -⟩, ⟨u1, -⟩, ⟨u2, -⟩⟩ := hSB.cells
        have hcnt : F.vars.length ≤ 4611686018427387904 := by have := HF8.out.1; omega
        obtain ⟨hF, hFp, hFr, hFn⟩ := HFF.out
        have hsame := fun (v' : Value) (W : World) (hb : Below W3.heap.size W3 W) (h' : SlN W v' F.vars) => sameS_any F (.slice aa Fn ka) v' W (Sl.below HVA3.out hb) h' hcnt
        rw [hFp, hFr] at hsame
        have hfold := fun (W : World) (hb : Below W3.heap.size W3 W) => (refFold_any s l2 (.slice av nv kv) (.slice al M capl) W HVER.out (Sl.below HS0.out (hB3.trans (hb.mono hB3.size))) (HE.out.below (hB3.trans (hb.mono hB3.size))) (by rw [HM2.out]; omega)).mono (fun z w' h => StSl.of (by rw [hF] at h; exact h) hFp hFr hFn)
        rw [HPR.out.1, HPR.out.2] at hfold
        have HKP := Lib.hid (fun (Wa Wb : World) (hb : Below Wa.heap.size Wa Wb) (h : Wa.cell? ⟨w.heap.size, 0, none⟩ = some (.int .i64 p) ∧ Wa.cell? ⟨w.heap.size, 1, none⟩ = some (.int .i64 r) ∧ Wa.cell? ⟨w.heap.size, 2, none⟩ = some (.slice av nv kv) ∧ Wa.cell? ⟨ga, 0, none⟩ = some (.int .i64 Fp) ∧ Wa.cell? ⟨ga, 1, none⟩ = some (.int .i64 Fr) ∧ Wa.cell? ⟨ga, 2, none⟩ = some (.slice aa Fn ka) ∧ Wa.cell? ⟨gb, 0, none⟩ = some (.int .i64 Fp) ∧ Wa.cell? ⟨gb, 1, none⟩ = some (.int .i64 Fr) ∧ Wa.cell? ⟨gb, 2, none⟩ = some (.slice (some ⟨kb, 0, none⟩) Fn Fn) ∧ Below W3.heap.size W3 Wa) => show Wb.cell? ⟨w.heap.size, 0, none⟩ = some (.int .i64 p) ∧ Wb.cell? ⟨w.heap.size, 1, none⟩ = some (.int .i64 r) ∧ Wb.cell? ⟨w.heap.size, 2, none⟩ = some (.slice av nv kv) ∧ Wb.cell? ⟨ga, 0, none⟩ = some (.int .i64 Fp) ∧ Wb.cell? ⟨ga, 1, none⟩ = some (.int .i64 Fr) ∧ Wb.cell? ⟨ga, 2, none⟩ = some (.slice aa Fn ka) ∧ Wb.cell? ⟨gb, 0, none⟩ = some (.int .i64 Fp) ∧ Wb.cell? ⟨gb, 1, none⟩ = some (.int .i64 Fr) ∧ Wb.cell? ⟨gb, 2, none⟩ = some (.slice (some ⟨kb, 0, none⟩) Fn Fn) ∧ Below W3.heap.size W3 Wb from ⟨kept_cell hb h.1, kept_cell hb h.2.1, kept_cell hb h.2.2.1, kept_cell hb h.2.2.2.1, kept_cell hb h.2.2.2.2.1, kept_cell hb h.2.2.2.2.2.1, kept_cell hb h.2.2.2.2.2.2.1, kept_cell hb h.2.2.2.2.2.2.2.1, kept_cell hb h.2.2.2.2.2.2.2.2.1, h.2.2.2.2.2.2.2.2.2.trans (hb.mono h.2.2.2.2.2.2.2.2.2.size)⟩)
        have HSD := Lib.hid (show W3.drew.cell? ⟨w.heap.size, 0, none⟩ = some (.int .i64 p) ∧ W3.drew.cell? ⟨w.heap.size, 1, none⟩ = some (.int .i64 r) ∧ W3.drew.cell? ⟨w.heap.size, 2, none⟩ = some (.slice av nv kv) ∧ W3.drew.cell? ⟨ga, 0, none⟩ = some (.int .i64 Fp) ∧ W3.drew.cell? ⟨ga, 1, none⟩ = some (.int .i64 Fr) ∧ W3.drew.cell? ⟨ga, 2, none⟩ = some (.slice aa Fn ka) ∧ W3.drew.cell? ⟨gb, 0, none⟩ = some (.int .i64 Fp) ∧ W3.drew.cell? ⟨gb, 1, none⟩ = some (.int .i64 Fr) ∧ W3.drew.cell? ⟨gb, 2, none⟩ = some (.slice (some ⟨kb, 0, none⟩) Fn Fn) ∧ Below W3.heap.size W3 W3.drew from ⟨s0, s1, s2, t0, t1, t2, u0, u1, u2, (Below.refl _ _).drew⟩)
        have HAW := Lib.hid (fun (W : World) (hS : W.cell? ⟨w.heap.size, 0, none⟩ = some (.int .i64 p) ∧ W.cell? ⟨w.heap.size, 1, none⟩ = some (.int .i64 r) ∧ W.cell? ⟨w.heap.size, 2, none⟩ = some (.slice av nv kv) ∧ W.cell? ⟨ga, 0, none⟩ = some (.int .i64 Fp) ∧ W.cell? ⟨ga, 1, none⟩ = some (.int .i64 Fr) ∧ W.cell? ⟨ga, 2, none⟩ = some (.slice aa Fn ka) ∧ W.cell? ⟨gb, 0, none⟩ = some (.int .i64 Fp) ∧ W.cell? ⟨gb, 1, none⟩ = some (.int .i64 Fr) ∧ W.cell? ⟨gb, 2, none⟩ = some (.slice (some ⟨kb, 0, none⟩) Fn Fn) ∧ Below W3.heap.size W3 W) => (awake_any W (HGL.out.below (hB3.trans (hS.2.2.2.2.2.2.2.2.2.mono hB3.size)))).mono (fun z w' (hz : _ ∧ _) => show z = .returned (.bool true) ∧ w'.cell? ⟨w.heap.size, 0, none⟩ = some (.int .i64 p) ∧ w'.cell? ⟨w.heap.size, 1, none⟩ = some (.int .i64 r) ∧ w'.cell? ⟨w.heap.size, 2, none⟩ = some (.slice av nv kv) ∧ w'.cell? ⟨ga, 0, none⟩ = some (.int .i64 Fp) ∧ w'.cell? ⟨ga, 1, none⟩ = some (.int .i64 Fr) ∧ w'.cell? ⟨ga, 2, none⟩ = some (.slice aa Fn ka) ∧ w'.cell? ⟨gb, 0, none⟩ = some (.int .i64 Fp) ∧ w'.cell? ⟨gb, 1, none⟩ = some (.int .i64 Fr) ∧ w'.cell? ⟨gb, 2, none⟩ = some (.slice (some ⟨kb, 0, none⟩) Fn Fn) ∧ Below W3.heap.size W3 w' from ⟨hz.1, HKP.out W w' hz.2 hS⟩))
        have HRF := Lib.hid (fun (W : World) (hS : W.cell? ⟨w.heap.size, 0, none⟩ = some (.int .i64 p) ∧ W.cell? ⟨w.heap.size, 1, none⟩ = some (.int .i64 r) ∧ W.cell? ⟨w.heap.size, 2, none⟩ = some (.slice av nv kv) ∧ W.cell? ⟨ga, 0, none⟩ = some (.int .i64 Fp) ∧ W.cell? ⟨ga, 1, none⟩ = some (.int .i64 Fr) ∧ W.cell? ⟨ga, 2, none⟩ = some (.slice aa Fn ka) ∧ W.cell? ⟨gb, 0, none⟩ = some (.int .i64 Fp) ∧ W.cell? ⟨gb, 1, none⟩ = some (.int .i64 Fr) ∧ W.cell? ⟨gb, 2, none⟩ = some (.slice (some ⟨kb, 0, none⟩) Fn Fn) ∧ Below W3.heap.size W3 W) => (hfold W hS.2.2.2.2.2.2.2.2.2).mono (fun z w' (hz : StSl Fp Fr F.vars Fn W z w') => show ∃ a k, z = .returned (.agg #[.int .i64 Fp, .int .i64 Fr, .slice a Fn k]) ∧ Hid (SlN w' (.slice a Fn k) F.vars) ∧ w'.cell? ⟨w.heap.size, 0, none⟩ = some (.int .i64 p) ∧ w'.cell? ⟨w.heap.size, 1, none⟩ = some (.int .i64 r) ∧ w'.cell? ⟨w.heap.size, 2, none⟩ = some (.slice av nv kv) ∧ w'.cell? ⟨ga, 0, none⟩ = some (.int .i64 Fp) ∧ w'.cell? ⟨ga, 1, none⟩ = some (.int .i64 Fr) ∧ w'.cell? ⟨ga, 2, none⟩ = some (.slice aa Fn ka) ∧ w'.cell? ⟨gb, 0, none⟩ = some (.int .i64 Fp) ∧ w'.cell? ⟨gb, 1, none⟩ = some (.int .i64 Fr) ∧ w'.cell? ⟨gb, 2, none⟩ = some (.slice (some ⟨kb, 0, none⟩) Fn Fn) ∧ Below W3.heap.size W3 w' from (by
          obtain ⟨a, k, e, h1, h2⟩ := hz
          exact ⟨a, k, e, h1, HKP.out W w' h2 hS⟩)))
        have HSM1 := Lib.hid (fun (a : Option Addr) (k : Nat) (W : World) (hS : W.cell? ⟨w.heap.size, 0, none⟩ = some (.int .i64 p) ∧ W.cell? ⟨w.heap.size, 1, none⟩ = some (.int .i64 r) ∧ W.cell? ⟨w.heap.size, 2, none⟩ = some (.slice av nv kv) ∧ W.cell? ⟨ga, 0, none⟩ = some (.int .i64 Fp) ∧ W.cell? ⟨ga, 1, none⟩ = some (.int .i64 Fr) ∧ W.cell? ⟨ga, 2, none⟩ = some (.slice aa Fn ka) ∧ W.cell? ⟨gb, 0, none⟩ = some (.int .i64 Fp) ∧ W.cell? ⟨gb, 1, none⟩ = some (.int .i64 Fr) ∧ W.cell? ⟨gb, 2, none⟩ = some (.slice (some ⟨kb, 0, none⟩) Fn Fn) ∧ Below W3.heap.size W3 W) (h' : SlN W (.slice a Fn k) F.vars) => (hsame (.slice a Fn k) W hS.2.2.2.2.2.2.2.2.2 h').mono (fun z w' (hz : _ ∧ _) => show z = .returned (.bool true) ∧ w'.cell? ⟨w.heap.size, 0, none⟩ = some (.int .i64 p) ∧ w'.cell? ⟨w.heap.size, 1, none⟩ = some (.int .i64 r) ∧ w'.cell? ⟨w.heap.size, 2, none⟩ = some (.slice av nv kv) ∧ w'.cell? ⟨ga, 0, none⟩ = some (.int .i64 Fp) ∧ w'.cell? ⟨ga, 1, none⟩ = some (.int .i64 Fr) ∧ w'.cell? ⟨ga, 2, none⟩ = some (.slice aa Fn ka) ∧ w'.cell? ⟨gb, 0, none⟩ = some (.int .i64 Fp) ∧ w'.cell? ⟨gb, 1, none⟩ = some (.int .i64 Fr) ∧ w'.cell? ⟨gb, 2, none⟩ = some (.slice (some ⟨kb, 0, none⟩) Fn Fn) ∧ Below W3.heap.size W3 w' from ⟨hz.1, HKP.out W w' hz.2 hS⟩))
        have HSM2 := Lib.hid (fun (W : World) (hS : W.cell? ⟨w.heap.size, 0, none⟩ = some (.int .i64 p) ∧ W.cell? ⟨w.heap.size, 1, none⟩ = some (.int .i64 r) ∧ W.cell? ⟨w.heap.size, 2, none⟩ = some (.slice av nv kv) ∧ W.cell? ⟨ga, 0, none⟩ = some (.int .i64 Fp) ∧ W.cell? ⟨ga, 1, none⟩ = some (.int .i64 Fr) ∧ W.cell? ⟨ga, 2, none⟩ = some (.slice aa Fn ka) ∧ W.cell? ⟨gb, 0, none⟩ = some (.int .i64 Fp) ∧ W.cell? ⟨gb, 1, none⟩ = some (.int .i64 Fr) ∧ W.cell? ⟨gb, 2, none⟩ = some (.slice (some ⟨kb, 0, none⟩) Fn Fn) ∧ Below W3.heap.size W3 W) => (hsame (.slice (some ⟨kb, 0, none⟩) Fn Fn) W hS.2.2.2.2.2.2.2.2.2 (sln_ownN (HNB.out.below hS.2.2.2.2.2.2.2.2.2) hFn _)).mono (fun z w' (hz : _ ∧ _) => show z = .returned (.bool true) ∧ w'.cell? ⟨w.heap.size, 0, none⟩ = some (.int .i64 p) ∧ w'.cell? ⟨w.heap.size, 1, none⟩ = some (.int .i64 r) ∧ w'.cell? ⟨w.heap.size, 2, none⟩ = some (.slice av nv kv) ∧ w'.cell? ⟨ga, 0, none⟩ = some (.int .i64 Fp) ∧ w'.cell? ⟨ga, 1, none⟩ = some (.int .i64 Fr) ∧ w'.cell? ⟨ga, 2, none⟩ = some (.slice aa Fn ka) ∧ w'.cell? ⟨gb, 0, none⟩ = some (.int .i64 Fp) ∧ w'.cell? ⟨gb, 1, none⟩ = some (.int .i64 Fr) ∧ w'.cell? ⟨gb, 2, none⟩ = some (.slice (some ⟨kb, 0, none⟩) Fn Fn) ∧ Below W3.heap.size W3 w' from ⟨hz.1, HKP.out W w' hz.2 hS⟩))
        have hM0 : M = 0 → ∀ W : World, Below W3.heap.size W3 W → Calls Tryd.prog 6 #[.agg #[.int .i64 Fp, .int .i64 Fr, .slice aa Fn ka], .agg #[.int .i64 p, .int .i64 r, .slice av nv kv]] W fun z w' => z = .returned (.bool true) ∧ Below W.heap.size W w' := by
          intro h0 W hb
          have hl0 : l2 = [] := List.eq_nil_of_length_eq_zero (by rw [HM2.out]; exact h0)
          have hFs : F = s := by rw [← hF, hl0]; rfl
          have e1 : Fp = p := by rw [← hFp, hFs]; exact HPR.out.1
          have e2 : Fr = r := by rw [← hFr, hFs]; exact HPR.out.2
          have := hsame (.slice av nv kv) W hb (by rw [hFs]; exact Sl.below HS0.out (hB3.trans (hb.mono hB3.size)))
          rw [e1, e2] at this ⊢
          exact this
        have HM0 := Lib.hid hM0
        clear hcut hB3 hNB hSB hb3 s0 s1 s2 t0 t1 t2 u0 u1 u2 hF hFp hFr hFn hsame hfold hM0 hct1 hct2 HFB HFC HSS HSA HVA2 HB2
        go_upto_region 8 with fail
        have hS0 : W3.drew.cell? ⟨w.heap.size, 0, none⟩ = some (.int .i64 p) ∧ W3.drew.cell? ⟨w.heap.size, 1, none⟩ = some (.int .i64 r) ∧ W3.drew.cell? ⟨w.heap.size, 2, none⟩ = some (.slice av nv kv) ∧ W3.drew.cell? ⟨ga, 0, none⟩ = some (.int .i64 Fp) ∧ W3.drew.cell? ⟨ga, 1, none⟩ = some (.int .i64 Fr) ∧ W3.drew.cell? ⟨ga, 2, none⟩ = some (.slice aa Fn ka) ∧ W3.drew.cell? ⟨gb, 0, none⟩ = some (.int .i64 Fp) ∧ W3.drew.cell? ⟨gb, 1, none⟩ = some (.int .i64 Fr) ∧ W3.drew.cell? ⟨gb, 2, none⟩ = some (.slice (some ⟨kb, 0, none⟩) Fn Fn) ∧ Below W3.heap.size W3 W3.drew := HSD.out
        go_region_held3 (fun Wz => Wz.cell? ⟨w.heap.size, 0, none⟩ = some (.int .i64 p) ∧ Wz.cell? ⟨w.heap.size, 1, none⟩ = some (.int .i64 r) ∧ Wz.cell? ⟨w.heap.size, 2, none⟩ = some (.slice av nv kv) ∧ Wz.cell? ⟨ga, 0, none⟩ = some (.int .i64 Fp) ∧ Wz.cell? ⟨ga, 1, none⟩ = some (.int .i64 Fr) ∧ Wz.cell? ⟨ga, 2, none⟩ = some (.slice aa Fn ka) ∧ Wz.cell? ⟨gb, 0, none⟩ = some (.int .i64 Fp) ∧ Wz.cell? ⟨gb, 1, none⟩ = some (.int .i64 Fr) ∧ Wz.cell? ⟨gb, 2, none⟩ = some (.slice (some ⟨kb, 0, none⟩) Fn Fn) ∧ Below W3.heap.size W3 Wz) (first | exact hS0 | assumption) (first
          | (go_at_call 5; ((with_reducible refine (HAW.out _ ?_).mono ?_); (first | exact hS0 | assumption)); rintro _ w8 ⟨rfl, hS8⟩)
          | (go_at_call 7; ((with_reducible refine (HRF.out _ ?_).mono ?_); (first | exact hS0 | assumption)); rintro _ w9 ⟨ar, kr, rfl, hvr, hS9⟩)
          | (go_at_call 6; ((with_reducible refine (HSM1.out ar kr _ ?_ hvr.out).mono ?_); (first | exact hS0 | assumption)); rintro _ w10 ⟨rfl, hS10⟩)
          | (go_at_call 6; ((with_reducible refine (HSM2.out _ ?_).mono ?_); (first | exact hS0 | assumption)); rintro _ w11 ⟨rfl, hS11⟩))
        have hS12 : w11.cell? ⟨w.heap.size, 0, none⟩ = some (.int .i64 p) ∧ w11.cell? ⟨w.heap.size, 1, none⟩ = some (.int .i64 r) ∧ w11.cell? ⟨w.heap.size, 2, none⟩ = some (.slice av nv kv) ∧ w11.cell? ⟨ga, 0, none⟩ = some (.int .i64 Fp) ∧ w11.cell? ⟨ga, 1, none⟩ = some (.int .i64 Fr) ∧ w11.cell? ⟨ga, 2, none⟩ = some (.slice aa Fn ka) ∧ w11.cell? ⟨gb, 0, none⟩ = some (.int .i64 Fp) ∧ w11.cell? ⟨gb, 1, none⟩ = some (.int .i64 Fr) ∧ w11.cell? ⟨gb, 2, none⟩ = some (.slice (some ⟨kb, 0, none⟩) Fn Fn) ∧ Below W3.heap.size W3 w11 := hS11
        obtain ⟨s0, s1, s2, t0, t1, t2, u0, u1, u2, hb11⟩ := hS12
        have HB11 := Lib.hid (HB3.out.trans (hb11.mono HB3.out.size))
        by_cases h0 : M = 0
        · have hb0 : ((M : Int) == 0) = true := by rw [h0]; rfl
          have HM1 := Lib.hid (HM0.out h0 _ hb11)
          clear hS0 hS8 hS9 hS10 hS11
          go_wp2_with fail
          refine HM1.out.mono ?_
          rintro _ w12 ⟨rfl, hb12⟩
          have HB12 := Lib.hid (HB11.out.trans (hb12.mono HB11.out.size))
          clear hb12
          go_wp2_with fail
          go_ret
          exact ⟨rfl, HB12.out⟩
        · have hb0 : ((M : Int) == 0) = false := by rw [beq_eq_false_iff_ne]; omega
          have hM1 : (0 : Int) < (M : Int) := by omega
          have hMn : 0 < M := by omega
          obtain ⟨e0, he0⟩ : ∃ e, l2[0]? = some e := ⟨_, List.getElem?_eq_getElem (by rw [HM2.out]; omega)⟩
          have h8e := HE2.out e0 (List.mem_of_getElem? he0)
          obtain ⟨b, off, ea, cs, -, ⟨ev, rfl, hev⟩, hc⟩ := SlOf.at HE.out he0
          subst ea
          have hev0 := hev
          obtain ⟨ae, ke, rfl⟩ := sl_len hev
          obtain ⟨m, hm⟩ : ∃ m, e0.vars.length = m := ⟨_, rfl⟩
          rw [List.length_map, hm] at hc hev0
          have c0 := hc 0 _ rfl
          have c1 := hc 1 _ rfl
          rw [show off + 0 * 2 + 0 = off by omega] at c0
          rw [show off + 0 * 2 + 1 = off + 1 by omega] at c1
          have k0 : w11.cell? ⟨b, off, none⟩ = some (.int .i64 e0.pos) := kept_cell HB11.out c0
          have k1 : w11.cell? ⟨b, off + 1, none⟩ = some (.slice ae m ke) := kept_cell HB11.out c1
          have hap := fun (W : World) (hb : Below w.heap.size w W) => apply_any s e0 (.slice av nv kv) (.slice ae m ke) m W HVER.out (Sl.below hev0 hb) hm (by omega)
          have hra := fun (W : World) => refApply_any s.pos s.ver av nv kv e0.pos ae m ke W HVER.out
          have hsa := fun (k : Nat) (W : World) (hb : Below w.heap.size w W) (hn : NumsAt W k e0.vars) => sameS_any (apply7 s e0) (.slice (some ⟨k, 0, none⟩) m m) (.slice ae m ke) W (sln_ownN hn hm _) (Sl.below hev0 hb) (by show e0.vars.length ≤ _; omega)
          rw [show (apply7 s e0).pos = e0.pos from rfl, show (apply7 s e0).ver = next s.ver from rfl] at hsa
          obtain ⟨ep, hep⟩ : ∃ ep, e0.pos = ep := ⟨_, rfl⟩
          obtain ⟨nx, hnx⟩ : ∃ nv, next s.ver = nv := ⟨_, rfl⟩
          rw [HPR.out.1, hep] at hra
          rw [hep, hnx, HPR.out.1] at hap
          rw [hep, hnx] at hsa
          rw [hep] at k0
          rw [hnx, HPR.out.2] at hra
          rw [HPR.out.2] at hap
          have HKP2 := Lib.hid (fun (Wa Wb : World) (hb : Below Wa.heap.size Wa Wb) (h : Wa.cell? ⟨w.heap.size, 0, none⟩ = some (.int .i64 p) ∧ Wa.cell? ⟨w.heap.size, 1, none⟩ = some (.int .i64 r) ∧ Wa.cell? ⟨w.heap.size, 2, none⟩ = some (.slice av nv kv) ∧ Wa.cell? ⟨b, off, none⟩ = some (.int .i64 ep) ∧ Wa.cell? ⟨b, off + 1, none⟩ = some (.slice ae m ke) ∧ Below W3.heap.size W3 Wa) => show Wb.cell? ⟨w.heap.size, 0, none⟩ = some (.int .i64 p) ∧ Wb.cell? ⟨w.heap.size, 1, none⟩ = some (.int .i64 r) ∧ Wb.cell? ⟨w.heap.size, 2, none⟩ = some (.slice av nv kv) ∧ Wb.cell? ⟨b, off, none⟩ = some (.int .i64 ep) ∧ Wb.cell? ⟨b, off + 1, none⟩ = some (.slice ae m ke) ∧ Below W3.heap.size W3 Wb from ⟨kept_cell hb h.1, kept_cell hb h.2.1, kept_cell hb h.2.2.1, kept_cell hb h.2.2.2.1, kept_cell hb h.2.2.2.2.1, h.2.2.2.2.2.trans (hb.mono h.2.2.2.2.2.size)⟩)
          have HSD2 := Lib.hid (show w11.drew.cell? ⟨w.heap.size, 0, none⟩ = some (.int .i64 p) ∧ w11.drew.cell? ⟨w.heap.size, 1, none⟩ = some (.int .i64 r) ∧ w11.drew.cell? ⟨w.heap.size, 2, none⟩ = some (.slice av nv kv) ∧ w11.drew.cell? ⟨b, off, none⟩ = some (.int .i64 ep) ∧ w11.drew.cell? ⟨b, off + 1, none⟩ = some (.slice ae m ke) ∧ Below W3.heap.size W3 w11.drew from ⟨s0, s1, s2, k0, k1, hb11.drew⟩)
          have HBW := Lib.hid (fun (W : World) (hb : Below W3.heap.size W3 W) => HB3.out.trans (hb.mono HB3.out.size))
          have HAP := Lib.hid (fun (W : World) (hS : W.cell? ⟨w.heap.size, 0, none⟩ = some (.int .i64 p) ∧ W.cell? ⟨w.heap.size, 1, none⟩ = some (.int .i64 r) ∧ W.cell? ⟨w.heap.size, 2, none⟩ = some (.slice av nv kv) ∧ W.cell? ⟨b, off, none⟩ = some (.int .i64 ep) ∧ W.cell? ⟨b, off + 1, none⟩ = some (.slice ae m ke) ∧ Below W3.heap.size W3 W) => (hap W (HBW.out W hS.2.2.2.2.2)).mono (fun z w' hz => show ∃ k, z = .returned (.agg #[.int .i64 ep, .int .i64 nx, .slice (some ⟨k, 0, none⟩) m m]) ∧ Hid (NumsAt w' k e0.vars) ∧ w'.cell? ⟨w.heap.size, 0, none⟩ = some (.int .i64 p) ∧ w'.cell? ⟨w.heap.size, 1, none⟩ = some (.int .i64 r) ∧ w'.cell? ⟨w.heap.size, 2, none⟩ = some (.slice av nv kv) ∧ w'.cell? ⟨b, off, none⟩ = some (.int .i64 ep) ∧ w'.cell? ⟨b, off + 1, none⟩ = some (.slice ae m ke) ∧ Below W3.heap.size W3 w' from (by
            obtain ⟨k, e, _, h1, h2⟩ := hz
            exact ⟨k, e, h1, HKP2.out W w' h2 hS⟩)))
          have HRA := Lib.hid (fun (W : World) (hS : W.cell? ⟨w.heap.size, 0, none⟩ = some (.int .i64 p) ∧ W.cell? ⟨w.heap.size, 1, none⟩ = some (.int .i64 r) ∧ W.cell? ⟨w.heap.size, 2, none⟩ = some (.slice av nv kv) ∧ W.cell? ⟨b, off, none⟩ = some (.int .i64 ep) ∧ W.cell? ⟨b, off + 1, none⟩ = some (.slice ae m ke) ∧ Below W3.heap.size W3 W) => (hra W).mono (fun z w' (hz : _ ∧ _) => show z = .returned (.agg #[.int .i64 ep, .int .i64 nx, .slice ae m ke]) ∧ Below W.heap.size W w' ∧ w'.cell? ⟨w.heap.size, 0, none⟩ = some (.int .i64 p) ∧ w'.cell? ⟨w.heap.size, 1, none⟩ = some (.int .i64 r) ∧ w'.cell? ⟨w.heap.size, 2, none⟩ = some (.slice av nv kv) ∧ w'.cell? ⟨b, off, none⟩ = some (.int .i64 ep) ∧ w'.cell? ⟨b, off + 1, none⟩ = some (.slice ae m ke) ∧ Below W3.heap.size W3 w' from ⟨hz.1, hz.2, HKP2.out W w' hz.2 hS⟩))
          have HSQ := Lib.hid (fun (k : Nat) (W : World) (hS : W.cell? ⟨w.heap.size, 0, none⟩ = some (.int .i64 p) ∧ W.cell? ⟨w.heap.size, 1, none⟩ = some (.int .i64 r) ∧ W.cell? ⟨w.heap.size, 2, none⟩ = some (.slice av nv kv) ∧ W.cell? ⟨b, off, none⟩ = some (.int .i64 ep) ∧ W.cell? ⟨b, off + 1, none⟩ = some (.slice ae m ke) ∧ Below W3.heap.size W3 W) (hn : NumsAt W k e0.vars) => (hsa k W (HBW.out W hS.2.2.2.2.2) hn).mono (fun z w' (hz : _ ∧ _) => show z = .returned (.bool true) ∧ w'.cell? ⟨w.heap.size, 0, none⟩ = some (.int .i64 p) ∧ w'.cell? ⟨w.heap.size, 1, none⟩ = some (.int .i64 r) ∧ w'.cell? ⟨w.heap.size, 2, none⟩ = some (.slice av nv kv) ∧ w'.cell? ⟨b, off, none⟩ = some (.int .i64 ep) ∧ w'.cell? ⟨b, off + 1, none⟩ = some (.slice ae m ke) ∧ Below W3.heap.size W3 w' from ⟨hz.1, HKP2.out W w' hz.2 hS⟩))
          clear hS0 hS8 hS9 hS10 hS11 c0 c1 hc hev hev0 hap hra hsa hep hnx hm he0 h8e t0 t1 t2 u0 u1 u2 s0 s1 s2 k0 k1 hb11
          go_upto_region 12 with fail
          have hS0 : w11.drew.cell? ⟨w.heap.size, 0, none⟩ = some (.int .i64 p) ∧ w11.drew.cell? ⟨w.heap.size, 1, none⟩ = some (.int .i64 r) ∧ w11.drew.cell? ⟨w.heap.size, 2, none⟩ = some (.slice av nv kv) ∧ w11.drew.cell? ⟨b, off, none⟩ = some (.int .i64 ep) ∧ w11.drew.cell? ⟨b, off + 1, none⟩ = some (.slice ae m ke) ∧ Below W3.heap.size W3 w11.drew := HSD2.out
          go_region_held3 (fun Wz => Wz.cell? ⟨w.heap.size, 0, none⟩ = some (.int .i64 p) ∧ Wz.cell? ⟨w.heap.size, 1, none⟩ = some (.int .i64 r) ∧ Wz.cell? ⟨w.heap.size, 2, none⟩ = some (.slice av nv kv) ∧ Wz.cell? ⟨b, off, none⟩ = some (.int .i64 ep) ∧ Wz.cell? ⟨b, off + 1, none⟩ = some (.slice ae m ke) ∧ Below W3.heap.size W3 Wz) (first | exact hS0 | assumption) (first
            | (go_at_call 8; ((with_reducible refine (HAP.out _ ?_).mono ?_); (first | exact hS0 | assumption)); rintro _ w13 ⟨k3, rfl, hn3, hS13⟩)
            | (go_at_call 9; ((with_reducible refine (HRA.out _ ?_).mono ?_); (first | exact hS0 | assumption)); rintro _ w14 ⟨rfl, hb14, hS14⟩; have hn4 := hn3.out.below hb14)
            | (go_at_call 6; ((with_reducible refine (HSQ.out k3 _ ?_ hn4).mono ?_); (first | exact hS0 | assumption)); rintro _ w15 ⟨rfl, hS15⟩))
          go_wp2_with fail
          go_ret
          exact ⟨rfl, HBW.out _ hS15.2.2.2.2.2⟩

/-- WHAT THE WALK GIVES, FOR EVERY ARGUMENT AND EVERY WORLD THAT HOLDS WHAT THE ROW LISTS. -/
theorem contract (H : Type) (enc : TypeId × Value → H) (W : World) (base : Nat) (args : Array Value) (ds gs : List (DataW H)) (before : List MemPlace)
    (hval0 : ∀ (j : Nat) t v, Tryd.f3.params[j]? = some t → args[j]? = some v → Value.okWide Tryd.prog W .any base t v)
    (hW : DataW.Whole enc Tryd.prog Tryd.f3.params.toList Rows.decideFoldsSpec.vars false W args.toList ds gs before) (hsz : (DataW.weightsEach Tryd.prog (Tryd.f3.params.toList ++ (OpenSpec.ofChange Rows.decideFoldsSpec).bare.plain.varTypes Tryd.prog) (ds ++ gs)).all (· ≤ reachBytes) = true) (hL : laidMetH Tryd.prog I.laid1 W) :
    Calls Tryd.prog 3 args W fun e W' => ∃ v, e = .returned v ∧ Rows.decideFoldsSpec.post enc Tryd.prog Tryd.f3 false true false false W args v W' := by
  have hval : ∀ (j : Nat) t v, Tryd.f3.params[j]? = some t → args[j]? = some v → Value.okWide Tryd.prog W .any base t v := hval0
  have hW' := hW
  obtain ⟨p, q, hA0, hV, rfl, hfz, hnd⟩ := hW
  have hA : DataW.TrodAll enc Tryd.prog W 0 (fun _ => true) true Tryd.f3.params.toList args.toList ds p := hA0
  rw [Tryd.params3] at hA hval hsz
  obtain ⟨v0, vs0, d0, ds0, p0, q0, hargs, rfl, rfl, h0, r0⟩ := trodAll_cons hA
  obtain ⟨v1, vs1, d1, ds1, p1, q1, rfl, rfl, rfl, h1, r1⟩ := trodAll_cons r0
  obtain ⟨v2, vs2, d2, ds2, p2, q2, rfl, rfl, rfl, h2, r2⟩ := trodAll_cons r1
  obtain ⟨rfl, rfl, rfl⟩ := trodAll_nil r2
  obtain rfl : args = #[v0, v1, v2] := by cases args; simp_all
  obtain ⟨v, s, rfl, hs, hsw⟩ := st_arg (hval 0 24 v0 rfl rfl) h0
  obtain ⟨as1, ns1, ks1, rfl⟩ := okWide_slice Tryd.underlying25 (hval 1 25 v1 rfl rfl)
  obtain ⟨f1, hf1⟩ := h1
  obtain ⟨l, hl, hlw, hll, hcap⟩ := evs_sized (c := .slice as1 ns1 ks1) (by simpa [Value.cells] using hf1) (fun m hm => by
    have h2 := List.all_eq_true.1 hsz m (DataW.weights_mem_each (j := 1) (t := 25) rfl rfl m hm)
    have h3 : m ≤ reachBytes := by simpa using h2
    rw [show reachBytes = 140737488351232 by decide] at h3
    exact h3
  )
  have he8 : ∀ e ∈ l, e.vars.length * 8 ≤ 140737488351232 := fun e he => (hlw e he).2
  replace hlw : ∀ x ∈ l, EvWf x := fun x hx => (hlw x hx).1
  obtain ⟨n2, rfl, rfl, rfl, w2⟩ := open_int Tryd.underlying5 (hval 2 5 v2 rfl rfl) h2
  obtain ⟨cut, rfl⟩ : ∃ c : Nat, n2 = (c : Int) := Int.eq_ofNat_of_zero_le (by simp [Lit.wf, IntKind.min, IntKind.max, IntKind.signed, IntKind.bits] at w2; omega)
  have hcut : cut < 256 := by simp [Lit.wf, IntKind.min, IntKind.max, IntKind.signed, IntKind.bits] at w2; omega
  have hv8 : s.vars.length * 8 ≤ 140737488351232 := st_size h0 hs (fun m hm => by
    have h2 := List.all_eq_true.1 hsz m (DataW.weights_mem_each (j := 0) (t := 24) rfl rfl m hm)
    have h3 : m ≤ reachBytes := by simpa using h2
    rw [show reachBytes = 140737488351232 by decide] at h3
    exact h3
  )
  refine (walk s v l _ cut W hs hsw hv8 hl hlw hll he8 hcap hcut (I.glob_of hL)).mono fun e W' ⟨he, hb⟩ => ?_
  subst he
  exact ⟨_, rfl, post_law hW' hb laidOut rfl rfl rfl Tryd.underlying4 (by rw [Tryd.params3]; decide +kernel)⟩

theorem reads (os : Os) {H : Type} (enc : TypeId × Value → H) : ∃ places, DataW.whole enc Tryd.prog ((World.doorLaid Tryd.prog 77 os).forCall (fun _ _ => 0) ⟨#[], #[.agg #[.int .i64 0, .int .i64 0, .slice none 0 0], .slice none 0 0, .int .u8 0], []⟩).memory Tryd.f3.params.toList Rows.decideFoldsSpec.vars false (#[.agg #[.int .i64 0, .int .i64 0, .slice none 0 0], .slice none 0 0, .int .u8 0] : Array Value).toList 8 = some ([.agg [.lit (.int .i64 0), .lit (.int .i64 0), .nil], .nil, .lit (.int .u8 0)], [], places) :=
  ⟨[], by kernel_rfl⟩

theorem lifted (os : Os) (started : os.Started) (H : Type) (enc : TypeId × Value → H) (F : Stop.Interp) :
    ReturnsInHanded {} Tryd.checked os 3 .any ((OpenSpec.ofChange Rows.decideFoldsSpec).preRow enc Tryd.prog Tryd.f3 Rows.decideFoldsRow.domain false Rows.decideFoldsRow.laid) (((OpenSpec.ofChange Rows.decideFoldsSpec).at F).post enc Tryd.prog Tryd.f3 false true false false) := by
  obtain ⟨places, hx⟩ := reads os enc
  refine returnsInHanded_of_row (C := Tryd.checked) (s := OpenSpec.ofChange Rows.decideFoldsSpec) own started (by kernel_rfl) Tryd.func3
    (witness_row_atRef (enc := enc) (C := Tryd.checked) false (World.doorLaid Tryd.prog 77 os) #[.agg #[.int .i64 0, .int .i64 0, .slice none 0 0], .slice none 0 0, .int .u8 0] rfl (by kernel_rfl) (by kernel_rfl) (by kernel_rfl)
      (OpenSpec.preRow_of_cond 8 hx (by kernel_rfl) (fun k hk => by cases hk) (by kernel_rfl) (I.laid_met os _))) ?_
  intro W base args ds gs before hval hW _ _ hsz hL _ _
  exact contract H enc W base args ds gs before hval hW hsz hL

theorem said : Rows.DecideFoldsSaid :=
  OpenClaim.holds_of_cond 3 Tryd.f3 rfl rfl rfl rfl rfl rfl rfl ⟨rfl, rfl, rfl, rfl, rfl⟩ rfl rfl rfl rfl rfl (by kernel_rfl) Tryd.func3 (by kernel_rfl)
    (of_decide_eq_true (by kernel_rfl)) (by unfold Func.isWrapper; first | (rw [if_pos (by decide +kernel)]; kernel_rfl) | (rw [if_neg (by decide +kernel)]; exact ⟨rfl, rfl⟩))
    (fun os started H enc _ F => by rw [OpenClaim.pre_eq_preRow]; exact lifted os started H enc F)

theorem plain (f : FuncId) (fn : Func) (hf : Tryd.pinned.checked.prog.funcNamed "surmise/surmiselaw07.DecideFolds" = some f) (hfn : Tryd.pinned.checked.prog.funcs[f]? = some fn) :
    false = Tryd.pinned.checked.prog.looks [] ∧ ∀ (j : Nat) t, fn.params[j]? = some t → Tryd.pinned.checked.prog.wantsStandIn t = false := by
  obtain rfl : f = 3 := Option.some.inj ((show Tryd.prog.funcNamed "surmise/surmiselaw07.DecideFolds" = some 3 by kernel_rfl).symm.trans hf) |>.symm
  obtain rfl : fn = Tryd.f3 := (Option.some.inj (Tryd.func3.symm.trans hfn)).symm
  refine ⟨by kernel_rfl, fun j t ht => ?_⟩
  rw [Tryd.params3] at ht
  have hm := Array.mem_of_getElem? ht
  simp only [Array.mem_def, List.mem_cons, List.not_mem_nil, or_false] at hm
  rcases hm with rfl | rfl | rfl
  · exact (show Tryd.prog.wantsStandIn 24 = false by kernel_rfl)
  · exact (show Tryd.prog.wantsStandIn 25 = false by kernel_rfl)
  · exact (show Tryd.prog.wantsStandIn 5 = false by kernel_rfl)

/-- THE CARD. -/
theorem given : Rows.DecideFoldsCardSaid :=
  Claim7.holds_tied_plain_at .later [] _ _ _ _ said (fun _ h => by cases h) (by kernel_rfl) (fun _ h => by cases h) decideFolds_row_tie rfl ⟨rfl, rfl⟩ (by kernel_rfl) rfl plain (by kernel_rfl)
end Go.Proofs.YtgkniocjlkfhmaaDoor.decideFolds
