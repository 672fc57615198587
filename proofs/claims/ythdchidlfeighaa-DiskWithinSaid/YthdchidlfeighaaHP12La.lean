/-
  Layer 12, the laws: both disks side by side; a call of both.
-/
import Derived.Test.YthdchidlfeighaaHP12Pt
namespace Go.Proofs.Ythdchidlfeighaa.C12
open Go Go.RowKit Go.Proofs Go.Proofs.Ythdchidlfeighaa.B Go.Proofs.Ythdchidlfeighaa.K Go.Proofs.Ythdchidlfeighaa.P8
set_option linter.unusedVariables false
set_option maxRecDepth 100000

structure ActL where
  kind : Int
  name : List UInt8
  s : List UInt8
  tox : List UInt8
  n : Int
  keep : List Int
/-- What a call makes of a disk, and its answer. -/
def stepD (D : Dst) (a : ActL) : Dst × Int :=
  if a.kind = 0 ∨ a.kind = 1 ∨ a.kind = 2 then appendD D a.name a.s else if a.kind = 3 then syncD D a.name else if a.kind = 4 then truncD D a.name a.n else if a.kind = 5 then renameD D a.name a.tox else
  if a.kind = 6 then removeD D a.name else if a.kind = 7 then armD D a.n else (crashD D a.keep, 0)
/-- Do both answer alike? -/
def doB (D E : Dst) (a : ActL) : Bool := if 0 ≤ a.kind ∧ a.kind ≤ 7 then (stepD D a).2 == (stepD E a).2 else true
theorem doB_same (D : Dst) (a : ActL) : doB D D a = true := by unfold doB; split <;> simp
structure ActWf (a : ActL) : Prop where
  name : a.name.length ≤ 140737488355328
  s : a.s.length ≤ 140737488355328
  tox : a.tox.length ≤ 140737488355328
  n : -9223372036854775808 ≤ a.n ∧ a.n ≤ 9223372036854775807
  keep : ∀ n ∈ a.keep, -9223372036854775808 ≤ n ∧ n ≤ 9223372036854775807
/-- Numbers in a slice that was there ahead. -/
def Kp0 (w : World) (B : Nat) (v : Value) (l : List Int) : Prop :=
  ∃ a cap, v = .slice a l.length cap ∧ l.length ≤ cap ∧ ∀ (j : Nat) (k : Int), l[j]? = some k → ∃ b off, a = some ⟨b, off, none⟩ ∧ b < B ∧ w.cell? ⟨b, off + j, none⟩ = some (.int .i64 k)
theorem Kp0.below {w w' : World} {B : Nat} {v : Value} {l : List Int} (h : Kp0 w B v l) (hb : Below B w w') : Kp0 w' B v l := by
  obtain ⟨a, cap, rfl, h1, h2⟩ := h
  refine ⟨a, cap, rfl, h1, fun j k hj => ?_⟩
  obtain ⟨b, off, rfl, h3, h4⟩ := h2 j k hj
  exact ⟨b, off, rfl, h3, cell_same (hb.block b h3) h4⟩
theorem Kp0.kp {w : World} {B : Nat} {v : Value} {l : List Int} (h : Kp0 w B v l) {F : Nat → Prop} (hF : ∀ i, F i → B ≤ i) : Kp w F v l := by
  obtain ⟨a, cap, rfl, h1, h2⟩ := h
  refine ⟨a, cap, rfl, h1, fun j k hj => ?_⟩
  obtain ⟨b, off, rfl, h3, h4⟩ := h2 j k hj
  exact ⟨b, off, rfl, fun e => by have := hF b e; omega, h4⟩
theorem Kp0.sl {w : World} {B : Nat} {v : Value} {l : List Int} (h : Kp0 w B v l) : Sl w v (l.map fun n => .int .i64 n) := by
  obtain ⟨a, cap, rfl, h1, h2⟩ := h
  refine ⟨a, cap, by rw [List.length_map], fun j u hj => ?_⟩
  rw [List.getElem?_map] at hj
  cases hz : l[j]? with
  | none => rw [hz] at hj; cases hj
  | some k =>
    rw [hz] at hj
    cases hj
    obtain ⟨b, off, rfl, h3, h4⟩ := h2 j k hz
    exact ⟨b, off, rfl, h4⟩

/-- Both disks, apart, and behind what was there ahead. -/
structure TwoIn (B : Nat) (w : World) (F G : Nat → Prop) (d x : Nat) (D E : Dst) : Prop where
  prog : PAt w F d D
  ref : RAt w G x E
  apart : ∀ i, F i → ¬ G i
  newF : ∀ i, F i → B ≤ i
  newG : ∀ i, G i → B ≤ i
  base : B ≤ w.heap.size
def Two (B : Nat) (w : World) (d x : Nat) (D E : Dst) : Prop := ∃ F G, TwoIn B w F G d x D E
theorem TwoIn.below {B : Nat} {w w' : World} {F G : Nat → Prop} {d x : Nat} {D E : Dst} (h : TwoIn B w F G d x D E) (hb : Below w.heap.size w w') : TwoIn B w' F G d x D E :=
  ⟨h.prog.below hb, h.ref.below hb, h.apart, h.newF, h.newG, Nat.le_trans h.base hb.size⟩
theorem Two.below {B : Nat} {w w' : World} {d x : Nat} {D E : Dst} (h : Two B w d x D E) (hb : Below w.heap.size w w') : Two B w' d x D E := by
  obtain ⟨F, G, h⟩ := h
  exact ⟨F, G, h.below hb⟩
theorem below_base {B : Nat} {w w' : World} (h : Below w.heap.size w w') (hB : B ≤ w.heap.size) : Below B w w' := ⟨h.os, h.tape, h.output, h.size, fun i hi => h.block i (Nat.lt_of_lt_of_le hi hB)⟩
theorem Chg.base {B : Nat} {F F' : Nat → Prop} {w w' : World} (h : Chg F F' w w') (hF : ∀ i, F i → B ≤ i) (hB : B ≤ w.heap.size) : Below B w w' :=
  ⟨h.turn.os, h.turn.tape, h.turn.output, h.turn.size, fun i hi => h.turn.block i (Nat.lt_of_lt_of_le hi hB) (fun e => by have := hF i e; omega)⟩
/-- A call of the program's, then one of the document's. -/
theorem two_step {B : Nat} {w X w1 w2 : World} {F F' G G' : Nat → Prop} {d x : Nat} {D E D' E' : Dst} (h : TwoIn B w F G d x D E) (hb : Below w.heap.size w X) (hp : PAt w1 F' d D') (hc : Chg F F' X w1) (hr : RAt w2 G' x E') (hg : Chg G G' w1 w2) : Two B w2 d x D' E' ∧ Below B w w2 := by
  have hX := h.below hb
  have hFG : ∀ i, F' i → ¬ G i := fun i hi hgi => by
    rcases hc.new i hi with h1 | h1
    · exact h.apart i h1 hgi
    · have := hX.ref.lt i hgi; omega
  have b1 : Below B w w1 := (below_base hb h.base).trans (hc.base h.newF hX.base)
  have b2 : Below B w1 w2 := hg.base h.newG (Nat.le_trans hX.base hc.turn.size)
  refine ⟨⟨F', G', hp.tn hg.turn hFG, hr, fun i hi hgi => ?_, fun i hi => ?_, fun i hi => ?_, Nat.le_trans hX.base (Nat.le_trans hc.turn.size hg.turn.size)⟩, b1.trans b2⟩
  · rcases hg.new i hgi with h1 | h1
    · exact hFG i hi h1
    · have := hp.lt i hi; omega
  · rcases hc.new i hi with h1 | h1
    · exact h.newF i h1
    · exact Nat.le_trans hX.base h1
  · rcases hg.new i hi with h1 | h1
    · exact h.newG i h1
    · exact Nat.le_trans hX.base (Nat.le_trans hc.turn.size h1)
theorem two_ref {B : Nat} {w X w1 : World} {F F' G : Nat → Prop} {d x : Nat} {D E : Dst} (h : TwoIn B w F G d x D E) (hb : Below w.heap.size w X) (hc : Chg F F' X w1) : RAt w1 G x E :=
  (h.ref.below hb).tn hc.turn fun i hi hf => h.apart i hf hi

/-- A call of the document's, then one of the program's. -/
theorem two_back {B : Nat} {w X w1 w2 : World} {F F' G G' : Nat → Prop} {d x : Nat} {D E D' E' : Dst} (h : TwoIn B w F G d x D E) (hb : Below w.heap.size w X) (hr : RAt w1 G' x E') (hg : Chg G G' X w1) (hp : PAt w2 F' d D') (hc : Chg F F' w1 w2) : Two B w2 d x D' E' ∧ Below B w w2 := by
  have hX := h.below hb
  have hFG : ∀ i, G' i → ¬ F i := fun i hi hfi => by
    rcases hg.new i hi with h1 | h1
    · exact h.apart i hfi h1
    · have := hX.prog.lt i hfi; omega
  have b1 : Below B w w1 := (below_base hb h.base).trans (hg.base h.newG hX.base)
  have b2 : Below B w1 w2 := hc.base h.newF (Nat.le_trans hX.base hg.turn.size)
  refine ⟨⟨F', G', hp, hr.tn hc.turn hFG, fun i hi hgi => ?_, fun i hi => ?_, fun i hi => ?_, Nat.le_trans hX.base (Nat.le_trans hg.turn.size hc.turn.size)⟩, b1.trans b2⟩
  · rcases hc.new i hi with h1 | h1
    · exact hFG i hgi h1
    · have := hr.lt i hgi; omega
  · rcases hc.new i hi with h1 | h1
    · exact h.newF i h1
    · exact Nat.le_trans hX.base (Nat.le_trans hg.turn.size h1)
  · rcases hg.new i hi with h1 | h1
    · exact h.newG i h1
    · exact Nat.le_trans hX.base h1

set_option maxHeartbeats 16000000 in
theorem do_any (B : Nat) (w : World) (d x : Nat) (D E : Dst) (a : ActL) (kv : Value) (h2 : Two B w d x D E) (hk : Kp0 w B kv a.keep) (hwf : ActWf a) :
    Calls Try.prog 24 #[.pointer (some ⟨d, 0, none⟩), .pointer (some ⟨x, 0, none⟩), .agg #[.int .i64 a.kind, .string (str a.name), .string (str a.s), .string (str a.tox), .int .i64 a.n, kv]] w fun e w' => e = .returned (.bool (doB D E a)) ∧ Two B w' d x (stepD D a).1 (stepD E a).1 ∧ Below B w w' := by
  obtain ⟨F, G, h⟩ := h2
  have HK := Lib.hid hk
  obtain ⟨ka, kc, rfl, -⟩ := hk
  have hn1 : a.name.length ≤ maxLen := by have := hwf.name; unfold maxLen; omega
  obtain ⟨W0, hW0⟩ : ∃ W0, w.alloc (.cells #[.int .i64 a.kind, .string (str a.name), .string (str a.s), .string (str a.tox), .int .i64 a.n, .slice ka a.keep.length kc] 52) = W0 := ⟨_, rfl⟩
  have hB0 : Below w.heap.size w W0 := by rw [← hW0]; exact below_alloc _ _
  obtain ⟨g0, hg0⟩ : ∃ g, w.heap.size = g := ⟨_, rfl⟩
  have m0 : W0.cell? ⟨g0, 0, none⟩ = some (Value.int .i64 a.kind) := by rw [← hW0, ← hg0]; exact alloc_cell w [_, _, _, _, _, _] _ 0 _ rfl
  have m1 : W0.cell? ⟨g0, 1, none⟩ = some (Value.string (str a.name)) := by rw [← hW0, ← hg0]; exact alloc_cell w [_, _, _, _, _, _] _ 1 _ rfl
  have m2 : W0.cell? ⟨g0, 2, none⟩ = some (Value.string (str a.s)) := by rw [← hW0, ← hg0]; exact alloc_cell w [_, _, _, _, _, _] _ 2 _ rfl
  have m3 : W0.cell? ⟨g0, 3, none⟩ = some (Value.string (str a.tox)) := by rw [← hW0, ← hg0]; exact alloc_cell w [_, _, _, _, _, _] _ 3 _ rfl
  have m4 : W0.cell? ⟨g0, 4, none⟩ = some (Value.int .i64 a.n) := by rw [← hW0, ← hg0]; exact alloc_cell w [_, _, _, _, _, _] _ 4 _ rfl
  have m5 : W0.cell? ⟨g0, 5, none⟩ = some (Value.slice ka a.keep.length kc) := by rw [← hW0, ← hg0]; exact alloc_cell w [_, _, _, _, _, _] _ 5 _ rfl
  have hgF : ¬ F g0 := fun e => by have := h.prog.lt _ e; omega
  have hgG : ¬ G g0 := fun e => by have := h.ref.lt _ e; omega
  have H := Lib.hid h
  have HB0 := Lib.hid hB0
  have HW0 := Lib.hid hW0
  by_cases hk0 : a.kind = 0
  · have hst : ∀ Z, stepD Z a = appendD Z a.name a.s := fun Z => by unfold stepD; simp [hk0]
    have hdo : doB D E a = ((appendD D a.name a.s).2 == (appendD E a.name a.s).2) := by unfold doB; rw [hst, hst, if_pos (by omega)]
    rw [hst, hst, hdo]
    have m0k := m0
    rw [hk0] at m0k
    have HC1 := Lib.hid (fun W (hb : Below w.heap.size w W) => (show PAt W F d D → Calls Try.prog 20 #[.pointer (some ⟨d, 0, none⟩), .string (str a.name), .string (str a.s)] W (PWrote F d (appendD D a.name a.s) W) from fun hp => pappend_any hp a.name a.s hwf.name hwf.s) (h.prog.below hb))
    have HC2 := Lib.hid (fun W (hr : RAt W G x E) => append_any a.name a.s x G E W hr hwf.name hwf.s)
    generalize appendD D a.name a.s = rP at *
    generalize appendD E a.name a.s = rE at *
    have hS0 : (W0.drew.cell? ⟨g0, 1, none⟩ = some (Value.string (str a.name)) ∧ W0.drew.cell? ⟨g0, 2, none⟩ = some (Value.string (str a.s)) ∧ W0.drew.cell? ⟨g0, 3, none⟩ = some (Value.string (str a.tox)) ∧ W0.drew.cell? ⟨g0, 4, none⟩ = some (Value.int .i64 a.n) ∧ W0.drew.cell? ⟨g0, 5, none⟩ = some (Value.slice ka a.keep.length kc)) := ⟨m1, m2, m3, m4, m5⟩
    have HBX := Lib.hid (hB0.trans ((Below.refl W0.heap.size W0).drew.mono hB0.size))
    have HFG := Lib.hid (show ¬ F g0 ∧ ¬ G g0 from ⟨hgF, hgG⟩)
    clear hst hdo h m0 m1 m2 m3 m4 m5 hgF hgG hB0 hwf hn1 hk0
    go_enter Try.func24, Try.ntmps24
    go_upto_region 5 with fail
    try rw [hW0]
    go_region_held_law (fun W => (W.cell? ⟨g0, 1, none⟩ = some (Value.string (str a.name)) ∧ W.cell? ⟨g0, 2, none⟩ = some (Value.string (str a.s)) ∧ W.cell? ⟨g0, 3, none⟩ = some (Value.string (str a.tox)) ∧ W.cell? ⟨g0, 4, none⟩ = some (Value.int .i64 a.n) ∧ W.cell? ⟨g0, 5, none⟩ = some (Value.slice ka a.keep.length kc))) (first | exact hS0 | assumption) (first | (go_simp; go_at_call 20; refine (HC1.out _ HBX.out).mono ?_; rintro _ w1 ⟨rfl, F', hp1, hc1⟩; have HP1 := Lib.hid hp1; have HCH1 := Lib.hid hc1; have hS1 : (w1.cell? ⟨g0, 1, none⟩ = some (Value.string (str a.name)) ∧ w1.cell? ⟨g0, 2, none⟩ = some (Value.string (str a.s)) ∧ w1.cell? ⟨g0, 3, none⟩ = some (Value.string (str a.tox)) ∧ w1.cell? ⟨g0, 4, none⟩ = some (Value.int .i64 a.n) ∧ w1.cell? ⟨g0, 5, none⟩ = some (Value.slice ka a.keep.length kc)) := ⟨box_keep2 hc1 HFG.out.1 hS0.1, box_keep2 hc1 HFG.out.1 hS0.2.1, box_keep2 hc1 HFG.out.1 hS0.2.2.1, box_keep2 hc1 HFG.out.1 hS0.2.2.2.1, box_keep2 hc1 HFG.out.1 hS0.2.2.2.2⟩; have HR1 := Lib.hid (two_ref H.out HBX.out hc1); clear hp1 hc1) | (go_simp; go_at_call 45; refine (HC2.out _ HR1.out).mono ?_; rintro _ w2 ⟨G', rfl, hr2, hg2⟩; have HR2 := Lib.hid hr2; have HG2 := Lib.hid hg2; have hS2 : (w2.cell? ⟨g0, 1, none⟩ = some (Value.string (str a.name)) ∧ w2.cell? ⟨g0, 2, none⟩ = some (Value.string (str a.s)) ∧ w2.cell? ⟨g0, 3, none⟩ = some (Value.string (str a.tox)) ∧ w2.cell? ⟨g0, 4, none⟩ = some (Value.int .i64 a.n) ∧ w2.cell? ⟨g0, 5, none⟩ = some (Value.slice ka a.keep.length kc)) := ⟨box_keep2 hg2 HFG.out.2 hS1.1, box_keep2 hg2 HFG.out.2 hS1.2.1, box_keep2 hg2 HFG.out.2 hS1.2.2.1, box_keep2 hg2 HFG.out.2 hS1.2.2.2.1, box_keep2 hg2 HFG.out.2 hS1.2.2.2.2⟩; clear hr2 hg2))
    go_wp2_with fail
    go_ret
    obtain ⟨e1, e2⟩ := two_step H.out HBX.out HP1.out HCH1.out HR2.out HG2.out
    exact ⟨rfl, e1, e2⟩
  by_cases hk1 : a.kind = 1
  · have hst : ∀ Z, stepD Z a = appendD Z a.name a.s := fun Z => by unfold stepD; simp [hk1]
    have hdo : doB D E a = ((appendD D a.name a.s).2 == (appendD E a.name a.s).2) := by unfold doB; rw [hst, hst, if_pos (by omega)]
    rw [hst, hst, hdo]
    have m0k := m0
    rw [hk1] at m0k
    have HC1 := Lib.hid (fun W (hb : Below w.heap.size w W) => (show PAt W F d D → Calls Try.prog 20 #[.pointer (some ⟨d, 0, none⟩), .string (str a.name), .string (str a.s)] W (PWrote F d (appendD D a.name a.s) W) from fun hp => pappend_any hp a.name a.s hwf.name hwf.s) (h.prog.below hb))
    have HC2 := Lib.hid (fun W (hr : RAt W G x E) => append_any a.name a.s x G E W hr hwf.name hwf.s)
    generalize appendD D a.name a.s = rP at *
    generalize appendD E a.name a.s = rE at *
    have hS0 : (W0.drew.cell? ⟨g0, 1, none⟩ = some (Value.string (str a.name)) ∧ W0.drew.cell? ⟨g0, 2, none⟩ = some (Value.string (str a.s)) ∧ W0.drew.cell? ⟨g0, 3, none⟩ = some (Value.string (str a.tox)) ∧ W0.drew.cell? ⟨g0, 4, none⟩ = some (Value.int .i64 a.n) ∧ W0.drew.cell? ⟨g0, 5, none⟩ = some (Value.slice ka a.keep.length kc)) := ⟨m1, m2, m3, m4, m5⟩
    have HBX := Lib.hid (hB0.trans ((Below.refl W0.heap.size W0).drew.mono hB0.size))
    have HFG := Lib.hid (show ¬ F g0 ∧ ¬ G g0 from ⟨hgF, hgG⟩)
    clear hst hdo h m0 m1 m2 m3 m4 m5 hgF hgG hB0 hwf hn1 hk0 hk1
    go_enter Try.func24, Try.ntmps24
    go_upto_region 5 with fail
    try rw [hW0]
    go_region_held_law (fun W => (W.cell? ⟨g0, 1, none⟩ = some (Value.string (str a.name)) ∧ W.cell? ⟨g0, 2, none⟩ = some (Value.string (str a.s)) ∧ W.cell? ⟨g0, 3, none⟩ = some (Value.string (str a.tox)) ∧ W.cell? ⟨g0, 4, none⟩ = some (Value.int .i64 a.n) ∧ W.cell? ⟨g0, 5, none⟩ = some (Value.slice ka a.keep.length kc))) (first | exact hS0 | assumption) (first | (go_simp; go_at_call 20; refine (HC1.out _ HBX.out).mono ?_; rintro _ w1 ⟨rfl, F', hp1, hc1⟩; have HP1 := Lib.hid hp1; have HCH1 := Lib.hid hc1; have hS1 : (w1.cell? ⟨g0, 1, none⟩ = some (Value.string (str a.name)) ∧ w1.cell? ⟨g0, 2, none⟩ = some (Value.string (str a.s)) ∧ w1.cell? ⟨g0, 3, none⟩ = some (Value.string (str a.tox)) ∧ w1.cell? ⟨g0, 4, none⟩ = some (Value.int .i64 a.n) ∧ w1.cell? ⟨g0, 5, none⟩ = some (Value.slice ka a.keep.length kc)) := ⟨box_keep2 hc1 HFG.out.1 hS0.1, box_keep2 hc1 HFG.out.1 hS0.2.1, box_keep2 hc1 HFG.out.1 hS0.2.2.1, box_keep2 hc1 HFG.out.1 hS0.2.2.2.1, box_keep2 hc1 HFG.out.1 hS0.2.2.2.2⟩; have HR1 := Lib.hid (two_ref H.out HBX.out hc1); clear hp1 hc1) | (go_simp; go_at_call 45; refine (HC2.out _ HR1.out).mono ?_; rintro _ w2 ⟨G', rfl, hr2, hg2⟩; have HR2 := Lib.hid hr2; have HG2 := Lib.hid hg2; have hS2 : (w2.cell? ⟨g0, 1, none⟩ = some (Value.string (str a.name)) ∧ w2.cell? ⟨g0, 2, none⟩ = some (Value.string (str a.s)) ∧ w2.cell? ⟨g0, 3, none⟩ = some (Value.string (str a.tox)) ∧ w2.cell? ⟨g0, 4, none⟩ = some (Value.int .i64 a.n) ∧ w2.cell? ⟨g0, 5, none⟩ = some (Value.slice ka a.keep.length kc)) := ⟨box_keep2 hg2 HFG.out.2 hS1.1, box_keep2 hg2 HFG.out.2 hS1.2.1, box_keep2 hg2 HFG.out.2 hS1.2.2.1, box_keep2 hg2 HFG.out.2 hS1.2.2.2.1, box_keep2 hg2 HFG.out.2 hS1.2.2.2.2⟩; clear hr2 hg2))
    go_wp2_with fail
    go_ret
    obtain ⟨e1, e2⟩ := two_step H.out HBX.out HP1.out HCH1.out HR2.out HG2.out
    exact ⟨rfl, e1, e2⟩
  by_cases hk2 : a.kind = 2
  · have hst : ∀ Z, stepD Z a = appendD Z a.name a.s := fun Z => by unfold stepD; simp [hk2]
    have hdo : doB D E a = ((appendD D a.name a.s).2 == (appendD E a.name a.s).2) := by unfold doB; rw [hst, hst, if_pos (by omega)]
    rw [hst, hst, hdo]
    have m0k := m0
    rw [hk2] at m0k
    have HC1 := Lib.hid (fun W (hb : Below w.heap.size w W) => (show PAt W F d D → Calls Try.prog 20 #[.pointer (some ⟨d, 0, none⟩), .string (str a.name), .string (str a.s)] W (PWrote F d (appendD D a.name a.s) W) from fun hp => pappend_any hp a.name a.s hwf.name hwf.s) (h.prog.below hb))
    have HC2 := Lib.hid (fun W (hr : RAt W G x E) => append_any a.name a.s x G E W hr hwf.name hwf.s)
    generalize appendD D a.name a.s = rP at *
    generalize appendD E a.name a.s = rE at *
    have hS0 : (W0.drew.cell? ⟨g0, 1, none⟩ = some (Value.string (str a.name)) ∧ W0.drew.cell? ⟨g0, 2, none⟩ = some (Value.string (str a.s)) ∧ W0.drew.cell? ⟨g0, 3, none⟩ = some (Value.string (str a.tox)) ∧ W0.drew.cell? ⟨g0, 4, none⟩ = some (Value.int .i64 a.n) ∧ W0.drew.cell? ⟨g0, 5, none⟩ = some (Value.slice ka a.keep.length kc)) := ⟨m1, m2, m3, m4, m5⟩
    have HBX := Lib.hid (hB0.trans ((Below.refl W0.heap.size W0).drew.mono hB0.size))
    have HFG := Lib.hid (show ¬ F g0 ∧ ¬ G g0 from ⟨hgF, hgG⟩)
    clear hst hdo h m0 m1 m2 m3 m4 m5 hgF hgG hB0 hwf hn1 hk0 hk1 hk2
    go_enter Try.func24, Try.ntmps24
    go_upto_region 5 with fail
    try rw [hW0]
    go_region_held_law (fun W => (W.cell? ⟨g0, 1, none⟩ = some (Value.string (str a.name)) ∧ W.cell? ⟨g0, 2, none⟩ = some (Value.string (str a.s)) ∧ W.cell? ⟨g0, 3, none⟩ = some (Value.string (str a.tox)) ∧ W.cell? ⟨g0, 4, none⟩ = some (Value.int .i64 a.n) ∧ W.cell? ⟨g0, 5, none⟩ = some (Value.slice ka a.keep.length kc))) (first | exact hS0 | assumption) (first | (go_simp; go_at_call 20; refine (HC1.out _ HBX.out).mono ?_; rintro _ w1 ⟨rfl, F', hp1, hc1⟩; have HP1 := Lib.hid hp1; have HCH1 := Lib.hid hc1; have hS1 : (w1.cell? ⟨g0, 1, none⟩ = some (Value.string (str a.name)) ∧ w1.cell? ⟨g0, 2, none⟩ = some (Value.string (str a.s)) ∧ w1.cell? ⟨g0, 3, none⟩ = some (Value.string (str a.tox)) ∧ w1.cell? ⟨g0, 4, none⟩ = some (Value.int .i64 a.n) ∧ w1.cell? ⟨g0, 5, none⟩ = some (Value.slice ka a.keep.length kc)) := ⟨box_keep2 hc1 HFG.out.1 hS0.1, box_keep2 hc1 HFG.out.1 hS0.2.1, box_keep2 hc1 HFG.out.1 hS0.2.2.1, box_keep2 hc1 HFG.out.1 hS0.2.2.2.1, box_keep2 hc1 HFG.out.1 hS0.2.2.2.2⟩; have HR1 := Lib.hid (two_ref H.out HBX.out hc1); clear hp1 hc1) | (go_simp; go_at_call 45; refine (HC2.out _ HR1.out).mono ?_; rintro _ w2 ⟨G', rfl, hr2, hg2⟩; have HR2 := Lib.hid hr2; have HG2 := Lib.hid hg2; have hS2 : (w2.cell? ⟨g0, 1, none⟩ = some (Value.string (str a.name)) ∧ w2.cell? ⟨g0, 2, none⟩ = some (Value.string (str a.s)) ∧ w2.cell? ⟨g0, 3, none⟩ = some (Value.string (str a.tox)) ∧ w2.cell? ⟨g0, 4, none⟩ = some (Value.int .i64 a.n) ∧ w2.cell? ⟨g0, 5, none⟩ = some (Value.slice ka a.keep.length kc)) := ⟨box_keep2 hg2 HFG.out.2 hS1.1, box_keep2 hg2 HFG.out.2 hS1.2.1, box_keep2 hg2 HFG.out.2 hS1.2.2.1, box_keep2 hg2 HFG.out.2 hS1.2.2.2.1, box_keep2 hg2 HFG.out.2 hS1.2.2.2.2⟩; clear hr2 hg2))
    go_wp2_with fail
    go_ret
    obtain ⟨e1, e2⟩ := two_step H.out HBX.out HP1.out HCH1.out HR2.out HG2.out
    exact ⟨rfl, e1, e2⟩
  by_cases hk3 : a.kind = 3
  · have hst : ∀ Z, stepD Z a = syncD Z a.name := fun Z => by unfold stepD; simp [hk3]
    have hdo : doB D E a = ((syncD D a.name).2 == (syncD E a.name).2) := by unfold doB; rw [hst, hst, if_pos (by omega)]
    rw [hst, hst, hdo]
    have m0k := m0
    rw [hk3] at m0k
    have HC1 := Lib.hid (fun W (hb : Below w.heap.size w W) => (show PAt W F d D → Calls Try.prog 22 #[.pointer (some ⟨d, 0, none⟩), .string (str a.name)] W (PWrote F d (syncD D a.name) W) from fun hp => psync_any hp a.name hn1) (h.prog.below hb))
    have HC2 := Lib.hid (fun W (hr : RAt W G x E) => sync_any a.name x G E W hr)
    generalize syncD D a.name = rP at *
    generalize syncD E a.name = rE at *
    have hS0 : (W0.drew.cell? ⟨g0, 1, none⟩ = some (Value.string (str a.name)) ∧ W0.drew.cell? ⟨g0, 2, none⟩ = some (Value.string (str a.s)) ∧ W0.drew.cell? ⟨g0, 3, none⟩ = some (Value.string (str a.tox)) ∧ W0.drew.cell? ⟨g0, 4, none⟩ = some (Value.int .i64 a.n) ∧ W0.drew.cell? ⟨g0, 5, none⟩ = some (Value.slice ka a.keep.length kc)) := ⟨m1, m2, m3, m4, m5⟩
    have HBX := Lib.hid (hB0.trans ((Below.refl W0.heap.size W0).drew.mono hB0.size))
    have HFG := Lib.hid (show ¬ F g0 ∧ ¬ G g0 from ⟨hgF, hgG⟩)
    clear hst hdo h m0 m1 m2 m3 m4 m5 hgF hgG hB0 hwf hn1 hk0 hk1 hk2 hk3
    go_enter Try.func24, Try.ntmps24
    go_upto_region 7 with fail
    try rw [hW0]
    go_region_held_law (fun W => (W.cell? ⟨g0, 1, none⟩ = some (Value.string (str a.name)) ∧ W.cell? ⟨g0, 2, none⟩ = some (Value.string (str a.s)) ∧ W.cell? ⟨g0, 3, none⟩ = some (Value.string (str a.tox)) ∧ W.cell? ⟨g0, 4, none⟩ = some (Value.int .i64 a.n) ∧ W.cell? ⟨g0, 5, none⟩ = some (Value.slice ka a.keep.length kc))) (first | exact hS0 | assumption) (first | (go_simp; go_at_call 22; refine (HC1.out _ HBX.out).mono ?_; rintro _ w1 ⟨rfl, F', hp1, hc1⟩; have HP1 := Lib.hid hp1; have HCH1 := Lib.hid hc1; have hS1 : (w1.cell? ⟨g0, 1, none⟩ = some (Value.string (str a.name)) ∧ w1.cell? ⟨g0, 2, none⟩ = some (Value.string (str a.s)) ∧ w1.cell? ⟨g0, 3, none⟩ = some (Value.string (str a.tox)) ∧ w1.cell? ⟨g0, 4, none⟩ = some (Value.int .i64 a.n) ∧ w1.cell? ⟨g0, 5, none⟩ = some (Value.slice ka a.keep.length kc)) := ⟨box_keep2 hc1 HFG.out.1 hS0.1, box_keep2 hc1 HFG.out.1 hS0.2.1, box_keep2 hc1 HFG.out.1 hS0.2.2.1, box_keep2 hc1 HFG.out.1 hS0.2.2.2.1, box_keep2 hc1 HFG.out.1 hS0.2.2.2.2⟩; have HR1 := Lib.hid (two_ref H.out HBX.out hc1); clear hp1 hc1) | (go_simp; go_at_call 46; refine (HC2.out _ HR1.out).mono ?_; rintro _ w2 ⟨G', rfl, hr2, hg2⟩; have HR2 := Lib.hid hr2; have HG2 := Lib.hid hg2; have hS2 : (w2.cell? ⟨g0, 1, none⟩ = some (Value.string (str a.name)) ∧ w2.cell? ⟨g0, 2, none⟩ = some (Value.string (str a.s)) ∧ w2.cell? ⟨g0, 3, none⟩ = some (Value.string (str a.tox)) ∧ w2.cell? ⟨g0, 4, none⟩ = some (Value.int .i64 a.n) ∧ w2.cell? ⟨g0, 5, none⟩ = some (Value.slice ka a.keep.length kc)) := ⟨box_keep2 hg2 HFG.out.2 hS1.1, box_keep2 hg2 HFG.out.2 hS1.2.1, box_keep2 hg2 HFG.out.2 hS1.2.2.1, box_keep2 hg2 HFG.out.2 hS1.2.2.2.1, box_keep2 hg2 HFG.out.2 hS1.2.2.2.2⟩; clear hr2 hg2))
    go_wp2_with fail
    go_ret
    obtain ⟨e1, e2⟩ := two_step H.out HBX.out HP1.out HCH1.out HR2.out HG2.out
    exact ⟨rfl, e1, e2⟩
  by_cases hk4 : a.kind = 4
  · have hst : ∀ Z, stepD Z a = truncD Z a.name a.n := fun Z => by unfold stepD; simp [hk4]
    have hdo : doB D E a = ((truncD D a.name a.n).2 == (truncD E a.name a.n).2) := by unfold doB; rw [hst, hst, if_pos (by omega)]
    rw [hst, hst, hdo]
    have m0k := m0
    rw [hk4] at m0k
    have HC1 := Lib.hid (fun W (hb : Below w.heap.size w W) => (show PAt W F d D → Calls Try.prog 26 #[.pointer (some ⟨d, 0, none⟩), .string (str a.name), .int .i64 a.n] W (PWrote F d (truncD D a.name a.n) W) from fun hp => ptrunc_any hp a.name a.n hn1) (h.prog.below hb))
    have HC2 := Lib.hid (fun W (hr : RAt W G x E) => trunc_any a.name a.n x G E W hr)
    generalize truncD D a.name a.n = rP at *
    generalize truncD E a.name a.n = rE at *
    have hS0 : (W0.drew.cell? ⟨g0, 1, none⟩ = some (Value.string (str a.name)) ∧ W0.drew.cell? ⟨g0, 2, none⟩ = some (Value.string (str a.s)) ∧ W0.drew.cell? ⟨g0, 3, none⟩ = some (Value.string (str a.tox)) ∧ W0.drew.cell? ⟨g0, 4, none⟩ = some (Value.int .i64 a.n) ∧ W0.drew.cell? ⟨g0, 5, none⟩ = some (Value.slice ka a.keep.length kc)) := ⟨m1, m2, m3, m4, m5⟩
    have HBX := Lib.hid (hB0.trans ((Below.refl W0.heap.size W0).drew.mono hB0.size))
    have HFG := Lib.hid (show ¬ F g0 ∧ ¬ G g0 from ⟨hgF, hgG⟩)
    clear hst hdo h m0 m1 m2 m3 m4 m5 hgF hgG hB0 hwf hn1 hk0 hk1 hk2 hk3 hk4
    go_enter Try.func24, Try.ntmps24
    go_upto_region 9 with fail
    try rw [hW0]
    go_region_held_law (fun W => (W.cell? ⟨g0, 1, none⟩ = some (Value.string (str a.name)) ∧ W.cell? ⟨g0, 2, none⟩ = some (Value.string (str a.s)) ∧ W.cell? ⟨g0, 3, none⟩ = some (Value.string (str a.tox)) ∧ W.cell? ⟨g0, 4, none⟩ = some (Value.int .i64 a.n) ∧ W.cell? ⟨g0, 5, none⟩ = some (Value.slice ka a.keep.length kc))) (first | exact hS0 | assumption) (first | (go_simp; go_at_call 26; refine (HC1.out _ HBX.out).mono ?_; rintro _ w1 ⟨rfl, F', hp1, hc1⟩; have HP1 := Lib.hid hp1; have HCH1 := Lib.hid hc1; have hS1 : (w1.cell? ⟨g0, 1, none⟩ = some (Value.string (str a.name)) ∧ w1.cell? ⟨g0, 2, none⟩ = some (Value.string (str a.s)) ∧ w1.cell? ⟨g0, 3, none⟩ = some (Value.string (str a.tox)) ∧ w1.cell? ⟨g0, 4, none⟩ = some (Value.int .i64 a.n) ∧ w1.cell? ⟨g0, 5, none⟩ = some (Value.slice ka a.keep.length kc)) := ⟨box_keep2 hc1 HFG.out.1 hS0.1, box_keep2 hc1 HFG.out.1 hS0.2.1, box_keep2 hc1 HFG.out.1 hS0.2.2.1, box_keep2 hc1 HFG.out.1 hS0.2.2.2.1, box_keep2 hc1 HFG.out.1 hS0.2.2.2.2⟩; have HR1 := Lib.hid (two_ref H.out HBX.out hc1); clear hp1 hc1) | (go_simp; go_at_call 47; refine (HC2.out _ HR1.out).mono ?_; rintro _ w2 ⟨G', rfl, hr2, hg2⟩; have HR2 := Lib.hid hr2; have HG2 := Lib.hid hg2; have hS2 : (w2.cell? ⟨g0, 1, none⟩ = some (Value.string (str a.name)) ∧ w2.cell? ⟨g0, 2, none⟩ = some (Value.string (str a.s)) ∧ w2.cell? ⟨g0, 3, none⟩ = some (Value.string (str a.tox)) ∧ w2.cell? ⟨g0, 4, none⟩ = some (Value.int .i64 a.n) ∧ w2.cell? ⟨g0, 5, none⟩ = some (Value.slice ka a.keep.length kc)) := ⟨box_keep2 hg2 HFG.out.2 hS1.1, box_keep2 hg2 HFG.out.2 hS1.2.1, box_keep2 hg2 HFG.out.2 hS1.2.2.1, box_keep2 hg2 HFG.out.2 hS1.2.2.2.1, box_keep2 hg2 HFG.out.2 hS1.2.2.2.2⟩; clear hr2 hg2))
    go_wp2_with fail
    go_ret
    obtain ⟨e1, e2⟩ := two_step H.out HBX.out HP1.out HCH1.out HR2.out HG2.out
    exact ⟨rfl, e1, e2⟩
  by_cases hk5 : a.kind = 5
  · have hst : ∀ Z, stepD Z a = renameD Z a.name a.tox := fun Z => by unfold stepD; simp [hk5]
    have hdo : doB D E a = ((renameD D a.name a.tox).2 == (renameD E a.name a.tox).2) := by unfold doB; rw [hst, hst, if_pos (by omega)]
    rw [hst, hst, hdo]
    have m0k := m0
    rw [hk5] at m0k
    have HC1 := Lib.hid (fun W (hb : Below w.heap.size w W) => (show PAt W F d D → Calls Try.prog 27 #[.pointer (some ⟨d, 0, none⟩), .string (str a.name), .string (str a.tox)] W (PWrote F d (renameD D a.name a.tox) W) from fun hp => prename_any hp a.name a.tox hwf.name hwf.tox) (h.prog.below hb))
    have HC2 := Lib.hid (fun W (hr : RAt W G x E) => rename_any a.name a.tox x G E W hr hwf.name hwf.tox)
    generalize renameD D a.name a.tox = rP at *
    generalize renameD E a.name a.tox = rE at *
    have hS0 : (W0.drew.cell? ⟨g0, 1, none⟩ = some (Value.string (str a.name)) ∧ W0.drew.cell? ⟨g0, 2, none⟩ = some (Value.string (str a.s)) ∧ W0.drew.cell? ⟨g0, 3, none⟩ = some (Value.string (str a.tox)) ∧ W0.drew.cell? ⟨g0, 4, none⟩ = some (Value.int .i64 a.n) ∧ W0.drew.cell? ⟨g0, 5, none⟩ = some (Value.slice ka a.keep.length kc)) := ⟨m1, m2, m3, m4, m5⟩
    have HBX := Lib.hid (hB0.trans ((Below.refl W0.heap.size W0).drew.mono hB0.size))
    have HFG := Lib.hid (show ¬ F g0 ∧ ¬ G g0 from ⟨hgF, hgG⟩)
    clear hst hdo h m0 m1 m2 m3 m4 m5 hgF hgG hB0 hwf hn1 hk0 hk1 hk2 hk3 hk4 hk5
    go_enter Try.func24, Try.ntmps24
    go_upto_region 11 with fail
    try rw [hW0]
    go_region_held_law (fun W => (W.cell? ⟨g0, 1, none⟩ = some (Value.string (str a.name)) ∧ W.cell? ⟨g0, 2, none⟩ = some (Value.string (str a.s)) ∧ W.cell? ⟨g0, 3, none⟩ = some (Value.string (str a.tox)) ∧ W.cell? ⟨g0, 4, none⟩ = some (Value.int .i64 a.n) ∧ W.cell? ⟨g0, 5, none⟩ = some (Value.slice ka a.keep.length kc))) (first | exact hS0 | assumption) (first | (go_simp; go_at_call 27; refine (HC1.out _ HBX.out).mono ?_; rintro _ w1 ⟨rfl, F', hp1, hc1⟩; have HP1 := Lib.hid hp1; have HCH1 := Lib.hid hc1; have hS1 : (w1.cell? ⟨g0, 1, none⟩ = some (Value.string (str a.name)) ∧ w1.cell? ⟨g0, 2, none⟩ = some (Value.string (str a.s)) ∧ w1.cell? ⟨g0, 3, none⟩ = some (Value.string (str a.tox)) ∧ w1.cell? ⟨g0, 4, none⟩ = some (Value.int .i64 a.n) ∧ w1.cell? ⟨g0, 5, none⟩ = some (Value.slice ka a.keep.length kc)) := ⟨box_keep2 hc1 HFG.out.1 hS0.1, box_keep2 hc1 HFG.out.1 hS0.2.1, box_keep2 hc1 HFG.out.1 hS0.2.2.1, box_keep2 hc1 HFG.out.1 hS0.2.2.2.1, box_keep2 hc1 HFG.out.1 hS0.2.2.2.2⟩; have HR1 := Lib.hid (two_ref H.out HBX.out hc1); clear hp1 hc1) | (go_simp; go_at_call 48; refine (HC2.out _ HR1.out).mono ?_; rintro _ w2 ⟨G', rfl, hr2, hg2⟩; have HR2 := Lib.hid hr2; have HG2 := Lib.hid hg2; have hS2 : (w2.cell? ⟨g0, 1, none⟩ = some (Value.string (str a.name)) ∧ w2.cell? ⟨g0, 2, none⟩ = some (Value.string (str a.s)) ∧ w2.cell? ⟨g0, 3, none⟩ = some (Value.string (str a.tox)) ∧ w2.cell? ⟨g0, 4, none⟩ = some (Value.int .i64 a.n) ∧ w2.cell? ⟨g0, 5, none⟩ = some (Value.slice ka a.keep.length kc)) := ⟨box_keep2 hg2 HFG.out.2 hS1.1, box_keep2 hg2 HFG.out.2 hS1.2.1, box_keep2 hg2 HFG.out.2 hS1.2.2.1, box_keep2 hg2 HFG.out.2 hS1.2.2.2.1, box_keep2 hg2 HFG.out.2 hS1.2.2.2.2⟩; clear hr2 hg2))
    go_wp2_with fail
    go_ret
    obtain ⟨e1, e2⟩ := two_step H.out HBX.out HP1.out HCH1.out HR2.out HG2.out
    exact ⟨rfl, e1, e2⟩
  by_cases hk6 : a.kind = 6
  · have hst : ∀ Z, stepD Z a = removeD Z a.name := fun Z => by unfold stepD; simp [hk6]
    have hdo : doB D E a = ((removeD D a.name).2 == (removeD E a.name).2) := by unfold doB; rw [hst, hst, if_pos (by omega)]
    rw [hst, hst, hdo]
    have m0k := m0
    rw [hk6] at m0k
    have HC1 := Lib.hid (fun W (hb : Below w.heap.size w W) => (show PAt W F d D → Calls Try.prog 28 #[.pointer (some ⟨d, 0, none⟩), .string (str a.name)] W (PWrote F d (removeD D a.name) W) from fun hp => premove_any hp a.name hn1) (h.prog.below hb))
    have HC2 := Lib.hid (fun W (hr : RAt W G x E) => remove_any a.name x G E W hr)
    generalize removeD D a.name = rP at *
    generalize removeD E a.name = rE at *
    have hS0 : (W0.drew.cell? ⟨g0, 1, none⟩ = some (Value.string (str a.name)) ∧ W0.drew.cell? ⟨g0, 2, none⟩ = some (Value.string (str a.s)) ∧ W0.drew.cell? ⟨g0, 3, none⟩ = some (Value.string (str a.tox)) ∧ W0.drew.cell? ⟨g0, 4, none⟩ = some (Value.int .i64 a.n) ∧ W0.drew.cell? ⟨g0, 5, none⟩ = some (Value.slice ka a.keep.length kc)) := ⟨m1, m2, m3, m4, m5⟩
    have HBX := Lib.hid (hB0.trans ((Below.refl W0.heap.size W0).drew.mono hB0.size))
    have HFG := Lib.hid (show ¬ F g0 ∧ ¬ G g0 from ⟨hgF, hgG⟩)
    clear hst hdo h m0 m1 m2 m3 m4 m5 hgF hgG hB0 hwf hn1 hk0 hk1 hk2 hk3 hk4 hk5 hk6
    go_enter Try.func24, Try.ntmps24
    go_upto_region 13 with fail
    try rw [hW0]
    go_region_held_law (fun W => (W.cell? ⟨g0, 1, none⟩ = some (Value.string (str a.name)) ∧ W.cell? ⟨g0, 2, none⟩ = some (Value.string (str a.s)) ∧ W.cell? ⟨g0, 3, none⟩ = some (Value.string (str a.tox)) ∧ W.cell? ⟨g0, 4, none⟩ = some (Value.int .i64 a.n) ∧ W.cell? ⟨g0, 5, none⟩ = some (Value.slice ka a.keep.length kc))) (first | exact hS0 | assumption) (first | (go_simp; go_at_call 28; refine (HC1.out _ HBX.out).mono ?_; rintro _ w1 ⟨rfl, F', hp1, hc1⟩; have HP1 := Lib.hid hp1; have HCH1 := Lib.hid hc1; have hS1 : (w1.cell? ⟨g0, 1, none⟩ = some (Value.string (str a.name)) ∧ w1.cell? ⟨g0, 2, none⟩ = some (Value.string (str a.s)) ∧ w1.cell? ⟨g0, 3, none⟩ = some (Value.string (str a.tox)) ∧ w1.cell? ⟨g0, 4, none⟩ = some (Value.int .i64 a.n) ∧ w1.cell? ⟨g0, 5, none⟩ = some (Value.slice ka a.keep.length kc)) := ⟨box_keep2 hc1 HFG.out.1 hS0.1, box_keep2 hc1 HFG.out.1 hS0.2.1, box_keep2 hc1 HFG.out.1 hS0.2.2.1, box_keep2 hc1 HFG.out.1 hS0.2.2.2.1, box_keep2 hc1 HFG.out.1 hS0.2.2.2.2⟩; have HR1 := Lib.hid (two_ref H.out HBX.out hc1); clear hp1 hc1) | (go_simp; go_at_call 49; refine (HC2.out _ HR1.out).mono ?_; rintro _ w2 ⟨G', rfl, hr2, hg2⟩; have HR2 := Lib.hid hr2; have HG2 := Lib.hid hg2; have hS2 : (w2.cell? ⟨g0, 1, none⟩ = some (Value.string (str a.name)) ∧ w2.cell? ⟨g0, 2, none⟩ = some (Value.string (str a.s)) ∧ w2.cell? ⟨g0, 3, none⟩ = some (Value.string (str a.tox)) ∧ w2.cell? ⟨g0, 4, none⟩ = some (Value.int .i64 a.n) ∧ w2.cell? ⟨g0, 5, none⟩ = some (Value.slice ka a.keep.length kc)) := ⟨box_keep2 hg2 HFG.out.2 hS1.1, box_keep2 hg2 HFG.out.2 hS1.2.1, box_keep2 hg2 HFG.out.2 hS1.2.2.1, box_keep2 hg2 HFG.out.2 hS1.2.2.2.1, box_keep2 hg2 HFG.out.2 hS1.2.2.2.2⟩; clear hr2 hg2))
    go_wp2_with fail
    go_ret
    obtain ⟨e1, e2⟩ := two_step H.out HBX.out HP1.out HCH1.out HR2.out HG2.out
    exact ⟨rfl, e1, e2⟩
  by_cases hk7 : a.kind = 7
  · have hst : ∀ Z, stepD Z a = armD Z a.n := fun Z => by unfold stepD; simp [hk7]
    have hdo : doB D E a = ((armD D a.n).2 == (armD E a.n).2) := by unfold doB; rw [hst, hst, if_pos (by omega)]
    rw [hst, hst, hdo]
    have m0k := m0
    rw [hk7] at m0k
    have HC1 := Lib.hid (fun W (hb : Below w.heap.size w W) => (parm_any (h.prog.below hb) a.n hwf.n.2).mono (fun e w' hh => (show PWrote F d (armD D a.n) W e w' from by obtain ⟨F', e1, e2, e3⟩ := hh; exact ⟨e1, F', e2, e3⟩)))
    have HC2 := Lib.hid (fun W (hr : RAt W G x E) => (arm_any a.n x G E W hr hwf.n.2).mono (fun e w' hh => (show Wrote G x (armD E a.n) W e w' from ⟨G, hh.1, hh.2.1, hh.2.2⟩)))
    generalize armD D a.n = rP at *
    generalize armD E a.n = rE at *
    have hS0 : (W0.drew.cell? ⟨g0, 1, none⟩ = some (Value.string (str a.name)) ∧ W0.drew.cell? ⟨g0, 2, none⟩ = some (Value.string (str a.s)) ∧ W0.drew.cell? ⟨g0, 3, none⟩ = some (Value.string (str a.tox)) ∧ W0.drew.cell? ⟨g0, 4, none⟩ = some (Value.int .i64 a.n) ∧ W0.drew.cell? ⟨g0, 5, none⟩ = some (Value.slice ka a.keep.length kc)) := ⟨m1, m2, m3, m4, m5⟩
    have HBX := Lib.hid (hB0.trans ((Below.refl W0.heap.size W0).drew.mono hB0.size))
    have HFG := Lib.hid (show ¬ F g0 ∧ ¬ G g0 from ⟨hgF, hgG⟩)
    clear hst hdo h m0 m1 m2 m3 m4 m5 hgF hgG hB0 hwf hn1 hk0 hk1 hk2 hk3 hk4 hk5 hk6 hk7
    go_enter Try.func24, Try.ntmps24
    go_upto_region 15 with fail
    try rw [hW0]
    go_region_held_law (fun W => (W.cell? ⟨g0, 1, none⟩ = some (Value.string (str a.name)) ∧ W.cell? ⟨g0, 2, none⟩ = some (Value.string (str a.s)) ∧ W.cell? ⟨g0, 3, none⟩ = some (Value.string (str a.tox)) ∧ W.cell? ⟨g0, 4, none⟩ = some (Value.int .i64 a.n) ∧ W.cell? ⟨g0, 5, none⟩ = some (Value.slice ka a.keep.length kc))) (first | exact hS0 | assumption) (first | (go_simp; go_at_call 21; refine (HC1.out _ HBX.out).mono ?_; rintro _ w1 ⟨rfl, F', hp1, hc1⟩; have HP1 := Lib.hid hp1; have HCH1 := Lib.hid hc1; have hS1 : (w1.cell? ⟨g0, 1, none⟩ = some (Value.string (str a.name)) ∧ w1.cell? ⟨g0, 2, none⟩ = some (Value.string (str a.s)) ∧ w1.cell? ⟨g0, 3, none⟩ = some (Value.string (str a.tox)) ∧ w1.cell? ⟨g0, 4, none⟩ = some (Value.int .i64 a.n) ∧ w1.cell? ⟨g0, 5, none⟩ = some (Value.slice ka a.keep.length kc)) := ⟨box_keep2 hc1 HFG.out.1 hS0.1, box_keep2 hc1 HFG.out.1 hS0.2.1, box_keep2 hc1 HFG.out.1 hS0.2.2.1, box_keep2 hc1 HFG.out.1 hS0.2.2.2.1, box_keep2 hc1 HFG.out.1 hS0.2.2.2.2⟩; have HR1 := Lib.hid (two_ref H.out HBX.out hc1); clear hp1 hc1) | (go_simp; go_at_call 50; refine (HC2.out _ HR1.out).mono ?_; rintro _ w2 ⟨G', rfl, hr2, hg2⟩; have HR2 := Lib.hid hr2; have HG2 := Lib.hid hg2; have hS2 : (w2.cell? ⟨g0, 1, none⟩ = some (Value.string (str a.name)) ∧ w2.cell? ⟨g0, 2, none⟩ = some (Value.string (str a.s)) ∧ w2.cell? ⟨g0, 3, none⟩ = some (Value.string (str a.tox)) ∧ w2.cell? ⟨g0, 4, none⟩ = some (Value.int .i64 a.n) ∧ w2.cell? ⟨g0, 5, none⟩ = some (Value.slice ka a.keep.length kc)) := ⟨box_keep2 hg2 HFG.out.2 hS1.1, box_keep2 hg2 HFG.out.2 hS1.2.1, box_keep2 hg2 HFG.out.2 hS1.2.2.1, box_keep2 hg2 HFG.out.2 hS1.2.2.2.1, box_keep2 hg2 HFG.out.2 hS1.2.2.2.2⟩; clear hr2 hg2))
    go_wp2_with fail
    go_ret
    obtain ⟨e1, e2⟩ := two_step H.out HBX.out HP1.out HCH1.out HR2.out HG2.out
    exact ⟨rfl, e1, e2⟩
  · have hst : ∀ Z, stepD Z a = (crashD Z a.keep, 0) := fun Z => by unfold stepD; simp [hk0, hk1, hk2, hk3, hk4, hk5, hk6, hk7]
    have hdo : doB D E a = true := by unfold doB; rw [if_neg (by omega)]
    rw [hst, hst, hdo]
    have z0 : (a.kind == 0) = false := beq_eq_false_iff_ne.2 hk0
    have z1 : (a.kind == 1) = false := beq_eq_false_iff_ne.2 hk1
    have z2 : (a.kind == 2) = false := beq_eq_false_iff_ne.2 hk2
    have z3 : (a.kind == 3) = false := beq_eq_false_iff_ne.2 hk3
    have z4 : (a.kind == 4) = false := beq_eq_false_iff_ne.2 hk4
    have z5 : (a.kind == 5) = false := beq_eq_false_iff_ne.2 hk5
    have z6 : (a.kind == 6) = false := beq_eq_false_iff_ne.2 hk6
    have z7 : (a.kind == 7) = false := beq_eq_false_iff_ne.2 hk7
    have HKW := Lib.hid (HK.out.below (below_base hB0 h.base))
    have HC2 := Lib.hid (crash_any a.keep (.slice ka a.keep.length kc) x G E W0 (h.ref.below hB0) HKW.out.sl (fun n hn => (hwf.keep n hn).2))
    have HC1 := Lib.hid (fun (w1 : World) (G' : Nat → Prop) (hg : Chg G G' W0 w1) => pcrash_any (F := F) (d := d) (D := D) ((h.prog.below hB0).tn hg.turn h.apart) a.keep (.slice ka a.keep.length kc) ((HKW.out.below (hg.base h.newG (Nat.le_trans h.base hB0.size))).kp h.newF) hwf.keep)
    have HFG := Lib.hid (show ¬ F g0 ∧ ¬ G g0 from ⟨hgF, hgG⟩)
    clear hst hdo h hgF hgG hwf hn1 m1 m2 m3 m4 hk0 hk1 hk2 hk3 hk4 hk5 hk6 hk7
    go_enter Try.func24, Try.ntmps24
    go_wp2_with (first
      | (go_at_call 51; (try rw [hW0]); refine HC2.out.mono ?_; rintro _ w1 ⟨G', rfl, hr1, hg1⟩; have HR1 := Lib.hid hr1; have HG1 := Lib.hid hg1; have m5' := box_keep2 hg1 HFG.out.2 m5; clear hr1 hg1)
      | (go_at_call 12; refine (HC1.out _ _ HG1.out).mono ?_; rintro _ w2 ⟨rfl, F', hp2, hc2⟩; have HP2 := Lib.hid hp2; have HC3 := Lib.hid hc2; clear hp2 hc2))
    go_ret
    exact ⟨rfl, two_back H.out hB0 HR1.out HG1.out HP2.out HC3.out⟩
end Go.Proofs.Ythdchidlfeighaa.C12
