/-
  Layer 12, the laws: both disks side by side; a call of both.
  Layer 10: what may be laid, and its bytes, plainly; and how commands, records, items and verdicts lie in memory.
  Arguments that are slices of numbers or of texts, as they read.
  A slice that was handed over: its length is at most its capacity.
  Layer 10: what was handed over (commands, records, lists), as it reads; none longer than memory is.
-/
import Derived.Test.YtelcemfaijjcbaaGreatDoorHP12Pt
import Derived.Test.YtelcemfaijjcbaaGreatDoorHP8Math
import Derived.Test.YtelcemfaijjcbaaGreatDoorHP12Rs
import Derived.Lib.Varint
import Derived.Lib.Zigzag
import Derived.ProofKit
import Derived.SliceStrings
import Derived.Deep.Fields
import Derived.Lib.SmallJoins
import Derived.SizedLaws
import Derived.OpenShut
namespace Go.Proofs.YtelcemfaijjcbaaGreatDoor.C12
open Go Go.RowKit Go.Proofs Go.Proofs.YtelcemfaijjcbaaGreatDoor.B Go.Proofs.YtelcemfaijjcbaaGreatDoor.K Go.Proofs.YtelcemfaijjcbaaGreatDoor.P8
set_option linter.unusedVariables false
set_option maxRecDepth 100000

structure ActL where
  kind : Int
  name : List UInt8
  s : List UInt8
  tox : List UInt8
  n : Int
  keep : List Int
/-- What a call makes of a disk, and its answer. -/
def stepD (D : Dst) (a : ActL) : Dst × Int :=
  if a.kind = 0 ∨ a.kind = 1 ∨ a.kind = 2 then appendD D a.name a.s else if a.kind = 3 then syncD D a.name else if a.kind = 4 then truncD D a.name a.n else if a.kind = 5 then renameD D a.name a.tox else
  if a.kind = 6 then removeD D a.name else if a.kind = 7 then armD D a.n else (crashD D a.keep, 0)
/-- Do both answer alike? -/
def doB (D E : Dst) (a : ActL) : Bool := if 0 ≤ a.kind ∧ a.kind ≤ 7 then (stepD D a).2 == (stepD E a).2 else true
theorem doB_same (D : Dst) (a : ActL) : doB D D a = true := by unfold doB; split <;> simp
structure ActWf (a : ActL) : Prop where
  name : a.name.length ≤ 140737488355328
  s : a.s.length ≤ 140737488355328
  tox : a.tox.length ≤ 140737488355328
  n : -9223372036854775808 ≤ a.n ∧ a.n ≤ 9223372036854775807
  keep : ∀ n ∈ a.keep, -9223372036854775808 ≤ n ∧ n ≤ 9223372036854775807
/-- Numbers in a slice that was there ahead. -/
def Kp0 (w : World) (B : Nat) (v : Value) (l : List Int) : Prop :=
  ∃ a cap, v = .slice a l.length cap ∧ l.length ≤ cap ∧ ∀ (j : Nat) (k : Int), l[j]? = some k → ∃ b off, a = some ⟨b, off, none⟩ ∧ b < B ∧ w.cell? ⟨b, off + j, none⟩ = some (.int .i64 k)
theorem Kp0.below {w w' : World} {B : Nat} {v : Value} {l : List Int} (h : Kp0 w B v l) (hb : Below B w w') : Kp0 w' B v l := by
  obtain ⟨a, cap, rfl, h1, h2⟩ := h
  refine ⟨a, cap, rfl, h1, fun j k hj => ?_⟩
  obtain ⟨b, off, rfl, h3, h4⟩ := h2 j k hj
  exact ⟨b, off, rfl, h3, cell_same (hb.block b h3) h4⟩
theorem Kp0.kp {w : World} {B : Nat} {v : Value} {l : List Int} (h : Kp0 w B v l) {F : Nat → Prop} (hF : ∀ i, F i → B ≤ i) : Kp w F v l := by
  obtain ⟨a, cap, rfl, h1, h2⟩ := h
  refine ⟨a, cap, rfl, h1, fun j k hj => ?_⟩
  obtain ⟨b, off, rfl, h3, h4⟩ := h2 j k hj
  exact ⟨b, off, rfl, fun e => by have := hF b e; omega, h4⟩
theorem Kp0.sl {w : World} {B : Nat} {v : Value} {l : List Int} (h : Kp0 w B v l) : Sl w v (l.map fun n => .int .i64 n) := by
  obtain ⟨a, cap, rfl, h1, h2⟩ := h
  refine ⟨a, cap, by rw [List.length_map], fun j u hj => ?_⟩
  rw [List.getElem?_map] at hj
  cases hz : l[j]? with
  | none => rw [hz] at hj; cases hj
  | some k =>
    rw [hz] at hj
    cases hj
    obtain ⟨b, off, rfl, h3, h4⟩ := h2 j k hz
    exact ⟨b, off, rfl, h4⟩

theorem below_base {B : Nat} {w w' : World} (h : Below w.heap.size w w') (hB : B ≤ w.heap.size) : Below B w w' := ⟨h.os, h.tape, h.output, h.size, fun i hi => h.block i (Nat.lt_of_lt_of_le hi hB)⟩
theorem Chg.base {B : Nat} {F F' : Nat → Prop} {w w' : World} (h : Chg F F' w w') (hF : ∀ i, F i → B ≤ i) (hB : B ≤ w.heap.size) : Below B w w' :=
  ⟨h.turn.os, h.turn.tape, h.turn.output, h.turn.size, fun i hi => h.turn.block i (Nat.lt_of_lt_of_le hi hB) (fun e => by have := hF i e; omega)⟩
end Go.Proofs.YtelcemfaijjcbaaGreatDoor.C12

namespace Go.Proofs.YtelcemfaijjcbaaGreatDoor.C10
open Go Go.RowKit Go.Proofs Go.Proofs.YtelcemfaijjcbaaGreatDoor.B Go.Proofs.YtelcemfaijjcbaaGreatDoor.K Go.Proofs.YtelcemfaijjcbaaGreatDoor.P8
set_option linter.unusedVariables false

structure Cm where
  client : Int
  seq : Int
  stream : List UInt8
  rule : Int
  args : List Int
  expect : Int
structure Ev where
  pos : Int
  vars : List Int
structure Rc where
  client : Int
  seq : Int
  stream : List UInt8
  code : Int
  events : List Ev
structure St where
  pos : Int
  ver : Int
  vars : List Int
structure It where
  stream : List UInt8
  st : St
structure Vd where
  seq : Int
  code : Int

def inn (n a b : Int) : Bool := decide (a ≤ n) && decide (n ≤ b)
def valP (n : Int) : Bool := inn n (-1099511627776) 1099511627776
def valsP (l : List Int) (most : Nat) : Bool := l.all valP && decide (l.length ≤ most)
def headP (c q : Int) (s : List UInt8) : Bool := inn c 0 5 && (inn q 1 1099511627776 && streamP s)
def cmdP (c : Cm) : Bool := headP c.client c.seq c.stream && (inn c.rule 0 11 && (valsP c.args 4 && inn c.expect (-1) 1099511627776))
def evP (e : Ev) : Bool := inn e.pos 0 7 && valsP e.vars 6
def evsP (l : List Ev) : Bool := l.all evP && decide (l.length ≤ 3)
def recP (r : Rc) : Bool := headP r.client r.seq r.stream && (inn r.code 0 63 && (evsP r.events && (decide (r.events.length = 0) || decide (r.code = 0))))
def stP (s : St) : Bool := inn s.pos 0 7 && (inn s.ver 0 1099511627776 && valsP s.vars 6)
/-- Of the k-th item: is it right, and behind the one ahead of it? -/
def itP (l : List It) (k : Nat) (x : It) : Bool := streamP x.stream && (stP x.st && (decide (k = 0) || match l[k - 1]? with | some y => lessL y.stream x.stream | none => true))
def itemsGo (l : List It) : Nat → List It → Bool
  | _, [] => true
  | k, x :: r => itP l k x && itemsGo l (k + 1) r
def itemsP (l : List It) : Bool := itemsGo l 0 l && decide (l.length ≤ 64)
def vdP (l : List Vd) (k : Nat) (x : Vd) : Bool := inn x.seq 1 1099511627776 && (inn x.code 0 63 && (decide (k = 0) || match l[k - 1]? with | some y => decide (y.seq < x.seq) | none => true))
def vdsGo (l : List Vd) : Nat → List Vd → Bool
  | _, [] => true
  | k, x :: r => vdP l k x && vdsGo l (k + 1) r
def vdsP (l : List Vd) : Bool := vdsGo l 0 l && decide (l.length ≤ 32)
def filtP (l : List (List UInt8)) : Bool := decide (l.length ≤ 8) && l.all patP

def num (n : Int) : List UInt8 := Lib.uvarint (Lib.zigzag n)
def numsL (l : List Int) : List UInt8 := l.flatMap num
def listL (l : List Int) : List UInt8 := num (l.length : Int) ++ numsL l
def textL (s : List UInt8) : List UInt8 := num (s.length : Int) ++ s
def layCmd (c : Cm) : List UInt8 := numsL [c.client, c.seq] ++ textL c.stream ++ num c.rule ++ listL c.args ++ num c.expect
def layEv (e : Ev) : List UInt8 := num e.pos ++ listL e.vars
def layEvs (l : List Ev) : List UInt8 := num (l.length : Int) ++ l.flatMap layEv
def layRec (r : Rc) : List UInt8 := numsL [r.client, r.seq] ++ textL r.stream ++ num r.code ++ layEvs r.events
def layIt (x : It) : List UInt8 := textL x.stream ++ numsL [x.st.pos, x.st.ver] ++ listL x.st.vars
def layItems (l : List It) : List UInt8 := num (l.length : Int) ++ l.flatMap layIt
def layVd (x : Vd) : List UInt8 := numsL [x.seq, x.code]
def layVds (l : List Vd) : List UInt8 := num (l.length : Int) ++ l.flatMap layVd
def layFilt (l : List (List UInt8)) : List UInt8 := num (l.length : Int) ++ l.flatMap textL

def I64 (n : Int) : Prop := -9223372036854775808 ≤ n ∧ n ≤ 9223372036854775807
/-- Numbers, and not more of them than memory holds. -/
def NsWf (l : List Int) : Prop := (∀ x ∈ l, I64 x) ∧ l.length ≤ 17592186044416
def TxWf (s : List UInt8) : Prop := s.length ≤ 140737488355328
def CmWf (c : Cm) : Prop := I64 c.client ∧ I64 c.seq ∧ TxWf c.stream ∧ I64 c.rule ∧ NsWf c.args ∧ I64 c.expect
def EvWf (e : Ev) : Prop := I64 e.pos ∧ NsWf e.vars
def EvsWf (l : List Ev) : Prop := (∀ x ∈ l, EvWf x) ∧ l.length ≤ 17592186044416
def RcWf (r : Rc) : Prop := I64 r.client ∧ I64 r.seq ∧ TxWf r.stream ∧ I64 r.code ∧ EvsWf r.events
def StWf (s : St) : Prop := I64 s.pos ∧ I64 s.ver ∧ NsWf s.vars
def ItWf (x : It) : Prop := TxWf x.stream ∧ StWf x.st
def ItsWf (l : List It) : Prop := (∀ x ∈ l, ItWf x) ∧ l.length ≤ 17592186044416
def VdWf (x : Vd) : Prop := I64 x.seq ∧ I64 x.code
def VdsWf (l : List Vd) : Prop := (∀ x ∈ l, VdWf x) ∧ l.length ≤ 17592186044416
def FlWf (l : List (List UInt8)) : Prop := (∀ x ∈ l, TxWf x) ∧ l.length ≤ 17592186044416

theorem num_len (n : Int) (h : I64 n) : (num n).length ≤ 10 := Lib.uvarint_length64 (Lib.zigzag_lt h.1 h.2)
theorem numsL_cons (x : Int) (l : List Int) : numsL (x :: l) = num x ++ numsL l := rfl
theorem numsL_len : ∀ (l : List Int), (∀ x ∈ l, I64 x) → (numsL l).length ≤ 10 * l.length
  | [], _ => Nat.le_refl _
  | x :: l, h => by
    rw [numsL_cons, List.length_append, List.length_cons]
    have h1 := num_len x (h x (List.mem_cons_self ..))
    have h2 := numsL_len l fun y hy => h y (List.mem_cons_of_mem _ hy)
    omega
theorem i64_len {n : Nat} (h : n ≤ 140737488355328) : I64 (n : Int) := ⟨by omega, by omega⟩
theorem listL_len (l : List Int) (h : NsWf l) : (listL l).length ≤ 10 * l.length + 10 := by
  unfold listL
  rw [List.length_append]
  have h1 := num_len (l.length : Int) (i64_len (by have := h.2; omega))
  have h2 := numsL_len l h.1
  omega
theorem textL_len (s : List UInt8) (h : TxWf s) : (textL s).length ≤ s.length + 10 := by
  unfold textL
  rw [List.length_append]
  have h1 := num_len (s.length : Int) (i64_len h)
  omega

/-- The slice value v reads, in w, as xs, of which each lies in k cells that Q tells of. -/
def SlOf {X : Type} (w : World) (k : Nat) (Q : List Value → X → Prop) (v : Value) (xs : List X) : Prop :=
  ∃ a cap, v = .slice a xs.length cap ∧ ∀ j x, xs[j]? = some x → ∃ b off, a = some ⟨b, off, none⟩ ∧ ∃ cs, cs.length = k ∧ Q cs x ∧ ∀ i c, cs[i]? = some c → w.cell? ⟨b, off + j * k + i, none⟩ = some c
theorem SlOf.nil {X : Type} (w : World) (k : Nat) (Q : List Value → X → Prop) : SlOf w k Q (.slice none 0 0) [] := ⟨none, 0, rfl, fun j i h => by simp at h⟩
theorem SlOf.below {X : Type} {w w' : World} {k : Nat} {Q Q' : List Value → X → Prop} {v : Value} {xs : List X} (h : SlOf w k Q v xs) (hb : Below w.heap.size w w') (hq : ∀ cs x, Q cs x → Q' cs x) : SlOf w' k Q' v xs := by
  obtain ⟨a, cap, rfl, hc⟩ := h
  refine ⟨a, cap, rfl, fun j x hj => ?_⟩
  obtain ⟨b, off, ha, cs, hl, hQ, h1⟩ := hc j x hj
  exact ⟨b, off, ha, cs, hl, hq _ _ hQ, fun i c hi => (hb.cell (p := ⟨b, off + j * k + i, none⟩) (World.block_lt_of_cell? w _ (h1 i c hi))).trans (h1 i c hi)⟩
theorem SlOf.open {X : Type} {w : World} {k : Nat} {Q : List Value → X → Prop} {v : Value} {xs : List X} (h : SlOf w k Q v xs) : ∃ a cap, v = .slice a xs.length cap ∧ ∀ j x, xs[j]? = some x → ∃ b off, a = some ⟨b, off, none⟩ ∧ ∃ cs, cs.length = k ∧ Q cs x ∧ ∀ i c, cs[i]? = some c → w.cell? ⟨b, off + j * k + i, none⟩ = some c := h
theorem kept_cell {w w' : World} {g j : Nat} {u : Value} (hb : Below w.heap.size w w') (h : w.cell? ⟨g, j, none⟩ = some u) : w'.cell? ⟨g, j, none⟩ = some u :=
  (hb.cell (p := ⟨g, j, none⟩) (World.block_lt_of_cell? w _ h)).trans h
theorem below_alloc (w : World) (o : Obj) : Below w.heap.size w (w.alloc o) := (Below.refl w.heap.size w).alloc (Nat.le_refl _) _
theorem wrap_next (K : Nat) (h : K < 9223372036854775807) : IntKind.i64.wrap ((K : Int) + 1) = (K : Int) + 1 := IntWalk.i64_in _ (by omega)
theorem cell_alloc {w : World} {o : Obj} {b i : Nat} {u : Value} (h : w.cell? ⟨b, i, none⟩ = some u) : (w.alloc o).cell? ⟨b, i, none⟩ = some u := kept_cell (below_alloc w o) h
theorem alloc_cell (w : World) (cs : List Value) (T : TypeId) (i : Nat) (c : Value) (h : cs[i]? = some c) : (w.alloc (.cells cs.toArray T)).cell? ⟨w.heap.size, i, none⟩ = some c := by
  unfold World.cell?
  simp only [heap_alloc_at]
  simpa using h

def SlN (w : World) (v : Value) (xs : List Int) : Prop := Sl w v (xs.map fun n => .int .i64 n)
def SlT (w : World) (v : Value) (xs : List (List UInt8)) : Prop := Sl w v (xs.map sv)
theorem SlN.below {w w' : World} {v : Value} {xs : List Int} (h : SlN w v xs) (hb : Below w.heap.size w w') : SlN w' v xs := Sl.below h hb
theorem SlT.below {w w' : World} {v : Value} {xs : List (List UInt8)} (h : SlT w v xs) (hb : Below w.heap.size w w') : SlT w' v xs := Sl.below h hb
theorem SlN.open {w : World} {v : Value} {l : List Int} (h : SlN w v l) : ∃ a cap, v = .slice a l.length cap ∧ ∀ (j : Nat) x, l[j]? = some x → ∃ b off, a = some ⟨b, off, none⟩ ∧ w.cell? ⟨b, off + j, none⟩ = some (.int .i64 x) := by
  obtain ⟨a, cap, e, hc⟩ := h
  rw [List.length_map] at e
  exact ⟨a, cap, e, fun j x hx => hc j (.int .i64 x) (by rw [List.getElem?_map, hx]; rfl)⟩
theorem SlT.open {w : World} {v : Value} {l : List (List UInt8)} (h : SlT w v l) : ∃ a cap, v = .slice a l.length cap ∧ ∀ (j : Nat) x, l[j]? = some x → ∃ b off, a = some ⟨b, off, none⟩ ∧ w.cell? ⟨b, off + j, none⟩ = some (.string (str x)) := by
  obtain ⟨a, cap, e, hc⟩ := h
  rw [List.length_map] at e
  exact ⟨a, cap, e, fun j x hx => hc j (sv x) (by rw [List.getElem?_map, hx]; rfl)⟩
def cmCells (c : Cm) (v : Value) : List Value := [.int .i64 c.client, .int .i64 c.seq, .string (str c.stream), .int .i64 c.rule, v, .int .i64 c.expect]
def EvIs (w : World) (cs : List Value) (e : Ev) : Prop := ∃ v, cs = [.int .i64 e.pos, v] ∧ SlN w v e.vars
def EvsIs (w : World) (v : Value) (l : List Ev) : Prop := SlOf w 2 (EvIs w) v l
def rcCells (r : Rc) (v : Value) : List Value := [.int .i64 r.client, .int .i64 r.seq, .string (str r.stream), .int .i64 r.code, v]
def stCells (s : St) (v : Value) : List Value := [.int .i64 s.pos, .int .i64 s.ver, v]
def ItIs (w : World) (cs : List Value) (x : It) : Prop := ∃ v, cs = [.string (str x.stream), .int .i64 x.st.pos, .int .i64 x.st.ver, v] ∧ SlN w v x.st.vars
def ItsIs (w : World) (v : Value) (l : List It) : Prop := SlOf w 4 (ItIs w) v l
def VdIs (cs : List Value) (x : Vd) : Prop := cs = [.int .i64 x.seq, .int .i64 x.code]
def VdsIs (w : World) (v : Value) (l : List Vd) : Prop := SlOf w 2 VdIs v l
theorem EvIs.below {w w' : World} {cs : List Value} {e : Ev} (h : EvIs w cs e) (hb : Below w.heap.size w w') : EvIs w' cs e := by
  obtain ⟨v, rfl, h⟩ := h; exact ⟨v, rfl, h.below hb⟩
theorem EvsIs.below {w w' : World} {v : Value} {l : List Ev} (h : EvsIs w v l) (hb : Below w.heap.size w w') : EvsIs w' v l := SlOf.below h hb fun _ _ q => q.below hb
theorem ItIs.below {w w' : World} {cs : List Value} {x : It} (h : ItIs w cs x) (hb : Below w.heap.size w w') : ItIs w' cs x := by
  obtain ⟨v, rfl, h⟩ := h; exact ⟨v, rfl, h.below hb⟩
theorem ItsIs.below {w w' : World} {v : Value} {l : List It} (h : ItsIs w v l) (hb : Below w.heap.size w w') : ItsIs w' v l := SlOf.below h hb fun _ _ q => q.below hb
theorem VdsIs.below {w w' : World} {v : Value} {l : List Vd} (h : VdsIs w v l) (hb : Below w.heap.size w w') : VdsIs w' v l := SlOf.below h hb fun _ _ q => q

/-- What the layers beneath answer. -/
structure Low : Prop where
  same : ∀ (v v' : Value) (xs : List (List UInt8)) (w : World), xs.length ≤ 4611686018427387904 → SlT w v xs → SlT w v' xs → Calls Tryz.prog 11 #[v, v'] w fun e w' => e = .returned (.bool true) ∧ Below w.heap.size w w'
end Go.Proofs.YtelcemfaijjcbaaGreatDoor.C10

namespace Go.Proofs.YtelcemfaijjcbaaGreatDoor.K
open Go Go.RowKit Go.ChangeShapes Go.WideShapes Go.ChangeAt

section
variable {H : Type} {enc : TypeId × Value → H} {P : Program} {W : World}

theorem Sl.args {v : Value} {a : Addr} {len cap : Nat} {all : List Value} (hlen : len ≤ all.length) (hv : v = .slice (some a) len cap) (hc : ∀ i u, all[i]? = some u → W.cell? (a.add i) = some u) : Sl W v (all.take len) := by
  subst hv
  have hl : (all.take len).length = len := by simp; omega
  refine ⟨some a, cap, by rw [hl], fun j u hj => ?_⟩
  have hj' : j < len := by
    have := (List.getElem?_eq_some_iff.1 hj).1
    omega
  rw [List.getElem?_take_of_lt hj'] at hj
  have h0 := hc j u hj
  have h1 : a.spot = none := by
    have hz : all[0]? = some all[0] := List.getElem?_eq_getElem (by omega)
    simpa [Addr.add] using World.cell?_spot (hc 0 _ hz)
  obtain ⟨b, off, spot⟩ := a
  subst h1
  exact ⟨b, off, rfl, by rw [← add_plain]; exact h0⟩

/-- A value that reads as a slice of ints (a field, an argument). -/
theorem ints_field {t e : TypeId} (ht : P.underlying t = some (.slice e)) (he : P.underlying e = some (.int .i64)) (hc : P.cellsOf e = 1) {fuel : Nat} {v : Value} {y : DataW H × List MemPlace}
    (hf : DataW.trod enc P W 0 (fun _ => true) true fuel t [v] = some y) :
    ∃ xs : List Int, Sl W v (xs.map (Value.int .i64)) ∧ (∀ x ∈ xs, -9223372036854775808 ≤ x ∧ x ≤ 9223372036854775807) ∧ xs.length ≤ maxLen := by
  rcases open_ints ht he hc hf with ⟨hcs, _⟩ | ⟨a, len, cap, zs, hcs, _, hl, hm, hz, _, hcell, hwz⟩
  · simp at hcs
    subst hcs
    exact ⟨[], Sl.nil W, by simp, by simp⟩
  · simp at hcs
    subst hcs
    simp only [if_true] at hz
    refine ⟨zs.take len, ?_, fun x hx => ?_, by rw [List.length_take]; omega⟩
    · rw [List.map_take]
      refine Sl.args (by rw [List.length_map]; omega) rfl (fun i u hi => ?_)
      rw [List.getElem?_map] at hi
      cases hzi : zs[i]? with
      | none => rw [hzi] at hi; cases hi
      | some z =>
        rw [hzi] at hi
        obtain ⟨hil, hze⟩ := List.getElem?_eq_some_iff.1 hzi
        have := hcell i hil
        rw [this, ← hi]
        simp [List.getD, hzi]
    · have := hwz x (List.mem_of_mem_take hx)
      simpa [Lit.wf, IntKind.min, IntKind.max, IntKind.signed, IntKind.bits] using this

/-- An argument of type []int. -/
theorem ints_arg {t e : TypeId} (ht : P.underlying t = some (.slice e)) (he : P.underlying e = some (.int .i64)) (hc : P.cellsOf e = 1) {base : Nat} {v : Value} {d : DataW H} {p : List MemPlace}
    (hval : Value.okWide P W .any base t v) (hd : DataW.Trod enc P W 0 (fun _ => true) true t v d p) :
    ∃ xs : List Int, Sl W v (xs.map (Value.int .i64)) ∧ (∀ x ∈ xs, -9223372036854775808 ≤ x ∧ x ≤ 9223372036854775807) ∧ xs.length ≤ maxLen := by
  obtain ⟨a0, len, cap, rfl⟩ := okWide_slice ht hval
  obtain ⟨fuel, hf⟩ := hd
  exact ints_field ht he hc (by simpa [Value.cells] using hf)

/-- A value that reads as a slice of texts. -/
theorem strs_field {t e : TypeId} (ht : P.underlying t = some (.slice e)) (he : P.underlying e = some .string) (hc : P.cellsOf e = 1) {fuel : Nat} {v : Value} {y : DataW H × List MemPlace}
    (hf : DataW.trod enc P W 0 (fun _ => true) true fuel t [v] = some y) :
    ∃ xs : List (List UInt8), Sl W v (xs.map fun l => Value.string ⟨l.toArray⟩) ∧ (∀ x ∈ xs, x.length ≤ maxLen) ∧ xs.length ≤ maxLen := by
  rcases open_strings ht he hc hf with ⟨hcs, _⟩ | ⟨a, len, cap, ss, hcs, _, hl, hm, hz, _, hcell, hws⟩
  · simp at hcs
    subst hcs
    exact ⟨[], Sl.nil W, by simp, by simp⟩
  · simp at hcs
    subst hcs
    simp only [if_true] at hz
    refine ⟨(ss.map (fun s => s.data.toList)).take len, ?_, fun x hx => ?_, by rw [List.length_take, List.length_map]; omega⟩
    · rw [List.map_take]
      refine Sl.args (by rw [List.length_map, List.length_map]; omega) rfl (fun i u hi => ?_)
      rw [List.getElem?_map, List.getElem?_map] at hi
      cases hzi : ss[i]? with
      | none => rw [hzi] at hi; cases hi
      | some z =>
        rw [hzi] at hi
        obtain ⟨hil, hze⟩ := List.getElem?_eq_some_iff.1 hzi
        have := hcell i hil
        rw [this, ← hi]
        simp [List.getD, hzi]
    · obtain ⟨s, hs, rfl⟩ := List.mem_map.1 (List.mem_of_mem_take hx)
      have := hws s hs
      rw [Array.length_toList]
      exact this

/-- An argument of type []string. -/
theorem strs_arg {t e : TypeId} (ht : P.underlying t = some (.slice e)) (he : P.underlying e = some .string) (hc : P.cellsOf e = 1) {base : Nat} {v : Value} {d : DataW H} {p : List MemPlace}
    (hval : Value.okWide P W .any base t v) (hd : DataW.Trod enc P W 0 (fun _ => true) true t v d p) :
    ∃ xs : List (List UInt8), Sl W v (xs.map fun l => Value.string ⟨l.toArray⟩) ∧ (∀ x ∈ xs, x.length ≤ maxLen) ∧ xs.length ≤ maxLen := by
  obtain ⟨a0, len, cap, rfl⟩ := okWide_slice ht hval
  obtain ⟨fuel, hf⟩ := hd
  exact strs_field ht he hc (by simpa [Value.cells] using hf)

/-- A struct by value, of fields of one cell each: its cells, field by field. -/
theorem agg_fields {t : TypeId} {fs : Array Field} (hs : P.underlying t = some (.struct fs)) (hone : Deep.oneCellFields P fs = true) (hC : P.cellsOf t = fs.size) {r : Reach} {base : Nat} {v : Value} {d : DataW H} {p : List MemPlace}
    (hval : Value.okWide P W r base t v) (hd : DataW.Trod enc P W 0 (fun _ => true) true t v d p) :
    ∃ cs : List Value, v = .agg cs.toArray ∧ cs.length = fs.size ∧ ∃ n, ∀ (j : Nat) (f : Field), fs[j]? = some f → ∃ c y, cs[j]? = some c ∧ DataW.trod enc P W 0 (fun _ => true) true n f.type [c] = some y := by
  obtain ⟨cs, rfl, hsz⟩ := okWide_struct hs hval
  have hlen : cs.toList.length = fs.size := by rw [Array.length_toList]; exact hsz.trans hC
  refine ⟨cs.toList, by simp, hlen, ?_⟩
  obtain ⟨fuel, hf⟩ := hd
  obtain ⟨xs, n, _, _, _, hxl, hg⟩ := DataW.trod_struct hs hf
  refine ⟨n, fun j f hj => ?_⟩
  obtain ⟨ho, hk⟩ := Deep.hone_of hone j f hj
  have hjl : j < fs.size := (Array.getElem?_eq_some_iff.1 hj).1
  have h1 := hg j f hj
  rw [ho, hk] at h1
  have hcj : cs.toList[j]? = some (cs.toList[j]'(by omega)) := List.getElem?_eq_getElem (by omega)
  have hone1 : (Value.agg cs).cells.toList.drop j = cs.toList[j]'(by omega) :: cs.toList.drop (j + 1) := List.drop_eq_getElem_cons (by omega)
  rw [hone1] at h1
  exact ⟨_, xs[j]'(by omega), hcj, h1.trans (List.getElem?_eq_getElem (by omega))⟩

end
end Go.Proofs.YtelcemfaijjcbaaGreatDoor.K

namespace Go.Proofs.YtelcemfaijjcbaaGreatDoor.K
open Go.ChangeShapes Go.WideShapes Go.ChangeAt Go.RowKit
set_option linter.unusedVariables false

section
variable {H : Type} {enc : TypeId × Value → H} {P : Program} {W : World}

theorem slice_cap {t e : TypeId} (ht : P.underlying t = some (.slice e)) {base : Nat} {v : Value} {d : DataW H} {p : List MemPlace}
    (hval : Value.okWide P W .any base t v) (hd : DataW.Trod enc P W 0 (fun _ => true) true t v d p) : ∃ a len cap, v = .slice a len cap ∧ len ≤ cap ∧ cap ≤ maxLen := by
  obtain ⟨a0, len, cap, rfl⟩ := okWide_slice ht hval
  obtain ⟨fuel, hf⟩ := hd
  have hf' : DataW.trod enc P W 0 (fun _ => true) true fuel t [.slice a0 len cap] = some (d, p) := by simpa [Value.cells] using hf
  rcases Go.Deep.open_slice ht hf' with ⟨hcs, _⟩ | ⟨a', len', cap', m, n, D, Pl, hcs, _, h1, h2, _⟩
  · simp at hcs
    obtain ⟨rfl, rfl, rfl⟩ := hcs
    exact ⟨none, 0, 0, rfl, Nat.le_refl _, Nat.zero_le _⟩
  · simp at hcs
    obtain ⟨rfl, rfl, rfl⟩ := hcs
    exact ⟨_, _, _, rfl, h1, h2⟩

theorem weights_all {e : TypeId} {b : List UInt8} : ∀ {l : List (DataW H)}, (.lit (.string b) : DataW H) ∈ l → b.length ∈ DataW.weightsAll P e l
  | d :: r, h => by
    simp only [DataW.weightsAll, List.mem_append]
    rcases List.mem_cons.1 h with rfl | h
    · left; simp [DataW.weights]
    · right; exact weights_all h
  | [], h => by cases h

/-- An argument of type []string: none of its texts is longer than memory may be. -/
theorem strs_sized {t e : TypeId} (ht : P.underlying t = some (.slice e)) (he : P.underlying e = some .string) (hc : P.cellsOf e = 1) {base : Nat} {v : Value} {d : DataW H} {p : List MemPlace}
    (hval : Value.okWide P W .any base t v) (hd : DataW.Trod enc P W 0 (fun _ => true) true t v d p) {ts : List TypeId} {ds : List (DataW H)} {j : Nat} (hts : ts[j]? = some t) (hds : ds[j]? = some d)
    (hsz : (DataW.weightsEach P ts ds).all (· ≤ reachBytes) = true) :
    ∃ xs : List (List UInt8), Sl W v (xs.map fun l => Value.string ⟨l.toArray⟩) ∧ (∀ x ∈ xs, x.length ≤ reachBytes) ∧ xs.length ≤ maxLen := by
  obtain ⟨a0, len, cap, rfl⟩ := okWide_slice ht hval
  obtain ⟨fuel, hf0⟩ := hd
  have hf : DataW.trod enc P W 0 (fun _ => true) true fuel t [.slice a0 len cap] = some (d, p) := by simpa [Value.cells] using hf0
  rcases open_strings ht he hc hf with ⟨hcs, _⟩ | ⟨a, len, cap, ss, hcs, _, hl, hm, hz, hx, hcell, hws⟩
  · simp at hcs
    obtain ⟨rfl, rfl, rfl⟩ := hcs
    exact ⟨[], Sl.nil W, by simp, by simp⟩
  · simp at hcs
    obtain ⟨rfl, rfl, rfl⟩ := hcs
    simp only [if_true] at hz
    refine ⟨(ss.map (fun s => s.data.toList)).take len, ?_, fun x hx' => ?_, by rw [List.length_take, List.length_map]; omega⟩
    · rw [List.map_take]
      refine Sl.args (by rw [List.length_map, List.length_map]; omega) rfl (fun i u hi => ?_)
      rw [List.getElem?_map, List.getElem?_map] at hi
      cases hzi : ss[i]? with
      | none => rw [hzi] at hi; cases hi
      | some z =>
        rw [hzi] at hi
        obtain ⟨hil, hze⟩ := List.getElem?_eq_some_iff.1 hzi
        have := hcell i hil
        rw [this, ← hi]
        simp [List.getD, hzi]
    · rw [← List.map_take] at hx'
      obtain ⟨s, hs, rfl⟩ := List.mem_map.1 hx'
      have hd : d = .slice (strs (ss.take len)) (strs (ss.drop len)) := by cases hx; rfl
      have hm : (.lit (.string s.data.toList) : DataW H) ∈ strs (ss.take len) := List.mem_map.2 ⟨s, hs, rfl⟩
      have h := List.all_eq_true.1 hsz _ (DataW.weights_mem_each hts hds s.data.toList.length (by
        rw [hd]
        unfold DataW.weights
        rw [ht]
        simp only [List.mem_cons, List.mem_append]
        right; left
        exact weights_all hm))
      simpa using h
end
end Go.Proofs.YtelcemfaijjcbaaGreatDoor.K

namespace Go.Proofs.YtelcemfaijjcbaaGreatDoor.C10
open Go Go.RowKit Go.ChangeShapes Go.WideShapes Go.ChangeAt Go.Proofs Go.Proofs.YtelcemfaijjcbaaGreatDoor.B Go.Proofs.YtelcemfaijjcbaaGreatDoor.K Go.Proofs.YtelcemfaijjcbaaGreatDoor.P8
set_option linter.unusedVariables false
set_option maxRecDepth 100000

section
variable {H : Type} {enc : TypeId × Value → H} {W : World}
theorem reach_is : reachBytes = 140737488351232 := by decide
def Fits {P : Program} (t : TypeId) (d : DataW H) : Prop := ∀ m ∈ DataW.weights P t d, m ≤ reachBytes
theorem int_el {n : Nat} {c : Value} {z : DataW H × List MemPlace} (h : DataW.trod enc Tryz.prog W 0 (fun _ => true) true n 3 [c] = some z) : ∃ x, c = .int .i64 x ∧ I64 x := by
  obtain ⟨x, g, _, wx⟩ := DataW.trod_int Tryz.underlying3 h
  simp only [List.cons.injEq, and_true] at g
  refine ⟨x, g, ?_⟩
  have := wx
  simp [Lit.wf, IntKind.min, IntKind.max, IntKind.signed, IntKind.bits] at this
  exact this
theorem str_el {n : Nat} {c : Value} {z : DataW H × List MemPlace} (h : DataW.trod enc Tryz.prog W 0 (fun _ => true) true n 9 [c] = some z) (hb : Fits (P := Tryz.prog) 9 z.1) : ∃ s, c = .string (str s) ∧ TxWf s := by
  obtain ⟨s, g, hz, ws⟩ := DataW.trod_string Tryz.underlying9 h
  simp only [List.cons.injEq, and_true] at g
  have hm := hb s.data.toList.length (by rw [hz]; unfold DataW.weights; simp)
  rw [reach_is] at hm
  exact ⟨s.data.toList, by rw [g, str_eq], by unfold TxWf; omega⟩
theorem ints_el {n : Nat} {c : Value} {z : DataW H × List MemPlace} (h : DataW.trod enc Tryz.prog W 0 (fun _ => true) true n 29 [c] = some z) (hb : Fits (P := Tryz.prog) 29 z.1) : ∃ l, SlN W c l ∧ NsWf l := by
  obtain ⟨l, hs, hw, hl⟩ := ints_field Tryz.underlying29 Tryz.underlying3 (by kernel_rfl) h
  have hb8 : Tryz.prog.bytesOf 3 = 8 := by kernel_rfl
  refine ⟨l, hs, hw, ?_⟩
  obtain ⟨a, cap, rfl, _⟩ := hs
  rcases Go.Deep.open_slice Tryz.underlying29 h with ⟨hcs, _⟩ | ⟨a', len, cap', m, k, D, Pl, hcs, _, _, _, _, hx, _⟩
  · simp only [List.cons.injEq, Value.slice.injEq, and_true, List.length_map] at hcs
    omega
  · simp only [List.cons.injEq, Value.slice.injEq, and_true, List.length_map] at hcs
    have h1 := hb _ (by rw [hx]; unfold DataW.weights; rw [Tryz.underlying29]; exact List.mem_cons_self ..)
    rw [hb8, reach_is] at h1
    simp at h1
    omega
theorem weights_mem_all {P : Program} {e : TypeId} : ∀ {ds : List (DataW H)} {d : DataW H}, d ∈ ds → ∀ n ∈ d.weights P e, n ∈ DataW.weightsAll P e ds
  | x :: ds, d, h, n, hn => by
    unfold DataW.weightsAll
    rcases List.mem_cons.1 h with rfl | h
    · exact List.mem_append_left _ hn
    · exact List.mem_append_right _ (weights_mem_all h n hn)
theorem add_plain (b o i : Nat) : (⟨b, o, none⟩ : Addr).add i = ⟨b, o + i, none⟩ := by rw [Lib.addr_add]
instance : Inhabited Ev := ⟨⟨0, []⟩⟩
instance : Inhabited It := ⟨⟨[], ⟨0, 0, []⟩⟩⟩
instance : Inhabited Vd := ⟨⟨0, 0⟩⟩
/-- A slice of what lies in k cells each. -/
theorem list_el {X : Type} [Inhabited X] {P : Program} {t e : TypeId} {k : Nat} {Q : List Value → X → Prop} {R : X → Prop} (hu : P.underlying t = some (.slice e)) (hc : P.cellsOf e = k) (hk : 0 < k) (hby : 8 ≤ P.bytesOf e)
    (el : ∀ n cs z, DataW.trod enc P W 0 (fun _ => true) true n e cs = some z → Fits (P := P) e z.1 → ∃ x, Q cs x ∧ R x) {n : Nat} {c : Value} {z : DataW H × List MemPlace} (h : DataW.trod enc P W 0 (fun _ => true) true n t [c] = some z) (hb : Fits (P := P) t z.1) :
    ∃ l : List X, SlOf W k Q c l ∧ (∀ x ∈ l, R x) ∧ l.length ≤ 17592186044416 := by
  rcases Go.Deep.open_slice hu h with ⟨hcs, _⟩ | ⟨a, len, cap, m, n, D, Pl, hcs, _, hl, hm, hmm, hz, hx⟩
  · simp at hcs
    subst hcs
    exact ⟨[], SlOf.nil W k _, by simp, by simp⟩
  · simp at hcs
    subst hcs
    rw [hc] at hx
    have hm' : m = cap := by simpa using hmm
    have hlen : len ≤ 17592186044416 := by
      have h1 := hb _ (by rw [hz]; unfold DataW.weights; rw [hu]; exact List.mem_cons_self ..)
      rw [reach_is] at h1
      simp only [List.length_map, List.length_range] at h1
      have h2 := Nat.mul_le_mul_left (len + (m - len)) hby
      omega
    have hD : ∀ i, i < m → Fits (P := P) e (D i) := by
      intro i hi k hk
      refine hb k ?_
      rw [hz]
      unfold DataW.weights
      rw [hu]
      simp only [List.mem_cons, List.mem_append]
      right
      by_cases hil : i < len
      · exact Or.inl (weights_mem_all (List.mem_map.2 ⟨i, List.mem_range.2 hil, rfl⟩) k hk)
      · exact Or.inr (weights_mem_all (List.mem_map.2 ⟨i - len, List.mem_range.2 (by omega), by rw [show len + (i - len) = i by omega]⟩) k hk)
    obtain ⟨F, hF⟩ := Go.Deep.choose_lt (α := X × List Value) (n := m) (p := fun i x => x.2.length = k ∧ Q x.2 x.1 ∧ R x.1 ∧ ∀ j c, x.2[j]? = some c → W.cell? ((a.add (i * k)).add j) = some c) (fun i hi => by
      obtain ⟨cs', h1, h2⟩ := hx i hi
      obtain ⟨_, hlen, hcell⟩ := World.cells?_some h1
      obtain ⟨x, q, r⟩ := el _ _ _ h2 (hD i hi)
      refine ⟨(x, cs'), hlen, q, r, fun j c hj => ?_⟩
      have hjl := (List.getElem?_eq_some_iff.1 hj).1
      rw [hcell j (by simpa using hlen ▸ hjl)]
      exact hj)
    refine ⟨(List.range len).map fun i => (F i).1, ⟨some a, cap, by simp, fun j i hj => ?_⟩, fun x hxm => ?_, by simpa using hlen⟩
    · have hjl : j < len := by
        have := (List.getElem?_eq_some_iff.1 hj).1
        simpa using this
      rw [List.getElem?_map, List.getElem?_range hjl] at hj
      have hj' : (F j).1 = i := by simpa using hj
      obtain ⟨c0, c1, c2, c3⟩ := hF j (by omega)
      rw [hj'] at c1
      obtain ⟨b, off, spot⟩ := a
      have hs : spot = none := by
        obtain ⟨z0, _, _, z3⟩ := hF 0 (by omega)
        have hk0 : 0 < (F 0).2.length := by omega
        have := World.cell?_spot (z3 0 _ (List.getElem?_eq_getElem hk0))
        simpa [Addr.add] using this
      subst hs
      refine ⟨b, off, rfl, (F j).2, c0, c1, fun i c hi => ?_⟩
      have := c3 i c hi
      rw [add_plain, add_plain] at this
      exact this
    · obtain ⟨j, hj, rfl⟩ := List.mem_map.1 hxm
      exact (hF j (by have := List.mem_range.1 hj; omega)).2.2.1
theorem fl_el {n : Nat} {c : Value} {z : DataW H × List MemPlace} (h : DataW.trod enc Tryz.prog W 0 (fun _ => true) true n 23 [c] = some z) (hb : Fits (P := Tryz.prog) 23 z.1) : ∃ l, SlT W c l ∧ FlWf l := by
  obtain ⟨l, ⟨a, cap, rfl, hs⟩, h2, h3⟩ := list_el (X := List UInt8) (k := 1) (Q := fun cs x => cs = [sv x]) (R := TxWf) Tryz.underlying23 (by kernel_rfl) (by decide) (by rw [show Tryz.prog.bytesOf 9 = 16 by kernel_rfl]; decide) (fun n cs z h hb => by
    obtain ⟨s, g, _, _⟩ := DataW.trod_string Tryz.underlying9 h
    subst g
    obtain ⟨x, hx, hw⟩ := str_el h hb
    exact ⟨x, by rw [hx]; rfl, hw⟩) h hb
  refine ⟨l, ⟨a, cap, by rw [List.length_map], fun j u hj => ?_⟩, h2, h3⟩
  rw [List.getElem?_map] at hj
  cases hz : l[j]? with
  | none => rw [hz] at hj; cases hj
  | some x =>
    rw [hz] at hj
    cases hj
    obtain ⟨b, off, rfl, cs, _, rfl, hc⟩ := hs j x hz
    refine ⟨b, off, rfl, ?_⟩
    have := hc 0 _ rfl
    rw [Nat.mul_one] at this
    exact this
end
end Go.Proofs.YtelcemfaijjcbaaGreatDoor.C10
