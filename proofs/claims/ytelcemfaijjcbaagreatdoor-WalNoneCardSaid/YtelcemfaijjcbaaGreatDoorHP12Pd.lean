/-
  Layer 12, the program's disk in memory: a map from names to files.
  Layer 12, the program: is the disk up; a name's file; Safe, Arm, Down; does the disk go down at this write; New.
  Layer 12, the program: how many bytes there are.
-/
import Derived.Test.YtelcemfaijjcbaaGreatDoorHP12Pm
import Derived.Maps.OwnSet
import Derived.Maps.RangeWalk
import Derived.Sort.KeysCollected
import Derived.Lib.AppendStr
import Derived.Maps.AppendAt
import Derived.BigQuiet
namespace Go.Proofs.YtelcemfaijjcbaaGreatDoor.C12
open Go Go.RowKit Go.Proofs Go.Proofs.YtelcemfaijjcbaaGreatDoor.B Go.Proofs.YtelcemfaijjcbaaGreatDoor.K Go.Proofs.YtelcemfaijjcbaaGreatDoor.P8
set_option linter.unusedVariables false
set_option maxRecDepth 100000

/-- A pointer to a file as an element of the map: its block. -/
def fileE : Value → Option (DataW Nat × List MemPlace)
  | .pointer (some ⟨b, 0, none⟩) => some (.lit (.int .i64 (b : Int)), [])
  | _ => none
theorem fileE_inv {v : Value} {y : DataW Nat × List MemPlace} (h : fileE v = some y) : ∃ b : Nat, v = .pointer (some ⟨b, 0, none⟩) ∧ y.1 = .lit (.int .i64 (b : Int)) := by
  unfold fileE at h
  split at h
  · cases h; exact ⟨_, rfl, rfl⟩
  · cases h
theorem fileE_ptr {v : Value} {b : Nat} {y : DataW Nat × List MemPlace} (h : fileE v = some y) (e : y.1 = .lit (.int .i64 (b : Int))) : v = .pointer (some ⟨b, 0, none⟩) := by
  obtain ⟨b', rfl, e'⟩ := fileE_inv h
  rw [e'] at e
  simp only [DataW.lit.injEq, Lit.int.injEq, true_and] at e
  obtain rfl : b' = b := by omega
  rfl
theorem keyed : Maps.Keyed Tryz.prog 9 := Maps.string_keyed Tryz.underlying9
theorem key_str (s : List UInt8) (hs : s.length ≤ maxLen) : keyOf Tryz.prog 9 (.string (str s)) = some (.string s) := by
  rw [WideMaps.keyOf_string_mk Tryz.underlying9 (by rw [str_size]; exact hs)]
  rfl

/-- A file's bytes: memory of its own. -/
def bufB (v : Value) : Option Nat := v.ownBlock
structure Buf (w : World) (v : Value) (l : List UInt8) : Prop where
  row : w.ownsRow 0 5 1 v l.length (Lib.strCells (str l))
theorem Buf.at_ {w : World} {v : Value} {l : List UInt8} (h : Buf w v l) : ∃ a cap, v = .slice a l.length cap ∧ l.length ≤ cap ∧ cap ≤ maxLen := by
  rcases h.row.2 with ⟨rfl, h0⟩ | ⟨g, cap, cur, rfl, _, _, h1, h2, _, _⟩
  · rw [h0]; exact ⟨none, 0, rfl, Nat.le_refl _, Nat.zero_le _⟩
  · exact ⟨_, cap, rfl, h1, h2⟩
theorem Buf.same {w w' : World} {v : Value} {l : List UInt8} (h : Buf w v l) (hs : ∀ g, bufB v = some g → w'.heap[g]? = w.heap[g]?) : Buf w' v l := by
  refine ⟨h.row.1, ?_⟩
  rcases h.row.2 with h0 | ⟨g, cap, cur, rfl, h1, h2, h3⟩
  · exact Or.inl h0
  · exact Or.inr ⟨g, cap, cur, rfl, h1, (hs g rfl).trans h2, h3⟩
theorem Buf.nil (w : World) : Buf w (.slice none 0 0) [] := ⟨World.ownsRow_nil _ _ _ _⟩
theorem Buf.type {w : World} {v : Value} {l : List UInt8} (h : Buf w v l) {g : Nat} (hg : bufB v = some g) : ∃ cur, w.heap[g]? = some (.cells cur 5 (0, 0)) := by
  rcases h.row.2 with ⟨rfl, h0⟩ | ⟨q, cap, cur, rfl, h1, h2, h3⟩
  · cases hg
  · cases hg; exact ⟨cur, h2⟩
/-- A file at block b, its bytes in v. -/
structure FAt (w : World) (b : Nat) (v : Value) (f : Fl) : Prop where
  cell : w.heap[b]? = some (.cells #[v, .int .i64 (f.safe.length : Int)] 68 (0, 0))
  buf : Buf w v (f.safe ++ f.more)
theorem FAt.same {w w' : World} {b : Nat} {v : Value} {f : Fl} (h : FAt w b v f) (hb : w'.heap[b]? = w.heap[b]?) (hs : ∀ g, bufB v = some g → w'.heap[g]? = w.heap[g]?) : FAt w' b v f := ⟨hb.trans h.cell, h.buf.same hs⟩

/-- The program's disk at block d: its map M, each file's block and bytes by its name. -/
structure PIn (w : World) (F : Nat → Prop) (d M n : Nat) (Dm : DataW Nat) (g : List UInt8 → Nat) (bv : List UInt8 → Value) (D : Dst) : Prop where
  disk : w.heap[d]? = some (.cells #[.int .i64 D.room, .map (some M), .int .i64 D.armed, .bool D.down] 63 (0, 0))
  map : w.ownsMap Tryz.prog 9 fileE M n Dm
  at_ : ∀ f ∈ D.files, ∀ z, Dm.atKey (.string f.name) z = .lit (.int .i64 (g f.name : Int))
  no : ∀ s, (∀ f ∈ D.files, f.name ≠ s) → ∀ z, Dm.atKey (.string s) z = z
  each : ∀ f ∈ D.files, FAt w (g f.name) (bv f.name) f
  apart : ∀ f ∈ D.files, ∀ f' ∈ D.files, f.name ≠ f'.name → g f.name ≠ g f'.name ∧ ∀ q, bufB (bv f.name) = some q → bufB (bv f'.name) ≠ some q
  ownd : F d
  ownM : F M
  own : ∀ f ∈ D.files, F (g f.name) ∧ ∀ q, bufB (bv f.name) = some q → F q
  lt : ∀ i, F i → i < w.heap.size
  fine : Fine D
def PAt (w : World) (F : Nat → Prop) (d : Nat) (D : Dst) : Prop := ∃ M n Dm g bv, PIn w F d M n Dm g bv D

section
variable {w : World} {F : Nat → Prop} {d M n : Nat} {Dm : DataW Nat} {g : List UInt8 → Nat} {bv : List UInt8 → Value} {D : Dst}

theorem PIn.keep {w' : World} (h : PIn w F d M n Dm g bv D) (hs : w.heap.size ≤ w'.heap.size) (hb : ∀ i, F i → w'.heap[i]? = w.heap[i]?) : PIn w' F d M n Dm g bv D := by
  obtain ⟨es, clock, hm, r⟩ := h.map
  exact ⟨(hb d h.ownd).trans h.disk, ⟨es, clock, (hb M h.ownM).trans hm, r⟩, h.at_, h.no, fun f hf => (h.each f hf).same (hb _ (h.own f hf).1) fun q hq => hb _ ((h.own f hf).2 q hq), h.apart, h.ownd, h.ownM, h.own, fun i hi => Nat.lt_of_lt_of_le (h.lt i hi) hs, h.fine⟩
theorem PIn.below {w' : World} (h : PIn w F d M n Dm g bv D) (hb : Below w.heap.size w w') : PIn w' F d M n Dm g bv D := h.keep hb.size fun i hi => hb.block i (h.lt i hi)
theorem PAt.keep {w' : World} (h : PAt w F d D) (hs : w.heap.size ≤ w'.heap.size) (hb : ∀ i, F i → w'.heap[i]? = w.heap[i]?) : PAt w' F d D := by
  obtain ⟨M, n, Dm, g, bv, h⟩ := h
  exact ⟨M, n, Dm, g, bv, h.keep hs hb⟩
theorem PAt.lt (h : PAt w F d D) : ∀ i, F i → i < w.heap.size := by obtain ⟨M, n, Dm, g, bv, h⟩ := h; exact h.lt
theorem PAt.fine (h : PAt w F d D) : Fine D := by obtain ⟨M, n, Dm, g, bv, h⟩ := h; exact h.fine
theorem PAt.own (h : PAt w F d D) : F d := by obtain ⟨M, n, Dm, g, bv, h⟩ := h; exact h.ownd
theorem PAt.below {w' : World} (h : PAt w F d D) (hb : Below w.heap.size w w') : PAt w' F d D := h.keep hb.size fun i hi => hb.block i (h.lt i hi)
theorem PAt.tn {w' : World} {S : Nat → Prop} (h : PAt w F d D) (t : Tn S w w') (hs : ∀ i, F i → ¬ S i) : PAt w' F d D := h.keep t.size fun i hi => t.block i (h.lt i hi) (hs i hi)

/-- Blocks of one kind are not of another. -/
theorem PIn.dM (h : PIn w F d M n Dm g bv D) : M ≠ d := by
  obtain ⟨es, clock, hm, r⟩ := h.map
  rintro rfl
  rw [h.disk] at hm
  simp at hm
theorem PIn.gd (h : PIn w F d M n Dm g bv D) {f : Fl} (hf : f ∈ D.files) : g f.name ≠ d ∧ g f.name ≠ M ∧ (∀ q, bufB (bv f.name) = some q → q ≠ d ∧ q ≠ M) ∧ ∀ f' ∈ D.files, ∀ q, bufB (bv f'.name) = some q → g f.name ≠ q := by
  obtain ⟨es, clock, hm, r⟩ := h.map
  have hc := (h.each f hf).cell
  refine ⟨fun e => ?_, fun e => ?_, fun q hq => ?_, fun f' hf' q hq e => ?_⟩
  · rw [e, h.disk] at hc
    simp at hc
  · rw [e, hm] at hc
    cases hc
  · obtain ⟨cur, hq⟩ := (h.each f hf).buf.type hq
    constructor
    · rintro rfl
      rw [h.disk] at hq
      simp at hq
    · rintro rfl
      rw [hm] at hq
      cases hq
  · obtain ⟨cur, hq⟩ := (h.each f' hf').buf.type hq
    rw [e, hq] at hc
    simp at hc

/-- What a look into the map finds. -/
theorem PIn.look (h : PIn w F d M n Dm g bv D) (s : List UInt8) (hs : s.length ≤ maxLen) : ∃ v, (Instr.lookup 61 (.map (some M)) (.string (str s)) false).run Tryz.prog w = .ok v w ∧
    ((findF D.files s = none ∧ v = .pointer none) ∨ ∃ f, findF D.files s = some f ∧ f ∈ D.files ∧ f.name = s ∧ v = .pointer (some ⟨g s, 0, none⟩)) := by
  have hat := h.at_
  have hno := h.no
  obtain ⟨es, clock, hb, hF, _, rfl⟩ := h.map
  rcases Maps.fit_look false keyed Tryz.underlying61 (Tryz.zeroValue65 w) hb hF (key_str s hs) with ⟨hrun, _, hz⟩ | ⟨e0, y, _, _, hrun, hRv, hz, _⟩
  · refine ⟨_, hrun, ?_⟩
    cases hf : findF D.files s with
    | none => exact Or.inl ⟨rfl, rfl⟩
    | some f =>
      obtain ⟨hm, hn⟩ := find_facts hf
      have := hat f hm .nil
      rw [hn, hz] at this
      cases this
  · refine ⟨_, hrun, ?_⟩
    cases hf : findF D.files s with
    | none =>
      exfalso
      have h1 := hno s (find_no.1 hf) .nil
      have h2 := hno s (find_no.1 hf) (.agg [])
      rw [hz] at h1 h2
      rw [h1] at h2
      cases h2
    | some f =>
      obtain ⟨hm, hn⟩ := find_facts hf
      have := hat f hm .nil
      rw [hn, hz] at this
      exact Or.inr ⟨f, rfl, hm, hn, fileE_ptr hRv this⟩
/-- The names, and how many. -/
theorem PIn.names (h : PIn w F d M n Dm g bv D) : (D.files.map (·.name)).Perm (strKeys Dm) := by
  obtain ⟨es, rfl, hp, -⟩ := h.map.entries keyed
  obtain ⟨es', e', hk⟩ := h.map.keysOf
  cases e'
  refine perm_strKeys hp (fun p hp' => ?_) ?_ fun x => ?_
  · have hkp := hk p hp'
    obtain ⟨v, hv⟩ := hkp
    obtain ⟨x, _, hx, _⟩ := Maps.keyOf_str Tryz.underlying9 hv
    exact ⟨x, hx⟩
  · exact List.pairwise_map.2 h.fine.rise.ne
  · rw [List.mem_map]
    constructor
    · rintro ⟨f, hf, rfl⟩
      exact Maps.has_true_of_atKey (h.at_ f hf)
    · intro hx
      cases hf : findF D.files x with
      | none =>
        rw [Maps.has_false_of_atKey (h.no x (find_no.1 hf))] at hx
        cases hx
      | some f => exact ⟨f, (find_facts hf).1, (find_facts hf).2⟩
theorem PIn.size (h : PIn w F d M n Dm g bv D) : Maps.size Dm = D.files.length := by
  have hp := h.names.length_eq
  obtain ⟨es, rfl⟩ := h.map.isMap
  simpa [strKeys, Maps.size] using hp.symm
/-- As narrow as may be. -/
theorem PIn.narrow (h : PIn w F d M n Dm g bv D) : PIn w F d M D.files.length Dm g bv D := by
  have hs := h.size
  obtain ⟨es, clock, hb, hF, hn, hD⟩ := h.map
  refine ⟨h.disk, ⟨es, clock, hb, hF, ?_, hD⟩, h.at_, h.no, h.each, h.apart, h.ownd, h.ownM, h.own, h.lt, h.fine⟩
  rw [hD] at hs
  have : Maps.size (DataW.map ((es.toList.map (WideElems.rg Tryz.prog 9 fileE)).foldr DataW.insert [])) = es.size := by simp [Maps.size, length_sorted]
  omega

/-- A file's turn: its block, its bytes. -/
theorem PIn.file {w' : World} {D' : Dst} {f f' : Fl} {v' : Value} (h : PIn w F d M n Dm g bv D) (hf : f ∈ D.files) (hn : f'.name = f.name) (hm : ∀ x, x ∈ D'.files ↔ (x ∈ D.files ∧ x.name ≠ f.name) ∨ x = f') (hD : D'.room = D.room ∧ D'.armed = D.armed ∧ D'.down = D.down) (hfi : Fine D')
    (hs : w.heap.size ≤ w'.heap.size) (hkeep : ∀ i, F i → i ≠ g f.name → bufB (bv f.name) ≠ some i → w'.heap[i]? = w.heap[i]?) (hat : FAt w' (g f.name) v' f') (hnew : ∀ q, bufB v' = some q → bufB (bv f.name) = some q ∨ (w.heap.size ≤ q ∧ q < w'.heap.size)) :
    PIn w' (fun i => F i ∨ bufB v' = some i) d M n Dm g (fun s => if s = f.name then v' else bv s) D' := by
  obtain ⟨k1, k2, k3, k4⟩ := h.gd hf
  obtain ⟨e1, e2, e3⟩ := hD
  obtain ⟨es, clock, hmb, r⟩ := h.map
  have hdk := hkeep d h.ownd (Ne.symm k1) (fun e => (k3 _ e).1 rfl)
  have hMk := hkeep M h.ownM (Ne.symm k2) (fun e => (k3 _ e).2 rfl)
  have old : ∀ x ∈ D.files, x.name ≠ f.name → g x.name ≠ g f.name ∧ (∀ q, bufB (bv x.name) = some q → q ≠ g f.name ∧ bufB (bv f.name) ≠ some q) ∧ bufB (bv f.name) ≠ some (g x.name) := fun x hx hne =>
    ⟨(h.apart x hx f hf hne).1, fun q hq => ⟨fun e => k4 x hx q hq e.symm, (h.apart x hx f hf hne).2 q hq⟩, fun e => (h.gd hx).2.2.2 f hf _ e rfl⟩
  have newq : ∀ x ∈ D.files, x.name ≠ f.name → ∀ q, bufB v' = some q → bufB (bv x.name) ≠ some q := fun x hx hne q hq e => by
    rcases hnew q hq with h1 | ⟨h1, -⟩
    · exact ((old x hx hne).2.1 q e).2 h1
    · have := h.lt q ((h.own x hx).2 q e)
      omega
  refine ⟨by rw [hdk, h.disk, e1, e2, e3], ⟨es, clock, hMk.trans hmb, r⟩, fun x hx z => ?_, fun s hs' z => ?_, fun x hx => ?_, fun x hx y hy hne => ?_, Or.inl h.ownd, Or.inl h.ownM, fun x hx => ?_, fun i hi => ?_, hfi⟩
  · rcases (hm x).1 hx with ⟨hx', _⟩ | rfl
    · exact h.at_ x hx' z
    · rw [hn]; exact h.at_ f hf z
  · refine h.no s (fun x hx e => ?_) z
    by_cases hxf : x.name = f.name
    · exact hs' f' ((hm f').2 (Or.inr rfl)) (by rw [hn, ← hxf]; exact e)
    · exact hs' x ((hm x).2 (Or.inl ⟨hx, hxf⟩)) e
  · rcases (hm x).1 hx with ⟨hx', hne⟩ | rfl
    · rw [if_neg hne]
      obtain ⟨o1, o2, o3⟩ := old x hx' hne
      exact (h.each x hx').same (hkeep _ (h.own x hx').1 o1 o3) fun q hq => hkeep q ((h.own x hx').2 q hq) (o2 q hq).1 (o2 q hq).2
    · rw [hn, if_pos rfl]; exact hat
  · rcases (hm x).1 hx with ⟨hx', hxn⟩ | rfl <;> rcases (hm y).1 hy with ⟨hy', hyn⟩ | rfl
    · rw [if_neg hxn, if_neg hyn]; exact h.apart x hx' y hy' hne
    · rw [if_neg hxn, hn, if_pos rfl]
      exact ⟨(old x hx' hxn).1, fun q hq e => newq x hx' hxn q e hq⟩
    · rw [if_neg hyn, hn, if_pos rfl]
      exact ⟨Ne.symm (old y hy' hyn).1, fun q hq => newq y hy' hyn q hq⟩
    · exact absurd rfl hne
  · rcases (hm x).1 hx with ⟨hx', hne⟩ | rfl
    · rw [if_neg hne]
      exact ⟨Or.inl (h.own x hx').1, fun q hq => Or.inl ((h.own x hx').2 q hq)⟩
    · rw [hn, if_pos rfl]
      exact ⟨Or.inl (h.own f hf).1, fun q hq => Or.inr hq⟩
  · rcases hi with hi | hi
    · exact Nat.lt_of_lt_of_le (h.lt i hi) hs
    · rcases hnew i hi with h1 | ⟨_, h1⟩
      · exact Nat.lt_of_lt_of_le (h.lt i ((h.own f hf).2 i h1)) hs
      · exact h1
/-- The map's turn: a file is there no more. -/
theorem PIn.gone {w' : World} {D' : Dst} {s : List UInt8} {n' : Nat} (h : PIn w F d M n Dm g bv D) (hm : ∀ x, x ∈ D'.files ↔ x ∈ D.files ∧ x.name ≠ s) (hD : D'.room = D.room ∧ D'.armed = D.armed ∧ D'.down = D.down) (hfi : Fine D')
    (hs : w.heap.size ≤ w'.heap.size) (hkeep : ∀ i, F i → i ≠ M → w'.heap[i]? = w.heap[i]?) (hown : w'.ownsMap Tryz.prog 9 fileE M n' (Dm.del (.string s))) : PIn w' F d M n' (Dm.del (.string s)) g bv D' := by
  obtain ⟨e1, e2, e3⟩ := hD
  refine ⟨by rw [hkeep d h.ownd (Ne.symm h.dM), h.disk, e1, e2, e3], hown, fun x hx z => ?_, fun t ht z => ?_, fun x hx => ?_, fun x hx y hy => h.apart x ((hm x).1 hx).1 y ((hm y).1 hy).1, h.ownd, h.ownM, fun x hx => h.own x ((hm x).1 hx).1, fun i hi => Nat.lt_of_lt_of_le (h.lt i hi) hs, hfi⟩
  · obtain ⟨hx', hne⟩ := (hm x).1 hx
    rw [Maps.atKey_del_other (fun e => hne (by simpa using e))]
    exact h.at_ x hx' z
  · by_cases e : t = s
    · rw [e]; exact Maps.atKey_del_same z
    · rw [Maps.atKey_del_other (fun q => e (by simpa using q))]
      exact h.no t (fun x hx q => ht x ((hm x).2 ⟨hx, fun q' => e (q.symm.trans q')⟩) q) z
  · obtain ⟨hx', hne⟩ := (hm x).1 hx
    obtain ⟨k1, k2, k3, k4⟩ := h.gd hx'
    exact (h.each x hx').same (hkeep _ (h.own x hx').1 k2) fun q hq => hkeep q ((h.own x hx').2 q hq) (k3 q hq).2
/-- The map's turn: a file stands under a name. -/
theorem PIn.put {w' : World} {F' : Nat → Prop} {D' : Dst} {f : Fl} {b n' : Nat} {v : Value} (h : PIn w F d M n Dm g bv D) (hk : f.name.length ≤ maxLen) (hm : ∀ x, x ∈ D'.files ↔ (x ∈ D.files ∧ x.name ≠ f.name) ∨ x = f) (hD : D'.room = D.room ∧ D'.armed = D.armed ∧ D'.down = D.down) (hfi : Fine D')
    (hs : w.heap.size ≤ w'.heap.size) (hkeep : ∀ i, F i → i ≠ M → w'.heap[i]? = w.heap[i]?) (hown : w'.ownsMap Tryz.prog 9 fileE M n' (Dm.put (.string f.name) (.lit (.int .i64 (b : Int)))))
    (hat : FAt w' b v f) (hap : ∀ x ∈ D.files, x.name ≠ f.name → g x.name ≠ b ∧ ∀ q, bufB v = some q → bufB (bv x.name) ≠ some q) (hF : ∀ i, F i → F' i) (hb : F' b) (hq : ∀ q, bufB v = some q → F' q) (hlt : ∀ i, F' i → i < w'.heap.size) :
    PIn w' F' d M n' (Dm.put (.string f.name) (.lit (.int .i64 (b : Int)))) (fun s => if s = f.name then b else g s) (fun s => if s = f.name then v else bv s) D' := by
  obtain ⟨e1, e2, e3⟩ := hD
  have hkl : WideAt.IsKeyLit (.string f.name) := keyed.key (key_str f.name hk)
  refine ⟨by rw [hkeep d h.ownd (Ne.symm h.dM), h.disk, e1, e2, e3], hown, fun x hx z => ?_, fun t ht z => ?_, fun x hx => ?_, fun x hx y hy hne => ?_, hF _ h.ownd, hF _ h.ownM, fun x hx => ?_, hlt, hfi⟩
  · rcases (hm x).1 hx with ⟨hx', hne⟩ | rfl
    · rw [Maps.atKey_put_other (fun e => hne (by simpa using e)), if_neg hne]
      exact h.at_ x hx' z
    · rw [Maps.atKey_put_same h.map.isMap hkl, if_pos rfl]
  · have hne : t ≠ f.name := fun e => ht f ((hm f).2 (Or.inr rfl)) e.symm
    rw [Maps.atKey_put_other (fun e => hne (by simpa using e))]
    exact h.no t (fun x hx q => ht x ((hm x).2 (Or.inl ⟨hx, fun q' => hne (q.symm.trans q')⟩)) q) z
  · rcases (hm x).1 hx with ⟨hx', hne⟩ | rfl
    · rw [if_neg hne, if_neg hne]
      obtain ⟨k1, k2, k3, k4⟩ := h.gd hx'
      exact (h.each x hx').same (hkeep _ (h.own x hx').1 k2) fun q hq => hkeep q ((h.own x hx').2 q hq) (k3 q hq).2
    · rw [if_pos rfl, if_pos rfl]; exact hat
  · rcases (hm x).1 hx with ⟨hx', hxn⟩ | rfl <;> rcases (hm y).1 hy with ⟨hy', hyn⟩ | rfl
    · rw [if_neg hxn, if_neg hyn, if_neg hxn, if_neg hyn]; exact h.apart x hx' y hy' hne
    · rw [if_neg hxn, if_pos rfl, if_neg hxn, if_pos rfl]
      exact ⟨(hap x hx' hxn).1, fun q hq e => (hap x hx' hxn).2 q e hq⟩
    · rw [if_neg hyn, if_pos rfl, if_neg hyn, if_pos rfl]
      exact ⟨Ne.symm (hap y hy' hyn).1, fun q hq => (hap y hy' hyn).2 q hq⟩
    · exact absurd rfl hne
  · rcases (hm x).1 hx with ⟨hx', hne⟩ | rfl
    · rw [if_neg hne, if_neg hne]
      exact ⟨hF _ (h.own x hx').1, fun q hq' => hF _ ((h.own x hx').2 q hq')⟩
    · rw [if_pos rfl, if_pos rfl]
      exact ⟨hb, hq⟩
/-- The disk's own cells' turn. -/
theorem PIn.cells {w' : World} {D' : Dst} (h : PIn w F d M n Dm g bv D) (hf : D'.files = D.files) (hfi : Fine D') (hs : w.heap.size ≤ w'.heap.size) (hkeep : ∀ i, F i → i ≠ d → w'.heap[i]? = w.heap[i]?)
    (hd : w'.heap[d]? = some (.cells #[.int .i64 D'.room, .map (some M), .int .i64 D'.armed, .bool D'.down] 63 (0, 0))) : PIn w' F d M n Dm g bv D' := by
  obtain ⟨es, clock, hm, r⟩ := h.map
  refine ⟨hd, ⟨es, clock, (hkeep M h.ownM h.dM).trans hm, r⟩, by rw [hf]; exact h.at_, by rw [hf]; exact h.no, fun x hx => ?_, by rw [hf]; exact h.apart, h.ownd, h.ownM, by rw [hf]; exact h.own, fun i hi => Nat.lt_of_lt_of_le (h.lt i hi) hs, hfi⟩
  rw [hf] at hx
  obtain ⟨k1, k2, k3, k4⟩ := h.gd hx
  exact (h.each x hx).same (hkeep _ (h.own x hx).1 k1) fun q hq => hkeep q ((h.own x hx).2 q hq) (k3 q hq).1
end
end Go.Proofs.YtelcemfaijjcbaaGreatDoor.C12

namespace Go.Proofs.YtelcemfaijjcbaaGreatDoor.C12
open Go Go.RowKit Go.Proofs Go.Proofs.YtelcemfaijjcbaaGreatDoor.B Go.Proofs.YtelcemfaijjcbaaGreatDoor.K Go.Proofs.YtelcemfaijjcbaaGreatDoor.P8
set_option linter.unusedVariables false
set_option maxRecDepth 100000

section
variable {w : World} {F : Nat → Prop} {d M n : Nat} {Dm : DataW Nat} {g : List UInt8 → Nat} {bv : List UInt8 → Value} {D : Dst}

theorem pup_nil (w : World) : Calls Tryz.prog 30 #[.pointer none] w fun e w' => e = .returned (.int .i64 1) ∧ w = w' := by
  go_enter Tryz.func30, Tryz.ntmps30
  go_wp2_with fail
  go_ret
  exact ⟨rfl, rfl⟩
theorem pup_any (h : PIn w F d M n Dm g bv D) : Calls Tryz.prog 30 #[.pointer (some ⟨d, 0, none⟩)] w fun e w' => e = .returned (.int .i64 (if D.down then 11 else 0)) ∧ w = w' := by
  have c3 := (row_at h.disk 3 _ rfl).1
  cases hd : D.down <;> rw [hd] at c3 <;> clear hd h
  all_goals
    go_enter Tryz.func30, Tryz.ntmps30
    go_wp2_with fail
    go_ret
    exact ⟨rfl, rfl⟩

def findR (g : List UInt8 → Nat) (D : Dst) (s : List UInt8) : Value × Int := if D.down then (.pointer none, 11) else match findF D.files s with | none => (.pointer none, 8) | some _ => (.pointer (some ⟨g s, 0, none⟩), 0)
theorem pfind_nil (s : List UInt8) (w : World) : Calls Tryz.prog 59 #[.pointer none, .string (str s)] w fun e w' => e = .returned (.tuple #[.pointer none, .int .i64 1]) ∧ w = w' := by
  have HU := Lib.hid (pup_nil w)
  go_enter Tryz.func59, Tryz.ntmps59
  go_wp2_with (go_at_call 30; refine HU.out.mono ?_; rintro _ w1 ⟨rfl, rfl⟩)
  go_ret2
  exact ⟨rfl, rfl⟩
theorem pfind_any (h : PIn w F d M n Dm g bv D) (s : List UInt8) (hs : s.length ≤ maxLen) : Calls Tryz.prog 59 #[.pointer (some ⟨d, 0, none⟩), .string (str s)] w fun e w' => e = .returned (.tuple #[(findR g D s).1, .int .i64 (findR g D s).2]) ∧ w = w' := by
  have HU := Lib.hid (pup_any h)
  have c1 := (row_at h.disk 1 _ rfl).1
  obtain ⟨v, hrun, hv⟩ := h.look s hs
  unfold findR
  cases hd : D.down with
  | true =>
    rw [hd] at HU
    rw [if_pos rfl] at HU ⊢
    clear hrun hv hd h
    go_enter Tryz.func59, Tryz.ntmps59
    go_wp2_with (go_at_call 30; refine HU.out.mono ?_; rintro _ w1 ⟨rfl, rfl⟩)
    go_ret2
    exact ⟨rfl, rfl⟩
  | false =>
    rw [hd] at HU
    rw [if_neg (by simp)] at HU ⊢
    clear hd h
    rcases hv with ⟨hf, rfl⟩ | ⟨f, hf, hm, hn, rfl⟩ <;> rw [hf] <;> clear hf
    · go_enter Tryz.func59, Tryz.ntmps59
      go_wp2_with (go_at_call 30; refine HU.out.mono ?_; rintro _ w1 ⟨rfl, rfl⟩)
      go_ret2
      exact ⟨rfl, rfl⟩
    · clear hm hn
      go_enter Tryz.func59, Tryz.ntmps59
      go_wp2_with (go_at_call 30; refine HU.out.mono ?_; rintro _ w1 ⟨rfl, rfl⟩)
      go_ret2
      exact ⟨rfl, rfl⟩

theorem psafe_nil (s : List UInt8) (w : World) : Calls Tryz.prog 84 #[.pointer none, .string (str s)] w fun e w' => e = .returned (.int .i64 0) ∧ Below w.heap.size w w' := by
  go_enter Tryz.func84, Tryz.ntmps84
  go_wp2_with fail
  go_ret
  exact ⟨rfl, Below.refl _ _⟩
theorem psafe_any (h : PAt w F d D) (s : List UInt8) (hs : s.length ≤ maxLen) : Calls Tryz.prog 84 #[.pointer (some ⟨d, 0, none⟩), .string (str s)] w fun e w' => e = .returned (.int .i64 (safeD D s)) ∧ Below w.heap.size w w' := by
  obtain ⟨M, n, Dm, g, bv, h⟩ := h
  have c1 := (row_at h.disk 1 _ rfl).1
  obtain ⟨v, hrun, hv⟩ := h.look s hs
  unfold safeD
  rcases hv with ⟨hf, rfl⟩ | ⟨f, hf, hm, hn, rfl⟩ <;> rw [hf] <;> clear hf
  · clear h
    go_enter Tryz.func84, Tryz.ntmps84
    go_wp2_with fail
    go_ret
    exact ⟨rfl, Below.refl _ _⟩
  · have k1 := (row_at (h.each f hm).cell 1 _ rfl).1
    rw [hn] at k1
    clear h hm hn
    go_enter Tryz.func84, Tryz.ntmps84
    go_wp2_with fail
    go_ret
    exact ⟨rfl, Below.refl _ _⟩

theorem pdown_nil (w : World) : Calls Tryz.prog 34 #[.pointer none] w fun e w' => e = .returned (.bool false) ∧ Below w.heap.size w w' := by
  go_enter Tryz.func34, Tryz.ntmps34
  go_wp2_with fail
  go_ret
  exact ⟨rfl, Below.refl _ _⟩
theorem pdown_any (h : PAt w F d D) : Calls Tryz.prog 34 #[.pointer (some ⟨d, 0, none⟩)] w fun e w' => e = .returned (.bool D.down) ∧ Below w.heap.size w w' := by
  obtain ⟨M, n, Dm, g, bv, h⟩ := h
  have c3 := (row_at h.disk 3 _ rfl).1
  clear h
  go_enter Tryz.func34, Tryz.ntmps34
  go_wp2_with fail
  go_ret
  exact ⟨rfl, Below.refl _ _⟩

theorem parm_nil (k : Int) (w : World) : Calls Tryz.prog 13 #[.pointer none, .int .i64 k] w fun e w' => e = .returned (.int .i64 1) ∧ Below w.heap.size w w' := by
  have HU := Lib.hid (pup_nil w)
  go_enter Tryz.func13, Tryz.ntmps13
  go_wp2_with (go_at_call 30; refine HU.out.mono ?_; rintro _ w1 ⟨rfl, rfl⟩)
  go_ret
  exact ⟨rfl, Below.refl _ _⟩
theorem parm_any (h : PAt w F d D) (k : Int) (hk : k ≤ 9223372036854775807) : Calls Tryz.prog 13 #[.pointer (some ⟨d, 0, none⟩), .int .i64 k] w fun e w' => ∃ F', e = .returned (.int .i64 (armD D k).2) ∧ PAt w' F' d (armD D k).1 ∧ Chg F F' w w' := by
  obtain ⟨M, n, Dm, g, bv, h⟩ := h
  have HU := Lib.hid (pup_any h)
  have H := Lib.hid h
  have f2 := (row_at h.disk 2 _ rfl).2
  have c2 := (row_at h.disk 2 _ rfl).1
  unfold armD
  cases hd : D.down with
  | true =>
    rw [hd] at HU
    rw [if_pos rfl] at HU ⊢
    clear hd h
    go_enter Tryz.func13, Tryz.ntmps13
    go_wp2_with (go_at_call 30; refine HU.out.mono ?_; rintro _ w1 ⟨rfl, rfl⟩)
    go_ret
    exact ⟨F, rfl, ⟨M, n, Dm, g, bv, H.out⟩, Chg.of_below (Below.refl _ _)⟩
  | false =>
    have HD := Lib.hid hd
    rw [hd] at HU
    rw [if_neg (by simp)] at HU ⊢
    clear hd h
    by_cases h1 : k < 1
    · rw [if_pos h1]
      go_enter Tryz.func13, Tryz.ntmps13
      go_wp2_with (go_at_call 30; refine HU.out.mono ?_; rintro _ w1 ⟨rfl, rfl⟩)
      go_ret
      exact ⟨F, rfl, ⟨M, n, Dm, g, bv, H.out⟩, Chg.of_below (Below.refl _ _)⟩
    · rw [if_neg h1]
      go_enter Tryz.func13, Tryz.ntmps13
      go_wp2_with (go_at_call 30; refine HU.out.mono ?_; rintro _ w1 ⟨rfl, rfl⟩)
      go_ret
      have hrow2 := heap_setCell_same w d 2 _ _ (.int .i64 k) H.out.disk
      rw [HD.out] at hrow2
      have hf := H.out.fine
      have hok : Fine ⟨D.room, D.files, k, false⟩ := ⟨⟨hf.ok.room, ⟨by show 0 ≤ k; omega, hk⟩, hf.ok.count, hf.ok.each⟩, hf.rise, hf.used⟩
      refine ⟨F, rfl, ⟨M, n, Dm, g, bv, H.out.cells (D' := ⟨D.room, D.files, k, false⟩) rfl hok (size_set _ _ _ _) (fun i hi hne => heap_setCell_other _ ⟨d, 2, none⟩ i _ hne) hrow2⟩, ⟨⟨rfl, rfl, rfl, size_set _ _ _ _, fun i hi hne => heap_setCell_other _ ⟨d, 2, none⟩ i _ (fun e => hne (e ▸ H.out.ownd))⟩, fun i hi => Or.inl hi⟩⟩

theorem pgoes_any (h : PIn w F d M n Dm g bv D) (hup : D.down = false) : Calls Tryz.prog 85 #[.pointer (some ⟨d, 0, none⟩)] w fun e w' => e = .returned (.bool (goesD D).2) ∧ PIn w' F d M n Dm g bv (goesD D).1 ∧ Chg F F w w' := by
  have H := Lib.hid h
  have HF := Lib.hid h.fine.goes
  obtain ⟨h1, h2⟩ := h.fine.ok.armed
  have hrow := h.disk
  obtain ⟨c2, f2⟩ := row_at h.disk 2 _ rfl
  obtain ⟨c3, f3⟩ := row_at h.disk 3 _ rfl
  rw [hup] at c3
  unfold goesD at HF ⊢
  by_cases h0 : D.armed = 0
  · rw [if_pos h0]
    rw [h0] at c2
    clear hrow h HF
    go_enter Tryz.func85, Tryz.ntmps85
    go_wp2_with fail
    go_ret
    exact ⟨rfl, H.out, Chg.of_below (Below.refl _ _)⟩
  · rw [if_neg h0] at HF ⊢
    have hz : (0 : Int) < D.armed := by omega
    have hw1 : IntKind.i64.wrap (D.armed - 1) = D.armed - 1 := IntWalk.i64_in _ (by omega)
    have hz2 : (D.armed - 1 == 0) = decide (D.armed - 1 = 0) := by
      by_cases hq : D.armed - 1 = 0
      · rw [hq]; rfl
      · rw [beq_eq_false_iff_ne.2 hq, decide_eq_false hq]
    obtain ⟨z, hzq⟩ : ∃ z, decide (D.armed - 1 = 0) = z := ⟨_, rfl⟩
    rw [hzq] at hz2 HF ⊢
    obtain ⟨v0, hv0⟩ : ∃ z, D.armed = z := ⟨_, rfl⟩
    have HROW := Lib.hid hrow
    have HV0 := Lib.hid hv0
    rw [hv0] at c2 hz hw1 hz2
    clear h0 hzq h1 h2 hrow h hv0 hup
    go_enter Tryz.func85, Tryz.ntmps85
    go_wp2_with fail
    go_ret
    rw [HV0.out] at HF ⊢
    have hrow2 := heap_setCell_same _ d 3 _ _ (.bool z) (heap_setCell_same w d 2 _ _ (.int .i64 (v0 - 1)) HROW.out)
    refine ⟨rfl, H.out.cells (D' := ⟨D.room, D.files, v0 - 1, z⟩) rfl HF.out (Nat.le_trans (size_set _ _ _ _) (size_set _ _ _ _)) (fun i hi hne => ?_) hrow2, ⟨⟨rfl, rfl, rfl, Nat.le_trans (size_set _ _ _ _) (size_set _ _ _ _), fun i hi hne => ?_⟩, fun i hi => Or.inl hi⟩⟩
    · rw [heap_setCell_other _ ⟨d, 3, none⟩ i _ hne, heap_setCell_other _ ⟨d, 2, none⟩ i _ hne]
    · rw [heap_setCell_other _ ⟨d, 3, none⟩ i _ (fun e => hne (e ▸ H.out.ownd)), heap_setCell_other _ ⟨d, 2, none⟩ i _ (fun e => hne (e ▸ H.out.ownd))]
end

theorem pnew_bad (room : Int) (w : World) (h : room < 0 ∨ 1048576 < room) : Calls Tryz.prog 12 #[.int .i64 room] w fun e w' => e = .returned (.tuple #[.pointer none, .int .i64 2]) ∧ Below w.heap.size w w' := by
  rcases h with h | h
  · go_enter Tryz.func12, Tryz.ntmps12
    go_wp2_with fail
    go_ret2
    exact ⟨rfl, Below.refl _ _⟩
  · have h' : ¬ room < 0 := by omega
    go_enter Tryz.func12, Tryz.ntmps12
    go_wp2_with fail
    go_ret2
    exact ⟨rfl, Below.refl _ _⟩
theorem pnew_good (room : Int) (w : World) (h : 0 ≤ room ∧ room ≤ 1048576) : Calls Tryz.prog 12 #[.int .i64 room] w fun e w' => ∃ d F, e = .returned (.tuple #[.pointer (some ⟨d, 0, none⟩), .int .i64 0]) ∧ PAt w' F d ⟨room, [], 0, false⟩ ∧ (∀ i, F i → w.heap.size ≤ i) ∧ Below w.heap.size w w' := by
  have h1 : ¬ room < 0 := by omega
  have h2 : ¬ 1048576 < room := by omega
  have hmm := @run_makeMap Tryz.prog
  have H := Lib.hid h
  clear h
  go_enter Tryz.func12, Tryz.ntmps12
  go_wp2_with fail
  go_ret2
  have e1 : ((w.alloc (.map #[] 0)).alloc (.cells #[.int .i64 room, .map (some w.heap.size), .int .i64 0, .bool false] 63)).heap.size = w.heap.size + 2 := by simp
  refine ⟨w.heap.size + 1, rfl, fun i => i = w.heap.size ∨ i = w.heap.size + 1, ⟨w.heap.size, 0, .map [], fun _ => 0, fun _ => .pointer none, ⟨?_, (World.ownsMap_made _ _ _ _).alloc _, fun f hf => (by cases hf), fun s _ z => rfl, fun f hf => (by cases hf), fun f hf => (by cases hf), Or.inr rfl, Or.inl rfl, fun f hf => (by cases hf), fun i hi => ?_, ?_⟩⟩, fun i hi => by omega, ((Below.refl _ w).alloc (Nat.le_refl _) _).alloc (by simp) _⟩
  · have := heap_alloc_at (w.alloc (.map #[] 0)) (.cells #[.int .i64 room, .map (some w.heap.size), .int .i64 0, .bool false] 63)
    simpa using this
  · rw [e1]; omega
  · exact ⟨⟨H.out, ⟨Int.le_refl _, by show (0 : Int) ≤ 9223372036854775807; decide⟩, Nat.zero_le _, fun f hf => (by cases hf)⟩, List.Pairwise.nil, by show ((usedF [] : Nat) : Int) ≤ room; have := H.out; simp [usedF]; omega⟩
end Go.Proofs.YtelcemfaijjcbaaGreatDoor.C12

namespace Go.Proofs.YtelcemfaijjcbaaGreatDoor.C12
open Go Go.RowKit Go.Proofs Go.Proofs.YtelcemfaijjcbaaGreatDoor.B Go.Proofs.YtelcemfaijjcbaaGreatDoor.K Go.Proofs.YtelcemfaijjcbaaGreatDoor.P8
set_option linter.unusedVariables false
set_option maxRecDepth 100000

/-- How many bytes are still to come. -/
def toCome (left : Lit → Bool) (l : List Fl) : Nat := (l.map fun f => if left (.string f.name) then szF f else 0).sum
theorem come_all {left : Lit → Bool} {l : List Fl} (h : ∀ f ∈ l, left (.string f.name) = true) : toCome left l = usedF l := by
  induction l with
  | nil => rfl
  | cons y l ih =>
    rw [used_cons, ← ih fun f hf => h f (List.mem_cons_of_mem _ hf)]
    unfold toCome
    rw [List.map_cons, List.sum_cons, if_pos (h y (List.mem_cons_self ..))]
theorem come_none {left : Lit → Bool} {l : List Fl} (h : ∀ k, left k = false) : toCome left l = 0 := by
  induction l with
  | nil => rfl
  | cons y l ih =>
    unfold toCome at ih ⊢
    rw [List.map_cons, List.sum_cons, ih, h, if_neg (by simp)]
theorem come_le (left : Lit → Bool) (l : List Fl) : toCome left l ≤ usedF l := by
  induction l with
  | nil => exact Nat.le_refl _
  | cons y l ih =>
    rw [used_cons]
    unfold toCome at ih ⊢
    rw [List.map_cons, List.sum_cons]
    split <;> omega
theorem come_other {left left' : Lit → Bool} {l : List Fl} (h : ∀ f ∈ l, left' (.string f.name) = left (.string f.name)) : toCome left' l = toCome left l := by
  unfold toCome
  rw [List.map_congr_left fun f hf => by rw [h f hf]]
theorem come_step {left : Lit → Bool} {l : List Fl} (hr : Rise l) {f : Fl} (hf : f ∈ l) (hl : left (.string f.name) = true) : toCome left l = szF f + toCome (fun z => left z && !z.sameKey (.string f.name)) l := by
  induction l with
  | nil => cases hf
  | cons y l ih =>
    obtain ⟨h1, h2⟩ := List.pairwise_cons.1 hr
    have hc : ∀ L : Lit → Bool, toCome L (y :: l) = (if L (.string y.name) then szF y else 0) + toCome L l := fun L => by unfold toCome; rw [List.map_cons, List.sum_cons]
    rw [hc, hc]
    rcases List.mem_cons.1 hf with rfl | hf'
    · rw [if_pos hl, if_neg (by simp [Lit.sameKey])]
      rw [come_other (left := left) (left' := fun z => left z && !z.sameKey (.string f.name))]
      · omega
      · intro x hx
        have := less_ne (h1 x hx)
        simp [Lit.sameKey, Ne.symm this]
    · have hne := less_ne (h1 f hf')
      rw [ih h2 hf']
      have : (if (left (.string y.name) && !(Lit.string y.name).sameKey (.string f.name)) = true then szF y else 0) = (if left (.string y.name) = true then szF y else 0) := by simp [Lit.sameKey, hne]
      rw [this]
      omega

section
variable {w : World} {F : Nat → Prop} {d M n : Nat} {Dm : DataW Nat} {g : List UInt8 → Nat} {bv : List UInt8 → Value} {D : Dst}

theorem pused_nil (w : World) : Calls Tryz.prog 21 #[.pointer none] w fun e w' => e = .returned (.int .i64 0) ∧ Below w.heap.size w w' := by
  go_enter Tryz.func21, Tryz.ntmps21
  go_wp2_with fail
  go_ret
  exact ⟨rfl, Below.refl _ _⟩
set_option maxHeartbeats 2000000 in
theorem pused_any (h : PIn w F d M n Dm g bv D) : Calls Tryz.prog 21 #[.pointer (some ⟨d, 0, none⟩)] w fun e w' => e = .returned (.int .i64 (usedF D.files : Int)) ∧ Below w.heap.size w w' := by
  have c1 := (row_at h.disk 1 _ rfl).1
  have H := Lib.hid h
  have hown := h.map
  have hU : usedF D.files ≤ 8388608 := h.fine.ok.used
  have HU := Lib.hid hU
  clear h hU
  go_enter Tryz.func21, Tryz.ntmps21
  go_wp2_with (first | (at_range; refine wpList_range_own _ rfl _ 61 rfl 9 65 keyed Tryz.underlying61 fileE M n Dm rfl hown ?_; intro w0 hrg0 hg0 hs0) | fail)
  go_frame
  have HB0 := Lib.hid (⟨hg0.os, hg0.tape, hg0.output, hg0.size, fun i hi => hg0.block i hi (by simp)⟩ : Below w.heap.size w w0)
  have HL0 := Lib.hid (fun f (hf : f ∈ D.files) => Maps.has_true_of_atKey (H.out.at_ f hf))
  clear hg0
  go_loopw [3] (fun u wr => ∃ (left : Lit → Bool) (cnt U : Nat), u = .int .i64 (U : Int) ∧ wr.ranges Tryz.prog 9 fileE M w.heap.size n Dm left cnt ∧ Hid (U + toCome left D.files = usedF D.files) ∧ Hid (Below w.heap.size w wr)) (fun _ wr => wr.rangeLeft M w.heap.size)
  case atStart => exact ⟨_, _, 0, rfl, hrg0, Lib.hid (by rw [come_all HL0.out]; omega), HB0⟩
  case round =>
    obtain ⟨left, cnt, U, rfl, hrg, HC, HB⟩ := hrel
    have HI := Lib.hid (H.out.below HB.out)
    clear hrg0 hs0
    go_wp2_with (first | (at_next; refine wpList_next_ranges _ rfl _ rfl 9 keyed fileE encStr (fun b : Nat => Value.pointer (some ⟨b, 0, none⟩)) (fun key kl hk => by obtain ⟨x, hx, _⟩ := Maps.keyOf_str Tryz.underlying9 hk; exact ⟨x, hx⟩) (fun v y hv => by obtain ⟨b, hb, _⟩ := fileE_inv hv; exact ⟨b, hb⟩) M w.heap.size n Dm left cnt rfl hrg ?_ ?_) | fail)
    · intro hc0 hl0
      have hz := HC.out
      rw [come_none hl0] at hz
      obtain rfl : U = usedF D.files := by omega
      go_wp2_with fail
      go_ret
      exact ⟨rfl, HB.out⟩
    · intro x c kl y yp w1 cnt1 hkx hlx hyc hat hrg1 hlt hg1 hs1 hen
      obtain ⟨x', ex, rfl, hxl⟩ := Maps.keyOf_str Tryz.underlying9 hkx
      obtain rfl := encStr_inj ex
      obtain ⟨f, hf, hfn⟩ : ∃ f ∈ D.files, f.name = x := by
        cases hf : findF D.files x with
        | none =>
          have h1 := HI.out.no x (find_no.1 hf) .nil
          have h2 := HI.out.no x (find_no.1 hf) (.agg [])
          rw [hat] at h1 h2
          rw [h1] at h2
          cases h2
        | some f => exact ⟨f, (find_facts hf).1, (find_facts hf).2⟩
      have hcg : c = g f.name := by
        have h1 := HI.out.at_ f hf .nil
        rw [hfn, hat] at h1
        have h2 := fileE_ptr (b := g x) hyc h1
        simp only [Value.pointer.injEq, Option.some.injEq, Addr.mk.injEq, and_true] at h2
        rw [hfn]; exact h2
      subst hcg
      have HB1 := Lib.hid (HB.out.grown hg1 HB.out.size (fun k hk => by cases hk; exact Nat.le_refl _))
      have HI1 := Lib.hid (H.out.below HB1.out)
      have fat := HI1.out.each f hf
      obtain ⟨a, cap, hv, h1, h2⟩ := fat.buf.at_
      have k0 := (row_at fat.cell 0 _ rfl).1
      rw [hv, List.length_append] at k0
      have hst := come_step H.out.fine.rise hf (by rw [hfn]; exact hlx)
      have hCO := HC.out
      have hUU := HU.out
      unfold szF at hst
      obtain ⟨S, hS⟩ : ∃ S, f.safe.length + f.more.length = S := ⟨_, rfl⟩
      rw [hS] at k0 hst
      rw [hfn] at hst
      have HC1 := Lib.hid (show U + S + toCome (fun z => left z && !z.sameKey (.string x)) D.files = usedF D.files by omega)
      have a1 : IntKind.i64.wrap ((U : Int) + (S : Int)) = ((U + S : Nat) : Int) := by rw [IntWalk.i64_in _ (by omega)]; omega
      have HLT := Lib.hid hlt
      have HOLD := Lib.hid hrg
      clear hyc hat hlx hf hfn hkx hst hCO hUU hS hv h1 h2 fat hg1 hs1 hxl ex hlt hrg
      go_wp2_with fail
      go_roundw
      case rel => exact ⟨_, _, U + S, rfl, hrg1, HC1, HB1⟩
      case measure =>
        rw [hrg1.left_eq, HOLD.out.left_eq]; exact HLT.out
end
end Go.Proofs.YtelcemfaijjcbaaGreatDoor.C12
