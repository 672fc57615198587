/-
  Layer 8: strings.Cut at '/', strings.Compare, and the function that goes through a text part by part.
  Layer 8: names and patterns, as the program tells them.
  Layer 8: two patterns side by side; what covers, matches and meets, as the program tells it.
  Layer 8: the program's functions.
  Layer 8, the document's answer: parts, names, patterns.
  Layer 8, the document's answer: what covers, matches and meets what.
  Layer 8, the document's answer: what covers and what meets what.
  Layer 8, the document's answer: Stream, Pattern, Match, Covers, Meets, Less.
  Layer 8, the document's answer: Match, Covers, Meets, Less; and the law's awake.
  Layer 12, the document's answers: a file in its place.
  Layer 12, the document's answers: the file that a write is done to; Read, Arm, New, Names.
  Layer 12, the document's answers: Sync, Remove, Rename.
-/
import Derived.Test.YtelcemfaijjcbaaGreatDoorHP8Math
import Derived.Test.YtelcemfaijjcbaaGreatDoorHP12Rs
import Derived.Lib.Bytealg
import Derived.BigQuiet
import Derived.WalkMore
import Derived.Shelf.Abstract
import Derived.Deep.LoopGhost
import Derived.Deep.RegionHeld3
import Derived.Deep.DeepCutAuto
import Derived.Laws.ResultCell
namespace Go.Proofs.YtelcemfaijjcbaaGreatDoor.P8
open Go Go.RowKit Go.Proofs.YtelcemfaijjcbaaGreatDoor.B Go.Proofs.YtelcemfaijjcbaaGreatDoor.K
set_option linter.unusedVariables false

theorem cut_idx : ∀ l : List UInt8, (Lib.indexByte l 47 = -1 ∧ cutP l = (l, [], false)) ∨ ∃ i : Nat, Lib.indexByte l 47 = (i : Int) ∧ i < l.length ∧ cutP l = (l.take i, l.drop (i + 1), true)
  | [] => Or.inl ⟨rfl, rfl⟩
  | b :: l => by
    by_cases hb : (b == 47) = true
    · refine Or.inr ⟨0, ?_, by simp, ?_⟩
      · unfold Lib.indexByte; rw [if_pos hb]; rfl
      · unfold cutP; rw [if_pos hb]; rfl
    · rcases cut_idx l with ⟨h1, h2⟩ | ⟨i, h1, h2, h3⟩
      · refine Or.inl ⟨?_, ?_⟩
        · unfold Lib.indexByte; rw [if_neg hb, h1]; rfl
        · unfold cutP; rw [if_neg hb, h2]
      · refine Or.inr ⟨i + 1, ?_, by simp; omega, ?_⟩
        · unfold Lib.indexByte
          have : ¬ ((i : Int) == -1) = true := by simp
          rw [if_neg hb, h1, if_neg this]; rfl
        · unfold cutP; rw [if_neg hb, h3]; rfl

theorem below_drewN (w : World) (n : Nat) : Below w.heap.size w (w.drewN n) := by
  induction n with
  | zero => exact Below.refl _ _
  | succ n ih => first | exact ih.drew | exact ih

/-- A cell that holds a text. -/
def Box (w : World) (B : Nat) (l : List UInt8) : Prop := w.heap[B]? = some (.cells #[sv l] 9 (0, 0))

theorem Box.cell {w : World} {B : Nat} {l : List UInt8} (h : Box w B l) : w.cell? ⟨B, 0, none⟩ = some (sv l) ∧ w.frozen? ⟨B, 0, none⟩ = false := by
  unfold Box at h
  exact ⟨by simp [World.cell?, h], by simp [World.frozen?, h]⟩
theorem Box.lt {w : World} {B : Nat} {l : List UInt8} (h : Box w B l) : B < w.heap.size := (Array.getElem?_eq_some_iff.1 h).1
theorem Box.below {w w' : World} {B : Nat} {l : List UInt8} (h : Box w B l) (hb : Below w.heap.size w w') : Box w' B l := (hb.block _ h.lt).trans h
theorem Box.set {w : World} {B : Nat} {l : List UInt8} (h : Box w B l) (m : List UInt8) : Box (w.setCell ⟨B, 0, none⟩ (.string (str m))) B m := by
  unfold Box at h ⊢
  rw [heap_setCell_same w B 0 _ _ _ h]
  rfl

/-- Nothing but block g has turned. -/
structure Tg (g : Nat) (W W' : World) : Prop where
  os : W'.os = W.os
  tape : W'.tape = W.tape
  output : W'.output = W.output
  size : W.heap.size ≤ W'.heap.size
  block : ∀ b, b < W.heap.size → b ≠ g → W'.heap[b]? = W.heap[b]?

theorem Tg.refl (g : Nat) (W : World) : Tg g W W := ⟨rfl, rfl, rfl, Nat.le_refl _, fun _ _ _ => rfl⟩
theorem Tg.trans {g : Nat} {a b c : World} (h : Tg g a b) (k : Tg g b c) : Tg g a c :=
  ⟨k.os.trans h.os, k.tape.trans h.tape, k.output.trans h.output, Nat.le_trans h.size k.size, fun i hi hne => (k.block i (Nat.lt_of_lt_of_le hi h.size) hne).trans (h.block i hi hne)⟩
theorem Tg.of_below {g : Nat} {a b : World} (h : Below a.heap.size a b) : Tg g a b := ⟨h.os, h.tape, h.output, h.size, fun i hi _ => h.block i hi⟩
theorem Tg.onto {g n : Nat} {w a b : World} (h : Below n w a) (hn : n ≤ w.heap.size) (hg : n ≤ g) (k : Tg g a b) : Below n w b :=
  ⟨k.os.trans h.os, k.tape.trans h.tape, k.output.trans h.output, Nat.le_trans h.size k.size, fun i hi => (k.block i (Nat.lt_of_lt_of_le hi (Nat.le_trans hn h.size)) (by omega)).trans (h.block i hi)⟩
theorem Tg.set (W : World) (g k : Nat) (v : Value) : Tg g W (W.setCell ⟨g, k, none⟩ v) := by
  have hb := (Below.refl g W).setCell (p := ⟨g, k, none⟩) (Nat.le_refl _) v
  refine ⟨hb.os, hb.tape, hb.output, hb.size, fun b hb hne => ?_⟩
  rw [heap_setCell_other W ⟨g, k, none⟩ b _ hne]
theorem Tg.box {g B : Nat} {W W' : World} {l : List UInt8} (h : Tg g W W') (hB : Box W B l) (hne : B ≠ g) : Box W' B l := (h.block B hB.lt hne).trans hB

end Go.Proofs.YtelcemfaijjcbaaGreatDoor.P8

namespace Go.Proofs.YtelcemfaijjcbaaGreatDoor.P8
open Go Go.RowKit Go.Shelf Go.Proofs Go.Proofs.YtelcemfaijjcbaaGreatDoor.B Go.Proofs.YtelcemfaijjcbaaGreatDoor.K
set_option linter.unusedVariables false

/-- How many bytes a text begins with that parts have. -/
def pre (l : List UInt8) : Nat := (l.takeWhile okB).length

theorem pre_le (l : List UInt8) : pre l ≤ l.length := by
  unfold pre
  induction l with
  | nil => simp
  | cons b l ih => rw [List.takeWhile_cons]; split <;> simp <;> omega

theorem pre_step {l : List UInt8} {k : Nat} {b : UInt8} (h : l[k]? = some b) : pre (l.drop k) = if okB b = true then 1 + pre (l.drop (k + 1)) else 0 := by
  obtain ⟨hk, rfl⟩ := List.getElem?_eq_some_iff.1 h
  rw [List.drop_eq_getElem_cons hk]
  unfold pre
  rw [List.takeWhile_cons]
  split
  · simp; omega
  · rfl

theorem plain_pre (l : List UInt8) : plainP l = (!l.isEmpty && decide (pre l = l.length)) := by
  unfold plainP
  congr 1
  unfold pre
  induction l with
  | nil => rfl
  | cons b l ih =>
    rw [List.takeWhile_cons, List.all_cons, ih]
    cases okB b <;> simp

theorem str_get8 {l : List UInt8} {k : Nat} {b : UInt8} (h : l[k]? = some b) (hk : k < (str l).size) : ((str l)[k]'hk) = b := by
  obtain ⟨hk', rfl⟩ := List.getElem?_eq_some_iff.1 h
  show (str l).data[k]'_ = _
  simp only [str, List.getElem_toArray]

theorem okN_iff (y : Nat) : okN y = true ↔ (97 ≤ y ∧ y ≤ 122) ∨ (48 ≤ y ∧ y ≤ 57) ∨ y = 45 ∨ y = 95 := by
  simp [okN]

theorem pre_on {l : List UInt8} {K y : Nat} (HP : pre l = K + pre (l.drop K)) (HS : pre (l.drop K) = if okN y = true then 1 + pre (l.drop (K + 1)) else 0)
    (h : (97 ≤ y ∧ y ≤ 122) ∨ (48 ≤ y ∧ y ≤ 57) ∨ y = 45 ∨ y = 95) : pre l = (K + 1) + pre (l.drop (K + 1)) := by
  rw [if_pos ((okN_iff y).2 h)] at HS; omega

theorem pre_off {l : List UInt8} {K y : Nat} (HP : pre l = K + pre (l.drop K)) (HS : pre (l.drop K) = if okN y = true then 1 + pre (l.drop (K + 1)) else 0)
    (h : ¬ ((97 ≤ y ∧ y ≤ 122) ∨ (48 ≤ y ∧ y ≤ 57) ∨ y = 45 ∨ y = 95)) : pre l = K := by
  rw [if_neg (fun h' => h ((okN_iff y).1 h'))] at HS; omega

theorem pre_end {l : List UInt8} {K : Nat} (HP : pre l = K + pre (l.drop K)) (h : l.length ≤ K) : pre l = K := by
  rw [List.drop_of_length_le h] at HP; exact HP

theorem rowGo_succ (r : List UInt8 → Bool → Bool) (n : Nat) (l : List UInt8) : rowGo r (n + 1) l = (r (cutP l).1 (!(cutP l).2.2) && (!(cutP l).2.2 || rowGo r n (cutP l).2.1)) := rfl

/-- A call of function N begins. -/
def Ent (N : Nat) : Prop := ∀ args w, (callFunc N args).run Tryz.prog w = .ok (.enter N args) w

end Go.Proofs.YtelcemfaijjcbaaGreatDoor.P8

namespace Go.Proofs.YtelcemfaijjcbaaGreatDoor.P8
open Go Go.RowKit Go.Shelf Go.Proofs Go.Proofs.YtelcemfaijjcbaaGreatDoor.B Go.Proofs.YtelcemfaijjcbaaGreatDoor.K
set_option linter.unusedVariables false

theorem eq_bool (a b : List UInt8) : ((str a).toList == (str b).toList) = (a == b) := by rw [str_toList, str_toList]
theorem eq_one (a : List UInt8) : ((str a).toList == [42]) = (a == one) := by rw [str_toList]; rfl
theorem eq_many (a : List UInt8) : ((str a).toList == [42, 42]) = (a == many) := by rw [str_toList]; rfl
theorem eq_none (a : List UInt8) : (str a).toList.isEmpty = a.isEmpty := by rw [str_toList]

theorem tog_succ (free right : List UInt8 → List UInt8 → Bool) (n : Nat) (l m : List UInt8) : tog free right (n + 1) l m = (free (cutP l).1 (cutP m).1 || (right (cutP l).1 (cutP m).1 && ((cutP l).1.isEmpty || tog free right n (cutP l).2.1 (cutP m).2.1))) := rfl

end Go.Proofs.YtelcemfaijjcbaaGreatDoor.P8

namespace Go.Proofs.YtelcemfaijjcbaaGreatDoor.P8
open Go Go.RowKit Go.Shelf Go.Proofs Go.Proofs.YtelcemfaijjcbaaGreatDoor.B Go.Proofs.YtelcemfaijjcbaaGreatDoor.K
set_option linter.unusedVariables false

/-- As the document says it, over texts. -/
def covT (p q : List UInt8) : Bool := patP p && (patP q && coversL (parts p) (parts q))
def metT (p q : List UInt8) : Bool := patP p && (patP q && meetsL (parts p) (parts q))
def matT (p s : List UInt8) : Bool := patP p && (streamP s && matchL (parts p) (parts s))

theorem pat_all {l : List UInt8} (h : patP l = true) : l.length ≤ 32 ∧ allL rP (parts l) = true ∧ (parts l).length ≤ 4 := rowOk_parts h
theorem stream_all {l : List UInt8} (h : streamP l = true) : l.length ≤ 32 ∧ allL rS (parts l) = true ∧ (parts l).length ≤ 4 := rowOk_parts h
theorem stream_isPat {l : List UInt8} (h : streamP l = true) : patP l = true := by
  obtain ⟨h1, h2, h3⟩ := stream_all h
  unfold patP rowOk
  rw [decide_eq_true h1, decide_eq_true h3, stream_pat _ h2]; rfl

theorem cov_tog {p q : List UInt8} (hp : patP p = true) (hq : patP q = true) : tog freeC takes 40 p q = coversL (parts p) (parts q) := by
  rw [tog_parts _ _ _ _ _ (by have := (pat_all hp).2.2; omega), covers_tog _ _ (pat_all hp).2.1 (pat_all hq).2.1]
theorem met_tog {p q : List UInt8} (hp : patP p = true) (hq : patP q = true) : tog freeM meet 40 p q = meetsL (parts p) (parts q) := by
  rw [tog_parts _ _ _ _ _ (by have := (pat_all hp).2.2; omega), meets_tog _ _ (pat_all hp).2.1 (pat_all hq).2.1]

theorem mat_cov (p s : List UInt8) : matT p s = (streamP s && covT p s) := by
  unfold matT covT
  cases hp : patP p
  · simp
  · cases hs : streamP s
    · simp
    · rw [stream_isPat hs, match_covers _ _ (pat_all hp).2.1 (stream_all hs).2.1]; simp

end Go.Proofs.YtelcemfaijjcbaaGreatDoor.P8

namespace Go.Proofs.YtelcemfaijjcbaaGreatDoor.P8
open Go Go.RowKit Go.Shelf Go.Proofs Go.Proofs.YtelcemfaijjcbaaGreatDoor.B Go.Proofs.YtelcemfaijjcbaaGreatDoor.K
set_option linter.unusedVariables false

theorem all_step {l : List UInt8} {k : Nat} {b : UInt8} (h : l[k]? = some b) : (l.drop k).all okB = (okB b && (l.drop (k + 1)).all okB) := by
  obtain ⟨hk, rfl⟩ := List.getElem?_eq_some_iff.1 h
  rw [List.drop_eq_getElem_cons hk, List.all_cons]

theorem all_on {l : List UInt8} {K y : Nat} (HP : l.all okB = (l.drop K).all okB) (HS : (l.drop K).all okB = (okN y && (l.drop (K + 1)).all okB))
    (h : (97 ≤ y ∧ y ≤ 122) ∨ (48 ≤ y ∧ y ≤ 57) ∨ y = 45 ∨ y = 95) : l.all okB = (l.drop (K + 1)).all okB := by
  rw [(okN_iff y).2 h, Bool.true_and] at HS; exact HP.trans HS

theorem all_off {l : List UInt8} {K y : Nat} (HP : l.all okB = (l.drop K).all okB) (HS : (l.drop K).all okB = (okN y && (l.drop (K + 1)).all okB))
    (h : ¬ ((97 ≤ y ∧ y ≤ 122) ∨ (48 ≤ y ∧ y ≤ 57) ∨ y = 45 ∨ y = 95)) : plainP l = false := by
  have : okN y = false := by
    cases ho : okN y with
    | false => rfl
    | true => exact absurd ((okN_iff y).1 ho) h
  rw [this, Bool.false_and] at HS
  unfold plainP
  rw [HP, HS, Bool.and_false]

theorem plain_end {l : List UInt8} {K : Nat} (HP : l.all okB = (l.drop K).all okB) (h : l.length ≤ K) : plainP l = decide (0 < l.length) := by
  rw [List.drop_of_length_le h] at HP
  unfold plainP
  rw [HP]
  cases l with
  | nil => rfl
  | cons b l =>
    have : 0 < (b :: l).length := by simp
    rw [decide_eq_true this]; rfl

/-- A text ahead of the first part. -/
def glue (cur : List UInt8) (P : List (List UInt8)) : List (List UInt8) := (cur ++ hd P) :: P.tail

theorem glue_nil (l : List UInt8) : glue [] (parts l) = parts l := by
  have := parts_ne l
  cases h : parts l with
  | nil => exact absurd h this
  | cons x xs => rfl

theorem glue_slash {l : List UInt8} {k : Nat} (h : l[k]? = some 47) (cur : List UInt8) : glue cur (parts (l.drop k)) = cur :: glue [] (parts (l.drop (k + 1))) := by
  obtain ⟨hk, hb⟩ := List.getElem?_eq_some_iff.1 h
  rw [List.drop_eq_getElem_cons hk, hb, glue_nil]
  simp [parts, glue, hd]

theorem glue_byte {l : List UInt8} {k : Nat} {b : UInt8} (h : l[k]? = some b) (hb : b ≠ 47) (cur : List UInt8) : glue cur (parts (l.drop k)) = glue (cur ++ [b]) (parts (l.drop (k + 1))) := by
  obtain ⟨hk, rfl⟩ := List.getElem?_eq_some_iff.1 h
  rw [List.drop_eq_getElem_cons hk]
  have : (l[k] == 47) = false := beq_eq_false_iff_ne.2 hb
  have hne := parts_ne (l.drop (k + 1))
  rw [show parts (l[k] :: l.drop (k + 1)) = if l[k] == 47 then [] :: parts (l.drop (k + 1)) else onFirst l[k] (parts (l.drop (k + 1))) from rfl, this]
  simp only [Bool.false_eq_true, if_false]
  cases hp : parts (l.drop (k + 1)) with
  | nil => exact absurd hp hne
  | cons x xs => simp [onFirst, glue, hd]

theorem glue_end (cur l : List UInt8) {k : Nat} (h : l.length ≤ k) : glue cur (parts (l.drop k)) = [cur] := by
  rw [List.drop_of_length_le h]; simp [parts, glue, hd]

theorem Tryz.info9 : (Tryz.prog.info? 9).map (fun i => (i.zero, i.size, i.bytes)) = some (some (.string ⟨#[]⟩), 1, 16) := by kernel_rfl

theorem one_cell_str (s : ByteArray) : ∀ u ∈ [Value.string s], u.oneCell' = true := by intro u hu; simp at hu; subst hu; rfl

theorem str_one {l : List UInt8} {k : Nat} {b : UInt8} (h : l[k]? = some b) (cur : List UInt8) : str cur ++ (str l).extract k (k + 1) = str (cur ++ [b]) := by
  obtain ⟨hk, rfl⟩ := List.getElem?_eq_some_iff.1 h
  rw [str_extract, str_append, show k + 1 - k = 1 by omega, List.drop_eq_getElem_cons hk]
  rfl

/-- A slice of parts in memory. -/
def Pt (w : World) (v : Value) (P : List (List UInt8)) : Prop :=
  ∃ b off cap, v = .slice (some ⟨b, off, none⟩) P.length cap ∧ P.length ≤ cap ∧ ∀ j x, P[j]? = some x → w.cell? ⟨b, off + j, none⟩ = some (sv x)

theorem Pt.below {w w' : World} {v : Value} {P : List (List UInt8)} (h : Pt w v P) (hb : Below w.heap.size w w') : Pt w' v P := by
  obtain ⟨b, off, cap, rfl, hc, hx⟩ := h
  exact ⟨b, off, cap, rfl, hc, fun j x hj => (hb.cell (p := ⟨b, off + j, none⟩) (World.block_lt_of_cell? w _ (hx j x hj))).trans (hx j x hj)⟩

theorem pt_owns {w : World} {base n : Nat} {v : Value} {P : List (List UInt8)} (h : w.ownsRow base 9 1 v n (P.map sv)) (hn : P.length = n) (h0 : 0 < n) : Pt w v P := by
  obtain ⟨hl, h⟩ := h
  rcases h with ⟨rfl, h0'⟩ | ⟨g, cap, cur, rfl, _, hg, h1, h2, h3, ht⟩
  · omega
  · subst hn
    rw [Nat.mul_one] at ht
    refine ⟨g, 0, cap, rfl, by omega, fun j x hj => ?_⟩
    have := Lib.cells_of_row hg P.length j (sv x) (by rw [ht, List.getElem?_map, hj]; rfl)
    rw [Lib.addr_add] at this
    exact this

end Go.Proofs.YtelcemfaijjcbaaGreatDoor.P8

namespace Go.Proofs.YtelcemfaijjcbaaGreatDoor.P8
open Go Go.RowKit Go.Shelf Go.Proofs Go.Proofs.YtelcemfaijjcbaaGreatDoor.B Go.Proofs.YtelcemfaijjcbaaGreatDoor.K
set_option linter.unusedVariables false

/-- 'p[1:]'. -/
theorem cut_first (b off L cap : Nat) (hL : L + 1 ≤ cap) :
    ∃ o2, (L ≠ 0 → o2 = off + 1) ∧ ∀ W : World, (Instr.sliceAt 23 (.slice (some ⟨b, off, none⟩) (L + 1) cap) (some (.int .i64 1)) none none).run Tryz.prog W = .ok (.slice (some ⟨b, o2, none⟩) L (cap - 1)) W := by
  by_cases h : cap = 1
  · refine ⟨off, fun h2 => by omega, fun W => ?_⟩
    have he : Tryz.prog.underlying 23 = some (.slice (Tryz.prog.elem 23)) := by kernel_rfl
    have hs : (sizeOf (Tryz.prog.elem 23)).run Tryz.prog W = .ok 1 W := by kernel_rfl
    rw [run_sliceAt_slice W 23 _ _ _ _ he, run_slice_l W 23 _ _ _ he .i64 (1 : Int) (by omega) (by omega), hs]
    simp only [Result.andThen, sliced]
    rw [if_pos (by simp; omega)]
    simp
  · refine ⟨off + 1, fun _ => rfl, fun W => ?_⟩
    have he : Tryz.prog.underlying 23 = some (.slice (Tryz.prog.elem 23)) := by kernel_rfl
    have hs : (sizeOf (Tryz.prog.elem 23)).run Tryz.prog W = .ok 1 W := by kernel_rfl
    rw [run_sliceAt_slice W 23 _ _ _ _ he, run_slice_l W 23 _ _ _ he .i64 (1 : Int) (by omega) (by omega), hs]
    simp only [Result.andThen, sliced]
    rw [if_neg (by simp; omega)]
    simp [Option.map, Go.WideShapes.add_plain]

theorem Pt.cons {w : World} {v : Value} {p : List UInt8} {P : List (List UInt8)} (h : Pt w v (p :: P)) :
    ∃ b off cap v2, v = .slice (some ⟨b, off, none⟩) (P.length + 1) cap ∧ w.cell? ⟨b, off, none⟩ = some (.string (str p)) ∧ Pt w v2 P ∧
      ∀ W : World, (Instr.sliceAt 23 (.slice (some ⟨b, off, none⟩) (P.length + 1) cap) (some (.int .i64 1)) none none).run Tryz.prog W = .ok v2 W := by
  obtain ⟨b, off, cap, rfl, hc, hx⟩ := h
  obtain ⟨o2, h2, h3⟩ := cut_first b off P.length cap hc
  refine ⟨b, off, cap, _, rfl, hx 0 p rfl, ⟨b, o2, cap - 1, rfl, by simp at hc; omega, fun j x hj => ?_⟩, h3⟩
  have hl : P.length ≠ 0 := by
    intro h0
    have := List.eq_nil_of_length_eq_zero h0
    subst this
    simp at hj
  rw [h2 hl, Nat.add_assoc, Nat.add_comm 1 j]
  exact hx (j + 1) x (by simpa using hj)

theorem Pt.nil {w : World} {v : Value} (h : Pt w v []) : ∃ b off cap, v = .slice (some ⟨b, off, none⟩) 0 cap := by
  obtain ⟨b, off, cap, rfl, _, _⟩ := h
  exact ⟨b, off, cap, rfl⟩

end Go.Proofs.YtelcemfaijjcbaaGreatDoor.P8

namespace Go.Proofs.YtelcemfaijjcbaaGreatDoor.P8
open Go Go.RowKit Go.Shelf Go.Proofs Go.Proofs.YtelcemfaijjcbaaGreatDoor.B Go.Proofs.YtelcemfaijjcbaaGreatDoor.K
set_option linter.unusedVariables false

theorem len_one (P : List (List UInt8)) (n : Nat) (h : P.length = n) : (((n : Int) + 1) == 1) = P.isEmpty ∧ (((n : Int) + 1) == 0) = false := by
  refine ⟨?_, by rw [beq_eq_false_iff_ne]; omega⟩
  cases P with
  | nil => simp at h; subst h; rfl
  | cons a b => simp at h; rw [List.isEmpty_cons, beq_eq_false_iff_ne]; omega

theorem many_alone (q : List UInt8) (Q : List (List UInt8)) : ((q :: Q) == [many]) = (Q.isEmpty && q == many) := by
  rw [Bool.eq_iff_iff]
  cases Q <;> simp

end Go.Proofs.YtelcemfaijjcbaaGreatDoor.P8

namespace Go.Proofs.YtelcemfaijjcbaaGreatDoor.P8
open Go Go.RowKit Go.Shelf Go.Proofs Go.Proofs.YtelcemfaijjcbaaGreatDoor.B Go.Proofs.YtelcemfaijjcbaaGreatDoor.K
set_option linter.unusedVariables false

theorem allL_step (r : List UInt8 → Bool → Bool) {P : List (List UInt8)} {K : Nat} {x : List UInt8} (h : P[K]? = some x) : allL r (P.drop K) = (r x (decide (P.length ≤ K + 1)) && allL r (P.drop (K + 1))) := by
  obtain ⟨hk, rfl⟩ := List.getElem?_eq_some_iff.1 h
  rw [List.drop_eq_getElem_cons hk]
  have : (P.drop (K + 1)).isEmpty = decide (P.length ≤ K + 1) := by
    rw [Bool.eq_iff_iff, List.isEmpty_iff, List.drop_eq_nil_iff, decide_eq_true_eq]
  show (r P[K] (P.drop (K + 1)).isEmpty && allL r (P.drop (K + 1))) = _
  rw [this]

theorem part_len {l : List UInt8} {x : List UInt8} (h : x ∈ parts l) : x.length ≤ l.length := by
  induction l generalizing x with
  | nil => simp [parts] at h; subst h; simp
  | cons b l ih =>
    unfold parts at h
    split at h
    · rcases List.mem_cons.1 h with rfl | h
      · simp
      · have := ih h; simp; omega
    · cases hp : parts l with
      | nil => exact absurd hp (parts_ne l)
      | cons y ys =>
        rw [hp] at h ih
        simp only [onFirst] at h
        rcases List.mem_cons.1 h with rfl | h
        · have := ih (x := y) (by simp); simp; omega
        · have := ih (x := x) (List.mem_cons_of_mem _ h); simp; omega

theorem parts_len (l : List UInt8) : (parts l).length ≤ l.length + 1 := by
  induction l with
  | nil => simp [parts]
  | cons b l ih =>
    unfold parts
    split
    · simp; omega
    · cases hp : parts l with
      | nil => simp [onFirst]
      | cons y ys => rw [hp] at ih; simp [onFirst] at ih ⊢; omega

theorem four (n : Nat) : decide ((n : Int) ≤ 4) = decide (n ≤ 4) := by
  rw [Bool.eq_iff_iff, decide_eq_true_eq, decide_eq_true_eq]; omega

end Go.Proofs.YtelcemfaijjcbaaGreatDoor.P8

namespace Go.Proofs.YtelcemfaijjcbaaGreatDoor.P8
open Go Go.RowKit Go.Shelf Go.Proofs Go.Proofs.YtelcemfaijjcbaaGreatDoor.B Go.Proofs.YtelcemfaijjcbaaGreatDoor.K
set_option linter.unusedVariables false

theorem quiet_below {w w' : World} (h : ∃ m, w' = w.drewN m) : Below w.heap.size w w' := by
  obtain ⟨m, rfl⟩ := h
  exact below_drewN w m

theorem parts_four {l : List UInt8} (h : patP l = true) : (parts l).length ≤ 1000 := by have := (pat_all h).2.2; omega

theorem less_step {a b : List UInt8} {K : Nat} {x y : UInt8} (hx : a[K]? = some x) (hy : b[K]? = some y) : lessL (a.drop K) (b.drop K) = if x = y then lessL (a.drop (K + 1)) (b.drop (K + 1)) else decide (x.toNat < y.toNat) := by
  obtain ⟨h1, rfl⟩ := List.getElem?_eq_some_iff.1 hx
  obtain ⟨h2, rfl⟩ := List.getElem?_eq_some_iff.1 hy
  rw [List.drop_eq_getElem_cons h1, List.drop_eq_getElem_cons h2]
  rfl

theorem less_end {a b : List UInt8} {K : Nat} (ha : K ≤ a.length) (hb : K ≤ b.length) (h : ¬ (K < a.length ∧ K < b.length)) : lessL (a.drop K) (b.drop K) = decide (a.length < b.length) := by
  rcases Nat.lt_or_ge K b.length with hb' | hb'
  · have : a.length = K := by omega
    rw [List.drop_of_length_le (by omega), List.drop_eq_getElem_cons hb']
    rw [decide_eq_true (by omega)]; rfl
  · rw [List.drop_of_length_le hb', decide_eq_false (by omega)]
    cases a.drop K <;> rfl

end Go.Proofs.YtelcemfaijjcbaaGreatDoor.P8

namespace Go.Proofs.YtelcemfaijjcbaaGreatDoor.C12
open Go Go.RowKit Go.Proofs Go.Proofs.YtelcemfaijjcbaaGreatDoor.B Go.Proofs.YtelcemfaijjcbaaGreatDoor.K Go.Proofs.YtelcemfaijjcbaaGreatDoor.P8
set_option linter.unusedVariables false
set_option maxRecDepth 100000

/-- A world of a class. -/
structure WdQ (S : World → Prop) where
  val : World
  ok : S val
theorem region_quiet_q {P : Program} {S : World → Prop} {id : Nat} {Q : Exit → Act → World → Prop} {a : Act} {w : World} {l : List Oper} (hm : P.follows .mixedOrders = true) (hB : Region.lexB .any l.toArray = true) (hS : S w.drew)
    (h : wpQuiet P l.toArray (fun w' => ∃ x : WdQ S, w' = x.val) (fun a' => ∀ w', (∃ x : WdQ S, w' = x.val) → Q .normal a' w') l a) : (Code.region id l.toArray true).wp P Q a w :=
  wp_region_quiet (C := fun w' => ∃ x : WdQ S, w' = x.val) hm hB ⟨⟨_, hS⟩, rfl⟩ (by simpa using h)
theorem wdq_call {P : Program} {S : World → Prop} {f : FuncId} {args : Array Value} {v : Value} (h : ∀ W, S W → Calls P f args W fun e w' => e = .returned v ∧ S w') (x : WdQ S) : Calls P f args x.val fun e w' => e = .returned v ∧ ∃ y : WdQ S, w' = y.val :=
  (h x.val x.ok).mono fun _ w' ⟨h1, h2⟩ => ⟨h1, ⟨w', h2⟩, rfl⟩
theorem own_kept {w w' : World} {B : Nat} {e : TypeId} {k : Nat} {v : Value} {n : Nat} {xs : List Value} (h : w.ownsRow B e k v n xs) (hb : Below w.heap.size w w') : w'.ownsRow B e k v n xs :=
  h.kept (row := none) ⟨hb.os, hb.tape, hb.output, hb.size, fun j hj _ => hb.block j hj⟩ (by cases hv : v.ownBlock <;> simp)
theorem set_next {l : List Fl} {K : Nat} {y : Fl} (f : Fl) (d : Bool) (h : l[K]? = some y) : setGo f (l.drop K) d = (if !d && !lessL y.name f.name then [f] else []) ++ ((if y.name = f.name then [] else [y]) ++ setGo f (l.drop (K + 1)) (d || !lessL y.name f.name)) := by
  obtain ⟨hlt, rfl⟩ := List.getElem?_eq_some_iff.1 h
  rw [List.drop_eq_getElem_cons hlt, setGo]
theorem set_mem (f : Fl) : ∀ (l : List Fl) (d : Bool) (x : Fl), x ∈ setGo f l d → x = f ∨ x ∈ l
  | [], d, x, h => by
    unfold setGo at h
    split at h
    · cases h
    · left; simpa using h
  | y :: l, d, x, h => by
    unfold setGo at h
    rcases List.mem_append.1 h with h | h
    · split at h
      · left; simpa using h
      · cases h
    · rcases List.mem_append.1 h with h | h
      · split at h
        · cases h
        · right; rw [List.mem_singleton.1 h]; exact List.mem_cons_self ..
      · rcases set_mem f l _ x h with h | h
        · exact Or.inl h
        · exact Or.inr (List.mem_cons_of_mem _ h)

end Go.Proofs.YtelcemfaijjcbaaGreatDoor.C12

namespace Go.Proofs.YtelcemfaijjcbaaGreatDoor.C12
open Go Go.RowKit Go.Proofs Go.Proofs.YtelcemfaijjcbaaGreatDoor.B Go.Proofs.YtelcemfaijjcbaaGreatDoor.K Go.Proofs.YtelcemfaijjcbaaGreatDoor.P8
set_option linter.unusedVariables false
set_option maxRecDepth 100000

/-- The end of a function whose first result lies in a block. -/
theorem row_end2 {fn : Func} {p u : Tmp} {g : Nat} {ty : TypeId} {cs : Array Value} {fs : Array Field} {R : Ending → World → Prop} {ac : Act} {w : World} (x : Value) (hres : fn.results = #[.cell p ty, .tmp u]) (hp : ac.tmps.getD p undef = .pointer (some ⟨g, 0, none⟩)) (hx : ac.tmps.getD u undef = x) (hd : ac.defers = [])
    (hg : w.heap[g]? = some (.cells cs ty (0, 0))) (hu : Tryz.prog.underlying ty = some (.struct fs)) (hi : (Tryz.prog.info? ty).map (·.size) = some cs.size) (hR : R (.returned (.tuple #[.agg cs, x])) w) : bodyPost Tryz.prog fn R .ret ac w := by
  refine bodyPost_ret (v := .tuple #[.agg cs, x]) ?_ hd hR
  have hl := run_loadVar_row w g ty ty cs (0, 0) _ hg hu rfl hi
  have hp' : ac.tmps[p]?.getD undef = .pointer (some ⟨g, 0, none⟩) := by simpa using hp
  have hx' : ac.tmps[u]?.getD undef = x := by simpa using hx
  simp [results, hres, hp', hx', asAddr, hl]

theorem add_str12 (a b : List UInt8) (h : a.length + b.length ≤ 9223372036854775807) : ∀ W, (Op.stringOp .add (str a) (str b)).run Tryz.prog W = .ok (.string (str (a ++ b))) W := fun W => by
  rw [run_string_add_sum W _ _ (by rw [str_size, str_size]; omega), ← str_append]
def someR (D : Dst) (s : List UInt8) : Fl × Int := if D.down then (⟨[], [], []⟩, 11) else match findF D.files s with | none => (⟨[], [], []⟩, 8) | some f => (f, 0)
theorem set3 {w : World} {g : Nat} {cs : Array Value} {T : TypeId} (h : w.heap[g]? = some (.cells cs T (0, 0))) (a b c : Value) : (((w.setCell ⟨g, 0, none⟩ a).setCell ⟨g, 1, none⟩ b).setCell ⟨g, 2, none⟩ c).heap[g]? = some (.cells (((cs.setIfInBounds 0 a).setIfInBounds 1 b).setIfInBounds 2 c) T (0, 0)) :=
  heap_setCell_same _ g 2 _ T _ (heap_setCell_same _ g 1 _ T _ (heap_setCell_same _ g 0 _ T _ h))
theorem below_set3 {B : Nat} {w wr : World} (h : Below B w wr) {g : Nat} (hg : B ≤ g) (a b c : Value) : Below B w (((wr.setCell ⟨g, 0, none⟩ a).setCell ⟨g, 1, none⟩ b).setCell ⟨g, 2, none⟩ c) :=
  ((h.setCell (p := ⟨g, 0, none⟩) hg _).setCell (p := ⟨g, 1, none⟩) hg _).setCell (p := ⟨g, 2, none⟩) hg _

end Go.Proofs.YtelcemfaijjcbaaGreatDoor.C12

namespace Go.Proofs.YtelcemfaijjcbaaGreatDoor.C12
open Go Go.RowKit Go.Proofs Go.Proofs.YtelcemfaijjcbaaGreatDoor.B Go.Proofs.YtelcemfaijjcbaaGreatDoor.K Go.Proofs.YtelcemfaijjcbaaGreatDoor.P8
set_option linter.unusedVariables false
set_option maxRecDepth 100000

theorem set_len (f : Fl) : ∀ (l : List Fl) (d : Bool), (setGo f l d).length = (if d then 0 else 1) + (dropF l f.name).length
  | [], d => by cases d <;> rfl
  | y :: l, d => by
    unfold setGo
    rw [List.length_append, List.length_append, set_len f l]
    unfold dropF
    by_cases hs : y.name = f.name
    · rw [if_pos hs, List.filter_cons_of_neg (by simpa using hs)]
      cases d <;> cases lessL y.name f.name <;> simp
    · rw [if_neg hs, List.filter_cons_of_pos (by simpa using hs), List.length_cons]
      cases d <;> cases lessL y.name f.name <;> simp <;> omega
theorem find_facts {l : List Fl} {s : List UInt8} {f : Fl} (h : findF l s = some f) : f ∈ l ∧ f.name = s :=
  ⟨List.mem_of_find?_eq_some h, by simpa using List.find?_some h⟩
theorem drop_lt {l : List Fl} {f : Fl} {s : List UInt8} (h : f ∈ l) (hn : f.name = s) : (dropF l s).length + 1 ≤ l.length := by
  unfold dropF
  induction l with
  | nil => cases h
  | cons y l ih =>
    by_cases hy : y.name = s
    · rw [List.filter_cons_of_neg (by simpa using hy), List.length_cons]
      have := List.length_filter_le (fun y : Fl => !decide (y.name = s)) l
      omega
    · rw [List.filter_cons_of_pos (by simpa using hy), List.length_cons, List.length_cons]
      rcases List.mem_cons.1 h with rfl | h
      · exact absurd hn hy
      · have := ih h
        omega
theorem drop_sub {l : List Fl} {s : List UInt8} : (dropF l s).length ≤ l.length := List.length_filter_le _ _
theorem goes_files (D : Dst) : (goesD D).1.files = D.files := by unfold goesD; split <;> rfl
theorem goD_down {D E : Dst} {k : Dst → Dst} (h : goesD D = (E, true)) : goD D k = (E, 11) := by unfold goD; rw [h]; rfl
theorem goD_on {D E : Dst} {k : Dst → Dst} (h : goesD D = (E, false)) : goD D k = (k E, 0) := by unfold goD; rw [h]; rfl
theorem box_keep {G : Nat → Prop} {w w' : World} {g i : Nat} {v : Value} (h : Chg G G w w') (hg : ¬ G g) (hc : w.cell? ⟨g, i, none⟩ = some v) : w'.cell? ⟨g, i, none⟩ = some v :=
  cell_same (h.turn.block g (World.block_lt_of_cell? w _ hc) hg) hc

end Go.Proofs.YtelcemfaijjcbaaGreatDoor.C12
