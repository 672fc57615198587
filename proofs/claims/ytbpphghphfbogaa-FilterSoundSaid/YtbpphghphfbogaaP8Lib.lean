/-
  Layer 8: strings.Cut at '/', strings.Compare, and the function that goes through a text part by part.
-/
import Derived.Test.YtbpphghphfbogaaP8Math
import Derived.Test.YtbpphghphfbogaaKBase
import Derived.Test.YtbpphghphfbogaaKSl
import Derived.Lib.Bytealg
import Derived.BigQuiet
namespace Go.Proofs.Ytbpphghphfbogaa.P8
open Go Go.RowKit Go.Proofs.Ytbpphghphfbogaa.B Go.Proofs.Ytbpphghphfbogaa.K
set_option linter.unusedVariables false

theorem cut_idx : ∀ l : List UInt8, (Lib.indexByte l 47 = -1 ∧ cutP l = (l, [], false)) ∨ ∃ i : Nat, Lib.indexByte l 47 = (i : Int) ∧ i < l.length ∧ cutP l = (l.take i, l.drop (i + 1), true)
  | [] => Or.inl ⟨rfl, rfl⟩
  | b :: l => by
    by_cases hb : (b == 47) = true
    · refine Or.inr ⟨0, ?_, by simp, ?_⟩
      · unfold Lib.indexByte; rw [if_pos hb]; rfl
      · unfold cutP; rw [if_pos hb]; rfl
    · rcases cut_idx l with ⟨h1, h2⟩ | ⟨i, h1, h2, h3⟩
      · refine Or.inl ⟨?_, ?_⟩
        · unfold Lib.indexByte; rw [if_neg hb, h1]; rfl
        · unfold cutP; rw [if_neg hb, h2]
      · refine Or.inr ⟨i + 1, ?_, by simp; omega, ?_⟩
        · unfold Lib.indexByte
          have : ¬ ((i : Int) == -1) = true := by simp
          rw [if_neg hb, h1, if_neg this]; rfl
        · unfold cutP; rw [if_neg hb, h3]; rfl

set_option maxHeartbeats 1000000 in
set_option maxRecDepth 100000 in
theorem indexByte_any (s : ByteArray) (c : Int) (w : World) :
    Calls Try.prog 96 #[.string s, .int .u8 c] w fun e w' => e = .returned (.int .i64 (Lib.indexByte s.data.toList c.toNat.toUInt8)) ∧ w = w' := by
  go_enter Try.func96, Try.ntmps96
  go_wp2
  rw [run_callFunc_extern Try.func100 (by kernel_rfl) (by kernel_rfl) (by kernel_rfl) (e := Extern.BytealgIndexByte.indexByte) (by kernel_rfl), Lib.run_indexByteString]
  simp only [Result.andThen]
  rw [Oper.upon_value]
  go_wp2
  go_ret
  exact ⟨rfl, rfl⟩

set_option maxHeartbeats 1000000 in
set_option maxRecDepth 100000 in
theorem index_any (l : List UInt8) (w : World) :
    Calls Try.prog 94 #[.string (str l), .string ⟨#[47]⟩] w fun e w' => e = .returned (.int .i64 (Lib.indexByte l 47)) ∧ w = w' := by
  go_enter Try.func94, Try.ntmps94
  go_wp2_with (go_at_call 96; refine (indexByte_any (str l) 47 _).mono ?_; rintro _ w1 ⟨rfl, rfl⟩)
  · have h : ([47] == (str l).toList) = true := by assumption
    go_ret
    rw [str_toList] at h
    obtain rfl := beq_iff_eq.1 h
    exact ⟨rfl, rfl⟩
  · go_ret
    rw [str_data]
    exact ⟨rfl, rfl⟩

set_option maxHeartbeats 1000000 in
set_option maxRecDepth 100000 in
theorem compareString_any (a b : ByteArray) (w : World) :
    Calls Try.prog 86 #[.string a, .string b] w fun e w' => e = .returned (.int .i64 (Lib.compareBytes a.data.toList b.data.toList)) ∧ w = w' := by
  go_enter Try.func86, Try.ntmps86
  go_wp2
  rw [run_callFunc_extern Try.func93 (by kernel_rfl) (by kernel_rfl) (by kernel_rfl) (e := Extern.BytealgCompare.compare) (by kernel_rfl), Lib.run_compareString]
  simp only [Result.andThen]
  rw [Oper.upon_value]
  go_wp2
  go_ret
  exact ⟨rfl, rfl⟩

set_option maxHeartbeats 1000000 in
theorem compare_any (a b : ByteArray) (w : World) :
    Calls Try.prog 73 #[.string a, .string b] w fun e w' => e = .returned (.int .i64 (Lib.compareBytes a.data.toList b.data.toList)) ∧ w = w' := by
  go_enter Try.func73, Try.ntmps73
  go_wp2_with fail
  refine (compareString_any a b _).mono ?_
  rintro _ w1 ⟨rfl, rfl⟩
  go_wp2_with fail
  go_ret
  exact ⟨rfl, rfl⟩

theorem below_drewN (w : World) (n : Nat) : Below w.heap.size w (w.drewN n) := by
  induction n with
  | zero => exact Below.refl _ _
  | succ n ih => first | exact ih.drew | exact ih

set_option maxHeartbeats 1000000 in
set_option maxRecDepth 100000 in
theorem slite_cut_any (l : List UInt8) (hl : l.length ≤ 1000) (w : World) :
    Calls Try.prog 87 #[.string (str l), .string ⟨#[47]⟩] w fun e w' => e = .returned (.tuple #[sv (cutP l).1, sv (cutP l).2.1, .bool (cutP l).2.2]) ∧ Below w.heap.size w w' := by
  have hsz : (str l).size = l.length := str_size l
  rcases cut_idx l with ⟨h1, h2⟩ | ⟨i, h1, h2, h3⟩
  · rw [h2]
    go_enter Try.func87, Try.ntmps87
    go_wp2_with fail
    refine (index_any l _).mono ?_
    rintro _ w1 ⟨rfl, rfl⟩
    rw [h1]
    go_wp2_with fail
    go_ret3
    exact ⟨rfl, Below.refl _ _⟩
  · rw [h3]
    have c1 : (0 : Int) ≤ ↑i := by omega
    have c2 : (↑i : Int) ≤ ↑(str l).size := by omega
    have c3 : (0 : Int) ≤ ↑i + 1 := by omega
    have c4 : (↑i + 1 : Int) ≤ ↑(str l).size := by omega
    have c5 : wrap64 (↑i + 1) = ↑i + 1 := by unfold wrap64; omega
    have c6 : IntKind.i64.wrap (↑i + 1) = ↑i + 1 := by rw [IntKind.wrap_i64]; omega
    go_enter Try.func87, Try.ntmps87
    go_wp2_with fail
    refine (index_any l _).mono ?_
    rintro _ w1 ⟨rfl, rfl⟩
    rw [h1]
    go_wp2_with fail
    go_quiet (fail)
    go_wp2_with fail
    go_ret3
    have e1 : (str l).extract 0 i = str (l.take i) := str_take l i
    have e2 : (str l).extract (i + 1) l.length = str (l.drop (i + 1)) := by
      rw [str_extract, List.take_of_length_le (by rw [List.length_drop]; omega)]
    show Ending.returned (.tuple #[.string ((str l).extract 0 i), .string ((str l).extract (i + 1) l.length), .bool true]) = _ ∧ _
    rw [e1, e2]
    exact ⟨rfl, below_drewN w _⟩

/-- A cell that holds a text. -/
def Box (w : World) (B : Nat) (l : List UInt8) : Prop := w.heap[B]? = some (.cells #[sv l] 9 (0, 0))

theorem Box.cell {w : World} {B : Nat} {l : List UInt8} (h : Box w B l) : w.cell? ⟨B, 0, none⟩ = some (sv l) ∧ w.frozen? ⟨B, 0, none⟩ = false := by
  unfold Box at h
  exact ⟨by simp [World.cell?, h], by simp [World.frozen?, h]⟩
theorem Box.lt {w : World} {B : Nat} {l : List UInt8} (h : Box w B l) : B < w.heap.size := (Array.getElem?_eq_some_iff.1 h).1
theorem Box.below {w w' : World} {B : Nat} {l : List UInt8} (h : Box w B l) (hb : Below w.heap.size w w') : Box w' B l := (hb.block _ h.lt).trans h
theorem Box.set {w : World} {B : Nat} {l : List UInt8} (h : Box w B l) (m : List UInt8) : Box (w.setCell ⟨B, 0, none⟩ (.string (str m))) B m := by
  unfold Box at h ⊢
  rw [heap_setCell_same w B 0 _ _ _ h]
  rfl

/-- Nothing but block g has turned. -/
structure Tg (g : Nat) (W W' : World) : Prop where
  os : W'.os = W.os
  tape : W'.tape = W.tape
  output : W'.output = W.output
  size : W.heap.size ≤ W'.heap.size
  block : ∀ b, b < W.heap.size → b ≠ g → W'.heap[b]? = W.heap[b]?

theorem Tg.refl (g : Nat) (W : World) : Tg g W W := ⟨rfl, rfl, rfl, Nat.le_refl _, fun _ _ _ => rfl⟩
theorem Tg.trans {g : Nat} {a b c : World} (h : Tg g a b) (k : Tg g b c) : Tg g a c :=
  ⟨k.os.trans h.os, k.tape.trans h.tape, k.output.trans h.output, Nat.le_trans h.size k.size, fun i hi hne => (k.block i (Nat.lt_of_lt_of_le hi h.size) hne).trans (h.block i hi hne)⟩
theorem Tg.of_below {g : Nat} {a b : World} (h : Below a.heap.size a b) : Tg g a b := ⟨h.os, h.tape, h.output, h.size, fun i hi _ => h.block i hi⟩
theorem Tg.onto {g n : Nat} {w a b : World} (h : Below n w a) (hn : n ≤ w.heap.size) (hg : n ≤ g) (k : Tg g a b) : Below n w b :=
  ⟨k.os.trans h.os, k.tape.trans h.tape, k.output.trans h.output, Nat.le_trans h.size k.size, fun i hi => (k.block i (Nat.lt_of_lt_of_le hi (Nat.le_trans hn h.size)) (by omega)).trans (h.block i hi)⟩
theorem Tg.set (W : World) (g k : Nat) (v : Value) : Tg g W (W.setCell ⟨g, k, none⟩ v) := by
  have hb := (Below.refl g W).setCell (p := ⟨g, k, none⟩) (Nat.le_refl _) v
  refine ⟨hb.os, hb.tape, hb.output, hb.size, fun b hb hne => ?_⟩
  rw [heap_setCell_other W ⟨g, k, none⟩ b _ hne]
theorem Tg.box {g B : Nat} {W W' : World} {l : List UInt8} (h : Tg g W W') (hB : Box W B l) (hne : B ≠ g) : Box W' B l := (h.block B hB.lt hne).trans hB

set_option maxHeartbeats 1000000 in
set_option maxRecDepth 100000 in
theorem cut_any (l : List UInt8) (hl : l.length ≤ 1000) (w : World) :
    Calls Try.prog 75 #[.string (str l), .string ⟨#[47]⟩] w fun e w' => e = .returned (.tuple #[sv (cutP l).1, sv (cutP l).2.1, .bool (cutP l).2.2]) ∧ Below w.heap.size w w' := by
  obtain ⟨⟨a, b, m⟩, hc⟩ : ∃ t, cutP l = t := ⟨_, rfl⟩
  have hC := slite_cut_any l hl
  rw [hc] at hC ⊢
  go_enter Try.func75, Try.ntmps75
  go_wp2_with fail
  refine (hC _).mono ?_
  rintro _ w1 ⟨rfl, hb⟩
  simp only [sv]
  go_wp2_with fail
  go_ret3
  exact ⟨rfl, hb⟩

set_option maxHeartbeats 1000000 in
set_option maxRecDepth 100000 in
/-- The next part: the cell holds what is left. -/
theorem next_any {B : Nat} {l : List UInt8} {w : World} (hB : Box w B l) (hl : l.length ≤ 1000) :
    Calls Try.prog 74 #[.pointer (some ⟨B, 0, none⟩)] w fun e w' => e = .returned (.tuple #[sv (cutP l).1, .bool (!(cutP l).2.2)]) ∧ Box w' B (cutP l).2.1 ∧ Tg B w w' := by
  obtain ⟨⟨a, b, m⟩, hc⟩ : ∃ t, cutP l = t := ⟨_, rfl⟩
  have hC := cut_any l hl
  rw [hc] at hC ⊢
  obtain ⟨h1, h2⟩ := hB.cell
  simp only [sv] at h1
  go_enter Try.func74, Try.ntmps74
  go_wp2_with fail
  refine (hC _).mono ?_
  rintro _ w1 ⟨rfl, hb⟩
  simp only [sv]
  obtain ⟨h3, h4⟩ := (hB.below hb).cell
  simp only [sv] at h3
  go_wp2_with fail
  go_ret2
  refine ⟨?_, (hB.below hb).set b, (Tg.of_below hb).trans (Tg.set _ _ _ _)⟩
  cases m <;> rfl

set_option maxHeartbeats 1000000 in
set_option maxRecDepth 100000 in
/-- What goes through a text. -/
theorem walk_any (l : List UInt8) (w : World) :
    Calls Try.prog 62 #[.string (str l)] w fun e w' => e = .returned (.func (.func 74) #[] #[.pointer (some ⟨w.heap.size, 0, none⟩)]) ∧ Box w' w.heap.size l ∧ Below w.heap.size w w' := by
  go_enter Try.func62, Try.ntmps62
  go_wp2_with fail
  go_ret
  exact ⟨rfl, heap_alloc_at _ _, (Below.refl _ _).alloc (Nat.le_refl _) _⟩
end Go.Proofs.Ytbpphghphfbogaa.P8
