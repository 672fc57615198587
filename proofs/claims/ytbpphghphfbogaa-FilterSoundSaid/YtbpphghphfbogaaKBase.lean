/-
  Small facts for every layer: texts by their bytes, rows of bytes that a call owns, cells behind a call. No program of the project is named here, but its numbers for []uint8, uint8 and string.
-/
import Derived.Test.YtbpphghphfbogaaProg
import Derived.Test.YtbpphghphfbogaaKApp
import Derived.WalkKit
import Derived.WalkSpells
import Derived.WalkLawsBesides
import Derived.Lib.Hide
import Derived.Lib.UnsafeStr
import Derived.Laws.IdiomStrings
import Derived.Laws.Concat
import Derived.Lib.Strings
import Derived.Lib.VarintMem
import Derived.Lib.BufferRead
import Derived.RegionCalls
import Derived.Deep.RegionWith
namespace Go.Proofs.Ytbpphghphfbogaa.B
open Go Go.RowKit

/-- A string that is given by its bytes. -/
def str (l : List UInt8) : ByteArray := ⟨l.toArray⟩
theorem str_size (l : List UInt8) : (str l).size = l.length := by simp [str, ByteArray.size]
theorem str_data (l : List UInt8) : (str l).data.toList = l := by simp [str]
theorem str_eq (s : ByteArray) : str s.data.toList = s := by obtain ⟨⟨l⟩⟩ := s; rfl
theorem str_toList (l : List UInt8) : (str l).toList = l := by rw [Lib.toList_data]; exact str_data l
theorem str_append (a b : List UInt8) : str a ++ str b = str (a ++ b) := by unfold str; exact ByteArray.mk_append_mk a b
theorem str_inj {a b : List UInt8} (h : str a = str b) : a = b := by rw [← str_data a, h, str_data]

/-- A text as a value. -/
def sv (l : List UInt8) : Value := .string (str l)

theorem ret_int {k : IntKind} {a b : Int} (h : a = b) : Ending.returned (.int k a) = .returned (.int k b) := by rw [h]
theorem ret_str {a b : ByteArray} (h : a = b) : Ending.returned (.string a) = .returned (.string b) := by rw [h]
theorem ret_bool {a b : Bool} (h : a = b) : Ending.returned (.bool a) = .returned (.bool b) := by rw [h]

/-- Behind a call that leaves all below alone: cells and marks below read as before. -/
theorem bcell {B : Nat} {W w1 : World} (hb : Below B W w1) : (∀ b o, b < B → w1.cell? ⟨b, o, none⟩ = W.cell? ⟨b, o, none⟩) ∧ (∀ b o, b < B → w1.frozen? ⟨b, o, none⟩ = W.frozen? ⟨b, o, none⟩) :=
  ⟨fun b o h => hb.cell (p := ⟨b, o, none⟩) h, fun b o h => hb.frozen (p := ⟨b, o, none⟩) h⟩

theorem heap_alloc_at (w : World) (o : Obj) : (w.alloc o).heap[w.heap.size]? = some o := by
  show (w.heap.push o)[w.heap.size]? = some o
  simp

/-- A row that starts as the one just made, with nothing in it. -/
theorem owns_made (w : World) (e : TypeId) (z : Value) (c : Nat) (hc : c ≤ maxLen) : (w.alloc (.cells (Array.replicate c z) e)).ownsRow w.heap.size e 1 (.slice (some ⟨w.heap.size, 0, none⟩) 0 c) 0 [] :=
  ⟨rfl, Or.inr ⟨w.heap.size, c, Array.replicate c z, rfl, Nat.le_refl _, heap_alloc_at _ _, by omega, hc, by simp, by simp⟩⟩

theorem owns_block {w : World} {base : Nat} {e : TypeId} {size : Nat} {v : Value} {n : Nat} {xs : List Value} (h : w.ownsRow base e size v n xs) : ∀ k, v.ownBlock = some k → base ≤ k := by
  intro k hk
  rcases h.2 with ⟨rfl, _⟩ | ⟨g, cap, cur, rfl, hg, _⟩
  · cases hk
  · simp only [Value.ownBlock, Option.some.injEq] at hk
    omega

theorem one_new (w : World) (v : Value) (e : TypeId) : ∀ (j : Nat) (u : Value), [v][j]? = some u → (w.alloc (.cells #[v] e)).cell? ((⟨w.heap.size, 0, none⟩ : Addr).add j) = some u := by
  intro j u hj
  match j, hj with
  | 0, hj => simp at hj; subst hj; simp [Addr.add]
theorem one_cell (k : IntKind) (n : Int) : ∀ u ∈ [Value.int k n], u.oneCell' = true := by intro u hu; simp at hu; subst hu; rfl

theorem Try.info5 : (Try.prog.info? 5).map (fun i => (i.zero, i.size, i.bytes)) = some (some (.int .u8 0), 1, 1) := by kernel_rfl

/-- A byte of a text. -/
theorem byte_at (l : List UInt8) (k : Nat) (h : k < l.length) : ∃ (hk : k < (str l).size), ((str l)[k]'hk).toNat = (l[k]'h).toNat :=
  ⟨by rw [str_size]; exact h, by show ((str l).data[k]'_).toNat = _; simp only [str, List.getElem_toArray]⟩

theorem strCells_str (l : List UInt8) : Lib.strCells (str l) = Lib.byteCells l := by simp [Lib.strCells, str, Lib.byteCells]

/-- A piece of a text. -/
theorem str_extract (l : List UInt8) (a b : Nat) : (str l).extract a b = str ((l.drop a).take (b - a)) := by
  unfold str
  rw [Lib.extract_eq]
theorem str_take (l : List UInt8) (b : Nat) : (str l).extract 0 b = str (l.take b) := by
  rw [str_extract, List.drop_zero, Nat.sub_zero]
theorem str_ne {a b : List UInt8} (h : a ≠ b) : ((str a).toList == (str b).toList) = false := by
  rw [str_toList, str_toList]; exact beq_eq_false_iff_ne.2 h
end Go.Proofs.Ytbpphghphfbogaa.B
