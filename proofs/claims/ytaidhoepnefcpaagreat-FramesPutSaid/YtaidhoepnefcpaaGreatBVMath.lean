/-
  Plain mathematics of layer 1 (varint): no program is named here.
-/
import Derived.Lib.Strings
import Derived.Lib.Bytealg
import Derived.Lib.FrozenHead
import Derived.Laws.IdiomStrings
import Derived.Lib.UnsafeStr
import Derived.Lib.BufferRead
import Derived.WalkKit
import Derived.Test.YtaidhoepnefcpaaGreatProg
import Derived.WalkSpells
import Derived.WalkLawsBesides
import Derived.Lib.Hide
import Derived.Laws.Concat
import Derived.Lib.VarintMem
import Derived.RegionCalls
import Derived.Deep.RegionWith
import Derived.Lib.Buffer
import Derived.Lib.Varint
import Derived.Lib.Zigzag
namespace Go.Proofs.YtaidhoepnefcpaaGreat.P8
def cutP : List UInt8 -> List UInt8 × List UInt8 × Bool
 | [] => ([], [], false)
 | b :: l => if b == 47 then ([], l, true) else (b :: (cutP l).1, (cutP l).2.1, (cutP l).2.2)
def onFirst (b : UInt8) : List (List UInt8) -> List (List UInt8)
 | [] => [[b]]
 | x :: xs => (b :: x) :: xs
def parts : List UInt8 -> List (List UInt8)
 | [] => [[]]
 | b :: l => if b == 47 then [] :: parts l else onFirst b (parts l)
theorem je (l : List UInt8) : parts l ≠ [] := by
 cases l with
 | nil => simp [parts]
 | cons b l =>
  unfold parts;split
  ·simp
  ·unfold onFirst; split <;> simp
theorem parts_cut (l : List UInt8) : parts l = (cutP l).1 :: (if (cutP l).2.2 then parts (cutP l).2.1 else []) := by
 induction l with
 | nil => rfl
 | cons b l ih =>
  by_cases hb : (b == 47) = true
  ·simp [parts, cutP, hb]
  ·simp only [parts, cutP, hb, Bool.false_eq_true, if_false]
   rw [ih]; simp only [onFirst]
theorem cut_len (l : List UInt8) : (cutP l).1.length + (cutP l).2.1.length <= l.length := by
 induction l with
 | nil => simp [cutP]
 | cons b l ih =>
  unfold cutP;split
  ·simp
  ·simp only [List.length_cons]; omega
def okN (n : Nat) : Bool := (decide (97 <= n) && decide (n <= 122)) || ((decide (48 <= n) && decide (n <= 57)) || (decide (n = 45) || decide (n = 95)))
def okB (b : UInt8) : Bool := okN b.toNat
def plainP (l : List UInt8) : Bool := !l.isEmpty && l.all okB
def allL (r : List UInt8 -> Bool -> Bool) : List (List UInt8) -> Bool
 | [] => true
 | x :: xs => r x xs.isEmpty && allL r xs
def rS (x : List UInt8) (_ : Bool) : Bool := plainP x
def rP (x : List UInt8) (last : Bool) : Bool := plainP x || (x == [42] || (x == [42, 42] && last))
def rowOk (r : List UInt8 -> Bool -> Bool) (l : List UInt8) : Bool := decide (l.length <= 32) && (allL r (parts l) && decide ((parts l).length <= 4))
def streamP (l : List UInt8) : Bool := rowOk rS l
def patP (l : List UInt8) : Bool := rowOk rP l
def rowGo (r : List UInt8 -> Bool -> Bool) : Nat -> List UInt8 -> Bool
 | 0, _ => false
 | n + 1, l => r (cutP l).1 (!(cutP l).2.2) && (!(cutP l).2.2 || rowGo r n (cutP l).2.1)
theorem rowGo_eq (r : List UInt8 -> Bool -> Bool) : ∀ (n : Nat) (l : List UInt8), rowGo r n l = (allL r (parts l) && decide ((parts l).length <= n))
 | 0, l => by
  have := je l;have h : ¬ (parts l).length <= 0 := by
   intro h;exact this (List.eq_nil_of_length_eq_zero (by omega))
  simp [rowGo, h]
 | n + 1, l => by
  unfold rowGo;rw [parts_cut l];cases hm : (cutP l).2.2
  ·simp [allL]
  ·rw [rowGo_eq r n]
   have hne : (parts (cutP l).2.1).isEmpty = false := by
    cases h : parts (cutP l).2.1 with
    | nil => exact absurd h (je _)
    | cons => rfl
   simp [allL, hne, Bool.and_assoc]
def hd (Q : List (List UInt8)) : List UInt8 := Q.headD []
def one : List UInt8 := [42]
def many : List UInt8 := [42, 42]
def lessL : List UInt8 -> List UInt8 -> Bool
 | [], b => !b.isEmpty
 | _ :: _, [] => false
 | x :: a, y :: b => if x = y then lessL a b else decide (x.toNat < y.toNat)
end Go.Proofs.YtaidhoepnefcpaaGreat.P8
namespace Go.Proofs.YtaidhoepnefcpaaGreat.K
open Go Go.RowKit Go.Lib
def Clear (fz : Nat × Nat) (n : Nat) : Prop := ∀ k, k < n -> ¬ (fz.1 <= k /\ k < fz.2)
theorem ZC (n : Nat) : Clear (0, 0) n := fun k _ h => by simp at h
theorem clear_mark (n : Nat) : Clear (n, n + 1) n := fun k hk h => by simp at h; omega
def OwnsG (w : World) (base : Nat) (e : TypeId) (v : Value) (n : Nat) (xs : List Value) : Prop :=
 xs.length = n /\ ((v = .slice none 0 0 /\ n = 0) \/ ∃ g cap cur fz, v = .slice (some ⟨g, 0, none⟩) n cap /\ base <= g /\ w.heap[g]? = some (.cells cur e fz) /\ Clear fz cur.size /\ n <= cap /\ cap <= maxLen /\ cur.size = cap /\ cur.toList.take n = xs)
theorem alloc_keeps (w : World) (o : Obj) (k : Nat) (h : k < w.heap.size) : (w.alloc o).heap[k]? = w.heap[k]? := Below.heap_alloc w o k h
section
variable {P : Program}
theorem storeG (g o : Nat) (t : TypeId) (fz : Nat × Nat) : ∀ (vs : List Value) (i : Nat) (cur : Array Value) (w : World), w.heap[g]? = some (.cells cur t fz) -> Clear fz cur.size -> o + i + vs.length <= cur.size -> (∀ v ∈ vs, v.oneCell' = true) ->
 (storeCells ⟨g, o, none⟩ vs i).run P w = .ok () (w.setRow g (cur.toList.take (o + i) ++ vs ++ cur.toList.drop (o + i + vs.length)).toArray) := by
 intro vs;induction vs with
 | nil =>
  intro i cur w hg _ _ _;simp only [storeCells, List.append_nil, List.length_nil, Nat.add_zero, List.take_append_drop, Array.toArray_toList];rw [setRow_self w g cur t fz hg];rfl
 | cons v rest ih =>
  intro i cur w hg hfz hl h1;have hi : o + i < cur.size := by simp at hl; omega
  have hadd : (⟨g, o, none⟩ : Addr).add i = ⟨g, o + i, none⟩ := by unfold Addr.add; split <;> simp_all
  have hcell : w.cell? ⟨g, o + i, none⟩ = some cur[o + i] := by simp [World.cell?, hg, hi]
  have hfro : w.frozen? ⟨g, o + i, none⟩ = false := by
   have := hfz (o + i) hi;simp only [World.frozen?, hg, Bool.and_eq_false_iff, decide_eq_false_iff_not];by_cases h : fz.1 <= o + i
   ·right; omega
   ·left; exact h
  have hst : (store ((⟨g, o, none⟩ : Addr).add i) v).run P w = .ok () (w.setRow g (cur.setIfInBounds (o + i) v)) := by
   rw [hadd, run_store P w _ v _ (h1 v (by simp)), hcell];simp [hfro, setCell_eq_setRow w g (o + i) cur t fz v hg]
  have := ih (i + 1) (cur.setIfInBounds (o + i) v) (w.setRow g (cur.setIfInBounds (o + i) v)) (setRow_heap w g cur _ t _ hg) (by simpa using hfz) (by simp at hl ⊢; omega) (fun x hx => h1 x (by simp [hx]));simp only [storeCells, Sem.run_bind, hst, Result.andThen_ok, this, setRow_setRow];congr 3
  have e := list_seg_step cur.toList (o + i) v rest (by simp at hl ⊢; omega);simpa [Array.toList_setIfInBounds, Nat.add_assoc] using e
theorem appendGs (w : World) (base : Nat) (t ty e : TypeId) (i : TypeInfo) (ht : P.underlying t = some (.slice e)) (hi : P.info? e = some i) (hz : i.zero = some (.int .u8 0))
 (hsize : i.size = 1) (hby : i.bytes = 1) (v : Value) (n : Nat) (xs : List Value) (hown : OwnsG w base e v n xs) (a : Addr) (m c : Nat) (news : List Value) (hl : news.length = m)
 (hnews : ∀ j u, news[j]? = some u -> w.cell? (a.add j) = some u) (h1 : ∀ u ∈ news, u.oneCell' = true) (h63 : n + m <= maxLen) (hbytes : n + m <= 140737488355328) (hbase : base <= w.heap.size) :
 ∃ v' w', (Builtin.append_ #[t, t] ty #[v, .slice (some a) m c]).run P w = .ok v' w' /\ OwnsG w' base e v' (n + m) (xs ++ news) /\ w.grownBy w' v.ownBlock := by
 obtain ⟨hxl, hown⟩ := hown;have hlen : (xs ++ news).length = n + m := by rw [List.length_append, hxl, hl]
 rcases hown with ⟨rfl, rfl⟩ | ⟨g, cap, cur, fz, rfl, hbg, hg, hfz, hnc, hcm, hcs, htake⟩
 ·obtain ⟨v', w', h1', h2, h3, _⟩ := run_append_own (P := P) w base t ty e i (.int .u8 0) 1 1 ht hi hz hsize hby rfl (by decide) (.slice none 0 0) 0 xs ⟨by simpa using hxl, .inl ⟨rfl, rfl⟩⟩ a m c news (by rw [hl, Nat.mul_one]) hnews h1 h63 (by rw [Nat.mul_one]; exact hbytes) hbase
  refine ⟨v', w', h1', ⟨hlen, ?_⟩, h3⟩;rcases h2.2 with h | ⟨g, cap, cur, hv, hb, hg, hn, hc, hs, htk⟩
  ·exact .inl h
  ·exact .inr ⟨g, cap, cur, (0, 0), hv, hb, hg, ZC _, hn, hc, by simpa using hs, by simpa using htk⟩
 ·by_cases hroom : n + m <= cap
  ·have hf := run_firstCells_some (P := P) w 1 m a m c news (by rw [hl, Nat.mul_one]) hnews
   have hst := storeG (P := P) g n e fz news 0 cur w hg hfz (by rw [hl]; omega) h1;simp only [Nat.add_zero, hl] at hst;have hr : (Builtin.append_ #[t, t] ty #[.slice (some ⟨g, 0, none⟩) n cap, .slice (some a) m c]).run P w = .ok (.slice (some ⟨g, 0, none⟩) (n + m) cap) (w.setRow g (cur.toList.take n ++ news ++ cur.toList.drop (n + m)).toArray) := by
    simp [Builtin.append_, run_underlying ht, sizeOf, typeInfo, hi, hsize, Builtin.lenOf, hroom, hf, Addr.add_lit, hst]
   have hnew : (cur.toList.take n ++ news ++ cur.toList.drop (n + m)).toArray.size = cur.size := by
    simp only [List.size_toArray, List.length_append, List.length_take, List.length_drop, Array.length_toList, hl];omega
   refine ⟨_, _, hr, ⟨hlen, .inr ⟨g, cap, _, fz, rfl, hbg, setRow_heap w g cur _ e _ hg, by rw [hnew]; exact hfz, hroom, hcm, by rw [hnew]; exact hcs, ?_⟩⟩, ⟨rfl, rfl, rfl, by simp, fun k _ hk => setRow_other w g k _ (fun e => hk (by simp [Value.ownBlock, e]))⟩⟩;rw [htake, <- hlen];exact List.take_left
  ·have holds : ∀ j u, xs[j]? = some u -> w.cell? ((⟨g, 0, none⟩ : Addr).add j) = some u := fun j u hj => Lib.cells_of_row hg n j u (by rw [htake]; exact hj)
   have hr := run_append_grow (P := P) w t ty e i (.int .u8 0) ht hi hz ⟨g, 0, none⟩ n cap xs (by rw [hsize, Nat.mul_one]; exact hxl) holds a m c news (by rw [hsize, Nat.mul_one]; exact hl) hnews (by omega) (by unfold maxLen at h63; omega) (by rw [hby]; exact growslice_fits (by omega) (by omega));have hge := grownCap_ge w (n + m) cap e;have hcm2 : grownCap w (n + m) cap e <= maxLen := grownCap_le_maxLen w (n + m) cap e h63;refine ⟨_, _, hr, ⟨hlen, .inr ⟨w.heap.size, _, _, (0, 0), rfl, hbase, heap_alloc_new w.drew _, ZC _, hge, hcm2, ?_, ?_⟩⟩, ⟨rfl, rfl, rfl, by simp, fun k hk _ => alloc_keeps w.drew _ k hk⟩⟩
   ·have hz1 : (Value.int IntKind.u8 0).cells.size = 1 := rfl
    simp only [Array.size_append, List.size_toArray, size_zeroCells, hz1, hxl, hl];omega
   ·simp only [Array.toList_append, List.append_assoc]
    rw [<- List.append_assoc, <- hlen];exact List.take_left
theorem wpList_appendGs (w : World) {ops : Array Oper} {rest : List Oper} {o : Oper} {a : Act} {Q : Exit -> Act -> World -> Prop} (hgd : o.guard = none) (sl x : Operand) (t : TypeId)
 (ho : o.op = .call { callee := .builtin .append, args := #[sl, x], argTypes := #[t, t] })
 (base : Nat) (e : TypeId) (i : TypeInfo) (ht : P.underlying t = some (.slice e)) (hi : P.info? e = some i) (hz : i.zero = some (.int .u8 0))
 (hsize : i.size = 1) (hby : i.bytes = 1) (v : Value) (n : Nat) (xs : List Value) (hs : a.eval sl = v) (hown : OwnsG w base e v n xs) (ad : Addr) (m c : Nat) (news : List Value) (hx : a.eval x = .slice (some ad) m c)
 (hl : news.length = m) (hnews : ∀ j u, news[j]? = some u -> w.cell? (ad.add j) = some u) (h1 : ∀ u ∈ news, u.oneCell' = true)
 (h63 : n + m <= maxLen) (hbytes : n + m <= 140737488355328) (hbase : base <= w.heap.size)
 (h : ∀ v' w', OwnsG w' base e v' (n + m) (xs ++ news) -> w.grownBy w' v.ownBlock -> wpList P ops Q rest (a.put o.dst v') w') : wpList P ops Q (o :: rest) a w := by
 refine wpList_plain hgd fun K hK => ?_
 obtain ⟨v', w', hr, h2, h3⟩ := appendGs (P := P) w base t o.type e i ht hi hz hsize hby v n xs hown ad m c news hl hnews h1 h63 hbytes hbase;unfold Oper.wp execOp;simp only [ho, resolve, invoke, builtin, Sem.run_bind, Sem.run_pure, Result.andThen_ok, List.map_toArray, List.map_cons, List.map_nil, hs, hx, hr];exact hK _ _ (h v' w' h2 h3)
theorem OwnsG.block {w : World} {base : Nat} {e : TypeId} {v : Value} {n : Nat} {xs : List Value} (h : OwnsG w base e v n xs) : ∀ k, v.ownBlock = some k -> base <= k := by
 intro k hk;rcases h.2 with ⟨rfl, _⟩ | ⟨g, cap, cur, fz, rfl, hg, _⟩
 ·cases hk
 ·simp only [Value.ownBlock, Option.some.injEq] at hk
  omega
theorem owns_bytes (w : World) (e : TypeId) (s : ByteArray) (hs : s.size <= maxLen) :
 OwnsG (w.drew.alloc (.cells (bytesRow s (grownCap w s.size 0 e)) e ((bytesRow s (grownCap w s.size 0 e)).size, (bytesRow s (grownCap w s.size 0 e)).size + 1))) w.heap.size e
  (.slice (some ⟨w.heap.size, 0, none⟩) s.size (grownCap w s.size 0 e)) s.size (strCells s) := by
 have hge := grownCap_ge w s.size 0 e;refine ⟨strCells_length s, .inr ⟨w.heap.size, _, _, _, rfl, Nat.le_refl _, heap_alloc_new w.drew _, clear_mark _, hge, grownCap_le_maxLen w s.size 0 e hs, ?_, ?_⟩⟩
 ·have h1 : s.data.size = s.size := rfl
  simp only [bytesRow, Array.size_append, Array.size_map, Array.size_replicate, h1];omega
 ·have hl : (strCells s).length = s.size := strCells_length s
  have : (bytesRow s (grownCap w s.size 0 e)).toList = strCells s ++ List.replicate (grownCap w s.size 0 e - s.size) (.int .u8 0) := by simp [bytesRow, strCells]
  rw [this, <- hl, List.take_left]
theorem OwnsG.below {w w' : World} {base : Nat} {e : TypeId} {v : Value} {n : Nat} {xs : List Value} (h : OwnsG w base e v n xs) (hb : Below w.heap.size w w') : OwnsG w' base e v n xs := by
 refine ⟨h.1, ?_⟩;rcases h.2 with h | ⟨g, cap, cur, fz, hv, hg, hh, r⟩
 ·exact .inl h
 ·exact .inr ⟨g, cap, cur, fz, hv, hg, (hb.block g (Array.getElem?_eq_some_iff.1 hh).1).trans hh, r⟩
theorem conv_bytes (w : World) (src dst e : TypeId) (s : ByteArray) (hs : P.underlying src = some .string) (hd : P.underlying dst = some (.slice e)) (he : P.underlying e = some (.int .u8)) (hm : s.size <= maxLen) :
 ∃ v w', (convert src dst (.string s)).run P w = .ok v w' /\ OwnsG w' w.heap.size e v s.size (strCells s) /\ Below w.heap.size w w' :=
 ⟨_, _, run_bytes_of_string w src dst e s hs hd he, owns_bytes w e s hm, (Below.refl _ _).drew.alloc (Nat.le_refl _) _⟩
theorem run_strG {w : World} {base : Nat} {src dst e : TypeId} {v : Value} {n : Nat} {l : List UInt8} (hs : P.underlying src = some (.slice e)) (he : P.underlying e = some (.int .u8)) (hd : P.underlying dst = some .string)
 (h : OwnsG w base e v n (Lib.byteCells l)) : (convert src dst v).run P w = .ok (.string ⟨l.toArray⟩) w := by
 have hl : l.length = n := by have := h.1; rwa [Lib.byteCells_length] at this
 subst hl;rcases h.2 with ⟨rfl, h0⟩ | ⟨g, cap, cur, fz, rfl, hg, hh, _, _, _, _, htk⟩
 ·rw [List.length_eq_zero_iff] at h0
  subst h0;exact Lib.run_convert_nil_bytes w src dst e 0 hs he hd
 ·exact run_convert_bytes_back w src dst e ⟨g, 0, none⟩ cap l hs he hd (Lib.bytes_of_row hh htk)
end
end Go.Proofs.YtaidhoepnefcpaaGreat.K
namespace Go.Proofs.YtaidhoepnefcpaaGreat.B
open Go Go.RowKit
def str (l : List UInt8) : ByteArray := ⟨l.toArray⟩
theorem zn (l : List UInt8) : (str l).size = l.length := by simp [str, ByteArray.size]
theorem qA (l : List UInt8) : (str l).data.toList = l := by simp [str]
theorem str_eq (s : ByteArray) : str s.data.toList = s := by obtain ⟨⟨l⟩⟩ := s; rfl
theorem zL (l : List UInt8) : (str l).toList = l := by rw [Lib.toList_data]; exact qA l
theorem yS (a b : List UInt8) : str a ++ str b = str (a ++ b) := by unfold str; exact ByteArray.mk_append_mk a b
def sv (l : List UInt8) : Value := .string (str l)
theorem yC {k : IntKind} {a b : Int} (h : a = b) : Ending.returned (.int k a) = .returned (.int k b) := by rw [h]
theorem jP {a b : ByteArray} (h : a = b) : Ending.returned (.string a) = .returned (.string b) := by rw [h]
theorem zg (w : World) (o : Obj) : (w.alloc o).heap[w.heap.size]? = some o := by
 show (w.heap.push o)[w.heap.size]? = some o
 simp
theorem Yw (w : World) (e : TypeId) (z : Value) (c : Nat) (hc : c <= maxLen) : (w.alloc (.cells (Array.replicate c z) e)).ownsRow w.heap.size e 1 (.slice (some ⟨w.heap.size, 0, none⟩) 0 c) 0 [] :=
 ⟨rfl, Or.inr ⟨w.heap.size, c, Array.replicate c z, rfl, Nat.le_refl _, zg _ _, by omega, hc, by simp, by simp⟩⟩
theorem qw {w : World} {base : Nat} {e : TypeId} {size : Nat} {v : Value} {n : Nat} {xs : List Value} (h : w.ownsRow base e size v n xs) : ∀ k, v.ownBlock = some k -> base <= k := by
 intro k hk;rcases h.2 with ⟨rfl, _⟩ | ⟨g, cap, cur, rfl, hg, _⟩
 ·cases hk
 ·simp only [Value.ownBlock, Option.some.injEq] at hk
  omega
theorem qZ (w : World) (v : Value) (e : TypeId) : ∀ (j : Nat) (u : Value), [v][j]? = some u -> (w.alloc (.cells #[v] e)).cell? ((⟨w.heap.size, 0, none⟩ : Addr).add j) = some u := by
 intro j u hj;match j, hj with
 | 0, hj => simp at hj; subst hj; simp [Addr.add]
theorem one_cell (k : IntKind) (n : Int) : ∀ u ∈ [Value.int k n], u.oneCell' = true := by intro u hu; simp at hu; subst hu; rfl
theorem Tryz.info5 : (Tryz.prog.info? 5).map (fun i => (i.zero, i.size, i.bytes)) = some (some (.int .u8 0), 1, 1) := by kernel_rfl
theorem byte_at (l : List UInt8) (k : Nat) (h : k < l.length) : ∃ (hk : k < (str l).size), ((str l)[k]'hk).toNat = (l[k]'h).toNat :=
 ⟨by rw [zn]; exact h, by show ((str l).data[k]'_).toNat = _; simp only [str, List.getElem_toArray]⟩
theorem strCells_str (l : List UInt8) : Lib.strCells (str l) = Lib.byteCells l := by simp [Lib.strCells, str, Lib.byteCells]
theorem qE (l : List UInt8) (a b : Nat) : (str l).extract a b = str ((l.drop a).take (b - a)) := by
 unfold str;rw [Lib.extract_eq]
theorem str_take (l : List UInt8) (b : Nat) : (str l).extract 0 b = str (l.take b) := by
 rw [qE, List.drop_zero, Nat.sub_zero]
theorem str_ne {a b : List UInt8} (h : a ≠ b) : ((str a).toList == (str b).toList) = false := by
 rw [zL, zL]; exact beq_eq_false_iff_ne.2 h
end Go.Proofs.YtaidhoepnefcpaaGreat.B
namespace Go.Proofs.YtaidhoepnefcpaaGreat.K
open Go Go.RowKit
def Sl (w : World) (v : Value) (xs : List Value) : Prop :=
 ∃ a cap, v = .slice a xs.length cap /\ ∀ j u, xs[j]? = some u -> ∃ b off, a = some ⟨b, off, none⟩ /\ w.cell? ⟨b, off + j, none⟩ = some u
theorem Sl.nil (w : World) : Sl w (.slice none 0 0) [] := ⟨none, 0, rfl, fun j u h => by simp at h⟩
theorem Sl.below {w w' : World} {v : Value} {xs : List Value} (h : Sl w v xs) (hb : Below w.heap.size w w') : Sl w' v xs := by
 obtain ⟨a, cap, rfl, hc⟩ := h;refine ⟨a, cap, rfl, fun j u hj => ?_⟩;obtain ⟨b, off, ha, hcell⟩ := hc j u hj;exact ⟨b, off, ha, (hb.cell (p := ⟨b, off + j, none⟩) (World.block_lt_of_cell? w _ hcell)).trans hcell⟩
theorem Sl.row {w : World} {g cap : Nat} {cur : Array Value} {T : TypeId} {fr : Nat × Nat} {xs : List Value} (hg : w.heap[g]? = some (.cells cur T fr)) (ht : cur.toList.take xs.length = xs) :
 Sl w (.slice (some ⟨g, 0, none⟩) xs.length cap) xs := by
 refine ⟨_, cap, rfl, fun j u hj => ⟨g, 0, rfl, ?_⟩⟩;have := Lib.cells_of_row hg xs.length j u (by rw [ht]; exact hj);rw [Lib.addr_add] at this;exact this
theorem zB {w : World} {g k : Nat} {cur : Array Value} {T : TypeId} (hg : w.heap[g]? = some (.cells cur T (0, 0))) (hk : k < cur.size) :
 ∃ old, w.cell? ⟨g, k, none⟩ = some old /\ w.frozen? ⟨g, k, none⟩ = false :=
 ⟨cur[k], by simp [World.cell?, hg, hk], by simp [World.frozen?, hg]⟩
theorem zD {w : World} {g k : Nat} {cur : Array Value} {T : TypeId} {xs : List Value} (hg : w.heap[g]? = some (.cells cur T (0, 0))) (hk : k < cur.size) (ht : cur.toList.take k = xs) (u : Value) :
 ∃ cur' : Array Value, (w.setCell ⟨g, k, none⟩ u).heap[g]? = some (.cells cur' T (0, 0)) /\ cur'.size = cur.size /\ cur'.toList.take (k + 1) = xs ++ [u] := by
 refine ⟨cur.setIfInBounds k u, heap_setCell_same w g k cur T u hg, by simp, ?_⟩;rw [Array.toList_setIfInBounds, List.take_add_one];have h1 : (cur.toList.set k u).take k = xs := by rw [List.take_set_of_le (Nat.le_refl _)]; exact ht
 have h2 : (cur.toList.set k u)[k]? = some u := by simp [hk]
 rw [h1, h2];rfl
end Go.Proofs.YtaidhoepnefcpaaGreat.K
namespace Go.Proofs.YtaidhoepnefcpaaGreat.C10
open Go Go.RowKit Go.Proofs B K P8
set_option linter.unusedVariables false
structure Cm where
 client : Int
 seq : Int
 stream : List UInt8
 rule : Int
 args : List Int
 expect : Int
structure Ev where
 pos : Int
 vars : List Int
structure St where
 pos : Int
 ver : Int
 vars : List Int
structure It where
 stream : List UInt8
 st : St
structure Vd where
 seq : Int
 code : Int
def inn (n a b : Int) : Bool := decide (a <= n) && decide (n <= b)
def valP (n : Int) : Bool := inn n (-1099511627776) 1099511627776
def valsP (l : List Int) (most : Nat) : Bool := l.all valP && decide (l.length <= most)
def headP (c q : Int) (s : List UInt8) : Bool := inn c 0 5 && (inn q 1 1099511627776 && streamP s)
def cmdP (c : Cm) : Bool := headP c.client c.seq c.stream && (inn c.rule 0 11 && (valsP c.args 4 && inn c.expect (-1) 1099511627776))
def evP (e : Ev) : Bool := inn e.pos 0 7 && valsP e.vars 6
def evsP (l : List Ev) : Bool := l.all evP && decide (l.length <= 3)
def stP (s : St) : Bool := inn s.pos 0 7 && (inn s.ver 0 1099511627776 && valsP s.vars 6)
def itP (l : List It) (k : Nat) (x : It) : Bool := streamP x.stream && (stP x.st && (decide (k = 0) || match l[k - 1]? with | some y => lessL y.stream x.stream | none => true))
def itemsGo (l : List It) : Nat -> List It -> Bool
 | _, [] => true
 | k, x :: r => itP l k x && itemsGo l (k + 1) r
def itemsP (l : List It) : Bool := itemsGo l 0 l && decide (l.length <= 64)
def vdP (l : List Vd) (k : Nat) (x : Vd) : Bool := inn x.seq 1 1099511627776 && (inn x.code 0 63 && (decide (k = 0) || match l[k - 1]? with | some y => decide (y.seq < x.seq) | none => true))
def vdsGo (l : List Vd) : Nat -> List Vd -> Bool
 | _, [] => true
 | k, x :: r => vdP l k x && vdsGo l (k + 1) r
def vdsP (l : List Vd) : Bool := vdsGo l 0 l && decide (l.length <= 32)
def filtP (l : List (List UInt8)) : Bool := decide (l.length <= 8) && l.all patP
def num (n : Int) : List UInt8 := Lib.uvarint (Lib.zigzag n)
def numsL (l : List Int) : List UInt8 := l.flatMap num
def listL (l : List Int) : List UInt8 := num (l.length : Int) ++ numsL l
def textL (s : List UInt8) : List UInt8 := num (s.length : Int) ++ s
def layCmd (c : Cm) : List UInt8 := numsL [c.client, c.seq] ++ textL c.stream ++ num c.rule ++ listL c.args ++ num c.expect
def layEv (e : Ev) : List UInt8 := num e.pos ++ listL e.vars
def layEvs (l : List Ev) : List UInt8 := num (l.length : Int) ++ l.flatMap layEv
def layIt (x : It) : List UInt8 := textL x.stream ++ numsL [x.st.pos, x.st.ver] ++ listL x.st.vars
def layItems (l : List It) : List UInt8 := num (l.length : Int) ++ l.flatMap layIt
def layVd (x : Vd) : List UInt8 := numsL [x.seq, x.code]
def layVds (l : List Vd) : List UInt8 := num (l.length : Int) ++ l.flatMap layVd
def layFilt (l : List (List UInt8)) : List UInt8 := num (l.length : Int) ++ l.flatMap textL
def I64 (n : Int) : Prop := -9223372036854775808 <= n /\ n <= 9223372036854775807
def NsWf (l : List Int) : Prop := (∀ x ∈ l, I64 x) /\ l.length <= 17592186044416
def TxWf (s : List UInt8) : Prop := s.length <= 140737488355328
def CmWf (c : Cm) : Prop := I64 c.client /\ I64 c.seq /\ TxWf c.stream /\ I64 c.rule /\ NsWf c.args /\ I64 c.expect
def EvWf (e : Ev) : Prop := I64 e.pos /\ NsWf e.vars
def EvsWf (l : List Ev) : Prop := (∀ x ∈ l, EvWf x) /\ l.length <= 17592186044416
def StWf (s : St) : Prop := I64 s.pos /\ I64 s.ver /\ NsWf s.vars
def ItWf (x : It) : Prop := TxWf x.stream /\ StWf x.st
def ItsWf (l : List It) : Prop := (∀ x ∈ l, ItWf x) /\ l.length <= 17592186044416
def VdWf (x : Vd) : Prop := I64 x.seq /\ I64 x.code
def VdsWf (l : List Vd) : Prop := (∀ x ∈ l, VdWf x) /\ l.length <= 17592186044416
def FlWf (l : List (List UInt8)) : Prop := (∀ x ∈ l, TxWf x) /\ l.length <= 17592186044416
theorem zi (n : Int) (h : I64 n) : (num n).length <= 10 := Lib.uvarint_length64 (Lib.zigzag_lt h.1 h.2)
theorem yF (x : Int) (l : List Int) : numsL (x :: l) = num x ++ numsL l := rfl
theorem zo : ∀ (l : List Int), (∀ x ∈ l, I64 x) -> (numsL l).length <= 10 * l.length
 | [], _ => Nat.le_refl _
 | x :: l, h => by
  rw [yF, List.length_append, List.length_cons];have h1 := zi x (h x (List.mem_cons_self ..));have h2 := zo l fun y hy => h y (List.mem_cons_of_mem _ hy)
  omega
theorem jc {n : Nat} (h : n <= 140737488355328) : I64 (n : Int) := ⟨by omega, by omega⟩
theorem yg (l : List Int) (h : NsWf l) : (listL l).length <= 10 * l.length + 10 := by
 unfold listL;rw [List.length_append];have h1 := zi (l.length : Int) (jc (by have := h.2; omega));have h2 := zo l h.1;omega
theorem zT (s : List UInt8) (h : TxWf s) : (textL s).length <= s.length + 10 := by
 unfold textL;rw [List.length_append];have h1 := zi (s.length : Int) (jc h);omega
def SlOf {X : Type} (w : World) (k : Nat) (Q : List Value -> X -> Prop) (v : Value) (xs : List X) : Prop :=
 ∃ a cap, v = .slice a xs.length cap /\ ∀ j x, xs[j]? = some x -> ∃ b off, a = some ⟨b, off, none⟩ /\ ∃ cs, cs.length = k /\ Q cs x /\ ∀ i c, cs[i]? = some c -> w.cell? ⟨b, off + j * k + i, none⟩ = some c
theorem SlOf.nil {X : Type} (w : World) (k : Nat) (Q : List Value -> X -> Prop) : SlOf w k Q (.slice none 0 0) [] := ⟨none, 0, rfl, fun j i h => by simp at h⟩
theorem SlOf.below {X : Type} {w w' : World} {k : Nat} {Q Q' : List Value -> X -> Prop} {v : Value} {xs : List X} (h : SlOf w k Q v xs) (hb : Below w.heap.size w w') (hq : ∀ cs x, Q cs x -> Q' cs x) : SlOf w' k Q' v xs := by
 obtain ⟨a, cap, rfl, hc⟩ := h;refine ⟨a, cap, rfl, fun j x hj => ?_⟩;obtain ⟨b, off, ha, cs, hl, hQ, h1⟩ := hc j x hj;exact ⟨b, off, ha, cs, hl, hq _ _ hQ, fun i c hi => (hb.cell (p := ⟨b, off + j * k + i, none⟩) (World.block_lt_of_cell? w _ (h1 i c hi))).trans (h1 i c hi)⟩
theorem SlOf.open {X : Type} {w : World} {k : Nat} {Q : List Value -> X -> Prop} {v : Value} {xs : List X} (h : SlOf w k Q v xs) : ∃ a cap, v = .slice a xs.length cap /\ ∀ j x, xs[j]? = some x -> ∃ b off, a = some ⟨b, off, none⟩ /\ ∃ cs, cs.length = k /\ Q cs x /\ ∀ i c, cs[i]? = some c -> w.cell? ⟨b, off + j * k + i, none⟩ = some c := h
theorem za {w w' : World} {g j : Nat} {u : Value} (hb : Below w.heap.size w w') (h : w.cell? ⟨g, j, none⟩ = some u) : w'.cell? ⟨g, j, none⟩ = some u :=
 (hb.cell (p := ⟨g, j, none⟩) (World.block_lt_of_cell? w _ h)).trans h
theorem zf (w : World) (o : Obj) : Below w.heap.size w (w.alloc o) := (Below.refl w.heap.size w).alloc (Nat.le_refl _) _
theorem yc (K : Nat) (h : K < 9223372036854775807) : IntKind.i64.wrap ((K : Int) + 1) = (K : Int) + 1 := IntWalk.i64_in _ (by omega)
theorem zx {w : World} {o : Obj} {b i : Nat} {u : Value} (h : w.cell? ⟨b, i, none⟩ = some u) : (w.alloc o).cell? ⟨b, i, none⟩ = some u := za (zf w o) h
theorem ze (w : World) (cs : List Value) (T : TypeId) (i : Nat) (c : Value) (h : cs[i]? = some c) : (w.alloc (.cells cs.toArray T)).cell? ⟨w.heap.size, i, none⟩ = some c := by
 unfold World.cell?;simp only [zg];simpa using h
def SlN (w : World) (v : Value) (xs : List Int) : Prop := Sl w v (xs.map fun n => .int .i64 n)
def SlT (w : World) (v : Value) (xs : List (List UInt8)) : Prop := Sl w v (xs.map sv)
theorem SlN.below {w w' : World} {v : Value} {xs : List Int} (h : SlN w v xs) (hb : Below w.heap.size w w') : SlN w' v xs := Sl.below h hb
theorem SlT.below {w w' : World} {v : Value} {xs : List (List UInt8)} (h : SlT w v xs) (hb : Below w.heap.size w w') : SlT w' v xs := Sl.below h hb
theorem SlN.open {w : World} {v : Value} {l : List Int} (h : SlN w v l) : ∃ a cap, v = .slice a l.length cap /\ ∀ (j : Nat) x, l[j]? = some x -> ∃ b off, a = some ⟨b, off, none⟩ /\ w.cell? ⟨b, off + j, none⟩ = some (.int .i64 x) := by
 obtain ⟨a, cap, e, hc⟩ := h;rw [List.length_map] at e;exact ⟨a, cap, e, fun j x hx => hc j (.int .i64 x) (by rw [List.getElem?_map, hx]; rfl)⟩
theorem SlT.open {w : World} {v : Value} {l : List (List UInt8)} (h : SlT w v l) : ∃ a cap, v = .slice a l.length cap /\ ∀ (j : Nat) x, l[j]? = some x -> ∃ b off, a = some ⟨b, off, none⟩ /\ w.cell? ⟨b, off + j, none⟩ = some (.string (str x)) := by
 obtain ⟨a, cap, e, hc⟩ := h;rw [List.length_map] at e;exact ⟨a, cap, e, fun j x hx => hc j (sv x) (by rw [List.getElem?_map, hx]; rfl)⟩
def EvIs (w : World) (cs : List Value) (e : Ev) : Prop := ∃ v, cs = [.int .i64 e.pos, v] /\ SlN w v e.vars
def EvsIs (w : World) (v : Value) (l : List Ev) : Prop := SlOf w 2 (EvIs w) v l
def ItIs (w : World) (cs : List Value) (x : It) : Prop := ∃ v, cs = [.string (str x.stream), .int .i64 x.st.pos, .int .i64 x.st.ver, v] /\ SlN w v x.st.vars
def ItsIs (w : World) (v : Value) (l : List It) : Prop := SlOf w 4 (ItIs w) v l
def VdIs (cs : List Value) (x : Vd) : Prop := cs = [.int .i64 x.seq, .int .i64 x.code]
def VdsIs (w : World) (v : Value) (l : List Vd) : Prop := SlOf w 2 VdIs v l
theorem EvIs.below {w w' : World} {cs : List Value} {e : Ev} (h : EvIs w cs e) (hb : Below w.heap.size w w') : EvIs w' cs e := by
 obtain ⟨v, rfl, h⟩ := h; exact ⟨v, rfl, h.below hb⟩
theorem EvsIs.below {w w' : World} {v : Value} {l : List Ev} (h : EvsIs w v l) (hb : Below w.heap.size w w') : EvsIs w' v l := SlOf.below h hb fun _ _ q => q.below hb
theorem ItIs.below {w w' : World} {cs : List Value} {x : It} (h : ItIs w cs x) (hb : Below w.heap.size w w') : ItIs w' cs x := by
 obtain ⟨v, rfl, h⟩ := h; exact ⟨v, rfl, h.below hb⟩
theorem ItsIs.below {w w' : World} {v : Value} {l : List It} (h : ItsIs w v l) (hb : Below w.heap.size w w') : ItsIs w' v l := SlOf.below h hb fun _ _ q => q.below hb
theorem VdsIs.below {w w' : World} {v : Value} {l : List Vd} (h : VdsIs w v l) (hb : Below w.heap.size w w') : VdsIs w' v l := SlOf.below h hb fun _ _ q => q
structure Low : Prop where
 value : ∀ (n : Int) (w : World), Calls Tryz.prog 130 #[.int .i64 n] w fun e w' => e = .returned (.bool (valP n)) /\ w = w'
 stream : ∀ (s : List UInt8) (w : World), s.length <= 9223372036854775807 -> Calls Tryz.prog 72 #[.string (str s)] w fun e w' => e = .returned (.bool (streamP s)) /\ Below w.heap.size w w'
 less : ∀ (a b : List UInt8) (w : World), a.length <= 9223372036854775806 -> b.length <= 9223372036854775806 -> Calls Tryz.prog 75 #[.string (str a), .string (str b)] w fun e w' => e = .returned (.bool (lessL a b)) /\ Below w.heap.size w w'
 right : ∀ (l : List (List UInt8)) (v : Value) (w : World), SlT w v l -> (∀ x ∈ l, x.length <= 9223372036854775807) -> Calls Tryz.prog 22 #[v] w fun e w' => e = .returned (.bool (filtP l)) /\ Below w.heap.size w w'
 number : ∀ (n : Int) (w : World), I64 n -> Calls Tryz.prog 30 #[.int .i64 n] w fun e w' => e = .returned (.string (str (num n))) /\ Below w.heap.size w w'
 ints : ∀ (v v' : Value) (xs : List Int) (w : World), xs.length <= 4611686018427387904 -> SlN w v xs -> SlN w v' xs -> Calls Tryz.prog 149 #[v, v'] w fun e w' => e = .returned (.bool true) /\ Below w.heap.size w w'
 same : ∀ (v v' : Value) (xs : List (List UInt8)) (w : World), xs.length <= 4611686018427387904 -> SlT w v xs -> SlT w v' xs -> Calls Tryz.prog 38 #[v, v'] w fun e w' => e = .returned (.bool true) /\ Below w.heap.size w w'
end Go.Proofs.YtaidhoepnefcpaaGreat.C10
namespace Go.Proofs.YtaidhoepnefcpaaGreat.V
open Go
def num (n : Int) : List UInt8 := Lib.uvarint (Lib.zigzag n)
theorem zi (n : Int) (h0 : -9223372036854775808 <= n) (h1 : n <= 9223372036854775807) : (num n).length <= 10 := Lib.uvarint_length64 (Lib.zigzag_lt h0 h1)
def str (l : List UInt8) : ByteArray := ⟨l.toArray⟩
theorem zn (l : List UInt8) : (str l).size = l.length := by simp [str, ByteArray.size]
theorem qA (l : List UInt8) : (str l).data.toList = l := by simp [str]
theorem str_eq (s : ByteArray) : str s.data.toList = s := by obtain ⟨⟨l⟩⟩ := s; rfl
theorem zL (l : List UInt8) : (str l).toList = l := by rw [Lib.toList_data]; exact qA l
theorem yS (a b : List UInt8) : str a ++ str b = str (a ++ b) := by unfold str; exact ByteArray.mk_append_mk a b
end Go.Proofs.YtaidhoepnefcpaaGreat.V
