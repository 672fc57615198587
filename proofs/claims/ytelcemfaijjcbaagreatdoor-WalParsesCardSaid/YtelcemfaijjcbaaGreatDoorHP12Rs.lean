/-
  'append(b, s...)' of a text behind bytes whose row bears a mark past its end (what '[]byte(s)' lays), or none.
  Small facts for every layer: texts by their bytes, rows of bytes that a call owns, cells behind a call. No program of the project is named here, but its numbers for []uint8, uint8 and string.
  A slice that reads as a list of values of one cell each.
  Layer 12, plainly: a disk and what its calls do to it.
  Layer 12: a disk of the document's answer in memory.
  Layer 12, the document's answers: which names may be, a file's place, how many bytes there are, does the disk go down.
  Layer 12, the document's answers: which names may be.
  Layer 12, the document's answers: a file is there no more.
-/
import Derived.Lib.FrozenHead
import Derived.Laws.IdiomStrings
import Derived.Lib.UnsafeStr
import Derived.Lib.BufferRead
import Derived.WalkKit
import Derived.Test.YtelcemfaijjcbaaGreatDoorProg
import Derived.WalkSpells
import Derived.WalkLawsBesides
import Derived.Lib.Hide
import Derived.Laws.Concat
import Derived.Lib.Strings
import Derived.Lib.VarintMem
import Derived.RegionCalls
import Derived.Deep.RegionWith
import Derived.Lib.Buffer
import Derived.Test.YtelcemfaijjcbaaGreatDoorHP8Math
import Derived.BigQuiet
import Derived.Laws.AppendOwn
namespace Go.Proofs.YtelcemfaijjcbaaGreatDoor.K
open Go Go.RowKit Go.Lib

/-- No cell of a row of n cells lies in the range. -/
def Clear (fz : Nat × Nat) (n : Nat) : Prop := ∀ k, k < n → ¬ (fz.1 ≤ k ∧ k < fz.2)

theorem clear_none (n : Nat) : Clear (0, 0) n := fun k _ h => by simp at h
theorem clear_mark (n : Nat) : Clear (n, n + 1) n := fun k hk h => by simp at h; omega

/-- The slice v of n bytes owns the cells xs; of its row's cells none is frozen. -/
def OwnsG (w : World) (base : Nat) (e : TypeId) (v : Value) (n : Nat) (xs : List Value) : Prop :=
  xs.length = n ∧ ((v = .slice none 0 0 ∧ n = 0) ∨ ∃ g cap cur fz, v = .slice (some ⟨g, 0, none⟩) n cap ∧ base ≤ g ∧ w.heap[g]? = some (.cells cur e fz) ∧ Clear fz cur.size ∧ n ≤ cap ∧ cap ≤ maxLen ∧ cur.size = cap ∧ cur.toList.take n = xs)

theorem alloc_keeps (w : World) (o : Obj) (k : Nat) (h : k < w.heap.size) : (w.alloc o).heap[k]? = w.heap[k]? := Below.heap_alloc w o k h

section
variable {P : Program}

theorem storeG (g o : Nat) (t : TypeId) (fz : Nat × Nat) : ∀ (vs : List Value) (i : Nat) (cur : Array Value) (w : World), w.heap[g]? = some (.cells cur t fz) → Clear fz cur.size → o + i + vs.length ≤ cur.size → (∀ v ∈ vs, v.oneCell' = true) →
    (storeCells ⟨g, o, none⟩ vs i).run P w = .ok () (w.setRow g (cur.toList.take (o + i) ++ vs ++ cur.toList.drop (o + i + vs.length)).toArray) := by
  intro vs
  induction vs with
  | nil =>
    intro i cur w hg _ _ _
    simp only [storeCells, List.append_nil, List.length_nil, Nat.add_zero, List.take_append_drop, Array.toArray_toList]
    rw [setRow_self w g cur t fz hg]
    rfl
  | cons v rest ih =>
    intro i cur w hg hfz hl h1
    have hi : o + i < cur.size := by simp at hl; omega
    have hadd : (⟨g, o, none⟩ : Addr).add i = ⟨g, o + i, none⟩ := by unfold Addr.add; split <;> simp_all
    have hcell : w.cell? ⟨g, o + i, none⟩ = some cur[o + i] := by simp [World.cell?, hg, hi]
    have hfro : w.frozen? ⟨g, o + i, none⟩ = false := by
      have := hfz (o + i) hi
      simp only [World.frozen?, hg, Bool.and_eq_false_iff, decide_eq_false_iff_not]
      by_cases h : fz.1 ≤ o + i
      · right; omega
      · left; exact h
    have hst : (store ((⟨g, o, none⟩ : Addr).add i) v).run P w = .ok () (w.setRow g (cur.setIfInBounds (o + i) v)) := by
      rw [hadd, run_store P w _ v _ (h1 v (by simp)), hcell]
      simp [hfro, setCell_eq_setRow w g (o + i) cur t fz v hg]
    have := ih (i + 1) (cur.setIfInBounds (o + i) v) (w.setRow g (cur.setIfInBounds (o + i) v)) (setRow_heap w g cur _ t _ hg) (by simpa using hfz) (by simp at hl ⊢; omega) (fun x hx => h1 x (by simp [hx]))
    simp only [storeCells, Sem.run_bind, hst, Result.andThen_ok, this, setRow_setRow]
    congr 3
    have e := list_seg_step cur.toList (o + i) v rest (by simp at hl ⊢; omega)
    simpa [Array.toList_setIfInBounds, Nat.add_assoc] using e

theorem appendG (w : World) (base : Nat) (t u ty e : TypeId) (i : TypeInfo) (ht : P.underlying t = some (.slice e)) (hu : P.underlying u = some .string) (hi : P.info? e = some i) (hz : i.zero = some (.int .u8 0))
    (hsize : i.size = 1) (hby : i.bytes = 1) (v : Value) (n : Nat) (xs : List Value) (hown : OwnsG w base e v n xs) (s : ByteArray) (h63 : n + s.size ≤ maxLen) (hbytes : n + s.size ≤ 140737488355328) (hbase : base ≤ w.heap.size) :
    ∃ v' w', (Builtin.append_ #[t, u] ty #[v, .string s]).run P w = .ok v' w' ∧ OwnsG w' base e v' (n + s.size) (xs ++ strCells s) ∧ w.grownBy w' v.ownBlock := by
  obtain ⟨hxl, hown⟩ := hown
  have hlen : (xs ++ strCells s).length = n + s.size := by rw [List.length_append, hxl, strCells_length]
  rcases hown with ⟨rfl, rfl⟩ | ⟨g, cap, cur, fz, rfl, hbg, hg, hfz, hnc, hcm, hcs, htake⟩
  · obtain ⟨v', w', h1, h2, h3, _⟩ := run_append_own_string (P := P) w base t u ty e i ht hu hi hz hsize hby (.slice none 0 0) 0 xs ⟨by simpa using hxl, .inl ⟨rfl, rfl⟩⟩ s h63 hbytes hbase
    refine ⟨v', w', h1, ⟨hlen, ?_⟩, h3⟩
    rcases h2.2 with h | ⟨g, cap, cur, hv, hb, hg, hn, hc, hs, htk⟩
    · exact .inl h
    · exact .inr ⟨g, cap, cur, (0, 0), hv, hb, hg, clear_none _, hn, hc, by simpa using hs, by simpa using htk⟩
  · by_cases hroom : n + s.size ≤ cap
    · have hf := run_firstCells_string (P := P) w 1 s
      have hst := storeG (P := P) g n e fz (strCells s) 0 cur w hg hfz (by rw [strCells_length]; omega) (strCells_oneCell s)
      simp only [Nat.add_zero, strCells_length] at hst
      have hr : (Builtin.append_ #[t, u] ty #[.slice (some ⟨g, 0, none⟩) n cap, .string s]).run P w = .ok (.slice (some ⟨g, 0, none⟩) (n + s.size) cap) (w.setRow g (cur.toList.take n ++ strCells s ++ cur.toList.drop (n + s.size)).toArray) := by
        simp [Builtin.append_, run_underlying ht, run_underlying hu, sizeOf, typeInfo, hi, hsize, Builtin.lenOf, hroom, hf, Addr.add_lit, hst]
      have hnew : (cur.toList.take n ++ strCells s ++ cur.toList.drop (n + s.size)).toArray.size = cur.size := by
        simp only [List.size_toArray, List.length_append, List.length_take, List.length_drop, Array.length_toList, strCells_length]
        omega
      refine ⟨_, _, hr, ⟨hlen, .inr ⟨g, cap, _, fz, rfl, hbg, setRow_heap w g cur _ e _ hg, by rw [hnew]; exact hfz, hroom, hcm, by rw [hnew]; exact hcs, ?_⟩⟩, ⟨rfl, rfl, rfl, by simp, fun k _ hk => setRow_other w g k _ (fun e => hk (by simp [Value.ownBlock, e]))⟩⟩
      rw [htake, ← hlen]
      exact List.take_left
    · have holds : ∀ j u, xs[j]? = some u → w.cell? ((⟨g, 0, none⟩ : Addr).add j) = some u := fun j u hj => Lib.cells_of_row hg n j u (by rw [htake]; exact hj)
      have hr := run_append_grow_string (P := P) w t u ty e i (.int .u8 0) ht hu hi hz ⟨g, 0, none⟩ n cap xs (by rw [hsize, Nat.mul_one]; exact hxl) holds s (by unfold maxLen at h63; omega) (by omega) (by rw [hby]; exact growslice_fits (by omega) (by omega))
      have hge := grownCap_ge w (n + s.size) cap e
      have hcm2 : grownCap w (n + s.size) cap e ≤ maxLen := grownCap_le_maxLen w (n + s.size) cap e h63
      refine ⟨_, _, hr, ⟨hlen, .inr ⟨w.heap.size, _, _, (0, 0), rfl, hbase, heap_alloc_new w.drew _, clear_none _, hge, hcm2, ?_, ?_⟩⟩, ⟨rfl, rfl, rfl, by simp, fun k hk _ => alloc_keeps w.drew _ k hk⟩⟩
      · have hz1 : (Value.int IntKind.u8 0).cells.size = 1 := rfl
        simp only [Array.size_append, List.size_toArray, size_zeroCells, hz1, hxl, strCells_length]
        omega
      · simp only [Array.toList_append, List.append_assoc]
        rw [← List.append_assoc, ← hlen]
        exact List.take_left

/-- For the walk. -/
theorem wpList_appendG (w : World) {ops : Array Oper} {rest : List Oper} {o : Oper} {a : Act} {Q : Exit → Act → World → Prop} (hgd : o.guard = none) (sl x : Operand) (t u : TypeId)
    (ho : o.op = .call { callee := .builtin .append, args := #[sl, x], argTypes := #[t, u] })
    (base : Nat) (e : TypeId) (i : TypeInfo) (ht : P.underlying t = some (.slice e)) (hu : P.underlying u = some .string) (hi : P.info? e = some i) (hz : i.zero = some (.int .u8 0))
    (hsize : i.size = 1) (hby : i.bytes = 1) (v : Value) (n : Nat) (xs : List Value) (hs : a.eval sl = v) (hown : OwnsG w base e v n xs) (s : ByteArray) (hx : a.eval x = .string s)
    (h63 : n + s.size ≤ maxLen) (hbytes : n + s.size ≤ 140737488355328) (hbase : base ≤ w.heap.size)
    (h : ∀ v' w', OwnsG w' base e v' (n + s.size) (xs ++ strCells s) → w.grownBy w' v.ownBlock → wpList P ops Q rest (a.put o.dst v') w') : wpList P ops Q (o :: rest) a w := by
  refine wpList_plain hgd fun K hK => ?_
  obtain ⟨v', w', hr, h2, h3⟩ := appendG (P := P) w base t u o.type e i ht hu hi hz hsize hby v n xs hown s h63 hbytes hbase
  unfold Oper.wp execOp
  simp only [ho, resolve, invoke, builtin, Sem.run_bind, Sem.run_pure, Result.andThen_ok, List.map_toArray, List.map_cons, List.map_nil, hs, hx, hr]
  exact hK _ _ (h v' w' h2 h3)

/-- 'append(b, x, y..)' of numbers behind such a row. -/
theorem appendGs (w : World) (base : Nat) (t ty e : TypeId) (i : TypeInfo) (ht : P.underlying t = some (.slice e)) (hi : P.info? e = some i) (hz : i.zero = some (.int .u8 0))
    (hsize : i.size = 1) (hby : i.bytes = 1) (v : Value) (n : Nat) (xs : List Value) (hown : OwnsG w base e v n xs) (a : Addr) (m c : Nat) (news : List Value) (hl : news.length = m)
    (hnews : ∀ j u, news[j]? = some u → w.cell? (a.add j) = some u) (h1 : ∀ u ∈ news, u.oneCell' = true) (h63 : n + m ≤ maxLen) (hbytes : n + m ≤ 140737488355328) (hbase : base ≤ w.heap.size) :
    ∃ v' w', (Builtin.append_ #[t, t] ty #[v, .slice (some a) m c]).run P w = .ok v' w' ∧ OwnsG w' base e v' (n + m) (xs ++ news) ∧ w.grownBy w' v.ownBlock := by
  obtain ⟨hxl, hown⟩ := hown
  have hlen : (xs ++ news).length = n + m := by rw [List.length_append, hxl, hl]
  rcases hown with ⟨rfl, rfl⟩ | ⟨g, cap, cur, fz, rfl, hbg, hg, hfz, hnc, hcm, hcs, htake⟩
  · obtain ⟨v', w', h1', h2, h3, _⟩ := run_append_own (P := P) w base t ty e i (.int .u8 0) 1 1 ht hi hz hsize hby rfl (by decide) (.slice none 0 0) 0 xs ⟨by simpa using hxl, .inl ⟨rfl, rfl⟩⟩ a m c news (by rw [hl, Nat.mul_one]) hnews h1 h63 (by rw [Nat.mul_one]; exact hbytes) hbase
    refine ⟨v', w', h1', ⟨hlen, ?_⟩, h3⟩
    rcases h2.2 with h | ⟨g, cap, cur, hv, hb, hg, hn, hc, hs, htk⟩
    · exact .inl h
    · exact .inr ⟨g, cap, cur, (0, 0), hv, hb, hg, clear_none _, hn, hc, by simpa using hs, by simpa using htk⟩
  · by_cases hroom : n + m ≤ cap
    · have hf := run_firstCells_some (P := P) w 1 m a m c news (by rw [hl, Nat.mul_one]) hnews
      have hst := storeG (P := P) g n e fz news 0 cur w hg hfz (by rw [hl]; omega) h1
      simp only [Nat.add_zero, hl] at hst
      have hr : (Builtin.append_ #[t, t] ty #[.slice (some ⟨g, 0, none⟩) n cap, .slice (some a) m c]).run P w = .ok (.slice (some ⟨g, 0, none⟩) (n + m) cap) (w.setRow g (cur.toList.take n ++ news ++ cur.toList.drop (n + m)).toArray) := by
        simp [Builtin.append_, run_underlying ht, sizeOf, typeInfo, hi, hsize, Builtin.lenOf, hroom, hf, Addr.add_lit, hst]
      have hnew : (cur.toList.take n ++ news ++ cur.toList.drop (n + m)).toArray.size = cur.size := by
        simp only [List.size_toArray, List.length_append, List.length_take, List.length_drop, Array.length_toList, hl]
        omega
      refine ⟨_, _, hr, ⟨hlen, .inr ⟨g, cap, _, fz, rfl, hbg, setRow_heap w g cur _ e _ hg, by rw [hnew]; exact hfz, hroom, hcm, by rw [hnew]; exact hcs, ?_⟩⟩, ⟨rfl, rfl, rfl, by simp, fun k _ hk => setRow_other w g k _ (fun e => hk (by simp [Value.ownBlock, e]))⟩⟩
      rw [htake, ← hlen]
      exact List.take_left
    · have holds : ∀ j u, xs[j]? = some u → w.cell? ((⟨g, 0, none⟩ : Addr).add j) = some u := fun j u hj => Lib.cells_of_row hg n j u (by rw [htake]; exact hj)
      have hr := run_append_grow (P := P) w t ty e i (.int .u8 0) ht hi hz ⟨g, 0, none⟩ n cap xs (by rw [hsize, Nat.mul_one]; exact hxl) holds a m c news (by rw [hsize, Nat.mul_one]; exact hl) hnews (by omega) (by unfold maxLen at h63; omega) (by rw [hby]; exact growslice_fits (by omega) (by omega))
      have hge := grownCap_ge w (n + m) cap e
      have hcm2 : grownCap w (n + m) cap e ≤ maxLen := grownCap_le_maxLen w (n + m) cap e h63
      refine ⟨_, _, hr, ⟨hlen, .inr ⟨w.heap.size, _, _, (0, 0), rfl, hbase, heap_alloc_new w.drew _, clear_none _, hge, hcm2, ?_, ?_⟩⟩, ⟨rfl, rfl, rfl, by simp, fun k hk _ => alloc_keeps w.drew _ k hk⟩⟩
      · have hz1 : (Value.int IntKind.u8 0).cells.size = 1 := rfl
        simp only [Array.size_append, List.size_toArray, size_zeroCells, hz1, hxl, hl]
        omega
      · simp only [Array.toList_append, List.append_assoc]
        rw [← List.append_assoc, ← hlen]
        exact List.take_left

theorem wpList_appendGs (w : World) {ops : Array Oper} {rest : List Oper} {o : Oper} {a : Act} {Q : Exit → Act → World → Prop} (hgd : o.guard = none) (sl x : Operand) (t : TypeId)
    (ho : o.op = .call { callee := .builtin .append, args := #[sl, x], argTypes := #[t, t] })
    (base : Nat) (e : TypeId) (i : TypeInfo) (ht : P.underlying t = some (.slice e)) (hi : P.info? e = some i) (hz : i.zero = some (.int .u8 0))
    (hsize : i.size = 1) (hby : i.bytes = 1) (v : Value) (n : Nat) (xs : List Value) (hs : a.eval sl = v) (hown : OwnsG w base e v n xs) (ad : Addr) (m c : Nat) (news : List Value) (hx : a.eval x = .slice (some ad) m c)
    (hl : news.length = m) (hnews : ∀ j u, news[j]? = some u → w.cell? (ad.add j) = some u) (h1 : ∀ u ∈ news, u.oneCell' = true)
    (h63 : n + m ≤ maxLen) (hbytes : n + m ≤ 140737488355328) (hbase : base ≤ w.heap.size)
    (h : ∀ v' w', OwnsG w' base e v' (n + m) (xs ++ news) → w.grownBy w' v.ownBlock → wpList P ops Q rest (a.put o.dst v') w') : wpList P ops Q (o :: rest) a w := by
  refine wpList_plain hgd fun K hK => ?_
  obtain ⟨v', w', hr, h2, h3⟩ := appendGs (P := P) w base t o.type e i ht hi hz hsize hby v n xs hown ad m c news hl hnews h1 h63 hbytes hbase
  unfold Oper.wp execOp
  simp only [ho, resolve, invoke, builtin, Sem.run_bind, Sem.run_pure, Result.andThen_ok, List.map_toArray, List.map_cons, List.map_nil, hs, hx, hr]
  exact hK _ _ (h v' w' h2 h3)

theorem OwnsG.block {w : World} {base : Nat} {e : TypeId} {v : Value} {n : Nat} {xs : List Value} (h : OwnsG w base e v n xs) : ∀ k, v.ownBlock = some k → base ≤ k := by
  intro k hk
  rcases h.2 with ⟨rfl, _⟩ | ⟨g, cap, cur, fz, rfl, hg, _⟩
  · cases hk
  · simp only [Value.ownBlock, Option.some.injEq] at hk
    omega

/-- A row of at least one cell: its cells read, none is frozen, and each may be set. -/
theorem OwnsG.opened {w : World} {base : Nat} {e : TypeId} {v : Value} {n : Nat} {xs : List Value} (h : OwnsG w base e v n xs) (hn : 0 < n) :
    ∃ g cap, v = .slice (some ⟨g, 0, none⟩) n cap ∧ base ≤ g ∧ g < w.heap.size ∧ (∀ j u, xs[j]? = some u → w.cell? ⟨g, j, none⟩ = some u ∧ w.frozen? ⟨g, j, none⟩ = false) ∧
      ∀ j u, j < n → OwnsG (w.setCell ⟨g, j, none⟩ u) base e v n (xs.set j u) := by
  rcases h.2 with ⟨_, rfl⟩ | ⟨g, cap, cur, fz, rfl, hbg, hg, hfz, hnc, hcm, hcs, htake⟩
  · omega
  · refine ⟨g, cap, rfl, hbg, (Array.getElem?_eq_some_iff.1 hg).1, fun j u hj => ?_, fun j u hj => ?_⟩
    · have hjn : j < n := by
        have := (List.getElem?_eq_some_iff.1 hj).1
        rw [h.1] at this
        exact this
      have hju := hj
      rw [← htake, List.getElem?_take_of_lt hjn, Array.getElem?_toList] at hju
      refine ⟨by simp [World.cell?, hg, hju], ?_⟩
      have := hfz j (by omega)
      simp only [World.frozen?, hg, Bool.and_eq_false_iff, decide_eq_false_iff_not]
      by_cases hx : fz.1 ≤ j
      · right; omega
      · left; exact hx
    · refine ⟨by rw [List.length_set]; exact h.1, .inr ⟨g, cap, cur.setIfInBounds j u, fz, rfl, hbg, ?_, by simpa using hfz, hnc, hcm, by simpa using hcs, ?_⟩⟩
      · rw [setCell_eq_setRow w g j cur e fz u hg]
        exact setRow_heap w g cur _ e _ hg
      · rw [Array.toList_setIfInBounds, List.take_set, htake]

/-- What '[]byte(s)' lays is owned. -/
theorem owns_bytes (w : World) (e : TypeId) (s : ByteArray) (hs : s.size ≤ maxLen) :
    OwnsG (w.drew.alloc (.cells (bytesRow s (grownCap w s.size 0 e)) e ((bytesRow s (grownCap w s.size 0 e)).size, (bytesRow s (grownCap w s.size 0 e)).size + 1))) w.heap.size e
      (.slice (some ⟨w.heap.size, 0, none⟩) s.size (grownCap w s.size 0 e)) s.size (strCells s) := by
  have hge := grownCap_ge w s.size 0 e
  refine ⟨strCells_length s, .inr ⟨w.heap.size, _, _, _, rfl, Nat.le_refl _, heap_alloc_new w.drew _, clear_mark _, hge, grownCap_le_maxLen w s.size 0 e hs, ?_, ?_⟩⟩
  · have h1 : s.data.size = s.size := rfl
    simp only [bytesRow, Array.size_append, Array.size_map, Array.size_replicate, h1]
    omega
  · have hl : (strCells s).length = s.size := strCells_length s
    have : (bytesRow s (grownCap w s.size 0 e)).toList = strCells s ++ List.replicate (grownCap w s.size 0 e - s.size) (.int .u8 0) := by simp [bytesRow, strCells]
    rw [this, ← hl, List.take_left]

theorem OwnsG.mono {w : World} {base base' : Nat} {e : TypeId} {v : Value} {n : Nat} {xs : List Value} (h : OwnsG w base e v n xs) (hb : base' ≤ base) : OwnsG w base' e v n xs := by
  refine ⟨h.1, ?_⟩
  rcases h.2 with h | ⟨g, cap, cur, fz, hv, hg, r⟩
  · exact .inl h
  · exact .inr ⟨g, cap, cur, fz, hv, Nat.le_trans hb hg, r⟩

theorem OwnsG.below {w w' : World} {base : Nat} {e : TypeId} {v : Value} {n : Nat} {xs : List Value} (h : OwnsG w base e v n xs) (hb : Below w.heap.size w w') : OwnsG w' base e v n xs := by
  refine ⟨h.1, ?_⟩
  rcases h.2 with h | ⟨g, cap, cur, fz, hv, hg, hh, r⟩
  · exact .inl h
  · exact .inr ⟨g, cap, cur, fz, hv, hg, (hb.block g (Array.getElem?_eq_some_iff.1 hh).1).trans hh, r⟩

/-- '[]byte(s)'. -/
theorem conv_bytes (w : World) (src dst e : TypeId) (s : ByteArray) (hs : P.underlying src = some .string) (hd : P.underlying dst = some (.slice e)) (he : P.underlying e = some (.int .u8)) (hm : s.size ≤ maxLen) :
    ∃ v w', (convert src dst (.string s)).run P w = .ok v w' ∧ OwnsG w' w.heap.size e v s.size (strCells s) ∧ Below w.heap.size w w' :=
  ⟨_, _, run_bytes_of_string w src dst e s hs hd he, owns_bytes w e s hm, (Below.refl _ _).drew.alloc (Nat.le_refl _) _⟩

/-- 'string(b)' of such a row. -/
theorem run_strG {w : World} {base : Nat} {src dst e : TypeId} {v : Value} {n : Nat} {l : List UInt8} (hs : P.underlying src = some (.slice e)) (he : P.underlying e = some (.int .u8)) (hd : P.underlying dst = some .string)
    (h : OwnsG w base e v n (Lib.byteCells l)) : (convert src dst v).run P w = .ok (.string ⟨l.toArray⟩) w := by
  have hl : l.length = n := by have := h.1; rwa [Lib.byteCells_length] at this
  subst hl
  rcases h.2 with ⟨rfl, h0⟩ | ⟨g, cap, cur, fz, rfl, hg, hh, _, _, _, _, htk⟩
  · rw [List.length_eq_zero_iff] at h0
    subst h0
    exact Lib.run_convert_nil_bytes w src dst e 0 hs he hd
  · exact run_convert_bytes_back w src dst e ⟨g, 0, none⟩ cap l hs he hd (Lib.bytes_of_row hh htk)

end
end Go.Proofs.YtelcemfaijjcbaaGreatDoor.K

namespace Go.Proofs.YtelcemfaijjcbaaGreatDoor.B
open Go Go.RowKit

/-- A string that is given by its bytes. -/
def str (l : List UInt8) : ByteArray := ⟨l.toArray⟩
theorem str_size (l : List UInt8) : (str l).size = l.length := by simp [str, ByteArray.size]
theorem str_data (l : List UInt8) : (str l).data.toList = l := by simp [str]
theorem str_eq (s : ByteArray) : str s.data.toList = s := by obtain ⟨⟨l⟩⟩ := s; rfl
theorem str_toList (l : List UInt8) : (str l).toList = l := by rw [Lib.toList_data]; exact str_data l
theorem str_append (a b : List UInt8) : str a ++ str b = str (a ++ b) := by unfold str; exact ByteArray.mk_append_mk a b
theorem str_inj {a b : List UInt8} (h : str a = str b) : a = b := by rw [← str_data a, h, str_data]

/-- A text as a value. -/
def sv (l : List UInt8) : Value := .string (str l)

theorem ret_int {k : IntKind} {a b : Int} (h : a = b) : Ending.returned (.int k a) = .returned (.int k b) := by rw [h]
theorem ret_str {a b : ByteArray} (h : a = b) : Ending.returned (.string a) = .returned (.string b) := by rw [h]
theorem ret_bool {a b : Bool} (h : a = b) : Ending.returned (.bool a) = .returned (.bool b) := by rw [h]

/-- Behind a call that leaves all below alone: cells and marks below read as before. -/
theorem bcell {B : Nat} {W w1 : World} (hb : Below B W w1) : (∀ b o, b < B → w1.cell? ⟨b, o, none⟩ = W.cell? ⟨b, o, none⟩) ∧ (∀ b o, b < B → w1.frozen? ⟨b, o, none⟩ = W.frozen? ⟨b, o, none⟩) :=
  ⟨fun b o h => hb.cell (p := ⟨b, o, none⟩) h, fun b o h => hb.frozen (p := ⟨b, o, none⟩) h⟩

theorem heap_alloc_at (w : World) (o : Obj) : (w.alloc o).heap[w.heap.size]? = some o := by
  show (w.heap.push o)[w.heap.size]? = some o
  simp

/-- A row that starts as the one just made, with nothing in it. -/
theorem owns_made (w : World) (e : TypeId) (z : Value) (c : Nat) (hc : c ≤ maxLen) : (w.alloc (.cells (Array.replicate c z) e)).ownsRow w.heap.size e 1 (.slice (some ⟨w.heap.size, 0, none⟩) 0 c) 0 [] :=
  ⟨rfl, Or.inr ⟨w.heap.size, c, Array.replicate c z, rfl, Nat.le_refl _, heap_alloc_at _ _, by omega, hc, by simp, by simp⟩⟩

theorem owns_block {w : World} {base : Nat} {e : TypeId} {size : Nat} {v : Value} {n : Nat} {xs : List Value} (h : w.ownsRow base e size v n xs) : ∀ k, v.ownBlock = some k → base ≤ k := by
  intro k hk
  rcases h.2 with ⟨rfl, _⟩ | ⟨g, cap, cur, rfl, hg, _⟩
  · cases hk
  · simp only [Value.ownBlock, Option.some.injEq] at hk
    omega

theorem one_new (w : World) (v : Value) (e : TypeId) : ∀ (j : Nat) (u : Value), [v][j]? = some u → (w.alloc (.cells #[v] e)).cell? ((⟨w.heap.size, 0, none⟩ : Addr).add j) = some u := by
  intro j u hj
  match j, hj with
  | 0, hj => simp at hj; subst hj; simp [Addr.add]
theorem one_cell (k : IntKind) (n : Int) : ∀ u ∈ [Value.int k n], u.oneCell' = true := by intro u hu; simp at hu; subst hu; rfl

theorem Tryz.info5 : (Tryz.prog.info? 5).map (fun i => (i.zero, i.size, i.bytes)) = some (some (.int .u8 0), 1, 1) := by kernel_rfl

/-- A byte of a text. -/
theorem byte_at (l : List UInt8) (k : Nat) (h : k < l.length) : ∃ (hk : k < (str l).size), ((str l)[k]'hk).toNat = (l[k]'h).toNat :=
  ⟨by rw [str_size]; exact h, by show ((str l).data[k]'_).toNat = _; simp only [str, List.getElem_toArray]⟩

theorem strCells_str (l : List UInt8) : Lib.strCells (str l) = Lib.byteCells l := by simp [Lib.strCells, str, Lib.byteCells]

/-- A piece of a text. -/
theorem str_extract (l : List UInt8) (a b : Nat) : (str l).extract a b = str ((l.drop a).take (b - a)) := by
  unfold str
  rw [Lib.extract_eq]
theorem str_take (l : List UInt8) (b : Nat) : (str l).extract 0 b = str (l.take b) := by
  rw [str_extract, List.drop_zero, Nat.sub_zero]
theorem str_ne {a b : List UInt8} (h : a ≠ b) : ((str a).toList == (str b).toList) = false := by
  rw [str_toList, str_toList]; exact beq_eq_false_iff_ne.2 h
end Go.Proofs.YtelcemfaijjcbaaGreatDoor.B

namespace Go.Proofs.YtelcemfaijjcbaaGreatDoor.K
open Go Go.RowKit

/-- The slice value v reads, in the world w, as the values xs. -/
def Sl (w : World) (v : Value) (xs : List Value) : Prop :=
  ∃ a cap, v = .slice a xs.length cap ∧ ∀ j u, xs[j]? = some u → ∃ b off, a = some ⟨b, off, none⟩ ∧ w.cell? ⟨b, off + j, none⟩ = some u

theorem Sl.nil (w : World) : Sl w (.slice none 0 0) [] := ⟨none, 0, rfl, fun j u h => by simp at h⟩

theorem Sl.below {w w' : World} {v : Value} {xs : List Value} (h : Sl w v xs) (hb : Below w.heap.size w w') : Sl w' v xs := by
  obtain ⟨a, cap, rfl, hc⟩ := h
  refine ⟨a, cap, rfl, fun j u hj => ?_⟩
  obtain ⟨b, off, ha, hcell⟩ := hc j u hj
  exact ⟨b, off, ha, (hb.cell (p := ⟨b, off + j, none⟩) (World.block_lt_of_cell? w _ hcell)).trans hcell⟩

theorem Sl.row {w : World} {g cap : Nat} {cur : Array Value} {T : TypeId} {fr : Nat × Nat} {xs : List Value} (hg : w.heap[g]? = some (.cells cur T fr)) (ht : cur.toList.take xs.length = xs) :
    Sl w (.slice (some ⟨g, 0, none⟩) xs.length cap) xs := by
  refine ⟨_, cap, rfl, fun j u hj => ⟨g, 0, rfl, ?_⟩⟩
  have := Lib.cells_of_row hg xs.length j u (by rw [ht]; exact hj)
  rw [Lib.addr_add] at this
  exact this

theorem Sl.owns {w : World} {base : Nat} {e : TypeId} {v : Value} {n : Nat} {xs : List Value} (h : w.ownsRow base e 1 v n xs) : Sl w v xs := by
  obtain ⟨hl, h⟩ := h
  rw [Nat.mul_one] at hl
  rcases h with ⟨rfl, h0⟩ | ⟨g, cap, cur, rfl, _, hg, _, _, _, ht⟩
  · have : xs = [] := List.eq_nil_of_length_eq_zero (by omega)
    subst this
    exact Sl.nil w
  · rw [← hl]
    exact Sl.row hg (by rw [hl]; simpa using ht)

/-- A cell of a row of which nothing is frozen. -/
theorem row_cell {w : World} {g k : Nat} {cur : Array Value} {T : TypeId} (hg : w.heap[g]? = some (.cells cur T (0, 0))) (hk : k < cur.size) :
    ∃ old, w.cell? ⟨g, k, none⟩ = some old ∧ w.frozen? ⟨g, k, none⟩ = false :=
  ⟨cur[k], by simp [World.cell?, hg, hk], by simp [World.frozen?, hg]⟩

/-- One store more at the end of what has been filled. -/
theorem row_fill {w : World} {g k : Nat} {cur : Array Value} {T : TypeId} {xs : List Value} (hg : w.heap[g]? = some (.cells cur T (0, 0))) (hk : k < cur.size) (ht : cur.toList.take k = xs) (u : Value) :
    ∃ cur' : Array Value, (w.setCell ⟨g, k, none⟩ u).heap[g]? = some (.cells cur' T (0, 0)) ∧ cur'.size = cur.size ∧ cur'.toList.take (k + 1) = xs ++ [u] := by
  refine ⟨cur.setIfInBounds k u, heap_setCell_same w g k cur T u hg, by simp, ?_⟩
  rw [Array.toList_setIfInBounds, List.take_add_one]
  have h1 : (cur.toList.set k u).take k = xs := by rw [List.take_set_of_le (Nat.le_refl _)]; exact ht
  have h2 : (cur.toList.set k u)[k]? = some u := by simp [hk]
  rw [h1, h2]
  rfl

end Go.Proofs.YtelcemfaijjcbaaGreatDoor.K

namespace Go.Proofs.YtelcemfaijjcbaaGreatDoor.C12
open Go Go.RowKit Go.Proofs Go.Proofs.YtelcemfaijjcbaaGreatDoor.B Go.Proofs.YtelcemfaijjcbaaGreatDoor.K Go.Proofs.YtelcemfaijjcbaaGreatDoor.P8
set_option linter.unusedVariables false

structure Fl where
  name : List UInt8
  safe : List UInt8
  more : List UInt8
structure Dst where
  room : Int
  files : List Fl
  armed : Int
  down : Bool

def nameB (b : UInt8) : Bool := (decide (97 ≤ b.toNat) && decide (b.toNat ≤ 122)) || ((decide (48 ≤ b.toNat) && decide (b.toNat ≤ 57)) || (decide (b.toNat = 46) || (decide (b.toNat = 45) || decide (b.toNat = 95))))
def nameOk (s : List UInt8) : Bool := s.all nameB && (decide (1 ≤ s.length) && decide (s.length ≤ 24))
/-- The place of a name; below 0: there is none. -/
def placeGo (s : List UInt8) : List Fl → Nat → Int
  | [], _ => -1
  | y :: l, k => if y.name = s then (k : Int) else placeGo s l (k + 1)
def place (l : List Fl) (s : List UInt8) : Int := placeGo s l 0
def findF (l : List Fl) (s : List UInt8) : Option Fl := l.find? fun y => decide (y.name = s)
def usedF (l : List Fl) : Nat := (l.map fun y => y.safe.length + y.more.length).sum
/-- A file in its place. -/
def setGo (f : Fl) : List Fl → Bool → List Fl
  | [], done => if done then [] else [f]
  | y :: l, done => (if !done && !lessL y.name f.name then [f] else []) ++ ((if y.name = f.name then [] else [y]) ++ setGo f l (done || !lessL y.name f.name))
def setF (l : List Fl) (f : Fl) : List Fl := setGo f l false
def dropF (l : List Fl) (s : List UInt8) : List Fl := l.filter fun y => !decide (y.name = s)
/-- Does the disk go down at this write? -/
def goesD (D : Dst) : Dst × Bool := if D.armed = 0 then (D, false) else ({ D with armed := D.armed - 1, down := decide (D.armed - 1 = 0) }, decide (D.armed - 1 = 0))
def putF (D : Dst) (f : Fl) : Dst := { D with files := setF D.files f }
def appendD (D : Dst) (s t : List UInt8) : Dst × Int :=
  if D.down then (D, 11) else if nameOk s = false then (D, 2) else
  if ((findF D.files s = none) ∧ 128 ≤ D.files.length) ∨ (65536 - (((findF D.files s).getD ⟨s, [], []⟩).safe.length : Int) - (((findF D.files s).getD ⟨s, [], []⟩).more.length : Int) < (t.length : Int)) ∨ (D.room - (usedF D.files : Int) < (t.length : Int)) then (D, 10)
  else ((goesD (putF D { ((findF D.files s).getD ⟨s, [], []⟩) with more := ((findF D.files s).getD ⟨s, [], []⟩).more ++ t })).1, if (goesD (putF D { ((findF D.files s).getD ⟨s, [], []⟩) with more := ((findF D.files s).getD ⟨s, [], []⟩).more ++ t })).2 then 11 else 0)
/-- A write of a file that there is. -/
def someD (D : Dst) (s : List UInt8) (write : Fl → Dst × Int) : Dst × Int :=
  if D.down then (D, 11) else match findF D.files s with | none => (D, 8) | some f => write f
def goD (D : Dst) (then_ : Dst → Dst) : Dst × Int := if (goesD D).2 then ((goesD D).1, 11) else (then_ (goesD D).1, 0)
def syncD (D : Dst) (s : List UInt8) : Dst × Int := someD D s fun f => goD D fun E => putF E ⟨s, f.safe ++ f.more, []⟩
def truncD (D : Dst) (s : List UInt8) (n : Int) : Dst × Int := someD D s fun f =>
  if n < 0 ∨ (f.safe.length : Int) + (f.more.length : Int) < n then (D, 3) else
  goD D fun E => if n ≤ (f.safe.length : Int) then putF E ⟨s, f.safe.take n.toNat, []⟩ else putF E ⟨s, f.safe, f.more.take (n.toNat - f.safe.length)⟩
def renameD (D : Dst) (s t : List UInt8) : Dst × Int :=
  if D.down then (D, 11) else if nameOk s = false ∨ nameOk t = false then (D, 2) else someD D s fun f =>
  if f.more ≠ [] then (D, 12) else goD D fun E => putF { E with files := dropF E.files s } ⟨t, f.safe, []⟩
def removeD (D : Dst) (s : List UInt8) : Dst × Int := someD D s fun f => goD D fun E => { E with files := dropF E.files s }
def readD (D : Dst) (s : List UInt8) : List UInt8 × Int := if D.down then ([], 11) else match findF D.files s with | none => ([], 8) | some f => (f.safe ++ f.more, 0)
def armD (D : Dst) (n : Int) : Dst × Int := if D.down then (D, 11) else if n < 1 then (D, 2) else ({ D with armed := n }, 0)
def crashGo : List Fl → List Int → List Fl
  | [], _ => []
  | f :: l, keep => if f.more = [] then ⟨f.name, f.safe, []⟩ :: crashGo l keep else
    ⟨f.name, f.safe ++ f.more.take (match keep with | [] => 0 | k :: _ => if 0 < k then (k % ((f.more.length : Int) + 1)).toNat else 0), []⟩ :: crashGo l keep.tail
def crashD (D : Dst) (keep : List Int) : Dst := { D with files := crashGo D.files keep, armed := 0, down := false }
def safeD (D : Dst) (s : List UInt8) : Int := match findF D.files s with | none => 0 | some f => (f.safe.length : Int)
end Go.Proofs.YtelcemfaijjcbaaGreatDoor.C12

namespace Go.Proofs.YtelcemfaijjcbaaGreatDoor.C12
open Go Go.RowKit Go.Proofs Go.Proofs.YtelcemfaijjcbaaGreatDoor.B Go.Proofs.YtelcemfaijjcbaaGreatDoor.K Go.Proofs.YtelcemfaijjcbaaGreatDoor.P8
set_option linter.unusedVariables false
set_option maxRecDepth 100000

/-- Nothing but these blocks has turned. -/
structure Tn (S : Nat → Prop) (W W' : World) : Prop where
  os : W'.os = W.os
  tape : W'.tape = W.tape
  output : W'.output = W.output
  size : W.heap.size ≤ W'.heap.size
  block : ∀ b, b < W.heap.size → ¬ S b → W'.heap[b]? = W.heap[b]?
theorem Tn.refl (S : Nat → Prop) (W : World) : Tn S W W := ⟨rfl, rfl, rfl, Nat.le_refl _, fun _ _ _ => rfl⟩
theorem Tn.trans {S : Nat → Prop} {a b c : World} (h : Tn S a b) (k : Tn S b c) : Tn S a c :=
  ⟨k.os.trans h.os, k.tape.trans h.tape, k.output.trans h.output, Nat.le_trans h.size k.size, fun i hi hne => (k.block i (Nat.lt_of_lt_of_le hi h.size) hne).trans (h.block i hi hne)⟩
theorem Tn.of_below {S : Nat → Prop} {a b : World} (h : Below a.heap.size a b) : Tn S a b := ⟨h.os, h.tape, h.output, h.size, fun i hi _ => h.block i hi⟩
/-- One block's turn, and then another's, that was not there. -/
theorem Tn.wide {S S' : Nat → Prop} {w a b : World} (h : Tn S w a) (k : Tn S' a b) (hs : ∀ i, S' i → S i ∨ w.heap.size ≤ i) : Tn S w b :=
  ⟨k.os.trans h.os, k.tape.trans h.tape, k.output.trans h.output, Nat.le_trans h.size k.size, fun i hi hne => (k.block i (Nat.lt_of_lt_of_le hi h.size) (fun e => by rcases hs i e with h1 | h1; exact hne h1; omega)).trans (h.block i hi hne)⟩
theorem Tn.onto {S : Nat → Prop} {n : Nat} {w a b : World} (h : Below n w a) (hn : n ≤ w.heap.size) (hS : ∀ i, S i → n ≤ i) (k : Tn S a b) : Below n w b :=
  ⟨k.os.trans h.os, k.tape.trans h.tape, k.output.trans h.output, Nat.le_trans h.size k.size, fun i hi => (k.block i (Nat.lt_of_lt_of_le hi (Nat.le_trans hn h.size)) (fun e => by have := hS i e; omega)).trans (h.block i hi)⟩
/-- Nothing but an object's blocks has turned; what it has now it had, or is new. -/
structure Chg (F F' : Nat → Prop) (w w' : World) : Prop where
  turn : Tn F w w'
  new : ∀ i, F' i → F i ∨ w.heap.size ≤ i
theorem Chg.trans {F F' F'' : Nat → Prop} {a b c : World} (h : Chg F F' a b) (k : Chg F' F'' b c) : Chg F F'' a c :=
  ⟨h.turn.wide k.turn h.new, fun i hi => by
    rcases k.new i hi with h1 | h1
    · exact h.new i h1
    · exact Or.inr (Nat.le_trans h.turn.size h1)⟩
theorem Chg.of_below {F : Nat → Prop} {a b : World} (h : Below a.heap.size a b) : Chg F F a b := ⟨Tn.of_below h, fun i hi => Or.inl hi⟩
theorem Chg.below {F F' : Nat → Prop} {a b c : World} (h : Chg F F' a b) (k : Below b.heap.size b c) : Chg F F' a c := h.trans (Chg.of_below k)

theorem kept_cell {w w' : World} {g j : Nat} {u : Value} (hb : Below w.heap.size w w') (h : w.cell? ⟨g, j, none⟩ = some u) : w'.cell? ⟨g, j, none⟩ = some u :=
  (hb.cell (p := ⟨g, j, none⟩) (World.block_lt_of_cell? w _ h)).trans h
theorem below_alloc (w : World) (o : Obj) : Below w.heap.size w (w.alloc o) := (Below.refl w.heap.size w).alloc (Nat.le_refl _) _
theorem alloc_cell (w : World) (cs : List Value) (T : TypeId) (i : Nat) (c : Value) (h : cs[i]? = some c) : (w.alloc (.cells cs.toArray T)).cell? ⟨w.heap.size, i, none⟩ = some c := by
  unfold World.cell?
  simp only [heap_alloc_at]
  simpa using h
theorem row_at {w : World} {g : Nat} {cs : Array Value} {T : TypeId} (h : w.heap[g]? = some (.cells cs T (0, 0))) (i : Nat) (v : Value) (hv : cs[i]? = some v) : w.cell? ⟨g, i, none⟩ = some v ∧ w.frozen? ⟨g, i, none⟩ = false := by
  constructor
  · simp [World.cell?, h, hv]
  · simp [World.frozen?, h]

/-- The slice value v reads as files, three cells each. -/
def FlsIs (w : World) (v : Value) (l : List Fl) : Prop :=
  ∃ a cap, v = .slice a l.length cap ∧ ∀ j f, l[j]? = some f → ∃ b off, a = some ⟨b, off, none⟩ ∧ w.cell? ⟨b, off + j * 3, none⟩ = some (.string (str f.name)) ∧ w.cell? ⟨b, off + j * 3 + 1, none⟩ = some (.string (str f.safe)) ∧ w.cell? ⟨b, off + j * 3 + 2, none⟩ = some (.string (str f.more))
theorem FlsIs.nil (w : World) : FlsIs w (.slice none 0 0) [] := ⟨none, 0, rfl, fun j i h => by simp at h⟩
theorem FlsIs.open {w : World} {v : Value} {l : List Fl} (h : FlsIs w v l) : ∃ a cap, v = .slice a l.length cap ∧ ∀ j f, l[j]? = some f → ∃ b off, a = some ⟨b, off, none⟩ ∧ w.cell? ⟨b, off + j * 3, none⟩ = some (.string (str f.name)) ∧ w.cell? ⟨b, off + j * 3 + 1, none⟩ = some (.string (str f.safe)) ∧ w.cell? ⟨b, off + j * 3 + 2, none⟩ = some (.string (str f.more)) := h
theorem FlsIs.below {w w' : World} {v : Value} {l : List Fl} (h : FlsIs w v l) (hb : Below w.heap.size w w') : FlsIs w' v l := by
  obtain ⟨a, cap, rfl, hc⟩ := h
  refine ⟨a, cap, rfl, fun j f hj => ?_⟩
  obtain ⟨b, off, rfl, h0, h1, h2⟩ := hc j f hj
  exact ⟨b, off, rfl, kept_cell hb h0, kept_cell hb h1, kept_cell hb h2⟩
theorem cell_same {w w' : World} {b i : Nat} {v : Value} (e : w'.heap[b]? = w.heap[b]?) (h : w.cell? ⟨b, i, none⟩ = some v) : w'.cell? ⟨b, i, none⟩ = some v := by
  unfold World.cell? at h ⊢
  dsimp only at h ⊢
  rw [e]; exact h
theorem FlsIs.same {w w' : World} {v : Value} {l : List Fl} (h : FlsIs w v l) (hs : ∀ a n c, v = .slice (some a) n c → w'.heap[a.block]? = w.heap[a.block]?) : FlsIs w' v l := by
  obtain ⟨a, cap, rfl, hc⟩ := h
  refine ⟨a, cap, rfl, fun j f hj => ?_⟩
  obtain ⟨b, off, rfl, h0, h1, h2⟩ := hc j f hj
  have e := hs ⟨b, off, none⟩ _ _ rfl
  exact ⟨b, off, rfl, cell_same e h0, cell_same e h1, cell_same e h2⟩

/-- A disk as it may be. -/
structure OkD (D : Dst) : Prop where
  room : 0 ≤ D.room ∧ D.room ≤ 1048576
  armed : 0 ≤ D.armed ∧ D.armed ≤ 9223372036854775807
  count : D.files.length ≤ 128
  each : ∀ f ∈ D.files, f.name.length ≤ 24 ∧ f.safe.length + f.more.length ≤ 65536
end Go.Proofs.YtelcemfaijjcbaaGreatDoor.C12

namespace Go.Proofs.YtelcemfaijjcbaaGreatDoor.C12
open Go Go.RowKit Go.Proofs Go.Proofs.YtelcemfaijjcbaaGreatDoor.B Go.Proofs.YtelcemfaijjcbaaGreatDoor.K Go.Proofs.YtelcemfaijjcbaaGreatDoor.P8
set_option linter.unusedVariables false
set_option maxRecDepth 100000

theorem placeGo_drop {l : List Fl} {K : Nat} {y : Fl} (s : List UInt8) (h : l[K]? = some y) : placeGo s (l.drop K) K = if y.name = s then (K : Int) else placeGo s (l.drop (K + 1)) (K + 1) := by
  obtain ⟨hlt, rfl⟩ := List.getElem?_eq_some_iff.1 h
  rw [List.drop_eq_getElem_cons hlt, placeGo]
/-- A place and the file at it belong together. -/
theorem placeGo_find (s : List UInt8) : ∀ (l : List Fl) (k : Nat), (placeGo s l k = -1 ∧ findF l s = none) ∨ ∃ (j : Nat) (f : Fl), placeGo s l k = ((k + j : Nat) : Int) ∧ l[j]? = some f ∧ findF l s = some f ∧ f.name = s
  | [], k => Or.inl ⟨rfl, rfl⟩
  | y :: l, k => by
    unfold placeGo findF
    by_cases hn : y.name = s
    · refine Or.inr ⟨0, y, ?_, rfl, ?_, hn⟩
      · rw [if_pos hn]; rfl
      · rw [List.find?_cons_of_pos (by simpa using hn)]
    · rw [if_neg hn, List.find?_cons_of_neg (by simpa using hn)]
      rcases placeGo_find s l (k + 1) with ⟨h1, h2⟩ | ⟨j, f, h1, h2, h3, h4⟩
      · exact Or.inl ⟨h1, h2⟩
      · exact Or.inr ⟨j + 1, f, by rw [h1]; congr 1; omega, by simpa using h2, h3, h4⟩
theorem place_find (l : List Fl) (s : List UInt8) : (place l s = -1 ∧ findF l s = none) ∨ ∃ (j : Nat) (f : Fl), place l s = (j : Int) ∧ l[j]? = some f ∧ findF l s = some f ∧ f.name = s := by
  have := placeGo_find s l 0
  unfold place
  simpa using this

theorem drewN_below (w : World) (n : Nat) : Below w.heap.size w (w.drewN n) := by
  induction n with
  | zero => exact Below.refl _ _
  | succ n ih => exact ih.drew
theorem size_set (w : World) (b i : Nat) (v : Value) : w.heap.size ≤ (w.setCell ⟨b, i, none⟩ v).heap.size := ((Below.refl 0 w).setCell (p := ⟨b, i, none⟩) (Nat.zero_le _) v).size
theorem used_take {l : List Fl} {K : Nat} {y : Fl} (h : l[K]? = some y) : usedF (l.take (K + 1)) = usedF (l.take K) + (y.safe.length + y.more.length) := by
  unfold usedF
  rw [List.take_add_one, h, List.map_append, List.sum_append]
  simp
theorem used_le {l : List Fl} (h : ∀ f ∈ l, f.safe.length + f.more.length ≤ 65536) : usedF l ≤ 65536 * l.length := by
  unfold usedF
  induction l with
  | nil => simp
  | cons y l ih =>
    rw [List.map_cons, List.sum_cons, List.length_cons]
    have h1 := h y (List.mem_cons_self ..)
    have h2 := ih fun f hf => h f (List.mem_cons_of_mem _ hf)
    omega
theorem OkD.used {D : Dst} (h : OkD D) : usedF D.files ≤ 8388608 := by
  have h1 := used_le fun f hf => (h.each f hf).2
  have h2 := h.count
  omega

end Go.Proofs.YtelcemfaijjcbaaGreatDoor.C12

namespace Go.Proofs.YtelcemfaijjcbaaGreatDoor.C12
open Go Go.RowKit Go.Proofs Go.Proofs.YtelcemfaijjcbaaGreatDoor.B Go.Proofs.YtelcemfaijjcbaaGreatDoor.K Go.Proofs.YtelcemfaijjcbaaGreatDoor.P8
set_option linter.unusedVariables false
set_option maxRecDepth 100000

theorem str_get12 {l : List UInt8} {k : Nat} {b : UInt8} (h : l[k]? = some b) (hk : k < (str l).size) : ((str l)[k]'hk) = b := by
  obtain ⟨hk', rfl⟩ := List.getElem?_eq_some_iff.1 h
  show (str l).data[k]'_ = _
  simp only [str, List.getElem_toArray]
theorem nameB_iff (b : UInt8) : nameB b = true ↔ (97 ≤ b.toNat ∧ b.toNat ≤ 122) ∨ (48 ≤ b.toNat ∧ b.toNat ≤ 57) ∨ b.toNat = 46 ∨ b.toNat = 45 ∨ b.toNat = 95 := by
  unfold nameB
  simp only [Bool.or_eq_true, Bool.and_eq_true, decide_eq_true_eq]
theorem all_next {s : List UInt8} {K y : Nat} {b : UInt8} (h : s[K]? = some b) (hy : b.toNat = y) (H : s.all nameB = (s.drop K).all nameB) (hc : (97 ≤ y ∧ y ≤ 122) ∨ (48 ≤ y ∧ y ≤ 57) ∨ y = 46 ∨ y = 45 ∨ y = 95) : s.all nameB = (s.drop (K + 1)).all nameB := by
  obtain ⟨hlt, rfl⟩ := List.getElem?_eq_some_iff.1 h
  rw [H, List.drop_eq_getElem_cons hlt, List.all_cons, (nameB_iff _).2 (by rw [hy]; exact hc), Bool.true_and]
theorem all_not {s : List UInt8} {K y : Nat} {b : UInt8} (h : s[K]? = some b) (hy : b.toNat = y) (hc : ¬ ((97 ≤ y ∧ y ≤ 122) ∨ (48 ≤ y ∧ y ≤ 57) ∨ y = 46 ∨ y = 45 ∨ y = 95)) : nameOk s = false := by
  unfold nameOk
  have : s.all nameB = false := by
    rw [List.all_eq_false]
    exact ⟨b, List.mem_of_getElem? h, fun e => hc (by rw [← hy]; exact (nameB_iff b).1 e)⟩
  rw [this, Bool.false_and]

end Go.Proofs.YtelcemfaijjcbaaGreatDoor.C12

namespace Go.Proofs.YtelcemfaijjcbaaGreatDoor.C12
open Go Go.RowKit Go.Proofs Go.Proofs.YtelcemfaijjcbaaGreatDoor.B Go.Proofs.YtelcemfaijjcbaaGreatDoor.K Go.Proofs.YtelcemfaijjcbaaGreatDoor.P8
set_option linter.unusedVariables false
set_option maxRecDepth 100000

def flC (f : Fl) : List Value := [.string (str f.name), .string (str f.safe), .string (str f.more)]
theorem flat3_len : ∀ l : List Fl, (l.flatMap flC).length = l.length * 3
  | [] => rfl
  | f :: l => by rw [List.flatMap_cons, List.length_append, flat3_len l, List.length_cons]; simp [flC]; omega
theorem flat3_at : ∀ (l : List Fl) (j : Nat) (f : Fl) (i : Nat) (c : Value), l[j]? = some f → (flC f)[i]? = some c → (l.flatMap flC)[j * 3 + i]? = some c
  | [], j, f, i, c, h, _ => by simp at h
  | y :: l, 0, f, i, c, h, hc => by
    simp at h
    subst h
    rw [List.flatMap_cons, Nat.zero_mul, Nat.zero_add, List.getElem?_append_left (List.getElem?_eq_some_iff.1 hc).1]
    exact hc
  | y :: l, j + 1, f, i, c, h, hc => by
    rw [List.flatMap_cons, List.getElem?_append_right (by simp [flC]; omega)]
    have := flat3_at l j f i c (by simpa using h) hc
    rw [show (j + 1) * 3 + i - (flC y).length = j * 3 + i by simp [flC]; omega]
    exact this
theorem new_three (w : World) (a b c : Value) (e : TypeId) : ∀ (j : Nat) (u : Value), [a, b, c][j]? = some u → (w.alloc (.cells #[a, b, c] e)).cell? ((⟨w.heap.size, 0, none⟩ : Addr).add j) = some u := by
  intro j u hj
  rw [show (⟨w.heap.size, 0, none⟩ : Addr).add j = ⟨w.heap.size, j, none⟩ by unfold Addr.add; split <;> simp_all]
  exact alloc_cell w [a, b, c] e j u hj
theorem three_one (a b c : ByteArray) : ∀ u ∈ [Value.string a, .string b, .string c], u.oneCell' = true := by intro u hu; simp at hu; rcases hu with rfl | rfl | rfl <;> rfl
theorem owns_blk {w : World} {base : Nat} {e : TypeId} {size : Nat} {v : Value} {n : Nat} {xs : List Value} (h : w.ownsRow base e size v n xs) : ∀ k, v.ownBlock = some k → base ≤ k := by
  intro k hk
  rcases h.2 with ⟨rfl, _⟩ | ⟨g, cap, cur, rfl, hg, _⟩
  · cases hk
  · simp only [Value.ownBlock, Option.some.injEq] at hk
    omega
theorem shape_own {w : World} {base : Nat} {e : TypeId} {s : Nat} {v : Value} {n : Nat} {xs : List Value} (h : w.ownsRow base e s v n xs) : ∃ a cap, v = .slice a n cap := by
  rcases h.2 with ⟨rfl, h0⟩ | ⟨g, cap, cur, rfl, _⟩
  · exact ⟨none, 0, by rw [h0]⟩
  · exact ⟨_, _, rfl⟩
theorem drop_next {l : List Fl} {K : Nat} {y : Fl} (s : List UInt8) (h : l[K]? = some y) : dropF (l.drop K) s = (if y.name = s then [] else [y]) ++ dropF (l.drop (K + 1)) s := by
  obtain ⟨hlt, rfl⟩ := List.getElem?_eq_some_iff.1 h
  unfold dropF
  rw [List.drop_eq_getElem_cons hlt]
  by_cases hs : l[K].name = s
  · rw [if_pos hs, List.filter_cons_of_neg (by simpa using hs)]; rfl
  · rw [if_neg hs, List.filter_cons_of_pos (by simpa using hs)]; rfl
end Go.Proofs.YtelcemfaijjcbaaGreatDoor.C12
