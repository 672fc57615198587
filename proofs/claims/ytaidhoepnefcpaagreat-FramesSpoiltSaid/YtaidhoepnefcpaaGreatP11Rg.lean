/-
  Layer 11, the program: a frame's memory that was made.
-/
import Derived.Test.YtaidhoepnefcpaaGreatP11Rf
namespace Go.Proofs.YtaidhoepnefcpaaGreat.C10
open Go Go.RowKit Go.Proofs B K P8
set_option linter.unusedVariables false
set_option maxRecDepth 100000
structure FrF (base : Nat) (w : World) (f : Fr) (v5 v6 v7 v8 v9 : Value) : Prop where
 filter : LsIs 1 QS base w v5 f.filter
 cmds : LsIs 6 QC base w v6 f.cmds
 entries : LsIs 5 QN base w v7 f.entries
 items : LsIs 4 QT base w v8 f.items
 verdicts : LsIs 2 QV base w v9 f.verdicts
theorem ls_tgQC {base g : Nat} {w w' : World} {v : Value} {l : List Cm} (h : LsIs 6 QC base w v l) (t : Tg g w w') (hg : g < base) : LsIs 6 QC base w' v l := ⟨h.list.tg t h.fr hg fun ds x hq => hq.tg t hg, h.fr⟩
theorem ls_tgQN {base g : Nat} {w w' : World} {v : Value} {l : List En} (h : LsIs 5 QN base w v l) (t : Tg g w w') (hg : g < base) : LsIs 5 QN base w' v l := ⟨h.list.tg t h.fr hg fun ds x hq => hq.tg t hg, h.fr⟩
theorem ls_monoQC {base base' : Nat} {w : World} {v : Value} {l : List Cm} (h : LsIs 6 QC base w v l) (hb : base' <= base) : LsIs 6 QC base' w v l := ⟨h.list.imp fun ds x hq => hq.mono hb, h.fr.mono hb⟩
theorem ls_monoQN {base base' : Nat} {w : World} {v : Value} {l : List En} (h : LsIs 5 QN base w v l) (hb : base' <= base) : LsIs 5 QN base' w v l := ⟨h.list.imp fun ds x hq => hq.mono hb, h.fr.mono hb⟩
theorem ls_belowQC {base : Nat} {w w' : World} {v : Value} {l : List Cm} (h : LsIs 6 QC base w v l) (hb : Below w.heap.size w w') : LsIs 6 QC base w' v l := ⟨SlOf.below h.list hb fun ds x q => let ⟨u, e, h1⟩ := q; ⟨u, e, NsF.below h1 hb⟩, h.fr⟩
theorem ls_belowQN {base : Nat} {w w' : World} {v : Value} {l : List En} (h : LsIs 5 QN base w v l) (hb : Below w.heap.size w w') : LsIs 5 QN base w' v l := ⟨SlOf.below h.list hb fun ds x q => let ⟨u, e, h1⟩ := q; ⟨u, e, ls_belowQE h1 hb⟩, h.fr⟩
theorem FrF.tg {base g : Nat} {w w' : World} {f : Fr} {v5 v6 v7 v8 v9 : Value} (h : FrF base w f v5 v6 v7 v8 v9) (t : Tg g w w') (hg : g < base) : FrF base w' f v5 v6 v7 v8 v9 :=
 ⟨ls_tgQS h.filter t hg, ls_tgQC h.cmds t hg, ls_tgQN h.entries t hg, ls_tgQT h.items t hg, ls_tgQV h.verdicts t hg⟩
theorem FrF.below {base : Nat} {w w' : World} {f : Fr} {v5 v6 v7 v8 v9 : Value} (h : FrF base w f v5 v6 v7 v8 v9) (hb : Below w.heap.size w w') : FrF base w' f v5 v6 v7 v8 v9 :=
 ⟨ls_belowQS h.filter hb, ls_belowQC h.cmds hb, ls_belowQN h.entries hb, ls_belowQT h.items hb, ls_belowQV h.verdicts hb⟩
theorem FrF.mono {base base' : Nat} {w : World} {f : Fr} {v5 v6 v7 v8 v9 : Value} (h : FrF base w f v5 v6 v7 v8 v9) (hb : base' <= base) : FrF base' w f v5 v6 v7 v8 v9 :=
 ⟨ls_monoQS h.filter hb, ls_monoQC h.cmds hb, ls_monoQN h.entries hb, ls_monoQT h.items hb, ls_monoQV h.verdicts hb⟩
theorem FrF.is {base : Nat} {w : World} {f : Fr} {v5 v6 v7 v8 v9 : Value} (h : FrF base w f v5 v6 v7 v8 v9) : FrIs w f v5 v6 v7 v8 v9 :=
 ⟨txs_of h.filter, h.cmds.list.imp fun ds x ⟨u, e, h1⟩ => ⟨u, e, h1.1⟩, h.entries.list.imp fun ds x ⟨u, e, h1⟩ => ⟨u, e, evs_of h1⟩, its_of h.items, vds_of h.verdicts⟩
theorem frF_none (base : Nat) (w : World) (k c e a b : Int) : FrF base w ⟨k, c, e, a, b, [], [], [], [], []⟩ (.slice none 0 0) (.slice none 0 0) (.slice none 0 0) (.slice none 0 0) (.slice none 0 0) :=
 ⟨LsIs.nil _ _ _ _, LsIs.nil _ _ _ _, LsIs.nil _ _ _ _, LsIs.nil _ _ _ _, LsIs.nil _ _ _ _⟩
def rHeadK : Rd Fr := rThen rKind fun k => rThen rNum fun c => rThen rNum fun e => rBody k c e
theorem head_kind : rHeadK = rHead := by
 funext s p
 unfold rHeadK rHead rKind rThen;cases hk : rNum s p with
 | none => rfl
 | some r =>
  obtain ⟨k, q⟩ := r;simp only [Option.bind_some];by_cases hi : inn k 1 5 = true
  ·rw [if_pos hi]
   simp [rEnd]
  ·rw [if_neg hi]
   have hno : ∀ c e, rBody k c e = fun _ _ => none := by
    intro c e;have h : ¬ (1 <= k /\ k <= 5) := fun hh => hi (inn_iff.2 hh)
    unfold rBody;rw [if_neg (by omega), if_neg (by omega), if_neg (by omega), if_neg (by omega), if_neg (by omega)]
   simp only [Option.bind_none];cases rNum s q with
   | none => rfl
   | some r =>
    simp only [Option.bind_some];cases rNum s r.2 with
    | none => rfl
    | some r2 => simp only [Option.bind_some]; rw [hno]
theorem kind_in {s : List UInt8} {p er : Int} {k q : Int} (h : FOut rKind s p er k q 0) (he : er = 0) : inn k 1 5 = true := by
 rcases h.1 he with ⟨r, hr, hk, -, -⟩ | ⟨-, h0⟩
 ·unfold rKind rThen at hr
  cases hn : rNum s p with
  | none => rw [hn] at hr; cases hr
  | some r1 =>
   rw [hn] at hr;simp only [Option.bind_some] at hr;by_cases hi : inn r1.1 1 5 = true
   ·rw [if_pos hi] at hr
    unfold rEnd at hr;rw [if_pos rfl] at hr;simp only [Option.some.injEq] at hr;rw [hk, <- hr]; exact hi
   ·rw [if_neg hi] at hr; cases hr
 ·exact absurd rfl h0
theorem far_set (w : World) (g i A j : Nat) (v : Value) (h : g ≠ A) : (w.setCell ⟨g, i, none⟩ v).cell? ⟨A, j, none⟩ = w.cell? ⟨A, j, none⟩ := World.cell?_setCell_far w _ _ v h
theorem lt_alloc (w : World) (o : Obj) : w.heap.size < (w.alloc o).heap.size := by simp
theorem fr_ad {W : World} {o : Obj} {b : Nat} {s : List UInt8} {p er : Int} (h : FRdr W.drew b s p er) : FRdr (W.alloc o).drew b s p er := FRdr.below (w := W) h (below_alloc W o).drew
theorem cell_ad {W : World} {o : Obj} {A i : Nat} {v : Value} (h : W.drew.cell? ⟨A, i, none⟩ = some v) : (W.alloc o).drew.cell? ⟨A, i, none⟩ = some v := kept_cell (w := W) (below_alloc W o).drew h
theorem heap_ad (W : World) (cs : Array Value) (T : TypeId) : (W.alloc (.cells cs T)).drew.heap[W.heap.size]? = some (.cells cs T (0, 0)) := heap_alloc_at W _
def fillC (g : Nat) : World -> Nat -> List Value -> World
 | w, _, [] => w
 | w, k, v :: r => fillC g (w.setCell ⟨g, k, none⟩ v) (k + 1) r
theorem fillC_tg (g : Nat) : ∀ (l : List Value) (w : World) (k : Nat), Tg g w (fillC g w k l)
 | [], w, _ => Tg.refl g w
 | v :: r, w, k => (Tg.set w g k v).trans (fillC_tg g r _ _)
theorem fillC_cell {g A : Nat} (h : g ≠ A) (j : Nat) : ∀ (l : List Value) (w : World) (k : Nat), (fillC g w k l).cell? ⟨A, j, none⟩ = w.cell? ⟨A, j, none⟩
 | [], _, _ => rfl
 | v :: r, w, k => (fillC_cell h j r _ _).trans (far_set w g k A j v h)
theorem fillC_row (g : Nat) (T : TypeId) : ∀ (l : List Value) (w : World) (k : Nat) (cur : Array Value) (xs : List Value), w.heap[g]? = some (.cells cur T (0, 0)) -> cur.toList.take k = xs -> cur.size = k + l.length -> (fillC g w k l).heap[g]? = some (.cells (xs ++ l).toArray T (0, 0))
 | [], w, k, cur, xs, h, ht, hs => by
  have e : cur = (xs ++ []).toArray := by
   rw [<- ht, List.append_nil, List.take_of_length_le (by rw [Array.length_toList]; simp at hs; omega)]
  show w.heap[g]? = _
  rw [h, <- e]
 | v :: r, w, k, cur, xs, h, ht, hs => by
  obtain ⟨cur', h1, h2, h3⟩ := row_fill h (by rw [hs]; simp) ht v;have := fillC_row g T r _ (k + 1) cur' (xs ++ [v]) h1 h3 (by rw [h2, hs]; simp; omega);rw [List.append_assoc] at this;exact this
theorem row_al {W : World} {o : Obj} {g : Nat} {x : Obj} (h : W.heap[g]? = some x) : (W.alloc o).heap[g]? = some x := ((below_alloc W o).block g (Array.getElem?_eq_some_iff.1 h).1).trans h
theorem row_ad {W : World} {o : Obj} {g : Nat} {x : Obj} (h : W.drew.heap[g]? = some x) : (W.alloc o).drew.heap[g]? = some x := ((below_alloc W o).block g (Array.getElem?_eq_some_iff.1 h).1).trans h
def FMid (b A g2 : Nat) (s : List UInt8) (p : Int) (w : World) (v : Value) (wx : World) : Prop :=
 ∃ (g3 : Nat) (n0 p1 e1 n1 p2 e2 n2 p3 e3 : Int), v = .pointer (some ⟨g3, 0, none⟩) /\ wx.heap[g3]? = some (.cells #[.int .i64 n0, .int .i64 n1, .int .i64 n2, .int .i64 0, .int .i64 0, .slice none 0 0, .slice none 0 0, .slice none 0 0, .slice none 0 0, .slice none 0 0] 28 (0, 0)) /\ g2 < g3 /\
  wx.heap[g2]? = some (.cells #[.int .i64 0, .int .i64 0, .int .i64 0, .int .i64 0, .int .i64 0, .slice none 0 0, .slice none 0 0, .slice none 0 0, .slice none 0 0, .slice none 0 0] 28 (0, 0)) /\ wx.cell? ⟨A, 0, none⟩ = some (.pointer (some ⟨b, 0, none⟩)) /\ FRdr wx b s p3 e3 /\ Tg b w wx /\ FOut rKind s p 0 n0 p1 e1 /\ FOut rNum s p1 e1 n1 p2 e2 /\ FOut rNum s p2 e2 n2 p3 e3
theorem fmid_al {b A g2 : Nat} {s : List UInt8} {p : Int} {w w3 : World} {n0 p1 e1 n1 p2 e2 n2 p3 e3 : Int} (hr : FRdr w3 b s p3 e3) (ht : Tg b w w3) (hA : w3.cell? ⟨A, 0, none⟩ = some (.pointer (some ⟨b, 0, none⟩))) (hy : w3.heap[g2]? = some (.cells #[.int .i64 0, .int .i64 0, .int .i64 0, .int .i64 0, .int .i64 0, .slice none 0 0, .slice none 0 0, .slice none 0 0, .slice none 0 0, .slice none 0 0] 28 (0, 0)))
 (h1 : FOut rKind s p 0 n0 p1 e1) (h2 : FOut rNum s p1 e1 n1 p2 e2) (h3 : FOut rNum s p2 e2 n2 p3 e3) : FMid b A g2 s p w (.pointer (some ⟨w3.heap.size, 0, none⟩)) (w3.alloc (.cells #[.int .i64 n0, .int .i64 n1, .int .i64 n2, .int .i64 0, .int .i64 0, .slice none 0 0, .slice none 0 0, .slice none 0 0, .slice none 0 0, .slice none 0 0] 28)) :=
 ⟨_, n0, p1, e1, n1, p2, e2, n2, p3, e3, rfl, heap_alloc_at _ _, (Array.getElem?_eq_some_iff.1 hy).1, row_al hy, kept_cell (below_alloc _ _) hA, hr.below (below_alloc _ _), ht.trans (Tg.of_below (below_alloc _ _)), h1, h2, h3⟩
theorem fmid_set {b A g2 g3 : Nat} {s : List UInt8} {p : Int} {w w3 : World} {n0 p1 e1 n1 p2 e2 n2 p3 e3 : Int} (hr : FRdr w3 b s p3 e3) (ht : Tg b w w3) (hA : w3.cell? ⟨A, 0, none⟩ = some (.pointer (some ⟨b, 0, none⟩))) (hy : w3.heap[g2]? = some (.cells #[.int .i64 0, .int .i64 0, .int .i64 0, .int .i64 0, .int .i64 0, .slice none 0 0, .slice none 0 0, .slice none 0 0, .slice none 0 0, .slice none 0 0] 28 (0, 0))) (hz : w3.heap[g3]? = some (.cells #[.int .i64 0, .int .i64 0, .int .i64 0, .int .i64 0, .int .i64 0, .slice none 0 0, .slice none 0 0, .slice none 0 0, .slice none 0 0, .slice none 0 0] 28 (0, 0)))
 (h23 : g2 < g3) (hg : g3 ≠ A) (hb3 : b < g3) (hw3 : w.heap.size <= g3) (h1 : FOut rKind s p 0 n0 p1 e1) (h2 : FOut rNum s p1 e1 n1 p2 e2) (h3 : FOut rNum s p2 e2 n2 p3 e3) : FMid b A g2 s p w (.pointer (some ⟨g3, 0, none⟩)) (fillC g3 w3 0 [.int .i64 n0, .int .i64 n1, .int .i64 n2, .int .i64 0, .int .i64 0, .slice none 0 0, .slice none 0 0, .slice none 0 0, .slice none 0 0, .slice none 0 0]) := by
 have htg := fillC_tg g3 [.int .i64 n0, .int .i64 n1, .int .i64 n2, .int .i64 0, .int .i64 0, .slice none 0 0, .slice none 0 0, .slice none 0 0, .slice none 0 0, .slice none 0 0] w3 0;exact ⟨_, n0, p1, e1, n1, p2, e2, n2, p3, e3, rfl, fillC_row g3 28 [.int .i64 n0, .int .i64 n1, .int .i64 n2, .int .i64 0, .int .i64 0, .slice none 0 0, .slice none 0 0, .slice none 0 0, .slice none 0 0, .slice none 0 0] w3 0 _ [] hz rfl rfl, h23, (htg.block g2 (Array.getElem?_eq_some_iff.1 hy).1 (by omega)).trans hy, (fillC_cell hg 0 [.int .i64 n0, .int .i64 n1, .int .i64 n2, .int .i64 0, .int .i64 0, .slice none 0 0, .slice none 0 0, .slice none 0 0, .slice none 0 0, .slice none 0 0] w3 0).trans hA, hr.tg htg (by omega), Tg.above ht hw3 htg, h1, h2, h3⟩
def FFr (b : Nat) (s : List UInt8) (p er : Int) (w : World) (z : Ending) (w' : World) : Prop :=
 ∃ (f : Fr) (v5 v6 v7 v8 v9 : Value) (q e : Int), z = .returned (.agg (frCells f v5 v6 v7 v8 v9).toArray) /\ FrF w.heap.size w' f v5 v6 v7 v8 v9 /\ FRdr w' b s q e /\ Tg b w w' /\ FOut rHead s p er f q e
theorem ffr_end {b g2 base : Nat} {s : List UInt8} {p q e : Int} {w w' : World} {f : Fr} {v5 v6 v7 v8 v9 : Value} (hF : FrF base w' f v5 v6 v7 v8 v9) (hb : w.heap.size <= base) (hg2 : g2 < base) (hr : FRdr w' b s q e) (ht : Tg b w w') (hw2 : w.heap.size <= g2) (hbg : b < g2) (ho : FOut rHead s p 0 f q e) :
 FFr b s p 0 w (.returned (.agg (frCells f v5 v6 v7 v8 v9).toArray)) (fillC g2 w' 0 (frCells f v5 v6 v7 v8 v9)) :=
 ⟨f, v5, v6, v7, v8, v9, q, e, rfl, (hF.tg (fillC_tg g2 _ w' 0) hg2).mono hb, hr.tg (fillC_tg g2 _ w' 0) (by omega), Tg.above ht hw2 (fillC_tg g2 _ w' 0), ho⟩
end Go.Proofs.YtaidhoepnefcpaaGreat.C10
