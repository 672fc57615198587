/-
  Layer 11, the program: a frame's memory that was made.
-/
import Derived.Test.YtaidhoepnefcpaaGreatBP11Rf
namespace Go.Proofs.YtaidhoepnefcpaaGreat.C10
open Go Go.RowKit Go.Proofs B K P8
set_option linter.unusedVariables false
set_option maxRecDepth 100000
structure FrF (base : Nat) (w : World) (f : Fr) (v5 v6 v7 v8 v9 : Value) : Prop where
 filter : LsIs 1 QS base w v5 f.filter
 cmds : LsIs 6 QC base w v6 f.cmds
 entries : LsIs 5 QN base w v7 f.entries
 items : LsIs 4 QT base w v8 f.items
 verdicts : LsIs 2 QV base w v9 f.verdicts
theorem ls_tgQC {base g : Nat} {w w' : World} {v : Value} {l : List Cm} (h : LsIs 6 QC base w v l) (t : Tg g w w') (hg : g < base) : LsIs 6 QC base w' v l := ⟨h.list.tg t h.fr hg fun ds x hq => hq.tg t hg, h.fr⟩
theorem ls_tgQN {base g : Nat} {w w' : World} {v : Value} {l : List En} (h : LsIs 5 QN base w v l) (t : Tg g w w') (hg : g < base) : LsIs 5 QN base w' v l := ⟨h.list.tg t h.fr hg fun ds x hq => hq.tg t hg, h.fr⟩
theorem ls_monoQC {base base' : Nat} {w : World} {v : Value} {l : List Cm} (h : LsIs 6 QC base w v l) (hb : base' <= base) : LsIs 6 QC base' w v l := ⟨h.list.imp fun ds x hq => hq.mono hb, h.fr.mono hb⟩
theorem ls_monoQN {base base' : Nat} {w : World} {v : Value} {l : List En} (h : LsIs 5 QN base w v l) (hb : base' <= base) : LsIs 5 QN base' w v l := ⟨h.list.imp fun ds x hq => hq.mono hb, h.fr.mono hb⟩
theorem ls_belowQC {base : Nat} {w w' : World} {v : Value} {l : List Cm} (h : LsIs 6 QC base w v l) (hb : Below w.heap.size w w') : LsIs 6 QC base w' v l := ⟨SlOf.below h.list hb fun ds x q => let ⟨u, e, h1⟩ := q; ⟨u, e, NsF.below h1 hb⟩, h.fr⟩
theorem ls_belowQN {base : Nat} {w w' : World} {v : Value} {l : List En} (h : LsIs 5 QN base w v l) (hb : Below w.heap.size w w') : LsIs 5 QN base w' v l := ⟨SlOf.below h.list hb fun ds x q => let ⟨u, e, h1⟩ := q; ⟨u, e, ZF h1 hb⟩, h.fr⟩
theorem FrF.tg {base g : Nat} {w w' : World} {f : Fr} {v5 v6 v7 v8 v9 : Value} (h : FrF base w f v5 v6 v7 v8 v9) (t : Tg g w w') (hg : g < base) : FrF base w' f v5 v6 v7 v8 v9 :=
 ⟨Zb h.filter t hg, ls_tgQC h.cmds t hg, ls_tgQN h.entries t hg, jb h.items t hg, uV h.verdicts t hg⟩
theorem FrF.below {base : Nat} {w w' : World} {f : Fr} {v5 v6 v7 v8 v9 : Value} (h : FrF base w f v5 v6 v7 v8 v9) (hb : Below w.heap.size w w') : FrF base w' f v5 v6 v7 v8 v9 :=
 ⟨ZR h.filter hb, ls_belowQC h.cmds hb, ls_belowQN h.entries hb, ZJ h.items hb, ZG h.verdicts hb⟩
theorem FrF.mono {base base' : Nat} {w : World} {f : Fr} {v5 v6 v7 v8 v9 : Value} (h : FrF base w f v5 v6 v7 v8 v9) (hb : base' <= base) : FrF base' w f v5 v6 v7 v8 v9 :=
 ⟨uQ h.filter hb, ls_monoQC h.cmds hb, ls_monoQN h.entries hb, uS h.items hb, jE h.verdicts hb⟩
theorem FrF.is {base : Nat} {w : World} {f : Fr} {v5 v6 v7 v8 v9 : Value} (h : FrF base w f v5 v6 v7 v8 v9) : FrIs w f v5 v6 v7 v8 v9 :=
 ⟨jT h.filter, h.cmds.list.imp fun ds x ⟨u, e, h1⟩ => ⟨u, e, h1.1⟩, h.entries.list.imp fun ds x ⟨u, e, h1⟩ => ⟨u, e, jS h1⟩, jR h.items, jU h.verdicts⟩
theorem frF_none (base : Nat) (w : World) (k c e a b : Int) : FrF base w ⟨k, c, e, a, b, [], [], [], [], []⟩ (.slice none 0 0) (.slice none 0 0) (.slice none 0 0) (.slice none 0 0) (.slice none 0 0) :=
 ⟨LsIs.nil _ _ _ _, LsIs.nil _ _ _ _, LsIs.nil _ _ _ _, LsIs.nil _ _ _ _, LsIs.nil _ _ _ _⟩
def rHeadK : Rd Fr := rThen rKind fun k => rThen rNum fun c => rThen rNum fun e => rBody k c e
theorem qf : rHeadK = rHead := by
 funext s p
 unfold rHeadK rHead rKind rThen;cases hk : rNum s p with
 | none => rfl
 | some r =>
  obtain ⟨k, q⟩ := r;simp only [Option.bind_some];by_cases hi : inn k 1 5 = true
  ·rw [if_pos hi]
   simp [rEnd]
  ·rw [if_neg hi]
   have hno : ∀ c e, rBody k c e = fun _ _ => none := by
    intro c e;have h : ¬ (1 <= k /\ k <= 5) := fun hh => hi (zq.2 hh)
    unfold rBody;rw [if_neg (by omega), if_neg (by omega), if_neg (by omega), if_neg (by omega), if_neg (by omega)]
   simp only [Option.bind_none];cases rNum s q with
   | none => rfl
   | some r =>
    simp only [Option.bind_some];cases rNum s r.2 with
    | none => rfl
    | some r2 => simp only [Option.bind_some]; rw [hno]
theorem kind_in {s : List UInt8} {p er : Int} {k q : Int} (h : FOut rKind s p er k q 0) (he : er = 0) : inn k 1 5 = true := by
 rcases h.1 he with ⟨r, hr, hk, -, -⟩ | ⟨-, h0⟩
 ·unfold rKind rThen at hr
  cases hn : rNum s p with
  | none => rw [hn] at hr; cases hr
  | some r1 =>
   rw [hn] at hr;simp only [Option.bind_some] at hr;by_cases hi : inn r1.1 1 5 = true
   ·rw [if_pos hi] at hr
    unfold rEnd at hr;rw [if_pos rfl] at hr;simp only [Option.some.injEq] at hr;rw [hk, <- hr]; exact hi
   ·rw [if_neg hi] at hr; cases hr
 ·exact absurd rfl h0
theorem yR (w : World) (g i A j : Nat) (v : Value) (h : g ≠ A) : (w.setCell ⟨g, i, none⟩ v).cell? ⟨A, j, none⟩ = w.cell? ⟨A, j, none⟩ := World.cell?_setCell_far w _ _ v h
theorem qz (w : World) (o : Obj) : w.heap.size < (w.alloc o).heap.size := by simp
theorem fr_ad {W : World} {o : Obj} {b : Nat} {s : List UInt8} {p er : Int} (h : FRdr W.drew b s p er) : FRdr (W.alloc o).drew b s p er := FRdr.below (w := W) h (zf W o).drew
theorem cell_ad {W : World} {o : Obj} {A i : Nat} {v : Value} (h : W.drew.cell? ⟨A, i, none⟩ = some v) : (W.alloc o).drew.cell? ⟨A, i, none⟩ = some v := za (w := W) (zf W o).drew h
theorem heap_ad (W : World) (cs : Array Value) (T : TypeId) : (W.alloc (.cells cs T)).drew.heap[W.heap.size]? = some (.cells cs T (0, 0)) := zg W _
def fillC (g : Nat) : World -> Nat -> List Value -> World
 | w, _, [] => w
 | w, k, v :: r => fillC g (w.setCell ⟨g, k, none⟩ v) (k + 1) r
theorem ym (g : Nat) : ∀ (l : List Value) (w : World) (k : Nat), Tg g w (fillC g w k l)
 | [], w, _ => Tg.refl g w
 | v :: r, w, k => (Tg.set w g k v).trans (ym g r _ _)
theorem qN {g A : Nat} (h : g ≠ A) (j : Nat) : ∀ (l : List Value) (w : World) (k : Nat), (fillC g w k l).cell? ⟨A, j, none⟩ = w.cell? ⟨A, j, none⟩
 | [], _, _ => rfl
 | v :: r, w, k => (qN h j r _ _).trans (yR w g k A j v h)
theorem zH (g : Nat) (T : TypeId) : ∀ (l : List Value) (w : World) (k : Nat) (cur : Array Value) (xs : List Value), w.heap[g]? = some (.cells cur T (0, 0)) -> cur.toList.take k = xs -> cur.size = k + l.length -> (fillC g w k l).heap[g]? = some (.cells (xs ++ l).toArray T (0, 0))
 | [], w, k, cur, xs, h, ht, hs => by
  have e : cur = (xs ++ []).toArray := by
   rw [<- ht, List.append_nil, List.take_of_length_le (by rw [Array.length_toList]; simp at hs; omega)]
  show w.heap[g]? = _
  rw [h, <- e]
 | v :: r, w, k, cur, xs, h, ht, hs => by
  obtain ⟨cur', h1, h2, h3⟩ := zD h (by rw [hs]; simp) ht v;have := zH g T r _ (k + 1) cur' (xs ++ [v]) h1 h3 (by rw [h2, hs]; simp; omega);rw [List.append_assoc] at this;exact this
theorem uO {W : World} {o : Obj} {g : Nat} {x : Obj} (h : W.heap[g]? = some x) : (W.alloc o).heap[g]? = some x := ((zf W o).block g (Array.getElem?_eq_some_iff.1 h).1).trans h
theorem row_ad {W : World} {o : Obj} {g : Nat} {x : Obj} (h : W.drew.heap[g]? = some x) : (W.alloc o).drew.heap[g]? = some x := ((zf W o).block g (Array.getElem?_eq_some_iff.1 h).1).trans h
def FMid (b A g2 : Nat) (s : List UInt8) (p : Int) (w : World) (v : Value) (wx : World) : Prop :=
 ∃ (g3 : Nat) (n0 p1 e1 n1 p2 e2 n2 p3 e3 : Int), v = .pointer (some ⟨g3, 0, none⟩) /\ wx.heap[g3]? = some (.cells #[.int .i64 n0, .int .i64 n1, .int .i64 n2, .int .i64 0, .int .i64 0, .slice none 0 0, .slice none 0 0, .slice none 0 0, .slice none 0 0, .slice none 0 0] 28 (0, 0)) /\ g2 < g3 /\
  wx.heap[g2]? = some (.cells #[.int .i64 0, .int .i64 0, .int .i64 0, .int .i64 0, .int .i64 0, .slice none 0 0, .slice none 0 0, .slice none 0 0, .slice none 0 0, .slice none 0 0] 28 (0, 0)) /\ wx.cell? ⟨A, 0, none⟩ = some (.pointer (some ⟨b, 0, none⟩)) /\ FRdr wx b s p3 e3 /\ Tg b w wx /\ FOut rKind s p 0 n0 p1 e1 /\ FOut rNum s p1 e1 n1 p2 e2 /\ FOut rNum s p2 e2 n2 p3 e3
theorem fmid_al {b A g2 : Nat} {s : List UInt8} {p : Int} {w w3 : World} {n0 p1 e1 n1 p2 e2 n2 p3 e3 : Int} (hr : FRdr w3 b s p3 e3) (ht : Tg b w w3) (hA : w3.cell? ⟨A, 0, none⟩ = some (.pointer (some ⟨b, 0, none⟩))) (hy : w3.heap[g2]? = some (.cells #[.int .i64 0, .int .i64 0, .int .i64 0, .int .i64 0, .int .i64 0, .slice none 0 0, .slice none 0 0, .slice none 0 0, .slice none 0 0, .slice none 0 0] 28 (0, 0)))
 (h1 : FOut rKind s p 0 n0 p1 e1) (h2 : FOut rNum s p1 e1 n1 p2 e2) (h3 : FOut rNum s p2 e2 n2 p3 e3) : FMid b A g2 s p w (.pointer (some ⟨w3.heap.size, 0, none⟩)) (w3.alloc (.cells #[.int .i64 n0, .int .i64 n1, .int .i64 n2, .int .i64 0, .int .i64 0, .slice none 0 0, .slice none 0 0, .slice none 0 0, .slice none 0 0, .slice none 0 0] 28)) :=
 ⟨_, n0, p1, e1, n1, p2, e2, n2, p3, e3, rfl, zg _ _, (Array.getElem?_eq_some_iff.1 hy).1, uO hy, za (zf _ _) hA, hr.below (zf _ _), ht.trans (Tg.of_below (zf _ _)), h1, h2, h3⟩
theorem fmid_set {b A g2 g3 : Nat} {s : List UInt8} {p : Int} {w w3 : World} {n0 p1 e1 n1 p2 e2 n2 p3 e3 : Int} (hr : FRdr w3 b s p3 e3) (ht : Tg b w w3) (hA : w3.cell? ⟨A, 0, none⟩ = some (.pointer (some ⟨b, 0, none⟩))) (hy : w3.heap[g2]? = some (.cells #[.int .i64 0, .int .i64 0, .int .i64 0, .int .i64 0, .int .i64 0, .slice none 0 0, .slice none 0 0, .slice none 0 0, .slice none 0 0, .slice none 0 0] 28 (0, 0))) (hz : w3.heap[g3]? = some (.cells #[.int .i64 0, .int .i64 0, .int .i64 0, .int .i64 0, .int .i64 0, .slice none 0 0, .slice none 0 0, .slice none 0 0, .slice none 0 0, .slice none 0 0] 28 (0, 0)))
 (h23 : g2 < g3) (hg : g3 ≠ A) (hb3 : b < g3) (hw3 : w.heap.size <= g3) (h1 : FOut rKind s p 0 n0 p1 e1) (h2 : FOut rNum s p1 e1 n1 p2 e2) (h3 : FOut rNum s p2 e2 n2 p3 e3) : FMid b A g2 s p w (.pointer (some ⟨g3, 0, none⟩)) (fillC g3 w3 0 [.int .i64 n0, .int .i64 n1, .int .i64 n2, .int .i64 0, .int .i64 0, .slice none 0 0, .slice none 0 0, .slice none 0 0, .slice none 0 0, .slice none 0 0]) := by
 have htg := ym g3 [.int .i64 n0, .int .i64 n1, .int .i64 n2, .int .i64 0, .int .i64 0, .slice none 0 0, .slice none 0 0, .slice none 0 0, .slice none 0 0, .slice none 0 0] w3 0;exact ⟨_, n0, p1, e1, n1, p2, e2, n2, p3, e3, rfl, zH g3 28 [.int .i64 n0, .int .i64 n1, .int .i64 n2, .int .i64 0, .int .i64 0, .slice none 0 0, .slice none 0 0, .slice none 0 0, .slice none 0 0, .slice none 0 0] w3 0 _ [] hz rfl rfl, h23, (htg.block g2 (Array.getElem?_eq_some_iff.1 hy).1 (by omega)).trans hy, (qN hg 0 [.int .i64 n0, .int .i64 n1, .int .i64 n2, .int .i64 0, .int .i64 0, .slice none 0 0, .slice none 0 0, .slice none 0 0, .slice none 0 0, .slice none 0 0] w3 0).trans hA, hr.tg htg (by omega), Tg.above ht hw3 htg, h1, h2, h3⟩
def FFr (b : Nat) (s : List UInt8) (p er : Int) (w : World) (z : Ending) (w' : World) : Prop :=
 ∃ (f : Fr) (v5 v6 v7 v8 v9 : Value) (q e : Int), z = .returned (.agg (frCells f v5 v6 v7 v8 v9).toArray) /\ FrF w.heap.size w' f v5 v6 v7 v8 v9 /\ FRdr w' b s q e /\ Tg b w w' /\ FOut rHead s p er f q e
theorem qY {b g2 base : Nat} {s : List UInt8} {p q e : Int} {w w' : World} {f : Fr} {v5 v6 v7 v8 v9 : Value} (hF : FrF base w' f v5 v6 v7 v8 v9) (hb : w.heap.size <= base) (hg2 : g2 < base) (hr : FRdr w' b s q e) (ht : Tg b w w') (hw2 : w.heap.size <= g2) (hbg : b < g2) (ho : FOut rHead s p 0 f q e) :
 FFr b s p 0 w (.returned (.agg (frCells f v5 v6 v7 v8 v9).toArray)) (fillC g2 w' 0 (frCells f v5 v6 v7 v8 v9)) :=
 ⟨f, v5, v6, v7, v8, v9, q, e, rfl, (hF.tg (ym g2 _ w' 0) hg2).mono hb, hr.tg (ym g2 _ w' 0) (by omega), Tg.above ht hw2 (ym g2 _ w' 0), ho⟩
end Go.Proofs.YtaidhoepnefcpaaGreat.C10
