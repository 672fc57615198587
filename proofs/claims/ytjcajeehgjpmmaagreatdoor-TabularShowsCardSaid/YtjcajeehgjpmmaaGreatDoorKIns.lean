/-
  A slice that reads as a list of pairs of numbers (structs of two ints).
-/
import Derived.Test.YtjcajeehgjpmmaaGreatDoorIGram
import Derived.WalkKit
import Derived.Lib.Buffer
import Derived.Deep.Slices
import Derived.Deep.Fields
import Derived.ProofKit
namespace Go.Proofs.YtjcajeehgjpmmaaGreatDoor.I
open Go E
set_option linter.unusedVariables false
theorem toks_bin (p : Nat) (A : List Bs) (w : Bs) (B : List Bs) (h : w ≠ [32]) : toks p (A ++ [[32], w, [32]] ++ B) = toks p A ++ (p + A.flatten.length + 1, w) :: toks (p + A.flatten.length + 1 + w.length + 1) B := by
 rw [List.append_assoc, toks_append];simp only [List.cons_append, List.nil_append];rw [toks_blank, toks_one _ _ _ h, toks_blank]
theorem bin_ops (o : Int) (h : takes o = 2) : (o = 9 \/ o = 10) \/ (o = 6 \/ o = 7 \/ o = 8 \/ o = 11 \/ o = 12 \/ o = 13 \/ o = 14 \/ o = 15) := by
 have := takes_is o;omega
theorem sign_at (o : Int) (a b : Ex) (h : o = 6 \/ o = 7 \/ o = 8 \/ o = 11 \/ o = 12 \/ o = 13 \/ o = 14 \/ o = 15) :
 1 <= rank (.bin o a b) /\ rank (.bin o a b) <= 5 /\ opAt (rank (.bin o a b)) (sign o) = some o /\ (∀ j, j ≠ rank (.bin o a b) -> opAt j (sign o) = none) /\ sign o ≠ [32] := by
 have key : ∀ (r : Nat) (s : Bs), rank (.bin o a b) = r -> sign o = s -> 1 <= r -> r <= 5 -> opAt r s = some o -> (∀ j, j <= 5 -> j ≠ r -> opAt j s = none) -> s ≠ [32] ->
  1 <= rank (.bin o a b) /\ rank (.bin o a b) <= 5 /\ opAt (rank (.bin o a b)) (sign o) = some o /\ (∀ j, j ≠ rank (.bin o a b) -> opAt j (sign o) = none) /\ sign o ≠ [32] := by
  intro r s h1 h2 h3 h4 h5 h6 h7;rw [h1, h2];refine ⟨h3, h4, h5, fun j hj => ?_, h7⟩;by_cases hj5 : j <= 5
  ·exact h6 j hj5 hj
  ·unfold opAt
   rw [if_neg (by omega), if_neg (by omega), if_neg (by omega), if_neg (by omega), if_neg (by omega)]
 have none_of : ∀ (r : Nat) (s : Bs), (opAt 0 s = none \/ r = 0) -> (opAt 1 s = none \/ r = 1) -> (opAt 2 s = none \/ r = 2) -> (opAt 3 s = none \/ r = 3) -> (opAt 4 s = none \/ r = 4) -> (opAt 5 s = none \/ r = 5) -> ∀ j, j <= 5 -> j ≠ r -> opAt j s = none := by
  intro r s h0 h1 h2 h3 h4 h5 j hj hne;match j, hj with
  | 0, _ => exact h0.resolve_right (fun e => hne e.symm)
  | 1, _ => exact h1.resolve_right (fun e => hne e.symm)
  | 2, _ => exact h2.resolve_right (fun e => hne e.symm)
  | 3, _ => exact h3.resolve_right (fun e => hne e.symm)
  | 4, _ => exact h4.resolve_right (fun e => hne e.symm)
  | 5, _ => exact h5.resolve_right (fun e => hne e.symm)
  | j + 6, h => omega
 rcases h with rfl | rfl | rfl | rfl | rfl | rfl | rfl | rfl
 ·exact key 4 [43] rfl rfl (by decide) (by decide) rfl (none_of 4 [43] (by decide) (by decide) (by decide) (by decide) (by decide) (by decide)) (by decide)
 ·exact key 4 [45] rfl rfl (by decide) (by decide) rfl (none_of 4 [45] (by decide) (by decide) (by decide) (by decide) (by decide) (by decide)) (by decide)
 ·exact key 5 [42] rfl rfl (by decide) (by decide) rfl (none_of 5 [42] (by decide) (by decide) (by decide) (by decide) (by decide) (by decide)) (by decide)
 ·exact key 3 [60] rfl rfl (by decide) (by decide) rfl (none_of 3 [60] (by decide) (by decide) (by decide) (by decide) (by decide) (by decide)) (by decide)
 ·exact key 3 [60, 61] rfl rfl (by decide) (by decide) rfl (none_of 3 [60, 61] (by decide) (by decide) (by decide) (by decide) (by decide) (by decide)) (by decide)
 ·exact key 3 [61] rfl rfl (by decide) (by decide) rfl (none_of 3 [61] (by decide) (by decide) (by decide) (by decide) (by decide) (by decide)) (by decide)
 ·exact key 2 [38] rfl rfl (by decide) (by decide) rfl (none_of 2 [38] (by decide) (by decide) (by decide) (by decide) (by decide) (by decide)) (by decide)
 ·exact key 1 [124] rfl rfl (by decide) (by decide) rfl (none_of 1 [124] (by decide) (by decide) (by decide) (by decide) (by decide) (by decide)) (by decide)
theorem name_first (s : Bs) (hs : isName s = true) : ∃ c r, s = c :: r /\ letter c = true := by
 match s, hs with
 | c :: r, hs =>
  simp only [isName, Bool.and_eq_true] at hs;exact ⟨c, r, rfl, hs.1.1.1.1.2⟩
theorem name_blank (s : Bs) (hs : isName s = true) : s ≠ [32] := name_not s 32 [] hs (by decide)
theorem dig_blank (n : Nat) : dig n ≠ [32] := dig_not n 32 [] (by decide)
theorem not_near (vs : List Bs) (na : Int) (e : Ex) (ht : There vs na e) (hc : plainCon e = false) (p : Nat) (rest : List Tk) : ¬ near p (wt vs e 6 (p + 1) ++ rest) := by
 have no : ∀ (c : UInt8) (s : Bs) (r : List Tk), digit c = false -> ¬ near p ((p + 1, c :: s) :: r) := by
  rintro c s r hd ⟨c', s', r', h, hd'⟩;cases h
  rw [hd] at hd'; cases hd'
 unfold wt;by_cases hr : rank e < 6
 ·rw [wrap_yes _ _ _ hr, toks_par]
  exact no 40 [] _ (by decide)
 ·rw [wrap_no _ _ _ (by omega)]
  cases e with
  | con n =>
   have hn : n < 0 := by
    rcases Int.lt_or_le n 0 with h | h
    ·exact h
    ·exfalso
     have : plainCon (.con n) = true := decide_eq_true h;rw [hc] at this; cases this
   unfold pieces;rw [if_pos hn, toks_one _ _ _ (by decide)];exact no 45 [] _ (by decide)
  | var k =>
   obtain ⟨s, hs, hn⟩ := ht;have hg : vs.getD k [] = s := by rw [List.getD_eq_getElem?_getD, hs]; rfl
   obtain ⟨c, r, hcr, hl⟩ := name_first s hn;unfold pieces;rw [hg, toks_one _ _ _ (name_blank s hn), hcr];refine no c r _ ?_;cases hd : digit c with
   | false => rfl
   | true => rw [not_letter hd] at hl; cases hl
  | arg k =>
   unfold pieces;rw [toks_one _ _ _ (by simp [dig_ne])];exact no 36 _ _ (by decide)
  | un o a =>
   unfold pieces;split
   ·split
    ·simp only [List.cons_append, List.nil_append]
     rw [toks_one _ _ _ (by decide)];exact no 45 [] _ (by decide)
    ·simp only [List.cons_append, List.nil_append]
     rw [toks_one _ _ _ (by decide)];exact no 45 [] _ (by decide)
   ·simp only [List.cons_append, List.nil_append]
    rw [toks_one _ _ _ (by decide)];exact no 33 [] _ (by decide)
  | bin o a b =>
   rcases bin_ops o ht.1 with ho | ho
   ·unfold pieces
    rw [if_pos ho];simp only [List.cons_append, List.nil_append];rcases ho with rfl | rfl
    ·rw [if_pos rfl, toks_one _ _ _ (by decide)]
     exact no 109 _ _ (by decide)
    ·rw [if_neg (by decide), toks_one _ _ _ (by decide)]
     exact no 109 _ _ (by decide)
   ·exfalso
    have := (sign_at o a b ho).2.1;omega
  | ite a b c =>
   unfold pieces;simp only [List.cons_append, List.nil_append];rw [toks_one _ _ _ (by decide)];exact no 105 _ _ (by decide)
theorem der (vs : List Bs) (na : Int) (ha : Apart vs) (e : Ex) (ht : There vs na e) : Der vs na e := by
 induction e with
 | con n =>
  have hv := (isVal_iff n).1 ht;by_cases hn : n < 0
  ·refine Der.of_one (by simp [rank, hn]) (fun p rest => ?_)
   unfold pieces;rw [if_pos hn, toks_one _ _ _ (by decide), toks_one _ _ _ (dig_blank _)];have h := Pa.num (vs := vs) (na := na) p n.natAbs rest (by omega);rw [show -((n.natAbs : Nat) : Int) = n by omega] at h;exact h
  ·refine Der.of_one (by simp [rank, hn]) (fun p rest => ?_)
   unfold pieces;rw [if_neg hn, toks_one _ _ _ (dig_blank _)];have h := Pa.aNum (vs := vs) (na := na) p n.natAbs rest (by omega);rw [show ((n.natAbs : Nat) : Int) = n by omega] at h;exact Pa.atm _ _ (dig_not _ _ _ (by decide)) (dig_not _ _ _ (by decide)) h
 | var k =>
  obtain ⟨s, hs, hn⟩ := ht;have hg : vs.getD k [] = s := by rw [List.getD_eq_getElem?_getD, hs]; rfl
  refine Der.of_one (by simp [rank]) (fun p rest => ?_);unfold pieces;rw [hg, toks_one _ _ _ (name_blank s hn)];exact Pa.atm _ _ (name_not s _ _ hn (by decide)) (name_not s _ _ hn (by decide)) (Pa.aVar p k s rest hs hn (fun j hj he => by have := ha j k s he hs; omega))
 | arg k =>
  refine Der.of_one (by simp [rank]) (fun p rest => ?_);unfold pieces;rw [toks_one _ _ _ (by simp [dig_ne])];exact Pa.atm _ _ (by simp [headB]) (by simp [headB]) (Pa.aArg p k rest ht.1 ht.2)
 | un o a ih =>
  have ih := ih ht.2;refine Der.of_one (by simp [rank]) (fun p rest => ?_);unfold pieces;rcases ht.1 with rfl | rfl
  ·rw [if_pos rfl]
   by_cases hc : plainCon a = true
   ·rw [if_pos hc]
    have he : [[45], [40]] ++ pieces vs a ++ [[41]] = [45] :: ([[40]] ++ pieces vs a ++ [[41]]) := by simp
    rw [he, toks_one _ _ _ (by decide), toks_par, List.cons_append, List.cons_append, List.append_assoc];refine Pa.neg p _ (codeOf a) rest ?_ ?_
    ·rintro ⟨c, s, r, h, hd⟩
     cases h
     revert hd; decide
    ·exact in_par (fun p => toks p (pieces vs a)) (codeOf a) (fun p rest hs => ih.whole p rest hs) _ _ _ rest
   ·rw [if_neg hc]
    simp only [List.cons_append, List.nil_append];rw [toks_one _ _ _ (by decide)];exact Pa.neg p _ (codeOf a) rest (not_near vs na a ht.2 (by simpa using hc) p rest) (ih.on (p + 1) rest)
  ·rw [if_neg (by decide)]
   simp only [List.cons_append, List.nil_append];rw [toks_one _ _ _ (by decide)];exact Pa.non p _ (codeOf a) rest (ih.on (p + 1) rest)
 | ite a b c iha ihb ihc =>
  have iha := iha ht.1;have ihb := ihb ht.2.1;have ihc := ihc ht.2.2;refine Der.of_one (by simp [rank]) (fun p rest => ?_);unfold pieces;have he : [wif, [40]] ++ pieces vs a ++ [[44], [32]] ++ pieces vs b ++ [[44], [32]] ++ pieces vs c ++ [[41]] = wif :: [40] :: (pieces vs a ++ ([44] :: [32] :: (pieces vs b ++ ([44] :: [32] :: (pieces vs c ++ [[41]]))))) := by simp
  rw [he, toks_one _ _ _ (by decide), toks_one _ _ _ (by decide), toks_append, toks_one _ _ _ (by decide), toks_blank, toks_append, toks_one _ _ _ (by decide), toks_blank, toks_append, toks_one _ _ _ (by decide)];simp only [List.cons_append, List.append_assoc];refine Pa.atm _ _ (by show wif ≠ _; decide) (by show wif ≠ _; decide) ?_;exact Pa.aIf _ _ _ (codeOf a) _ _ (codeOf b) _ _ (codeOf c) _ rest (iha.whole _ _ (stop_of _ _ _ _ (by decide))) (ihb.whole _ _ (stop_of _ _ _ _ (by decide))) (ihc.whole _ _ (stop_of _ _ _ _ (by decide)))
 | bin o a b iha ihb =>
  have iha := iha ht.2.1;have ihb := ihb ht.2.2;rcases bin_ops o ht.1 with ho | ho
  ·refine Der.of_one (by rcases ho with rfl | rfl <;> simp [rank]) (fun p rest => ?_)
   unfold pieces;rw [if_pos ho];have he : [if o = 9 then wmin else wmax, [40]] ++ pieces vs a ++ [[44], [32]] ++ pieces vs b ++ [[41]] = (if o = 9 then wmin else wmax) :: [40] :: (pieces vs a ++ ([44] :: [32] :: (pieces vs b ++ [[41]]))) := by simp
   have hw : (if o = 9 then wmin else wmax) ≠ [32] /\ (if o = 9 then wmin else wmax) ≠ [45] /\ (if o = 9 then wmin else wmax) ≠ [33] := by
    split <;> decide
   rw [he, toks_one _ _ _ hw.1, toks_one _ _ _ (by decide), toks_append, toks_one _ _ _ (by decide), toks_blank, toks_append, toks_one _ _ _ (by decide)];simp only [List.cons_append, List.append_assoc];refine Pa.atm _ _ hw.2.1 hw.2.2 ?_;exact Pa.aTwo o _ _ _ (codeOf a) _ _ (codeOf b) _ rest ho (iha.whole _ _ (stop_of _ _ _ _ (by decide))) (ihb.whole _ _ (stop_of _ _ _ _ (by decide)))
  ·obtain ⟨h1, h5, hop, hno, hbl⟩ := sign_at o a b ho
   obtain ⟨r, hr⟩ : ∃ r, rank (.bin o a b) = r := ⟨_, rfl⟩;refine Der.of_level r hr (by omega) (fun p rest x hs hx => ?_);rw [hr] at h1 h5 hop hno;unfold pieces;rw [if_neg (by omega), hr, toks_bin _ _ _ _ hbl, List.append_assoc, List.cons_append];have hstop : ∀ k q R, r < k -> Stop k ((q, sign o) :: R) := fun k q R hk j hj _ => hno j (by omega)
   have hb : ∀ q, Pa vs na (.lv (r + 1)) (wt vs b (r + 1) q ++ rest) (.ok (codeOf b) rest) := by
    intro q;rcases Nat.lt_or_ge r 5 with h | h
    ·exact ihb.lv (r + 1) q rest _ (by omega) (by omega) (hs.mono (by omega)) (lo_stop (by omega) hs)
    ·obtain rfl : r = 5 := by omega
     exact Pa.six _ _ (ihb.on q rest)
   by_cases h3 : r = 3
   ·subst h3
    rw [if_pos rfl];have hfl : flag (.bin o a b) 3 = true := decide_eq_true ⟨rfl, hr⟩;rw [hfl] at hx;refine Pa.lvGo 3 _ (codeOf a) _ x (by decide) (by decide) (iha.lv 4 p _ _ (by decide) (by decide) (hstop 5 _ _ (by decide)) (lo_stop (by decide) (hstop 4 _ _ (by decide)))) ?_;exact Pa.loGo 3 false (codeOf a) _ (sign o) o _ (codeOf b) rest x hop (by simp) (hb _) hx
   ·rw [if_neg h3]
    have hfl : flag (.bin o a b) r = false := decide_eq_false (by omega);have hfa : flag a r = false := decide_eq_false (by omega);rw [hfl] at hx;refine iha.lv r p _ x h1 h5 (hstop _ _ _ (by omega)) ?_;rw [hfa];refine Pa.loGo r false (codeOf a) _ (sign o) o _ (codeOf b) rest x hop (by simp) (hb _) ?_;rw [decide_eq_false h3];exact hx
theorem back (vs : List Bs) (na : Int) (ha : Apart vs) (e : Ex) (ht : There vs na e) (rest : List Tk) (hs : Stop 1 rest) : Pa vs na (.lv 1) (toks 0 (pieces vs e) ++ rest) (.ok (codeOf e) rest) :=
 (der vs na ha e ht).whole 0 rest hs
theorem dig_length (n : Nat) (h : n <= 1099511627776) : (dig n).length <= 13 := by
 have key : ∀ d n, n < 10 ^ (d + 1) -> (dig n).length <= d + 1 := by
  intro d;induction d with
  | zero => intro n hn; unfold dig; rw [dif_pos (by omega)]; simp
  | succ d ih =>
   intro n hn;unfold dig;split
   ·simp
   ·rw [List.length_append]
    have := ih (n / 10) (by rw [Nat.div_lt_iff_lt_mul (by decide)]; rw [Nat.pow_succ] at hn; omega);simp only [List.length_cons, List.length_nil]; omega
 exact key 12 n (by omega)
theorem name_length (s : Bs) (hs : isName s = true) : s.length <= 24 := by
 match s, hs with
 | c :: r, hs =>
  simp only [isName, Bool.and_eq_true, decide_eq_true_eq] at hs;have := hs.1.1.1.1.1;simp only [List.length_cons]; omega
theorem wrap_length (r least : Nat) (p : List Bs) : (wrap r least p).flatten.length <= p.flatten.length + 2 := by
 unfold wrap;split
 ·simp
 ·omega
theorem sign_length (o : Int) : (sign o).length <= 2 := by
 unfold sign; repeat' split
 all_goals decide
theorem text_length (vs : List Bs) (na : Int) (e : Ex) (ht : There vs na e) : (pieces vs e).flatten.length + 2 <= 36 * (codeOf e).length := by
 induction e with
 | con n =>
  have hv := (isVal_iff n).1 ht;have := dig_length n.natAbs (by omega);unfold pieces codeOf;split <;> simp <;> omega
 | var k =>
  obtain ⟨s, hs, hn⟩ := ht;have hg : vs.getD k [] = s := by rw [List.getD_eq_getElem?_getD, hs]; rfl
  have := name_length s hn;unfold pieces codeOf;rw [hg];simp; omega
 | arg k =>
  have hd : dig k = [UInt8.ofNat (48 + k)] := by unfold dig; rw [dif_pos ht.2]
  unfold pieces codeOf;rw [hd];simp
 | un o a ih =>
  have ih := ih ht.2;have hw := wrap_length (rank a) 6 (pieces vs a);unfold pieces codeOf;split
  ·split
   ·simp; simp at ih; omega
   ·simp only [List.flatten_append, List.length_append]
    simp; simp at ih hw; omega
  ·simp only [List.flatten_append, List.length_append]
   simp; simp at ih hw; omega
 | ite a b c iha ihb ihc =>
  have iha := iha ht.1;have ihb := ihb ht.2.1;have ihc := ihc ht.2.2;unfold pieces codeOf;simp [wif]; simp at iha ihb ihc; omega
 | bin o a b iha ihb =>
  have iha := iha ht.2.1;have ihb := ihb ht.2.2;have hs := sign_length o;unfold pieces codeOf;split
  ·have hw : (if o = 9 then wmin else wmax).length = 3 := by split <;> rfl
   simp only [List.flatten_append, List.flatten_cons, List.flatten_nil, List.length_append, hw, List.length_cons, List.length_nil];omega
  ·have h1 := wrap_length (rank a) (if rank (.bin o a b) = 3 then 4 else rank (.bin o a b)) (pieces vs a)
   have h2 := wrap_length (rank b) (rank (.bin o a b) + 1) (pieces vs b);simp only [List.flatten_append, List.flatten_cons, List.flatten_nil, List.length_append, List.length_cons, List.length_nil];omega
end Go.Proofs.YtjcajeehgjpmmaaGreatDoor.I
namespace Go.Proofs.YtjcajeehgjpmmaaGreatDoor.K
open Go Go.RowKit
def Sl (w : World) (v : Value) (xs : List Value) : Prop :=
 ∃ a cap, v = .slice a xs.length cap /\ ∀ j u, xs[j]? = some u -> ∃ b off, a = some ⟨b, off, none⟩ /\ w.cell? ⟨b, off + j, none⟩ = some u
theorem Sl.nil (w : World) : Sl w (.slice none 0 0) [] := ⟨none, 0, rfl, fun j u h => by simp at h⟩
theorem Sl.below {w w' : World} {v : Value} {xs : List Value} (h : Sl w v xs) (hb : Below w.heap.size w w') : Sl w' v xs := by
 obtain ⟨a, cap, rfl, hc⟩ := h;refine ⟨a, cap, rfl, fun j u hj => ?_⟩;obtain ⟨b, off, ha, hcell⟩ := hc j u hj;exact ⟨b, off, ha, (hb.cell (p := ⟨b, off + j, none⟩) (World.block_lt_of_cell? w _ hcell)).trans hcell⟩
theorem Sl.row {w : World} {g cap : Nat} {cur : Array Value} {T : TypeId} {fr : Nat × Nat} {xs : List Value} (hg : w.heap[g]? = some (.cells cur T fr)) (ht : cur.toList.take xs.length = xs) :
 Sl w (.slice (some ⟨g, 0, none⟩) xs.length cap) xs := by
 refine ⟨_, cap, rfl, fun j u hj => ⟨g, 0, rfl, ?_⟩⟩;have := Lib.cells_of_row hg xs.length j u (by rw [ht]; exact hj);rw [Lib.addr_add] at this;exact this
theorem Sl.owns {w : World} {base : Nat} {e : TypeId} {v : Value} {n : Nat} {xs : List Value} (h : w.ownsRow base e 1 v n xs) : Sl w v xs := by
 obtain ⟨hl, h⟩ := h;rw [Nat.mul_one] at hl;rcases h with ⟨rfl, h0⟩ | ⟨g, cap, cur, rfl, _, hg, _, _, _, ht⟩
 ·have : xs = [] := List.eq_nil_of_length_eq_zero (by omega)
  subst this;exact Sl.nil w
 ·rw [<- hl]
  exact Sl.row hg (by rw [hl]; simpa using ht)
theorem row_cell {w : World} {g k : Nat} {cur : Array Value} {T : TypeId} (hg : w.heap[g]? = some (.cells cur T (0, 0))) (hk : k < cur.size) :
 ∃ old, w.cell? ⟨g, k, none⟩ = some old /\ w.frozen? ⟨g, k, none⟩ = false :=
 ⟨cur[k], by simp [World.cell?, hg, hk], by simp [World.frozen?, hg]⟩
theorem row_fill {w : World} {g k : Nat} {cur : Array Value} {T : TypeId} {xs : List Value} (hg : w.heap[g]? = some (.cells cur T (0, 0))) (hk : k < cur.size) (ht : cur.toList.take k = xs) (u : Value) :
 ∃ cur' : Array Value, (w.setCell ⟨g, k, none⟩ u).heap[g]? = some (.cells cur' T (0, 0)) /\ cur'.size = cur.size /\ cur'.toList.take (k + 1) = xs ++ [u] := by
 refine ⟨cur.setIfInBounds k u, heap_setCell_same w g k cur T u hg, by simp, ?_⟩;rw [Array.toList_setIfInBounds, List.take_add_one];have h1 : (cur.toList.set k u).take k = xs := by rw [List.take_set_of_le (Nat.le_refl _)]; exact ht
 have h2 : (cur.toList.set k u)[k]? = some u := by simp [hk]
 rw [h1, h2];rfl
open Go.ChangeShapes Go.WideShapes Go.ChangeAt
set_option linter.unusedVariables false
def SlI (w : World) (v : Value) (xs : List (Int × Int)) : Prop :=
 ∃ a cap, v = .slice a xs.length cap /\ ∀ j i, xs[j]? = some i -> ∃ b off, a = some ⟨b, off, none⟩ /\ w.cell? ⟨b, off + j * 2, none⟩ = some (.int .i64 i.1) /\ w.cell? ⟨b, off + j * 2 + 1, none⟩ = some (.int .i64 i.2)
theorem SlI.nil (w : World) : SlI w (.slice none 0 0) [] := ⟨none, 0, rfl, fun j i h => by simp at h⟩
theorem SlI.below {w w' : World} {v : Value} {xs : List (Int × Int)} (h : SlI w v xs) (hb : Below w.heap.size w w') : SlI w' v xs := by
 obtain ⟨a, cap, rfl, hc⟩ := h;refine ⟨a, cap, rfl, fun j i hj => ?_⟩;obtain ⟨b, off, ha, h1, h2⟩ := hc j i hj;exact ⟨b, off, ha, (hb.cell (p := ⟨b, off + j * 2, none⟩) (World.block_lt_of_cell? w _ h1)).trans h1, (hb.cell (p := ⟨b, off + j * 2 + 1, none⟩) (World.block_lt_of_cell? w _ h2)).trans h2⟩
theorem SlI.at {w : World} {a : Option Addr} {len cap : Nat} {xs : List (Int × Int)} {j : Nat} {i : Int × Int} (h : SlI w (.slice a len cap) xs) (hi : xs[j]? = some i) :
 ∃ b off, a = some ⟨b, off, none⟩ /\ w.cell? ⟨b, off + j * 2, none⟩ = some (.int .i64 i.1) /\ w.cell? ⟨b, off + j * 2 + 1, none⟩ = some (.int .i64 i.2) := by
 obtain ⟨a', cap', e, hc⟩ := h;cases e
 exact hc j i hi
theorem Sl.at {w : World} {a : Option Addr} {len cap : Nat} {xs : List Value} {j : Nat} {u : Value} (h : Sl w (.slice a len cap) xs) (hu : xs[j]? = some u) :
 ∃ b off, a = some ⟨b, off, none⟩ /\ w.cell? ⟨b, off + j, none⟩ = some u := by
 obtain ⟨a', cap', e, hc⟩ := h;cases e
 exact hc j u hu
theorem own_kept {w w' : World} {B : Nat} {e : TypeId} {k : Nat} {v : Value} {n : Nat} {xs : List Value} (h : w.ownsRow B e k v n xs) (hb : Below w.heap.size w w') : w'.ownsRow B e k v n xs :=
 h.kept (row := none) ⟨hb.os, hb.tape, hb.output, hb.size, fun j hj _ => hb.block j hj⟩ (by cases hv : v.ownBlock <;> simp)
def pairCells (xs : List (Int × Int)) : List Value := xs.flatMap fun i => [.int .i64 i.1, .int .i64 i.2]
theorem pairCells_length (xs : List (Int × Int)) : (pairCells xs).length = xs.length * 2 := by
 induction xs with
 | nil => rfl
 | cons i r ih => simp only [pairCells, List.flatMap_cons, List.length_append, List.length_cons, List.length_nil] at ih ⊢; omega
theorem pairCells_append (a b : List (Int × Int)) : pairCells (a ++ b) = pairCells a ++ pairCells b := by simp [pairCells]
theorem pairCells_at (xs : List (Int × Int)) (j : Nat) (i : Int × Int) (h : xs[j]? = some i) : (pairCells xs)[j * 2]? = some (.int .i64 i.1) /\ (pairCells xs)[j * 2 + 1]? = some (.int .i64 i.2) := by
 induction xs generalizing j with
 | nil => simp at h
 | cons x r ih =>
  have e : pairCells (x :: r) = .int .i64 x.1 :: .int .i64 x.2 :: pairCells r := by simp [pairCells]
  rw [e];cases j with
  | zero => simp at h; subst h; exact ⟨rfl, rfl⟩
  | succ j =>
   have h' : r[j]? = some i := by simpa using h
   have := ih j h';rw [show (j + 1) * 2 = j * 2 + 1 + 1 by omega];simpa using this
theorem SlI.owns {w : World} {base : Nat} {e : TypeId} {v : Value} {n : Nat} {xs : List (Int × Int)} (h : w.ownsRow base e 2 v n (pairCells xs)) : SlI w v xs := by
 obtain ⟨hl, h⟩ := h;rw [pairCells_length] at hl;rcases h with ⟨rfl, h0⟩ | ⟨g, cap, cur, rfl, _, hg, _, _, _, ht⟩
 ·have : xs = [] := List.eq_nil_of_length_eq_zero (by omega)
  subst this;exact SlI.nil w
 ·obtain rfl : n = xs.length := by omega
  refine ⟨_, cap, rfl, fun j i hj => ⟨g, 0, rfl, ?_⟩⟩;have hp := pairCells_at xs j i hj;rw [<- ht] at hp;have h1 := Lib.cells_of_row hg (xs.length * 2) (j * 2) _ hp.1;have h2 := Lib.cells_of_row hg (xs.length * 2) (j * 2 + 1) _ hp.2;rw [Lib.addr_add] at h1 h2;exact ⟨h1, h2⟩
section
variable {H : Type} {enc : TypeId × Value -> H} {P : Program} {W : World}
theorem pairs_field {t e f0 f1 : TypeId} {F0 F1 : Field} (ht : P.underlying t = some (.slice e)) (he : P.underlying e = some (.struct #[F0, F1])) (hf0 : F0.type = f0) (hf1 : F1.type = f1) (ho0 : F0.offset = 0) (ho1 : F1.offset = 1)
 (hu0 : P.underlying f0 = some (.int .i64)) (hu1 : P.underlying f1 = some (.int .i64)) (hc : P.cellsOf e = 2) (hc0 : P.cellsOf f0 = 1) (hc1 : P.cellsOf f1 = 1) {fuel : Nat} {v : Value} {y : DataW H × List MemPlace}
 (hf : DataW.trod enc P W 0 (fun _ => true) true fuel t [v] = some y) :
 ∃ xs : List (Int × Int), SlI W v xs /\ (∀ x ∈ xs, (-9223372036854775808 <= x.1 /\ x.1 <= 9223372036854775807) /\ (-9223372036854775808 <= x.2 /\ x.2 <= 9223372036854775807)) /\ xs.length <= maxLen := by
 rcases Go.Deep.open_slice ht hf with ⟨hcs, _⟩ | ⟨a, len, cap, m, n, D, Pl, hcs, _, hl, hm, hmm, _, hx⟩
 ·simp at hcs
  subst hcs;exact ⟨[], SlI.nil W, by simp, by simp⟩
 ·simp at hcs
  subst hcs;rw [hc] at hx;have hm' : m = cap := by simpa using hmm
  obtain ⟨X, hX⟩ := Go.Deep.choose_lt (α := Int × Int) (n := m) (p := fun i x => (W.cell? (a.add (i * 2)) = some (.int .i64 x.1) /\ W.cell? ((a.add (i * 2)).add 1) = some (.int .i64 x.2)) /\ (Lit.int .i64 x.1).wf = true /\ (Lit.int .i64 x.2).wf = true) (fun i hi => by
   obtain ⟨cs', h1, h2⟩ := hx i hi;obtain ⟨_, hlen, hcell⟩ := World.cells?_some h1;obtain ⟨y0, y1, n', _, _, g0, g1⟩ := trod_struct2 he h2;match cs', hlen with
   | [c0, c1], _ =>
    rw [ho0, hf0, hc0] at g0;rw [ho1, hf1, hc1] at g1;obtain ⟨n0, e0, _, w0⟩ := DataW.trod_int hu0 g0;obtain ⟨n1, e1, _, w1⟩ := DataW.trod_int hu1 g1;simp at e0 e1;subst e0 e1;refine ⟨(n0, n1), ⟨?_, ?_⟩, w0, w1⟩
    ·have := hcell 0 (by omega)
     simpa [Addr.add] using this
    ·have := hcell 1 (by omega)
     simpa using this)
  refine ⟨(List.range len).map X, ⟨some a, cap, by simp, fun j i hj => ?_⟩, fun x hxm => ?_, by simp; omega⟩
  ·have hjl : j < len := by
    have := (List.getElem?_eq_some_iff.1 hj).1;simpa using this
   rw [List.getElem?_map, List.getElem?_range hjl] at hj;have hj' : X j = i := by simpa using hj
   obtain ⟨⟨c1, c2⟩, _, _⟩ := hX j (by omega);rw [hj'] at c1 c2;obtain ⟨b, off, spot⟩ := a;have hs : spot = none := by
    obtain ⟨⟨z1, _⟩, _⟩ := hX 0 (by omega);have := World.cell?_spot z1;simpa [Addr.add] using this
   subst hs;rw [add_plain] at c1 c2;rw [add_plain] at c2;exact ⟨b, off, rfl, c1, c2⟩
  ·obtain ⟨j, hj, rfl⟩ := List.mem_map.1 hxm
   obtain ⟨_, w0, w1⟩ := hX j (by have := List.mem_range.1 hj; omega);simp [Lit.wf, IntKind.min, IntKind.max, IntKind.signed, IntKind.bits] at w0 w1;omega
end
end Go.Proofs.YtjcajeehgjpmmaaGreatDoor.K
