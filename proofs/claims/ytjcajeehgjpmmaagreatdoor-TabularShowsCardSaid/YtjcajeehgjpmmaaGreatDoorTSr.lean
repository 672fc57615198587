/-
  Layer 6, the document's Show of a table that may be: its parts, plainly and as contracts.
-/
import Derived.Test.YtjcajeehgjpmmaaGreatDoorTSh
import Derived.Test.YtjcajeehgjpmmaaGreatDoorIRefS
namespace Go.Proofs.YtjcajeehgjpmmaaGreatDoor.T
open Go Go.RowKit B K E R
set_option linter.unusedVariables false
set_option maxRecDepth 100000
def gdText (t : Tb) (q : Rl) (l : List Gd) : Bs := l.flatMap fun g => lnGuard t q g ++ [10]
def spText (t : Tb) (q : Rl) (l : List Sp) : Bs := l.flatMap fun p => lnStep t q p ++ [10]
def ruleText (t : Tb) (q : Rl) : Bs := (rlLines t q).flatMap fun l => l ++ [10]
def rulesText (t : Tb) (l : List Rl) : Bs := l.flatMap (ruleText t)
def fromText (t : Tb) (l : List Int) (k : Nat) : Bs := if k = 0 /\ l ≠ [] then 32 :: wFrom ++ behind (l.map (at_ t.states)) else behind ((l.drop k).map (at_ t.states))
def setsText (t : Tb) (q : Rl) (l : List Se) (k : Nat) : Bs := if k = 0 then Lib.join (l.map (setText t q)) [59] else (l.drop k).flatMap fun s => 59 :: setText t q s
theorem shown_parts (t : Tb) : shownT t = wStates ++ (behind t.states ++ ([10, 118, 97, 114, 115] ++ (behind (starts t) ++ ([10] ++ rulesText t t.rules)))) := by
 unfold shownT lines lnStates lnVars rulesText ruleText;rw [List.flatMap_cons, List.flatMap_cons, List.flatMap_assoc];simp [wVars]
theorem rule_parts (t : Tb) (q : Rl) : ruleText t q = [114, 117, 108, 101, 32] ++ q.name ++ [32] ++ num q.args ++ (fromText t q.from_ 0 ++ ([10] ++ (gdText t q q.guards ++ spText t q q.steps))) := by
 unfold ruleText rlLines gdText spText lnRule fromText;cases hf : q.from_ with
 | nil => simp [behind, wRule, List.flatMap_map]
 | cons x l => simp [behind, wRule, List.flatMap_map]
theorem guard_parts (t : Tb) (q : Rl) (g : Gd) : lnGuard t q g ++ [10] = [103, 117, 97, 114, 100, 32] ++ num g.code ++ [32] ++ expr t q g.test ++ [10] := by
 simp [lnGuard, behind, wGuard]
theorem step_parts (t : Tb) (q : Rl) (p : Sp) : lnStep t q p ++ [10] = [115, 116, 101, 112, 32] ++ toText t p ++ (setsText t q p.sets 0 ++ [10]) := by
 simp [lnStep, behind, wStep, setsText]
theorem join_first (x : Bs) (l : List Bs) : Lib.join (x :: l) [59] = x ++ l.flatMap fun s => 59 :: s := by
 induction l generalizing x with
 | nil => simp [Lib.join]
 | cons y l ih =>
  have e : Lib.join (x :: y :: l) [59] = x ++ [59] ++ Lib.join (y :: l) [59] := by simp [Lib.join]
  rw [e, ih]; simp
theorem drop_at {X : Type} {l : List X} {k : Nat} {x : X} (h : l[k]? = some x) : l.drop k = x :: l.drop (k + 1) := by
 obtain ⟨hlt, rfl⟩ := List.getElem?_eq_some_iff.1 h;exact List.drop_eq_getElem_cons hlt
theorem behind_at {l : List Bs} {k : Nat} {x : Bs} (h : l[k]? = some x) : behind (l.drop k) = [32] ++ x ++ behind (l.drop (k + 1)) := by
 rw [drop_at h]; simp [behind]
theorem behind_end (l : List Bs) : behind (l.drop l.length) = [] := by rw [List.drop_length]; rfl
theorem rules_at (t : Tb) {l : List Rl} {k : Nat} {x : Rl} (h : l[k]? = some x) : rulesText t (l.drop k) = ruleText t x ++ rulesText t (l.drop (k + 1)) := by
 rw [drop_at h]; simp [rulesText]
theorem gd_at (t : Tb) (q : Rl) {l : List Gd} {k : Nat} {x : Gd} (h : l[k]? = some x) : gdText t q (l.drop k) = (lnGuard t q x ++ [10]) ++ gdText t q (l.drop (k + 1)) := by
 rw [drop_at h]; simp [gdText]
theorem sp_at (t : Tb) (q : Rl) {l : List Sp} {k : Nat} {x : Sp} (h : l[k]? = some x) : spText t q (l.drop k) = (lnStep t q x ++ [10]) ++ spText t q (l.drop (k + 1)) := by
 rw [drop_at h]; simp [spText]
theorem from_at (t : Tb) {l : List Int} {k : Nat} {x : Int} (h : l[k]? = some x) : fromText t l k = (if k = 0 then [32, 102, 114, 111, 109] else []) ++ ([32] ++ at_ t.states x ++ fromText t l (k + 1)) := by
 unfold fromText;by_cases hk : k = 0
 ·subst hk
  cases l with
  | nil => simp at h
  | cons y l => simp at h; subst h; simp [behind, wFrom]
 ·rw [if_neg (fun e => hk e.1), if_neg hk, if_neg (by omega), drop_at h]; simp [behind]
theorem from_end (t : Tb) (l : List Int) : fromText t l l.length = [] := by
 unfold fromText;rw [if_neg (fun e => e.2 (List.length_eq_zero_iff.1 e.1)), List.drop_length]; rfl
theorem set_parts (t : Tb) (q : Rl) (s : Se) : setText t q s = [32] ++ at_ t.vars s.var ++ [32, 58, 61, 32] ++ expr t q s.value := by
 simp [setText, behind, wSet]
theorem sets_at (t : Tb) (q : Rl) {l : List Se} {k : Nat} {x : Se} (h : l[k]? = some x) : setsText t q l k = (if k = 0 then [] else [59]) ++ (setText t q x ++ setsText t q l (k + 1)) := by
 unfold setsText;by_cases hk : k = 0
 ·subst hk
  cases l with
  | nil => simp at h
  | cons y l => simp at h; subst h; rw [if_pos rfl, if_pos rfl, if_neg (by omega), List.map_cons, join_first]; simp [List.flatMap_map]
 ·rw [if_neg hk, if_neg hk, if_neg (by omega), drop_at h]; simp
theorem sets_end (t : Tb) (q : Rl) (l : List Se) : setsText t q l l.length = [] := by
 unfold setsText;by_cases hk : l.length = 0
 ·rw [if_pos hk, List.length_eq_zero_iff.1 hk]; rfl
 ·rw [if_neg hk, List.drop_length]; rfl
theorem start_at {t : Tb} {k : Nat} {y : Bs} {m : Int} (h : t.vars[k]? = some y) (hm : t.start[k]? = some m) : (starts t)[k]? = some (y ++ 61 :: num m) := by
 unfold starts;rw [List.getElem?_map];have : (t.vars.zip t.start)[k]? = some (y, m) := by rw [List.getElem?_zip_eq_some]; exact ⟨h, hm⟩
 rw [this]; rfl
theorem starts_len {t : Tb} (h : t.start.length = t.vars.length) : (starts t).length = t.vars.length := by
 unfold starts; rw [List.length_map, List.length_zip]; omega
theorem add_lit {a l : Bs} {x : ByteArray} (hx : str l = x) (h : a.length + l.length <= 140737488355328) (W : World) : (Op.stringOp .add (str a) x).run Tryz.prog W = .ok (.string (str (a ++ l))) W := by
 subst hx;rw [run_string_add_sum W _ _ (by rw [str_size, str_size]; omega), <- str_append]
theorem add_to {a l u T r : Bs} (x : ByteArray) (hx : str l = x) (hu : a ++ l = u) (hT : u ++ r = T) (h : T.length <= 140737488355328) : ∀ W, (Op.stringOp .add (str a) x).run Tryz.prog W = .ok (.string (str u)) W := fun W => by
 subst hu hT;rw [List.length_append, List.length_append] at h;exact add_lit hx (by omega) W
theorem below_drewN {B : Nat} {w w' : World} (h : Below B w w') (n : Nat) : Below B w (w'.drewN n) := by
 induction n with
 | zero => exact h
 | succ n ih => exact ih.drew
theorem num_len {m : Int} (h : m.natAbs <= 1099511627776) : (num m).length <= 20 := by
 unfold num;have := I.dig_length m.natAbs (by omega);split
 ·simp only [List.length_cons]; omega
 ·omega
set_option maxHeartbeats 800000 in
theorem refNumber6_any (m : Int) (h1 : -1099511627776 <= m) (h2 : m <= 1099511627776) (w : World) :
 Calls Tryz.prog 21 #[.int .i64 m] w fun z w' => z = .returned (sv (num m)) /\ Below w.heap.size w w' := by
 by_cases hm : m < 0
 ·obtain ⟨k, rfl⟩ : ∃ k : Nat, m = -(k : Int) := ⟨m.natAbs, by omega⟩
  have HD := Lib.hid (fun W => I.refDigits_any k W (by omega));have hn : num (-(k : Int)) = [45] ++ I.dig k := by unfold num; rw [if_pos hm]; simp
  have hl : (I.dig k).length <= 20 := by have := num_len (m := -(k : Int)) (by omega); rw [hn] at this; simp at this; omega
  obtain ⟨A, hA⟩ : ∃ A, I.dig k = A := ⟨_, rfl⟩;obtain ⟨U, hU⟩ : ∃ U, ([45] : Bs) ++ A = U := ⟨_, rfl⟩;rw [hA] at HD hl hn;rw [hU] at hn;have e1 : ∀ W, (Op.stringOp .add (ByteArray.mk #[45]) (str A)).run Tryz.prog W = .ok (.string (str U)) W := fun W => by rw [<- hU]; exact add_lit (a := [45]) rfl (by simp; omega) W
  have hwr : IntKind.i64.wrap (k : Int) = (k : Int) := IntWalk.i64_in _ (by omega);have hng : IntKind.i64.wrap (- -(k : Int)) = (k : Int) := by rw [Int.neg_neg]; exact hwr
  have HN := Lib.hid hn;clear hn hl hA hU;go_enter Tryz.func21, Tryz.ntmps21;go_wp2_with (go_at_call 48; refine (HD.out _).mono ?_; rintro _ w1 ⟨rfl, hb1⟩; have HB1 := Lib.hid hb1; clear hb1)
  go_ret;exact ⟨by rw [HN.out]; rfl, HB1.out⟩
 ·obtain ⟨k, rfl⟩ : ∃ k : Nat, m = (k : Int) := ⟨m.natAbs, by omega⟩
  have HD := Lib.hid (I.refDigits_any k w (by omega));have HN := Lib.hid (show num (k : Int) = I.dig k by unfold num; rw [if_neg hm]; rfl);go_enter Tryz.func21, Tryz.ntmps21;go_wp2_with (go_at_call 48; refine HD.out.mono ?_; rintro _ w1 ⟨rfl, hb1⟩; have HB1 := Lib.hid hb1; clear hb1)
  go_ret;exact ⟨by rw [HN.out]; rfl, HB1.out⟩
set_option maxHeartbeats 800000 in
theorem refText6_any (code : List In) (vs : List Bs) (na : Int) (v s x n r : Value) (w : World) (hs : SlI w v code) (hx : I.Names w x vs) (hl : code.length <= 9223372036854775807) (hvs : vs.length <= 9223372036854775807) (hna : na <= 9223372036854775807) (hV : ∀ y ∈ vs, y.length <= 1000000) :
 Calls Tryz.prog 22 #[v, .agg #[s, x, n, r], .int .i64 na] w fun z w' => z = .returned (sv (I.showOf vs na code).1) /\ Below w.heap.size w w' := by
 obtain ⟨W1, hW1⟩ : ∃ W, w.alloc (.cells #[s, x, n, r] 26) = W := ⟨_, rfl⟩;obtain ⟨g1, hg1⟩ : ∃ g, w.heap.size = g := ⟨_, rfl⟩;have hB1 : Below w.heap.size w W1 := by rw [<- hW1]; exact below_alloc _ _
 have a1 : W1.cell? ⟨g1, 1, none⟩ = some x := by rw [<- hW1, <- hg1]; exact box_cell _ _ _ _ _ rfl
 have HS := Lib.hid (I.refShow_any code vs na v x W1 (SlI.below hs hB1) (Sl.below hx hB1) hl hvs hna 1000000 hV (by decide));have HB1 := Lib.hid hB1;obtain ⟨ac, cc, rfl, -⟩ := hs;obtain ⟨ax, cx, rfl, -⟩ := hx;obtain ⟨lx, hlx⟩ : ∃ l, (vs.map sv).length = l := ⟨_, rfl⟩;rw [hlx] at HS a1 hW1;rw [hlx];obtain ⟨lc, hlc⟩ : ∃ l, code.length = l := ⟨_, rfl⟩;rw [hlc] at HS;rw [hlc];obtain ⟨E1, hE1⟩ : ∃ a, (I.showOf vs na code).1 = a := ⟨_, rfl⟩;obtain ⟨E2, hE2⟩ : ∃ a, (I.showOf vs na code).2 = a := ⟨_, rfl⟩;rw [hE1, hE2] at HS;rw [hE1];unfold sv;clear hlx hlc hE1 hE2 hB1 hvs hna hV hl;go_enter Tryz.func22, Tryz.ntmps22;go_wp2_with (go_at_call 49; refine HS.out.mono ?_; rintro _ w2 ⟨rfl, hb2⟩; have HB2 := Lib.hid (HB1.out.trans (hb2.mono HB1.out.size)); clear hb2)
 go_ret;exact ⟨rfl, HB2.out⟩
end Go.Proofs.YtjcajeehgjpmmaaGreatDoor.T
