/-
  Layer 6: where a rule is from.
-/
import Derived.Test.YtjcajeehgjpmmaaGreatDoorIPShH
import Derived.Test.YtjcajeehgjpmmaaGreatDoorTRead
namespace Go.Proofs.YtjcajeehgjpmmaaGreatDoor.I
open Go Go.RowKit B K E
set_option linter.unusedVariables false
theorem lx_len {p : Nat} {u : Bs} {ts : List Tk} (h : Lx p u ts) : ts.length <= u.length + 1 := by
 induction h with
 | nil => simp
 | blank _ _ _ _ ih => simp only [List.length_cons]; omega
 | word p w r ts h1 _ _ _ ih =>
  have : 0 < w.length := List.length_pos_iff.2 h1;simp only [List.length_cons, List.length_append]; omega
set_option maxHeartbeats 2000000 in
set_option maxRecDepth 100000 in
theorem parse_own (t : Bs) (vs : List Bs) (na : Int) (ts : List Tk) (c : List In) (z : Nat) (hcl : (c.length : Int) <= 31) (v1 : Value) (w : World) (hg : Glob w) (hlx : Lx 0 t ts) (htl : t.length <= 2048) (hvs : Names w v1 vs) (hvl : vs.length <= 1000000)
 (hpa : Pa vs na (.lv 1) ts (.ok c [(z, [])])) (htsl : ts.length <= 1000000) :
 Calls Tryz.prog 142 #[sv t, v1, .int .i64 na] w fun x w' => (∃ v, x = .returned (.tuple #[v, .int .i64 0, .int .i64 0]) /\ w'.ownsRow (w.heap.size + 1) 100 2 v c.length (pairCells c)) /\ Below w.heap.size w w' := by
 obtain ⟨⟨p', s'⟩, r', hts⟩ := lx_cons hlx;have HD := Lib.hid (does_any (B := w.heap.size) (t := t) hg hvs hvl htl hpa);have hmade := rd_made w t v1 na;have HA := Lib.hid (advance_any _ hg hmade (Nat.zero_le _) (hts ▸ hlx) htl);have hsz : (str t).size = t.length := str_size t;have hle : ¬ 2048 < (t.length : Int) := by omega
 have HTS := Lib.hid (show ts = (p', s') :: r' /\ ts.length <= 1000000 from ⟨hts, htsl⟩);obtain ⟨ad, cap, hv1, hvs2⟩ := hvs;obtain ⟨n, hn⟩ : ∃ n, (vs.map sv).length = n := ⟨_, rfl⟩;rw [hn] at hv1;subst hv1;unfold sv;unfold rdCells sv at HA;clear hg hlx htl hvl hpa hts htsl hmade hn hvs2;go_enter Tryz.func142, Tryz.ntmps142;go_wp2_with (go_at_call 175; refine HA.out.mono ?_; rintro _ w1 ⟨rfl, hr1, ha1⟩; have HR1 := Lib.hid hr1; have HA1 := Lib.hid ha1; clear hr1 ha1)
 refine (HD.out (fun _ => none) [] w1 p' s' r' HTS.out.1 HA1.out HR1.out (by have := HTS.out.2; simp only [List.length_nil]; omega)).mono ?_;rintro _ w2 ⟨rfl, p2, s2, r2, e2, a2, hr2⟩;cases e2
 obtain ⟨hz, _⟩ := a2.done;subst hz;have HE := Lib.hid (end_ok w2 hr2);clear hr2 HD HTS HR1 HA1 HA a2;go_wp2_with (go_at_call 177; refine HE.out.mono ?_; rintro _ w3 ⟨rfl, hr3⟩; obtain ⟨v, ⟨_, _, _, _, _, c5, _⟩, ho, _⟩ := hr3.cells; obtain ⟨av, cv, hv⟩ : ∃ av cv, v = .slice av c.length cv := own_form ho; subst hv; have HO := Lib.hid ho; have HB3 := Lib.hid hr3.below; clear hr3 ho)
 go_ret3;exact ⟨⟨_, rfl, HO.out⟩, HB3.out⟩
end Go.Proofs.YtjcajeehgjpmmaaGreatDoor.I
namespace Go.Proofs.YtjcajeehgjpmmaaGreatDoor.T
open Go Go.RowKit B K E R
set_option linter.unusedVariables false
theorem runN_ended {P : Program} {m : Machine} {a b : Nat} {o : Outcome} {w : World} (h : runN P a m = .ended o w) : runN P (a + b) m = .ended o w := by
 rw [runN_add, h]
theorem steps_done {P : Program} {m : Machine} {fr : Frame} {w : World} {v : Value} (h : Steps P m (lone fr [] w)) (hl : fr.leaving P w (.returned v)) (hi : P.inits.idxOf? fr.fn = none) : ∃ n, runN P n m = .ended (.done v) w := by
 obtain ⟨n, hn⟩ := h;refine ⟨n + 1, ?_⟩;rw [runN_add, hn];show runN P 1 (lone fr [] w) = _
 simp only [runN];rw [step_leave_done hl hi]
theorem calls_same {P : Program} {f : FuncId} {args : Array Value} {w : World} {R1 R2 : Ending -> World -> Prop} (hi : P.inits.idxOf? f = none) (h1 : Calls P f args w R1) (h2 : Calls P f args w R2) (g1 : ∀ z w', R1 z w' -> ∃ v, z = .returned v) (g2 : ∀ z w', R2 z w' -> ∃ v, z = .returned v) :
 ∃ v w', R1 (.returned v) w' /\ R2 (.returned v) w' := by
 obtain ⟨e1, w1, fr1, r1, c1, f1, l1⟩ := h1 [];obtain ⟨e2, w2, fr2, r2, c2, f2, l2⟩ := h2 [];obtain ⟨v1, rfl⟩ := g1 _ _ r1;obtain ⟨v2, rfl⟩ := g2 _ _ r2;obtain ⟨n1, e1⟩ := steps_done c1 l1 (by rw [f1]; exact hi);obtain ⟨n2, e2⟩ := steps_done c2 l2 (by rw [f2]; exact hi);have a1 := runN_ended (b := n2) e1;have a2 := runN_ended (b := n1) e2;rw [Nat.add_comm n2 n1, a1] at a2;simp only [Stepped.ended.injEq, Outcome.done.injEq] at a2;obtain ⟨rfl, rfl⟩ := a2;exact ⟨v1, w1, r1, r2⟩
theorem sli_one {w : World} {v : Value} {c c' : List In} (h : SlI w v c) (h' : SlI w v c') : c = c' := by
 obtain ⟨a, cap, rfl, hc⟩ := h;obtain ⟨a', cap', e, hc'⟩ := h';injection e with e1 e2 e3
 subst e1;apply List.ext_getElem?
 intro j;by_cases hj : j < c.length
 ·have hj' : j < c'.length := by omega
  obtain ⟨b, off, rfl, h1, h2⟩ := hc j c[j] (List.getElem?_eq_getElem hj);obtain ⟨b', off', e, h1', h2'⟩ := hc' j c'[j] (List.getElem?_eq_getElem hj');cases e
  rw [h1] at h1';rw [h2] at h2';injection h1' with h1'
  injection h2' with h2'
  injection h1' with _ h1'
  injection h2' with _ h2'
  rw [List.getElem?_eq_getElem hj, List.getElem?_eq_getElem hj'];exact congrArg some (Prod.ext h1' h2')
 ·rw [List.getElem?_eq_none (by omega), List.getElem?_eq_none (by omega)]
structure Was (vs : List Bs) (na : Int) (s : Bs) (c : List In) : Prop where
 chk : (check c vs.length na).2 = 0
 txt : s = (I.showOf vs na c).1
 na10 : na <= 10
 apart : I.Apart vs
 names : ∀ x ∈ vs, I.isName x = true
theorem was_pa {vs : List Bs} {na : Int} {s : Bs} {c : List In} (h : Was vs na s c) : I.Lx 0 s (I.toks 0 (I.pieces vs (I.exOf c)) ++ [(s.length, [])]) /\ I.Pa vs na (.lv 1) (I.toks 0 (I.pieces vs (I.exOf c)) ++ [(s.length, [])]) (.ok c [(s.length, [])]) /\ s.length <= 2048 /\ c.length <= 31 /\ 0 <= na := by
 have h0 : (I.showOf vs na c).2 = 0 := by rw [I.showOf_good _ _ _ h.chk]
 obtain ⟨q0, q31, qt, q2048, qth, qnm, qcode⟩ := I.shown vs na c h0 h.na10 h.apart h.names;have qt' : s = I.text vs (I.exOf c) := h.txt.trans qt;refine ⟨?_, ?_, by rw [qt']; exact q2048, q31, q0⟩
 ·have h := I.text_words vs (I.exOf c) qnm 0 [] (Or.inl rfl) [(s.length, [])] (by rw [<- qt', Nat.zero_add]; exact I.Lx.nil _)
  rw [<- qt', List.append_nil] at h;exact h
 ·have h := I.back vs na h.apart (I.exOf c) qth [(s.length, [])] (fun j _ _ => I.opAt_none j [] (by decide))
  rw [qcode] at h;exact h
theorem was_calls {vs : List Bs} {na : Int} {s : Bs} {c : List In} (h : Was vs na s c) (hvl : vs.length <= 1000000) {v1 : Value} {w : World} (hg : I.Glob w) (hn : I.Names w v1 vs) :
 Calls Tryz.prog 142 #[sv s, v1, .int .i64 na] w fun x w' => (∃ v, x = .returned (.tuple #[v, .int .i64 0, .int .i64 0]) /\ w'.ownsRow (w.heap.size + 1) 100 2 v c.length (pairCells c)) /\ Below w.heap.size w w' := by
 obtain ⟨h1, h2, h3, h4, h5⟩ := was_pa h;exact I.parse_own s vs na _ c s.length (by omega) v1 w hg h1 h3 hn hvl h2 (by have := I.lx_len h1; omega)
theorem was_one {vs : List Bs} {na : Int} {s : Bs} {c c' : List In} (h : Was vs na s c) (h' : Was vs na s c') (hvl : vs.length <= 1000000) {v1 : Value} {w : World} (hg : I.Glob w) (hn : I.Names w v1 vs) : c = c' := by
 obtain ⟨v, w', ⟨⟨r, e, o⟩, -⟩, ⟨⟨r', e', o'⟩, -⟩⟩ := calls_same (by kernel_rfl) (was_calls h hvl hg hn) (was_calls h' hvl hg hn) (fun z w' ⟨⟨v, hz, _⟩, _⟩ => ⟨_, hz⟩) (fun z w' ⟨⟨v, hz, _⟩, _⟩ => ⟨_, hz⟩);rw [e] at e';injection e' with e'
 injection e' with e'
 have : r = r' := by simpa using e'
 subst this;exact sli_one (SlI.owns o) (SlI.owns o')
open Classical in
noncomputable def ipBack : Ip := fun s vs na => if h : ∃ c, Was vs na s c then some (h.choose, 0) else none
theorem ipBack_ok : IpOk ipBack where
 call := fun s vs na r v1 w hr hg hn hs hv hnm h0 ha => by
  unfold ipBack at hr;by_cases h : ∃ c, Was vs na s c
  ·rw [dif_pos h] at hr
   injection hr with hr
   subst hr;refine (was_calls h.choose_spec (by omega) hg hn).mono fun z w' ⟨⟨v, hz, ho⟩, hb⟩ => ⟨v, 0, hz, ?_, fun _ => ?_, hb⟩
   ·obtain ⟨a, c, hv⟩ := I.own_form ho
    exact ⟨_, _, _, hv⟩
   ·rcases ho.2 with h5 | ⟨g, cap, cur, h5, h6, h7⟩
    ·exact ⟨ho.1, Or.inl h5⟩
    ·exact ⟨ho.1, Or.inr ⟨g, cap, cur, h5, by omega, h7⟩⟩
  ·rw [dif_neg h] at hr; cases hr
theorem ipBack_is {vs : List Bs} {na : Int} {c : List In} (hvl : vs.length <= 1000000) {v1 : Value} {w : World} (hg : I.Glob w) (hn : I.Names w v1 vs) (hc : (check c vs.length na).2 = 0) (h10 : na <= 10) (hap : I.Apart vs) (hnm : ∀ x ∈ vs, I.isName x = true) : ipBack (I.showOf vs na c).1 vs na = some (c, 0) := by
 have hw : Was vs na (I.showOf vs na c).1 c := ⟨hc, rfl, h10, hap, hnm⟩;have h : ∃ c', Was vs na (I.showOf vs na c).1 c' := ⟨c, hw⟩;unfold ipBack;rw [dif_pos h, was_one h.choose_spec hw hvl hg hn]
def Goes (ip : Ip) (ls : List Bs) (t : Tb) (ls' : List Bs) (t' : Tb) : Prop := ∀ n said, 2 <= said -> ∃ n' said', 2 <= said' /\ readL ip ls n t said = readL ip ls' n' t' said'
theorem Goes.refl (ip : Ip) (ls : List Bs) (t : Tb) : Goes ip ls t ls t := fun n said h => ⟨n, said, h, rfl⟩
theorem Goes.trans {ip : Ip} {a b c : List Bs} {t u v : Tb} (h : Goes ip a t b u) (g : Goes ip b u c v) : Goes ip a t c v := fun n said hs => by
 obtain ⟨n1, s1, h1, e1⟩ := h n said hs;obtain ⟨n2, s2, h2, e2⟩ := g n1 s1 h1;exact ⟨n2, s2, h2, e1.trans e2⟩
theorem readL_one {ip : Ip} {x : Bs} (hx : OkL x) (ls : List Bs) (n : Nat) (t u : Tb) (said : Nat) (h : line ip t said x = some (.ok u)) : readL ip (x :: ls) n t said = readL ip ls (n + 1) u (said + 1) := by
 have e : trim x = x := trim_self x hx.head hx.last;rw [readL, e, if_neg hx.ne, h]
theorem Goes.one {ip : Ip} {x : Bs} (hx : OkL x) (ls : List Bs) {t u : Tb} (h : ∀ said, 2 <= said -> line ip t said x = some (.ok u)) : Goes ip (x :: ls) t ls u :=
 fun n said hs => ⟨n + 1, said + 1, by omega, readL_one hx ls n t u said (h said hs)⟩
section
variable {t : Tb} (m : May t) {ip : Ip} (hip : ∀ c na, 0 <= na -> na <= 4 -> (check c t.vars.length na).2 = 0 -> ip (I.showOf t.vars na c).1 t.vars na = some (c, 0))
include m
theorem okl_at {x : Int} (h : 0 <= x /\ x < t.states.length) : OkL (at_ t.states x) := okl_name (name_at m h).2
theorem okl_rule {r : Rl} (hr : MayR t r) : OkL (lnRule t r) := by
 refine okl_behind (okl_key _ ⟨kRule, by decide⟩) _ fun x hx => ?_
 rcases List.mem_cons.1 hx with rfl | hx
 ·exact okl_name hr.name
 rcases List.mem_cons.1 hx with rfl | hx
 ·exact okl_num _
 split at hx
 ·cases hx
 ·rcases List.mem_cons.1 hx with rfl | hx
  ·exact okl_key _ ⟨kFrom, by decide⟩
  ·obtain ⟨y, hy, rfl⟩ := List.mem_map.1 hx
   exact okl_at m (hr.from_ y hy)
theorem okl_guard {r : Rl} (hr : MayR t r) {g : Gd} (hg : g ∈ r.guards) : OkL (lnGuard t r g) := by
 refine okl_behind (okl_key _ ⟨kGuard, by decide⟩) _ fun x hx => ?_
 rcases List.mem_cons.1 hx with rfl | hx
 ·exact okl_num _
 ·rcases List.mem_cons.1 hx with rfl | hx
  ·exact (ok_expr m hr.args.1 hr.args.2 (hr.guards g hg).2).l
  ·cases hx
theorem okl_sets {r : Rl} (hr : MayR t r) : ∀ (l : List Se) (a : Bs), OkL a -> (∀ s ∈ l, (0 <= s.var /\ s.var < t.vars.length) /\ (check s.value t.vars.length r.args).2 = 0) -> OkL (a ++ Lib.joinTail [59] (l.map (setText t r)))
 | [], a, ha, _ => by show OkL (a ++ []); rw [List.append_nil]; exact ha
 | s :: l, a, ha, h => by
  obtain ⟨h1, h2⟩ := h s List.mem_cons_self;have hv := okl_name (var_at m h1).2;have hs : OkL (a ++ ([59, 32] ++ at_ t.vars s.var)) := ha.mid (by decide) hv;have hs2 : OkL (a ++ ([59, 32] ++ at_ t.vars s.var) ++ ([32] ++ wSet)) := hs.mid (by decide) (okl_key _ ⟨kSet, by decide⟩);have hs3 : OkL (a ++ ([59, 32] ++ at_ t.vars s.var) ++ ([32] ++ wSet) ++ ([32] ++ expr t r s.value)) := hs2.mid (by decide) (ok_expr m hr.args.1 hr.args.2 h2).l;have := okl_sets hr l _ hs3 fun x hx => h x (List.mem_cons_of_mem _ hx)
  have e : a ++ Lib.joinTail [59] ((s :: l).map (setText t r)) = a ++ ([59, 32] ++ at_ t.vars s.var) ++ ([32] ++ wSet) ++ ([32] ++ expr t r s.value) ++ Lib.joinTail [59] (l.map (setText t r)) := by
   simp [Lib.joinTail, setText_is t]
  rw [e]; exact this
theorem okl_step {r : Rl} (hr : MayR t r) {p : Sp} (hp : p ∈ r.steps) : OkL (lnStep t r p) := by
 obtain ⟨hto, hs⟩ := hr.steps p hp;obtain ⟨_, g2, g3⟩ := goes_to m hto [] p rfl;have h1 : OkL (wStep ++ ([32] ++ toText t p)) := (okl_key _ ⟨kStep, by decide⟩ : OkL wStep).mid (by decide) (okl_key _ ⟨g2, g3⟩);have e : wStep ++ behind [toText t p] = wStep ++ ([32] ++ toText t p) := by simp [behind]
 unfold lnStep;rw [e];cases hsets : p.sets with
 | nil => show OkL (_ ++ []); rw [List.append_nil]; exact h1
 | cons s l =>
  rw [hsets] at hs;obtain ⟨h2, h3⟩ := hs s List.mem_cons_self;have hv := okl_name (var_at m h2).2;have k1 : OkL (wStep ++ ([32] ++ toText t p) ++ ([32] ++ at_ t.vars s.var)) := h1.mid (by decide) hv;have k2 : OkL (wStep ++ ([32] ++ toText t p) ++ ([32] ++ at_ t.vars s.var) ++ ([32] ++ wSet)) := k1.mid (by decide) (okl_key _ ⟨kSet, by decide⟩);have k3 : OkL (wStep ++ ([32] ++ toText t p) ++ ([32] ++ at_ t.vars s.var) ++ ([32] ++ wSet) ++ ([32] ++ expr t r s.value)) := k2.mid (by decide) (ok_expr m hr.args.1 hr.args.2 h3).l;have := okl_sets m hr l _ k3 fun x hx => hs x (List.mem_cons_of_mem _ hx)
  have e : wStep ++ ([32] ++ toText t p) ++ Lib.join ((s :: l).map (setText t r)) [59] = wStep ++ ([32] ++ toText t p) ++ ([32] ++ at_ t.vars s.var) ++ ([32] ++ wSet) ++ ([32] ++ expr t r s.value) ++ Lib.joinTail [59] (l.map (setText t r)) := by
   rw [List.map_cons, Lib.join_cons, setText_is t];simp
  rw [e]; exact this
theorem okl_lines : ∀ x ∈ lines t, OkL x := by
 intro x hx;rcases List.mem_cons.1 hx with rfl | hx
 ·exact okl_behind (okl_key _ ⟨kStates, by decide⟩) _ fun y hy => okl_name (m.sname y hy)
 rcases List.mem_cons.1 hx with rfl | hx
 ·exact okl_behind (okl_key _ ⟨kVars, by decide⟩) _ fun y hy => (start_wd m y hy).2
 obtain ⟨r, hr, hx⟩ := List.mem_flatMap.1 hx;have hr := m.rule r hr;rcases List.mem_cons.1 hx with rfl | hx
 ·exact okl_rule m hr
 rcases List.mem_append.1 hx with hx | hx
 ·obtain ⟨g, hg, rfl⟩ := List.mem_map.1 hx
  exact okl_guard m hr hg
 ·obtain ⟨p, hp, rfl⟩ := List.mem_map.1 hx
  exact okl_step m hr hp
include hip
theorem goes_guards {r : Rl} (hr : MayR t r) (rs : List Rl) (ls : List Bs) : ∀ (gs : List Gd) (q : Rl), (∀ g ∈ gs, g ∈ r.guards) -> q.args = r.args -> q.steps = [] ->
 Goes ip (gs.map (lnGuard t r) ++ ls) ⟨t.states, t.vars, t.start, rs ++ [q]⟩ ls ⟨t.states, t.vars, t.start, rs ++ [{ q with guards := q.guards ++ gs }]⟩
 | [], q, _, _, _ => by simpa using Goes.refl ip ls _
 | g :: gs, q, h, ha, hs => by
  have h1 : Goes ip (lnGuard t r g :: (gs.map (lnGuard t r) ++ ls)) ⟨t.states, t.vars, t.start, rs ++ [q]⟩ _ _ :=
   Goes.one (okl_guard m hr (h g List.mem_cons_self)) _ fun said h2 => line_guard m hip hr (h g List.mem_cons_self) rs q ⟨ha, hs⟩ said h2
  have h2 := goes_guards hr rs ls gs { q with guards := q.guards ++ [g] } (fun x hx => h x (List.mem_cons_of_mem _ hx)) ha hs;have := h1.trans h2;simpa using this
theorem goes_steps {r : Rl} (hr : MayR t r) (rs : List Rl) (ls : List Bs) : ∀ (ps : List Sp) (q : Rl), (∀ p ∈ ps, p ∈ r.steps) -> q.args = r.args ->
 Goes ip (ps.map (lnStep t r) ++ ls) ⟨t.states, t.vars, t.start, rs ++ [q]⟩ ls ⟨t.states, t.vars, t.start, rs ++ [{ q with steps := q.steps ++ ps.map stays }]⟩
 | [], q, _, _ => by simpa using Goes.refl ip ls _
 | p :: ps, q, h, ha => by
  have h1 : Goes ip (lnStep t r p :: (ps.map (lnStep t r) ++ ls)) ⟨t.states, t.vars, t.start, rs ++ [q]⟩ _ _ :=
   Goes.one (okl_step m hr (h p List.mem_cons_self)) _ fun said h2 => line_step m hip hr (h p List.mem_cons_self) rs q ha said
  have h2 := goes_steps hr rs ls ps { q with steps := q.steps ++ [stays p] } (fun x hx => h x (List.mem_cons_of_mem _ hx)) ha;have := h1.trans h2;simpa using this
theorem goes_rules (ls : List Bs) : ∀ (l rs : List Rl), (∀ r ∈ l, MayR t r) -> Goes ip (l.flatMap (rlLines t) ++ ls) ⟨t.states, t.vars, t.start, rs⟩ ls ⟨t.states, t.vars, t.start, rs ++ l.map normR⟩
 | [], rs, _ => by simpa using Goes.refl ip ls _
 | r :: l, rs, h => by
  have hr := h r List.mem_cons_self;have h1 : Goes ip (lnRule t r :: (r.guards.map (lnGuard t r) ++ (r.steps.map (lnStep t r) ++ (l.flatMap (rlLines t) ++ ls)))) ⟨t.states, t.vars, t.start, rs⟩ _ _ := Goes.one (okl_rule m hr) _ fun said h2 => line_rule m ip hr rs said h2
  have h2 := goes_guards m hip hr rs (r.steps.map (lnStep t r) ++ (l.flatMap (rlLines t) ++ ls)) r.guards ⟨r.name, r.args, r.from_, [], []⟩ (fun _ h => h) rfl rfl;have h3 := goes_steps m hip hr rs (l.flatMap (rlLines t) ++ ls) r.steps ⟨r.name, r.args, r.from_, [] ++ r.guards, []⟩ (fun _ h => h) rfl;have h4 := goes_rules ls l (rs ++ [normR r]) fun x hx => h x (List.mem_cons_of_mem _ hx)
  have := ((h1.trans h2).trans h3).trans (by simpa [normR] using h4);simp only [rlLines, List.flatMap_cons, List.map_cons, List.append_assoc, List.cons_append] at this ⊢;exact this
theorem parse_shown (hl : (shownT t).length <= 8192) : parseT ip (shownT t) = some (normT t, 0, 0) := by
 have hO := okl_lines m;have e : cutL (shownT t) [] = lines t ++ [[]] := cutL_lines (lines t) fun x hx c hc => (hO x hx).all c hc
 unfold parseT;rw [if_neg (by omega), e];have h1 := hO (lnStates t) List.mem_cons_self;have h2 := hO (lnVars t) (List.mem_cons_of_mem _ List.mem_cons_self);unfold lines;rw [List.cons_append, List.cons_append, readL_one h1 _ 0 _ _ 0 (line_states m ip), readL_one h2 _ _ _ _ 1 (line_vars m ip)];obtain ⟨n', said', hs', e'⟩ := goes_rules m hip [[]] t.rules [] m.rule (0 + 1 + 1) (0 + 1 + 1) (by omega);rw [e', readL, if_pos (show trim [] = [] from rfl), readL, if_neg (by omega)];rfl
end
theorem findAll_is (l : List Bs) : ∀ ws : List Bs, findAll l ws = if firstE (fun w => (findN l w).2) ws = 0 then .ok (ws.map fun w => (findN l w).1) else .error (firstE (fun w => (findN l w).2) ws)
 | [] => by rw [findAll, firstE, if_pos rfl]; rfl
 | w :: r => by
  have ih := findAll_is l r;by_cases h : (findN l w).2 = 0
  ·rw [findAll, if_neg (fun h1 => h1 h), ih]
   have e : firstE (fun w => (findN l w).2) (w :: r) = firstE (fun w => (findN l w).2) r := by rw [firstE, if_neg (fun h1 => h1 h)]
   rw [e];by_cases h0 : firstE (fun w => (findN l w).2) r = 0
   ·rw [if_pos h0, if_pos h0]; rfl
   ·rw [if_neg h0, if_neg h0]
  ·have e : firstE (fun w => (findN l w).2) (w :: r) = (findN l w).2 := by rw [firstE, if_pos h]
   rw [findAll, if_pos h, e, if_neg h]
section
variable {D LB : Nat} {t : Tb} {said : Nat} {q : Dq} {w : World}
structure FrJ (D LB cb lb : Nat) (l : List Bs) (w0 : World) (done : List Bs) (w : World) : Prop where
 chg : Chg (fun k => k = LB \/ w0.heap.size <= k) w0 w
 cbc : w.cell? ⟨cb, 0, none⟩ = some (.pointer (some ⟨D, 0, none⟩))
 row : ∃ lv, w.cell? ⟨lb, 0, none⟩ = some lv /\ w.frozen? ⟨lb, 0, none⟩ = false /\ w.ownsRow (lb + 1) 3 1 lv done.length ((done.map fun x => (findN l x).1).map fun n => .int .i64 n)
 places : w0.heap.size <= cb /\ cb < lb /\ LB < w0.heap.size
set_option maxHeartbeats 2000000 in
theorem from1_any (cb lb b : Nat) (word : Bs) (hw : word.length <= 281474976710656) (done : List Bs) (hd : done.length <= 1000000) (w0 : World) (hm : MapIs w0 b t.states) (hbL : b ≠ LB) (hD : D ≠ LB) (mc : w0.cell? ⟨D, 5, none⟩ = some (.map (some b))) (w1 : World) (hg : I.Glob w1) (h : FrJ D LB cb lb t.states w0 done w1) :
 Calls Tryz.prog 139 #[sv word, .pointer (some ⟨cb, 0, none⟩), .pointer (some ⟨lb, 0, none⟩)] w1 fun z w' => z = .returned (.int .i64 (findN t.states word).2) /\ FrJ D LB cb lb t.states w0 (done ++ [word]) w' /\ Chg (fun k => lb <= k) w1 w' := by
 have hlt := hm.lt;have hm1 := hm.chg h.chg (fun hk => by rcases hk with e | e; exact hbL e; omega);have hDlt : D < w0.heap.size := World.block_lt_of_cell? w0 _ mc;have mc1 := h.chg.cell mc (fun hk => by rcases hk with e | e; exact hD e; omega);have HF := Lib.hid (find_any b t.states word w1 hm1 hg hw);have cbc := h.cbc;obtain ⟨lv, lc, lf, lo⟩ := h.row;obtain ⟨i0, hi, hz0, hz1, hz2⟩ := info_int;obtain ⟨x, hx⟩ : ∃ x, (findN t.states word).1 = x := ⟨_, rfl⟩;obtain ⟨er, her⟩ : ∃ er, (findN t.states word).2 = er := ⟨_, rfl⟩;rw [hx, her] at HF;rw [her];have HX := Lib.hid hx;have HJ := Lib.hid h;have HO := Lib.hid lo;have HLC := Lib.hid lc;have HLF := Lib.hid lf;have hlbl := World.block_lt_of_cell? w1 _ lc;have hlb0 : lb < w1.heap.size := hlbl;have HLT := Lib.hid hlb0;have HS1 := Lib.hid (show lb + 1 <= (w1.alloc (.cells #[.int .i64 x] 3)).heap.size by simp; omega);have HR1 := Lib.hid (show done.length + 1 <= maxLen by unfold maxLen; omega);have HR2 := Lib.hid (show (done.length + 1) * 8 <= 140737488355328 by omega);have HND := Lib.hid (show ¬ lv.ownBlock = some lb from fun e => by have := own_block_lt lo e; omega);have HB2 := Lib.hid (show Below w1.heap.size w1 (w1.alloc (.cells #[.int .i64 x] 3)) from (Below.refl _ _).alloc (Nat.le_refl _) _);have ml := mc1;clear hm hm1 h lo lf mc hw hg hx her hlt hDlt hbL hD hlbl hlb0 hd mc1;unfold sv at HF ⊢;go_enter Tryz.func139, Tryz.ntmps139;go_wp2_with (first | (go_at_call 140; refine HF.out.mono ?_; rintro _ w2 ⟨rfl, rfl⟩) | (at_builtin; go_must (refine wpList_append_lies _ rfl _ _ 23 rfl (lb + 1) 3 i0 (.int .i64 0) 1 8 Tryz.underlying23 hi hz0 hz1 hz2 rfl (by decide) _ _ _ rfl (World.ownsRow.alloc HO.out _) ⟨w1.heap.size, 0, none⟩ 1 1 [.int .i64 x] rfl rfl (fun j u hj => one_new _ _ _ j u hj) (one_int _) (by decide) HR1.out HR2.out HS1.out _ rfl ?_); intro g3 cap3 w3 hown3 hgrow3 hblk3 hlt3; have HA := Lib.hid (App.of (D := lb) HB2.out hown3 hgrow3 (hblk3.elim (fun e => Or.inl e.symm) (fun e => Or.inr (by rw [e]; rfl)))); have c3 := HA.out.chg.cell HLC.out HND.out; have f3 := (HA.out.chg.frozens HLT.out HND.out 0).trans HLF.out; have HO3 := Lib.hid hown3; clear hown3 hgrow3 hblk3 hlt3))
 have hs3 : Chg (fun k => lb <= k) w3 (w3.setCell ⟨lb, 0, none⟩ (.slice (some ⟨g3, 0, none⟩) (done.length + 1) cap3)) := Chg.set w3 0 _ (Nat.le_refl _);have hc3 : Chg (fun k => lb <= k) w1 w3 := HA.out.chg.mono fun k hk => by have := own_block_lt HO.out hk; omega
 have HC3 := Lib.hid (hc3.trans hs3);have HSET := Lib.hid (World.cell?_setCell_same w3 ⟨lb, 0, none⟩ (.slice (some ⟨g3, 0, none⟩) (done.length + 1) cap3) c3);have HFZ := Lib.hid (show (w3.setCell ⟨lb, 0, none⟩ (.slice (some ⟨g3, 0, none⟩) (done.length + 1) cap3)).frozen? ⟨lb, 0, none⟩ = false by rw [World.frozen?_setCell]; exact f3);clear hs3 hc3 c3 f3 cbc lc ml;go_wp2_with fail;go_ret;refine ⟨rfl, ⟨?_, ?_, ⟨_, HSET.out, HFZ.out, ?_⟩, HJ.out.places⟩, HC3.out⟩
 ·exact HJ.out.chg.trans (HC3.out.mono fun k hk => by have := HJ.out.places; omega)
 ·exact HC3.out.cell HJ.out.cbc (by have := HJ.out.places; omega)
 ·have := (Chg.set (S := fun k => k = lb) w3 (g := lb) 0 (.slice (some ⟨g3, 0, none⟩) (done.length + 1) cap3) rfl).own HO3.out fun k hk e => by have := own_block_lt HO3.out hk; omega
  have e1 : (((done ++ [word]).map fun x => (findN t.states x).1).map fun n => Value.int .i64 n) = ((done.map fun x => (findN t.states x).1).map fun n => .int .i64 n) ++ [.int .i64 x] := by simp [HX.out]
  rw [e1, List.length_append];exact this
theorem from_rdr (cb lb b : Nat) (w0 : World) (hm : MapIs w0 b t.states) (hbL : b ≠ LB) (hD : D < LB) (mc : w0.cell? ⟨D, 5, none⟩ = some (.map (some b))) (hg : GlD D w0) :
 Rdr 139 #[.pointer (some ⟨cb, 0, none⟩), .pointer (some ⟨lb, 0, none⟩)] LB (fun x => (findN t.states x).2) (FrJ D LB cb lb t.states w0) 100000 where
 ent := fun args w => enters_of Tryz.func139 (by kernel_rfl) rfl args w
 call := fun done word w1 h hw hd => by
  have hD0 : D < w0.heap.size := World.block_lt_of_cell? w0 _ mc;have hg1 := (hg.step (h.chg.below (fun k hk => by omega) (Nat.le_of_lt hD0))).now.glob;refine (from1_any cb lb b word (by omega) done (by omega) w0 hm hbL (by omega) mc w1 hg1 h).mono fun e w2 ⟨he, h2, hc⟩ => ⟨he, h2, fun s hl => hl.chg hc fun hk => by have := h.places; omega⟩
 line := fun done w1 n s h => by
  have c : Chg (fun k => k = LB) w1 ((w1.drewN n).setCell ⟨LB, 0, none⟩ (sv s)) := (Chg.drew w1 n).trans (Chg.set _ _ _ rfl);obtain ⟨lv, l1, l2, l3⟩ := h.row;have hp := h.places;have hlb1 : lb < w1.heap.size := World.block_lt_of_cell? w1 _ l1;refine ⟨h.chg.trans (c.mono fun k hk => Or.inl hk), c.cell h.cbc (by omega), ⟨lv, c.cell l1 (by omega), (c.frozens hlb1 (by omega) 0).trans l2, c.own l3 fun k hk e => by have := own_block_lt l3 hk; omega⟩, hp⟩
def FromOut (D LB : Nat) (t : Tb) (s : Bs) (w : World) (z : Ending) (w' : World) : Prop :=
 ∃ lv er, z = .returned (.tuple #[lv, .int .i64 er]) /\ Chg (fun k => k = LB \/ w.heap.size <= k) w w' /\ (∃ a n c, lv = .slice a n c) /\
  ((er ≠ 0 /\ rlFrom t s = .error er) \/ (er = 0 /\ ∃ l, rlFrom t s = .ok l /\ w'.ownsRow w.heap.size 3 1 lv l.length (l.map fun n => .int .i64 n)))
set_option maxHeartbeats 4000000 in
theorem from_any (s : Bs) (hs : s.length <= 99999) (h0 : s ≠ []) (h : Dr D (fun k => k = LB) t said q w) (h2 : 1 <= said) (hg : GlD D w) (hl : LnAt w LB s) :
 Calls Tryz.prog 101 #[.pointer (some ⟨D, 0, none⟩), .pointer (some ⟨LB, 0, none⟩)] w (FromOut D LB t s w) := by
 obtain ⟨b, hmb, hm, hno⟩ := h.mS h2;have mc := h.cell 5 (v := q.mS) rfl;rw [hmb] at mc;have hDL := (h.xD LB rfl).1;have hLlt := hl.lt;have hwa := wd_le s;have hal : Chg (fun _ => False) w (w.alloc (.cells #[.pointer (some ⟨D, 0, none⟩)] 74)) := Chg.alloc _ _;have hl1 := hl.chg hal (fun h => h);have HW := Lib.hid (word_any LB s (by omega) _ hl1.cell hl1.frozen);have HL := Lib.hid hl1;have HLLT := Lib.hid hLlt;have HS := Lib.hid hs;have HAL := Lib.hid hal;have HR := Lib.hid (fun cb lb => from_rdr (t := t) cb lb b w hm (fun e => hno (by rw [e]; exact Or.inr (Or.inl rfl))) hDL mc hg);have HRF := Lib.hid (show rlFrom t s = if wd s ≠ wFrom then .error 6 else findAll t.states (words (nx s)) by unfold rlFrom; rw [if_neg h0]);obtain ⟨x, hx⟩ : ∃ x, wd s = x := ⟨_, rfl⟩;rw [hx] at HW HRF hwa;clear h hl hg h2 hm hno mc hmb hal hl1 hs hwa h0 hx;unfold sv at HW;by_cases hxf : x = wFrom
 ·subst hxf
  have e1 : ((str wFrom).toList != ([102, 114, 111, 109] : Bs)) = false := by rw [str_toList]; rfl
  have e2 : ((str wFrom).toList == ([102, 114, 111, 109] : Bs)) = true := by rw [str_toList]; rfl
  go_enter Tryz.func101, Tryz.ntmps101;go_wp2_with (first | (go_at_call 27; refine HW.out.mono ?_; rintro _ w1 ⟨rfl, n1, rfl⟩))
  obtain ⟨W1, hW1⟩ : ∃ W, ((w.alloc (.cells #[.pointer (some ⟨D, 0, none⟩)] 74)).drewN n1).setCell ⟨LB, 0, none⟩ (sv (nx s)) = W := ⟨_, rfl⟩;have hsz : W1.heap.size = w.heap.size + 1 := by rw [<- hW1]; simp
  have hc1 : Chg (fun k => k = LB \/ w.heap.size <= k) w W1 := by
   rw [<- hW1];exact (HAL.out.mono fun _ h => h.elim).trans (((Chg.drew _ n1).trans (Chg.set _ _ _ (Or.inl rfl))))
  have hcb : W1.cell? ⟨w.heap.size, 0, none⟩ = some (.pointer (some ⟨D, 0, none⟩)) := by
   have h1 : (w.alloc (.cells #[.pointer (some ⟨D, 0, none⟩)] 74)).cell? ⟨w.heap.size, 0, none⟩ = some (.pointer (some ⟨D, 0, none⟩)) := by
    rw [cell_of_row _ _ _ _ _ _ (heap_alloc_at w _)]; rfl
   have h2 : Chg (fun k => k = LB) (w.alloc (.cells #[.pointer (some ⟨D, 0, none⟩)] 74)) W1 := by rw [<- hW1]; exact (Chg.drew _ n1).trans (Chg.set _ _ _ rfl)
   exact h2.cell h1 (by have := HLLT.out; omega)
  have hl1 : LnAt W1 LB (nx s) := by rw [<- hW1]; exact HL.out.set n1 (nx s)
  obtain ⟨W2, hW2⟩ : ∃ W, W1.alloc (.cells #[.slice none 0 0] 23) = W := ⟨_, rfl⟩;have hc2 : Chg (fun _ => False) W1 W2 := by rw [<- hW2]; exact Chg.alloc _ _
  have hl2 : LnAt W2 LB (nx s) := hl1.chg hc2 (fun h => h);have hlb : W2.cell? ⟨W1.heap.size, 0, none⟩ = some (.slice none 0 0) := by rw [<- hW2, cell_of_row _ _ _ _ _ _ (heap_alloc_at W1 _)]; rfl
  have hlf : W2.frozen? ⟨W1.heap.size, 0, none⟩ = false := by rw [<- hW2]; exact (row_cell (heap_alloc_at W1 _) (by simp)).choose_spec.2
  have hJ : FrJ D LB w.heap.size W1.heap.size t.states w [] W2 :=
   ⟨hc1.trans (hc2.mono fun _ h => h.elim), hc2.cell hcb (fun h => h), ⟨_, hlb, hlf, World.ownsRow_nil _ _ _ _⟩, by have := HLLT.out; omega⟩
  have HO := Lib.hid (oneOrMore_any (HR.out w.heap.size W1.heap.size) (nx s) (by have := nx_le s; have := HS.out; omega) (by omega) W2 hl2 hJ);have HC1 := Lib.hid hc1;have HSZ := Lib.hid hsz;clear hc1 hcb hl1 hc2 hl2 hlb hlf hJ e1 e2;subst hW2;rw [hsz] at HO;clear hsz;subst hW1;refine HO.out.mono ?_;rintro _ w3 ⟨rfl, done, hJ3, hdl, hdx, hdw⟩;obtain ⟨lv, l1, l2, l3⟩ := hJ3.row;have HJ3 := Lib.hid hJ3;have HL3 := Lib.hid l3;obtain ⟨er, her⟩ : ∃ er, firstE (fun x => (findN t.states x).2) (words (nx s)) = er := ⟨_, rfl⟩;rw [her] at hdw ⊢;have HER := Lib.hid (And.intro her hdw);obtain ⟨a3, cap3, hv3⟩ := own_shape5 l3;subst hv3;clear hJ3 l2 l3 hdl hdx hdw her HO;go_wp2_with fail;go_ret2;have hfa := findAll_is t.states (words (nx s));rw [HER.out.1] at hfa;refine ⟨_, er, rfl, HJ3.out.chg, ⟨_, _, _, rfl⟩, ?_⟩;by_cases h0 : er = 0
  ·right
   refine ⟨h0, (words (nx s)).map fun x => (findN t.states x).1, ?_, ?_⟩
   ·rw [HRF.out, if_neg (fun h => h rfl), hfa, if_pos h0]
   ·have hd := HER.out.2 h0
    subst hd;have h4 := HL3.out;rw [List.length_map];rcases h4.2 with h5 | ⟨g, cap, cur, h5, h6, h7⟩
    ·exact ⟨h4.1, Or.inl h5⟩
    ·exact ⟨h4.1, Or.inr ⟨g, cap, cur, h5, by have := HSZ.out; omega, h7⟩⟩
  ·left
   exact ⟨h0, by rw [HRF.out, if_neg (fun h => h rfl), hfa, if_neg h0]⟩
 ·have e1 : ((str x).toList == ([102, 114, 111, 109] : Bs)) = false := by rw [str_toList]; exact beq_eq_false_iff_ne.2 hxf
  have e2 : ((str x).toList != ([102, 114, 111, 109] : Bs)) = true := by rw [bne, e1]; rfl
  go_enter Tryz.func101, Tryz.ntmps101;go_wp2_with (first | (go_at_call 27; refine HW.out.mono ?_; rintro _ w1 ⟨rfl, n1, rfl⟩))
  go_ret2;refine ⟨_, 6, rfl, ?_, ⟨none, 0, 0, rfl⟩, Or.inl ⟨by decide, ?_⟩⟩
  ·exact (HAL.out.mono fun _ h => h.elim).trans (((Chg.drew _ n1).trans (Chg.set _ _ _ (Or.inl rfl))))
  ·rw [HRF.out, if_pos hxf]
end
end Go.Proofs.YtjcajeehgjpmmaaGreatDoor.T
