/-
  Layer 6, plainly: a shown table's lines are read back, one behind the other.
-/
import Derived.Test.YtfooiggedgcjcaaGreatDoorTBack
namespace Go.Proofs.YtfooiggedgcjcaaGreatDoor.T
open Go Go.Proofs.YtfooiggedgcjcaaGreatDoor.E Go.Proofs.YtfooiggedgcjcaaGreatDoor.R
set_option linter.unusedVariables false

/-- A step that stays goes to -1. -/
def stays (p : Sp) : Sp := ⟨p.sets, if p.to < 0 then -1 else p.to⟩
def normR (r : Rl) : Rl := { r with steps := r.steps.map stays }
def normT (t : Tb) : Tb := { t with rules := t.rules.map normR }

/-- What a rule is of a table that may be. -/
structure MayR (t : Tb) (r : Rl) : Prop where
  name : I.isName r.name = true
  args : 0 ≤ r.args ∧ r.args ≤ 4
  from_ : ∀ x ∈ r.from_, 0 ≤ x ∧ x < t.states.length
  guards : ∀ g ∈ r.guards, (16 ≤ g.code ∧ g.code ≤ 63) ∧ (check g.test t.vars.length r.args).2 = 0
  steps : ∀ p ∈ r.steps, p.to < t.states.length ∧ ∀ s ∈ p.sets, (0 ≤ s.var ∧ s.var < t.vars.length) ∧ (check s.value t.vars.length r.args).2 = 0
/-- What a table that may be is, as far as its text goes. -/
structure May (t : Tb) : Prop where
  sne : t.states ≠ []
  sname : ∀ s ∈ t.states, I.isName s = true
  snd : t.states.Nodup
  vname : ∀ s ∈ t.vars, I.isName s = true
  vnd : t.vars.Nodup
  slen : t.start.length = t.vars.length
  sval : ∀ n ∈ t.start, isVal n = true
  rule : ∀ r ∈ t.rules, MayR t r

theorem may_of {t : Tb} (h : chk5 t = (0, 0, 0, 0)) : May t := by
  have hF := fine_of h
  obtain ⟨ht, hr⟩ := (chk5_zero t).1 h
  have p0 := ht ⟨1, countE t.states.length 1 8, t.states.length, nameBad t.states⟩ (by simp [tableParts])
  have p1 := ht ⟨2, countE t.vars.length 0 6, t.vars.length, nameBad t.vars⟩ (by simp [tableParts])
  have p2 := ht ⟨3, unlessE (decide ((t.start.length : Int) = t.vars.length)) 2, t.start.length, startBad t.start⟩ (by simp [tableParts])
  have names : ∀ l : List Bs, (∀ j, j < l.length → nameBad l j = 0) → (∀ s ∈ l, I.isName s = true) ∧ l.Nodup := by
    intro l hl
    have hk : ∀ (k : Nat) s, l[k]? = some s → nameE s ((l.take k).any fun x => x == s) = 0 := by
      intro k s hs
      have := hl k (List.getElem?_eq_some_iff.1 hs).1
      simpa only [nameBad, hs] using this
    refine ⟨fun s hs => ?_, nodup_of l fun k s hs => (nameE_zero (hk k s hs)).2⟩
    obtain ⟨k, hk'⟩ := List.getElem?_of_mem hs
    exact (nameE_zero (hk k s hk')).1
  obtain ⟨a1, a2⟩ := names t.states p0.2
  obtain ⟨b1, b2⟩ := names t.vars p1.2
  refine ⟨List.length_pos_iff.1 hF.states.1, a1, a2, b1, b2, ?_, ?_, ?_⟩
  · have := of_decide_eq_true (unlessE_zero (by decide) p2.1)
    omega
  · intro n hn
    obtain ⟨j, hj⟩ := List.getElem?_of_mem hn
    have := p2.2 j (List.getElem?_eq_some_iff.1 hj).1
    simp only [startBad, hj] at this
    exact unlessE_zero (by decide) this
  · intro r hrm
    obtain ⟨k, hk⟩ := List.getElem?_of_mem hrm
    have q5 := hr k r hk ⟨5, nameE r.name ((t.rules.take k).any fun x => x.name == r.name), 0, fun _ => 0⟩ (by simp [ruleParts])
    have q6 := hr k r hk ⟨6, unlessE (decide (0 ≤ r.args ∧ r.args ≤ 4)) 3, 0, fun _ => 0⟩ (by simp [ruleParts])
    have q8 := hr k r hk ⟨8, countE r.guards.length 0 4, r.guards.length, guardBad t.vars.length r.args r.guards⟩ (by simp [ruleParts])
    refine ⟨(nameE_zero q5.1).1, of_decide_eq_true (unlessE_zero (by decide) q6.1), (hF.from_ r hrm).2, fun g hg => ⟨?_, (hF.guards r hrm).2 g hg⟩, fun p hp => ⟨(hF.steps r hrm).2 p hp, hF.sets r hrm p hp⟩⟩
    obtain ⟨j, hj⟩ := List.getElem?_of_mem hg
    have := q8.2 j (List.getElem?_eq_some_iff.1 hj).1
    simp only [guardBad, hj] at this
    split at this
    · cases this
    · omega

/-! ## Lines -/

theorem okl_behind {a : Bs} (ha : OkL a) : ∀ l : List Bs, (∀ x ∈ l, OkL x) → OkL (a ++ behind l)
  | [], _ => by show OkL (a ++ []); rw [List.append_nil]; exact ha
  | x :: l, h => by
    have h1 : OkL (a ++ ([32] ++ x)) := ha.mid (by simp) (h x List.mem_cons_self)
    have h2 := okl_behind h1 l fun y hy => h y (List.mem_cons_of_mem _ hy)
    rw [behind_cons]
    simpa using h2
theorem okl_name {s : Bs} (h : I.isName s = true) : OkL s := (ok_name h).l
theorem okl_num (n : Int) : OkL (num n) := OkP.of_wd (num_wd n) fun c hc => (num_bytes n c hc).2.1
theorem okl_key (s : Bs) (h : Wd s ∧ ∀ c ∈ s, c ≠ 10) : OkL s := OkP.of_wd h.1 h.2

theorem wd_of_key (s : Bs) (h1 : s ≠ []) (h2 : ∀ c ∈ s, c ≠ 32) : Wd s := ⟨h1, h2⟩
theorem kStates : Wd wStates := ⟨by decide, by decide⟩
theorem kVars : Wd wVars := ⟨by decide, by decide⟩
theorem kRule : Wd wRule := ⟨by decide, by decide⟩
theorem kFrom : Wd wFrom := ⟨by decide, by decide⟩
theorem kGuard : Wd wGuard := ⟨by decide, by decide⟩
theorem kStep : Wd wStep := ⟨by decide, by decide⟩
theorem kSet : Wd wSet := ⟨by decide, by decide⟩
theorem kDash : Wd [45] := ⟨by decide, by decide⟩

theorem vrItems_starts : ∀ (vs : List Bs) (ns : List Int), (∀ s ∈ vs, I.isName s = true) → (∀ n ∈ ns, isVal n = true) → ns.length = vs.length →
    vrItems ((vs.zip ns).map fun p => p.1 ++ 61 :: num p.2) = some (vs.zip ns)
  | [], _, _, _, _ => rfl
  | v :: vs, [], _, _, h => by simp at h
  | v :: vs, n :: ns, hv, hn, h => by
    have hb : ∀ c ∈ v, c ≠ 61 := fun c hc => (idc_no ((name_idc (hv v List.mem_cons_self)).2 c hc)).2.2.2
    have hval := (isVal_iff n).1 (hn n List.mem_cons_self)
    have ih := vrItems_starts vs ns (fun s hs => hv s (List.mem_cons_of_mem _ hs)) (fun x hx => hn x (List.mem_cons_of_mem _ hx)) (by simpa using h)
    show vrItems ((v ++ 61 :: num n) :: (vs.zip ns).map fun p => p.1 ++ 61 :: num p.2) = some ((v, n) :: vs.zip ns)
    unfold vrItems vrItem
    rw [upTo_app 61 v _ hb, past_app 61 v _ hb, numOf_num n _ hval hval.1, if_pos ⟨rfl, hv v List.mem_cons_self⟩, ih]
    rfl

theorem lastR_app (S V : List Bs) (n : List Int) (rs : List Rl) (q : Rl) (f : Rl → Rl) : lastR ⟨S, V, n, rs ++ [q]⟩ f = ⟨S, V, n, rs ++ [f q]⟩ := by
  unfold lastR
  rw [show (rs ++ [q]).getLast? = some q by simp]
  simp

theorem setText_is (t : Tb) (r : Rl) (s : Se) : setText t r s = 32 :: (at_ t.vars s.var ++ 32 :: (wSet ++ 32 :: expr t r s.value)) := by
  unfold setText
  simp [behind]

section
variable {t : Tb} (m : May t)
include m

theorem ok_expr {c : List In} {na : Int} (h0 : 0 ≤ na) (h4 : na ≤ 4) (h : (check c t.vars.length na).2 = 0) : Ok1 (I.showOf t.vars na c).1 := by
  rw [I.showOf_good _ _ _ h]
  obtain ⟨hw, _⟩ := I.exOf_is c t.vars.length na h
  exact ok_text t.vars _ (I.nm_of t.vars na (by omega) m.vname _ hw)

theorem name_at {x : Int} (h : 0 ≤ x ∧ x < t.states.length) : t.states[x.toNat]? = some (at_ t.states x) ∧ I.isName (at_ t.states x) = true := by
  have hk : x.toNat < t.states.length := by omega
  have e : t.states[x.toNat]? = some (at_ t.states x) := by
    unfold at_; rw [List.getD_eq_getElem?_getD, List.getElem?_eq_getElem hk]; rfl
  exact ⟨e, m.sname _ (List.mem_of_getElem? e)⟩
theorem var_at {x : Int} (h : 0 ≤ x ∧ x < t.vars.length) : t.vars[x.toNat]? = some (at_ t.vars x) ∧ I.isName (at_ t.vars x) = true := by
  have hk : x.toNat < t.vars.length := by omega
  have e : t.vars[x.toNat]? = some (at_ t.vars x) := by
    unfold at_; rw [List.getD_eq_getElem?_getD, List.getElem?_eq_getElem hk]; rfl
  exact ⟨e, m.vname _ (List.mem_of_getElem? e)⟩
theorem find_state {x : Int} (h : 0 ≤ x ∧ x < t.states.length) : findN t.states (at_ t.states x) = (x, 0) := by
  obtain ⟨h1, h2⟩ := name_at m h
  rw [findN_at _ _ _ h1 h2 m.snd]
  congr 1; omega
theorem find_var {x : Int} (h : 0 ≤ x ∧ x < t.vars.length) : findN t.vars (at_ t.vars x) = (x, 0) := by
  obtain ⟨h1, h2⟩ := var_at m h
  rw [findN_at _ _ _ h1 h2 m.vnd]
  congr 1; omega

theorem start_wd : ∀ w ∈ starts t, Wd w ∧ OkL w := by
  intro w hw
  obtain ⟨⟨v, n⟩, hp, rfl⟩ := List.mem_map.1 hw
  have hv := m.vname v (List.of_mem_zip hp).1
  have h1 := name_wd hv
  have hW : Wd (v ++ 61 :: num n) := ⟨by simp, fun c hc => by
    rcases List.mem_append.1 hc with h | h
    · exact h1.2 c h
    · rcases List.mem_cons.1 h with rfl | h
      · decide
      · exact (num_bytes n c h).1⟩
  refine ⟨hW, OkP.of_wd hW fun c hc => ?_⟩
  rcases List.mem_append.1 hc with h | h
  · exact (okl_name hv).all c h
  · rcases List.mem_cons.1 h with rfl | h
    · decide
    · exact (num_bytes n c h).2.1

theorem line_states (ip : Ip) : line ip empty 0 (lnStates t) = some (.ok ⟨t.states, [], [], []⟩) := by
  obtain ⟨s, l, hs⟩ := List.exists_cons_of_ne_nil m.sne
  have hn : ∀ x ∈ s :: l, I.isName x = true := by rw [← hs]; exact m.sname
  have e1 : wd (lnStates t) = wStates := wd_behind _ _ kStates
  have e2 : nx (lnStates t) = s ++ behind l := by
    unfold lnStates; rw [hs]
    have := name_wd (hn s List.mem_cons_self)
    exact nx_behind _ _ _ kStates ⟨this.1, this.head⟩
  have e3 : words (s ++ behind l) = s :: l := words_behind l s (name_wd (hn s List.mem_cons_self)) fun x hx => name_wd (hn x (List.mem_cons_of_mem _ hx))
  unfold line
  rw [e1, if_pos ⟨rfl, rfl⟩, e2]
  unfold stLine
  rw [e3, if_pos (List.all_eq_true.2 hn), ← hs]
  rfl

theorem zip_fst : (t.vars.zip t.start).map (·.1) = t.vars := List.map_fst_zip (by rw [m.slen]; exact Nat.le_refl _)
theorem zip_snd : (t.vars.zip t.start).map (·.2) = t.start := List.map_snd_zip (by rw [m.slen]; exact Nat.le_refl _)

theorem line_vars (ip : Ip) : line ip ⟨t.states, [], [], []⟩ 1 (lnVars t) = some (.ok ⟨t.states, t.vars, t.start, []⟩) := by
  have e1 : wd (lnVars t) = wVars := wd_behind _ _ kVars
  have e2 : (if nx (lnVars t) = [] then [] else words (nx (lnVars t))) = starts t := by
    unfold lnVars
    have hs := start_wd m
    cases h : starts t with
    | nil => rw [nx_behind_nil _ kVars, if_pos rfl]
    | cons w l =>
      rw [h] at hs
      have hw := (hs w List.mem_cons_self).1
      rw [nx_behind _ _ _ kVars ⟨hw.1, hw.head⟩, if_neg (fun e => hw.1 (List.append_eq_nil_iff.1 e).1)]
      exact words_behind l w hw fun x hx => (hs x (List.mem_cons_of_mem _ hx)).1
  unfold line
  rw [e1, if_neg (by intro h; exact absurd h.1 (by decide)), if_pos ⟨rfl, rfl⟩]
  unfold vrLine
  rw [e2]
  unfold starts
  rw [vrItems_starts t.vars t.start m.vname m.sval m.slen]
  show some (Except.ok _) = _
  rw [zip_fst m, zip_snd m]
  rfl

theorem findAll_from {l : List Int} (h : ∀ x ∈ l, 0 ≤ x ∧ x < t.states.length) : findAll t.states (l.map (at_ t.states)) = .ok l := by
  induction l with
  | nil => rfl
  | cons x l ih =>
    have := find_state m (h x List.mem_cons_self)
    show findAll t.states (at_ t.states x :: _) = _
    unfold findAll
    rw [this, if_neg (fun h => h rfl), ih fun y hy => h y (List.mem_cons_of_mem _ hy)]

theorem line_rule (ip : Ip) {r : Rl} (hr : MayR t r) (rs : List Rl) (said : Nat) (h2 : 2 ≤ said) :
    line ip ⟨t.states, t.vars, t.start, rs⟩ said (lnRule t r) = some (.ok ⟨t.states, t.vars, t.start, rs ++ [⟨r.name, r.args, r.from_, [], []⟩]⟩) := by
  have hnm := name_wd hr.name
  have hnum := num_wd r.args
  obtain ⟨l, hl⟩ : ∃ l, (if r.from_.isEmpty then [] else wFrom :: r.from_.map (at_ t.states)) = l := ⟨_, rfl⟩
  have e1 : wd (lnRule t r) = wRule := wd_behind _ _ kRule
  have e2 : nx (lnRule t r) = r.name ++ behind (num r.args :: l) := by unfold lnRule; rw [hl]; exact nx_behind _ _ _ kRule ⟨hnm.1, hnm.head⟩
  have e3 : wd (nx (lnRule t r)) = r.name := by rw [e2]; exact wd_behind _ _ hnm
  have e4 : nx (nx (lnRule t r)) = num r.args ++ behind l := by rw [e2]; exact nx_behind _ _ _ hnm ⟨hnum.1, hnum.head⟩
  have e5 : wd (nx (nx (lnRule t r))) = num r.args := by rw [e4]; exact wd_behind _ _ hnum
  have e6 : numOf (num r.args) 0 = (r.args, 0) := numOf_num _ _ (by have := hr.args; omega) hr.args.1
  have e7 : rlFrom ⟨t.states, t.vars, t.start, rs⟩ (nx (nx (nx (lnRule t r)))) = .ok r.from_ := by
    rw [e4]
    unfold rlFrom
    cases hf : r.from_ with
    | nil =>
      rw [hf] at hl
      have : l = [] := hl.symm
      subst this
      rw [nx_behind_nil _ hnum, if_pos rfl]
    | cons x f =>
      rw [hf] at hl
      have : l = wFrom :: (x :: f).map (at_ t.states) := hl.symm
      subst this
      have hx : ∀ y ∈ x :: f, 0 ≤ y ∧ y < t.states.length := by rw [← hf]; exact hr.from_
      have hw := name_wd (name_at m (hx x List.mem_cons_self)).2
      rw [nx_behind _ _ _ hnum ⟨kFrom.1, kFrom.head⟩, if_neg (fun e => kFrom.1 (List.append_eq_nil_iff.1 e).1), wd_behind _ _ kFrom, if_neg (by simp)]
      rw [List.map_cons, nx_behind _ _ _ kFrom ⟨hw.1, hw.head⟩, words_behind _ _ hw (fun y hy => by
        obtain ⟨z, hz, rfl⟩ := List.mem_map.1 hy
        exact name_wd (name_at m (hx z (List.mem_cons_of_mem _ hz))).2)]
      exact findAll_from m hx
  unfold line
  rw [e1, if_neg (by intro h; exact absurd h.1 (by decide)), if_neg (by intro h; exact absurd h.1 (by decide)), if_pos ⟨rfl, h2⟩]
  unfold rlLine
  rw [e3, e5, e6, e7, if_neg (by rw [hr.name]; decide), if_neg (fun h => h rfl)]

theorem line_guard {ip : Ip} (hip : ∀ c na, 0 ≤ na → na ≤ 4 → (check c t.vars.length na).2 = 0 → ip (I.showOf t.vars na c).1 t.vars na = some (c, 0)) {r : Rl} (hr : MayR t r) {g : Gd} (hg : g ∈ r.guards) (rs : List Rl) (q : Rl)
    (hq : q.args = r.args ∧ q.steps = []) (said : Nat) (h2 : 2 ≤ said) :
    line ip ⟨t.states, t.vars, t.start, rs ++ [q]⟩ said (lnGuard t r g) = some (.ok ⟨t.states, t.vars, t.start, rs ++ [{ q with guards := q.guards ++ [g] }]⟩) := by
  obtain ⟨hc, hk⟩ := hr.guards g hg
  have hE : Ok1 (expr t r g.test) := ok_expr m hr.args.1 hr.args.2 hk
  have hnum := num_wd g.code
  have e1 : wd (lnGuard t r g) = wGuard := wd_behind _ _ kGuard
  have e2 : nx (lnGuard t r g) = num g.code ++ behind [expr t r g.test] := nx_behind _ _ _ kGuard ⟨hnum.1, hnum.head⟩
  have e3 : wd (nx (lnGuard t r g)) = num g.code := by rw [e2]; exact wd_behind _ _ hnum
  have e4 : nx (nx (lnGuard t r g)) = expr t r g.test := by
    rw [e2, nx_behind _ _ _ hnum ⟨hE.ne, hE.head⟩]
    exact List.append_nil _
  have e6 : numOf (num g.code) 0 = (g.code, 0) := numOf_num _ _ (by omega) (by omega)
  unfold line
  rw [e1, if_neg (by intro h; exact absurd h.1 (by decide)), if_neg (by intro h; exact absurd h.1 (by decide)), if_neg (by intro h; exact absurd h.1 (by decide))]
  rw [show (rs ++ [q]).getLast? = some q by simp]
  simp only
  rw [if_pos ⟨trivial, hq.2⟩]
  unfold gdLine
  rw [e3, e6, e4, if_neg (fun h => h rfl), hq.1]
  unfold expr
  rw [hip g.test r.args hr.args.1 hr.args.2 hk]
  simp only
  rw [if_neg (fun h => h rfl), lastR_app, ← hq.1]

theorem oneSet_at {ip : Ip} (hip : ∀ c na, 0 ≤ na → na ≤ 4 → (check c t.vars.length na).2 = 0 → ip (I.showOf t.vars na c).1 t.vars na = some (c, 0)) {r : Rl} (ha : 0 ≤ r.args ∧ r.args ≤ 4) {s : Se}
    (hs : (0 ≤ s.var ∧ s.var < t.vars.length) ∧ (check s.value t.vars.length r.args).2 = 0) (q : Rl) (hq : q.args = r.args) (rs : List Rl) (tail : Bs) (ht : tail = [] ∨ ∃ z, tail = 59 :: z) :
    oneSet ip ⟨t.states, t.vars, t.start, rs⟩ q (at_ t.vars s.var ++ 32 :: (wSet ++ 32 :: (expr t r s.value ++ tail))) = some (.ok s) ∧
      nx (nx (at_ t.vars s.var ++ 32 :: (wSet ++ 32 :: (expr t r s.value ++ tail)))) = expr t r s.value ++ tail ∧ (∀ c ∈ expr t r s.value, c ≠ 59) := by
  have hE : Ok1 (expr t r s.value) := ok_expr m ha.1 ha.2 hs.2
  have hv := name_wd (var_at m hs.1).2
  have hne : expr t r s.value ++ tail ≠ [] := fun e => hE.ne (List.append_eq_nil_iff.1 e).1
  have e1 := wd_app (at_ t.vars s.var) (wSet ++ 32 :: (expr t r s.value ++ tail)) hv
  have e2 := nx_app (at_ t.vars s.var) (wSet ++ 32 :: (expr t r s.value ++ tail)) hv (by rw [head_app kSet.1]; exact kSet.head)
  have e3 := wd_app wSet (expr t r s.value ++ tail) kSet
  have e4 := nx_app wSet (expr t r s.value ++ tail) kSet (by rw [head_app hE.ne]; exact hE.head)
  have h59 : ∀ c ∈ expr t r s.value, c ≠ 59 := fun c hc => (hE.all c hc).2
  have e5 : pc (expr t r s.value ++ tail) = expr t r s.value := by
    unfold pc
    rcases ht with rfl | ⟨z, rfl⟩
    · rw [List.append_nil, upTo_all 59 _ h59, trimR_self _ hE.last]
    · rw [upTo_app 59 _ _ h59, trimR_self _ hE.last]
  refine ⟨?_, by rw [e2, e4], h59⟩
  unfold oneSet
  rw [e1, e2, e3, e4, e5, find_var m hs.1, if_neg (fun h => h rfl), if_neg (by simp), hq]
  unfold expr
  rw [hip s.value r.args ha.1 ha.2 hs.2]
  simp only
  rw [if_neg (fun h => h rfl)]

theorem setsOf_at {ip : Ip} (hip : ∀ c na, 0 ≤ na → na ≤ 4 → (check c t.vars.length na).2 = 0 → ip (I.showOf t.vars na c).1 t.vars na = some (c, 0)) {r : Rl} (ha : 0 ≤ r.args ∧ r.args ≤ 4) (q : Rl) (hq : q.args = r.args) (rs : List Rl) :
    ∀ (l : List Se) (s : Se) (n : Nat), (∀ x ∈ s :: l, (0 ≤ x.var ∧ x.var < t.vars.length) ∧ (check x.value t.vars.length r.args).2 = 0) → l.length < n →
      setsOf ip ⟨t.states, t.vars, t.start, rs⟩ q n ((setText t r s ++ Lib.joinTail [59] (l.map (setText t r))).drop 1) = some (.ok (s :: l))
  | [], s, n + 1, h, _ => by
    obtain ⟨h1, h2, h3⟩ := oneSet_at m hip ha (h s List.mem_cons_self) q hq rs [] (Or.inl rfl)
    rw [setText_is t]
    simp only [List.map_nil, Lib.joinTail, List.flatten_nil, List.append_nil, List.drop_succ_cons, List.drop_zero]
    rw [List.append_nil] at h1 h2
    unfold setsOf
    rw [h1, h2]
    simp only
    rw [hasB_all 59 _ h3]
    rfl
  | x :: l, s, n + 1, h, hn => by
    have ih := setsOf_at hip ha q hq rs l x n (fun y hy => h y (List.mem_cons_of_mem _ hy)) (by simpa using hn)
    obtain ⟨tl, htl⟩ : ∃ tl, setText t r x ++ Lib.joinTail [59] (l.map (setText t r)) = 32 :: tl := by rw [setText_is t]; exact ⟨_, rfl⟩
    have hx : tl.head? ≠ some 32 := by
      have hv := name_wd (var_at m (h x (List.mem_cons_of_mem _ List.mem_cons_self)).1).2
      rw [setText_is t, List.cons_append] at htl
      cases htl
      rw [List.append_assoc, head_app hv.1]; exact hv.head
    rw [htl] at ih
    obtain ⟨h1, h2, h3⟩ := oneSet_at m hip ha (h s List.mem_cons_self) q hq rs (59 :: 32 :: tl) (Or.inr ⟨_, rfl⟩)
    have e : (setText t r s ++ Lib.joinTail [59] ((x :: l).map (setText t r))).drop 1 = at_ t.vars s.var ++ 32 :: (wSet ++ 32 :: (expr t r s.value ++ 59 :: 32 :: tl)) := by
      have : Lib.joinTail [59] ((x :: l).map (setText t r)) = 59 :: (setText t r x ++ Lib.joinTail [59] (l.map (setText t r))) := by simp [Lib.joinTail]
      rw [this, htl, setText_is t]
      simp
    rw [e]
    unfold setsOf
    rw [h1, h2]
    simp only
    rw [hasB_app, if_pos rfl]
    have e2 : pnx (expr t r s.value ++ 59 :: 32 :: tl) = tl := by unfold pnx; rw [past_app 59 _ _ h3, trimL_blank, trimL_self _ hx]
    rw [e2]
    simp only [List.drop_succ_cons, List.drop_zero] at ih
    rw [ih]

theorem goes_to {x : Int} (h : x < t.states.length) (rs : List Rl) (p : Sp) (hp : p.to = x) : goesTo ⟨t.states, t.vars, t.start, rs⟩ (toText t p) = ((if x < 0 then -1 else x), 0) ∧ Wd (toText t p) ∧ ∀ c ∈ toText t p, c ≠ 10 := by
  subst hp
  unfold toText
  split
  · unfold goesTo
    rw [if_pos rfl]
    exact ⟨rfl, kDash, by decide⟩
  · have hx : 0 ≤ p.to ∧ p.to < t.states.length := by omega
    obtain ⟨h1, h2⟩ := name_at m hx
    unfold goesTo
    rw [if_neg (by
      intro e
      have := h2
      rw [e] at this
      exact absurd this (by decide)), find_state m hx]
    exact ⟨rfl, name_wd h2, (okl_name h2).all⟩

theorem line_step {ip : Ip} (hip : ∀ c na, 0 ≤ na → na ≤ 4 → (check c t.vars.length na).2 = 0 → ip (I.showOf t.vars na c).1 t.vars na = some (c, 0)) {r : Rl} (hr : MayR t r) {p : Sp} (hp : p ∈ r.steps) (rs : List Rl) (q : Rl)
    (hq : q.args = r.args) (said : Nat) :
    line ip ⟨t.states, t.vars, t.start, rs ++ [q]⟩ said (lnStep t r p) = some (.ok ⟨t.states, t.vars, t.start, rs ++ [{ q with steps := q.steps ++ [stays p] }]⟩) := by
  obtain ⟨hto, hs⟩ := hr.steps p hp
  obtain ⟨g1, g2, _⟩ := goes_to m hto (rs ++ [q]) p rfl
  obtain ⟨tl, htl⟩ : ∃ tl, Lib.join (p.sets.map (setText t r)) [59] = tl := ⟨_, rfl⟩
  have e0 : lnStep t r p = wStep ++ 32 :: (toText t p ++ tl) := by unfold lnStep; rw [htl]; simp [behind]
  have e1 : wd (lnStep t r p) = wStep := by rw [e0]; exact wd_app _ _ kStep
  have e2 : nx (lnStep t r p) = toText t p ++ tl := by rw [e0]; exact nx_app _ _ kStep (by rw [head_app g2.1]; exact g2.head)
  have key : wd (toText t p ++ tl) = toText t p ∧ (if nx (toText t p ++ tl) = [] then some (.ok []) else setsOf ip ⟨t.states, t.vars, t.start, rs ++ [q]⟩ q ((toText t p ++ tl).length + 1) (nx (toText t p ++ tl))) = some (.ok p.sets) := by
    cases hsets : p.sets with
    | nil =>
      rw [hsets] at htl
      have : tl = [] := by rw [← htl]; rfl
      subst this
      rw [List.append_nil, wd_self _ g2, nx_self _ g2, if_pos rfl]
      exact ⟨rfl, rfl⟩
    | cons s l =>
      rw [hsets] at hs htl
      have hv := name_wd (var_at m (hs s List.mem_cons_self).1).2
      rw [List.map_cons, Lib.join_cons] at htl
      have hS := setsOf_at m hip hr.args q hq (rs ++ [q]) l s ((toText t p ++ tl).length + 1) hs (by
        have h1 : l.length ≤ (Lib.joinTail [59] (l.map (setText t r))).length := by
          unfold Lib.joinTail
          clear hs hsets htl
          induction l with
          | nil => simp
          | cons y l ih => simp only [List.map_cons, List.flatten_cons, List.length_append, List.length_cons] at ih ⊢; omega
        rw [← htl, List.length_append, List.length_append]; omega)
      rw [htl] at hS
      obtain ⟨z, hz⟩ : ∃ z, tl = 32 :: z ∧ z ≠ [] ∧ z.head? ≠ some 32 := by
        rw [← htl, setText_is t]
        refine ⟨_, rfl, ?_, ?_⟩
        · intro e
          exact hv.1 (List.append_eq_nil_iff.1 (List.append_eq_nil_iff.1 e).1).1
        · show ((at_ t.vars s.var ++ 32 :: (wSet ++ 32 :: expr t r s.value)) ++ _).head? ≠ _
          rw [List.append_assoc, head_app hv.1]; exact hv.head
      obtain ⟨rfl, hz1, hz2⟩ := hz
      rw [wd_app _ _ g2, nx_app _ _ g2 hz2, if_neg hz1]
      exact ⟨rfl, by simpa using hS⟩
  unfold line
  rw [e1, if_neg (by intro h; exact absurd h.1 (by decide)), if_neg (by intro h; exact absurd h.1 (by decide)), if_neg (by intro h; exact absurd h.1 (by decide))]
  rw [show (rs ++ [q]).getLast? = some q by simp]
  simp only
  rw [if_neg (by intro h; exact absurd h.1 (by decide)), if_pos trivial]
  unfold spLine
  rw [e2, key.1, g1, if_neg (fun h => h rfl), key.2]
  simp only
  rw [lastR_app]
  rfl
end
end Go.Proofs.YtfooiggedgcjcaaGreatDoor.T
