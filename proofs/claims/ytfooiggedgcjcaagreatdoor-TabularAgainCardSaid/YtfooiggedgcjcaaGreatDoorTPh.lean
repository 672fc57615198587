/-
  Layer 6: the line of the states, whole.
  Layer 6: the rule that is read; an expression of it.
  Layer 6: where a rule is from.
-/
import Derived.Test.YtfooiggedgcjcaaGreatDoorTPe
import Derived.BigQuiet
import Derived.Deep.QuietTactic
import Derived.StillTailTactics
import Derived.IntWalk
namespace Go.Proofs.YtfooiggedgcjcaaGreatDoor.T
open Go Go.RowKit Go.Proofs.YtfooiggedgcjcaaGreatDoor.B Go.Proofs.YtfooiggedgcjcaaGreatDoor.K Go.Proofs.YtfooiggedgcjcaaGreatDoor.E Go.Proofs.YtfooiggedgcjcaaGreatDoor.R
set_option linter.unusedVariables false

/-- The draft's own, and the line, have turned; no block is open now that was there and was shut. -/
structure Fr (D LB : Nat) (val val' : Ix → Value) (w w' : World) : Prop where
  chg : Chg (Opn D (fun k => k = LB) val) w w'
  opn : ∀ k, Opn D (fun k => k = LB) val' k → k < w.heap.size → Opn D (fun k => k = LB) val k
theorem Fr.refl (D LB : Nat) (val : Ix → Value) (w : World) : Fr D LB val val w w := ⟨Chg.refl _ _, fun _ h _ => h⟩
theorem Fr.trans {D LB : Nat} {val val1 val2 : Ix → Value} {w w1 w2 : World} (h : Fr D LB val val1 w w1) (g : Fr D LB val1 val2 w1 w2) : Fr D LB val val2 w w2 :=
  ⟨h.chg.then g.chg h.opn, fun k hk hl => h.opn k (g.opn k hk (Nat.lt_of_lt_of_le hl h.chg.size)) hl⟩
theorem Fr.of {D LB : Nat} {val : Ix → Value} {w w' : World} (h : Below w.heap.size w w') : Fr D LB val val w w' := ⟨Chg.of h, fun _ h _ => h⟩
theorem Fr.line {D LB : Nat} {val : Ix → Value} {w w' : World} (h : Chg (fun k => k = LB) w w') : Fr D LB val val w w' := ⟨h.mono fun k hk => Or.inr (Or.inl hk), fun _ h _ => h⟩
theorem Fr.lined {D LB : Nat} {val : Ix → Value} (w : World) (n : Nat) (s : Bs) : Fr D LB val val w ((w.drewN n).setCell ⟨LB, 0, none⟩ (sv s)) := Fr.line ((Chg.drew w n).trans (Chg.set _ _ _ rfl))
theorem Fr.own {D LB : Nat} {val : Ix → Value} {w w' : World} (h : Chg (fun k => k = D) w w') : Fr D LB val val w w' := ⟨h.mono fun k hk => Or.inl hk, fun _ h _ => h⟩
theorem Nx.fr {D LB : Nat} {val val' : Ix → Value} {w w' : World} (h : Nx D (fun k => k = LB) val val' w w') : Fr D LB val val' w w' := ⟨h.chg.mono fun k hk => hk.elim Or.inl fun e => Or.inr (Or.inr e), h.opn⟩
theorem Fr.below {D LB : Nat} {t : Tb} {said : Nat} {q : Dq} {val' : Ix → Value} {w w' : World} (h : Fr D LB q.val val' w w') (hd : Dr D (fun k => k = LB) t said q w) : Below D w w' :=
  h.chg.below (fun k hk => (hd.open_ge hk).1) (Nat.le_of_lt hd.lt)

/-- What a line leaves. -/
def LnOut (D LB : Nat) (val : Ix → Value) (said : Nat) (o : Ln) (w : World) (z : Ending) (w' : World) : Prop :=
  Chg (Opn D (fun k => k = LB) val) w w' ∧ match o with
    | .ok u => z = .returned (.int .i64 0) ∧ ∃ q', Dr D (fun k => k = LB) u said q' w' ∧ Fr D LB val q'.val w w' ∧ (said = 0 → Where D (fun k => k = LB) q'.val w' q'.mS u.states) ∧ (said = 1 → Where D (fun k => k = LB) q'.val w' q'.mV u.vars)
    | .error e => z = .returned (.int .i64 e) ∧ e ≠ 0

theorem firstE_names : ∀ l : List Bs, firstE nameErr l = if l.all I.isName = true then 0 else 6
  | [] => rfl
  | x :: l => by
    have ih := firstE_names l
    rw [firstE, List.all_cons, ih]
    cases hx : I.isName x with
    | true => simp [nameErr, hx]
    | false => simp [nameErr, hx]

section
variable {D LB : Nat} {t : Tb} {said : Nat} {q : Dq} {w : World}

/-- The line's cell turns. -/
theorem Dr.lined (h : Dr D (fun k => k = LB) t said q w) (n : Nat) (s : Bs) : Dr D (fun k => k = LB) t said q ((w.drewN n).setCell ⟨LB, 0, none⟩ (sv s)) := by
  have c : Chg (fun k => k = LB) w ((w.drewN n).setCell ⟨LB, 0, none⟩ (sv s)) := (Chg.drew w n).trans (Chg.set _ _ _ rfl)
  exact h.keep c (fun k hk _ => hk) (fun k hk => ⟨(h.xD k hk).1, Nat.lt_of_lt_of_le (h.xD k hk).2 c.size⟩) fun k hk _ => hk
theorem Box.lined {val : Ix → Value} {cb : Nat} (b : Box D (fun k => k = LB) val cb w) (n : Nat) (s : Bs) : Box D (fun k => k = LB) val cb ((w.drewN n).setCell ⟨LB, 0, none⟩ (sv s)) := by
  have c : Chg (fun k => k = LB) w ((w.drewN n).setCell ⟨LB, 0, none⟩ (sv s)) := (Chg.drew w n).trans (Chg.set _ _ _ rfl)
  exact b.step c (fun k hk _ => Or.inr (Or.inl hk)) fun k hk _ => hk
theorem lined_below (hD : D ≤ w.heap.size) (hL : D < LB) (n : Nat) (s : Bs) : Below D w ((w.drewN n).setCell ⟨LB, 0, none⟩ (sv s)) :=
  ((Chg.drew (S := fun k => k = LB) w n).trans (Chg.set _ _ _ rfl)).below (fun k hk => by omega) hD

def StJ (D LB cb : Nat) (val0 : Ix → Value) (t : Tb) (w0 : World) (done : List Bs) (w : World) : Prop :=
  ∃ q, Dr D (fun k => k = LB) { t with states := t.states ++ done } 0 q w ∧ Box D (fun k => k = LB) q.val cb w ∧ Fr D LB val0 q.val w0 w

theorem states_rdr (cb : Nat) (ht : t.states.length ≤ 100000) (hd0 : Dr D (fun k => k = LB) t 0 q w) (hg : GlD D w) : Rdr 68 #[.pointer (some ⟨cb, 0, none⟩)] LB nameErr (StJ D LB cb q.val t w) 100000 where
  ent := fun args w => enters_of Tryz.func68 (by kernel_rfl) rfl args w
  call := fun done word w1 ⟨q1, h1, b1, n1⟩ hw hd => by
    refine (states2_any cb word (by omega) (by show (t.states ++ done).length ≤ _; rw [List.length_append]; omega) h1 b1 (hg.step (n1.below hd0))).mono fun e w2 ⟨he, q2, h2, nx⟩ => ⟨he, ⟨q2, ?_, nx.box b1, n1.trans nx.fr⟩, fun s hl => nx.line h1 rfl hl⟩
    have e : (t.states ++ done) ++ [word] = t.states ++ (done ++ [word]) := List.append_assoc _ _ _
    show Dr D _ { t with states := t.states ++ (done ++ [word]) } 0 q2 w2
    rw [← e]; exact h2
  line := fun done w1 n s ⟨q1, h1, b1, n1⟩ => ⟨q1, h1.lined n s, b1.lined n s, n1.trans (Fr.lined w1 n s)⟩

set_option maxHeartbeats 4000000 in
set_option maxRecDepth 100000 in
theorem states1_any (cb : Nat) (s : Bs) (hs : s.length ≤ 99999) (ht : t.states.length ≤ 100000) (htl : ∀ x ∈ t.states, x.length ≤ 100000) (h : Dr D (fun k => k = LB) t 0 q w) (hb : Box D (fun k => k = LB) q.val cb w) (hg : GlD D w) (hl : LnAt w LB s) :
    Calls Tryz.prog 66 #[.pointer (some ⟨LB, 0, none⟩), .pointer (some ⟨cb, 0, none⟩)] w (LnOut D LB q.val 0 (stLine t s) w) := by
  have hJ0 : StJ D LB cb q.val t w [] w := ⟨q, (by
    have e : { t with states := t.states ++ [] } = t := by simp
    rw [e]
    exact h), hb, Fr.refl _ _ _ _⟩
  have HO := Lib.hid (oneOrMore_any (states_rdr cb ht h hg) s (by omega) (by omega) w hl hJ0)
  have HS := Lib.hid (And.intro hs (And.intro ht htl))
  have HG := Lib.hid hg
  clear hJ0 hg hs ht htl h hb hl
  go_enter Tryz.func66, Tryz.ntmps66
  go_wp2_with fail
  refine HO.out.mono ?_
  rintro _ w1 ⟨rfl, done, ⟨q1, h1, b1, n1⟩, hdl, hdx, hdw⟩
  obtain ⟨er, her⟩ : ∃ er, firstE nameErr (words s) = er := ⟨_, rfl⟩
  rw [her]
  have HER := Lib.hid (And.intro her hdw)
  have HP := Lib.hid (fun W (hW : Below w1.heap.size w1 W) => placesOf_any (t.states ++ done) (q1.val .st) W (Sl.below (Sl.owns (h1.rows.own .st)) hW) (by have := HS.out; rw [List.length_append]; omega) (fun x hx => by
    have h3 := HS.out
    unfold maxLen
    rcases List.mem_append.1 hx with hx | hx
    · have := h3.2.2 x hx; omega
    · have := hdx x hx; omega))
  have c0 := h1.cell 0 (v := q1.val .st) rfl
  have cbc := b1.cell
  have c5 := h1.cell 5 (v := q1.mS) rfl
  have f5 := h1.frozen 5 (by decide)
  have HD := Lib.hid h1
  have HB := Lib.hid b1
  have HN := Lib.hid n1
  clear h1 b1 n1 hdl hdx hdw her HO
  obtain ⟨vS, hvS⟩ : ∃ v, q1.val .st = v := ⟨_, rfl⟩
  rw [hvS] at c0 HP
  have HVS := Lib.hid hvS
  clear hvS
  go_wp2_with fail
  go_region_law (go_simp; go_at_call 71; refine (HP.out _ ((Below.refl w1.heap.size w1).drew)).mono ?_; rintro _ w2 ⟨rfl, hm2, hb2'⟩; have hb2 : Below w1.heap.size w1 w2 := ((Below.refl w1.heap.size w1).drew).trans hb2'; clear hb2'; have HM2 := Lib.hid hm2; have HB2 := Lib.hid hb2; have cb2 := kept_cell hb2 cbc; have c52 := kept_cell hb2 c5; have f52 := (hb2.frozen (p := ⟨D, 5, none⟩) HD.out.lt).trans f5; clear hm2 hb2)
  all_goals
    have HE := Lib.hid (HD.out.map_st w1.heap.size HB2.out HM2.out (Nat.le_refl _))
    have HBE := Lib.hid ((HN.out.trans (Fr.of HB2.out)).trans (Fr.own (Chg.set (S := fun k => k = D) w2 (g := D) 5 (.map (some w1.heap.size)) rfl)))
    clear cb2 c52 f52 cbc c5 f5 c0
    go_wp2_with fail
    go_ret
    refine ⟨HBE.out.chg, ?_⟩
    unfold stLine
    have e := firstE_names (words s)
    by_cases ha : (words s).all I.isName = true
    · rw [if_pos ha] at e ⊢
      have h0 : er = 0 := HER.out.1.symm.trans e
      have hd := HER.out.2 e
      subst hd
      exact ⟨ret_int h0, _, HE.out.1, HBE.out, fun _ => HE.out.2, fun h => by cases h⟩
    · rw [if_neg ha] at e ⊢
      have h0 : er = 6 := HER.out.1.symm.trans e
      exact ⟨ret_int h0, by decide⟩
end
end Go.Proofs.YtfooiggedgcjcaaGreatDoor.T

namespace Go.Proofs.YtfooiggedgcjcaaGreatDoor.T
open Go Go.RowKit Go.Proofs.YtfooiggedgcjcaaGreatDoor.B Go.Proofs.YtfooiggedgcjcaaGreatDoor.K Go.Proofs.YtfooiggedgcjcaaGreatDoor.E Go.Proofs.YtfooiggedgcjcaaGreatDoor.R
set_option linter.unusedVariables false

/-- What infix.Parse answers, where ip tells it. -/
structure IpOk (ip : Ip) : Prop where
  call : ∀ (s : Bs) (vs : List Bs) (na : Int) (r : List In × Int) (v1 : Value) (w : World), ip s vs na = some r → Globs w → I.Names w v1 vs → s.length ≤ 8192 → vs.length ≤ 10000 → (∀ x ∈ vs, I.isName x = true) → 0 ≤ na → na ≤ 1099511627776 →
    Calls Tryz.prog 114 #[sv s, v1, .int .i64 na] w fun z w' => ∃ v p, z = .returned (.tuple #[v, .int .i64 p, .int .i64 r.2]) ∧ (∃ a n c, v = .slice a n c) ∧ (r.2 = 0 → w'.ownsRow w.heap.size 83 2 v r.1.length (pairCells r.1)) ∧ Below w.heap.size w w'

section
variable {D : Nat} {X : Nat → Prop} {t : Tb} {said : Nat} {q : Dq} {w : World}

set_option maxHeartbeats 2000000 in
theorem ruleOf_any (h : Dr D X t said q w) {rs : List Rl} {r : Rl} (ht : t.rules = rs ++ [r]) {gR cap : Nat} (hru : q.val .ru = .slice (some ⟨gR, 0, none⟩) (rs.length + 1) cap) (hl : rs.length ≤ 1000000) :
    Calls Tryz.prog 29 #[.pointer (some ⟨D, 0, none⟩)] w fun z w' => z = .returned (.pointer (some ⟨gR, rs.length * 5, none⟩)) ∧ ∃ n, w' = w.drewN n := by
  have c3 := h.cell 3 (v := q.val .ru) rfl
  rw [hru] at c3
  obtain ⟨n, hn⟩ : ∃ n, rs.length = n := ⟨_, rfl⟩
  rw [hn] at c3 hl ⊢
  have e1 : IntKind.i64.wrap (n : Int) = (n : Int) := IntWalk.i64_in _ (by omega)
  have e2 : (0 : Int) ≤ (n : Int) := by omega
  have e3 : (n : Int) < (n : Int) + 1 := by omega
  clear h ht hru hn hl
  go_enter Tryz.func29, Tryz.ntmps29
  go_wp2_with fail
  go_quiet (fail)
  go_wp2_with fail
  go_ret
  exact ⟨rfl, _, rfl⟩

/-- What an expression comes to. -/
def ExOut (rr : List In × Int) (w : World) (z : Ending) (w' : World) : Prop :=
  ∃ v, z = .returned (.tuple #[v, .int .i64 rr.2]) ∧ (∃ a n c, v = .slice a n c) ∧ (rr.2 = 0 → w'.ownsRow w.heap.size 83 2 v rr.1.length (pairCells rr.1)) ∧ Below w.heap.size w w'

set_option maxHeartbeats 4000000 in
set_option maxRecDepth 100000 in
theorem expr1_any {ip : Ip} (hip : IpOk ip) (cb : Nat) (s : Bs) (h : Dr D X t said q w) {rs : List Rl} {r : Rl} (ht : t.rules = rs ++ [r]) (hl : rs.length ≤ 1000000) (hb : Box D X q.val cb w) (hg : Globs w) {rr : List In × Int} (hr : ip s t.vars r.args = some rr)
    (hs : s.length ≤ 8192) (hv : t.vars.length ≤ 10000) (hn : ∀ x ∈ t.vars, I.isName x = true) (ha : 0 ≤ r.args ∧ r.args ≤ 1099511627776) :
    Calls Tryz.prog 113 #[sv s, .pointer (some ⟨cb, 0, none⟩)] w (ExOut rr w) := by
  obtain ⟨gR, cap, hru, hgD, hgl, hcells⟩ := h.last ht
  have HRU := Lib.hid (fun n => ruleOf_any (h.grow (below_drewN (Below.refl _ _) n)) ht hru hl)
  have cbc := hb.cell
  have c1 := h.cell 1 (v := q.val .va) rfl
  obtain ⟨a1, -⟩ := hcells 1 (.int .i64 r.args) rfl
  have HP := Lib.hid (fun W (hW : Below w.heap.size w W) => (hip.call s t.vars r.args rr (q.val .va) W hr (hg.below hW) (Sl.below (Sl.owns (h.rows.own .va)) hW) hs hv hn ha.1 ha.2).mono (R' := fun z w' => ∃ v, z = .returned (.tuple #[v.1, .int .i64 v.2, .int .i64 rr.2]) ∧ (∃ a n c, v.1 = .slice a n c) ∧ (rr.2 = 0 → w'.ownsRow w.heap.size 83 2 v.1 rr.1.length (pairCells rr.1)) ∧ Below w.heap.size w w') fun z w' ⟨v, p, h1, h2, h3, h4⟩ => ⟨(v, p), h1, h2, fun h0 => by
    rcases (h3 h0).2 with h5 | ⟨g, cap, cur, h5, h6, h7⟩
    · exact ⟨(h3 h0).1, Or.inl h5⟩
    · exact ⟨(h3 h0).1, Or.inr ⟨g, cap, cur, h5, Nat.le_trans hW.size h6, h7⟩⟩, hW.trans (h4.mono hW.size)⟩)
  obtain ⟨e, he⟩ : ∃ e, rr.2 = e := ⟨_, rfl⟩
  rw [he] at HP
  have HE := Lib.hid he
  clear h hb hg hr hs hv hn ha hl ht hru hgD hcells hip he
  unfold sv at HP ⊢
  go_enter Tryz.func113, Tryz.ntmps113
  go_wp2_with fail
  go_region_law (first | (go_simp; go_at_call 29; refine (HRU.out _).mono ?_; rintro _ w1 ⟨rfl, n, rfl⟩) | (go_simp; go_at_call 114; refine (HP.out _ (by first | exact below_drewN (Below.refl w.heap.size w).drew _ | exact (below_drewN (Below.refl w.heap.size w).drew _).drew | exact below_drewN (Below.refl w.heap.size w) _)).mono ?_; rintro _ w2 ⟨⟨v2, p2⟩, rfl, ⟨b2, n2, k2, hv2⟩, ho2, hb2⟩; simp only at hv2; subst hv2; have HO2 := Lib.hid ho2; have HB2 := Lib.hid hb2; clear ho2 hb2))
  all_goals
    clear c1 cbc a1
    go_wp2_with fail
    go_ret2
    refine ⟨_, ?_, ⟨_, _, _, rfl⟩, fun h0 => HO2.out (HE.out.symm.trans h0), HB2.out⟩
    rw [HE.out]; rfl
end
end Go.Proofs.YtfooiggedgcjcaaGreatDoor.T

namespace Go.Proofs.YtfooiggedgcjcaaGreatDoor.T
open Go Go.RowKit Go.Proofs.YtfooiggedgcjcaaGreatDoor.B Go.Proofs.YtfooiggedgcjcaaGreatDoor.K Go.Proofs.YtfooiggedgcjcaaGreatDoor.E Go.Proofs.YtfooiggedgcjcaaGreatDoor.R
set_option linter.unusedVariables false

theorem findAll_is (l : List Bs) : ∀ ws : List Bs, findAll l ws = if firstE (fun w => (findN l w).2) ws = 0 then .ok (ws.map fun w => (findN l w).1) else .error (firstE (fun w => (findN l w).2) ws)
  | [] => by rw [findAll, firstE, if_pos rfl]; rfl
  | w :: r => by
    have ih := findAll_is l r
    by_cases h : (findN l w).2 = 0
    · rw [findAll, if_neg (fun h1 => h1 h), ih]
      have e : firstE (fun w => (findN l w).2) (w :: r) = firstE (fun w => (findN l w).2) r := by rw [firstE, if_neg (fun h1 => h1 h)]
      rw [e]
      by_cases h0 : firstE (fun w => (findN l w).2) r = 0
      · rw [if_pos h0, if_pos h0]; rfl
      · rw [if_neg h0, if_neg h0]
    · have e : firstE (fun w => (findN l w).2) (w :: r) = (findN l w).2 := by rw [firstE, if_pos h]
      rw [findAll, if_pos h, e, if_neg h]

section
variable {D LB : Nat} {t : Tb} {said : Nat} {q : Dq} {w : World}

/-- The loop's world: below what was there nothing but the line has turned; the list grows. -/
structure FrJ (D LB cb lb : Nat) (l : List Bs) (w0 : World) (done : List Bs) (w : World) : Prop where
  chg : Chg (fun k => k = LB ∨ w0.heap.size ≤ k) w0 w
  cbc : w.cell? ⟨cb, 0, none⟩ = some (.pointer (some ⟨D, 0, none⟩))
  row : ∃ lv, w.cell? ⟨lb, 0, none⟩ = some lv ∧ w.frozen? ⟨lb, 0, none⟩ = false ∧ w.ownsRow (lb + 1) 3 1 lv done.length ((done.map fun x => (findN l x).1).map fun n => .int .i64 n)
  places : w0.heap.size ≤ cb ∧ cb < lb ∧ LB < w0.heap.size

set_option maxHeartbeats 2000000 in
theorem from1_any (cb lb b : Nat) (word : Bs) (hw : word.length ≤ 281474976710656) (done : List Bs) (hd : done.length ≤ 1000000) (w0 : World) (hm : MapIs w0 b t.states) (hbL : b ≠ LB) (hD : D ≠ LB) (mc : w0.cell? ⟨D, 5, none⟩ = some (.map (some b))) (w1 : World) (hg : I.Glob w1) (h : FrJ D LB cb lb t.states w0 done w1) :
    Calls Tryz.prog 111 #[sv word, .pointer (some ⟨cb, 0, none⟩), .pointer (some ⟨lb, 0, none⟩)] w1 fun z w' => z = .returned (.int .i64 (findN t.states word).2) ∧ FrJ D LB cb lb t.states w0 (done ++ [word]) w' ∧ Chg (fun k => lb ≤ k) w1 w' := by
  have hlt := hm.lt
  have hm1 := hm.chg h.chg (fun hk => by rcases hk with e | e; exact hbL e; omega)
  have hDlt : D < w0.heap.size := World.block_lt_of_cell? w0 _ mc
  have mc1 := h.chg.cell mc (fun hk => by rcases hk with e | e; exact hD e; omega)
  have HF := Lib.hid (find_any b t.states word w1 hm1 hg hw)
  have cbc := h.cbc
  obtain ⟨lv, lc, lf, lo⟩ := h.row
  obtain ⟨i0, hi, hz0, hz1, hz2⟩ := info_int
  obtain ⟨x, hx⟩ : ∃ x, (findN t.states word).1 = x := ⟨_, rfl⟩
  obtain ⟨er, her⟩ : ∃ er, (findN t.states word).2 = er := ⟨_, rfl⟩
  rw [hx, her] at HF
  rw [her]
  have HX := Lib.hid hx
  have HJ := Lib.hid h
  have HO := Lib.hid lo
  have HLC := Lib.hid lc
  have HLF := Lib.hid lf
  have hlbl := World.block_lt_of_cell? w1 _ lc
  have hlb0 : lb < w1.heap.size := hlbl
  have HLT := Lib.hid hlb0
  have HS1 := Lib.hid (show lb + 1 ≤ (w1.alloc (.cells #[.int .i64 x] 3)).heap.size by simp; omega)
  have HR1 := Lib.hid (show done.length + 1 ≤ maxLen by unfold maxLen; omega)
  have HR2 := Lib.hid (show (done.length + 1) * 8 ≤ 140737488355328 by omega)
  have HND := Lib.hid (show ¬ lv.ownBlock = some lb from fun e => by have := own_block_lt lo e; omega)
  have HB2 := Lib.hid (show Below w1.heap.size w1 (w1.alloc (.cells #[.int .i64 x] 3)) from (Below.refl _ _).alloc (Nat.le_refl _) _)
  have ml := mc1
  clear hm hm1 h lo lf mc hw hg hx her hlt hDlt hbL hD hlbl hlb0 hd mc1
  unfold sv at HF ⊢
  go_enter Tryz.func111, Tryz.ntmps111
  go_wp2_with (first | (go_at_call 112; refine HF.out.mono ?_; rintro _ w2 ⟨rfl, rfl⟩) | (at_builtin; go_must (refine wpList_append_lies _ rfl _ _ 23 rfl (lb + 1) 3 i0 (.int .i64 0) 1 8 Tryz.underlying23 hi hz0 hz1 hz2 rfl (by decide) _ _ _ rfl (World.ownsRow.alloc HO.out _) ⟨w1.heap.size, 0, none⟩ 1 1 [.int .i64 x] rfl rfl (fun j u hj => one_new _ _ _ j u hj) (one_int _) (by decide) HR1.out HR2.out HS1.out _ rfl ?_); intro g3 cap3 w3 hown3 hgrow3 hblk3 hlt3; have HA := Lib.hid (App.of (D := lb) HB2.out hown3 hgrow3 (hblk3.elim (fun e => Or.inl e.symm) (fun e => Or.inr (by rw [e]; rfl)))); have c3 := HA.out.chg.cell HLC.out HND.out; have f3 := (HA.out.chg.frozens HLT.out HND.out 0).trans HLF.out; have HO3 := Lib.hid hown3; clear hown3 hgrow3 hblk3 hlt3))
  have hs3 : Chg (fun k => lb ≤ k) w3 (w3.setCell ⟨lb, 0, none⟩ (.slice (some ⟨g3, 0, none⟩) (done.length + 1) cap3)) := Chg.set w3 0 _ (Nat.le_refl _)
  have hc3 : Chg (fun k => lb ≤ k) w1 w3 := HA.out.chg.mono fun k hk => by have := own_block_lt HO.out hk; omega
  have HC3 := Lib.hid (hc3.trans hs3)
  have HSET := Lib.hid (World.cell?_setCell_same w3 ⟨lb, 0, none⟩ (.slice (some ⟨g3, 0, none⟩) (done.length + 1) cap3) c3)
  have HFZ := Lib.hid (show (w3.setCell ⟨lb, 0, none⟩ (.slice (some ⟨g3, 0, none⟩) (done.length + 1) cap3)).frozen? ⟨lb, 0, none⟩ = false by rw [World.frozen?_setCell]; exact f3)
  clear hs3 hc3 c3 f3 cbc lc ml
  go_wp2_with fail
  go_ret
  refine ⟨rfl, ⟨?_, ?_, ⟨_, HSET.out, HFZ.out, ?_⟩, HJ.out.places⟩, HC3.out⟩
  · exact HJ.out.chg.trans (HC3.out.mono fun k hk => by have := HJ.out.places; omega)
  · exact HC3.out.cell HJ.out.cbc (by have := HJ.out.places; omega)
  · have := (Chg.set (S := fun k => k = lb) w3 (g := lb) 0 (.slice (some ⟨g3, 0, none⟩) (done.length + 1) cap3) rfl).own HO3.out fun k hk e => by have := own_block_lt HO3.out hk; omega
    have e1 : (((done ++ [word]).map fun x => (findN t.states x).1).map fun n => Value.int .i64 n) = ((done.map fun x => (findN t.states x).1).map fun n => .int .i64 n) ++ [.int .i64 x] := by simp [HX.out]
    rw [e1, List.length_append]
    exact this

theorem from_rdr (cb lb b : Nat) (w0 : World) (hm : MapIs w0 b t.states) (hbL : b ≠ LB) (hD : D < LB) (mc : w0.cell? ⟨D, 5, none⟩ = some (.map (some b))) (hg : GlD D w0) :
    Rdr 111 #[.pointer (some ⟨cb, 0, none⟩), .pointer (some ⟨lb, 0, none⟩)] LB (fun x => (findN t.states x).2) (FrJ D LB cb lb t.states w0) 100000 where
  ent := fun args w => enters_of Tryz.func111 (by kernel_rfl) rfl args w
  call := fun done word w1 h hw hd => by
    have hD0 : D < w0.heap.size := World.block_lt_of_cell? w0 _ mc
    have hg1 := (hg.step (h.chg.below (fun k hk => by omega) (Nat.le_of_lt hD0))).now.glob
    refine (from1_any cb lb b word (by omega) done (by omega) w0 hm hbL (by omega) mc w1 hg1 h).mono fun e w2 ⟨he, h2, hc⟩ => ⟨he, h2, fun s hl => hl.chg hc fun hk => by have := h.places; omega⟩
  line := fun done w1 n s h => by
    have c : Chg (fun k => k = LB) w1 ((w1.drewN n).setCell ⟨LB, 0, none⟩ (sv s)) := (Chg.drew w1 n).trans (Chg.set _ _ _ rfl)
    obtain ⟨lv, l1, l2, l3⟩ := h.row
    have hp := h.places
    have hlb1 : lb < w1.heap.size := World.block_lt_of_cell? w1 _ l1
    refine ⟨h.chg.trans (c.mono fun k hk => Or.inl hk), c.cell h.cbc (by omega), ⟨lv, c.cell l1 (by omega), (c.frozens hlb1 (by omega) 0).trans l2, c.own l3 fun k hk e => by have := own_block_lt l3 hk; omega⟩, hp⟩

def FromOut (D LB : Nat) (t : Tb) (s : Bs) (w : World) (z : Ending) (w' : World) : Prop :=
  ∃ lv er, z = .returned (.tuple #[lv, .int .i64 er]) ∧ Chg (fun k => k = LB ∨ w.heap.size ≤ k) w w' ∧ (∃ a n c, lv = .slice a n c) ∧
    ((er ≠ 0 ∧ rlFrom t s = .error er) ∨ (er = 0 ∧ ∃ l, rlFrom t s = .ok l ∧ w'.ownsRow w.heap.size 3 1 lv l.length (l.map fun n => .int .i64 n)))

set_option maxHeartbeats 4000000 in
theorem from_any (s : Bs) (hs : s.length ≤ 99999) (h0 : s ≠ []) (h : Dr D (fun k => k = LB) t said q w) (h2 : 1 ≤ said) (hg : GlD D w) (hl : LnAt w LB s) :
    Calls Tryz.prog 76 #[.pointer (some ⟨D, 0, none⟩), .pointer (some ⟨LB, 0, none⟩)] w (FromOut D LB t s w) := by
  obtain ⟨b, hmb, hm, hno⟩ := h.mS h2
  have mc := h.cell 5 (v := q.mS) rfl
  rw [hmb] at mc
  have hDL := (h.xD LB rfl).1
  have hLlt := hl.lt
  have hwa := wd_le s
  have hal : Chg (fun _ => False) w (w.alloc (.cells #[.pointer (some ⟨D, 0, none⟩)] 49)) := Chg.alloc _ _
  have hl1 := hl.chg hal (fun h => h)
  have HW := Lib.hid (word_any LB s (by omega) _ hl1.cell hl1.frozen)
  have HL := Lib.hid hl1
  have HLLT := Lib.hid hLlt
  have HS := Lib.hid hs
  have HAL := Lib.hid hal
  have HR := Lib.hid (fun cb lb => from_rdr (t := t) cb lb b w hm (fun e => hno (by rw [e]; exact Or.inr (Or.inl rfl))) hDL mc hg)
  have HRF := Lib.hid (show rlFrom t s = if wd s ≠ wFrom then .error 6 else findAll t.states (words (nx s)) by unfold rlFrom; rw [if_neg h0])
  obtain ⟨x, hx⟩ : ∃ x, wd s = x := ⟨_, rfl⟩
  rw [hx] at HW HRF hwa
  clear h hl hg h2 hm hno mc hmb hal hl1 hs hwa h0 hx
  unfold sv at HW
  by_cases hxf : x = wFrom
  · subst hxf
    have e1 : ((str wFrom).toList != ([102, 114, 111, 109] : Bs)) = false := by rw [str_toList]; rfl
    have e2 : ((str wFrom).toList == ([102, 114, 111, 109] : Bs)) = true := by rw [str_toList]; rfl
    go_enter Tryz.func76, Tryz.ntmps76
    go_wp2_with (first | (go_at_call 13; refine HW.out.mono ?_; rintro _ w1 ⟨rfl, n1, rfl⟩))
    obtain ⟨W1, hW1⟩ : ∃ W, ((w.alloc (.cells #[.pointer (some ⟨D, 0, none⟩)] 49)).drewN n1).setCell ⟨LB, 0, none⟩ (sv (nx s)) = W := ⟨_, rfl⟩
    have hsz : W1.heap.size = w.heap.size + 1 := by rw [← hW1]; simp
    have hc1 : Chg (fun k => k = LB ∨ w.heap.size ≤ k) w W1 := by
      rw [← hW1]
      exact (HAL.out.mono fun _ h => h.elim).trans (((Chg.drew _ n1).trans (Chg.set _ _ _ (Or.inl rfl))))
    have hcb : W1.cell? ⟨w.heap.size, 0, none⟩ = some (.pointer (some ⟨D, 0, none⟩)) := by
      have h1 : (w.alloc (.cells #[.pointer (some ⟨D, 0, none⟩)] 49)).cell? ⟨w.heap.size, 0, none⟩ = some (.pointer (some ⟨D, 0, none⟩)) := by
        rw [cell_of_row _ _ _ _ _ _ (heap_alloc_at w _)]; rfl
      have h2 : Chg (fun k => k = LB) (w.alloc (.cells #[.pointer (some ⟨D, 0, none⟩)] 49)) W1 := by rw [← hW1]; exact (Chg.drew _ n1).trans (Chg.set _ _ _ rfl)
      exact h2.cell h1 (by have := HLLT.out; omega)
    have hl1 : LnAt W1 LB (nx s) := by rw [← hW1]; exact HL.out.set n1 (nx s)
    obtain ⟨W2, hW2⟩ : ∃ W, W1.alloc (.cells #[.slice none 0 0] 23) = W := ⟨_, rfl⟩
    have hc2 : Chg (fun _ => False) W1 W2 := by rw [← hW2]; exact Chg.alloc _ _
    have hl2 : LnAt W2 LB (nx s) := hl1.chg hc2 (fun h => h)
    have hlb : W2.cell? ⟨W1.heap.size, 0, none⟩ = some (.slice none 0 0) := by rw [← hW2, cell_of_row _ _ _ _ _ _ (heap_alloc_at W1 _)]; rfl
    have hlf : W2.frozen? ⟨W1.heap.size, 0, none⟩ = false := by rw [← hW2]; exact (row_cell (heap_alloc_at W1 _) (by simp)).choose_spec.2
    have hJ : FrJ D LB w.heap.size W1.heap.size t.states w [] W2 :=
      ⟨hc1.trans (hc2.mono fun _ h => h.elim), hc2.cell hcb (fun h => h), ⟨_, hlb, hlf, World.ownsRow_nil _ _ _ _⟩, by have := HLLT.out; omega⟩
    have HO := Lib.hid (oneOrMore_any (HR.out w.heap.size W1.heap.size) (nx s) (by have := nx_le s; have := HS.out; omega) (by omega) W2 hl2 hJ)
    have HC1 := Lib.hid hc1
    have HSZ := Lib.hid hsz
    clear hc1 hcb hl1 hc2 hl2 hlb hlf hJ e1 e2
    subst hW2
    rw [hsz] at HO
    clear hsz
    subst hW1
    refine HO.out.mono ?_
    rintro _ w3 ⟨rfl, done, hJ3, hdl, hdx, hdw⟩
    obtain ⟨lv, l1, l2, l3⟩ := hJ3.row
    have HJ3 := Lib.hid hJ3
    have HL3 := Lib.hid l3
    obtain ⟨er, her⟩ : ∃ er, firstE (fun x => (findN t.states x).2) (words (nx s)) = er := ⟨_, rfl⟩
    rw [her] at hdw ⊢
    have HER := Lib.hid (And.intro her hdw)
    obtain ⟨a3, cap3, hv3⟩ := own_shape5 l3
    subst hv3
    clear hJ3 l2 l3 hdl hdx hdw her HO
    go_wp2_with fail
    go_ret2
    have hfa := findAll_is t.states (words (nx s))
    rw [HER.out.1] at hfa
    refine ⟨_, er, rfl, HJ3.out.chg, ⟨_, _, _, rfl⟩, ?_⟩
    by_cases h0 : er = 0
    · right
      refine ⟨h0, (words (nx s)).map fun x => (findN t.states x).1, ?_, ?_⟩
      · rw [HRF.out, if_neg (fun h => h rfl), hfa, if_pos h0]
      · have hd := HER.out.2 h0
        subst hd
        have h4 := HL3.out
        rw [List.length_map]
        rcases h4.2 with h5 | ⟨g, cap, cur, h5, h6, h7⟩
        · exact ⟨h4.1, Or.inl h5⟩
        · exact ⟨h4.1, Or.inr ⟨g, cap, cur, h5, by have := HSZ.out; omega, h7⟩⟩
    · left
      exact ⟨h0, by rw [HRF.out, if_neg (fun h => h rfl), hfa, if_neg h0]⟩
  · have e1 : ((str x).toList == ([102, 114, 111, 109] : Bs)) = false := by rw [str_toList]; exact beq_eq_false_iff_ne.2 hxf
    have e2 : ((str x).toList != ([102, 114, 111, 109] : Bs)) = true := by rw [bne, e1]; rfl
    go_enter Tryz.func76, Tryz.ntmps76
    go_wp2_with (first | (go_at_call 13; refine HW.out.mono ?_; rintro _ w1 ⟨rfl, n1, rfl⟩))
    go_ret2
    refine ⟨_, 6, rfl, ?_, ⟨none, 0, 0, rfl⟩, Or.inl ⟨by decide, ?_⟩⟩
    · exact (HAL.out.mono fun _ h => h.elim).trans (((Chg.drew _ n1).trans (Chg.set _ _ _ (Or.inl rfl))))
    · rw [HRF.out, if_pos hxf]
end
end Go.Proofs.YtfooiggedgcjcaaGreatDoor.T
