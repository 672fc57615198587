/-
  Layer 4: the program's reader does what the grammar's derivations say.
-/
import Derived.Test.YtjcajeehgjpmmaaGreatDoorTPe
import Derived.IntWalk
namespace Go.Proofs.YtjcajeehgjpmmaaGreatDoor.T
open Go Go.RowKit B K E R
set_option linter.unusedVariables false
structure Fr (D LB : Nat) (val val' : Ix -> Value) (w w' : World) : Prop where
 chg : Chg (Opn D (fun k => k = LB) val) w w'
 opn : ∀ k, Opn D (fun k => k = LB) val' k -> k < w.heap.size -> Opn D (fun k => k = LB) val k
theorem Fr.refl (D LB : Nat) (val : Ix -> Value) (w : World) : Fr D LB val val w w := ⟨Chg.refl _ _, fun _ h _ => h⟩
theorem Fr.trans {D LB : Nat} {val val1 val2 : Ix -> Value} {w w1 w2 : World} (h : Fr D LB val val1 w w1) (g : Fr D LB val1 val2 w1 w2) : Fr D LB val val2 w w2 :=
 ⟨h.chg.then g.chg h.opn, fun k hk hl => h.opn k (g.opn k hk (Nat.lt_of_lt_of_le hl h.chg.size)) hl⟩
theorem Fr.of {D LB : Nat} {val : Ix -> Value} {w w' : World} (h : Below w.heap.size w w') : Fr D LB val val w w' := ⟨Chg.of h, fun _ h _ => h⟩
theorem Fr.line {D LB : Nat} {val : Ix -> Value} {w w' : World} (h : Chg (fun k => k = LB) w w') : Fr D LB val val w w' := ⟨h.mono fun k hk => Or.inr (Or.inl hk), fun _ h _ => h⟩
theorem Fr.lined {D LB : Nat} {val : Ix -> Value} (w : World) (n : Nat) (s : Bs) : Fr D LB val val w ((w.drewN n).setCell ⟨LB, 0, none⟩ (sv s)) := Fr.line ((Chg.drew w n).trans (Chg.set _ _ _ rfl))
theorem Fr.own {D LB : Nat} {val : Ix -> Value} {w w' : World} (h : Chg (fun k => k = D) w w') : Fr D LB val val w w' := ⟨h.mono fun k hk => Or.inl hk, fun _ h _ => h⟩
theorem Nx.fr {D LB : Nat} {val val' : Ix -> Value} {w w' : World} (h : Nx D (fun k => k = LB) val val' w w') : Fr D LB val val' w w' := ⟨h.chg.mono fun k hk => hk.elim Or.inl fun e => Or.inr (Or.inr e), h.opn⟩
theorem Fr.below {D LB : Nat} {t : Tb} {said : Nat} {q : Dq} {val' : Ix -> Value} {w w' : World} (h : Fr D LB q.val val' w w') (hd : Dr D (fun k => k = LB) t said q w) : Below D w w' :=
 h.chg.below (fun k hk => (hd.open_ge hk).1) (Nat.le_of_lt hd.lt)
def LnOut (D LB : Nat) (val : Ix -> Value) (said : Nat) (o : Ln) (w : World) (z : Ending) (w' : World) : Prop :=
 Chg (Opn D (fun k => k = LB) val) w w' /\ match o with
  | .ok u => z = .returned (.int .i64 0) /\ ∃ q', Dr D (fun k => k = LB) u said q' w' /\ Fr D LB val q'.val w w' /\ (said = 0 -> Where D (fun k => k = LB) q'.val w' q'.mS u.states) /\ (said = 1 -> Where D (fun k => k = LB) q'.val w' q'.mV u.vars)
  | .error e => z = .returned (.int .i64 e) /\ e ≠ 0
theorem firstE_names : ∀ l : List Bs, firstE nameErr l = if l.all I.isName = true then 0 else 6
 | [] => rfl
 | x :: l => by
  have ih := firstE_names l;rw [firstE, List.all_cons, ih];cases hx : I.isName x with
  | true => simp [nameErr, hx]
  | false => simp [nameErr, hx]
section
variable {D LB : Nat} {t : Tb} {said : Nat} {q : Dq} {w : World}
theorem Dr.lined (h : Dr D (fun k => k = LB) t said q w) (n : Nat) (s : Bs) : Dr D (fun k => k = LB) t said q ((w.drewN n).setCell ⟨LB, 0, none⟩ (sv s)) := by
 have c : Chg (fun k => k = LB) w ((w.drewN n).setCell ⟨LB, 0, none⟩ (sv s)) := (Chg.drew w n).trans (Chg.set _ _ _ rfl);exact h.keep c (fun k hk _ => hk) (fun k hk => ⟨(h.xD k hk).1, Nat.lt_of_lt_of_le (h.xD k hk).2 c.size⟩) fun k hk _ => hk
theorem Box.lined {val : Ix -> Value} {cb : Nat} (b : Box D (fun k => k = LB) val cb w) (n : Nat) (s : Bs) : Box D (fun k => k = LB) val cb ((w.drewN n).setCell ⟨LB, 0, none⟩ (sv s)) := by
 have c : Chg (fun k => k = LB) w ((w.drewN n).setCell ⟨LB, 0, none⟩ (sv s)) := (Chg.drew w n).trans (Chg.set _ _ _ rfl);exact b.step c (fun k hk _ => Or.inr (Or.inl hk)) fun k hk _ => hk
theorem lined_below (hD : D <= w.heap.size) (hL : D < LB) (n : Nat) (s : Bs) : Below D w ((w.drewN n).setCell ⟨LB, 0, none⟩ (sv s)) :=
 ((Chg.drew (S := fun k => k = LB) w n).trans (Chg.set _ _ _ rfl)).below (fun k hk => by omega) hD
def StJ (D LB cb : Nat) (val0 : Ix -> Value) (t : Tb) (w0 : World) (done : List Bs) (w : World) : Prop :=
 ∃ q, Dr D (fun k => k = LB) { t with states := t.states ++ done } 0 q w /\ Box D (fun k => k = LB) q.val cb w /\ Fr D LB val0 q.val w0 w
theorem states_rdr (cb : Nat) (ht : t.states.length <= 100000) (hd0 : Dr D (fun k => k = LB) t 0 q w) (hg : GlD D w) : Rdr 93 #[.pointer (some ⟨cb, 0, none⟩)] LB nameErr (StJ D LB cb q.val t w) 100000 where
 ent := fun args w => enters_of Tryz.func93 (by kernel_rfl) rfl args w
 call := fun done word w1 ⟨q1, h1, b1, n1⟩ hw hd => by
  refine (states2_any cb word (by omega) (by show (t.states ++ done).length <= _; rw [List.length_append]; omega) h1 b1 (hg.step (n1.below hd0))).mono fun e w2 ⟨he, q2, h2, nx⟩ => ⟨he, ⟨q2, ?_, nx.box b1, n1.trans nx.fr⟩, fun s hl => nx.line h1 rfl hl⟩
  have e : (t.states ++ done) ++ [word] = t.states ++ (done ++ [word]) := List.append_assoc _ _ _;show Dr D _ { t with states := t.states ++ (done ++ [word]) } 0 q2 w2
  rw [<- e]; exact h2
 line := fun done w1 n s ⟨q1, h1, b1, n1⟩ => ⟨q1, h1.lined n s, b1.lined n s, n1.trans (Fr.lined w1 n s)⟩
set_option maxHeartbeats 4000000 in
set_option maxRecDepth 100000 in
theorem states1_any (cb : Nat) (s : Bs) (hs : s.length <= 99999) (ht : t.states.length <= 100000) (htl : ∀ x ∈ t.states, x.length <= 100000) (h : Dr D (fun k => k = LB) t 0 q w) (hb : Box D (fun k => k = LB) q.val cb w) (hg : GlD D w) (hl : LnAt w LB s) :
 Calls Tryz.prog 91 #[.pointer (some ⟨LB, 0, none⟩), .pointer (some ⟨cb, 0, none⟩)] w (LnOut D LB q.val 0 (stLine t s) w) := by
 have hJ0 : StJ D LB cb q.val t w [] w := ⟨q, (by
  have e : { t with states := t.states ++ [] } = t := by simp
  rw [e];exact h), hb, Fr.refl _ _ _ _⟩
 have HO := Lib.hid (oneOrMore_any (states_rdr cb ht h hg) s (by omega) (by omega) w hl hJ0);have HS := Lib.hid (And.intro hs (And.intro ht htl));have HG := Lib.hid hg;clear hJ0 hg hs ht htl h hb hl;go_enter Tryz.func91, Tryz.ntmps91;go_wp2_with fail;refine HO.out.mono ?_;rintro _ w1 ⟨rfl, done, ⟨q1, h1, b1, n1⟩, hdl, hdx, hdw⟩;obtain ⟨er, her⟩ : ∃ er, firstE nameErr (words s) = er := ⟨_, rfl⟩;rw [her];have HER := Lib.hid (And.intro her hdw);have HP := Lib.hid (fun W (hW : Below w1.heap.size w1 W) => placesOf_any (t.states ++ done) (q1.val .st) W (Sl.below (Sl.owns (h1.rows.own .st)) hW) (by have := HS.out; rw [List.length_append]; omega) (fun x hx => by
  have h3 := HS.out;unfold maxLen;rcases List.mem_append.1 hx with hx | hx
  ·have := h3.2.2 x hx; omega
  ·have := hdx x hx; omega))
 have c0 := h1.cell 0 (v := q1.val .st) rfl;have cbc := b1.cell;have c5 := h1.cell 5 (v := q1.mS) rfl;have f5 := h1.frozen 5 (by decide);have HD := Lib.hid h1;have HB := Lib.hid b1;have HN := Lib.hid n1;clear h1 b1 n1 hdl hdx hdw her HO;obtain ⟨vS, hvS⟩ : ∃ v, q1.val .st = v := ⟨_, rfl⟩;rw [hvS] at c0 HP;have HVS := Lib.hid hvS;clear hvS;go_wp2_with fail;go_region_law (go_simp; go_at_call 96; refine (HP.out _ ((Below.refl w1.heap.size w1).drew)).mono ?_; rintro _ w2 ⟨rfl, hm2, hb2'⟩; have hb2 : Below w1.heap.size w1 w2 := ((Below.refl w1.heap.size w1).drew).trans hb2'; clear hb2'; have HM2 := Lib.hid hm2; have HB2 := Lib.hid hb2; have cb2 := kept_cell hb2 cbc; have c52 := kept_cell hb2 c5; have f52 := (hb2.frozen (p := ⟨D, 5, none⟩) HD.out.lt).trans f5; clear hm2 hb2)
 all_goals
  have HE := Lib.hid (HD.out.map_st w1.heap.size HB2.out HM2.out (Nat.le_refl _));have HBE := Lib.hid ((HN.out.trans (Fr.of HB2.out)).trans (Fr.own (Chg.set (S := fun k => k = D) w2 (g := D) 5 (.map (some w1.heap.size)) rfl)));clear cb2 c52 f52 cbc c5 f5 c0;go_wp2_with fail;go_ret;refine ⟨HBE.out.chg, ?_⟩;unfold stLine;have e := firstE_names (words s);by_cases ha : (words s).all I.isName = true
  ·rw [if_pos ha] at e ⊢
   have h0 : er = 0 := HER.out.1.symm.trans e;have hd := HER.out.2 e;subst hd;exact ⟨ret_int h0, _, HE.out.1, HBE.out, fun _ => HE.out.2, fun h => by cases h⟩
  ·rw [if_neg ha] at e ⊢
   have h0 : er = 6 := HER.out.1.symm.trans e;exact ⟨ret_int h0, by decide⟩
end
structure IpOk (ip : Ip) : Prop where
 call : ∀ (s : Bs) (vs : List Bs) (na : Int) (r : List In × Int) (v1 : Value) (w : World), ip s vs na = some r -> I.Glob w -> I.Names w v1 vs -> s.length <= 8192 -> vs.length <= 10000 -> (∀ x ∈ vs, I.isName x = true) -> 0 <= na -> na <= 1099511627776 ->
  Calls Tryz.prog 142 #[sv s, v1, .int .i64 na] w fun z w' => ∃ v p, z = .returned (.tuple #[v, .int .i64 p, .int .i64 r.2]) /\ (∃ a n c, v = .slice a n c) /\ (r.2 = 0 -> w'.ownsRow w.heap.size 100 2 v r.1.length (pairCells r.1)) /\ Below w.heap.size w w'
section
variable {D : Nat} {X : Nat -> Prop} {t : Tb} {said : Nat} {q : Dq} {w : World}
set_option maxHeartbeats 2000000 in
theorem ruleOf_any (h : Dr D X t said q w) {rs : List Rl} {r : Rl} (ht : t.rules = rs ++ [r]) {gR cap : Nat} (hru : q.val .ru = .slice (some ⟨gR, 0, none⟩) (rs.length + 1) cap) (hl : rs.length <= 1000000) :
 Calls Tryz.prog 55 #[.pointer (some ⟨D, 0, none⟩)] w fun z w' => z = .returned (.pointer (some ⟨gR, rs.length * 5, none⟩)) /\ ∃ n, w' = w.drewN n := by
 have c3 := h.cell 3 (v := q.val .ru) rfl;rw [hru] at c3;obtain ⟨n, hn⟩ : ∃ n, rs.length = n := ⟨_, rfl⟩;rw [hn] at c3 hl ⊢;have e1 : IntKind.i64.wrap (n : Int) = (n : Int) := IntWalk.i64_in _ (by omega);have e2 : (0 : Int) <= (n : Int) := by omega
 have e3 : (n : Int) < (n : Int) + 1 := by omega
 clear h ht hru hn hl;go_enter Tryz.func55, Tryz.ntmps55;go_wp2_with fail;go_quiet (fail)
 go_wp2_with fail;go_ret;exact ⟨rfl, _, rfl⟩
def ExOut (rr : List In × Int) (w : World) (z : Ending) (w' : World) : Prop :=
 ∃ v, z = .returned (.tuple #[v, .int .i64 rr.2]) /\ (∃ a n c, v = .slice a n c) /\ (rr.2 = 0 -> w'.ownsRow w.heap.size 100 2 v rr.1.length (pairCells rr.1)) /\ Below w.heap.size w w'
set_option maxHeartbeats 4000000 in
set_option maxRecDepth 100000 in
theorem expr1_any {ip : Ip} (hip : IpOk ip) (cb : Nat) (s : Bs) (h : Dr D X t said q w) {rs : List Rl} {r : Rl} (ht : t.rules = rs ++ [r]) (hl : rs.length <= 1000000) (hb : Box D X q.val cb w) (hg : I.Glob w) {rr : List In × Int} (hr : ip s t.vars r.args = some rr)
 (hs : s.length <= 8192) (hv : t.vars.length <= 10000) (hn : ∀ x ∈ t.vars, I.isName x = true) (ha : 0 <= r.args /\ r.args <= 1099511627776) :
 Calls Tryz.prog 141 #[sv s, .pointer (some ⟨cb, 0, none⟩)] w (ExOut rr w) := by
 obtain ⟨gR, cap, hru, hgD, hgl, hcells⟩ := h.last ht;have HRU := Lib.hid (fun n => ruleOf_any (h.grow (below_drewN (Below.refl _ _) n)) ht hru hl);have cbc := hb.cell;have c1 := h.cell 1 (v := q.val .va) rfl;obtain ⟨a1, -⟩ := hcells 1 (.int .i64 r.args) rfl;have HP := Lib.hid (fun W (hW : Below w.heap.size w W) => (hip.call s t.vars r.args rr (q.val .va) W hr (hg.below hW) (Sl.below (Sl.owns (h.rows.own .va)) hW) hs hv hn ha.1 ha.2).mono (R' := fun z w' => ∃ v, z = .returned (.tuple #[v.1, .int .i64 v.2, .int .i64 rr.2]) /\ (∃ a n c, v.1 = .slice a n c) /\ (rr.2 = 0 -> w'.ownsRow w.heap.size 100 2 v.1 rr.1.length (pairCells rr.1)) /\ Below w.heap.size w w') fun z w' ⟨v, p, h1, h2, h3, h4⟩ => ⟨(v, p), h1, h2, fun h0 => by
  rcases (h3 h0).2 with h5 | ⟨g, cap, cur, h5, h6, h7⟩
  ·exact ⟨(h3 h0).1, Or.inl h5⟩
  ·exact ⟨(h3 h0).1, Or.inr ⟨g, cap, cur, h5, Nat.le_trans hW.size h6, h7⟩⟩, hW.trans (h4.mono hW.size)⟩)
 obtain ⟨e, he⟩ : ∃ e, rr.2 = e := ⟨_, rfl⟩;rw [he] at HP;have HE := Lib.hid he;clear h hb hg hr hs hv hn ha hl ht hru hgD hcells hip he;unfold sv at HP ⊢;go_enter Tryz.func141, Tryz.ntmps141;go_wp2_with fail;go_region_law (first | (go_simp; go_at_call 55; refine (HRU.out _).mono ?_; rintro _ w1 ⟨rfl, n, rfl⟩) | (go_simp; go_at_call 142; refine (HP.out _ (by first | exact below_drewN (Below.refl w.heap.size w).drew _ | exact (below_drewN (Below.refl w.heap.size w).drew _).drew | exact below_drewN (Below.refl w.heap.size w) _)).mono ?_; rintro _ w2 ⟨⟨v2, p2⟩, rfl, ⟨b2, n2, k2, hv2⟩, ho2, hb2⟩; simp only at hv2; subst hv2; have HO2 := Lib.hid ho2; have HB2 := Lib.hid hb2; clear ho2 hb2))
 all_goals
  clear c1 cbc a1;go_wp2_with fail;go_ret2;refine ⟨_, ?_, ⟨_, _, _, rfl⟩, fun h0 => HO2.out (HE.out.symm.trans h0), HB2.out⟩;rw [HE.out]; rfl
end
end Go.Proofs.YtjcajeehgjpmmaaGreatDoor.T
namespace Go.Proofs.YtjcajeehgjpmmaaGreatDoor.I
open Go Go.RowKit B K E
set_option linter.unusedVariables false
section
variable {f : Nat -> Option Obj} {W0 : World} {B p : Nat} {t s : Bs} {v1 : Value} {na : Int} {c0 : List In} {r : List Tk}
set_option maxHeartbeats 1000000 in
set_option maxRecDepth 100000 in
theorem atom_end (w : World) (h : Rd f W0 B t v1 na p [] c0 0 w) :
 Calls Tryz.prog 218 #[.pointer (some ⟨B, 0, none⟩)] w fun z w' => Out f W0 B t v1 na c0 (.err p 6) z w' := by
 obtain ⟨_, ⟨_, _, _, _, c4, _, _⟩, _, _⟩ := h.cells;have HF := Lib.hid (fun W hW => fail_any (f := f) (W0 := W0) (B := B) (a := p) (t := t) (s := []) (v1 := v1) (na := na) (e := 0) (c := c0) W 6 hW);have e1 : ((str []).toList == [40]) = false := by rw [str_toList]; rfl
 have e2 : (str []).toList.isEmpty = true := by rw [str_toList]; rfl
 have HH := Lib.hid h;unfold sv at c4;clear h;go_enter Tryz.func218, Tryz.ntmps218;go_wp2_with (go_at_call 199; refine (HF.out _ HH.out).mono ?_; rintro _ w1 ⟨rfl, hr1⟩; have HR1 := Lib.hid hr1; clear hr1)
 go_ret;exact out_err HR1.out
set_option maxHeartbeats 1000000 in
set_option maxRecDepth 100000 in
theorem atom_par (c : List In) (q : Nat) (r' : List Tk) (hop : Opd W0 B t v1 na 176 r (.ok c ((q, [41]) :: r'))) (w : World) (hg : Glob W0) (h : Rd f W0 B t v1 na p [40] c0 0 w) (hat : At t p [40] r) (htl : t.length <= 2048) (hb : c0.length + r.length <= 1000000) :
 Calls Tryz.prog 218 #[.pointer (some ⟨B, 0, none⟩)] w fun z w' => Out f W0 B t v1 na c0 (.ok c r') z w' := by
 obtain ⟨_, ⟨_, _, _, _, c4, _, _⟩, _, _⟩ := h.cells;obtain ⟨h1, h2⟩ := hat.next (by decide)
 obtain ⟨⟨p', s'⟩, r1, hr⟩ := lx_cons h2;have HA := Lib.hid (advance_any w hg h h1 (hr ▸ h2) htl);have HO := Lib.hid (fun W h3 h4 => hop f c0 W p' s' r1 hr h3 h4 hb);have HPS := Lib.hid (fun (W : World) (hW : Rd f W0 B t v1 na q [41] (c0 ++ c) 0 W) (ha : At t q [41] r') => pass_any W hg hW ha (by decide) htl);have e1 : ((str [40]).toList == [40]) = true := by rw [str_toList]; rfl
 unfold sv at c4 HPS;clear h h1 h2 hat hg htl hr hop hb;go_enter Tryz.func218, Tryz.ntmps218;go_wp2_with (first | (go_at_call 175; refine HA.out.mono ?_; rintro _ w1 ⟨rfl, hr1, ha1⟩; have HR1 := Lib.hid hr1; have HA1 := Lib.hid ha1; clear hr1 ha1) | (go_at_call 176; refine (HO.out _ HA1.out HR1.out).mono ?_; rintro _ w3 ⟨rfl, p4, s4, r4, e4, a4, hr4⟩; cases e4; have HR4 := Lib.hid hr4; have HA4 := Lib.hid a4; clear hr4 a4) | (go_at_call 219; refine (HPS.out _ HR4.out HA4.out).mono ?_; rintro _ w5 ⟨rfl, p6, s6, r6, e6, a6, hr6⟩; have HR6 := Lib.hid hr6; have HA6 := Lib.hid a6; have HE6 := Lib.hid e6; clear hr6 a6 e6))
 go_ret;exact out_ok HE6.out HA6.out HR6.out
set_option maxHeartbeats 1000000 in
set_option maxRecDepth 100000 in
theorem atom_num (v : Nat) (hv : v <= 1099511627776) (w : World) (hg : Glob W0) (h : Rd f W0 B t v1 na p (dig v) c0 0 w) (hat : At t p (dig v) r) (htl : t.length <= 2048) (hb : c0.length <= 1000000) :
 Calls Tryz.prog 218 #[.pointer (some ⟨B, 0, none⟩)] w fun z w' => Out f W0 B t v1 na c0 (.ok [(1, (v : Int))] r) z w' := by
 obtain ⟨_, ⟨_, _, _, _, c4, _, _⟩, _, _⟩ := h.cells;obtain ⟨h1, h2⟩ := hat.next (dig_ne v)
 have hc := constant_any (v : Int) (atoi_pos v) (by have := dig_length v hv; omega) (by omega) (by omega) w hg h h1 h2 htl hb;obtain ⟨d, x, hdx, hdd⟩ := dig_head v;obtain ⟨s, hs⟩ : ∃ s, dig v = s := ⟨_, rfl⟩;rw [hs] at c4 hdx;have HC := Lib.hid hc;have e1 : ((str s).toList == [40]) = false := by rw [str_toList, hdx, beq_eq_false_iff_ne]; intro e; cases e; cases hdd
 have e2 : (str s).toList.isEmpty = false := by rw [str_toList, hdx]; rfl
 have h0 : 0 < (str s).size := by rw [str_size, hdx]; simp
 have hc0 : (str s)[0]'h0 = d := by rw [str_get]; simp [hdx]
 have hsz : (str s).size = s.length := str_size s;have hpos : (0 : Int) < (s.length : Int) := by rw [hdx]; simp only [List.length_cons]; omega
 have HD := Lib.hid (fun W => isDigit_any d W);rw [hdd] at HD;unfold sv at c4;clear h h1 h2 hat hg htl hb hs hdx hdd hc hv;go_enter Tryz.func218, Tryz.ntmps218;go_wp2_with (first | (go_at_call 172; refine (HD.out _).mono ?_; rintro _ w1 ⟨rfl, rfl⟩) | (go_at_call 217; refine HC.out.mono ?_; rintro _ w3 ⟨rfl, p4, s4, r4, e4, a4, hr4⟩; have HR4 := Lib.hid hr4; have HA4 := Lib.hid a4; have HE4 := Lib.hid e4; clear hr4 a4 e4))
 go_ret;exact out_ok HE4.out HA4.out HR4.out
set_option maxHeartbeats 1000000 in
set_option maxRecDepth 100000 in
theorem atom_arg (k : Nat) (hk : k < 10) (hs : s = [36] ++ dig k) (hna : (k : Int) < na) (w : World) (hg : Glob W0) (h : Rd f W0 B t v1 na p s c0 0 w) (hat : At t p s r) (htl : t.length <= 2048) (hb : c0.length <= 1000000) :
 Calls Tryz.prog 218 #[.pointer (some ⟨B, 0, none⟩)] w fun z w' => Out f W0 B t v1 na c0 (.ok [(3, (k : Int))] r) z w' := by
 obtain ⟨_, ⟨_, _, _, _, c4, _, _⟩, _, _⟩ := h.cells;obtain ⟨h1, h2⟩ := hat.next (by rw [hs]; simp)
 have HC := Lib.hid (argument_any k hk hs hna w hg h h1 h2 htl hb);obtain ⟨d, x, hdx, hd36⟩ : ∃ d x, s = d :: x /\ d = 36 := ⟨36, dig k, hs, rfl⟩;have hdd : digit d = false := by rw [hd36]; rfl
 have e1 : ((str s).toList == [40]) = false := by rw [str_toList, hdx, beq_eq_false_iff_ne]; intro e; cases e; cases hd36
 have e36 : ((d.toNat : Int) == 36) = true := by rw [hd36]; rfl
 have e2 : (str s).toList.isEmpty = false := by rw [str_toList, hdx]; rfl
 have h0 : 0 < (str s).size := by rw [str_size, hdx]; simp
 have hc0 : (str s)[0]'h0 = d := by rw [str_get]; simp [hdx]
 have hsz : (str s).size = s.length := str_size s;have hpos : (0 : Int) < (s.length : Int) := by rw [hdx]; simp only [List.length_cons]; omega
 have HD := Lib.hid (fun W => isDigit_any d W);rw [hdd] at HD;unfold sv at c4;clear h h1 h2 hat hg htl hb hs hdx hdd hd36 hna;go_enter Tryz.func218, Tryz.ntmps218;go_wp2_with (first | (go_at_call 172; refine (HD.out _).mono ?_; rintro _ w1 ⟨rfl, rfl⟩) | (go_at_call 220; refine (HC.out).mono ?_; rintro _ w4 ⟨rfl, p4, s4, r4, e4, a4, hr4⟩; have HR4 := Lib.hid hr4; have HA4 := Lib.hid a4; have HE4 := Lib.hid e4; clear hr4 a4 e4))
 go_ret;exact out_ok HE4.out HA4.out HR4.out
set_option maxHeartbeats 1000000 in
set_option maxRecDepth 100000 in
theorem atom_var (vs : List Bs) (hvs : Names W0 v1 vs) (k : Nat) (hk : vs[k]? = some s) (hn : ∀ j, j < k -> vs[j]? ≠ some s) (hnm : isName s = true) (hvl : vs.length <= 1000000) (w : World) (hg : Glob W0) (h : Rd f W0 B t v1 na p s c0 0 w) (hat : At t p s r) (htl : t.length <= 2048) (hb : c0.length <= 1000000) :
 Calls Tryz.prog 218 #[.pointer (some ⟨B, 0, none⟩)] w fun z w' => Out f W0 B t v1 na c0 (.ok [(2, (k : Int))] r) z w' := by
 obtain ⟨_, ⟨_, _, _, _, c4, _, _⟩, _, _⟩ := h.cells;obtain ⟨d, x, hdx⟩ : ∃ d x, s = d :: x := by
  cases s with
  | nil => cases hnm
  | cons d x => exact ⟨d, x, rfl⟩
 obtain ⟨h1, h2⟩ := hat.next (by rw [hdx]; simp)
 have HC := Lib.hid (variable_any vs hvs k hk hn w hg h h1 h2 htl hb hvl);have hle : letter d = true := by rw [hdx, isName_cons] at hnm; simp only [Bool.and_eq_true] at hnm; exact hnm.1.1.1.1.2
 have hdd : digit d = false := by
  cases hq : digit d with
  | false => rfl
  | true => rw [not_letter hq] at hle; cases hle
 have e1 : ((str s).toList == [40]) = false := by rw [str_toList, hdx, beq_eq_false_iff_ne]; intro e; cases e; cases hle
 have e36 : ((d.toNat : Int) == 36) = false := by
  rw [beq_eq_false_iff_ne]; intro e
  have : d = 36 := (byte_eq d 36 (by decide)).2 (by omega);subst this; cases hle
 have e2 : (str s).toList.isEmpty = false := by rw [str_toList, hdx]; rfl
 have h0 : 0 < (str s).size := by rw [str_size, hdx]; simp
 have hc0 : (str s)[0]'h0 = d := by rw [str_get]; simp [hdx]
 have hsz : (str s).size = s.length := str_size s;have hpos : (0 : Int) < (s.length : Int) := by rw [hdx]; simp only [List.length_cons]; omega
 have HD := Lib.hid (fun W => isDigit_any d W);rw [hdd] at HD;have HNM := Lib.hid (fun W hW => name_any s W hW (by omega));rw [hnm] at HNM;have HG := Lib.hid (h.glob hg);unfold sv at c4 HNM;clear h h1 h2 hat hg htl hb hdx hdd hle hnm hk hn hvs hvl;go_enter Tryz.func218, Tryz.ntmps218;go_wp2_with (first | (go_at_call 172; refine (HD.out _).mono ?_; rintro _ w1 ⟨rfl, rfl⟩) | (go_at_call 99; refine (HNM.out _ HG.out).mono ?_; rintro _ w2 ⟨rfl, rfl⟩) | (go_at_call 221; refine (HC.out).mono ?_; rintro _ w4 ⟨rfl, p4, s4, r4, e4, a4, hr4⟩; have HR4 := Lib.hid hr4; have HA4 := Lib.hid a4; have HE4 := Lib.hid e4; clear hr4 a4 e4))
 go_ret;exact out_ok HE4.out HA4.out HR4.out
set_option maxHeartbeats 1000000 in
set_option maxRecDepth 100000 in
theorem atom_call (o : Int) (n : Nat) (hs : s = wmin /\ o = 9 /\ n = 2 \/ s = wmax /\ o = 10 /\ n = 2 \/ s = wif /\ o = 16 /\ n = 3) (c : List In) (q : Nat) (r' : List Tk) (w : World) (hg : Glob W0) (h : Rd f W0 B t v1 na p s c0 0 w) (hat : At t p s r) (htl : t.length <= 2048)
 (hargs : Args (Opd W0 B t v1 na 176) n [40] r c ((q, [41]) :: r')) (hb : c0.length + r.length <= 999999) :
 Calls Tryz.prog 218 #[.pointer (some ⟨B, 0, none⟩)] w fun z w' => Out f W0 B t v1 na c0 (.ok (c ++ [(o, 0)]) r') z w' := by
 obtain ⟨_, ⟨_, _, _, _, c4, _, _⟩, _, _⟩ := h.cells;have hne : s ≠ [] := by rcases hs with ⟨rfl, _⟩ | ⟨rfl, _⟩ | ⟨rfl, _⟩ <;> decide
 have HC := Lib.hid (call_any o n (by rcases hs with ⟨_, rfl, rfl⟩ | ⟨_, rfl, rfl⟩ | ⟨_, rfl, rfl⟩ <;> decide) (by rcases hs with ⟨_, rfl, _⟩ | ⟨_, rfl, _⟩ | ⟨_, rfl, _⟩ <;> decide) (by rcases hs with ⟨_, rfl, _⟩ | ⟨_, rfl, _⟩ | ⟨_, rfl, _⟩ <;> decide) c q r' w hg h hat hne htl hargs hb (by omega));have hco : calledOf s = o := by rcases hs with ⟨rfl, rfl, _⟩ | ⟨rfl, rfl, _⟩ | ⟨rfl, rfl, _⟩ <;> decide
 have hnm : isName s = false := by rcases hs with ⟨rfl, _⟩ | ⟨rfl, _⟩ | ⟨rfl, _⟩ <;> decide
 obtain ⟨d, x, hdx, hle⟩ : ∃ d x, s = d :: x /\ letter d = true := by rcases hs with ⟨rfl, _⟩ | ⟨rfl, _⟩ | ⟨rfl, _⟩ <;> exact ⟨_, _, rfl, by decide⟩
 have hon : (o == 0) = false := by rcases hs with ⟨_, rfl, _⟩ | ⟨_, rfl, _⟩ | ⟨_, rfl, _⟩ <;> decide
 have hlen : s.length <= 3 := by rcases hs with ⟨rfl, _⟩ | ⟨rfl, _⟩ | ⟨rfl, _⟩ <;> decide
 have hdd : digit d = false := by
  cases hq : digit d with
  | false => rfl
  | true => rw [not_letter hq] at hle; cases hle
 have e1 : ((str s).toList == [40]) = false := by rw [str_toList, hdx, beq_eq_false_iff_ne]; intro e; cases e; cases hle
 have e36 : ((d.toNat : Int) == 36) = false := by
  rw [beq_eq_false_iff_ne]; intro e
  have : d = 36 := (byte_eq d 36 (by decide)).2 (by omega);subst this; cases hle
 have e2 : (str s).toList.isEmpty = false := by rw [str_toList, hdx]; rfl
 have h0 : 0 < (str s).size := by rw [str_size, hdx]; simp
 have hc0 : (str s)[0]'h0 = d := by rw [str_get]; simp [hdx]
 have hsz : (str s).size = s.length := str_size s;have hpos : (0 : Int) < (s.length : Int) := by rw [hdx]; simp only [List.length_cons]; omega
 have HD := Lib.hid (fun W => isDigit_any d W);rw [hdd] at HD;have HNM := Lib.hid (fun W hW => name_any s W hW (by omega));rw [hnm] at HNM;have HCL := Lib.hid (fun W hW => called_any s W hW);rw [hco] at HCL;have HG := Lib.hid (h.glob hg);unfold sv at c4 HNM HCL;clear h hat hg htl hb hdx hdd hle hnm hs hargs hco hlen hne;go_enter Tryz.func218, Tryz.ntmps218;go_wp2_with (first | (go_at_call 172; refine (HD.out _).mono ?_; rintro _ w1 ⟨rfl, rfl⟩) | (go_at_call 99; refine (HNM.out _ HG.out).mono ?_; rintro _ w2 ⟨rfl, rfl⟩) | (go_at_call 138; refine (HCL.out _ HG.out).mono ?_; rintro _ w2 ⟨rfl, rfl⟩) | (go_at_call 222; refine (HC.out).mono ?_; rintro _ w4 ⟨rfl, p4, s4, r4, e4, a4, hr4⟩; have HR4 := Lib.hid hr4; have HA4 := Lib.hid a4; have HE4 := Lib.hid e4; clear hr4 a4 e4))
 go_ret;exact out_ok HE4.out HA4.out HR4.out
end
theorem at_behind {t : Bs} {p : Nat} {l : List Tk} (h : At t p [45] l) : p + 1 <= t.length /\ Lx (p + 1) (t.drop (p + 1)) l := h.next (by decide)
theorem behind_not {t : Bs} {p : Nat} {l : List Tk} (h : At t p [45] l) (hn : ¬ near p l) : wd (t.drop (p + 1)) = [] \/ ∃ c x, wd (t.drop (p + 1)) = c :: x /\ digit c = false := by
 obtain ⟨h1, h2⟩ := at_behind h;obtain ⟨⟨q, s⟩, r, rfl⟩ := lx_cons h2;rcases lx_step h1 h2 with ⟨h3, _⟩ | ⟨_, rfl, h4⟩
 ·left
  obtain ⟨hq, he⟩ := List.getElem?_eq_some_iff.1 h3;rw [List.drop_eq_getElem_cons hq, he];rw [wd_cons, if_neg (by decide), if_neg (by decide), if_neg (fun h => absurd h.1 (by decide)), if_neg (by decide)];exact sgn_blank _
 ·rw [h4.wd]
  cases s with
  | nil => left; rfl
  | cons c x =>
   right
   have hd : digit c = false := by
    cases hd : digit c with
    | false => rfl
    | true => exact absurd ⟨c, x, r, rfl, hd⟩ hn
   by_cases hl : letter c = true
   ·exact ⟨c, x.take 23, by show (if letter c = true then _ else _) = _; rw [if_pos hl]; rfl, hd⟩
   ·exact ⟨c, x, by show (if letter c = true then _ else _) = _; rw [if_neg hl], hd⟩
section
variable {f : Nat -> Option Obj} {W0 : World} {B p : Nat} {t s : Bs} {v1 : Value} {na : Int} {c0 : List In} {r : List Tk}
set_option maxHeartbeats 1000000 in
set_option maxRecDepth 100000 in
theorem one_atom (x : Rs) (w : World) (hg : Glob W0) (h : Rd f W0 B t v1 na p s c0 0 w) (h1 : s ≠ [33]) (h2 : s ≠ [45])
 (hat : Calls Tryz.prog 218 #[.pointer (some ⟨B, 0, none⟩)] w fun z w' => Out f W0 B t v1 na c0 x z w') :
 Calls Tryz.prog 216 #[.pointer (some ⟨B, 0, none⟩)] w fun z w' => Out f W0 B t v1 na c0 x z w' := by
 obtain ⟨_, ⟨_, _, _, _, c4, _, _⟩, _, _⟩ := h.cells;have hgw := h.glob hg;have g5 := hgw.cell 5 [33] rfl;have g4 := hgw.cell 4 [45] rfl;have e1 : ((str s).toList == (str [33]).toList) = false := by rw [str_toList, str_toList]; exact beq_eq_false_iff_ne.2 h1
 have e2 : ((str s).toList == (str [45]).toList) = false := by rw [str_toList, str_toList]; exact beq_eq_false_iff_ne.2 h2
 have HA := Lib.hid hat;unfold sv at c4 g5 g4;clear h hg hgw h1 h2 hat;go_enter Tryz.func216, Tryz.ntmps216;go_wp2_with (go_at_call 218; refine HA.out.mono ?_; rintro z w1 hz; obtain ⟨b, rfl, hz2⟩ := hz.ret; have HZ := Lib.hid hz2; clear hz hz2)
 go_ret;exact HZ.out
set_option maxHeartbeats 1000000 in
set_option maxRecDepth 100000 in
theorem one_not (x : Rs) (hop : Opd W0 B t v1 na 216 r x) (w : World) (hg : Glob W0) (h : Rd f W0 B t v1 na p [33] c0 0 w) (hat : At t p [33] r) (htl : t.length <= 2048) (hb : c0.length + r.length <= 1000000) (hx : ∀ d t', x = .ok d t' -> d.length <= 1000000) :
 Calls Tryz.prog 216 #[.pointer (some ⟨B, 0, none⟩)] w fun z w' => Out f W0 B t v1 na c0 (x.snoc (5, 0)) z w' := by
 obtain ⟨_, ⟨_, _, _, _, c4, _, _⟩, _, _⟩ := h.cells;have g5 := (h.glob hg).cell 5 [33] rfl;have e1 : ((str [33]).toList == (str [33]).toList) = true := by simp
 have HA := Lib.hid (second_any 216 ent_one x hop w 5 hg h hat (by decide) htl hb hx);unfold sv at c4 g5;clear h hg hop hat htl hb hx;go_enter Tryz.func216, Tryz.ntmps216;go_wp2_with (go_at_call 206; refine HA.out.mono ?_; rintro z w1 hz; obtain ⟨b, rfl, hz2⟩ := hz.ret; have HZ := Lib.hid hz2; clear hz hz2)
 go_ret;exact HZ.out
set_option maxHeartbeats 1000000 in
set_option maxRecDepth 100000 in
theorem one_neg (x : Rs) (hop : Opd W0 B t v1 na 216 r x) (hn : ¬ near p r) (w : World) (hg : Glob W0) (h : Rd f W0 B t v1 na p [45] c0 0 w) (hat : At t p [45] r) (htl : t.length <= 2048) (hb : c0.length + r.length <= 1000000) (hx : ∀ d t', x = .ok d t' -> d.length <= 1000000) :
 Calls Tryz.prog 216 #[.pointer (some ⟨B, 0, none⟩)] w fun z w' => Out f W0 B t v1 na c0 (x.snoc (4, 0)) z w' := by
 obtain ⟨_, ⟨c0', _, _, c3, c4, _, _⟩, _, _⟩ := h.cells;have hgw := h.glob hg;have g5 := hgw.cell 5 [33] rfl;have g4 := hgw.cell 4 [45] rfl;have e1 : ((str [45]).toList == (str [33]).toList) = false := by rw [str_toList, str_toList]; rfl
 have e2 : ((str [45]).toList == (str [45]).toList) = true := by simp
 obtain ⟨b1, b2⟩ := at_behind hat;have hp1 : IntKind.i64.wrap ((p : Int) + 1) = (p : Int) + 1 := IntWalk.i64_in _ (by omega);have hwa := fun W hW => wordAt_any t (t.drop (p + 1)) (p + 1) W hW b1 rfl (by omega)
 rw [show ((p + 1 : Nat) : Int) = (p : Int) + 1 by omega] at hwa;have HG := Lib.hid hgw;have HA := Lib.hid (fun W hW => second_any (f := f) (c0 := c0) 216 ent_one x hop W 4 hg hW hat (by decide) htl hb hx);have HH := Lib.hid h;rcases behind_not hat hn with hb0 | ⟨d, y, hb0, hdd⟩
 ·rw [hb0] at hwa
  have he : (str []).toList.isEmpty = true := by rw [str_toList]; rfl
  have HW := Lib.hid hwa;unfold sv at c0' c4 g5 g4 HW;clear h hg hop hat htl hb hx hn hgw b1 b2 hb0 hwa;go_enter Tryz.func216, Tryz.ntmps216;go_wp2_with fail;go_quiet ((go_at_call 137; exact Calls.quiet_of_same ((HW.out _ (HG.out.drewN _)).mono fun e w' h => ⟨h.1, h.2.symm⟩)))
  go_wp2_with (go_at_call 206; refine (HA.out _ (HH.out.drewN _)).mono ?_; rintro z w1 hz; obtain ⟨b, rfl, hz2⟩ := hz.ret; have HZ := Lib.hid hz2; clear hz hz2)
  go_ret;exact HZ.out
 ·obtain ⟨u, hu⟩ : ∃ u, wd (t.drop (p + 1)) = u := ⟨_, rfl⟩
  rw [hu] at hwa hb0;have he : (str u).toList.isEmpty = false := by rw [str_toList, hb0]; rfl
  have h0 : 0 < (str u).size := by rw [str_size, hb0]; simp
  have hc0 : (str u)[0]'h0 = d := by rw [str_get]; simp [hb0]
  have hsz : (str u).size = u.length := str_size u;have hpos : (0 : Int) < (u.length : Int) := by rw [hb0]; simp only [List.length_cons]; omega
  have HD := Lib.hid (fun W => isDigit_any d W);rw [hdd] at HD;have HW := Lib.hid hwa;unfold sv at c0' c4 g5 g4 HW;clear h hg hop hat htl hb hx hn hgw b1 b2 hb0 hwa hdd hu;go_enter Tryz.func216, Tryz.ntmps216;go_wp2_with fail;go_quiet ((go_at_call 137; exact Calls.quiet_of_same ((HW.out _ (HG.out.drewN _)).mono fun e w' h => ⟨h.1, h.2.symm⟩)))
  go_wp2_with (first | (go_at_call 172; refine (HD.out _).mono ?_; rintro _ w1 ⟨rfl, rfl⟩) | (go_at_call 206; refine (HA.out _ (HH.out.drewN _)).mono ?_; rintro z w1 hz; obtain ⟨b, rfl, hz2⟩ := hz.ret; have HZ := Lib.hid hz2; clear hz hz2))
  go_ret;exact HZ.out
set_option maxHeartbeats 1000000 in
set_option maxRecDepth 100000 in
theorem one_num (v : Nat) (hv : v <= 1099511627776) (w : World) (hg : Glob W0) (h : Rd f W0 B t v1 na p [45] c0 0 w) (hat : At t p [45] ((p + 1, dig v) :: r)) (htl : t.length <= 2048) (hb : c0.length <= 1000000) :
 Calls Tryz.prog 216 #[.pointer (some ⟨B, 0, none⟩)] w fun z w' => Out f W0 B t v1 na c0 (.ok [(1, -(v : Int))] r) z w' := by
 obtain ⟨_, ⟨c0', _, _, c3, c4, _, _⟩, _, hfz⟩ := h.cells;have f4 := hfz 4 (by decide);have hgw := h.glob hg;have g5 := hgw.cell 5 [33] rfl;have g4 := hgw.cell 4 [45] rfl;have e1 : ((str [45]).toList == (str [33]).toList) = false := by rw [str_toList, str_toList]; rfl
 have e2 : ((str [45]).toList == (str [45]).toList) = true := by simp
 obtain ⟨b1, b2⟩ := at_behind hat;have hat2 : At t (p + 1) (dig v) r := ⟨b1, b2⟩;obtain ⟨b3, b4⟩ := hat2.next (dig_ne v)
 have hp1 : IntKind.i64.wrap ((p : Int) + 1) = (p : Int) + 1 := IntWalk.i64_in _ (by omega);have hwa := fun W hW => wordAt_any t (t.drop (p + 1)) (p + 1) W hW b1 rfl (by omega)
 have hcd : cutw (dig v) = dig v := by
  obtain ⟨c, x, h5, h6⟩ := dig_head v;rw [h5];show (if letter c = true then _ else _) = _
  rw [if_neg (by rw [not_letter h6]; decide)]
 rw [show ((p + 1 : Nat) : Int) = (p : Int) + 1 by omega, hat2.wd, hcd] at hwa;have hln := dig_length v hv;have HCON := Lib.hid (fun W hW => constant_any (f := f) (W0 := W0) (B := B) (a := p) (t := t) (s := 45 :: dig v) (v1 := v1) (na := na) (c0 := c0) (r := r) (-(v : Int)) (atoi_neg v) (by simp only [List.length_cons]; omega) (by omega) (by omega) W hg hW
  (by simp only [List.length_cons]; omega) (by rw [show p + (45 :: dig v).length = p + 1 + (dig v).length by simp only [List.length_cons]; omega]; exact b4) htl hb)
 obtain ⟨d, x, hdx, hdd⟩ := dig_head v;obtain ⟨u, hu⟩ : ∃ u, dig v = u := ⟨_, rfl⟩;rw [hu] at hwa HCON hdx hln;have he : (str u).toList.isEmpty = false := by rw [str_toList, hdx]; rfl
 have h0 : 0 < (str u).size := by rw [str_size, hdx]; simp
 have hc0 : (str u)[0]'h0 = d := by rw [str_get]; simp [hdx]
 have hsz : (str u).size = u.length := str_size u;have hpos : (0 : Int) < (u.length : Int) := by rw [hdx]; simp only [List.length_cons]; omega
 have hsum : str [45] ++ str u = str (45 :: u) := by rw [str_append]; rfl
 have hs45 : (str [45]).size = 1 := rfl;have hle : (str [45]).size + (str u).size <= 281474976710656 := by rw [str_size, str_size]; simp only [List.length_cons, List.length_nil]; omega
 have HD := Lib.hid (fun W => isDigit_any d W);rw [hdd] at HD;have HW := Lib.hid hwa;have HG := Lib.hid hgw;have HH := Lib.hid h;unfold sv at c0' c4 g5 g4 HW;clear h hg hat htl hb hgw b1 b2 b3 b4 hwa hdd hu hdx hat2 hcd hv hfz hln;go_enter Tryz.func216, Tryz.ntmps216;go_wp2_with fail;go_quiet ((go_at_call 137; exact Calls.quiet_of_same ((HW.out _ (HG.out.drewN _)).mono fun e w' h => ⟨h.1, h.2.symm⟩)))
 go_wp2_with (go_at_call 172; refine (HD.out _).mono ?_; rintro _ w1 ⟨rfl, rfl⟩)
 refine (HCON.out _ ((HH.out.drewN nq).set (a' := p) (s' := 45 :: u) (e' := 0) 4 (.string (str (45 :: u))) (fun v => rfl))).mono ?_;rintro _ w3 ⟨rfl, p4, s4, r4, e4, a4, hr4⟩;have HR4 := Lib.hid hr4;have HA4 := Lib.hid a4;have HE4 := Lib.hid e4;clear hr4 a4 e4;go_wp2_with fail;go_ret;exact out_ok HE4.out HA4.out HR4.out
end
def Rs.fits (c : List In) (ts : List Tk) : Rs -> Prop | .ok c' r => c'.length + r.length <= c.length + ts.length | .err _ _ => True
theorem pa_len {vs : List Bs} {na : Int} {kd : Kd} {ts : List Tk} {x : Rs} (h : Pa vs na kd ts x) : x.fits (match kd with | .lo _ _ c => c | _ => []) ts := by
 induction h with
 | six l x _ ih => exact ih
 | lvErr => trivial
 | lvGo k l c r x _ _ _ _ ih1 ih2 =>
  cases x with
  | err => trivial
  | ok c' r' => simp only [Rs.fits, List.length_nil] at ih1 ih2 ⊢; omega
 | loStop => exact Nat.le_refl _
 | loErr => trivial
 | loGo k m c q s o r d t x _ _ _ _ ih1 ih2 =>
  cases x with
  | err => trivial
  | ok c' r' => simp only [Rs.fits, List.length_nil, List.length_append, List.length_cons] at ih1 ih2 ⊢; omega
 | num => simp only [Rs.fits, List.length_nil, List.length_cons]; omega
 | neg p l c r _ _ ih => simp only [Rs.fits, List.length_nil, List.length_append, List.length_cons] at ih ⊢; omega
 | non p l c r _ ih => simp only [Rs.fits, List.length_nil, List.length_append, List.length_cons] at ih ⊢; omega
 | atm l x _ _ _ ih => exact ih
 | aEnd => trivial
 | aNum => simp only [Rs.fits, List.length_nil, List.length_cons]; omega
 | aVar => simp only [Rs.fits, List.length_nil, List.length_cons]; omega
 | aArg => simp only [Rs.fits, List.length_nil, List.length_cons]; omega
 | aPar p l c q r _ ih => simp only [Rs.fits, List.length_nil, List.length_cons] at ih ⊢; omega
 | aTwo o p p' l c1 q r1 c2 q' r _ _ _ ih1 ih2 => simp only [Rs.fits, List.length_nil, List.length_append, List.length_cons] at ih1 ih2 ⊢; omega
 | aIf p p' l c1 q r1 c2 q' r2 c3 q'' r _ _ _ ih1 ih2 ih3 => simp only [Rs.fits, List.length_nil, List.length_append, List.length_cons] at ih1 ih2 ih3 ⊢; omega
def fnOf (k : Nat) : Nat := match k with | 1 => 176 | 2 => 198 | 3 => 207 | 4 => 214 | 5 => 215 | _ => 216
def Does (W0 : World) (B : Nat) (t : Bs) (v1 : Value) (na : Int) : Kd -> List Tk -> Rs -> Prop
 | .lv k, ts, x => Opd W0 B t v1 na (fnOf k) ts x
 | .lo k m c, ts, x => 1 <= k -> k <= 5 -> Steps (Opd W0 B t v1 na (fnOf (k + 1))) k m c ts x
 | .on, ts, x => Opd W0 B t v1 na (fnOf 6) ts x
 | .atom, ts, x => ∀ (f : Nat -> Option Obj) (c0 : List In) (w : World) (p : Nat) (s : Bs) (r : List Tk), ts = (p, s) :: r -> At t p s r -> Rd f W0 B t v1 na p (cutw s) c0 0 w -> c0.length + ts.length <= 1000000 ->
  Calls Tryz.prog 218 #[.pointer (some ⟨B, 0, none⟩)] w fun z w' => Out f W0 B t v1 na c0 x z w'
theorem cutw_name (s : Bs) (h : isName s = true) : cutw s = s := by
 cases s with
 | nil => rfl
 | cons c r =>
  rw [isName_cons] at h;simp only [Bool.and_eq_true, decide_eq_true_eq] at h;have hl : (c :: r).length <= 24 := by rw [List.length_cons]; have := h.1.1.1.1.1; omega
  show (if letter c = true then (c :: r).take 24 else c :: r) = _
  rw [List.take_of_length_le hl]; split <;> rfl
theorem cutw_other (c : UInt8) (r : Bs) (h : letter c = false) : cutw (c :: r) = c :: r := by show (if letter c = true then _ else _) = _; rw [if_neg (by rw [h]; decide)]
theorem cutw_dig (v : Nat) : cutw (dig v) = dig v := by
 obtain ⟨c, x, h5, h6⟩ := dig_head v;rw [h5]; exact cutw_other c x (not_letter h6)
theorem does_any {W0 : World} {B : Nat} {t : Bs} {v1 : Value} {na : Int} {vs : List Bs} (hg : Glob W0) (hvs : Names W0 v1 vs) (hvl : vs.length <= 1000000) (htl : t.length <= 2048) {kd : Kd} {ts : List Tk} {x : Rs} (h : Pa vs na kd ts x) : Does W0 B t v1 na kd ts x := by
 have level : ∀ k ts x, 1 <= k -> k <= 5 -> Lv (Opd W0 B t v1 na (fnOf (k + 1))) k ts x -> Opd W0 B t v1 na (fnOf k) ts x := by
  intro k ts x h1 h5 hx;rcases (show k = 1 \/ k = 2 \/ k = 3 \/ k = 4 \/ k = 5 by omega) with rfl | rfl | rfl | rfl | rfl
  ·exact lv1_any hg htl ts x hx
  ·exact lv2_any hg htl ts x hx
  ·exact lv3_any hg htl ts x hx
  ·exact lv4_any hg htl ts x hx
  ·exact lv5_any hg htl ts x hx
 induction h with
 | six l x _ ih => exact ih
 | lvErr k l p e h1 h5 _ ih => exact level k l _ h1 h5 (Or.inl ⟨p, e, rfl, ih⟩)
 | lvGo k l c r x h1 h5 hpa _ ih1 ih2 =>
  refine level k l x h1 h5 (Or.inr ⟨c, r, ih1, ?_, ih2 h1 h5⟩);have := pa_len hpa;simp only [Rs.fits, List.length_nil] at this; omega
 | loStop k m c r h => exact fun _ _ => Steps.stop m c r h
 | loErr k m c q s o r p e ho hm _ ih => exact fun _ _ => Steps.err m c q s o r p e ho hm ih
 | loGo k m c q s o r d t' x ho hm hpa _ ih1 ih2 =>
  intro h1 h5;refine Steps.go m c q s o r d t' x ho hm ih1 ?_ (ih2 h1 h5);have := pa_len hpa;simp only [Rs.fits, List.length_nil] at this; omega
 | num p v r hv =>
  intro f c0 w p' s r' hts hat h hb;cases hts
  exact one_num v hv w hg h hat htl (by omega)
 | neg p l c r hn hpa ih =>
  intro f c0 w p' s r' hts hat h hb;cases hts
  have hl := pa_len hpa;simp only [Rs.fits, List.length_nil] at hl;simp only [List.length_cons] at hb;exact one_neg (.ok c r) ih hn w hg h hat htl (by omega) (fun d t' e => by cases e; omega)
 | non p l c r hpa ih =>
  intro f c0 w p' s r' hts hat h hb;cases hts
  have hl := pa_len hpa;simp only [Rs.fits, List.length_nil] at hl;simp only [List.length_cons] at hb;exact one_not (.ok c r) ih w hg h hat htl (by omega) (fun d t' e => by cases e; omega)
 | atm l x h1 h2 _ ih =>
  intro f c0 w p s r hts hat h hb;subst hts;have h45 : cutw s ≠ [45] := fun e => h1 ((cutw_sg s [45] (by decide)).1 e)
  have h33 : cutw s ≠ [33] := fun e => h2 ((cutw_sg s [33] (by decide)).1 e)
  exact one_atom x w hg h h33 h45 (ih f c0 w p s r rfl hat h hb)
 | aEnd p =>
  intro f c0 w p' s r hts hat h hb;cases hts
  exact atom_end w h
 | aNum p v r hv =>
  intro f c0 w p' s r' hts hat h hb;cases hts
  rw [cutw_dig] at h;exact atom_num v hv w hg h hat htl (by omega)
 | aVar p k s r hk hnm hn =>
  intro f c0 w p' s' r' hts hat h hb;cases hts
  rw [cutw_name s hnm] at h;exact atom_var vs hvs k hk hn hnm hvl w hg h hat htl (by omega)
 | aArg p k r hna hk =>
  intro f c0 w p' s' r' hts hat h hb;cases hts
  exact atom_arg k hk rfl hna w hg h hat htl (by omega)
 | aPar p l c q r hpa ih =>
  intro f c0 w p' s' r' hts hat h hb;cases hts
  simp only [List.length_cons] at hb;exact atom_par c q r ih w hg h hat htl (by omega)
 | aTwo o p p' l c1 q r1 c2 q' r ho hp1 hp2 ih1 ih2 =>
  intro f c0 w pp s' rr hts hat h hb;cases hts
  have hl1 := pa_len hp1;have hl2 := pa_len hp2;simp only [Rs.fits, List.length_nil, List.length_cons] at hl1 hl2 hb;have hcut : cutw (if o = 9 then wmin else wmax) = (if o = 9 then wmin else wmax) := by split <;> rfl
  rw [hcut] at h;refine atom_call o 2 ?_ (c1 ++ c2) q' r w hg h hat htl ?_ (by simp only [List.length_cons]; omega)
  ·rcases ho with rfl | rfl
   ·left; exact ⟨rfl, rfl, rfl⟩
   ·right; left; exact ⟨rfl, rfl, rfl⟩
  ·refine Args.cons 1 [40] p' l c1 c2 _ _ ih1 (by simp only [List.length_cons]; omega) ?_
   have := Args.cons (C := Opd W0 B t v1 na 176) 0 [44] q r1 c2 [] _ _ ih2 (by simp only [List.length_cons]; omega) (Args.nil _ _);rwa [List.append_nil] at this
 | aIf p p' l c1 q r1 c2 q' r2 c3 q'' r hp1 hp2 hp3 ih1 ih2 ih3 =>
  intro f c0 w pp s' rr hts hat h hb;cases hts
  have hl1 := pa_len hp1;have hl2 := pa_len hp2;have hl3 := pa_len hp3;simp only [Rs.fits, List.length_nil, List.length_cons] at hl1 hl2 hl3 hb;refine atom_call 16 3 (Or.inr (Or.inr ⟨rfl, rfl, rfl⟩)) (c1 ++ c2 ++ c3) q'' r w hg h hat htl ?_ (by simp only [List.length_cons]; omega);rw [List.append_assoc];refine Args.cons 2 [40] p' l c1 (c2 ++ c3) _ _ ih1 (by simp only [List.length_cons]; omega) ?_;refine Args.cons 1 [44] q r1 c2 c3 _ _ ih2 (by simp only [List.length_cons]; omega) ?_;have := Args.cons (C := Opd W0 B t v1 na 176) 0 [44] q' r2 c3 [] _ _ ih3 (by simp only [List.length_cons]; omega) (Args.nil _ _);rwa [List.append_nil] at this
end Go.Proofs.YtjcajeehgjpmmaaGreatDoor.I
