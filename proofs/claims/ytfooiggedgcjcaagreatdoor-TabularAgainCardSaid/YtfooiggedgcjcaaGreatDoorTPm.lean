/-
  Layer 6: a guard's line.
  Layer 6: where a step goes, and what it sets.
  Layer 6: a step's line.
-/
import Derived.Test.YtfooiggedgcjcaaGreatDoorTPh
import Derived.Test.YtfooiggedgcjcaaGreatDoorTPi
namespace Go.Proofs.YtfooiggedgcjcaaGreatDoor.T
open Go Go.RowKit Go.Proofs.YtfooiggedgcjcaaGreatDoor.B Go.Proofs.YtfooiggedgcjcaaGreatDoor.K Go.Proofs.YtfooiggedgcjcaaGreatDoor.E Go.Proofs.YtfooiggedgcjcaaGreatDoor.R
set_option linter.unusedVariables false

theorem info_guard : ∃ i, Tryz.prog.info? 76 = some i ∧ i.zero = some (.agg #[.int .i64 0, .slice none 0 0]) ∧ i.size = 2 ∧ i.bytes = 32 := by
  have h : (Tryz.prog.info? 76).map (fun i => (i.zero, i.size, i.bytes)) = some (some (.agg #[.int .i64 0, .slice none 0 0]), 2, 32) := by kernel_rfl
  obtain ⟨i, h1, h2⟩ := Option.map_eq_some_iff.1 h
  simp only [Prod.mk.injEq] at h2
  exact ⟨i, h1, h2.1, h2.2.1, h2.2.2⟩
theorem two_cells (n : Int) (a : Option Addr) (l k : Nat) : ∀ u ∈ [Value.int .i64 n, .slice a l k], u.oneCell' = true := by
  intro u hu
  simp only [List.mem_cons, List.not_mem_nil, or_false] at hu
  rcases hu with rfl | rfl <;> rfl

/-- A cell that holds a function that reads expressions. -/
structure ExBox (D : Nat) (X : Nat → Prop) (val : Ix → Value) (eb : Nat) (w : World) : Prop where
  cb : ∃ cb, w.cell? ⟨eb, 0, none⟩ = some (.func (.func 113) #[] #[.pointer (some ⟨cb, 0, none⟩)]) ∧ Box D X val cb w
  shut : ¬ Opn D X val eb

section
variable {D LB : Nat} {t : Tb} {said : Nat} {q : Dq} {w : World}

theorem ExBox.step {X X' : Nat → Prop} {val val' : Ix → Value} {eb : Nat} {w' : World} {S : Nat → Prop} (h : ExBox D X val eb w) (hc : Chg S w w') (hS : ∀ k, S k → k < w.heap.size → Opn D X val k) (hO : ∀ k, Opn D X' val' k → k < w.heap.size → Opn D X val k) : ExBox D X' val' eb w' := by
  obtain ⟨⟨cb, h1, h2⟩, h3⟩ := h
  have hlt := World.block_lt_of_cell? w _ h1
  exact ⟨⟨cb, hc.cell h1 fun hs => h3 (hS eb hs hlt), h2.step hc hS hO⟩, fun ho => h3 (hO eb ho hlt)⟩

theorem ent_expr : I.Ent 113 := fun args w => enters_of Tryz.func113 (by kernel_rfl) rfl args w

theorem lastR_of {t : Tb} {rs : List Rl} {r : Rl} (ht : t.rules = rs ++ [r]) (f : Rl → Rl) : lastR t f = { t with rules := rs ++ [f r] } := by
  unfold lastR
  rw [ht]
  simp

set_option maxHeartbeats 8000000 in
set_option maxRecDepth 100000 in
theorem guard1_any {ip : Ip} (hip : IpOk ip) (eb cb : Nat) (s : Bs) (hs : s.length ≤ 8192) {rs : List Rl} {r : Rl} (ht : t.rules = rs ++ [r]) (hrl : rs.length ≤ 1000000) (hgl : r.guards.length ≤ 100000) (hv : t.vars.length ≤ 10000) (hn : ∀ x ∈ t.vars, I.isName x = true) (ha : 0 ≤ r.args ∧ r.args ≤ 1099511627776)
    (h2 : 2 ≤ said) {o : Ln} (ho : gdLine ip t r s = some o) (h : Dr D (fun k => k = LB) t said q w) (hb : Box D (fun k => k = LB) q.val cb w) (he : ExBox D (fun k => k = LB) q.val eb w) (hg : GlD D w) (hl : LnAt w LB s) :
    Calls Tryz.prog 78 #[.pointer (some ⟨LB, 0, none⟩), .pointer (some ⟨eb, 0, none⟩), .pointer (some ⟨cb, 0, none⟩)] w (LnOut D LB q.val said o w) := by
  have hwa := wd_le s
  have hna := nx_le s
  have HW := Lib.hid (word_any LB s (by omega) w hl.cell hl.frozen)
  have HLQ := Lib.hid (fun n => hl.set n (nx s))
  have HDQ := Lib.hid (fun n => h.lined n (nx s))
  have HBQ := Lib.hid (fun n => hb.lined n (nx s))
  have HEQ := Lib.hid (fun n => he.step (X' := fun k => k = LB) (val' := q.val) (S := fun k => k = LB) ((Chg.drew w n).trans (Chg.set (w.drewN n) (g := LB) 0 (sv (nx s)) rfl)) (fun k hk _ => Or.inr (Or.inl hk)) (fun k hk _ => hk))
  have HZQ := Lib.hid (fun n => Fr.lined (D := D) (LB := LB) (val := q.val) w n (nx s))
  have HD0 := Lib.hid h
  have HG := Lib.hid hg
  have HNU := Lib.hid (fun W (hW : Globs W) => number_any (wd s) 0 W hW (by omega))
  have HGD := Lib.hid (show (if (numOf (wd s) 0).2 ≠ 0 then some (.error (numOf (wd s) 0).2) else match ip (nx s) t.vars r.args with
    | none => none
    | some x => if x.2 ≠ 0 then some (.error x.2) else some (.ok (lastR t fun r => { r with guards := r.guards ++ [⟨(numOf (wd s) 0).1, x.1⟩] }))) = some o from ho)
  obtain ⟨x, hx⟩ : ∃ x, wd s = x := ⟨_, rfl⟩
  rw [hx] at HW HNU HGD
  obtain ⟨a, hac⟩ : ∃ a, (numOf x 0).1 = a := ⟨_, rfl⟩
  obtain ⟨er, her⟩ : ∃ er, (numOf x 0).2 = er := ⟨_, rfl⟩
  rw [hac, her] at HNU HGD
  have HT := Lib.hid (And.intro ht (And.intro hrl (And.intro hgl (And.intro hv (And.intro hn (And.intro ha (And.intro h2 (show (nx s).length ≤ 8192 by omega))))))))
  have HIP := Lib.hid hip
  clear h hb he hg hl hs ht hrl hgl hv hn ha h2 ho hwa hna hx hac her hip
  unfold sv at HW HNU
  by_cases hz : er = 0
  · subst hz
    obtain ⟨rr, hrr⟩ : ∃ rr, ip (nx s) t.vars r.args = some rr := by
      have h1 := HGD.out
      rw [if_neg (fun h => h rfl)] at h1
      cases hq : ip (nx s) t.vars r.args with
      | none => rw [hq] at h1; cases h1
      | some rr => exact ⟨rr, rfl⟩
    have HO : Hid ((if rr.2 ≠ 0 then some (.error rr.2) else some (.ok (lastR t fun r => { r with guards := r.guards ++ [⟨a, rr.1⟩] }))) = some o) := Lib.hid (by have h1 := HGD.out; rw [if_neg (fun h => h rfl), hrr] at h1; exact h1)
    have HRR := Lib.hid hrr
    clear hrr HGD
    go_enter Tryz.func78, Tryz.ntmps78
    go_wp2_with (first | (go_at_call 13; refine HW.out.mono ?_; rintro _ w1 ⟨rfl, n1, rfl⟩) | (go_at_call 73; refine (HNU.out _ (HG.out.step ((HZQ.out n1).below HD0.out)).now).mono ?_; rintro _ w4 ⟨rfl, hb4⟩; have HB4 := Lib.hid hb4; clear hb4))
    have hd4 := (HDQ.out n1).grow HB4.out
    have hb4 := (HBQ.out n1).step (Chg.of (S := fun _ => False) HB4.out) (fun _ h _ => h.elim) (fun _ h _ => h)
    have he4 := (HEQ.out n1).step (Chg.of (S := fun _ => False) HB4.out) (fun _ h _ => h.elim) (fun _ h _ => h)
    have hl4 := (HLQ.out n1).chg (Chg.of (S := fun _ => False) HB4.out) (fun h => h)
    have hz4 := (HZQ.out n1).trans (Fr.of HB4.out)
    obtain ⟨⟨c2, f1, bx2⟩, -⟩ := he4
    have HX := Lib.hid (fun W (hW : Below w4.heap.size w4 W) => (expr1_any HIP.out c2 (nx s) (hd4.grow hW) HT.out.1 HT.out.2.1 (bx2.step (Chg.of (S := fun _ => False) hW) (fun _ h _ => h.elim) (fun _ h _ => h)) ((HG.out.step ((hz4.trans (Fr.of hW)).below HD0.out)).now) HRR.out HT.out.2.2.2.2.2.2.2 HT.out.2.2.2.1 HT.out.2.2.2.2.1 HT.out.2.2.2.2.2.1).mono (R' := fun z w' => ∃ v, z = .returned (.tuple #[v, .int .i64 rr.2]) ∧ (∃ a n c, v = .slice a n c) ∧ (rr.2 = 0 → w'.ownsRow w4.heap.size 83 2 v rr.1.length (pairCells rr.1)) ∧ Below w4.heap.size w4 w') fun z w' ⟨v, g1, g2, g3, g4⟩ => ⟨v, g1, g2, fun h0 => by
      rcases (g3 h0).2 with h5 | ⟨g, cap, cur, h5, h6, h7⟩
      · exact ⟨(g3 h0).1, Or.inl h5⟩
      · exact ⟨(g3 h0).1, Or.inr ⟨g, cap, cur, h5, Nat.le_trans hW.size h6, h7⟩⟩, hW.trans (g4.mono hW.size)⟩)
    have hent := ent_expr
    unfold I.Ent at hent
    have lc := hl4.cell
    have cbc := hb4.cell
    have HD4 := Lib.hid hd4
    have HBX4 := Lib.hid hb4
    have HZ4 := Lib.hid hz4
    obtain ⟨e5, he5⟩ : ∃ e, rr.2 = e := ⟨_, rfl⟩
    rw [he5] at HX HO
    unfold sv at HX lc
    clear hd4 hb4 hl4 hz4 bx2 HW HNU HDQ HBQ HEQ HLQ HZQ HRR HIP he5
    go_region_law (go_simp; go_at_call 113; refine (HX.out _ (by first | exact (Below.refl w4.heap.size w4).drew | exact Below.refl _ _)).mono ?_; rintro _ w5 ⟨v5, rfl, ⟨b5, n5, k5, rfl⟩, ho5, hb5⟩; have HO5 := Lib.hid ho5; have HB5 := Lib.hid hb5; clear ho5 hb5)
    all_goals
      have hd5 := HD4.out.grow HB5.out
      have hb5 := HBX4.out.step (Chg.of (S := fun _ => False) HB5.out) (fun _ h _ => h.elim) (fun _ h _ => h)
      obtain ⟨gR, cap, hru, hgD, hgl, hcells⟩ := hd5.last HT.out.1
      have HRO := Lib.hid (ruleOf_any hd5 HT.out.1 hru HT.out.2.1)
      obtain ⟨g3, f3⟩ := hcells 3 (q.val (.g rs.length)) rfl
      have HRU := Lib.hid hru
      have hgl2 : (q.gl rs.length).length = r.guards.length := by
        have := (hd5.closed.out (fix_mono q t)) rs.length r (by rw [HT.out.1]; simp)
        exact this.2.1.1
      have HOG := Lib.hid (hd5.rows.own (.g rs.length))
      have hnR : ¬ (q.val (.g rs.length)).ownBlock = some gR := fun e => by
        have := hd5.rows.one (.g rs.length) .ru gR e (by rw [hru]; rfl)
        cases this
      have HNR := Lib.hid hnR
      obtain ⟨m, hm⟩ : ∃ m, rs.length = m := ⟨_, rfl⟩
      rw [hm] at HRO g3 f3 HOG
      have HM := Lib.hid hm
      obtain ⟨vG, hvG⟩ : ∃ v, q.val (.g m) = v := ⟨_, rfl⟩
      rw [hvG] at g3 HOG
      have HVG := Lib.hid hvG
      have HG3 := Lib.hid g3
      have HF3 := Lib.hid f3
      have HGL := Lib.hid hgl
      have HR1 := Lib.hid (show (q.gl m).length + 1 ≤ maxLen by rw [← hm, hgl2]; have := HT.out.2.2.1; unfold maxLen; omega)
      have HR2 := Lib.hid (show ((q.gl m).length + 1) * 32 ≤ 140737488355328 by rw [← hm, hgl2]; have := HT.out.2.2.1; omega)
      have HAL := Lib.hid (fun n => show Below w5.heap.size w5 ((w5.drewN n).alloc (.cells #[.int .i64 a, .slice b5 n5 k5] 76)) from (below_drewN (Below.refl _ _) n).alloc (Nat.le_refl _) _)
      have HDLT := Lib.hid hd5.lt
      obtain ⟨i0, hi, hy0, hy1, hy2⟩ := info_guard
      have cb5 := hb5.cell
      have HD5 := Lib.hid hd5
      have HGRD := Lib.hid hgD
      clear hd5 hb5 hru hgl2 hnR hm hvG hgl hcells hgD lc cbc f1 hent
      go_wp2_with (first | (go_at_call 29; refine HRO.out.mono ?_; rintro _ w6 ⟨rfl, n6, rfl⟩) | (at_builtin; go_must (refine wpList_append_lies _ rfl _ _ 55 rfl (D + 1) 76 i0 (.agg #[.int .i64 0, .slice none 0 0]) 2 32 Tryz.underlying55 hi hy0 hy1 hy2 rfl (by decide) _ _ _ rfl (World.ownsRow.alloc HOG.out _) ⟨w5.heap.size, 0, none⟩ 1 1 [.int .i64 a, .slice b5 n5 k5] rfl rfl (fun j u hj => new_row _ #[.int .i64 a, .slice b5 n5 k5] _ _ rfl j u hj) (two_cells _ _ _ _) (by decide) HR1.out HR2.out (Nat.le_trans (Nat.succ_le_of_lt HDLT.out) (HAL.out n6).size) _ rfl ?_); intro g7 cap7 w7 hown7 hgrow7 hblk7 hlt7; have HA := Lib.hid (App.of (D := D) (HAL.out n6) hown7 hgrow7 (hblk7.elim (fun e => Or.inl e.symm) (fun e => Or.inr (by rw [e]; rfl)))); have c7 := HA.out.chg.cell HG3.out (fun e => HNR.out (by rw [HM.out, HVG.out]; exact e)); have f7 := (HA.out.chg.frozens HGL.out (fun e => HNR.out (by rw [HM.out, HVG.out]; exact e)) (m * 5 + 3)).trans HF3.out; clear hown7 hgrow7 hblk7 hlt7))
      go_ret
      have hz5 : Fr D LB q.val q.val w w5 := HZ4.out.trans (Fr.of HB5.out)
      have hc7 : Chg (Opn D (fun k => k = LB) q.val) w5 (w7.setCell ⟨gR, m * 5 + 3, none⟩ (.slice (some ⟨g7, 0, none⟩) ((q.gl m).length + 1) cap7)) :=
        (HA.out.chg.mono fun k hk => Or.inr (Or.inr ⟨.g m, by rw [HVG.out]; exact hk⟩)).trans (Chg.set _ _ _ (Or.inr (Or.inr ⟨.ru, by rw [HRU.out]; rfl⟩)))
      refine ⟨hz5.chg.trans hc7, ?_⟩
      have ho := HO.out
      by_cases h0 : e5 = 0
      · rw [if_neg (fun h => h h0), lastR_of HT.out.1] at ho
        cases ho
        have ho5 := HO5.out h0
        obtain ⟨q', hq', hop'⟩ := HD5.out.push_gd HT.out.2.2.2.2.2.2.1 HT.out.1 a rr.1 (.slice b5 n5 k5) (SlI.owns ho5) (fun k hk hop => by
          have h6 := own_block_lt ho5 hk
          have h7 := HD4.out.open_ge hop
          omega) (by rw [HM.out, HVG.out]; exact HA.out) HRU.out
        rw [HM.out] at hq'
        exact ⟨ret_int h0, q', hq', hz5.trans ⟨hc7, hop'⟩, fun h => by have := HT.out.2.2.2.2.2.2.1; omega, fun h => by have := HT.out.2.2.2.2.2.2.1; omega⟩
      · rw [if_pos h0] at ho
        cases ho
        exact ⟨rfl, h0⟩
  · have heb : (er != 0) = true := by simpa using hz
    have HE := Lib.hid (show o = .error er by have h1 := HGD.out; rw [if_pos hz] at h1; cases h1; rfl)
    have HER := Lib.hid hz
    clear hz
    go_enter Tryz.func78, Tryz.ntmps78
    go_wp2_with (first | (go_at_call 13; refine HW.out.mono ?_; rintro _ w1 ⟨rfl, n1, rfl⟩) | (go_at_call 73; refine (HNU.out _ (HG.out.step ((HZQ.out n1).below HD0.out)).now).mono ?_; rintro _ w4 ⟨rfl, hb4⟩; have HB4 := Lib.hid hb4; clear hb4))
    go_ret
    refine ⟨((HZQ.out n1).trans (Fr.of HB4.out)).chg, ?_⟩
    rw [HE.out]
    exact ⟨rfl, HER.out⟩
end
end Go.Proofs.YtfooiggedgcjcaaGreatDoor.T

namespace Go.Proofs.YtfooiggedgcjcaaGreatDoor.T
open Go Go.RowKit Go.Proofs.YtfooiggedgcjcaaGreatDoor.B Go.Proofs.YtfooiggedgcjcaaGreatDoor.K Go.Proofs.YtfooiggedgcjcaaGreatDoor.E Go.Proofs.YtfooiggedgcjcaaGreatDoor.R
set_option linter.unusedVariables false

theorem two_set (w : World) (B : Nat) (y0 y1 : Value) {a0 a1 : Value} (h0 : w.cell? ⟨B, 0, none⟩ = some a0) (h1 : w.cell? ⟨B, 1, none⟩ = some a1) :
    (w.setCell ⟨B, 0, none⟩ y0).cell? ⟨B, 0, none⟩ = some y0 ∧ ((w.setCell ⟨B, 0, none⟩ y0).setCell ⟨B, 1, none⟩ y1).cell? ⟨B, 1, none⟩ = some y1 := by
  have h2 : (w.setCell ⟨B, 0, none⟩ y0).cell? ⟨B, 1, none⟩ = some a1 := by
    rw [World.cell?_setCell_other w ⟨B, 0, none⟩ ⟨B, 1, none⟩ _ (by intro e; injection e; omega)]
    exact h1
  exact ⟨World.cell?_setCell_same _ _ _ (show _ = some a0 from h0), World.cell?_setCell_same _ _ _ (show _ = some a1 from h2)⟩
theorem lined_chg {LB : Nat} (w : World) (n : Nat) (s : Bs) : Chg (fun k => k = LB) w ((w.drewN n).setCell ⟨LB, 0, none⟩ (sv s)) := (Chg.drew w n).trans (Chg.set _ _ _ rfl)

section
variable {D LB : Nat} {t : Tb} {said : Nat} {q : Dq} {w : World}

set_option maxHeartbeats 2000000 in
theorem goesTo_any {X : Nat → Prop} (s : Bs) (hs : s.length ≤ 281474976710656) (h : Dr D X t said q w) (h1 : 1 ≤ said) (hg : I.Glob w) :
    Calls Tryz.prog 81 #[.pointer (some ⟨D, 0, none⟩), sv s] w fun z w' => z = .returned (.tuple #[.int .i64 (goesTo t s).1, .int .i64 (goesTo t s).2]) ∧ w = w' := by
  obtain ⟨b, hmb, hm, -⟩ := h.mS h1
  have mc := h.cell 5 (v := q.mS) rfl
  rw [hmb] at mc
  have HF := Lib.hid (find_any b t.states s w hm hg hs)
  unfold goesTo
  by_cases h45 : s = [45]
  · subst h45
    rw [if_pos rfl]
    have e1 : ((str [45]).toList == ([45] : Bs)) = true := by rw [str_toList]; rfl
    unfold sv
    clear h h1 hg hm hmb mc HF
    go_enter Tryz.func81, Tryz.ntmps81
    go_wp2_with fail
    go_ret2
    exact ⟨rfl, rfl⟩
  · rw [if_neg h45]
    have e1 : ((str s).toList == ([45] : Bs)) = false := by rw [str_toList]; exact beq_eq_false_iff_ne.2 h45
    unfold sv at HF ⊢
    clear h h1 hg hm hmb h45 hs
    go_enter Tryz.func81, Tryz.ntmps81
    go_wp2_with (go_at_call 112; refine HF.out.mono ?_; rintro _ w1 ⟨rfl, rfl⟩)
    go_ret2
    exact ⟨rfl, rfl⟩

/-- What a SET leaves. -/
def SetOut (LB : Nat) (s : Bs) (o : Except Int Se) (w : World) (z : Ending) (w' : World) : Prop :=
  ∃ v y fol er, z = .returned (.tuple #[.agg #[.int .i64 v, y], .bool fol, .int .i64 er]) ∧ (∃ a n c, y = .slice a n c) ∧ Chg (fun k => k = LB) w w' ∧
    match o with
    | .ok x => er = 0 ∧ v = x.var ∧ fol = hasB 59 (nx (nx s)) ∧ w'.ownsRow w.heap.size 83 2 y x.value.length (pairCells x.value) ∧ LnAt w' LB (pnx (nx (nx s)))
    | .error e => er = e ∧ e ≠ 0

set_option maxHeartbeats 8000000 in
set_option maxRecDepth 100000 in
theorem set1_any {ip : Ip} (hip : IpOk ip) (eb cb : Nat) (s : Bs) (hs : s.length ≤ 8192) {rs : List Rl} {r : Rl} (ht : t.rules = rs ++ [r]) (hrl : rs.length ≤ 1000000) (hv : t.vars.length ≤ 10000) (hn : ∀ x ∈ t.vars, I.isName x = true) (ha : 0 ≤ r.args ∧ r.args ≤ 1099511627776)
    (h2 : 2 ≤ said) {o : Except Int Se} (ho : oneSet ip t r s = some o) (h : Dr D (fun k => k = LB) t said q w) (hb : Box D (fun k => k = LB) q.val cb w) (he : ExBox D (fun k => k = LB) q.val eb w) (hg : GlD D w) (hl : LnAt w LB s) :
    Calls Tryz.prog 115 #[.pointer (some ⟨LB, 0, none⟩), .pointer (some ⟨cb, 0, none⟩), .pointer (some ⟨eb, 0, none⟩)] w (SetOut LB s o w) := by
  obtain ⟨b, hmb, hm, hno⟩ := h.mV h2
  have mc := h.cell 6 (v := q.mV) rfl
  rw [hmb] at mc
  have hwa := wd_le s
  have hna := nx_le s
  have hwb := wd_le (nx s)
  have hnb := nx_le (nx s)
  have hLlt := hl.lt
  have hal : Below w.heap.size w (w.alloc (.cells #[.int .i64 0, .slice none 0 0] 86)) := (Below.refl _ _).alloc (Nat.le_refl _) _
  obtain ⟨W1, hW1⟩ : ∃ W, W = w.alloc (.cells #[.int .i64 0, .slice none 0 0] 86) := ⟨_, rfl⟩
  rw [← hW1] at hal
  have hl1 := hl.chg (Chg.of (S := fun _ => False) hal) (fun h => h)
  have hcb := kept_cell hal hb.cell
  have hmc := kept_cell hal mc
  have HFD := Lib.hid (fun W (hc : Chg (fun k => k = LB) w W) => find_any b t.vars (wd s) W (hm.chg hc (fun e => hno (by rw [e]; exact Or.inr (Or.inl rfl)))) ((hg.step (hc.below (fun k hk => by have := (h.xD LB rfl).1; omega) (Nat.le_of_lt h.lt))).now.glob) (by omega))
  have HW := Lib.hid (word_any LB s (by omega) W1.drew hl1.cell hl1.frozen)
  have HC1 := Lib.hid (Chg.of (S := fun k => k = LB) hal)
  have HL1 := Lib.hid hl1
  have hrb : W1.heap[w.heap.size]? = some (.cells #[.int .i64 0, .slice none 0 0] 86 (0, 0)) := by rw [hW1]; exact heap_alloc_at w _
  obtain ⟨B, hB⟩ : ∃ B, w.heap.size = B := ⟨_, rfl⟩
  rw [hB] at hrb
  have HRB := Lib.hid hrb
  have HBL := Lib.hid (show B ≠ LB by omega)
  have hBW : B < W1.heap.size := (Array.getElem?_eq_some_iff.1 hrb).1
  have HBW := Lib.hid hBW
  have HD := Lib.hid h
  have HBX := Lib.hid hb
  have HEX := Lib.hid he
  have HG := Lib.hid hg
  have HB := Lib.hid hB
  have hcbn : cb ≠ LB := fun e => hb.shut (by rw [e]; exact Or.inr (Or.inl rfl))
  have hDn : D ≠ LB := by have := (h.xD LB rfl).1; omega
  have HNE := Lib.hid (And.intro hcbn hDn)
  have HS := Lib.hid (And.intro hs (And.intro hwa (And.intro hna (And.intro hwb hnb))))
  have HT := Lib.hid (And.intro ht (And.intro hrl (And.intro hv (And.intro hn ha))))
  have HIP := Lib.hid hip
  have HO : Hid ((if (findN t.vars (wd s)).2 ≠ 0 then some (.error (findN t.vars (wd s)).2) else if wd (nx s) ≠ wSet then some (.error 6) else match ip (pc (nx (nx s))) t.vars r.args with
    | none => none
    | some x => if x.2 ≠ 0 then some (.error x.2) else some (.ok ⟨(findN t.vars (wd s)).1, x.1⟩)) = some o) := Lib.hid ho
  have HX := Lib.hid (show (nx s).length ≤ 8192 ∧ (nx (nx s)).length ≤ 8192 by omega)
  obtain ⟨x, hx⟩ : ∃ x, wd s = x := ⟨_, rfl⟩
  rw [hx] at HW HFD HO
  obtain ⟨vn, hvn⟩ : ∃ a, (findN t.vars x).1 = a := ⟨_, rfl⟩
  obtain ⟨ve, hve⟩ : ∃ a, (findN t.vars x).2 = a := ⟨_, rfl⟩
  rw [hvn, hve] at HFD HO
  have HCB := Lib.hid hcb
  have HMC := Lib.hid hmc
  clear hip hs ht hrl hv hn ha h2 ho h hb he hg hl hm hno mc hwa hna hwb hnb hLlt hal hl1 hrb hBW hcbn hDn hx hvn hve hmb
  unfold sv at HW HFD
  go_enter Tryz.func115, Tryz.ntmps115
  go_wp2_with fail
  rw [← hW1]
  clear hW1 hB
  go_cut [7, 8] from 12 to 21 (fun s7 s8 wx => s7 = .int .i64 vn ∧ s8 = .int .i64 ve ∧ Hid (Chg (fun k => k = LB) W1 wx) ∧ Hid (LnAt wx LB (nx s)))
  case first =>
    go_region_law (first | (go_simp; go_at_call 13; refine HW.out.mono ?_; rintro _ w2 ⟨rfl, hw2⟩; have hc2 : Chg (fun k => k = LB) W1 w2 := (by obtain ⟨n, rfl⟩ := hw2; exact (Chg.of ((Below.refl W1.heap.size W1).drew)).trans ((Chg.drew W1.drew n).trans (Chg.set _ _ _ rfl))); have hl2 : LnAt w2 LB (nx s) := (by obtain ⟨n, rfl⟩ := hw2; exact (show LnAt W1.drew LB s from ⟨HL1.out.cell, HL1.out.frozen⟩).set n (nx s)); have hcb2 := hc2.cell HCB.out HNE.out.1; have hmc2 := hc2.cell HMC.out HNE.out.2; have HC2 := Lib.hid hc2; have HL2 := Lib.hid hl2; clear hc2 hl2 hw2) | (go_simp; go_at_call 112; refine (HFD.out _ (HC1.out.trans HC2.out)).mono ?_; rintro _ w3 ⟨rfl, rfl⟩))
    all_goals
      clear hcb2 hmc2
      go_wp2_with fail
      go_meet
      exact ⟨rfl, rfl, HC2, HL2⟩
  case rest =>
    obtain ⟨W2, rfl⟩ : ∃ W : World, W = wc := ⟨_, rfl⟩
    obtain ⟨rfl, rfl, HC2, HL2⟩ := hcut
    have hr2 := HC2.out.heap HRB.out HBL.out
    have b0 : W2.cell? ⟨B, 0, none⟩ = some (.int .i64 0) := by rw [cell_of_row _ _ _ _ _ _ hr2]; rfl
    have b1 : W2.cell? ⟨B, 1, none⟩ = some (.slice none 0 0) := by rw [cell_of_row _ _ _ _ _ _ hr2]; rfl
    have g0 : W2.frozen? ⟨B, 0, none⟩ = false := (row_cell hr2 (by simp)).choose_spec.2
    have g1 : W2.frozen? ⟨B, 1, none⟩ = false := (row_cell hr2 (by simp)).choose_spec.2
    have HR2 := Lib.hid hr2
    clear hr2
    have HC := Lib.hid (HC1.out.trans HC2.out)
    by_cases hz : ve = 0
    · subst hz
      have HW2 := Lib.hid (word_any LB (nx s) (by have := HX.out; omega) W2 HL2.out.cell HL2.out.frozen)
      obtain ⟨y, hy⟩ : ∃ y, wd (nx s) = y := ⟨_, rfl⟩
      rw [hy] at HW2 HO
      unfold sv at HW2
      by_cases hys : y = wSet
      · subst hys
        have e1 : ((str wSet).toList == ([58, 61] : Bs)) = true := by rw [str_toList]; rfl
        have e2 : ((str wSet).toList != ([58, 61] : Bs)) = false := by rw [str_toList]; rfl
        have HPI := Lib.hid (fun n => piece_any LB (nx (nx s)) (by have := HX.out; omega) _ (HL2.out.set n (nx (nx s))).cell (HL2.out.set n (nx (nx s))).frozen)
        obtain ⟨rr, hrr⟩ : ∃ rr, ip (pc (nx (nx s))) t.vars r.args = some rr := by
          have h1 := HO.out
          rw [if_neg (fun h => h rfl), if_neg (fun h => h rfl)] at h1
          cases hq : ip (pc (nx (nx s))) t.vars r.args with
          | none => rw [hq] at h1; cases h1
          | some rr => exact ⟨rr, rfl⟩
        have HOO : Hid ((if rr.2 ≠ 0 then some (.error rr.2) else some (.ok (⟨vn, rr.1⟩ : Se))) = some o) := Lib.hid (by have h1 := HO.out; rw [if_neg (fun h => h rfl), if_neg (fun h => h rfl), hrr] at h1; exact h1)
        have HRR := Lib.hid hrr
        have hpl : (pc (nx (nx s))).length ≤ 8192 := by
          have h1 := HX.out
          have h2 : (upTo 59 (nx (nx s))).length ≤ (nx (nx s)).length := (List.takeWhile_prefix _).length_le
          have h3 : (pc (nx (nx s))).length ≤ (upTo 59 (nx (nx s))).length := by
            unfold pc
            show ((List.dropWhile _ _).reverse).length ≤ _
            rw [List.length_reverse]
            have := (List.dropWhile_suffix (l := (upTo 59 (nx (nx s))).reverse) (· == (32 : UInt8))).length_le
            rw [List.length_reverse] at this
            exact this
          omega
        have HPL := Lib.hid hpl
        obtain ⟨⟨c2, f1, bx2⟩, -⟩ := HEX.out
        have hebl : eb ≠ LB := fun e => HEX.out.shut (by rw [e]; exact Or.inr (Or.inl rfl))
        have HXP := Lib.hid (fun W (hc : Chg (fun k => k = LB) w W) => expr1_any HIP.out c2 (pc (nx (nx s))) (HD.out.keep hc (fun k hk _ => hk) (fun k hk => ⟨(HD.out.xD k hk).1, Nat.lt_of_lt_of_le (HD.out.xD k hk).2 hc.size⟩) (fun k hk _ => hk)) HT.out.1 HT.out.2.1 (bx2.step hc (fun k hk _ => Or.inr (Or.inl hk)) (fun k hk _ => hk)) ((HG.out.step (hc.below (fun k hk => by have := (HD.out.xD LB rfl).1; omega) (Nat.le_of_lt HD.out.lt))).now) HRR.out HPL.out HT.out.2.2.1 HT.out.2.2.2.1 HT.out.2.2.2.2)
        have HF1 := Lib.hid (HC.out.cell f1 hebl)
        have hent := ent_expr
        unfold I.Ent at hent
        obtain ⟨e5, he5⟩ : ∃ e, rr.2 = e := ⟨_, rfl⟩
        rw [he5] at HOO
        have HE5 := Lib.hid he5
        have HEB := Lib.hid hebl
        clear hrr hpl bx2 hebl f1 he5 HW HFD HMC HCB
        unfold sv at HPI
        go_wp2_with (first | (go_at_call 13; refine HW2.out.mono ?_; rintro _ w3 ⟨rfl, n3, rfl⟩) | (go_at_call 116; refine (HPI.out n3).mono ?_; rintro _ w4 ⟨rfl, hw4⟩; have hc4 : Chg (fun k => k = LB) W2 w4 := (by obtain ⟨m, rfl⟩ := hw4; exact (lined_chg W2 n3 (nx (nx s))).trans (lined_chg _ m (pnx (nx (nx s))))); have hl4 : LnAt w4 LB (pnx (nx (nx s))) := (by obtain ⟨m, rfl⟩ := hw4; exact (HL2.out.set n3 (nx (nx s))).set m (pnx (nx (nx s)))); have f4 := hc4.cell HF1.out HEB.out; have HC4 := Lib.hid hc4; have HL4 := Lib.hid hl4; clear hc4 hl4 hw4) | (go_at_call 113; refine (HXP.out _ (HC.out.trans HC4.out)).mono ?_; rintro _ w5 ⟨v5, rfl, ⟨b5, n5, k5, rfl⟩, ho5, hb5⟩; have HO5 := Lib.hid ho5; have HB5 := Lib.hid hb5; have h5 := (HC4.out.trans (Chg.of hb5)).heap HR2.out HBL.out; have b50 : w5.cell? ⟨B, 0, none⟩ = some (.int .i64 0) := (by rw [cell_of_row _ _ _ _ _ _ h5]; rfl); have b51 : w5.cell? ⟨B, 1, none⟩ = some (.slice none 0 0) := (by rw [cell_of_row _ _ _ _ _ _ h5]; rfl); have g50 : w5.frozen? ⟨B, 0, none⟩ = false := (row_cell h5 (by simp)).choose_spec.2; have g51 : w5.frozen? ⟨B, 1, none⟩ = false := (row_cell h5 (by simp)).choose_spec.2; have HR5 := Lib.hid h5; clear ho5 hb5 h5))
        have hO5 := HO5.out
        rw [HE5.out] at hO5
        have hoo := HOO.out
        have hcc : Chg (fun k => k = LB) w w5 := (HC.out.trans HC4.out).trans (Chg.of HB5.out)
        have hend : ∀ y0 y1, Chg (fun k => k = LB) w ((w5.setCell ⟨B, 0, none⟩ y0).setCell ⟨B, 1, none⟩ y1) := fun y0 y1 => hcc.then ((Chg.set (S := fun k => k = B) w5 0 y0 rfl).trans (Chg.set _ 1 y1 rfl)) fun k hk hl => by have := HB.out; omega
        obtain ⟨q0, q1⟩ := two_set w5 B (.int .i64 vn) (.slice b5 n5 k5) b50 b51
        refine bodyPost_ret (v := .tuple #[.agg #[.int .i64 vn, .slice b5 n5 k5], .bool (hasB 59 (nx (nx s))), .int .i64 e5]) (by simp [results, Tryz.results115, go_sem, q0, q1, HE5.out]) rfl ⟨vn, _, _, e5, rfl, ⟨_, _, _, rfl⟩, hend _ _, ?_⟩
        by_cases h0 : e5 = 0
        · rw [if_neg (fun h => h h0)] at hoo
          cases hoo
          have c9 : Chg (fun k => k = B) w5 ((w5.setCell ⟨B, 0, none⟩ (.int .i64 vn)).setCell ⟨B, 1, none⟩ (.slice b5 n5 k5)) := (Chg.set (S := fun k => k = B) w5 0 _ rfl).trans (Chg.set _ 1 _ rfl)
          refine ⟨h0, rfl, rfl, ?_, ?_⟩
          · have h4 := hO5 h0
            have hB := HB.out
            have hw4 : w.heap.size ≤ w4.heap.size := (HC.out.trans HC4.out).size
            have hB4 : B < w4.heap.size := Nat.lt_of_lt_of_le HBW.out (HC2.out.trans HC4.out).size
            have h6 := c9.own h4 fun k hk e => by have := own_block_lt h4 hk; omega
            rcases h6.2 with h7 | ⟨g, cap, cur, h7, h8, h9⟩
            · exact ⟨h6.1, Or.inl h7⟩
            · exact ⟨h6.1, Or.inr ⟨g, cap, cur, h7, Nat.le_trans hw4 h8, h9⟩⟩
          · exact (HL4.out.chg (Chg.of (S := fun _ => False) HB5.out) (fun h => h)).chg c9 (fun e => HBL.out e.symm)
        · rw [if_pos h0] at hoo
          cases hoo
          exact ⟨rfl, h0⟩
      · have e1 : ((str y).toList == ([58, 61] : Bs)) = false := by rw [str_toList]; exact beq_eq_false_iff_ne.2 hys
        have e2 : ((str y).toList != ([58, 61] : Bs)) = true := by rw [bne, e1]; rfl
        have HE : Hid (o = .error 6) := Lib.hid (by have h1 := HO.out; rw [if_neg (fun h => h rfl), if_pos hys] at h1; cases h1; rfl)
        clear hys
        go_wp2_with (first | (go_at_call 13; refine HW2.out.mono ?_; rintro _ w3 ⟨rfl, hw3⟩; have hc3 : Chg (fun k => k = LB) W2 w3 := (by obtain ⟨n, rfl⟩ := hw3; exact lined_chg W2 n (nx (nx s))); have b30 := hc3.cell b0 HBL.out; have b31 := hc3.cell b1 HBL.out; have g30 := (hc3.frozens (Nat.lt_of_lt_of_le HBW.out HC2.out.size) HBL.out 0).trans g0; have g31 := (hc3.frozens (Nat.lt_of_lt_of_le HBW.out HC2.out.size) HBL.out 1).trans g1; have HC3 := Lib.hid hc3; clear hc3 hw3))
        have hend : Chg (fun k => k = LB) w ((w3.setCell ⟨B, 0, none⟩ (.int .i64 0)).setCell ⟨B, 1, none⟩ (.slice none 0 0)) := (HC.out.trans HC3.out).then ((Chg.set (S := fun k => k = B) w3 0 _ rfl).trans (Chg.set _ 1 _ rfl)) fun k hk hl => by have := HB.out; omega
        obtain ⟨q0, q1⟩ := two_set w3 B (.int .i64 0) (.slice none 0 0) b30 b31
        refine bodyPost_ret (v := .tuple #[.agg #[.int .i64 0, .slice none 0 0], .bool false, .int .i64 6]) (by simp [results, Tryz.results115, go_sem, q0, q1]) rfl ⟨0, _, _, 6, rfl, ⟨_, _, _, rfl⟩, hend, ?_⟩
        rw [HE.out]
        exact ⟨rfl, by decide⟩
    · have heb : (ve != 0) = true := by simpa using hz
      have HE : Hid (o = .error ve) := Lib.hid (by have h1 := HO.out; rw [if_pos hz] at h1; cases h1; rfl)
      have HER := Lib.hid hz
      clear hz
      go_wp2_with fail
      have hend : Chg (fun k => k = LB) w ((W2.setCell ⟨B, 0, none⟩ (.int .i64 0)).setCell ⟨B, 1, none⟩ (.slice none 0 0)) := HC.out.then ((Chg.set (S := fun k => k = B) W2 0 _ rfl).trans (Chg.set _ 1 _ rfl)) fun k hk hl => by have := HB.out; omega
      obtain ⟨q0, q1⟩ := two_set W2 B (.int .i64 0) (.slice none 0 0) b0 b1
      refine bodyPost_ret (v := .tuple #[.agg #[.int .i64 0, .slice none 0 0], .bool false, .int .i64 ve]) (by simp [results, Tryz.results115, go_sem, q0, q1]) rfl ⟨0, _, _, ve, rfl, ⟨_, _, _, rfl⟩, hend, ?_⟩
      rw [HE.out]
      exact ⟨rfl, HER.out⟩
end
end Go.Proofs.YtfooiggedgcjcaaGreatDoor.T

namespace Go.Proofs.YtfooiggedgcjcaaGreatDoor.T
open Go Go.RowKit Go.Proofs.YtfooiggedgcjcaaGreatDoor.B Go.Proofs.YtfooiggedgcjcaaGreatDoor.K Go.Proofs.YtfooiggedgcjcaaGreatDoor.E Go.Proofs.YtfooiggedgcjcaaGreatDoor.R
set_option linter.unusedVariables false

theorem info_set : ∃ i, Tryz.prog.info? 86 = some i ∧ i.zero = some (.agg #[.int .i64 0, .slice none 0 0]) ∧ i.size = 2 ∧ i.bytes = 32 := by
  have h : (Tryz.prog.info? 86).map (fun i => (i.zero, i.size, i.bytes)) = some (some (.agg #[.int .i64 0, .slice none 0 0]), 2, 32) := by kernel_rfl
  obtain ⟨i, h1, h2⟩ := Option.map_eq_some_iff.1 h
  simp only [Prod.mk.injEq] at h2
  exact ⟨i, h1, h2.1, h2.2.1, h2.2.2⟩
theorem info_step : ∃ i, Tryz.prog.info? 80 = some i ∧ i.zero = some (.agg #[.slice none 0 0, .int .i64 0]) ∧ i.size = 2 ∧ i.bytes = 32 := by
  have h : (Tryz.prog.info? 80).map (fun i => (i.zero, i.size, i.bytes)) = some (some (.agg #[.slice none 0 0, .int .i64 0]), 2, 32) := by kernel_rfl
  obtain ⟨i, h1, h2⟩ := Option.map_eq_some_iff.1 h
  simp only [Prod.mk.injEq] at h2
  exact ⟨i, h1, h2.1, h2.2.1, h2.2.2⟩
theorem two_cells2 (n : Int) (a : Option Addr) (l k : Nat) : ∀ u ∈ [Value.slice a l k, .int .i64 n], u.oneCell' = true := by
  intro u hu
  simp only [List.mem_cons, List.not_mem_nil, or_false] at hu
  rcases hu with rfl | rfl <;> rfl

def pre (l : List Se) : Except Int (List Se) → Except Int (List Se)
  | .error e => .error e
  | .ok m => .ok (l ++ m)
/-- What a step sets. -/
def stOut (ip : Ip) (t : Tb) (r : Rl) (s : Bs) : Option (Except Int (List Se)) :=
  if (goesTo t (wd s)).2 ≠ 0 then some (.error (goesTo t (wd s)).2) else if nx s = [] then some (.ok []) else setsOf ip t r (s.length + 1) (nx s)
theorem spLine_is (ip : Ip) (t : Tb) (r : Rl) (s : Bs) : spLine ip t r s = match stOut ip t r s with
    | none => none
    | some (.error e) => some (.error e)
    | some (.ok l) => some (.ok (lastR t fun r => { r with steps := r.steps ++ [⟨l, (goesTo t (wd s)).1⟩] })) := by
  unfold spLine stOut
  by_cases h : (goesTo t (wd s)).2 ≠ 0
  · rw [if_pos h, if_pos h]
  · rw [if_neg h, if_neg h]
    generalize (if nx s = [] then some (Except.ok []) else setsOf ip t r (s.length + 1) (nx s)) = z
    rcases z with _ | (e | l) <;> rfl

/-- A cell that holds a function that reads what is set. -/
structure SeBox (D : Nat) (X : Nat → Prop) (val : Ix → Value) (sb : Nat) (w : World) : Prop where
  cb : ∃ cb eb, w.cell? ⟨sb, 0, none⟩ = some (.func (.func 115) #[] #[.pointer (some ⟨cb, 0, none⟩), .pointer (some ⟨eb, 0, none⟩)]) ∧ Box D X val cb w ∧ ExBox D X val eb w
  shut : ¬ Opn D X val sb

section
variable {D LB RB : Nat} {t : Tb} {said : Nat} {q : Dq} {w : World}

theorem SeBox.step {X X' : Nat → Prop} {val val' : Ix → Value} {sb : Nat} {w' : World} {S : Nat → Prop} (h : SeBox D X val sb w) (hc : Chg S w w') (hS : ∀ k, S k → k < w.heap.size → Opn D X val k) (hO : ∀ k, Opn D X' val' k → k < w.heap.size → Opn D X val k) : SeBox D X' val' sb w' := by
  obtain ⟨⟨cb, eb, h1, h2, h3⟩, h4⟩ := h
  have hlt := World.block_lt_of_cell? w _ h1
  exact ⟨⟨cb, eb, hc.cell h1 fun hs => h4 (hS sb hs hlt), h2.step hc hS hO, h3.step hc hS hO⟩, fun ho => h4 (hO sb ho hlt)⟩
theorem ent_set : I.Ent 115 := fun args w => enters_of Tryz.func115 (by kernel_rfl) rfl args w

/-- The blocks that a step's sets leave aside. -/
def SOpn (D LB RB : Nat) (q : Dq) (sS : Value) (k : Nat) : Prop := Opn D (fun k => k = LB) q.val k ∨ k = RB ∨ sS.ownBlock = some k

structure StpJ (D LB RB : Nat) (q : Dq) (ip : Ip) (t : Tb) (r : Rl) (tt : Int) (w0 : World) (s0 : Bs) (O : Option (Except Int (List Se))) (b : Bool) (er : Int) (g : Nat) (sS : Value) (rows : List (List Value)) (done : List Se) (s1 : Bs) (wr : World) : Prop where
  chg : Chg (fun k => k = LB) w0 wr
  blk : wr.heap[RB]? = some (.cells #[sS, .int .i64 tt] 80 (0, 0))
  own : wr.ownsRow (RB + 1) 86 2 sS rows.length rows.flatten
  many : rows.length ≤ s0.length + 1
  line : er = 0 → LnAt wr LB s1
  rel : er = 0 → Closed (SOpn D LB RB q sS) wr fun F => Rel (SeIs F) 2 rows done
  goes : er = 0 → b = true → s1.length < g ∧ rows.length + s1.length ≤ s0.length ∧ O = (setsOf ip t r g s1).map (pre done)
  stop : er = 0 → b = false → O = some (.ok done)
  bad : er ≠ 0 → O = some (.error er)

theorem rel_mono (rows : List (List Value)) (done : List Se) : Mono fun F => Rel (SeIs F) 2 rows done := fun F F' h hF => hF.imp fun _ _ x => se_sub h x

/-- What is left of the sets behind one. -/
def Then1 (ip : Ip) (t : Tb) (r : Rl) (g : Nat) (s1 : Bs) (done : List Se) (O : Option (Except Int (List Se))) : Except Int Se → Prop
  | .error e => O = some (.error e)
  | .ok x => if hasB 59 (nx (nx s1)) = true then O = (setsOf ip t r g (pnx (nx (nx s1)))).map (pre (done ++ [x])) else O = some (.ok (done ++ [x]))

/-- What a set's reading leaves. -/
def SetGot (LB B : Nat) (s1 : Bs) (v er : Int) (y : Value) (fol : Bool) (w6 : World) : Except Int Se → Prop
  | .ok x => er = 0 ∧ v = x.var ∧ fol = hasB 59 (nx (nx s1)) ∧ w6.ownsRow B 83 2 y x.value.length (pairCells x.value) ∧ LnAt w6 LB (pnx (nx (nx s1)))
  | .error e => er = e ∧ e ≠ 0

theorem sets_unroll {ip : Ip} {t : Tb} {r : Rl} {g : Nat} {s1 : Bs} {done : List Se} {O : Option (Except Int (List Se))} (h : O = (setsOf ip t r (g + 1) s1).map (pre done)) (hn : O ≠ none) : ∃ o1, oneSet ip t r s1 = some o1 ∧ Then1 ip t r g s1 done O o1 := by
  rw [setsOf] at h
  cases ho : oneSet ip t r s1 with
  | none => rw [ho] at h; exact absurd h hn
  | some o1 =>
    rw [ho] at h
    refine ⟨o1, rfl, ?_⟩
    cases o1 with
    | error e => exact h
    | ok x =>
      unfold Then1
      dsimp only at h ⊢
      by_cases hb : hasB 59 (nx (nx s1)) = true
      · rw [if_pos hb] at h ⊢
        cases hq : setsOf ip t r g (pnx (nx (nx s1))) with
        | none => rw [hq] at h; exact absurd h hn
        | some o2 =>
          rw [hq] at h
          cases o2 with
          | error e => exact h
          | ok l => rw [h]; simp [pre]
      · rw [if_neg hb] at h ⊢
        rw [h]; simp [pre]

theorem StpJ.next {ip : Ip} {r : Rl} {tt : Int} {w0 wr W5 w6 W7 w8 : World} {s0 s1 : Bs} {O : Option (Except Int (List Se))} {g : Nat} {sS v8 : Value} {rows : List (List Value)} {done : List Se} {v er : Int} {y : Value} {fol : Bool} {o1 : Except Int Se}
    (h : StpJ D LB RB q ip t r tt w0 s0 O true 0 (g + 1) sS rows done s1 wr) (hL : LB < w0.heap.size) (hR : w0.heap.size ≤ RB) (hd : ∀ k, Opn D (fun k => k = LB) q.val k → k < w0.heap.size) (h5 : Chg (fun _ => False) wr W5) (hz5 : W5.heap.size = wr.heap.size + 1)
    (h6 : Chg (fun k => k = LB) W5 w6) (hout : SetGot LB W5.heap.size s1 v er y fol w6 o1)
    (ho : Then1 ip t r g s1 done O o1)
    (h7 : Chg (fun k => k = wr.heap.size) w6 W7) (a : App RB W7 w8 sS v8 86 2 (rows.length + 1) (rows.flatten ++ [.int .i64 v, y])) :
    ∃ done' s2, StpJ D LB RB q ip t r tt w0 s0 O fol er g v8 (rows ++ [[.int .i64 v, y]]) done' s2 (w8.setCell ⟨RB, 0, none⟩ v8) := by
  have hRBlt : RB < wr.heap.size := (Array.getElem?_eq_some_iff.1 h.blk).1
  have hsS : ∀ k, sS.ownBlock = some k → RB + 1 ≤ k ∧ k < wr.heap.size := fun k hk => own_block_lt h.own hk
  have c9 : Chg (fun k => k = RB) w8 (w8.setCell ⟨RB, 0, none⟩ v8) := Chg.set w8 0 v8 rfl
  have z6 := h6.size
  have z7 := h7.size
  have z8 := a.chg.size
  have hw0 := h.chg.size
  have cT : Chg (fun k => k = wr.heap.size ∨ sS.ownBlock = some k ∨ k = RB) w6 (w8.setCell ⟨RB, 0, none⟩ v8) :=
    ((h7.mono fun k hk => Or.inl hk).trans (a.chg.mono fun k hk => Or.inr (Or.inl hk))).trans (c9.mono fun k hk => Or.inr (Or.inr hk))
  have c06 : Chg (fun k => k = LB) w0 w6 := (h.chg.trans (h5.mono fun _ h => h.elim)).trans h6
  have call : Chg (fun k => k = LB) w0 (w8.setCell ⟨RB, 0, none⟩ v8) := c06.then cT fun k hk hl => by
    rcases hk with e | e | e
    · omega
    · have := hsS k e; omega
    · omega
  have hv8 : ∀ k, v8.ownBlock = some k → RB + 1 ≤ k := fun k hk => (own_block_lt a.own hk).1
  have b5 := h5.heap h.blk (fun h => h)
  have b6 := h6.heap b5 (by omega)
  have b7 := h7.heap b6 (by omega)
  have b8 := a.chg.heap b7 (fun e => by have := hsS RB e; omega)
  have hb9 : (w8.setCell ⟨RB, 0, none⟩ v8).heap[RB]? = some (.cells #[v8, .int .i64 tt] 80 (0, 0)) := heap_setCell_same w8 RB 0 _ _ v8 b8
  have hown : (w8.setCell ⟨RB, 0, none⟩ v8).ownsRow (RB + 1) 86 2 v8 (rows ++ [[.int .i64 v, y]]).length (rows ++ [[.int .i64 v, y]]).flatten := by
    have e : (rows ++ [[.int .i64 v, y]]).flatten = rows.flatten ++ [.int .i64 v, y] := by simp
    rw [e, List.length_append]
    exact c9.own a.own fun k hk e => by have := hv8 k hk; omega
  obtain ⟨g1, g2, g3⟩ := h.goes rfl rfl
  have hmany : (rows ++ [[Value.int .i64 v, y]]).length ≤ s0.length + 1 := by simp; omega
  cases o1 with
  | error e =>
    unfold SetGot at hout
    obtain ⟨rfl, hne⟩ := hout
    exact ⟨[], [], call, hb9, hown, hmany, fun h0 => absurd h0 hne, fun h0 => absurd h0 hne, fun h0 => absurd h0 hne, fun h0 => absurd h0 hne, fun _ => ho⟩
  | ok x =>
    unfold SetGot at hout
    obtain ⟨rfl, rfl, rfl, hy, hl6⟩ := hout
    unfold Then1 at ho
    have hyk : ∀ k, y.ownBlock = some k → W5.heap.size ≤ k ∧ k < w6.heap.size := fun k hk => own_block_lt hy hk
    have r1 : Closed (fun k => SOpn D LB RB q sS k ∨ k = wr.heap.size) w6 fun F => Rel (SeIs F) 2 rows done :=
      (h.rel rfl).step ((h5.mono fun _ h => h.elim).trans h6) (fun k hk _ => Or.inl (Or.inr (Or.inl hk))) fun k hk hl => by
        rcases hk with hk | hk
        · exact hk
        · omega
    have r2 : Closed (fun k => SOpn D LB RB q sS k ∨ k = wr.heap.size) w6 fun F => Rel (SeIs F) 2 (rows ++ [[.int .i64 x.var, y]]) (done ++ [x]) :=
      r1.more (rel_mono rows done) fun F hF hP => hP.snoc rfl ⟨y, rfl, sli_shut hF (SlI.owns hy) fun k hk hs => by
        have h9 := hyk k hk
        rcases hs with (hs | hs | hs) | hs
        · have := hd k hs; omega
        · omega
        · have := hsS k hs; omega
        · omega⟩
    have r3 : Closed (SOpn D LB RB q v8) (w8.setCell ⟨RB, 0, none⟩ v8) fun F => Rel (SeIs F) 2 (rows ++ [[.int .i64 x.var, y]]) (done ++ [x]) := r2.step cT (fun k hk _ => by
        rcases hk with e | e | e
        · exact Or.inr e
        · exact Or.inl (Or.inr (Or.inr e))
        · exact Or.inl (Or.inr (Or.inl e))) fun k hk hl => by
        rcases hk with hk | hk | hk
        · exact Or.inl (Or.inl hk)
        · exact Or.inl (Or.inr (Or.inl hk))
        · rcases a.blk with e | ⟨m, e, hm⟩
          · exact Or.inl (Or.inr (Or.inr (e ▸ hk)))
          · rw [e] at hk; cases hk; omega
    have hl9 : LnAt (w8.setCell ⟨RB, 0, none⟩ v8) LB (pnx (nx (nx s1))) := hl6.chg cT fun hk => by
      rcases hk with e | e | e
      · omega
      · have := hsS LB e; omega
      · omega
    refine ⟨done ++ [x], pnx (nx (nx s1)), call, hb9, hown, hmany, fun _ => hl9, fun _ => r3, fun _ hb => ?_, fun _ hb => ?_, fun hb => absurd rfl hb⟩
    · have hb' : hasB 59 (nx (nx s1)) = true := hb
      simp only [hb', if_true] at ho
      have hz : nx (nx s1) ≠ [] := by intro e; rw [e] at hb'; cases hb'
      have h1 := pnx_lt _ hz
      have h2 := nx_le (nx s1)
      have h3 := nx_le s1
      exact ⟨by omega, by simp; omega, ho⟩
    · have hb' : ¬ hasB 59 (nx (nx s1)) = true := by rw [hb]; simp
      simp only [hb'] at ho
      exact ho
end
end Go.Proofs.YtfooiggedgcjcaaGreatDoor.T
