/-
  Layer 6: a rule's lines, shown.
-/
import Derived.Test.YtfooiggedgcjcaaGreatDoorTSc
namespace Go.Proofs.YtfooiggedgcjcaaGreatDoor.T
open Go Go.RowKit Go.Proofs.YtfooiggedgcjcaaGreatDoor.B Go.Proofs.YtfooiggedgcjcaaGreatDoor.K Go.Proofs.YtfooiggedgcjcaaGreatDoor.E Go.Proofs.YtfooiggedgcjcaaGreatDoor.R
set_option linter.unusedVariables false

/-- Lines that are put together: the row, the boxes, what shows expressions. -/
structure OrJ (w : World) (s x n r nm ar f g p : Value) (rows : List Bs) (v : Value) (wr : World) : Prop where
  own : wr.ownsRow (w.heap.size + 4) 9 1 v rows.length (rows.map sv)
  bel : Below w.heap.size w wr
  bx : Bx wr w.heap.size (w.heap.size + 1) s x n r nm ar f g p
  bs : Bx wr (w.heap.size + 2) (w.heap.size + 3) s x n r nm ar f g p

section
variable {w : World} {s x n r nm ar f g p : Value} {rows : List Bs} {v : Value} {wr w2 : World}
theorem OrJ.size (h : OrJ w s x n r nm ar f g p rows v wr) : w.heap.size + 3 < wr.heap.size := (Array.getElem?_eq_some_iff.1 h.bs.rl).1
theorem OrJ.push (h : OrJ w s x n r nm ar f g p rows v wr) (y : Bs) {v' : Value} (a : App (w.heap.size + 3) wr w2 v v' 9 1 (rows.length + 1) (rows.map sv ++ [sv y])) : OrJ w s x n r nm ar f g p (rows ++ [y]) v' w2 := by
  have hlt : ∀ k, v.ownBlock = some k → w.heap.size + 4 ≤ k := fun k hk => (own_block_lt h.own hk).1
  refine ⟨?_, h.bel.trans (a.chg.below (fun k hk => by have := hlt k hk; omega) h.bel.size), ⟨a.chg.heap h.bx.tb (fun e => by have := hlt _ e; omega), a.chg.heap h.bx.rl (fun e => by have := hlt _ e; omega)⟩, ⟨a.chg.heap h.bs.tb (fun e => by have := hlt _ e; omega), a.chg.heap h.bs.rl (fun e => by have := hlt _ e; omega)⟩⟩
  rw [List.length_append, List.map_append]
  exact a.own
theorem OrJ.push2 (h : OrJ w s x n r nm ar f g p rows v wr) (y : Bs) {v' : Value} (ho : w2.ownsRow (w.heap.size + 4) 9 1 v' (rows.length + 1) (rows.map sv ++ [sv y])) (hg : wr.grownBy w2 v.ownBlock) : OrJ w s x n r nm ar f g p (rows ++ [y]) v' w2 := by
  have hlt : ∀ k, v.ownBlock = some k → w.heap.size + 4 ≤ k := fun k hk => (own_block_lt h.own hk).1
  have hc : Chg (fun b => v.ownBlock = some b) wr w2 := Chg.grown hg (fun k hk => hk)
  refine ⟨?_, h.bel.trans (hc.below (fun k hk => by have := hlt k hk; omega) h.bel.size), ⟨hc.heap h.bx.tb (fun e => by have := hlt _ e; omega), hc.heap h.bx.rl (fun e => by have := hlt _ e; omega)⟩, ⟨hc.heap h.bs.tb (fun e => by have := hlt _ e; omega), hc.heap h.bs.rl (fun e => by have := hlt _ e; omega)⟩⟩
  rw [List.length_append, List.map_append]
  exact ho
theorem OrJ.grow (h : OrJ w s x n r nm ar f g p rows v wr) (hb : Below wr.heap.size wr w2) : OrJ w s x n r nm ar f g p rows v w2 :=
  ⟨own_kept h.own hb, h.bel.trans (hb.mono h.bel.size), h.bx.below hb, h.bs.below hb⟩
end

/-- What a rule asks, and where its parts lie. -/
structure OrIn (w : World) (s x n r f g p : Value) (t : Tb) (q : Rl) : Prop where
  glob : I.Glob w
  st : SlB w s t.states
  va : SlB w x t.vars
  fr : SlN w f q.from_
  gd : SlOf w 2 (GdIs w) g q.guards
  sp : SlOf w 2 (SpIs w) p q.steps
  may : May t
  mayr : MayR t q
  few : q.from_.length ≤ 1000000 ∧ q.guards.length ≤ 1000000 ∧ q.steps.length ≤ 1000000 ∧ ∀ y ∈ q.steps, y.sets.length ≤ 1000000
  small : t.states.length ≤ 1000000 ∧ t.vars.length ≤ 1000000
  hjl : (Lib.join (headWords t.states q) [32]).length ≤ 140737488355328
  exl : ∀ c, (check c t.vars.length q.args).2 = 0 → (I.showOf t.vars q.args c).1.length ≤ 2048
  vn : ∀ y ∈ t.vars, y.length ≤ 1000000
  sn : ∀ y ∈ t.states, y.length ≤ 1000000
  jn : ∀ y ∈ q.steps, (Lib.join (y.sets.map (setText t q)) [59]).length ≤ 1000000000
  cl : ∀ c, (check c t.vars.length q.args).2 = 0 → c.length ≤ 9223372036854775807

/-- The texts of sets, laid behind one another in a row of one's own. -/
def SetAt (W9 wx : World) (B : Nat) (v : Value) (n : Nat) (xs : List Value) : Prop := Below W9.heap.size W9 wx ∧ wx.ownsRow B 9 1 v n xs

set_option maxHeartbeats 40000000 in
set_option maxRecDepth 100000 in
theorem ofRule_any (w : World) (s x n r f g p : Value) (t : Tb) (q : Rl) (hin : OrIn w s x n r f g p t q) :
    Calls Tryz.prog 22 #[.agg #[s, x, n, r], .agg #[sv q.name, .int .i64 q.args, f, g, p]] w fun z w' => ∃ v, z = .returned v ∧ w'.ownsRow w.heap.size 9 1 v (rlLines t q).length ((rlLines t q).map sv) ∧ Below w.heap.size w w' := by
  have hst := hin.st
  have hva := hin.va
  have hfr := hin.fr
  have hgd := hin.gd
  have hsp := hin.sp
  obtain ⟨aS, ks, hse, -⟩ := hst
  obtain ⟨aV, kv, hve, -⟩ := hva
  obtain ⟨aF, kf, hfe, -⟩ := hfr
  obtain ⟨aG, kg, hge, -⟩ := hgd
  obtain ⟨aP, kp, hpe, -⟩ := hsp
  rw [List.length_map] at hse hve hfe
  subst hse hve hfe hge hpe
  have HIN := Lib.hid hin
  obtain ⟨W2, hW2⟩ : ∃ W, (w.alloc (.cells #[.slice aS t.states.length ks, .slice aV t.vars.length kv, n, r] 26)).alloc (.cells #[sv q.name, .int .i64 q.args, .slice aF q.from_.length kf, .slice aG q.guards.length kg, .slice aP q.steps.length kp] 58) = W := ⟨_, rfl⟩
  have hbx : Bx W2 w.heap.size (w.heap.size + 1) (.slice aS t.states.length ks) (.slice aV t.vars.length kv) n r (sv q.name) (.int .i64 q.args) (.slice aF q.from_.length kf) (.slice aG q.guards.length kg) (.slice aP q.steps.length kp) := by rw [← hW2]; exact bx_new w
  have hsz2 : W2.heap.size = w.heap.size + 2 := by rw [← hW2]; simp
  have hb2 : Below w.heap.size w W2 := by rw [← hW2]; exact (grown_al w _).trans ((grown_al _ _).mono (grown_al w _).size)
  have HBX := Lib.hid hbx
  have HSH := Lib.hid (shower_any W2 (.slice aS t.states.length ks) (.slice aV t.vars.length kv) n r (sv q.name) (.int .i64 q.args) (.slice aF q.from_.length kf) (.slice aG q.guards.length kg) (.slice aP q.steps.length kp))
  obtain ⟨W4, hW4⟩ : ∃ W, (W2.alloc (.cells #[.slice aS t.states.length ks, .slice aV t.vars.length kv, n, r] 26)).alloc (.cells #[sv q.name, .int .i64 q.args, .slice aF q.from_.length kf, .slice aG q.guards.length kg, .slice aP q.steps.length kp] 58) = W := ⟨_, rfl⟩
  have hbs : Bx W4 (w.heap.size + 2) (w.heap.size + 3) (.slice aS t.states.length ks) (.slice aV t.vars.length kv) n r (sv q.name) (.int .i64 q.args) (.slice aF q.from_.length kf) (.slice aG q.guards.length kg) (.slice aP q.steps.length kp) := by
    have := bx_new (s := .slice aS t.states.length ks) (x := .slice aV t.vars.length kv) (n := n) (r := r) (nm := sv q.name) (ar := .int .i64 q.args) (f := .slice aF q.from_.length kf) (g := .slice aG q.guards.length kg) (p := .slice aP q.steps.length kp) W2
    rw [hW4, hsz2] at this
    exact this
  have hb4 : Below W2.heap.size W2 W4 := by rw [← hW4]; exact (grown_al W2 _).trans ((grown_al _ _).mono (grown_al W2 _).size)
  have hx4 := hbx.below hb4
  have hz4 := hb2.trans (hb4.mono hb2.size)
  have HHD := Lib.hid (head_any W4 (.slice aS t.states.length ks) (.slice aV t.vars.length kv) n r (.slice aF q.from_.length kf) (.slice aG q.guards.length kg) (.slice aP q.steps.length kp) t.states q (hin.glob.below hz4) (Sl.below hin.st hz4) (Sl.below hin.fr hz4) hin.mayr.from_ hin.few.1 hin.small.1 (by have := hin.mayr.args; omega) hin.hjl)
  rw [hW4, hsz2] at HSH
  rw [show w.heap.size + 2 + 1 = w.heap.size + 3 from rfl] at HSH
  have HX4 := Lib.hid (And.intro hx4 (And.intro hbs hz4))
  obtain ⟨hd, hhd⟩ : ∃ hd, Lib.join (headWords t.states q) [32] = hd := ⟨_, rfl⟩
  rw [hhd] at HHD
  have HHW := Lib.hid hhd
  have b0 : W2.cell? ⟨w.heap.size, 0, none⟩ = some (.slice aS t.states.length ks) := by rw [cell_of_row _ _ _ _ _ _ hbx.tb]; rfl
  have hsz4 : W4.heap.size = w.heap.size + 4 := by rw [← hW4]; simp [hsz2]
  have HSZ := Lib.hid hsz4
  clear hin hbx hb2 hb4 hbs hx4 hz4 hW4 hsz2 hhd b0 hsz4
  unfold sv at HSH HHD hW2 ⊢
  go_enter Tryz.func22, Tryz.ntmps22
  go_upto_region 1 with fail
  clear hW2
  have t0 : W2.cell? ⟨w.heap.size, 0, none⟩ = some (.slice aS t.states.length ks) := by rw [cell_of_row _ _ _ _ _ _ HBX.out.tb]; rfl
  have t1 : W2.cell? ⟨w.heap.size, 1, none⟩ = some (.slice aV t.vars.length kv) := by rw [cell_of_row _ _ _ _ _ _ HBX.out.tb]; rfl
  have t2 : W2.cell? ⟨w.heap.size, 2, none⟩ = some n := by rw [cell_of_row _ _ _ _ _ _ HBX.out.tb]; rfl
  have t3 : W2.cell? ⟨w.heap.size, 3, none⟩ = some r := by rw [cell_of_row _ _ _ _ _ _ HBX.out.tb]; rfl
  have u0 : W2.cell? ⟨w.heap.size + 1, 0, none⟩ = some (.string (str q.name)) := by rw [cell_of_row _ _ _ _ _ _ HBX.out.rl]; rfl
  have u1 : W2.cell? ⟨w.heap.size + 1, 1, none⟩ = some (.int .i64 q.args) := by rw [cell_of_row _ _ _ _ _ _ HBX.out.rl]; rfl
  have u2 : W2.cell? ⟨w.heap.size + 1, 2, none⟩ = some (.slice aF q.from_.length kf) := by rw [cell_of_row _ _ _ _ _ _ HBX.out.rl]; rfl
  have u3 : W2.cell? ⟨w.heap.size + 1, 3, none⟩ = some (.slice aG q.guards.length kg) := by rw [cell_of_row _ _ _ _ _ _ HBX.out.rl]; rfl
  have u4 : W2.cell? ⟨w.heap.size + 1, 4, none⟩ = some (.slice aP q.steps.length kp) := by rw [cell_of_row _ _ _ _ _ _ HBX.out.rl]; rfl
  go_upto_region 2 with (go_at_call 51; refine HSH.out.mono ?_; rintro _ w3 ⟨rfl, rfl⟩)
  clear t0 t1 t2 t3 u0 u1 u2 u3 u4
  have t0 : w3.cell? ⟨w.heap.size, 0, none⟩ = some (.slice aS t.states.length ks) := by rw [cell_of_row _ _ _ _ _ _ HX4.out.1.tb]; rfl
  have t1 : w3.cell? ⟨w.heap.size, 1, none⟩ = some (.slice aV t.vars.length kv) := by rw [cell_of_row _ _ _ _ _ _ HX4.out.1.tb]; rfl
  have t2 : w3.cell? ⟨w.heap.size, 2, none⟩ = some n := by rw [cell_of_row _ _ _ _ _ _ HX4.out.1.tb]; rfl
  have t3 : w3.cell? ⟨w.heap.size, 3, none⟩ = some r := by rw [cell_of_row _ _ _ _ _ _ HX4.out.1.tb]; rfl
  have u0 : w3.cell? ⟨w.heap.size + 1, 0, none⟩ = some (.string (str q.name)) := by rw [cell_of_row _ _ _ _ _ _ HX4.out.1.rl]; rfl
  have u1 : w3.cell? ⟨w.heap.size + 1, 1, none⟩ = some (.int .i64 q.args) := by rw [cell_of_row _ _ _ _ _ _ HX4.out.1.rl]; rfl
  have u2 : w3.cell? ⟨w.heap.size + 1, 2, none⟩ = some (.slice aF q.from_.length kf) := by rw [cell_of_row _ _ _ _ _ _ HX4.out.1.rl]; rfl
  have u3 : w3.cell? ⟨w.heap.size + 1, 3, none⟩ = some (.slice aG q.guards.length kg) := by rw [cell_of_row _ _ _ _ _ _ HX4.out.1.rl]; rfl
  have u4 : w3.cell? ⟨w.heap.size + 1, 4, none⟩ = some (.slice aP q.steps.length kp) := by rw [cell_of_row _ _ _ _ _ _ HX4.out.1.rl]; rfl
  go_upto_region 3 with (go_at_call 52; refine HHD.out.mono ?_; rintro _ w5 ⟨rfl, hb5⟩; have HB5 := Lib.hid hb5; clear hb5)
  clear t0 t1 t2 t3 u0 u1 u2 u3 u4
  have hz5 : Below w.heap.size w w5 := HX4.out.2.2.trans (HB5.out.mono HX4.out.2.2.size)
  have hs5 : w.heap.size + 4 ≤ w5.heap.size := by have := HB5.out.size; have := HSZ.out; omega
  have hj : OrJ w (.slice aS t.states.length ks) (.slice aV t.vars.length kv) n r (sv q.name) (.int .i64 q.args) (.slice aF q.from_.length kf) (.slice aG q.guards.length kg) (.slice aP q.steps.length kp) [hd] (.slice (some ⟨w5.heap.size, 0, none⟩) 1 1) (w5.alloc (.cells #[sv hd] 9)) :=
    ⟨row_built w5 _ 1 [sv hd] _ hs5 rfl (by decide), hz5.trans ((grown_al w5 _).mono hz5.size), (HX4.out.1.below HB5.out).below (grown_al w5 _), (HX4.out.2.1.below HB5.out).below (grown_al w5 _)⟩
  obtain ⟨W6, hW6⟩ : ∃ W, w5.alloc (.cells #[sv hd] 9) = W := ⟨_, rfl⟩
  obtain ⟨v6, hv6⟩ : ∃ v, (Value.slice (some ⟨w5.heap.size, 0, none⟩) 1 1) = v := ⟨_, rfl⟩
  rw [hW6, hv6] at hj
  unfold sv at hW6
  rw [hW6, hv6]
  have HJ := Lib.hid hj
  have g3 : W6.cell? ⟨w.heap.size + 1, 3, none⟩ = some (.slice aG q.guards.length kg) := by rw [cell_of_row _ _ _ _ _ _ hj.bx.rl]; rfl
  clear hz5 hs5 hj hW6 hv6 HSH HHD HBX HX4
  obtain ⟨i0, hi, hz0, hz1, hz2⟩ := info_string
  have hent : I.Ent 95 := fun args w => enters_of Tryz.func95 (by kernel_rfl) rfl args w
  unfold I.Ent at hent
  go_wp2_with fail
  go_loopg [25, 6] (q.guards.length) (fun gg i v wr => ∃ k : Nat, i = .int .i64 (k : Int) ∧ k + gg = q.guards.length ∧ Hid (OrJ w (.slice aS t.states.length ks) (.slice aV t.vars.length kv) n r (sv q.name) (.int .i64 q.args) (.slice aF q.from_.length kf) (.slice aG q.guards.length kg) (.slice aP q.steps.length kp) (hd :: (q.guards.take k).map (lnGuard t q)) v wr))
  case atStart => exact ⟨0, rfl, by omega, HJ⟩
  case round =>
    obtain ⟨k, rfl, hkg, HJ6⟩ := hrel
    obtain ⟨a7, k7, hv7⟩ := own_shape5 HJ6.out.own
    subst hv7
    clear g3
    have hng := HIN.out.few.2.1
    have hwk : IntKind.i64.wrap ((k : Int) + 1) = (k : Int) + 1 := IntWalk.i64_in _ (by omega)
    by_cases hlt : k < q.guards.length
    · have hltI : (k : Int) < (q.guards.length : Int) := by omega
      have hk0 : 0 ≤ (k : Int) := by omega
      obtain ⟨gd, hgd⟩ : ∃ gd, q.guards[k]? = some gd := ⟨_, List.getElem?_eq_getElem hlt⟩
      obtain ⟨b, off, haG, cs, -, ⟨tv, hcs, htv⟩, hcells⟩ := HIN.out.gd.at hgd
      subst hcs
      have d0 := hcells 0 _ rfl
      have d1 := hcells 1 _ rfl
      have hmg := HIN.out.mayr.guards gd (List.mem_of_getElem? hgd)
      have HTV := Lib.hid htv
      obtain ⟨aT, kT, htve, -⟩ := htv
      subst htve
      have hc0 : wr.cell? ⟨b, off + k * 2, none⟩ = some (.int .i64 gd.code) := kept_cell HJ6.out.bel d0
      have hc1 := kept_cell HJ6.out.bel d1
      subst haG
      obtain ⟨E, hE⟩ : ∃ E, (I.showOf t.vars q.args gd.test).1 = E := ⟨_, rfl⟩
      obtain ⟨A, hA⟩ : ∃ A, num gd.code = A := ⟨_, rfl⟩
      have hln : lnGuard t q gd = [103, 117, 97, 114, 100, 32] ++ A ++ [32] ++ E := by
        rw [← hA, ← hE]
        simp [lnGuard, behind, wGuard, expr]
      have hel : E.length ≤ 2048 := by rw [← hE]; exact HIN.out.exl _ hmg.2
      have hal : A.length ≤ 20 := by
        rw [← hA]
        unfold num
        have := I.dig_length gd.code.natAbs (by omega)
        split
        · simp only [List.length_cons]; omega
        · omega
      obtain ⟨LN, hLN⟩ : ∃ LN, lnGuard t q gd = LN := ⟨_, rfl⟩
      rw [hLN] at hln
      obtain ⟨U1, hU1⟩ : ∃ U, ([103, 117, 97, 114, 100, 32] : Bs) ++ A = U := ⟨_, rfl⟩
      obtain ⟨U2, hU2⟩ : ∃ U, U1 ++ [32] = U := ⟨_, rfl⟩
      have hl1 : U1.length ≤ 26 := by rw [← hU1]; simp; omega
      have hl2 : U2.length ≤ 27 := by rw [← hU2]; simp; omega
      have hU3 : U2 ++ E = LN := by rw [hln, ← hU2, ← hU1]
      have e1 : ∀ W, (Op.stringOp .add (ByteArray.mk #[103, 117, 97, 114, 100, 32]) (str A)).run Tryz.prog W = .ok (.string (str U1)) W := fun W => by rw [run_string_add_sum W _ _ (by rw [str_size]; show 6 + _ ≤ _; omega), ← hU1, ← str_append]; rfl
      have e2 : ∀ W, (Op.stringOp .add (str U1) (ByteArray.mk #[32])).run Tryz.prog W = .ok (.string (str U2)) W := fun W => by rw [run_string_add_sum W _ _ (by rw [str_size]; show _ + 1 ≤ _; omega), ← hU2, ← str_append]; rfl
      have e3 : ∀ W, (Op.stringOp .add (str U2) (str E)).run Tryz.prog W = .ok (.string (str LN)) W := fun W => by rw [run_string_add_sum W _ _ (by rw [str_size, str_size]; omega), ← hU3, ← str_append]
      have HTK := Lib.hid (show hd :: (q.guards.take (k + 1)).map (lnGuard t q) = (hd :: (q.guards.take k).map (lnGuard t q)) ++ [LN] by rw [List.take_add_one, hgd]; simp [hLN])
      obtain ⟨rows, hrows⟩ : ∃ rows, hd :: (q.guards.take k).map (lnGuard t q) = rows := ⟨_, rfl⟩
      have hrl : rows.length ≤ 1000004 := by rw [← hrows]; simp only [List.length_cons, List.length_map, List.length_take]; omega
      rw [hrows] at HJ6 HTK ⊢
      have HR1 := Lib.hid (show rows.length + 1 ≤ maxLen by unfold maxLen; omega)
      have HR2 := Lib.hid (show (rows.length + 1) * 16 ≤ 140737488355328 by omega)
      have hcd := hmg.1
      obtain ⟨cd, hcde⟩ : ∃ c, gd.code = c := ⟨_, rfl⟩
      rw [hcde] at hc0 hcd hA
      obtain ⟨lt_, hlte⟩ : ∃ l, gd.test.length = l := ⟨_, rfl⟩
      have hlt2 := HIN.out.cl _ hmg.2
      have HTV2 : Hid (SlI w (.slice aT lt_ kT) gd.test) := Lib.hid (by have := HTV.out; rw [hlte] at this; exact this)
      rw [hlte] at hc1
      have hG7 : Below wr.heap.size wr (wr.alloc (.cells #[.int .i64 cd, .slice aT lt_ kT] 76)) := grown_al wr _
      have gc0 : (wr.alloc (.cells #[.int .i64 cd, .slice aT lt_ kT] 76)).cell? ⟨wr.heap.size, 0, none⟩ = some (.int .i64 cd) := by rw [cell_of_row _ _ _ _ _ _ (heap_alloc_at wr _)]; rfl
      have gc1 : (wr.alloc (.cells #[.int .i64 cd, .slice aT lt_ kT] 76)).cell? ⟨wr.heap.size, 1, none⟩ = some (.slice aT lt_ kT) := by rw [cell_of_row _ _ _ _ _ _ (heap_alloc_at wr _)]; rfl
      clear hgd hcells d0 d1 hLN hrows hrl hln hel hal hU1 hU2 hU3 hl1 hl2
      go_upto_region 6 with fail
      obtain ⟨W7, hW7⟩ : ∃ W, wr.alloc (.cells #[.int .i64 cd, .slice aT lt_ kT] 76) = W := ⟨_, rfl⟩
      rw [hW7] at hG7 gc0 gc1 ⊢
      have HJ7 := Lib.hid (HJ6.out.grow hG7)
      have HI := Lib.hid (fun W (hb : Below W7.heap.size W7 W) => I.itoa_any cd (by omega) (by omega) W ((HIN.out.glob.below HJ7.out.bel).below hb))
      have HS := Lib.hid (fun W (hb : Below W7.heap.size W7 W) => shower1_any (HJ7.out.bs.below hb) t.vars (Sl.below HIN.out.va (HJ7.out.bel.trans (hb.mono HJ7.out.bel.size))) ((HIN.out.glob.below HJ7.out.bel).below hb) (by have := HIN.out.small.2; omega) (by have := HIN.out.mayr.args; omega) (fun y hy => by have := HIN.out.vn y hy; omega) (.slice aT lt_ kT) gd.test (SlI.below HTV2.out (HJ7.out.bel.trans (hb.mono HJ7.out.bel.size))) hlt2)
      rw [itoa_num, hA] at HI
      rw [hE] at HS
      unfold sv at HI HS
      clear hW7 hG7 hc0 hc1 hcd hA hE hcde hlte hlt2 hmg HTV HTV2
      go_region_law (first | (refine step_append_all rfl _ _ 22 rfl (w.heap.size + 4) 9 i0 (.string ⟨#[]⟩) 1 16 Tryz.underlying22 hi hz0 hz1 hz2 rfl (by decide) (.slice a7 rows.length k7) rows.length (rows.map sv) rfl (World.ownsRow.alloc (own_kept HJ7.out.own HBS.out) _) (some ⟨ws.heap.size, 0, none⟩) 1 1 [.string (str LN)] rfl rfl (fun h => by cases h) (new_one _ _ _) (one_str _) HR1.out HR2.out (by have := HJ7.out.size; have := HBS.out.size; simp; omega) ?_; intro v' w9 hown9 hgrow9 hblk9; have HA := Lib.hid (App.of (D := w.heap.size + 3) (HBS.out.trans ((grown_al ws _).mono HBS.out.size)) hown9 hgrow9 hblk9); obtain ⟨a9, cap9, hv9⟩ := own_shape5 hown9; subst hv9; clear hown9 hgrow9 hblk9) | (refine step_append_all rfl _ _ 22 rfl (w.heap.size + 4) 9 i0 (.string ⟨#[]⟩) 1 16 Tryz.underlying22 hi hz0 hz1 hz2 rfl (by decide) (.slice a7 rows.length k7) rows.length (rows.map sv) rfl (World.ownsRow.alloc (own_kept HJ7.out.own HBI.out) _) (some ⟨wi.heap.size, 0, none⟩) 1 1 [.string (str LN)] rfl rfl (fun h => by cases h) (new_one _ _ _) (one_str _) HR1.out HR2.out (by have := HJ7.out.size; have := HBI.out.size; simp; omega) ?_; intro v' w9 hown9 hgrow9 hblk9; have HA := Lib.hid (App.of (D := w.heap.size + 3) (HBI.out.trans ((grown_al wi _).mono HBI.out.size)) hown9 hgrow9 hblk9); obtain ⟨a9, cap9, hv9⟩ := own_shape5 hown9; subst hv9; clear hown9 hgrow9 hblk9) | (go_simp; go_at_call 50; refine (HI.out _ (by first | exact HBS.out | exact (Below.refl W7.heap.size W7).drew | exact Below.refl _ _)).mono ?_; rintro _ wi ⟨rfl, hbi⟩; have HBI := Lib.hid (show Below W7.heap.size W7 wi from (by first | exact HBS.out.trans (hbi.mono HBS.out.size) | exact ((Below.refl W7.heap.size W7).drew).trans hbi | exact hbi)); have gi0 := kept_cell HBI.out gc0; have gi1 := kept_cell HBI.out gc1; clear hbi) | (go_simp; go_at_call 95; refine (HS.out _ (by first | exact HBI.out | exact (Below.refl W7.heap.size W7).drew | exact Below.refl _ _)).mono ?_; rintro _ ws ⟨rfl, hbs⟩; have HBS := Lib.hid (show Below W7.heap.size W7 ws from (by first | exact HBI.out.trans (hbs.mono HBI.out.size) | exact ((Below.refl W7.heap.size W7).drew).trans hbs | exact hbs)); have gs0 := kept_cell HBS.out gc0; have gs1 := kept_cell HBS.out gc1; clear hbs))
      all_goals
        have HJ9 := Lib.hid (HJ7.out.push LN HA.out)
        clear gc0 gc1 gi0 gi1 gs0 gs1 e1 e2 e3
        go_wp2_with fail
        go_roundg (q.guards.length - (k + 1))
        case measure => omega
        case rel => exact ⟨k + 1, by go_num, by omega, by rw [HTK.out]; exact HJ9⟩
    · have hltI : ¬ (k : Int) < (q.guards.length : Int) := by omega
      have hk : k = q.guards.length := by omega
      have hfin : hd :: (q.guards.take k).map (lnGuard t q) = hd :: q.guards.map (lnGuard t q) := by rw [hk, List.take_length]
      rw [hfin] at HJ6
      rw [hfin]
      have g4 : wr.cell? ⟨w.heap.size + 1, 4, none⟩ = some (.slice aP q.steps.length kp) := by rw [cell_of_row _ _ _ _ _ _ HJ6.out.bx.rl]; rfl
      clear hfin hk hkg
      obtain ⟨rG, hrG⟩ : ∃ rG, hd :: q.guards.map (lnGuard t q) = rG := ⟨_, rfl⟩
      have hrGl : rG.length ≤ 1000001 := by rw [← hrG]; simp; omega
      rw [hrG] at HJ6
      rw [hrG]
      have HRG := Lib.hid hrG
      have HRGL := Lib.hid hrGl
      clear hrG hrGl
      go_wp2_with fail
      go_loopg [46, 6] (q.steps.length) (fun gg i v wr => ∃ k : Nat, i = .int .i64 (k : Int) ∧ k + gg = q.steps.length ∧ Hid (OrJ w (.slice aS t.states.length ks) (.slice aV t.vars.length kv) n r (sv q.name) (.int .i64 q.args) (.slice aF q.from_.length kf) (.slice aG q.guards.length kg) (.slice aP q.steps.length kp) (rG ++ (q.steps.take k).map (lnStep t q)) v wr))
      case atStart => exact ⟨0, rfl, by omega, Lib.hid (by simpa using HJ6.out)⟩
      case round =>
        obtain ⟨k2, rfl, hkg2, HJ8⟩ := hrel
        obtain ⟨a8, k8, hv8⟩ := own_shape5 HJ8.out.own
        subst hv8
        clear g4 hltI hlt hwk hng HJ6 HJ
        have hns := HIN.out.few.2.2.1
        have hwk2 : IntKind.i64.wrap ((k2 : Int) + 1) = (k2 : Int) + 1 := IntWalk.i64_in _ (by omega)
        by_cases hlt2 : k2 < q.steps.length
        · have hltI2 : (k2 : Int) < (q.steps.length : Int) := by omega
          have hk02 : 0 ≤ (k2 : Int) := by omega
          obtain ⟨sp, hsp⟩ : ∃ sp, q.steps[k2]? = some sp := ⟨_, List.getElem?_eq_getElem hlt2⟩
          obtain ⟨b, off, haP, cs, -, ⟨sS, hcs, hsS⟩, hcells⟩ := HIN.out.sp.at hsp
          subst hcs
          have d0 := hcells 0 _ rfl
          have d1 := hcells 1 _ rfl
          have hms := HIN.out.mayr.steps sp (List.mem_of_getElem? hsp)
          have HMS := Lib.hid hms
          have HSS := Lib.hid hsS
          have HMEM := Lib.hid (List.mem_of_getElem? hsp)
          have HSP := Lib.hid (show sp.sets.length ≤ 1000000 from HIN.out.few.2.2.2 sp (List.mem_of_getElem? hsp))
          obtain ⟨aQ, kQ, hse2, -⟩ := hsS
          subst hse2
          have hc0 := kept_cell HJ8.out.bel d0
          have hc1 := kept_cell HJ8.out.bel d1
          subst haP
          obtain ⟨TT, hTT⟩ : ∃ TT, toText t sp = TT := ⟨_, rfl⟩
          have HTT := Lib.hid hTT
          have hl0 : wr.cell? ⟨b, off + k2 * 2, none⟩ = some (.slice aQ sp.sets.length kQ) := hc0
          clear hcells d0 d1 hTT hc0 hms
          have hbxs : wr.cell? ⟨w.heap.size, 0, none⟩ = some (.slice aS t.states.length ks) := by rw [cell_of_row _ _ _ _ _ _ HJ8.out.bx.tb]; rfl
          have HTK2 := Lib.hid (show rG ++ (q.steps.take (k2 + 1)).map (lnStep t q) = (rG ++ (q.steps.take k2).map (lnStep t q)) ++ [lnStep t q sp] by rw [List.take_add_one, hsp]; simp)
          obtain ⟨rows, hrows⟩ : ∃ rows, rG ++ (q.steps.take k2).map (lnStep t q) = rows := ⟨_, rfl⟩
          have hrl : rows.length ≤ 2000004 := by rw [← hrows]; have := HRGL.out; simp only [List.length_append, List.length_map, List.length_take]; omega
          have HRL := Lib.hid hrl
          rw [hrows] at HJ8 HTK2
          rw [hrows]
          clear hrows hrl hsp
          obtain ⟨S, hS⟩ : ∃ S, wr.heap.size = S := ⟨_, rfl⟩
          go_upto_if 52 with fail
          have sc0 : (wr.alloc (.cells #[.slice aQ sp.sets.length kQ, .int .i64 sp.to] 80)).cell? ⟨wr.heap.size, 0, none⟩ = some (.slice aQ sp.sets.length kQ) := by rw [cell_of_row _ _ _ _ _ _ (heap_alloc_at wr _)]; rfl
          have sc1 : (wr.alloc (.cells #[.slice aQ sp.sets.length kQ, .int .i64 sp.to] 80)).cell? ⟨wr.heap.size, 1, none⟩ = some (.int .i64 sp.to) := by rw [cell_of_row _ _ _ _ _ _ (heap_alloc_at wr _)]; rfl
          have hg9 : Below wr.heap.size wr (wr.alloc (.cells #[.slice aQ sp.sets.length kQ, .int .i64 sp.to] 80)) := grown_al wr _
          have hs9 : (wr.alloc (.cells #[.slice aQ sp.sets.length kQ, .int .i64 sp.to] 80)).heap.size = wr.heap.size + 1 := by simp
          obtain ⟨W9, hW9⟩ : ∃ W, wr.alloc (.cells #[.slice aQ sp.sets.length kQ, .int .i64 sp.to] 80) = W := ⟨_, rfl⟩
          rw [hW9] at sc0 sc1 hg9 hs9 ⊢
          rw [hS] at sc0 sc1 hs9
          have HWS := Lib.hid hS
          have HJ9 := Lib.hid (HJ8.out.grow hg9)
          have HS9 := Lib.hid hs9
          have bt9 := kept_cell hg9 hbxs
          clear hW9 hg9 hs9 hl0 hc1 hbxs hS
          go_cut [11] from 50 to 58 (fun s11 wx => s11 = .string (str TT) ∧ W9 = wx)
          case first =>
            by_cases hto : 0 ≤ sp.to
            · obtain ⟨ti, hti⟩ := Int.eq_ofNat_of_zero_le hto
              have htn : ti < t.states.length := by have := HMS.out.1; omega
              have htnI : sp.to < (t.states.length : Int) := by omega
              obtain ⟨z, hz⟩ : ∃ z, t.states[ti]? = some z := ⟨_, List.getElem?_eq_getElem htn⟩
              obtain ⟨b2, off2, haS, hcell2⟩ := HIN.out.st.at (u := sv z) (j := ti) (by rw [List.getElem?_map, hz]; rfl)
              have hT : TT = z := by
                rw [← HTT.out]
                unfold toText at_
                rw [if_neg (by omega), hti, Int.toNat_natCast, List.getD_eq_getElem?_getD, hz]; rfl
              subst hT
              have hc2 : W9.cell? ⟨b2, off2 + sp.to.toNat, none⟩ = some (.string (str TT)) := by rw [hti, Int.toNat_natCast]; exact kept_cell HJ9.out.bel hcell2
              subst haS
              clear hcell2 hz hti htn
              go_wp2_with fail
              go_meet
              exact ⟨rfl, rfl⟩
            · have hT : TT = [45] := by rw [← HTT.out]; unfold toText; rw [if_pos (by omega)]
              subst hT
              go_wp2_with fail
              go_meet
              exact ⟨rfl, rfl⟩
          case rest =>
            obtain ⟨rfl, rfl⟩ := hcut
            clear bt9 sc1
            go_wp2_with fail
            go_loopg [62, 12] (sp.sets.length) (fun gg i v wr2 => ∃ m : Nat, i = .int .i64 (m : Int) ∧ m + gg = sp.sets.length ∧ Hid (SetAt W9 wr2 (S + 1) v m ((sp.sets.take m).map fun s => sv (setText t q s))))
            case atStart => exact ⟨0, rfl, by omega, Lib.hid ⟨Below.refl _ _, World.ownsRow_nil _ _ _ _⟩⟩
            case round =>
              obtain ⟨m, rfl, hmg, HJ3⟩ := hrel
              obtain ⟨a9, k9, hv9⟩ := own_shape5 HJ3.out.2
              subst hv9
              have hwm : IntKind.i64.wrap ((m : Int) + 1) = (m : Int) + 1 := IntWalk.i64_in _ (by have := HSP.out; omega)
              by_cases hlt3 : m < sp.sets.length
              · have hltI3 : (m : Int) < (sp.sets.length : Int) := by omega
                have hk03 : 0 ≤ (m : Int) := by omega
                obtain ⟨se, hse⟩ : ∃ se, sp.sets[m]? = some se := ⟨_, List.getElem?_eq_getElem hlt3⟩
                obtain ⟨b3, off3, haQ, cs3, -, ⟨tv, hcs3, htv⟩, hcells3⟩ := HSS.out.at hse
                subst hcs3
                have d0 := hcells3 0 _ rfl
                have d1 := hcells3 1 _ rfl
                have hme := HMS.out.2 se (List.mem_of_getElem? hse)
                have HTV := Lib.hid htv
                obtain ⟨aT, kT, htve, -⟩ := htv
                subst htve
                have hz3 : Below w.heap.size w wr := HJ9.out.bel.trans (HJ3.out.1.mono HJ9.out.bel.size)
                have hc0 : wr.cell? ⟨b3, off3 + m * 2, none⟩ = some (.int .i64 se.var) := kept_cell hz3 d0
                have hc1 := kept_cell hz3 d1
                subst haQ
                obtain ⟨vi, hvi⟩ := Int.eq_ofNat_of_zero_le hme.1.1
                have hvn : vi < t.vars.length := by have := hme.1.2; omega
                have hvnI : (vi : Int) < (t.vars.length : Int) := by omega
                have hv0 : 0 ≤ (vi : Int) := by omega
                obtain ⟨z, hz⟩ : ∃ z, t.vars[vi]? = some z := ⟨_, List.getElem?_eq_getElem hvn⟩
                obtain ⟨b4, off4, haV, hcell4⟩ := HIN.out.va.at (u := sv z) (j := vi) (by rw [List.getElem?_map, hz]; rfl)
                have hzl := HIN.out.vn z (List.mem_of_getElem? hz)
                have hatv : at_ t.vars se.var = z := by
                  unfold at_
                  rw [hvi, Int.toNat_natCast, List.getD_eq_getElem?_getD, hz]; rfl
                have vc := kept_cell hz3 hcell4
                have vt : wr.cell? ⟨w.heap.size, 1, none⟩ = some (.slice aV t.vars.length kv) := kept_cell HJ3.out.1 (by rw [cell_of_row _ _ _ _ _ _ HJ9.out.bx.tb]; rfl)
                subst haV
                have vcc : wr.cell? ⟨b4, off4 + se.var.toNat, none⟩ = some (.string (str z)) := by rw [hvi, Int.toNat_natCast]; exact vc
                have hv1 := hme.1.1
                have hv2 := hme.1.2
                obtain ⟨E, hE⟩ : ∃ E, (I.showOf t.vars q.args se.value).1 = E := ⟨_, rfl⟩
                have hel : E.length ≤ 2048 := by rw [← hE]; exact HIN.out.exl _ hme.2
                obtain ⟨V1, hV1⟩ : ∃ U, ([32] : Bs) ++ z = U := ⟨_, rfl⟩
                obtain ⟨V2, hV2⟩ : ∃ U, V1 ++ [32] = U := ⟨_, rfl⟩
                obtain ⟨V3, hV3⟩ : ∃ U, V2 ++ [58, 61] = U := ⟨_, rfl⟩
                obtain ⟨V4, hV4⟩ : ∃ U, V3 ++ [32] = U := ⟨_, rfl⟩
                have l1 : V1.length ≤ 1000001 := by rw [← hV1]; simp; omega
                have l2 : V2.length ≤ 1000002 := by rw [← hV2]; simp; omega
                have l3 : V3.length ≤ 1000004 := by rw [← hV3]; simp; omega
                have l4 : V4.length ≤ 1000005 := by rw [← hV4]; simp; omega
                obtain ⟨LN, hLN⟩ : ∃ LN, setText t q se = LN := ⟨_, rfl⟩
                have hV5 : V4 ++ E = LN := by
                  rw [← hLN, ← hV4, ← hV3, ← hV2, ← hV1, ← hE]
                  unfold setText
                  rw [hatv]
                  simp [behind, wSet, expr]
                have e1 : ∀ W, (Op.stringOp .add (ByteArray.mk #[32]) (str z)).run Tryz.prog W = .ok (.string (str V1)) W := fun W => by rw [run_string_add_sum W _ _ (by rw [str_size]; show 1 + _ ≤ _; omega), ← hV1, ← str_append]; rfl
                have e2 : ∀ W, (Op.stringOp .add (str V1) (ByteArray.mk #[32])).run Tryz.prog W = .ok (.string (str V2)) W := fun W => by rw [run_string_add_sum W _ _ (by rw [str_size]; show _ + 1 ≤ _; omega), ← hV2, ← str_append]; rfl
                have e3 : ∀ W, (Op.stringOp .add (str V2) (ByteArray.mk #[58, 61])).run Tryz.prog W = .ok (.string (str V3)) W := fun W => by rw [run_string_add_sum W _ _ (by rw [str_size]; show _ + 2 ≤ _; omega), ← hV3, ← str_append]; rfl
                have e4 : ∀ W, (Op.stringOp .add (str V3) (ByteArray.mk #[32])).run Tryz.prog W = .ok (.string (str V4)) W := fun W => by rw [run_string_add_sum W _ _ (by rw [str_size]; show _ + 1 ≤ _; omega), ← hV4, ← str_append]; rfl
                have e5 : ∀ W, (Op.stringOp .add (str V4) (str E)).run Tryz.prog W = .ok (.string (str LN)) W := fun W => by rw [run_string_add_sum W _ _ (by rw [str_size, str_size]; omega), ← hV5, ← str_append]
                have HTK3 := Lib.hid (show ((sp.sets.take (m + 1)).map fun s => sv (setText t q s)) = ((sp.sets.take m).map fun s => sv (setText t q s)) ++ [sv LN] by rw [List.take_add_one, hse]; simp [hLN])
                have HR1 := Lib.hid (show m + 1 ≤ maxLen by have := HSP.out; unfold maxLen; omega)
                have HR2 := Lib.hid (show (m + 1) * 16 ≤ 140737488355328 by have := HSP.out; omega)
                obtain ⟨lt_, hlte⟩ : ∃ l, se.value.length = l := ⟨_, rfl⟩
                have hlt4 := HIN.out.cl _ hme.2
                have HTV2 : Hid (SlI w (.slice aT lt_ kT) se.value) := Lib.hid (by have := HTV.out; rw [hlte] at this; exact this)
                rw [hlte] at hc1
                have hG7 : Below wr.heap.size wr (wr.alloc (.cells #[.int .i64 se.var, .slice aT lt_ kT] 86)) := grown_al wr _
                have gc0 : (wr.alloc (.cells #[.int .i64 se.var, .slice aT lt_ kT] 86)).cell? ⟨wr.heap.size, 0, none⟩ = some (.int .i64 se.var) := by rw [cell_of_row _ _ _ _ _ _ (heap_alloc_at wr _)]; rfl
                have gc1 : (wr.alloc (.cells #[.int .i64 se.var, .slice aT lt_ kT] 86)).cell? ⟨wr.heap.size, 1, none⟩ = some (.slice aT lt_ kT) := by rw [cell_of_row _ _ _ _ _ _ (heap_alloc_at wr _)]; rfl
                have vt7 := kept_cell hG7 vt
                have vc7 := kept_cell hG7 vcc
                clear hse hcells3 d0 d1 hz hcell4 hzl hatv vc vcc vt hel hV1 hV2 hV3 hV4 hV5 l1 l2 l3 l4 hLN hvi hvn hvnI hv0
                go_upto_region 18 with fail
                obtain ⟨W7, hW7⟩ : ∃ W, wr.alloc (.cells #[.int .i64 se.var, .slice aT lt_ kT] 86) = W := ⟨_, rfl⟩
                rw [hW7] at hG7 gc0 gc1 vt7 vc7 ⊢
                have HB7 := Lib.hid (HJ3.out.1.trans (hG7.mono HJ3.out.1.size))
                have HO7 := Lib.hid (own_kept HJ3.out.2 hG7)
                have HZ7 := Lib.hid (HJ9.out.bel.trans (HB7.out.mono HJ9.out.bel.size))
                have HS := Lib.hid (fun W (hb : Below W7.heap.size W7 W) => shower1_any ((HJ9.out.bs.below HB7.out).below hb) t.vars (Sl.below HIN.out.va (HZ7.out.trans (hb.mono HZ7.out.size))) ((HIN.out.glob.below HZ7.out).below hb) (by have := HIN.out.small.2; omega) (by have := HIN.out.mayr.args; omega) (fun y hy => by have := HIN.out.vn y hy; omega) (.slice aT lt_ kT) se.value (SlI.below HTV2.out (HZ7.out.trans (hb.mono HZ7.out.size))) hlt4)
                rw [hE] at HS
                unfold sv at HS
                clear hW7 hG7 hc0 hc1 hE hlte hlt4 hme HTV HTV2
                go_region_law (first | (refine step_append_all rfl _ _ 22 rfl (S + 1) 9 i0 (.string ⟨#[]⟩) 1 16 Tryz.underlying22 hi hz0 hz1 hz2 rfl (by decide) (.slice a9 m k9) m ((sp.sets.take m).map fun s => sv (setText t q s)) rfl (World.ownsRow.alloc (own_kept HO7.out HBS.out) _) (some ⟨ws.heap.size, 0, none⟩) 1 1 [.string (str LN)] rfl rfl (fun h => by cases h) (new_one _ _ _) (one_str _) HR1.out HR2.out (by have := HB7.out.size; have := HS9.out; have := HBS.out.size; simp; omega) ?_; intro v' w9 hown9 hgrow9 hblk9; have HA := Lib.hid (App.of (D := S) (HBS.out.trans ((grown_al ws _).mono HBS.out.size)) hown9 hgrow9 hblk9); obtain ⟨a10, cap9, hv9⟩ := own_shape5 hown9; subst hv9; clear hown9 hgrow9 hblk9) | (go_simp; go_at_call 95; refine (HS.out _ (by first | exact (Below.refl W7.heap.size W7).drew | exact Below.refl _ _)).mono ?_; rintro _ ws ⟨rfl, hbs⟩; have HBS := Lib.hid (show Below W7.heap.size W7 ws from (by first | exact ((Below.refl W7.heap.size W7).drew).trans hbs | exact hbs)); have gs0 := kept_cell HBS.out gc0; have gs1 := kept_cell HBS.out gc1; have vt2 := kept_cell HBS.out vt7; have vc2 := kept_cell HBS.out vc7; clear hbs))
                all_goals
                  have hA := HA.out
                  have HJ10 : Hid (SetAt W9 _ (S + 1) _ (m + 1) ((sp.sets.take (m + 1)).map fun s => sv (setText t q s))) := Lib.hid ⟨HB7.out.trans (hA.chg.below (B := W9.heap.size) (fun k hk => by have := (own_block_lt HO7.out hk).1; have := HS9.out; omega) HB7.out.size), by rw [HTK3.out]; exact hA.own⟩
                  clear hA gc0 gc1 e1 e2 e3 e4 e5
                  go_wp2_with fail
                  go_roundg (sp.sets.length - (m + 1))
                  case measure => omega
                  case rel => exact ⟨m + 1, by go_num, by omega, HJ10⟩
              · have hltI3 : ¬ (m : Int) < (sp.sets.length : Int) := by omega
                obtain rfl : m = sp.sets.length := by omega
                have hO := HJ3.out.2
                rw [List.take_length] at hO
                obtain ⟨XS, hXS⟩ : ∃ XS, sp.sets.map (setText t q) = XS := ⟨_, rfl⟩
                have hmap : (sp.sets.map fun s => sv (setText t q s)) = XS.map sv := by rw [← hXS, List.map_map]; rfl
                rw [hmap] at hO
                have hXl : XS.length = sp.sets.length := by rw [← hXS, List.length_map]
                have hcap9 : XS.length ≤ k9 := by
                  rcases hO.2 with ⟨e, h0⟩ | ⟨_, _, _, e, _, _, h1, _⟩
                  · injection e with _ _ e; omega
                  · injection e with _ _ e; omega
                have hjl : (Lib.join XS [59]).length ≤ 1000000000 := by rw [← hXS]; exact HIN.out.jn sp HMEM.out
                have hjc := fun W (hb : Below wr.heap.size wr W) => join_any a9 k9 XS [59] W (Sl.below (by rw [hXl]; exact Sl.owns hO) hb) hcap9 (by have := HSP.out; omega) (by omega)
                obtain ⟨J, hJ⟩ : ∃ J, Lib.join XS [59] = J := ⟨_, rfl⟩
                rw [hJ] at hjl hjc
                rw [hXl] at hjc
                obtain ⟨U1, hU1⟩ : ∃ U, ([115, 116, 101, 112, 32] : Bs) ++ TT = U := ⟨_, rfl⟩
                have htl : TT.length ≤ 1000000 := by
                  rw [← HTT.out]
                  unfold toText at_
                  split
                  · simp
                  · rename_i hto
                    rw [List.getD_eq_getElem?_getD]
                    cases hg : t.states[sp.to.toNat]? with
                    | none => simp
                    | some y => exact HIN.out.sn y (List.mem_of_getElem? hg)
                have hl1 : U1.length ≤ 1000005 := by rw [← hU1]; simp; omega
                have hLN : U1 ++ J = lnStep t q sp := by
                  rw [← hU1, ← hJ, ← hXS, ← HTT.out]
                  simp [lnStep, behind, wStep]
                obtain ⟨LN, hLNe⟩ : ∃ LN, lnStep t q sp = LN := ⟨_, rfl⟩
                rw [hLNe] at hLN HTK2
                have e1 : ∀ W, (Op.stringOp .add (ByteArray.mk #[115, 116, 101, 112, 32]) (str TT)).run Tryz.prog W = .ok (.string (str U1)) W := fun W => by rw [run_string_add_sum W _ _ (by rw [str_size]; show 5 + _ ≤ _; omega), ← hU1, ← str_append]; rfl
                have e2 : ∀ W, (Op.stringOp .add (str U1) (str J)).run Tryz.prog W = .ok (.string (str LN)) W := fun W => by rw [run_string_add_sum W _ _ (by rw [str_size, str_size]; omega), ← hLN, ← str_append]
                have HJC := Lib.hid hjc
                have HJ11 := Lib.hid (HJ9.out.grow HJ3.out.1)
                have HR1 := Lib.hid (show rows.length + 1 ≤ maxLen by have := HRL.out; unfold maxLen; omega)
                have HR2 := Lib.hid (show (rows.length + 1) * 16 ≤ 140737488355328 by have := HRL.out; omega)
                clear hjc hO hmap hXl hcap9 hJ hXS hU1 hLN hLNe hjl hl1 htl
                unfold sv at HJC
                go_wp2_with (first
                  | (go_at_call 23; refine (HJC.out _ (Below.refl _ _)).mono ?_; rintro _ w12 ⟨rfl, hb12⟩; have HJ12 := Lib.hid (HJ11.out.grow hb12); clear hb12)
                  | (at_builtin; refine wpList_append_own _ rfl _ _ 22 rfl (w.heap.size + 4) 9 i0 (.string ⟨#[]⟩) 1 16 Tryz.underlying22 hi hz0 hz1 hz2 rfl (by decide) _ _ _ rfl (HJ12.out.own.alloc _) ⟨w12.heap.size, 0, none⟩ 1 1 [.string (str LN)] rfl rfl (one_new _ _ _) (one_str _) HR1.out HR2.out (by have := HJ12.out.bel.size; have := HJ12.out.size; simp; omega) ?_; intro v' w13 hown' hgrow hnn; clear hnn; have HO13 := Lib.hid hown'; have HG13 := Lib.hid hgrow; clear hown' hgrow))
                have HJ14 := Lib.hid ((HJ12.out.grow (grown_al w12 _)).push2 LN HO13.out HG13.out)
                clear e1 e2
                go_wp2_with fail
                go_roundg (q.steps.length - (k2 + 1))
                case measure => omega
                case rel => exact ⟨k2 + 1, by go_num, by omega, by rw [HTK2.out]; exact HJ14⟩
        · have hltI2 : ¬ (k2 : Int) < (q.steps.length : Int) := by omega
          obtain rfl : k2 = q.steps.length := by omega
          have hfin2 : rG ++ (q.steps.take q.steps.length).map (lnStep t q) = rlLines t q := by
            rw [List.take_length, ← HRG.out, ← HHW.out]
            unfold rlLines headWords lnRule
            rw [join_behind]
            rfl
          rw [hfin2] at HJ8
          rw [hfin2]
          clear hfin2
          go_wp2_with fail
          go_ret
          refine ⟨_, rfl, ?_, HJ8.out.bel⟩
          obtain ⟨ho1, ho2⟩ := HJ8.out.own
          refine ⟨ho1, ?_⟩
          rcases ho2 with h | ⟨g, cap, cur, e, hg, rest⟩
          · exact Or.inl h
          · exact Or.inr ⟨g, cap, cur, e, by omega, rest⟩
end Go.Proofs.YtfooiggedgcjcaaGreatDoor.T
