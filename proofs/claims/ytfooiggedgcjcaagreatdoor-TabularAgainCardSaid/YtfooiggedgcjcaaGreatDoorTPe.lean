/-
  Layer 6: the line of the states.
-/
import Derived.Test.YtfooiggedgcjcaaGreatDoorTPd
namespace Go.Proofs.YtfooiggedgcjcaaGreatDoor.T
open Go Go.RowKit Go.Proofs.YtfooiggedgcjcaaGreatDoor.B Go.Proofs.YtfooiggedgcjcaaGreatDoor.K Go.Proofs.YtfooiggedgcjcaaGreatDoor.E Go.Proofs.YtfooiggedgcjcaaGreatDoor.R
set_option linter.unusedVariables false

theorem info_string : ∃ i, Tryz.prog.info? 9 = some i ∧ i.zero = some (.string ⟨#[]⟩) ∧ i.size = 1 ∧ i.bytes = 16 := by
  have h : (Tryz.prog.info? 9).map (fun i => (i.zero, i.size, i.bytes)) = some (some (.string ⟨#[]⟩), 1, 16) := by kernel_rfl
  obtain ⟨i, h1, h2⟩ := Option.map_eq_some_iff.1 h
  simp only [Prod.mk.injEq] at h2
  exact ⟨i, h1, h2.1, h2.2.1, h2.2.2⟩
theorem info_int : ∃ i, Tryz.prog.info? 3 = some i ∧ i.zero = some (.int .i64 0) ∧ i.size = 1 ∧ i.bytes = 8 := by
  have h : (Tryz.prog.info? 3).map (fun i => (i.zero, i.size, i.bytes)) = some (some (.int .i64 0), 1, 8) := by kernel_rfl
  obtain ⟨i, h1, h2⟩ := Option.map_eq_some_iff.1 h
  simp only [Prod.mk.injEq] at h2
  exact ⟨i, h1, h2.1, h2.2.1, h2.2.2⟩

/-- A text just made as a row of one. -/
theorem new_one (w : World) (v : Value) (e : TypeId) (ad : Addr) (h : some (⟨w.heap.size, 0, none⟩ : Addr) = some ad) (j : Nat) (u : Value) (hj : [v][j]? = some u) : (w.alloc (.cells #[v] e)).cell? (ad.add j) = some u := by
  cases h
  exact one_new w v e j u hj
theorem one_str (s : ByteArray) : ∀ u ∈ [Value.string s], u.oneCell' = true := by intro u hu; simp at hu; subst hu; rfl
theorem one_int (n : Int) : ∀ u ∈ [Value.int .i64 n], u.oneCell' = true := by intro u hu; simp at hu; subst hu; rfl

/-- What the variables hold is there, whatever turns from the draft's block on. -/
def GlD (D : Nat) (w : World) : Prop := D ≤ w.heap.size ∧ ∀ w', Below D w w' → Globs w'
theorem GlD.now {D : Nat} {w : World} (h : GlD D w) : Globs w := h.2 w (Below.refl _ _)
theorem GlD.step {D : Nat} {w w' : World} (h : GlD D w) (hb : Below D w w') : GlD D w' := ⟨Nat.le_trans h.1 hb.size, fun w2 h2 => h.2 w2 (hb.trans h2)⟩
theorem GlD.of {D : Nat} {w : World} (h : Globs w) (hD : w.heap.size ≤ D) (w1 : World) (hb : Below w.heap.size w w1) (hD1 : D ≤ w1.heap.size) : GlD D w1 :=
  ⟨hD1, fun w' h' => h.below (hb.trans (h'.mono hD))⟩

theorem alloc_cell {w : World} (o : Obj) {g j : Nat} {v : Value} (h : w.cell? ⟨g, j, none⟩ = some v) : (w.alloc o).cell? ⟨g, j, none⟩ = some v := kept_cell ((Below.refl _ _).alloc (Nat.le_refl _) o) h

section
variable {D : Nat} {X : Nat → Prop} {t : Tb} {said : Nat} {q : Dq} {w w1 : World}

/-- The cell through which a function reaches the draft. -/
structure Box (D : Nat) (X : Nat → Prop) (val : Ix → Value) (cb : Nat) (w : World) : Prop where
  cell : w.cell? ⟨cb, 0, none⟩ = some (.pointer (some ⟨D, 0, none⟩))
  shut : ¬ Opn D X val cb
theorem Box.lt {val : Ix → Value} {cb : Nat} (h : Box D X val cb w) : cb < w.heap.size := World.block_lt_of_cell? w _ h.cell
theorem Box.step {X' : Nat → Prop} {val val' : Ix → Value} {cb : Nat} {w' : World} {S : Nat → Prop} (h : Box D X val cb w) (hc : Chg S w w') (hS : ∀ k, S k → k < w.heap.size → Opn D X val k) (hO : ∀ k, Opn D X' val' k → k < w.heap.size → Opn D X val k) : Box D X' val' cb w' :=
  ⟨hc.cell h.cell fun hs => h.shut (hS cb hs h.lt), fun ho => h.shut (hO cb ho h.lt)⟩

/-- What a step leaves: the draft's own alone has turned. -/
structure Nx (D : Nat) (X : Nat → Prop) (val val' : Ix → Value) (w w' : World) : Prop where
  chg : Chg (fun k => k = D ∨ ∃ i, (val i).ownBlock = some k) w w'
  opn : ∀ k, Opn D X val' k → k < w.heap.size → Opn D X val k
theorem Nx.refl (D : Nat) (X : Nat → Prop) (val : Ix → Value) (w : World) : Nx D X val val w w := ⟨Chg.refl _ _, fun _ h _ => h⟩
theorem Nx.box {val val' : Ix → Value} {cb : Nat} {w' : World} (h : Nx D X val val' w w') (b : Box D X val cb w) : Box D X val' cb w' :=
  b.step h.chg (fun k hk _ => hk.elim Or.inl fun h => Or.inr (Or.inr h)) h.opn
theorem Nx.line {val' : Ix → Value} {LB : Nat} {s : Bs} {w' : World} (h : Nx D X q.val val' w w') (hd : Dr D X t said q w) (hX : X LB) (hl : LnAt w LB s) : LnAt w' LB s :=
  hl.chg h.chg fun hk => by
    rcases hk with e | ⟨i, hi⟩
    · have := hd.xD LB hX; omega
    · exact hd.rows.noX i LB hi hX
theorem Nx.below {val' : Ix → Value} {w' : World} (h : Nx D X q.val val' w w') (hd : Dr D X t said q w) : Below D w w' :=
  h.chg.below (fun k hk => by
    rcases hk with e | ⟨i, hi⟩
    · omega
    · have := own_block_lt (hd.rows.own i) hi; omega) (Nat.le_of_lt hd.lt)
theorem Nx.of {val : Ix → Value} {w' : World} (h : Below w.heap.size w w') : Nx D X val val w w' := ⟨Chg.of h, fun _ h _ => h⟩
theorem Nx.trans {val val1 val2 : Ix → Value} {w2 : World} (h : Nx D X val val1 w w1) (g : Nx D X val1 val2 w1 w2) (hX : ∀ i k, (val1 i).ownBlock = some k → ¬ X k) : Nx D X val val2 w w2 :=
  ⟨h.chg.then g.chg fun k hk hl => by
    rcases hk with e | ⟨i, hi⟩
    · exact Or.inl e
    · rcases h.opn k (Or.inr (Or.inr ⟨i, hi⟩)) hl with e | e | e
      · exact Or.inl e
      · exact absurd e (hX i k hi)
      · exact Or.inr e, fun k hk hl => h.opn k (g.opn k hk (Nat.lt_of_lt_of_le hl h.chg.size)) hl⟩
/-- One push. -/
theorem Nx.push {v' : Value} {e : TypeId} {k n o : Nat} {xs : List Value} (i : Ix) (a : App D w w1 (q.val i) v' e k n xs) : Nx D X q.val (T.upd q.val i v') w (w1.setCell ⟨D, o, none⟩ v') :=
  ⟨(a.chg.mono (S' := fun k => k = D ∨ ∃ i, (q.val i).ownBlock = some k) fun k hk => Or.inr ⟨i, hk⟩).trans (Chg.set _ _ _ (Or.inl rfl)), opn_upd i a.blk⟩

/-- An append behind calls that lay new memory. -/
theorem App.of {v v' : Value} {e : TypeId} {k n : Nat} {xs : List Value} {w2 w3 : World} (hb : Below w.heap.size w w2) (ho : w3.ownsRow (D + 1) e k v' n xs) (hg : w2.grownBy w3 v.ownBlock) (hbk : v'.ownBlock = v.ownBlock ∨ v'.ownBlock = some w2.heap.size) : App D w w3 v v' e k n xs :=
  ⟨ho, (Chg.of (S := fun b => v.ownBlock = some b) hb).trans (Chg.grown hg fun k hk => hk), hbk.imp_right fun h => ⟨_, h, hb.size⟩⟩

set_option maxHeartbeats 4000000 in
set_option maxRecDepth 100000 in
theorem states2_any (cb : Nat) (s : Bs) (hs : s.length ≤ 281474976710656) (hl : t.states.length ≤ 1000000) (h : Dr D X t 0 q w) (hb : Box D X q.val cb w) (hg : GlD D w) :
    Calls Tryz.prog 68 #[sv s, .pointer (some ⟨cb, 0, none⟩)] w fun e w' => e = .returned (.int .i64 (nameErr s)) ∧ ∃ q', Dr D X { t with states := t.states ++ [s] } 0 q' w' ∧ Nx D X q.val q'.val w w' := by
  obtain ⟨i0, hi, hz0, hz1, hz2⟩ := info_string
  have HC := Lib.hid (fun W => I.clone_any s W hs)
  have c0 := h.cell 0 (v := q.val .st) rfl
  have cbc := hb.cell
  have HD := Lib.hid h
  have HBX := Lib.hid hb
  have HG := Lib.hid hg
  have HLT := Lib.hid h.lt
  have HO := Lib.hid (h.rows.own .st)
  have HF := Lib.hid (h.frozen 0 (by decide))
  have HR1 := Lib.hid (show t.states.length + 1 ≤ maxLen by unfold maxLen; omega)
  have HR2 := Lib.hid (show (t.states.length + 1) * 16 ≤ 140737488355328 by omega)
  have HU := Lib.hid (fun W (hW : I.Glob W) => unlessName_any s W hW (by omega))
  obtain ⟨vS, hvS⟩ : ∃ v, q.val .st = v := ⟨_, rfl⟩
  rw [hvS] at c0 HO
  have HVS := Lib.hid hvS
  have HC0 := Lib.hid c0
  have HND := Lib.hid (show ¬ vS.ownBlock = some D from fun e => by have := own_block_lt HO.out e; omega)
  unfold sv at HC HU ⊢
  clear h hb hg hs hl hvS
  go_enter Tryz.func68, Tryz.ntmps68
  go_wp2_with fail
  go_region_law (first | (refine step_append_all rfl _ _ 22 rfl (D + 1) 9 i0 (.string ⟨#[]⟩) 1 16 Tryz.underlying22 hi hz0 hz1 hz2 rfl (by decide) vS t.states.length (t.states.map sv) rfl (World.ownsRow.alloc HO1.out _) (some ⟨w1.heap.size, 0, none⟩) 1 1 [.string (str s)] rfl rfl (fun h => by cases h) (new_one _ _ _) (one_str _) HR1.out HR2.out HS1.out ?_; intro v' w3 hown3 hgrow3 hblk3; have HA := Lib.hid (App.of HB2.out hown3 hgrow3 hblk3); have cb3 := (HA.out.chg.cell HBX.out.cell (fun e => HBX.out.shut (Or.inr (Or.inr ⟨.st, by rw [HVS.out]; exact e⟩)))); have c3 := HA.out.chg.cell HC0.out HND.out; have f3 := (HA.out.chg.frozens HLT.out HND.out 0).trans HF.out; obtain ⟨a3, cap3, hv3⟩ := own_shape5 hown3; subst hv3; clear hown3 hgrow3 hblk3) | (go_simp; go_at_call 69; refine (HC.out _).mono ?_; rintro _ w1 ⟨rfl, hb1'⟩; have hb1 : Below w.heap.size w w1 := ((Below.refl w.heap.size w).drew).trans hb1'; clear hb1'; have HB1 := Lib.hid hb1; have HO1 := Lib.hid (own_kept HO.out hb1); have HB2 := Lib.hid (hb1.trans ((Chg.alloc (S := fun _ => False) w1 (.cells #[.string (str s)] 9)).below (fun _ h => h.elim) hb1.size)); have HS1 := Lib.hid (show D + 1 ≤ (w1.alloc (.cells #[.string (str s)] 9)).heap.size by have := hb1.size; have := HLT.out; simp; omega); have cb1 := kept_cell hb1 cbc; have c1 := kept_cell hb1 c0; have cb1a := alloc_cell (.cells #[.string (str s)] 9) cb1; have c1a := alloc_cell (.cells #[.string (str s)] 9) c1; clear hb1))
  all_goals
    have HE := Lib.hid (HD.out.push_st s (by rw [HVS.out]; exact HA.out))
    have HNX := Lib.hid (Nx.push (X := X) (o := 0) .st (by rw [HVS.out]; exact HA.out))
    clear c3 f3 cb3 cb1 c1 cb1a c1a c0 cbc
    go_wp2_with (go_at_call 70; refine (HU.out _ (HG.out.step (HNX.out.below HD.out)).now.glob).mono ?_; rintro _ w5 ⟨rfl, rfl⟩)
    go_ret
    exact ⟨rfl, _, HE.out, HNX.out⟩
end
end Go.Proofs.YtfooiggedgcjcaaGreatDoor.T
