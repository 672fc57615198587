/-
  Layer 10, plainly: what is read step by step is in bounds; what such a step reads as a whole.
  Layer 10, the program: commands and records read as a whole.
-/
import Derived.Test.YtebglkpejdoggaaGreatP10Stp
import Derived.Test.YtebglkpejdoggaaGreatP10La
import Derived.Test.YtebglkpejdoggaaGreatP10Ri
import Derived.Test.YtebglkpejdoggaaGreatP8Lib
namespace Go.Proofs.YtebglkpejdoggaaGreat.C10
open Go Go.RowKit Go.Proofs Go.Proofs.YtebglkpejdoggaaGreat.B Go.Proofs.YtebglkpejdoggaaGreat.K Go.Proofs.YtebglkpejdoggaaGreat.P8
set_option linter.unusedVariables false

def All {X : Type} (P : X → Prop) (st : Stp X) : Prop := ∀ s p er, P (st s p er).1
theorem all_then {X Y : Type} {P : X → Prop} {Q : Y → Prop} {f : Stp X} {g : X → Stp Y} (hf : All P f) (hg : ∀ x, P x → All Q (g x)) : All Q (sThen f g) := fun s p er => hg _ (hf s p er) _ _ _
theorem all_end {X : Type} {P : X → Prop} {x : X} (h : P x) : All P (sEnd x) := fun _ _ _ => h
theorem i64_zero : I64 0 := ⟨by decide, by decide⟩
theorem no_mem {X : Type} {P : X → Prop} : ∀ x ∈ ([] : List X), P x := fun x hx => by cases hx
theorem all_num : All I64 sNum := fun s p er => by
  unfold sNum sOne
  split
  · obtain ⟨x, q, e, h⟩ : ∃ x q e, V.rdAt s p = (x, q, e) := ⟨_, _, _, rfl⟩
    rw [h]
    by_cases he : e = 0
    · subst he
      exact V.rdAt_bounds s p h
    · have h2 := h
      unfold V.rdAt at h2
      split at h2
      · simp only [Prod.mk.injEq] at h2
        rw [← h2.1]; exact i64_zero
      · split at h2
        · simp only [Prod.mk.injEq] at h2
          exact absurd h2.2.2.symm he
        · simp only [Prod.mk.injEq] at h2
          rw [← h2.1]; exact i64_zero
  · exact i64_zero
theorem all_txt : All (fun x : List UInt8 => x.length ≤ 4096) sTxt := fun s p er => by
  unfold sTxt sOne
  split
  · unfold V.txt V.txtOf
    obtain ⟨n, q, e, hc⟩ : ∃ n q e, V.count s p 4096 = (n, q, e) := ⟨_, _, _, rfl⟩
    rw [hc]
    by_cases he : e = 0
    · subst he
      obtain ⟨c1, c2, -⟩ := V.count_ok _ _ _ hc
      simp only [ne_eq, not_true, if_false]
      split
      · simp
      · dsimp only
        rw [List.length_take]
        omega
    · simp only [ne_eq, he, not_false_eq_true, if_true]
      simp
  · simp
theorem all_go {X : Type} {P : X → Prop} {f : Stp X} (hf : All P f) : ∀ (n : Nat) (acc : List X), (∀ x ∈ acc, P x) → All (fun l => (∀ x ∈ l, P x) ∧ l.length = acc.length + n) (sGo f n acc)
  | 0, acc, h => all_end ⟨h, rfl⟩
  | n + 1, acc, h => all_then hf fun x hx => fun s p er => by
      have := all_go hf n (acc ++ [x]) (by
        intro y hy
        rcases List.mem_append.1 hy with hy | hy
        · exact h y hy
        · rw [List.mem_singleton.1 hy]; exact hx) s p er
      rw [List.length_append, List.length_singleton] at this
      exact ⟨this.1, by rw [this.2]; omega⟩
theorem all_list {X : Type} {P : X → Prop} {f : Stp X} (hf : All P f) (most : Nat) : All (fun l => (∀ x ∈ l, P x) ∧ l.length ≤ most) (sList f most) :=
  all_then (P := fun _ => True) (fun _ _ _ => trivial) fun n _ => fun s p er => by
    unfold sItems
    split
    · exact ⟨no_mem, Nat.zero_le _⟩
    · split
      · exact ⟨no_mem, Nat.zero_le _⟩
      · have := all_go hf n.toNat [] no_mem s p 0
        refine ⟨this.1, ?_⟩
        rw [this.2]
        simp only [List.length_nil]
        omega
theorem all_nums (most : Nat) (hm : most ≤ 256) : All (fun l => NsWf l ∧ l.length ≤ most) (sList sNum most) := fun s p er => by
  have := all_list all_num most s p er
  exact ⟨⟨this.1, by have := this.2; omega⟩, this.2⟩
theorem all_ev : All (fun x : Ev => EvWf x ∧ x.vars.length ≤ 256) sEv := all_then all_num fun a ha => all_then (all_nums 6 (by decide)) fun v hv => all_end ⟨⟨ha, hv.1⟩, by have := hv.2; show v.length ≤ 256; omega⟩
theorem all_it : All (fun x : It => ItWf x ∧ x.stream.length ≤ 4096 ∧ x.st.vars.length ≤ 256) sIt :=
  all_then all_txt fun t ht => all_then all_num fun a ha => all_then all_num fun b hb => all_then (all_nums 6 (by decide)) fun v hv => all_end ⟨⟨by unfold TxWf; show t.length ≤ _; omega, ha, hb, hv.1⟩, ht, by have := hv.2; show v.length ≤ 256; omega⟩
theorem all_vd : All VdWf sVd := all_then all_num fun a ha => all_then all_num fun b hb => all_end ⟨ha, hb⟩
theorem all_cmd : All CmWf sCmd :=
  all_then all_num fun a ha => all_then all_num fun b hb => all_then all_txt fun t ht => all_then all_num fun r hr => all_then (all_nums 4 (by decide)) fun v hv => all_then all_num fun e he => all_end ⟨ha, hb, by unfold TxWf; show t.length ≤ _; omega, hr, hv.1, he⟩
theorem all_evs : All EvsWf sEvs := fun s p er => by
  have := all_list all_ev 3 s p er
  exact ⟨fun x hx => (this.1 x hx).1, by have := this.2; unfold sEvs; omega⟩
theorem all_rec : All RcWf sRec :=
  all_then all_num fun a ha => all_then all_num fun b hb => all_then all_txt fun t ht => all_then all_num fun r hr => all_then all_evs fun v hv => all_end ⟨ha, hb, by unfold TxWf; show t.length ≤ _; omega, hr, hv⟩
theorem all_its : All ItsWf sIts := fun s p er => by
  have := all_list all_it 64 s p er
  exact ⟨fun x hx => (this.1 x hx).1, by have := this.2; unfold sIts; omega⟩
theorem all_vds : All VdsWf sVds := fun s p er => by
  have := all_list all_vd 32 s p er
  exact ⟨this.1, by have := this.2; unfold sVds; omega⟩
theorem all_filt : All FlWf sFilt := fun s p er => by
  have := all_list all_txt 8 s p er
  exact ⟨fun x hx => by have := this.1 x hx; unfold TxWf; omega, by have := this.2; unfold sFilt; omega⟩

/-- What such a step, and the question whether it may be, come to. -/
theorem sim_good {X : Type} {ok : X → Bool} {st : Stp X} {rd : Rd X} (H : Sim (fun _ => True) (sThen st (sOk ok)) rd) {s : List UInt8} {p : Int} {x : X} {q : Int} (h : st s p 0 = (x, q, 0)) (hk : ok x = true) : rd s p = some (x, q) := by
  have hs : sThen st (sOk ok) s p 0 = (x, q, 0) := by
    unfold sThen sOk
    rw [h]
    dsimp only
    rw [if_neg (by rw [hk]; simp)]
  cases hr : rd s p with
  | none =>
    have := H.bad s p (fun y r e => by rw [hr] at e; cases e)
    rw [hs] at this
    exact absurd rfl this
  | some r =>
    have := H.got s p r.1 r.2 hr trivial
    rw [hs] at this
    simp only [Prod.mk.injEq, and_true] at this
    rw [this.1, this.2]
theorem sim_bad {X : Type} {ok : X → Bool} {st : Stp X} {rd : Rd X} (H : Sim (fun _ => True) (sThen st (sOk ok)) rd) {s : List UInt8} {p : Int} {x : X} {q e : Int} (h : st s p 0 = (x, q, e)) (hk : e ≠ 0 ∨ ok x = false) : rd s p = none := by
  have hs : (sThen st (sOk ok) s p 0).2.2 ≠ 0 := by
    unfold sThen sOk
    rw [h]
    dsimp only
    by_cases he : e = 0
    · subst he
      rcases hk with hk | hk
      · exact absurd rfl hk
      · rw [if_pos ⟨rfl, hk⟩]; decide
    · rw [if_neg (fun c => he c.1)]; exact he
  cases hr : rd s p with
  | none => rfl
  | some r =>
    have := H.got s p r.1 r.2 hr trivial
    rw [this] at hs
    exact absurd rfl hs
end Go.Proofs.YtebglkpejdoggaaGreat.C10

namespace Go.Proofs.YtebglkpejdoggaaGreat.C10
open Go Go.RowKit Go.Proofs Go.Proofs.YtebglkpejdoggaaGreat.B Go.Proofs.YtebglkpejdoggaaGreat.K Go.Proofs.YtebglkpejdoggaaGreat.P8
set_option linter.unusedVariables false
set_option maxRecDepth 100000

theorem evs_of' {base : Nat} {w : World} {v : Value} {l : List Ev} (h : LsIs 2 QE base w v l) : EvsIs w v l := h.list.imp fun ds x ⟨u, e, h1, _⟩ => ⟨u, e, h1⟩
/-- Numbers, or events, that were made, in blocks of their own. -/
theorem EvsF.tg {base g : Nat} {w w' : World} {v : Value} {l : List Ev} (h : LsIs 2 QE base w v l) (t : Tg g w w') (hg : g < base) : LsIs 2 QE base w' v l := ⟨SlOf.tg h.list t h.fr hg fun ds x hq => hq.tg t hg, h.fr⟩
theorem EvsF.below {base : Nat} {w w' : World} {v : Value} {l : List Ev} (h : LsIs 2 QE base w v l) (hb : Below w.heap.size w w') : LsIs 2 QE base w' v l := ⟨SlOf.below h.list hb fun ds x ⟨u, e, h1, h2⟩ => ⟨u, e, h1.below hb, h2⟩, h.fr⟩
theorem NsF.below {base : Nat} {w w' : World} {v : Value} {xs : List Int} (h : NsF base w v xs) (hb : Below w.heap.size w w') : NsF base w' v xs := ⟨h.1.below hb, h.2⟩
theorem row_drew {w : World} {g : Nat} {o : Option Obj} (h : w.heap[g]? = o) : w.drew.heap[g]? = o := h
theorem EvsF.mono {base base' : Nat} {w : World} {v : Value} {l : List Ev} (h : LsIs 2 QE base w v l) (hb : base' ≤ base) : LsIs 2 QE base' w v l := ⟨h.list.imp fun ds x hq => hq.mono hb, h.fr.mono hb⟩
theorem pnsf_drew {base : Nat} {w : World} {v : Value} {xs : List Int} (h : NsF base w v xs) : NsF base w.drew v xs := h
theorem pevf_drew {base : Nat} {w : World} {v : Value} {l : List Ev} (h : LsIs 2 QE base w v l) : LsIs 2 QE base w.drew v l := ⟨h.list, h.fr⟩
theorem psln_drew {w : World} {v : Value} {xs : List Int} (h : SlN w v xs) : SlN w.drew v xs := h
theorem pevs_drew {w : World} {v : Value} {l : List Ev} (h : EvsIs w v l) : EvsIs w.drew v l := h
/-- What a reading of one thing answers. -/
def RcOut {X : Type} (val : X → Value → Value) (Is : World → Value → X → Prop) (rd : Rd X) (s : List UInt8) (p : Int) (w : World) (e : Ending) (w' : World) : Prop :=
  ∃ (c : X) (u : Value) (q er : Int), e = .returned (.tuple #[val c u, .int .i64 q, .int .i64 er]) ∧ Is w' u c ∧ Below w.heap.size w w' ∧ (match rd s p with | some r => c = r.1 ∧ q = r.2 ∧ er = 0 | none => er ≠ 0)
theorem rcOut_good {X : Type} {val : X → Value → Value} {Is : World → Value → X → Prop} {rd : Rd X} {s : List UInt8} {p q : Int} {w w' : World} {c : X} {u v : Value} (h : rd s p = some (c, q)) (hv : v = val c u) (hi : Is w' u c) (hb : Below w.heap.size w w') : RcOut val Is rd s p w (.returned (.tuple #[v, .int .i64 q, .int .i64 0])) w' :=
  ⟨c, u, q, 0, by rw [hv], hi, hb, by rw [h]; exact ⟨rfl, rfl, rfl⟩⟩
theorem rcOut_bad {X : Type} {val : X → Value → Value} {Is : World → Value → X → Prop} {rd : Rd X} {s : List UInt8} {p q er : Int} {w w' : World} {c : X} {u v : Value} (h : rd s p = none) (he : er ≠ 0) (hv : v = val c u) (hi : Is w' u c) (hb : Below w.heap.size w w') : RcOut val Is rd s p w (.returned (.tuple #[v, .int .i64 q, .int .i64 er])) w' :=
  ⟨c, u, q, er, by rw [hv], hi, hb, by rw [h]; exact he⟩
/-- The end of a function whose first result lies in a block. -/
theorem row_end3 {fn : Func} {p u z : Tmp} {g : Nat} {ty : TypeId} {cs : Array Value} {fs : Array Field} {R : Ending → World → Prop} {ac : Act} {w : World} (x y : Value) (hres : fn.results = #[.cell p ty, .tmp u, .tmp z]) (hp : ac.tmps.getD p undef = .pointer (some ⟨g, 0, none⟩)) (hx : ac.tmps.getD u undef = x) (hy : ac.tmps.getD z undef = y) (hd : ac.defers = [])
    (hg : w.heap[g]? = some (.cells cs ty (0, 0))) (hu : Tryz.prog.underlying ty = some (.struct fs)) (hi : (Tryz.prog.info? ty).map (·.size) = some cs.size) (hR : R (.returned (.tuple #[.agg cs, x, y])) w) : bodyPost Tryz.prog fn R .ret ac w := by
  refine bodyPost_ret (v := .tuple #[.agg cs, x, y]) ?_ hd hR
  have hl := run_loadVar_row w g ty ty cs (0, 0) _ hg hu rfl hi
  have hp' : ac.tmps[p]?.getD undef = .pointer (some ⟨g, 0, none⟩) := by simpa using hp
  have hx' : ac.tmps[u]?.getD undef = x := by simpa using hx
  have hy' : ac.tmps[z]?.getD undef = y := by simpa using hy
  simp [results, hres, hp', hx', hy', asAddr, hl]

set_option maxHeartbeats 4000000 in
theorem preadCmd_any (b : Nat) (s : List UInt8) (hs : s.length ≤ 140737488355328) (p er : Int) (w : World) (h : Rdr w b s p er) :
    Calls Tryz.prog 51 #[.pointer (some ⟨b, 0, none⟩)] w fun e w' => ∃ x u q er', sCmd s p er = (x, q, er') ∧ (e = .returned (.agg #[.int .i64 x.client, .int .i64 x.seq, .string (str x.stream), .int .i64 x.rule, u, .int .i64 x.expect]) ∧ NsF w.heap.size w' u x.args ∧ Rdr w' b s q er' ∧ Tg b w w') := by
  obtain ⟨x1, p1, e1, q1⟩ : ∃ x q e, sNum s p er = (x, q, e) := ⟨_, _, _, rfl⟩
  obtain ⟨x2, p2, e2, q2⟩ : ∃ x q e, sNum s p1 e1 = (x, q, e) := ⟨_, _, _, rfl⟩
  obtain ⟨x3, p3, e3, q3⟩ : ∃ x q e, sTxt s p2 e2 = (x, q, e) := ⟨_, _, _, rfl⟩
  obtain ⟨x4, p4, e4, q4⟩ : ∃ x q e, sNum s p3 e3 = (x, q, e) := ⟨_, _, _, rfl⟩
  obtain ⟨x5, p5, e5, q5⟩ : ∃ x q e, (sList sNum 4) s p4 e4 = (x, q, e) := ⟨_, _, _, rfl⟩
  obtain ⟨x6, p6, e6, q6⟩ : ∃ x q e, sNum s p5 e5 = (x, q, e) := ⟨_, _, _, rfl⟩
  have hd : sCmd s p er = (⟨x1, x2, x3, x4, x5, x6⟩, p6, e6) := by
    unfold sCmd sThen
    rw [q1]; dsimp only; rw [q2]; dsimp only; rw [q3]; dsimp only; rw [q4]; dsimp only; rw [q5]; dsimp only; rw [q6]; rfl
  have C1 := fun W (H : Rdr W b s p er) => number_any b s p er W H hs
  rw [q1] at C1
  dsimp only at C1
  have C2 := fun W (H : Rdr W b s p1 e1) => number_any b s p1 e1 W H hs
  rw [q2] at C2
  dsimp only at C2
  have C3 := fun W (H : Rdr W b s p2 e2) => name_any b s p2 e2 W H hs
  rw [q3] at C3
  dsimp only at C3
  have C4 := fun W (H : Rdr W b s p3 e3) => number_any b s p3 e3 W H hs
  rw [q4] at C4
  dsimp only at C4
  have C5 := fun W (H : Rdr W b s p4 e4) => rdValues_any b s 4 4 rfl (by decide) hs p4 e4 W H
  rw [q5] at C5
  dsimp only at C5
  have C6 := fun W (H : Rdr W b s p5 e5) => number_any b s p5 e5 W H hs
  rw [q6] at C6
  dsimp only at C6
  have C1 := Lib.hid C1
  have C2 := Lib.hid C2
  have C3 := Lib.hid C3
  have C4 := Lib.hid C4
  have C5 := Lib.hid C5
  have C6 := Lib.hid C6
  refine (show Calls Tryz.prog 51 #[.pointer (some ⟨b, 0, none⟩)] w (fun e w' => ∃ u, e = .returned (.agg #[.int .i64 x1, .int .i64 x2, .string (str x3), .int .i64 x4, u, .int .i64 x6]) ∧ NsF w.heap.size w' u x5 ∧ Rdr w' b s p6 e6 ∧ Tg b w w') from ?_).mono fun e w' ⟨u, h⟩ => ⟨_, u, _, _, hd, h⟩
  have HR := Lib.hid h
  clear h hd q1 q2 q3 q4 q5 q6
  obtain ⟨W0, hW0⟩ : ∃ W0, w.alloc (.cells #[.int .i64 0, .int .i64 0, .string ⟨#[]⟩, .int .i64 0, .slice none 0 0, .int .i64 0] 41) = W0 := ⟨_, rfl⟩
  obtain ⟨g, hg⟩ : ∃ g, w.heap.size = g := ⟨_, rfl⟩
  have hB0 : Below w.heap.size w W0 := by rw [← hW0]; exact below_alloc _ _
  have hblk : W0.heap[g]? = some (.cells #[.int .i64 0, .int .i64 0, .string ⟨#[]⟩, .int .i64 0, .slice none 0 0, .int .i64 0] 41 (0, 0)) := by rw [← hW0, ← hg]; exact heap_alloc_at _ _
  have hbl := HR.out.lt
  have hbg : g ≠ b := by omega
  have HBLK := Lib.hid hblk
  have hT0 : Tg b w W0 := Tg.of_below hB0
  have hr0 := HR.out.below hB0
  clear hB0 hblk
  go_enter Tryz.func51, Tryz.ntmps51
  go_wp2_with fail
  refine (C1.out _ hr0).mono ?_
  rintro _ w1 ⟨rfl, hr1, ht1⟩
  have hT1 := hT0.trans ht1
  clear hW0
  have htt1 : Tg b W0 w1 := ht1
  go_wp2_with fail
  refine (C2.out _ hr1).mono ?_
  rintro _ w2 ⟨rfl, hr2, ht2⟩
  have hT2 := hT1.trans ht2
  have htt2 := htt1.trans ht2
  go_wp2_with fail
  refine (C3.out _ hr2).mono ?_
  rintro _ w3 ⟨rfl, hr3, ht3⟩
  have hT3 := hT2.trans ht3
  have htt3 := htt2.trans ht3
  go_wp2_with fail
  refine (C4.out _ hr3).mono ?_
  rintro _ w4 ⟨rfl, hr4, ht4⟩
  have hT4 := hT3.trans ht4
  have htt4 := htt3.trans ht4
  go_wp2_with fail
  refine (C5.out _ hr4).mono ?_
  rintro _ w5 ⟨v, rfl, hv, hr5, ht5⟩
  have hT5 := hT4.trans ht5
  obtain ⟨au, cu, rfl, -⟩ := id hv.1.open
  have HV := Lib.hid hv
  clear hv
  have htt5 := htt4.trans ht5
  go_wp2_with fail
  refine (C6.out _ hr5).mono ?_
  rintro _ w6 ⟨rfl, hr6, ht6⟩
  have hT6 := hT5.trans ht6
  have htt6 := htt5.trans ht6
  have hb2 := (htt6.block g (Array.getElem?_eq_some_iff.1 HBLK.out).1 hbg).trans HBLK.out
  have hc0 := (row_at hb2 0 _ rfl).1
  have hf0 := (row_at hb2 0 _ rfl).2
  have hc1 := (row_at hb2 1 _ rfl).1
  have hf1 := (row_at hb2 1 _ rfl).2
  have hc2 := (row_at hb2 2 _ rfl).1
  have hf2 := (row_at hb2 2 _ rfl).2
  have hc3 := (row_at hb2 3 _ rfl).1
  have hf3 := (row_at hb2 3 _ rfl).2
  have hc4 := (row_at hb2 4 _ rfl).1
  have hf4 := (row_at hb2 4 _ rfl).2
  have hc5 := (row_at hb2 5 _ rfl).1
  have hf5 := (row_at hb2 5 _ rfl).2
  go_wp2_with fail
  try simp only [hg]
  refine row_end (g := g) (cs := #[.int .i64 x1, .int .i64 x2, .string (str x3), .int .i64 x4, .slice au x5.length cu, .int .i64 x6]) rfl rfl rfl (heap_setCell_same _ g 5 _ 41 _ (heap_setCell_same _ g 4 _ 41 _ (heap_setCell_same _ g 3 _ 41 _ (heap_setCell_same _ g 2 _ 41 _ (heap_setCell_same _ g 1 _ 41 _ (heap_setCell_same _ g 0 _ 41 _ hb2)))))) Tryz.underlying41 (by kernel_rfl) ?_
  have htg : Tg g w6 ((((((w6.setCell ⟨g, 0, none⟩ (.int .i64 x1)).setCell ⟨g, 1, none⟩ (.int .i64 x2)).setCell ⟨g, 2, none⟩ (.string (str x3))).setCell ⟨g, 3, none⟩ (.int .i64 x4)).setCell ⟨g, 4, none⟩ (.slice au x5.length cu)).setCell ⟨g, 5, none⟩ (.int .i64 x6)) := ((((((Tg.set _ _ _ _).trans (Tg.set _ _ _ _)).trans (Tg.set _ _ _ _)).trans (Tg.set _ _ _ _)).trans (Tg.set _ _ _ _)).trans (Tg.set _ _ _ _))
  have hrr := hr6.tg htg (fun e => hbg e.symm)
  have hgl : g < w4.heap.size := Nat.lt_of_lt_of_le (Array.getElem?_eq_some_iff.1 HBLK.out).1 htt4.size
  have hvv := NsF.tg (NsF.tg HV.out ht6 (by omega)) htg hgl
  exact ⟨_, rfl, hvv.mono (by omega), hrr, Tg.above hT6 (Nat.le_of_eq hg) htg⟩

set_option maxHeartbeats 4000000 in
theorem preadRecord_any (b : Nat) (s : List UInt8) (hs : s.length ≤ 140737488355328) (p er : Int) (w : World) (h : Rdr w b s p er) :
    Calls Tryz.prog 57 #[.pointer (some ⟨b, 0, none⟩)] w fun e w' => ∃ x u q er', sRec s p er = (x, q, er') ∧ (e = .returned (.agg #[.int .i64 x.client, .int .i64 x.seq, .string (str x.stream), .int .i64 x.code, u]) ∧ LsIs 2 QE w.heap.size w' u x.events ∧ Rdr w' b s q er' ∧ Tg b w w') := by
  obtain ⟨x1, p1, e1, q1⟩ : ∃ x q e, sNum s p er = (x, q, e) := ⟨_, _, _, rfl⟩
  obtain ⟨x2, p2, e2, q2⟩ : ∃ x q e, sNum s p1 e1 = (x, q, e) := ⟨_, _, _, rfl⟩
  obtain ⟨x3, p3, e3, q3⟩ : ∃ x q e, sTxt s p2 e2 = (x, q, e) := ⟨_, _, _, rfl⟩
  obtain ⟨x4, p4, e4, q4⟩ : ∃ x q e, sNum s p3 e3 = (x, q, e) := ⟨_, _, _, rfl⟩
  obtain ⟨x5, p5, e5, q5⟩ : ∃ x q e, sEvs s p4 e4 = (x, q, e) := ⟨_, _, _, rfl⟩
  have hd : sRec s p er = (⟨x1, x2, x3, x4, x5⟩, p5, e5) := by
    show sThen sNum (fun a => sThen sNum fun b => sThen sTxt fun t => sThen sNum fun c => sThen sEvs fun l => sEnd (⟨a, b, t, c, l⟩ : Rc)) s p er = _
    unfold sThen
    rw [q1]; dsimp only; rw [q2]; dsimp only; rw [q3]; dsimp only; rw [q4]; dsimp only; rw [q5]; rfl
  have C1 := fun W (H : Rdr W b s p er) => number_any b s p er W H hs
  rw [q1] at C1
  dsimp only at C1
  have C2 := fun W (H : Rdr W b s p1 e1) => number_any b s p1 e1 W H hs
  rw [q2] at C2
  dsimp only at C2
  have C3 := fun W (H : Rdr W b s p2 e2) => name_any b s p2 e2 W H hs
  rw [q3] at C3
  dsimp only at C3
  have C4 := fun W (H : Rdr W b s p3 e3) => number_any b s p3 e3 W H hs
  rw [q4] at C4
  dsimp only at C4
  have C5 := fun W (H : Rdr W b s p4 e4) => readEvents_any b s hs p4 e4 W H
  rw [q5] at C5
  dsimp only at C5
  have C1 := Lib.hid C1
  have C2 := Lib.hid C2
  have C3 := Lib.hid C3
  have C4 := Lib.hid C4
  have C5 := Lib.hid C5
  refine (show Calls Tryz.prog 57 #[.pointer (some ⟨b, 0, none⟩)] w (fun e w' => ∃ u, e = .returned (.agg #[.int .i64 x1, .int .i64 x2, .string (str x3), .int .i64 x4, u]) ∧ LsIs 2 QE w.heap.size w' u x5 ∧ Rdr w' b s p5 e5 ∧ Tg b w w') from ?_).mono fun e w' ⟨u, h⟩ => ⟨_, u, _, _, hd, h⟩
  have HR := Lib.hid h
  clear h hd q1 q2 q3 q4 q5
  obtain ⟨W0, hW0⟩ : ∃ W0, w.alloc (.cells #[.int .i64 0, .int .i64 0, .string ⟨#[]⟩, .int .i64 0, .slice none 0 0] 44) = W0 := ⟨_, rfl⟩
  obtain ⟨g, hg⟩ : ∃ g, w.heap.size = g := ⟨_, rfl⟩
  have hB0 : Below w.heap.size w W0 := by rw [← hW0]; exact below_alloc _ _
  have hblk : W0.heap[g]? = some (.cells #[.int .i64 0, .int .i64 0, .string ⟨#[]⟩, .int .i64 0, .slice none 0 0] 44 (0, 0)) := by rw [← hW0, ← hg]; exact heap_alloc_at _ _
  have hbl := HR.out.lt
  have hbg : g ≠ b := by omega
  have HBLK := Lib.hid hblk
  have hT0 : Tg b w W0 := Tg.of_below hB0
  have hr0 := HR.out.below hB0
  clear hB0 hblk
  go_enter Tryz.func57, Tryz.ntmps57
  go_wp2_with fail
  refine (C1.out _ hr0).mono ?_
  rintro _ w1 ⟨rfl, hr1, ht1⟩
  have hT1 := hT0.trans ht1
  clear hW0
  have htt1 : Tg b W0 w1 := ht1
  go_wp2_with fail
  refine (C2.out _ hr1).mono ?_
  rintro _ w2 ⟨rfl, hr2, ht2⟩
  have hT2 := hT1.trans ht2
  have htt2 := htt1.trans ht2
  go_wp2_with fail
  refine (C3.out _ hr2).mono ?_
  rintro _ w3 ⟨rfl, hr3, ht3⟩
  have hT3 := hT2.trans ht3
  have htt3 := htt2.trans ht3
  go_wp2_with fail
  refine (C4.out _ hr3).mono ?_
  rintro _ w4 ⟨rfl, hr4, ht4⟩
  have hT4 := hT3.trans ht4
  have htt4 := htt3.trans ht4
  go_wp2_with fail
  refine (C5.out _ hr4).mono ?_
  rintro _ w5 ⟨v, rfl, hv, hr5, ht5⟩
  have hT5 := hT4.trans ht5
  obtain ⟨au, cu, rfl, -⟩ := id hv.list.open
  have HV := Lib.hid hv
  clear hv
  have htt5 := htt4.trans ht5
  have hb2 := (htt5.block g (Array.getElem?_eq_some_iff.1 HBLK.out).1 hbg).trans HBLK.out
  have hc0 := (row_at hb2 0 _ rfl).1
  have hf0 := (row_at hb2 0 _ rfl).2
  have hc1 := (row_at hb2 1 _ rfl).1
  have hf1 := (row_at hb2 1 _ rfl).2
  have hc2 := (row_at hb2 2 _ rfl).1
  have hf2 := (row_at hb2 2 _ rfl).2
  have hc3 := (row_at hb2 3 _ rfl).1
  have hf3 := (row_at hb2 3 _ rfl).2
  have hc4 := (row_at hb2 4 _ rfl).1
  have hf4 := (row_at hb2 4 _ rfl).2
  go_wp2_with fail
  try simp only [hg]
  refine row_end (g := g) (cs := #[.int .i64 x1, .int .i64 x2, .string (str x3), .int .i64 x4, .slice au x5.length cu]) rfl rfl rfl (heap_setCell_same _ g 4 _ 44 _ (heap_setCell_same _ g 3 _ 44 _ (heap_setCell_same _ g 2 _ 44 _ (heap_setCell_same _ g 1 _ 44 _ (heap_setCell_same _ g 0 _ 44 _ hb2))))) Tryz.underlying44 (by kernel_rfl) ?_
  have htg : Tg g w5 (((((w5.setCell ⟨g, 0, none⟩ (.int .i64 x1)).setCell ⟨g, 1, none⟩ (.int .i64 x2)).setCell ⟨g, 2, none⟩ (.string (str x3))).setCell ⟨g, 3, none⟩ (.int .i64 x4)).setCell ⟨g, 4, none⟩ (.slice au x5.length cu)) := (((((Tg.set _ _ _ _).trans (Tg.set _ _ _ _)).trans (Tg.set _ _ _ _)).trans (Tg.set _ _ _ _)).trans (Tg.set _ _ _ _))
  have hrr := hr5.tg htg (fun e => hbg e.symm)
  have hgl : g < w4.heap.size := Nat.lt_of_lt_of_le (Array.getElem?_eq_some_iff.1 HBLK.out).1 htt4.size
  have hvv := EvsF.tg HV.out htg hgl
  exact ⟨_, rfl, ⟨hvv.list.imp fun ds y hq => hq.mono (by omega), hvv.fr.mono (by omega)⟩, hrr, Tg.above hT5 (Nat.le_of_eq hg) htg⟩
end Go.Proofs.YtebglkpejdoggaaGreat.C10
