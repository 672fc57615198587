/-
  Layer 6: a step's line, walked.
  Layer 6: what makes the readers of lines.
  Layer 6: how much a table that is read can hold.
-/
import Derived.Test.YtfooiggedgcjcaaGreatDoorTPm
namespace Go.Proofs.YtfooiggedgcjcaaGreatDoor.T
open Go Go.RowKit Go.Proofs.YtfooiggedgcjcaaGreatDoor.B Go.Proofs.YtfooiggedgcjcaaGreatDoor.K Go.Proofs.YtfooiggedgcjcaaGreatDoor.E Go.Proofs.YtfooiggedgcjcaaGreatDoor.R
set_option linter.unusedVariables false

section
variable {D LB : Nat} {t : Tb} {said : Nat} {q : Dq} {w : World}

theorem stp_start {B : Nat} {ip : Ip} {r : Rl} {tt er : Int} {W3 : World} {s : Bs} (hc : Chg (fun k => k = LB) w W3) (hb : W3.heap[B]? = some (.cells #[.slice none 0 0, .int .i64 tt] 80 (0, 0)))
    (hl : LnAt W3 LB (nx s)) (h0 : (goesTo t (wd s)).2 = er) : StpJ D LB B q ip t r tt w s (stOut ip t r s) (!isE (nx s)) er (s.length + 1) (.slice none 0 0) [] [] (nx s) W3 := by
  refine ⟨hc, hb, World.ownsRow_nil _ _ _ _, by simp, fun _ => hl, fun _ => (Closed.nothing _ _).imp fun F _ => Rel.nil _ 2, fun he hn => ?_, fun he hn => ?_, fun he => ?_⟩
  · have hx : nx s ≠ [] := by
      intro e
      rw [e] at hn; cases hn
    have hle := nx_le s
    refine ⟨by omega, by simpa using hle, ?_⟩
    unfold stOut
    rw [if_neg (by rw [h0]; exact fun h => h he), if_neg hx]
    rcases setsOf ip t r (s.length + 1) (nx s) with _ | (e | l) <;> simp [pre]
  · have hx : nx s = [] := isE_yes (by simpa using hn)
    unfold stOut
    rw [if_neg (by rw [h0]; exact fun h => h he), if_pos hx]
  · unfold stOut
    rw [h0, if_pos he]

set_option maxHeartbeats 8000000 in
set_option maxRecDepth 100000 in
theorem step1_any {ip : Ip} (hip : IpOk ip) (cb sb : Nat) (s : Bs) (hs : s.length ≤ 8192) {rs : List Rl} {r : Rl} (ht : t.rules = rs ++ [r]) (hrl : rs.length ≤ 1000000) (hsl : r.steps.length ≤ 100000) (hv : t.vars.length ≤ 10000) (hn : ∀ x ∈ t.vars, I.isName x = true) (ha : 0 ≤ r.args ∧ r.args ≤ 1099511627776)
    (h2 : 2 ≤ said) {o : Ln} (ho : spLine ip t r s = some o) (h : Dr D (fun k => k = LB) t said q w) (hb : Box D (fun k => k = LB) q.val cb w) (hse : SeBox D (fun k => k = LB) q.val sb w) (hg : GlD D w) (hl : LnAt w LB s) :
    Calls Tryz.prog 80 #[.pointer (some ⟨LB, 0, none⟩), .pointer (some ⟨cb, 0, none⟩), .pointer (some ⟨sb, 0, none⟩)] w (LnOut D LB q.val said o w) := by
  have hwa := wd_le s
  have hna := nx_le s
  obtain ⟨cb2, eb2, sc, bx2, ex2⟩ := hse.cb
  have hDL := (h.xD LB rfl).1
  have hcbn : cb ≠ LB := fun e => hb.shut (by rw [e]; exact Or.inr (Or.inl rfl))
  have hsbn : sb ≠ LB := fun e => hse.shut (by rw [e]; exact Or.inr (Or.inl rfl))
  have HKD := Lib.hid (fun W (hc : Chg (fun k => k = LB) w W) => h.keep (X' := fun k => k = LB) hc (fun k hk _ => hk) (fun k hk => ⟨(h.xD k hk).1, Nat.lt_of_lt_of_le (h.xD k hk).2 hc.size⟩) (fun k hk _ => hk))
  have HKG := Lib.hid (fun W (hc : Chg (fun k => k = LB) w W) => hg.step (hc.below (fun k hk => by omega) (Nat.le_of_lt h.lt)))
  have HFD := Lib.hid (fun W (hc : Chg (fun k => k = LB) w W) => goesTo_any (wd s) (by omega) (HKD.out W hc) (by omega) (HKG.out W hc).now.glob)
  have HST := Lib.hid (fun W (hc : Chg (fun k => k = LB) w W) (s1 : Bs) (hs1 : s1.length ≤ 8192) (o1 : Except Int Se) (ho1 : oneSet ip t r s1 = some o1) (hl1 : LnAt W LB s1) => set1_any hip eb2 cb2 s1 hs1 ht hrl hv hn ha h2 ho1 (HKD.out W hc) (bx2.step hc (fun k hk _ => Or.inr (Or.inl hk)) (fun k hk _ => hk)) (ex2.step hc (fun k hk _ => Or.inr (Or.inl hk)) (fun k hk _ => hk)) (HKG.out W hc) hl1)
  have HW := Lib.hid (word_any LB s (by omega) w.drew hl.cell hl.frozen)
  have HL := Lib.hid hl
  have HD := Lib.hid h
  have HBX := Lib.hid hb
  have HSC := Lib.hid sc
  have HNE := Lib.hid (And.intro hcbn hsbn)
  have HLLT := Lib.hid hl.lt
  have HS := Lib.hid (And.intro hs hna)
  have HT := Lib.hid (And.intro ht (And.intro hrl (And.intro hsl h2)))
  have HO : Hid (∃ oo, stOut ip t r s = some oo ∧ o = (match oo with | .error e => .error e | .ok l => .ok (lastR t fun r => { r with steps := r.steps ++ [⟨l, (goesTo t (wd s)).1⟩] }))) := Lib.hid (by
    rw [spLine_is] at ho
    rcases hq : stOut ip t r s with _ | (e | l)
    · rw [hq] at ho; cases ho
    · rw [hq] at ho; cases ho; exact ⟨_, rfl, rfl⟩
    · rw [hq] at ho; cases ho; exact ⟨_, rfl, rfl⟩)
  have HST0 := Lib.hid (fun B tt er W3 a b c d => stp_start (D := D) (q := q) (w := w) (LB := LB) (t := t) (ip := ip) (r := r) (s := s) (B := B) (tt := tt) (er := er) (W3 := W3) a b c d)
  obtain ⟨x, hx⟩ : ∃ x, wd s = x := ⟨_, rfl⟩
  rw [hx] at HW HFD HO HST0
  obtain ⟨tt, htt⟩ : ∃ a, (goesTo t x).1 = a := ⟨_, rfl⟩
  obtain ⟨e6, he6⟩ : ∃ a, (goesTo t x).2 = a := ⟨_, rfl⟩
  rw [htt, he6] at HFD
  rw [htt] at HO
  rw [he6] at HST0
  obtain ⟨O, hO⟩ : ∃ O, stOut ip t r s = O := ⟨_, rfl⟩
  rw [hO] at HO HST0
  obtain ⟨bE, hbE⟩ : ∃ b, isE (nx s) = b := ⟨_, rfl⟩
  rw [hbE] at HST0
  have HBE := Lib.hid hbE
  have cbc := hb.cell
  have lc := hl.cell
  unfold sv at HW HFD lc
  clear hip hs ht hrl hsl hv hn ha h2 ho h hb hse hg hl hwa hna sc bx2 ex2 hDL hcbn hsbn hx htt he6 hO hbE
  go_enter Tryz.func80, Tryz.ntmps80
  go_upto_region 1 with fail
  go_cut [5, 6] from 11 to 17 (fun s5 s6 wx => s5 = .int .i64 tt ∧ s6 = .int .i64 e6 ∧ Hid (Chg (fun k => k = LB) w wx) ∧ Hid (LnAt wx LB (nx s)))
  case first =>
    go_region_law (first | (go_simp; go_at_call 13; refine HW.out.mono ?_; rintro _ w2 ⟨rfl, hw2⟩; have hc2 : Chg (fun k => k = LB) w w2 := (by obtain ⟨n, rfl⟩ := hw2; exact (Chg.of ((Below.refl w.heap.size w).drew)).trans ((Chg.drew w.drew n).trans (Chg.set _ _ _ rfl))); have hl2 : LnAt w2 LB (nx s) := (by obtain ⟨n, rfl⟩ := hw2; exact (show LnAt w.drew LB s from ⟨HL.out.cell, HL.out.frozen⟩).set n (nx s)); have cb2 := hc2.cell HBX.out.cell HNE.out.1; have HC2 := Lib.hid hc2; have HL2 := Lib.hid hl2; clear hc2 hl2 hw2) | (go_simp; go_at_call 81; refine (HFD.out _ HC2.out).mono ?_; rintro _ w3 ⟨rfl, rfl⟩))
    all_goals
      clear cb2
      go_wp2_with fail
      go_meet
      exact ⟨rfl, rfl, HC2, HL2⟩
  case rest =>
    obtain ⟨W2, rfl⟩ : ∃ W : World, W = wc := ⟨_, rfl⟩
    obtain ⟨rfl, rfl, HC2, HL2⟩ := hcut
    obtain ⟨B, hB⟩ : ∃ B, W2.heap.size = B := ⟨_, rfl⟩
    go_upto_region 3 with fail
    have hc3 : Chg (fun k => k = LB) W2 (W2.alloc (.cells #[.slice none 0 0, .int .i64 tt] 80)) := Chg.alloc _ _
    have hl3 := HL2.out.chg (Chg.alloc (S := fun _ => False) W2 (.cells #[.slice none 0 0, .int .i64 tt] 80)) (fun h => h)
    have hb3 : (W2.alloc (.cells #[.slice none 0 0, .int .i64 tt] 80)).heap[B]? = some (.cells #[.slice none 0 0, .int .i64 tt] 80 (0, 0)) := by rw [← hB]; exact heap_alloc_at W2 _
    obtain ⟨W3, hW3⟩ : ∃ W, W2.alloc (.cells #[.slice none 0 0, .int .i64 tt] 80) = W := ⟨_, rfl⟩
    rw [hW3] at hc3 hl3 hb3 ⊢
    have HJ0 := Lib.hid (HST0.out B tt e6 W3 (HC2.out.trans hc3) hb3 hl3 rfl)
    have HRB := Lib.hid (show w.heap.size ≤ B by have := HC2.out.size; omega)
    have HE3 := Lib.hid (ended_any LB (nx s) W3 hl3.cell)
    rw [HBE.out] at HE3
    clear hc3 hl3 hb3 hB hW3 cbc lc HST0 HFD HW
    go_wp2_with (go_at_call 11; refine HE3.out.mono ?_; rintro _ w4 ⟨rfl, rfl⟩)
    go_loopg [6, 8] (s.length + 1) (fun g e f wr => ∃ (er : Int) (b : Bool) (sS : Value) (rows : List (List Value)) (done : List Se) (s1 : Bs) (n : Nat), n ≤ g ∧ e = .int .i64 er ∧ f = .bool b ∧ Hid (StpJ D LB B q ip t r tt w s O b er n sS rows done s1 wr))
    case atStart => exact ⟨e6, !bE, _, _, _, _, _, Nat.le_refl _, rfl, rfl, HJ0⟩
    case round =>
      obtain ⟨er, b, sS, rows, done, s1, n, hng, rfl, rfl, HJ⟩ := hrel
      have hc := HJ.out.chg
      by_cases hgo : b = true ∧ er = 0
      · obtain ⟨rfl, rfl⟩ := hgo
        obtain ⟨g1, g2, g3⟩ := HJ.out.goes rfl rfl
        obtain ⟨n', rfl⟩ : ∃ n', n = n' + 1 := ⟨n - 1, by omega⟩
        obtain ⟨o1, ho1, ho2⟩ := sets_unroll g3 (by obtain ⟨oo, h1, -⟩ := HO.out; rw [h1]; exact fun h => by cases h)
        have HOO := Lib.hid ho2
        have HM := Lib.hid g2
        obtain ⟨V, hV⟩ : ∃ V, wr.heap.size = V := ⟨_, rfl⟩
        have hVB : B < V := by rw [← hV]; exact (Array.getElem?_eq_some_iff.1 HJ.out.blk).1
        have hVL : V ≠ LB := by have := HLLT.out; have := HRB.out; omega
        have c5 : Chg (fun _ => False) wr (wr.alloc (.cells #[.int .i64 0, .slice none 0 0] 86)) := Chg.alloc _ _
        have h5 : (wr.alloc (.cells #[.int .i64 0, .slice none 0 0] 86)).heap[V]? = some (.cells #[.int .i64 0, .slice none 0 0] 86 (0, 0)) := by rw [← hV]; exact heap_alloc_at wr _
        have hz5 : (wr.alloc (.cells #[.int .i64 0, .slice none 0 0] 86)).heap.size = V + 1 := by rw [← hV]; simp
        go_upto_region 6 with fail
        obtain ⟨W5, hW5⟩ : ∃ W, wr.alloc (.cells #[.int .i64 0, .slice none 0 0] 86) = W := ⟨_, rfl⟩
        rw [hW5] at c5 h5 hz5 ⊢
        have c05 := hc.trans (c5.mono fun _ h => h.elim)
        have sc := c05.cell HSC.out HNE.out.2
        have HS6 := Lib.hid (HST.out W5 c05 s1 (by have := HS.out; omega) o1 ho1 ((HJ.out.line rfl).chg c5 (fun h => h)))
        have hent := ent_set
        unfold I.Ent at hent
        have HC5 := Lib.hid c5
        have HZ5 := Lib.hid hz5
        have H5 := Lib.hid h5
        have HV := Lib.hid (And.intro hV (And.intro hVB hVL))
        clear c5 h5 hz5 hV hVB hVL c05 hW5 ho1 ho2 g1 g2 g3 hc
        go_upto_region 7 with (go_at_call 115; refine HS6.out.mono ?_; rintro _ w6 ⟨v, _, fol, er6, rfl, ⟨a6, n6, k6, rfl⟩, hc6, ho6⟩; have h6 := hc6.heap H5.out HV.out.2.2; have b60 : w6.cell? ⟨V, 0, none⟩ = some (.int .i64 0) := (by rw [cell_of_row _ _ _ _ _ _ h6]; rfl); have b61 : w6.cell? ⟨V, 1, none⟩ = some (.slice none 0 0) := (by rw [cell_of_row _ _ _ _ _ _ h6]; rfl); have g60 : w6.frozen? ⟨V, 0, none⟩ = false := (row_cell h6 (by simp)).choose_spec.2; have g61 : w6.frozen? ⟨V, 1, none⟩ = false := (row_cell h6 (by simp)).choose_spec.2; have HC6 := Lib.hid hc6; have HO6 := Lib.hid ho6; clear hc6 ho6 h6)
        obtain ⟨q0, q1⟩ := two_set w6 V (.int .i64 v) (.slice a6 n6 k6) b60 b61
        have c7 : Chg (fun k => k = V) w6 ((w6.setCell ⟨V, 0, none⟩ (.int .i64 v)).setCell ⟨V, 1, none⟩ (.slice a6 n6 k6)) := (Chg.set (S := fun k => k = V) w6 0 _ rfl).trans (Chg.set _ 1 _ rfl)
        have q2 : ((w6.setCell ⟨V, 0, none⟩ (.int .i64 v)).setCell ⟨V, 1, none⟩ (.slice a6 n6 k6)).cell? ⟨V, 0, none⟩ = some (.int .i64 v) := by
          rw [World.cell?_setCell_other _ ⟨V, 1, none⟩ ⟨V, 0, none⟩ _ (by intro e; injection e; omega)]
          exact q0
        obtain ⟨W7, hW7⟩ : ∃ W, (w6.setCell ⟨V, 0, none⟩ (.int .i64 v)).setCell ⟨V, 1, none⟩ (.slice a6 n6 k6) = W := ⟨_, rfl⟩
        rw [hW7] at q1 q2 c7 ⊢
        have h7 := c7.heap (HC6.out.heap (HC5.out.heap HJ.out.blk (fun h => h)) (by have := HLLT.out; have := HRB.out; omega)) (show B ≠ V by have := HV.out; omega)
        have r70 : W7.cell? ⟨B, 0, none⟩ = some sS := by rw [cell_of_row _ _ _ _ _ _ h7]; rfl
        have r7f : W7.frozen? ⟨B, 0, none⟩ = false := (row_cell h7 (by simp)).choose_spec.2
        have o7 : W7.ownsRow (B + 1) 86 2 sS rows.length rows.flatten := c7.own (HC6.out.own (HC5.out.own HJ.out.own (fun _ _ h => h)) (fun k hk e => by have := own_block_lt HJ.out.own hk; have := HLLT.out; have := HRB.out; omega)) (fun k hk e => by have := own_block_lt HJ.out.own hk; have := HV.out; omega)
        have HO7 := Lib.hid o7
        have HC7 := Lib.hid c7
        have hBlt : B + 1 ≤ W7.heap.size := (Array.getElem?_eq_some_iff.1 h7).1
        have HBLT := Lib.hid hBlt
        have HR0 := Lib.hid r70
        have HRF := Lib.hid r7f
        have hnS : ¬ sS.ownBlock = some B := fun e => by have := own_block_lt o7 e; omega
        have HNS := Lib.hid hnS
        have HR1 := Lib.hid (show rows.length + 1 ≤ maxLen by have := HM.out; have := HS.out; unfold maxLen; omega)
        have HR2 := Lib.hid (show (rows.length + 1) * 32 ≤ 140737488355328 by have := HM.out; have := HS.out; omega)
        have HAL := Lib.hid (show Below W7.heap.size W7 (W7.alloc (.cells #[.int .i64 v, .slice a6 n6 k6] 86)) from (Below.refl _ _).alloc (Nat.le_refl _) _)
        have HS1 := Lib.hid (show B + 1 ≤ (W7.alloc (.cells #[.int .i64 v, .slice a6 n6 k6] 86)).heap.size by simp; omega)
        obtain ⟨i0, hi, hz0, hz1, hz2⟩ := info_set
        clear q0 c7 h7 o7 hBlt hnS hW7 b60 b61 g60 g61 sc r7f hent
        go_wp2_with (at_builtin; go_must (refine wpList_append_lies _ rfl _ _ 78 rfl (B + 1) 86 i0 (.agg #[.int .i64 0, .slice none 0 0]) 2 32 Tryz.underlying78 hi hz0 hz1 hz2 rfl (by decide) _ _ _ rfl (World.ownsRow.alloc HO7.out _) ⟨W7.heap.size, 0, none⟩ 1 1 [.int .i64 v, .slice a6 n6 k6] rfl rfl (fun j u hj => new_row _ #[.int .i64 v, .slice a6 n6 k6] _ _ rfl j u hj) (two_cells _ _ _ _) (by decide) HR1.out HR2.out HS1.out _ rfl ?_); intro g8 cap8 w8 hown8 hgrow8 hblk8 hlt8; have HA := Lib.hid (App.of (D := B) HAL.out hown8 hgrow8 (hblk8.elim (fun e => Or.inl e.symm) (fun e => Or.inr (by rw [e]; rfl)))); have c8 := HA.out.chg.cell HR0.out HNS.out; have f8 := (HA.out.chg.frozens (Nat.lt_of_succ_le HBLT.out) HNS.out 0).trans HRF.out; clear hown8 hgrow8 hblk8 hlt8)
        have hj9 := StpJ.next (fol := fol) (er := er6) HJ.out HLLT.out HRB.out (fun k hk => (HD.out.open_ge hk).2) HC5.out (by rw [HZ5.out, HV.out.1]) HC6.out (by have h9 := HO6.out; cases o1 with | error e => exact h9 | ok x => exact h9) HOO.out (by rw [HV.out.1]; exact HC7.out) HA.out
        obtain ⟨done', s2, hj9⟩ := hj9
        have HJ9 := Lib.hid hj9
        clear hj9
        go_roundg n'
        case measure => omega
        case rel => exact ⟨er6, fol, _, _, done', s2, n', Nat.le_refl _, rfl, rfl, HJ9⟩
      · have hd := HKD.out wr hc
        have cbc := hc.cell HBX.out.cell HNE.out.1
        obtain ⟨gR, cap, hru, hgD, hgl, hcells⟩ := hd.last HT.out.1
        have HRO := Lib.hid (ruleOf_any hd HT.out.1 hru HT.out.2.1)
        have HRU := Lib.hid hru
        have HDR := Lib.hid hd
        have HGR := Lib.hid (And.intro hgD hgl)
        have hout : (b = false ∧ er = 0) ∨ er ≠ 0 := by
          by_cases h0 : er = 0
          · left
            refine ⟨?_, h0⟩
            cases b with
            | false => rfl
            | true => exact absurd ⟨rfl, h0⟩ hgo
          · exact Or.inr h0
        have HOUT := Lib.hid hout
        have HCELLS := Lib.hid hcells
        obtain ⟨m, hm⟩ : ∃ m, rs.length = m := ⟨_, rfl⟩
        rw [hm] at HRO
        have HMM := Lib.hid hm
        clear hd hru hgD hgl hcells hgo hm hc
        have hparts : (b = false ∧ er = 0) ∨ (b = false ∧ (er == 0) = false) ∨ (b = true ∧ (er == 0) = false) := by
          rcases hout with h | h
          · exact Or.inl h
          · have hbe : (er == 0) = false := beq_eq_false_iff_ne.2 h
            cases b with
            | false => exact Or.inr (Or.inl ⟨rfl, hbe⟩)
            | true => exact Or.inr (Or.inr ⟨rfl, hbe⟩)
        clear hout
        rcases hparts with ⟨rfl, rfl⟩ | ⟨rfl, hbe⟩ | ⟨rfl, hbe⟩
        all_goals
          go_upto_region 9 with (go_at_call 29; refine HRO.out.mono ?_; rintro _ w6 ⟨rfl, n6, rfl⟩)
          have hgr : Below wr.heap.size wr (wr.drewN n6) := below_drewN (Below.refl _ _) n6
          obtain ⟨W6, hW6⟩ : ∃ W, wr.drewN n6 = W := ⟨_, rfl⟩
          rw [hW6] at hgr ⊢
          have hd6 := HDR.out.grow hgr
          have HD6 := Lib.hid hd6
          have HGR6 := Lib.hid hgr
          obtain ⟨gS, fS⟩ := HCELLS.out 4 (q.val (.s rs.length)) rfl
          rw [HMM.out] at gS fS
          have g6 := kept_cell hgr gS
          have f6 := (hgr.frozen (p := ⟨gR, m * 5 + 4, none⟩) HGR.out.2).trans fS
          have hblk6 := (Chg.of (S := fun _ => False) hgr).heap HJ.out.blk (fun h => h)
          have b60 : W6.cell? ⟨B, 0, none⟩ = some sS := by rw [cell_of_row _ _ _ _ _ _ hblk6]; rfl
          have b61 : W6.cell? ⟨B, 1, none⟩ = some (.int .i64 tt) := by rw [cell_of_row _ _ _ _ _ _ hblk6]; rfl
          obtain ⟨aS, capS, hsS⟩ := own_shape5 HJ.out.own
          subst hsS
          have hsl2 : (q.sl m).length = r.steps.length := by
            have := (hd6.closed.out (fix_mono q t)) rs.length r (by rw [HT.out.1]; simp)
            rw [HMM.out] at this
            exact this.2.2.1
          have HOS := Lib.hid (hd6.rows.own (.s m))
          have hnR : ¬ (q.val (.s m)).ownBlock = some gR := fun e => by
            have := hd6.rows.one (.s m) .ru gR e (by rw [HRU.out]; rfl)
            cases this
          have hnB : ¬ (q.val (.s m)).ownBlock = some B := fun e => by
            have h1 := own_block_lt (HD.out.rows.own (.s m)) e
            have := HRB.out
            omega
          obtain ⟨vS, hvS⟩ : ∃ v, q.val (.s m) = v := ⟨_, rfl⟩
          have HNR := Lib.hid hnR
          have HNB := Lib.hid hnB
          rw [hvS] at HOS HNR HNB
          rw [hvS] at g6
          have HVS := Lib.hid hvS
          have HG6 := Lib.hid g6
          have HF6 := Lib.hid f6
          have HB0 := Lib.hid b60
          have HB1 := Lib.hid b61
          have HR1 := Lib.hid (show (q.sl m).length + 1 ≤ maxLen by rw [hsl2]; have := HT.out.2.2.1; unfold maxLen; omega)
          have HR2 := Lib.hid (show ((q.sl m).length + 1) * 32 ≤ 140737488355328 by rw [hsl2]; have := HT.out.2.2.1; omega)
          obtain ⟨i0, hi, hz0, hz1, hz2⟩ := info_step
          clear hd6 hgr hW6 gS fS f6 hblk6 hsl2 hnR hnB hvS cbc
          have HB62 := Lib.hid (show Below W6.heap.size W6 (W6.drew.alloc (.cells #[.slice aS rows.length capS, .int .i64 tt] 80)) from ((Below.refl W6.heap.size W6).drew).alloc (Nat.le_refl _) _)
          have HS1 := Lib.hid (show D + 1 ≤ (W6.drew.alloc (.cells #[.slice aS rows.length capS, .int .i64 tt] 80)).heap.size by have := HB62.out.size; have := HD6.out.lt; omega)
          have g6a := alloc_cell (.cells #[.slice aS rows.length capS, .int .i64 tt] 80) g6
          go_region_law (refine step_append_all rfl _ _ 56 rfl (D + 1) 80 i0 (.agg #[.slice none 0 0, .int .i64 0]) 2 32 Tryz.underlying56 hi hz0 hz1 hz2 rfl (by decide) vS (q.sl m).length (q.sl m).flatten rfl (World.ownsRow.alloc HOS.out _) (some ⟨W6.heap.size, 0, none⟩) 1 1 [.slice aS rows.length capS, .int .i64 tt] rfl rfl (fun h => by cases h) (fun ad hd j u hj => new_row _ #[.slice aS rows.length capS, .int .i64 tt] _ _ hd j u hj) (two_cells2 _ _ _ _) HR1.out HR2.out HS1.out ?_; intro v' w7 hown7 hgrow7 hblk7; have HA := Lib.hid (App.of HB62.out hown7 hgrow7 hblk7); have g7 := HA.out.chg.cell HG6.out HNR.out; have f7 := (HA.out.chg.frozens (World.block_lt_of_cell? W6 _ HG6.out) HNR.out (m * 5 + 4)).trans HF6.out; obtain ⟨a7, cap7, hv7⟩ := own_shape5 hown7; subst hv7; clear hown7 hgrow7 hblk7)
          all_goals
            clear g7 f7 g6a g6 b60 b61
            go_wp2_with fail
            go_ret
            have hc7 : Chg (Opn D (fun k => k = LB) q.val) W6 (w7.setCell ⟨gR, m * 5 + 4, none⟩ (.slice a7 ((q.sl m).length + 1) cap7)) := (HA.out.chg.mono fun k hk => Or.inr (Or.inr ⟨.s m, by rw [HVS.out]; exact hk⟩)).trans (Chg.set _ _ _ (Or.inr (Or.inr ⟨.ru, by rw [HRU.out]; rfl⟩)))
            have hfr : Fr D LB q.val q.val w W6 := (Fr.line HJ.out.chg).trans (Fr.of HGR6.out)
            refine ⟨hfr.chg.trans hc7, ?_⟩
            obtain ⟨oo, hO1, ho1⟩ := HO.out
            rcases HOUT.out with ⟨hb0, h0⟩ | h0
            · have hO2 := HJ.out.stop (by first | rfl | exact h0) (by first | rfl | exact hb0)
              rw [hO1] at hO2
              cases hO2
              rw [ho1]
              dsimp only
              rw [lastR_of HT.out.1]
              have hrel : Closed (Opn D (fun k => k = LB) q.val) W6 fun F => Rel (SeIs F) 2 rows done := (HJ.out.rel (by first | rfl | exact h0)).step (Chg.of (S := fun _ => False) HGR6.out) (fun _ h _ => h.elim) fun k hk _ => Or.inl hk
              have hoS := (Chg.of (S := fun _ => False) HGR6.out).own HJ.out.own fun _ _ h => h
              have hf : Closed (Opn D (fun k => k = LB) q.val) W6 fun F => SpIs F [.slice aS rows.length capS, .int .i64 tt] ⟨done, tt⟩ := hrel.more (rel_mono rows done) fun F hF hP =>
                ⟨_, rfl, slof_shut hF (slof_own hoS hP.1 hP.1.symm hP.lens fun j x cs h1 h2 => hP.2 j cs x h2 h1) fun k hk ho => by
                  have h1 := own_block_lt hoS hk
                  have h2 := (HD.out.open_ge ho).2
                  have := HRB.out
                  omega⟩
              obtain ⟨q', hq', hop'⟩ := HD6.out.push_sp HT.out.2.2.2 HT.out.1 ⟨done, tt⟩ _ hf (by rw [HMM.out, HVS.out]; exact HA.out) HRU.out
              rw [HMM.out] at hq'
              exact ⟨ret_int (by first | rfl | exact h0), q', hq', hfr.trans ⟨hc7, hop'⟩, fun h => by have := HT.out.2.2.2; omega, fun h => by have := HT.out.2.2.2; omega⟩
            · have hO2 := HJ.out.bad h0
              rw [hO1] at hO2
              cases hO2
              rw [ho1]
              exact ⟨rfl, h0⟩
end
end Go.Proofs.YtfooiggedgcjcaaGreatDoor.T

namespace Go.Proofs.YtfooiggedgcjcaaGreatDoor.T
open Go Go.RowKit Go.Proofs.YtfooiggedgcjcaaGreatDoor.B Go.Proofs.YtfooiggedgcjcaaGreatDoor.K Go.Proofs.YtfooiggedgcjcaaGreatDoor.E Go.Proofs.YtfooiggedgcjcaaGreatDoor.R
set_option linter.unusedVariables false

section
variable {D LB : Nat} {X : Nat → Prop} {t : Tb} {said : Nat} {q : Dq} {w : World}

/-- The box of a draft, as it is made. -/
theorem box_new (h : Dr D X t said q w) (T : TypeId) : Box D X q.val w.heap.size (w.alloc (.cells #[.pointer (some ⟨D, 0, none⟩)] T)) :=
  ⟨by rw [cell_of_row _ _ _ _ _ _ (heap_alloc_at w _)]; rfl, fun ho => by have := (h.open_ge ho).2; omega⟩
theorem grown_new (w : World) (o : Obj) : Below w.heap.size w (w.alloc o) := (Below.refl _ _).alloc (Nat.le_refl _) _

def Mk1 (D : Nat) (X : Nat → Prop) (q : Dq) (N : Nat) (w : World) (z : Ending) (w' : World) : Prop :=
  ∃ cb, z = .returned (.func (.func N) #[] #[.pointer (some ⟨cb, 0, none⟩)]) ∧ Below w.heap.size w w' ∧ Box D X q.val cb w'

theorem states_mk (h : Dr D X t said q w) : Calls Tryz.prog 26 #[.pointer (some ⟨D, 0, none⟩)] w (Mk1 D X q 66 w) := by
  have HB := Lib.hid (fun T => box_new h T)
  clear h
  go_enter Tryz.func26, Tryz.ntmps26
  go_wp2_with fail
  go_ret
  exact ⟨_, rfl, grown_new w _, HB.out _⟩
theorem vars_mk (h : Dr D X t said q w) : Calls Tryz.prog 27 #[.pointer (some ⟨D, 0, none⟩)] w (Mk1 D X q 72 w) := by
  have HB := Lib.hid (fun T => box_new h T)
  clear h
  go_enter Tryz.func27, Tryz.ntmps27
  go_wp2_with fail
  go_ret
  exact ⟨_, rfl, grown_new w _, HB.out _⟩
theorem rule_mk (h : Dr D X t said q w) : Calls Tryz.prog 28 #[.pointer (some ⟨D, 0, none⟩)] w (Mk1 D X q 75 w) := by
  have HB := Lib.hid (fun T => box_new h T)
  clear h
  go_enter Tryz.func28, Tryz.ntmps28
  go_wp2_with fail
  go_ret
  exact ⟨_, rfl, grown_new w _, HB.out _⟩
theorem expr_mk (h : Dr D X t said q w) : Calls Tryz.prog 77 #[.pointer (some ⟨D, 0, none⟩)] w (Mk1 D X q 113 w) := by
  have HB := Lib.hid (fun T => box_new h T)
  clear h
  go_enter Tryz.func77, Tryz.ntmps77
  go_wp2_with fail
  go_ret
  exact ⟨_, rfl, grown_new w _, HB.out _⟩

theorem Box.below {val : Ix → Value} {cb : Nat} {w' : World} (h : Box D X val cb w) (hb : Below w.heap.size w w') : Box D X val cb w' := h.step (Chg.of (S := fun _ => False) hb) (fun _ h _ => h.elim) fun _ h _ => h
theorem ExBox.below {val : Ix → Value} {cb : Nat} {w' : World} (h : ExBox D X val cb w) (hb : Below w.heap.size w w') : ExBox D X val cb w' := h.step (Chg.of (S := fun _ => False) hb) (fun _ h _ => h.elim) fun _ h _ => h

theorem ex_new {cb : Nat} (h : Dr D X t said q w) (hb : Box D X q.val cb w) (T : TypeId) : ExBox D X q.val w.heap.size (w.alloc (.cells #[.func (.func 113) #[] #[.pointer (some ⟨cb, 0, none⟩)]] T)) :=
  ⟨⟨cb, by rw [cell_of_row _ _ _ _ _ _ (heap_alloc_at w _)]; rfl, hb.below (grown_new _ _)⟩, fun ho => by have := (h.open_ge ho).2; omega⟩
theorem se_new {cb eb : Nat} (h : Dr D X t said q w) (hb : Box D X q.val cb w) (he : ExBox D X q.val eb w) (T : TypeId) : SeBox D X q.val w.heap.size (w.alloc (.cells #[.func (.func 115) #[] #[.pointer (some ⟨cb, 0, none⟩), .pointer (some ⟨eb, 0, none⟩)]] T)) :=
  ⟨⟨cb, eb, by rw [cell_of_row _ _ _ _ _ _ (heap_alloc_at w _)]; rfl, hb.below (grown_new _ _), he.below (grown_new _ _)⟩, fun ho => by have := (h.open_ge ho).2; omega⟩

theorem guard_mk (h : Dr D X t said q w) : Calls Tryz.prog 30 #[.pointer (some ⟨D, 0, none⟩)] w fun z w' => ∃ eb cb, z = .returned (.func (.func 78) #[] #[.pointer (some ⟨eb, 0, none⟩), .pointer (some ⟨cb, 0, none⟩)]) ∧ Below w.heap.size w w' ∧ Box D X q.val cb w' ∧ ExBox D X q.val eb w' := by
  have HB := Lib.hid (fun T => box_new h T)
  have HE := Lib.hid (fun W (hW : Below w.heap.size w W) => expr_mk (h.grow hW))
  have HD := Lib.hid h
  clear h
  go_enter Tryz.func30, Tryz.ntmps30
  go_wp2_with (go_at_call 77; refine (HE.out _ (grown_new w _)).mono ?_; rintro _ w2 ⟨cb2, rfl, hb2, hx2⟩; have HB2 := Lib.hid hb2; have HX2 := Lib.hid hx2; clear hb2 hx2)
  go_ret
  have hz := (grown_new w _).trans (HB2.out.mono (grown_new w _).size)
  exact ⟨_, _, rfl, hz.trans ((grown_new w2 _).mono hz.size), ((HB.out _).below HB2.out).below (grown_new w2 _), ex_new (HD.out.grow hz) HX2.out _⟩
theorem set_mk (h : Dr D X t said q w) : Calls Tryz.prog 79 #[.pointer (some ⟨D, 0, none⟩)] w fun z w' => ∃ cb eb, z = .returned (.func (.func 115) #[] #[.pointer (some ⟨cb, 0, none⟩), .pointer (some ⟨eb, 0, none⟩)]) ∧ Below w.heap.size w w' ∧ Box D X q.val cb w' ∧ ExBox D X q.val eb w' := by
  have HB := Lib.hid (fun T => box_new h T)
  have HE := Lib.hid (fun W (hW : Below w.heap.size w W) => expr_mk (h.grow hW))
  have HD := Lib.hid h
  clear h
  go_enter Tryz.func79, Tryz.ntmps79
  go_wp2_with (go_at_call 77; refine (HE.out _ (grown_new w _)).mono ?_; rintro _ w2 ⟨cb2, rfl, hb2, hx2⟩; have HB2 := Lib.hid hb2; have HX2 := Lib.hid hx2; clear hb2 hx2)
  go_ret
  have hz := (grown_new w _).trans (HB2.out.mono (grown_new w _).size)
  exact ⟨_, _, rfl, hz.trans ((grown_new w2 _).mono hz.size), ((HB.out _).below HB2.out).below (grown_new w2 _), ex_new (HD.out.grow hz) HX2.out _⟩
theorem step_mk (h : Dr D X t said q w) : Calls Tryz.prog 31 #[.pointer (some ⟨D, 0, none⟩)] w fun z w' => ∃ cb sb, z = .returned (.func (.func 80) #[] #[.pointer (some ⟨cb, 0, none⟩), .pointer (some ⟨sb, 0, none⟩)]) ∧ Below w.heap.size w w' ∧ Box D X q.val cb w' ∧ SeBox D X q.val sb w' := by
  have HB := Lib.hid (fun T => box_new h T)
  have HE := Lib.hid (fun W (hW : Below w.heap.size w W) => set_mk (h.grow hW))
  have HD := Lib.hid h
  clear h
  go_enter Tryz.func31, Tryz.ntmps31
  go_wp2_with (go_at_call 79; refine (HE.out _ (grown_new w _)).mono ?_; rintro _ w2 ⟨cb2, eb2, rfl, hb2, hx2, he2⟩; have HB2 := Lib.hid hb2; have HX2 := Lib.hid hx2; have HE2 := Lib.hid he2; clear hb2 hx2 he2)
  go_ret
  have hz := (grown_new w _).trans (HB2.out.mono (grown_new w _).size)
  exact ⟨_, _, rfl, hz.trans ((grown_new w2 _).mono hz.size), ((HB.out _).below HB2.out).below (grown_new w2 _), se_new (HD.out.grow hz) HX2.out HE2.out _⟩
end
end Go.Proofs.YtfooiggedgcjcaaGreatDoor.T

namespace Go.Proofs.YtfooiggedgcjcaaGreatDoor.T
open Go Go.RowKit Go.Proofs.YtfooiggedgcjcaaGreatDoor.B Go.Proofs.YtfooiggedgcjcaaGreatDoor.K Go.Proofs.YtfooiggedgcjcaaGreatDoor.E Go.Proofs.YtfooiggedgcjcaaGreatDoor.R
set_option linter.unusedVariables false

/-- The bounds of a table that is read. -/
structure TbN (t : Tb) (said : Nat) : Prop where
  st0 : said = 0 → t.states = []
  va0 : said < 2 → t.vars = [] ∧ t.start = []
  va : t.vars.length ≤ 10000
  nm : ∀ x ∈ t.vars, I.isName x = true
  rn : t.rules.length ≤ said
  rl : ∀ r ∈ t.rules, r.guards.length ≤ said ∧ r.steps.length ≤ said ∧ 0 ≤ r.args ∧ r.args ≤ 1099511627776
theorem TbN.empty : TbN T.empty 0 := ⟨fun _ => rfl, fun _ => ⟨rfl, rfl⟩, by simp [T.empty], by simp [T.empty], by simp [T.empty], by simp [T.empty]⟩

theorem words_le (n : Nat) : ∀ s : Bs, s.length ≤ n → (words s).length ≤ s.length + 1 := by
  induction n with
  | zero =>
    intro s hs
    have : s = [] := List.eq_nil_of_length_eq_zero (by omega)
    subst this
    rw [words_cons, nx_nil, if_pos rfl]
    simp
  | succ n ih =>
    intro s hs
    rw [words_cons]
    by_cases h : nx s = []
    · rw [if_pos h]; simp
    · rw [if_neg h]
      have h0 : s ≠ [] := by rintro rfl; exact h nx_nil
      have h1 := nx_lt s h0
      have := ih (nx s) (by omega)
      simp
      omega
theorem vrItems_some : ∀ (ws : List Bs) (l : List (Bs × Int)), vrItems ws = some l → l.length = ws.length ∧ ∀ x ∈ l.map (·.1), I.isName x = true
  | [], l, h => by cases h; simp
  | w :: r, l, h => by
    rw [vrItems] at h
    cases hw : vrItem w with
    | none => rw [hw] at h; cases h
    | some p =>
      rw [hw] at h
      cases hr : vrItems r with
      | none => rw [hr] at h; cases h
      | some l2 =>
        rw [hr] at h
        cases h
        obtain ⟨h1, h2⟩ := vrItems_some r l2 hr
        have hp : I.isName p.1 = true := by
          unfold vrItem at hw
          by_cases hc : (numOf (past 61 w) (-1099511627776)).2 = 0 ∧ I.isName (upTo 61 w) = true
          · rw [if_pos hc] at hw; cases hw; exact hc.2
          · rw [if_neg hc] at hw; cases hw
        refine ⟨by simp [h1], fun x hx => ?_⟩
        rcases List.mem_cons.1 hx with rfl | hx
        · exact hp
        · exact h2 x hx
theorem numOf_in (w : Bs) (least : Int) (h : (numOf w least).2 = 0) : least ≤ (numOf w least).1 ∧ (numOf w least).1 ≤ 1099511627776 := by
  rcases atoi_ends w with hq | hq | ⟨n, hq⟩
  · rw [numOf_syn w least hq] at h; cases h
  · rw [numOf_rng w least hq] at h; cases h
  · rw [numOf_ok w least n hq] at h ⊢
    by_cases hc : num n = w ∧ least ≤ n ∧ n ≤ 1099511627776
    · rw [if_pos hc]; exact hc.2
    · rw [if_neg hc] at h; cases h

theorem lastR_snoc {t : Tb} {r : Rl} (h : t.rules.getLast? = some r) : ∃ rs, t.rules = rs ++ [r] := by
  obtain ⟨rs, hr⟩ := List.getLast?_eq_some_iff.1 h
  exact ⟨rs, hr⟩

theorem TbN.last {t : Tb} {said : Nat} (h : TbN t said) {rs : List Rl} {r : Rl} (ht : t.rules = rs ++ [r]) (f : Rl → Rl) (hf : (f r).guards.length ≤ said + 1 ∧ (f r).steps.length ≤ said + 1 ∧ (f r).args = r.args) : TbN (lastR t f) (said + 1) := by
  rw [lastR_of ht]
  have hr := h.rl r (by rw [ht]; simp)
  refine ⟨fun e => by omega, fun e => h.va0 (by omega), h.va, h.nm, ?_, fun x hx => ?_⟩
  · have := h.rn
    rw [ht] at this
    simp at this ⊢
    omega
  · rcases List.mem_append.1 hx with hx | hx
    · have := h.rl x (by rw [ht]; exact List.mem_append_left _ hx)
      omega
    · simp at hx
      subst hx
      rw [hf.2.2]
      exact ⟨hf.1, hf.2.1, hr.2.2⟩

theorem TbN.line {ip : Ip} {t u : Tb} {said : Nat} {s : Bs} (h : TbN t said) (hs : s.length ≤ 8192) (hl : T.line ip t said s = some (.ok u)) : TbN u (said + 1) := by
  have hna := nx_le s
  unfold T.line at hl
  by_cases c1 : wd s = wStates ∧ said = 0
  · rw [if_pos c1] at hl
    unfold stLine at hl
    by_cases ha : (words (nx s)).all I.isName = true
    · rw [if_pos ha] at hl
      cases hl
      exact ⟨fun e => by omega, fun e => h.va0 (by omega), h.va, h.nm, Nat.le_succ_of_le h.rn, fun r hr => by have := h.rl r hr; omega⟩
    · rw [if_neg ha] at hl; cases hl
  · rw [if_neg c1] at hl
    by_cases c2 : wd s = wVars ∧ said = 1
    · rw [if_pos c2] at hl
      unfold vrLine at hl
      cases hv : vrItems (if nx s = [] then [] else words (nx s)) with
      | none => rw [hv] at hl; cases hl
      | some l =>
        rw [hv] at hl
        cases hl
        obtain ⟨h1, h2⟩ := vrItems_some _ l hv
        have h3 := words_le _ (nx s) (Nat.le_refl _)
        have h4 : l.length ≤ 8193 := by
          rw [h1]
          split
          · simp
          · omega
        obtain ⟨h5, h6⟩ := h.va0 (by omega)
        refine ⟨fun e => by omega, fun e => by omega, ?_, fun x hx => ?_, Nat.le_succ_of_le h.rn, fun r hr => by have := h.rl r hr; omega⟩
        · rw [h5]; simp; omega
        · rw [h5] at hx
          exact h2 x (by simpa using hx)
    · rw [if_neg c2] at hl
      by_cases c3 : wd s = wRule ∧ 2 ≤ said
      · rw [if_pos c3] at hl
        unfold rlLine at hl
        by_cases d1 : I.isName (wd (nx s)) = false
        · rw [if_pos d1] at hl; cases hl
        · rw [if_neg d1] at hl
          by_cases d2 : (numOf (wd (nx (nx s))) 0).2 ≠ 0
          · rw [if_pos d2] at hl; cases hl
          · rw [if_neg d2] at hl
            have hn := numOf_in _ _ (Classical.not_not.1 d2)
            cases hf : rlFrom t (nx (nx (nx s))) with
            | error e => rw [hf] at hl; cases hl
            | ok l =>
              rw [hf] at hl
              cases hl
              refine ⟨fun e => by omega, fun e => by omega, h.va, h.nm, ?_, fun r hr => ?_⟩
              · have := h.rn; simp; omega
              · rcases List.mem_append.1 hr with hr | hr
                · have := h.rl r hr; omega
                · simp at hr
                  subst hr
                  exact ⟨by simp, by simp, hn.1, hn.2⟩
      · rw [if_neg c3] at hl
        cases hg : t.rules.getLast? with
        | none => rw [hg] at hl; cases hl
        | some r =>
          rw [hg] at hl
          obtain ⟨rs, hr⟩ := lastR_snoc hg
          have hrl := h.rl r (by rw [hr]; simp)
          dsimp only at hl
          by_cases c4 : wd s = wGuard ∧ r.steps = []
          · rw [if_pos c4] at hl
            unfold gdLine at hl
            by_cases d1 : (numOf (wd (nx s)) 0).2 ≠ 0
            · rw [if_pos d1] at hl; cases hl
            · rw [if_neg d1] at hl
              cases hi : ip (nx (nx s)) t.vars r.args with
              | none => rw [hi] at hl; cases hl
              | some x =>
                rw [hi] at hl
                dsimp only at hl
                by_cases d2 : x.2 ≠ 0
                · rw [if_pos d2] at hl; cases hl
                · rw [if_neg d2] at hl
                  cases hl
                  exact h.last hr _ ⟨by simp; omega, by dsimp only; omega, rfl⟩
          · rw [if_neg c4] at hl
            by_cases c5 : wd s = wStep
            · rw [if_pos c5, spLine_is] at hl
              cases ho : stOut ip t r (nx s) with
              | none => rw [ho] at hl; cases hl
              | some o =>
                rw [ho] at hl
                cases o with
                | error e => cases hl
                | ok l =>
                  cases hl
                  exact h.last hr _ ⟨by dsimp only; omega, by simp; omega, rfl⟩
            · rw [if_neg c5] at hl; cases hl
end Go.Proofs.YtfooiggedgcjcaaGreatDoor.T
