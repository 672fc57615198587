/-
  Layer 6: a rule's first line.
-/
import Derived.Test.YtfooiggedgcjcaaGreatDoorTPh
namespace Go.Proofs.YtfooiggedgcjcaaGreatDoor.T
open Go Go.RowKit Go.Proofs.YtfooiggedgcjcaaGreatDoor.B Go.Proofs.YtfooiggedgcjcaaGreatDoor.K Go.Proofs.YtfooiggedgcjcaaGreatDoor.E Go.Proofs.YtfooiggedgcjcaaGreatDoor.R
set_option linter.unusedVariables false

theorem info_rule : ∃ i, Tryz.prog.info? 58 = some i ∧ i.zero = some (.agg #[.string ⟨#[]⟩, .int .i64 0, .slice none 0 0, .slice none 0 0, .slice none 0 0]) ∧ i.size = 5 ∧ i.bytes = 96 := by
  have h : (Tryz.prog.info? 58).map (fun i => (i.zero, i.size, i.bytes)) = some (some (.agg #[.string ⟨#[]⟩, .int .i64 0, .slice none 0 0, .slice none 0 0, .slice none 0 0]), 5, 96) := by kernel_rfl
  obtain ⟨i, h1, h2⟩ := Option.map_eq_some_iff.1 h
  simp only [Prod.mk.injEq] at h2
  exact ⟨i, h1, h2.1, h2.2.1, h2.2.2⟩

/-- A row just made. -/
theorem new_row (w : World) (cs : Array Value) (e : TypeId) (ad : Addr) (h : some (⟨w.heap.size, 0, none⟩ : Addr) = some ad) (j : Nat) (u : Value) (hj : cs.toList[j]? = some u) : (w.alloc (.cells cs e)).cell? (ad.add j) = some u := by
  cases h
  rw [Go.WideShapes.add_plain, Nat.zero_add, cell_of_row _ _ _ _ _ _ (heap_alloc_at w _), ← Array.getElem?_toList]
  exact hj
theorem five_cells (s : ByteArray) (n : Int) (a : Option Addr) (l k : Nat) : ∀ u ∈ [Value.string s, .int .i64 n, .slice a l k, .slice none 0 0, .slice none 0 0], u.oneCell' = true := by
  intro u hu
  simp only [List.mem_cons, List.not_mem_nil, or_false] at hu
  rcases hu with rfl | rfl | rfl | rfl | rfl <;> rfl

/-- Has a line ended? -/
def isE (s : Bs) : Bool := s.isEmpty
theorem isE_yes {s : Bs} (h : isE s = true) : s = [] := by cases s with | nil => rfl | cons _ _ => cases h
theorem isE_no {s : Bs} (h : isE s = false) : s ≠ [] := by rintro rfl; cases h
theorem ended_any (g : Nat) (s : Bs) (w : World) (h : w.cell? ⟨g, 0, none⟩ = some (sv s)) :
    Calls Tryz.prog 11 #[.pointer (some ⟨g, 0, none⟩)] w fun e w' => e = .returned (.bool (isE s)) ∧ w = w' := by
  cases hs : isE s with
  | true => rw [isE_yes hs] at h; exact ended_yes g w h
  | false => exact ended_no g s (isE_no hs) w h

/-- Behind a rule's name and number, and where it is from. -/
def RuMid (D LB cb : Nat) (val0 : Ix → Value) (t : Tb) (said : Nat) (w0 : World) (s2 x : Bs) (a : Int) (rb : Nat) (s6 : Value) (w : World) : Prop :=
  ∃ q lv er, s6 = .int .i64 er ∧ Dr D (fun k => k = LB ∨ k = rb) t said q w ∧ Box D (fun k => k = LB ∨ k = rb) q.val cb w ∧ Fr D LB val0 q.val w0 w ∧ w.heap[rb]? = some (.cells #[sv x, .int .i64 a, lv, .slice none 0 0, .slice none 0 0] 58 (0, 0)) ∧ (∃ b n c, lv = .slice b n c) ∧
    ((er ≠ 0 ∧ rlFrom t s2 = .error er) ∨ (er = 0 ∧ ∃ l, rlFrom t s2 = .ok l ∧ SlN w lv l ∧ ∀ k, lv.ownBlock = some k → ¬ Opn D (fun k => k = LB ∨ k = rb) q.val k))

section
variable {D LB : Nat} {t : Tb} {said : Nat} {q : Dq} {w : World}

set_option maxHeartbeats 8000000 in
set_option maxRecDepth 100000 in
theorem rule1_any (cb : Nat) (s : Bs) (hs : s.length ≤ 99999) (ht : t.rules.length ≤ 100000) (h2 : 2 ≤ said) (h : Dr D (fun k => k = LB) t said q w) (hb : Box D (fun k => k = LB) q.val cb w) (hg : GlD D w) (hl : LnAt w LB s) :
    Calls Tryz.prog 75 #[.pointer (some ⟨LB, 0, none⟩), .pointer (some ⟨cb, 0, none⟩)] w (LnOut D LB q.val said (rlLine t s) w) := by
  have hwa := wd_le s
  have hna := nx_le s
  have hwb := wd_le (nx s)
  have hnb := nx_le (nx s)
  have HW := Lib.hid (word_any LB s (by omega) w hl.cell hl.frozen)
  have HRL : Hid (rlLine t s = if I.isName (wd s) = false then .error 6 else if (numOf (wd (nx s)) 0).2 ≠ 0 then .error (numOf (wd (nx s)) 0).2 else match rlFrom t (nx (nx s)) with
    | .ok l => .ok { t with rules := t.rules ++ [⟨wd s, (numOf (wd (nx s)) 0).1, l, [], []⟩] }
    | .error e => .error e) := Lib.hid rfl
  have HLQ := Lib.hid (fun n => hl.set n (nx s))
  have HDQ := Lib.hid (fun n => h.lined n (nx s))
  have HBQ := Lib.hid (fun n => hb.lined n (nx s))
  have HZQ := Lib.hid (fun n => Fr.lined (D := D) (LB := LB) (val := q.val) w n (nx s))
  have HD0 := Lib.hid h
  have HDQ2 := Lib.hid (fun n m => (h.lined n (nx s)).lined m (nx (nx s)))
  have HBQ2 := Lib.hid (fun n m => (hb.lined n (nx s)).lined m (nx (nx s)))
  have HLQ2 := Lib.hid (fun n m => (hl.set n (nx s)).set m (nx (nx s)))
  have HZQ2 := Lib.hid (fun n m => (Fr.lined (D := D) (LB := LB) (val := q.val) w n (nx s)).trans (Fr.lined _ m (nx (nx s))))
  have HG := Lib.hid hg
  have HS := Lib.hid (show s.length ≤ 99999 ∧ (wd s).length ≤ s.length ∧ (nx s).length ≤ s.length ∧ (wd (nx s)).length ≤ s.length ∧ (nx (nx s)).length ≤ s.length from ⟨hs, hwa, hna, by omega, by omega⟩)
  have HT := Lib.hid (And.intro ht h2)
  obtain ⟨x, hx⟩ : ∃ x, wd s = x := ⟨_, rfl⟩
  rw [hx] at HW HS
  have HX := Lib.hid hx
  clear h hb hg hl hs ht h2 hwa hna hwb hnb hx
  unfold sv at HW
  have HNA := Lib.hid (fun W (hW : I.Glob W) => I.name_any x W hW (by have := HS.out; omega))
  unfold sv at HNA
  cases hn : I.isName x with
  | false =>
    rw [hn] at HNA
    have HE := Lib.hid (show rlLine t s = .error 6 by rw [HRL.out, HX.out, if_pos hn])
    clear hn
    go_enter Tryz.func75, Tryz.ntmps75
    go_wp2_with (first | (go_at_call 13; refine HW.out.mono ?_; rintro _ w1 ⟨rfl, n1, rfl⟩) | (go_at_call 74; refine (HNA.out _ (HG.out.step ((HZQ.out n1).below HD0.out)).now.glob).mono ?_; rintro _ w2 ⟨rfl, rfl⟩))
    go_ret
    refine ⟨(HZQ.out n1).chg, ?_⟩
    rw [HE.out]
    exact ⟨rfl, by decide⟩
  | true =>
    rw [hn] at HNA
    have HN := Lib.hid hn
    clear hn
    have HW2 := Lib.hid (fun n => word_any LB (nx s) (by have := HS.out; omega) _ (HLQ.out n).cell (HLQ.out n).frozen)
    obtain ⟨y, hy⟩ : ∃ y, wd (nx s) = y := ⟨_, rfl⟩
    rw [hy] at HW2 HS HRL
    have HNU := Lib.hid (fun W (hW : Globs W) => number_any y 0 W hW (by have := HS.out; omega))
    have HCL := Lib.hid (fun W => I.clone_any x W (by have := HS.out; omega))
    obtain ⟨a, ha⟩ : ∃ a, (numOf y 0).1 = a := ⟨_, rfl⟩
    obtain ⟨er, her⟩ : ∃ er, (numOf y 0).2 = er := ⟨_, rfl⟩
    rw [ha, her] at HNU HRL
    clear hy ha her
    unfold sv at HW2 HNU HCL
    by_cases he : er = 0
    · subst he
      go_enter Tryz.func75, Tryz.ntmps75
      go_upto_if 28 with (first | (go_at_call 13; (first | (refine (HW2.out n1).mono ?_; rintro _ w3 ⟨rfl, n3, rfl⟩) | (refine HW.out.mono ?_; rintro _ w1 ⟨rfl, n1, rfl⟩))) | (go_at_call 74; refine (HNA.out _ (HG.out.step ((HZQ.out n1).below HD0.out)).now.glob).mono ?_; rintro _ w2 ⟨rfl, rfl⟩) | (go_at_call 73; refine (HNU.out _ (HG.out.step ((HZQ2.out n1 n3).below HD0.out)).now).mono ?_; rintro _ w4 ⟨rfl, hb4⟩; have HB4 := Lib.hid hb4; clear hb4) | (go_at_call 69; refine (HCL.out _).mono ?_; rintro _ w5 ⟨rfl, hb5⟩; have HB5 := Lib.hid hb5; have HL5 := Lib.hid (((HLQ2.out n1 n3).chg (Chg.of (S := fun _ => False) HB4.out) (fun h => h)).chg (Chg.of (S := fun _ => False) hb5) (fun h => h)); clear hb5) | (go_at_call 11; refine (ended_any LB (nx (nx s)) _ (HL5.out.chg (Chg.alloc (S := fun _ => False) _ _) (fun h => h)).cell).mono ?_; rintro _ w7 ⟨rfl, rfl⟩))
      obtain ⟨W5, hW5⟩ : ∃ W, W = w5.alloc (.cells #[.string (str x), .int .i64 a, .slice none 0 0, .slice none 0 0, .slice none 0 0] 58) := ⟨_, rfl⟩
      have hDa := ((HDQ2.out n1 n3).grow HB4.out).grow HB5.out
      have hBa := ((HBQ2.out n1 n3).step (Chg.of (S := fun _ => False) HB4.out) (fun _ h _ => h.elim) (fun _ h _ => h)).step (Chg.of (S := fun _ => False) HB5.out) (fun _ h _ => h.elim) (fun _ h _ => h)
      have hZa : Fr D LB q.val q.val w w5 := ((HZQ2.out n1 n3).trans (Fr.of HB4.out)).trans (Fr.of HB5.out)
      have hrb : W5.heap[w5.heap.size]? = some (.cells #[sv x, .int .i64 a, .slice none 0 0, .slice none 0 0, .slice none 0 0] 58 (0, 0)) := by rw [hW5]; exact heap_alloc_at _ _
      have hba : Below w5.heap.size w5 W5 := by rw [hW5]; exact (Below.refl _ _).alloc (Nat.le_refl _) _
      have hszW : W5.heap.size = w5.heap.size + 1 := by rw [hW5]; simp
      have hDD : Dr D (fun k => k = LB ∨ k = w5.heap.size) t said q W5 := hDa.keep (S := fun _ => False) (Chg.of hba) (fun _ h _ => h.elim) (fun k hk => by
        rcases hk with rfl | rfl
        · have := hDa.xD _ rfl; omega
        · have := hDa.lt; omega) (fun k hk hl => hk.resolve_right (by omega))
      have hBB : Box D (fun k => k = LB ∨ k = w5.heap.size) q.val cb W5 := hBa.step (Chg.of (S := fun _ => False) hba) (fun _ h _ => h.elim) (fun k hk hl => by
        rcases hk with hk | hk | hk
        · exact Or.inl hk
        · exact Or.inr (Or.inl (hk.resolve_right (by omega)))
        · exact Or.inr (Or.inr hk))
      have hZZ := hZa.trans (Fr.of hba)
      have hLL := HL5.out.chg (Chg.of (S := fun _ => False) hba) (fun h => h)
      rw [← hW5]
      obtain ⟨rb, hrbe⟩ : ∃ r, w5.heap.size = r := ⟨_, rfl⟩
      rw [hrbe] at hrb hDD hBB ⊢
      have HD := Lib.hid hDD
      have HBX := Lib.hid hBB
      have HZ := Lib.hid hZZ
      have HL := Lib.hid hLL
      have HRB := Lib.hid hrb
      have HRD := Lib.hid (show LB < rb ∧ D < rb ∧ w.heap.size ≤ rb from by rw [← hrbe]; exact ⟨HL5.out.lt, hDa.lt, hZa.chg.size⟩)
      clear hDa hBa hZa hba hDD hBB hZZ hLL hrb hrbe hW5 HW HW2 HNU HNA HCL HB4 HB5 HL5
      obtain ⟨bE, hbE⟩ : ∃ b, isE (nx (nx s)) = b := ⟨_, rfl⟩
      rw [hbE]
      have HBE := Lib.hid hbE
      clear hbE
      go_cut [6] from 29 to 35 (fun s6 wx => RuMid D LB cb q.val t said w (nx (nx s)) x a rb s6 wx)
      case first =>
        cases bE with
        | true =>
          have h0 := isE_yes HBE.out
          have HQ := Lib.hid (show RuMid D LB cb q.val t said w (nx (nx s)) x a rb (.int .i64 0) W5 from ⟨q, _, 0, rfl, HD.out, HBX.out, HZ.out, HRB.out, ⟨_, _, _, rfl⟩, Or.inr ⟨rfl, [], by rw [h0]; rfl, Sl.nil _, fun k hk => by cases hk⟩⟩)
          clear h0
          go_wp2_with fail
          go_meet
          exact HQ.out
        | false =>
          have h0 := isE_no HBE.out
          have hfr := from_any (D := D) (LB := LB) (t := t) (said := said) (q := q) (nx (nx s)) (by have := HS.out; omega) h0 (HD.out.keep (S := fun _ => False) (Chg.refl _ _) (fun _ h _ => h.elim) (fun k hk => HD.out.xD k (Or.inl hk)) (fun k hk _ => Or.inl hk)) (by have := HT.out.2; omega) (HG.out.step (HZ.out.below HD0.out)) HL.out
          have HFR := Lib.hid hfr
          have cbc := HBX.out.cell
          clear h0 hfr
          go_wp2_with (go_at_call 76; refine HFR.out.mono ?_; rintro _ w8 ⟨lv, e8, rfl, hc8, ⟨b8, n8, k8, rfl⟩, hcase⟩; have HC8 := Lib.hid hc8; have HCA := Lib.hid hcase; have h8 := hc8.heap HRB.out (fun hk => by have := HRD.out; have := (Array.getElem?_eq_some_iff.1 HRB.out).1; omega); have H8 := Lib.hid h8; have c82 : w8.cell? ⟨rb, 2, none⟩ = some (.slice none 0 0) := (by rw [cell_of_row _ _ _ _ _ _ h8]; rfl); have f82 : w8.frozen? ⟨rb, 2, none⟩ = false := (row_cell h8 (by simp)).choose_spec.2; clear hc8 hcase h8)
          go_meet
          have hs8 : Chg (fun k => k = rb) w8 (w8.setCell ⟨rb, 2, none⟩ (.slice b8 n8 k8)) := Chg.set w8 2 _ rfl
          have hrbl : rb < W5.heap.size := (Array.getElem?_eq_some_iff.1 HRB.out).1
          have hc9 : Chg (fun k => k = LB ∨ k = rb ∨ W5.heap.size ≤ k) W5 (w8.setCell ⟨rb, 2, none⟩ (.slice b8 n8 k8)) := (HC8.out.mono fun k hk => hk.elim Or.inl fun h => Or.inr (Or.inr h)).trans (hs8.mono fun k hk => Or.inr (Or.inl hk))
          have hD9 := HD.out.keep hc9 (fun k hk hl => by
            rcases hk with h | h | h
            · exact Or.inl h
            · exact Or.inr h
            · omega) (fun k hk => ⟨(HD.out.xD k hk).1, Nat.lt_of_lt_of_le (HD.out.xD k hk).2 hc9.size⟩) (fun k hk _ => hk)
          have hB9 := HBX.out.step hc9 (fun k hk hl => by
            rcases hk with h | h | h
            · exact Or.inr (Or.inl (Or.inl h))
            · exact Or.inr (Or.inl (Or.inr h))
            · omega) (fun _ h _ => h)
          refine ⟨q, .slice b8 n8 k8, e8, rfl, hD9, hB9, ⟨HZ.out.chg.then hc9 (fun k hk hl => by
            have h1 := HRD.out
            have h2 := HZ.out.chg.size
            rcases hk with h | h | h
            · exact Or.inr (Or.inl h)
            · omega
            · omega), fun _ h _ => h⟩, ?_, ⟨_, _, _, rfl⟩, ?_⟩
          · exact heap_setCell_same _ rb 2 _ _ _ H8.out
          · rcases HCA.out with ⟨h1, h2⟩ | ⟨h1, l, h2, h3⟩
            · exact Or.inl ⟨h1, h2⟩
            · refine Or.inr ⟨h1, l, h2, Sl.owns (hs8.own h3 fun k hk e => by have := own_block_lt h3 hk; omega), fun k hk ho => ?_⟩
              have h5 := own_block_lt h3 hk
              rcases ho with ho | ho | ⟨i, hi⟩
              · have := HD.out.lt; omega
              · have := HD.out.xD k ho; omega
              · have := own_block_lt (HD.out.rows.own i) hi; omega
      case rest =>
        obtain ⟨W6, rfl⟩ : ∃ W : World, W = wc := ⟨_, rfl⟩
        obtain ⟨q6, lv, e6, rfl, hd6, hb6, hz6, hr6, ⟨bl, nl, kl, rfl⟩, hcase⟩ := hcut
        have cbc6 := hb6.cell
        have c3 := hd6.cell 3 (v := q6.val .ru) rfl
        have r0 : W6.cell? ⟨rb, 0, none⟩ = some (.string (str x)) := by rw [cell_of_row _ _ _ _ _ _ hr6]; rfl
        have r1 : W6.cell? ⟨rb, 1, none⟩ = some (.int .i64 a) := by rw [cell_of_row _ _ _ _ _ _ hr6]; rfl
        have r2 : W6.cell? ⟨rb, 2, none⟩ = some (.slice bl nl kl) := by rw [cell_of_row _ _ _ _ _ _ hr6]; rfl
        have r3 : W6.cell? ⟨rb, 3, none⟩ = some (.slice none 0 0) := by rw [cell_of_row _ _ _ _ _ _ hr6]; rfl
        have r4 : W6.cell? ⟨rb, 4, none⟩ = some (.slice none 0 0) := by rw [cell_of_row _ _ _ _ _ _ hr6]; rfl
        have HD6 := Lib.hid hd6
        have HBX6 := Lib.hid hb6
        have HZ6 := Lib.hid hz6
        have HCA := Lib.hid hcase
        have HLT6 := Lib.hid hd6.lt
        have HO6 := Lib.hid (hd6.rows.own .ru)
        have HF6 := Lib.hid (hd6.frozen 3 (by decide))
        have HR61 := Lib.hid (show t.rules.length + 1 ≤ maxLen by have := HT.out; unfold maxLen; omega)
        have HR62 := Lib.hid (show (t.rules.length + 1) * 96 ≤ 140737488355328 by have := HT.out; omega)
        obtain ⟨i1, hi1, hy0, hy1, hy2⟩ := info_rule
        obtain ⟨vN, hvN⟩ : ∃ v, q6.val .ru = v := ⟨_, rfl⟩
        rw [hvN] at c3 HO6
        have HVN := Lib.hid hvN
        have HC3 := Lib.hid c3
        have HND6 := Lib.hid (show ¬ vN.ownBlock = some D from fun e => by have := own_block_lt HO6.out e; omega)
        have HB62 := Lib.hid (show Below W6.heap.size W6 (W6.drew.alloc (.cells #[.string (str x), .int .i64 a, .slice bl nl kl, .slice none 0 0, .slice none 0 0] 58)) from ((Below.refl W6.heap.size W6).drew).alloc (Nat.le_refl _) _)
        have HS61 := Lib.hid (show D + 1 ≤ (W6.drew.alloc (.cells #[.string (str x), .int .i64 a, .slice bl nl kl, .slice none 0 0, .slice none 0 0] 58)).heap.size by have := HB62.out.size; have := HLT6.out; omega)
        have cb6a := alloc_cell (.cells #[.string (str x), .int .i64 a, .slice bl nl kl, .slice none 0 0, .slice none 0 0] 58) cbc6
        have c3a := alloc_cell (.cells #[.string (str x), .int .i64 a, .slice bl nl kl, .slice none 0 0, .slice none 0 0] 58) c3
        clear hd6 hb6 hz6 hr6 hcase hvN
        go_upto_region 10 with fail
        go_region_law (refine step_append_all rfl _ _ 24 rfl (D + 1) 58 i1 (.agg #[.string ⟨#[]⟩, .int .i64 0, .slice none 0 0, .slice none 0 0, .slice none 0 0]) 5 96 Tryz.underlying24 hi1 hy0 hy1 hy2 rfl (by decide) vN t.rules.length (rrows q6 t.rules).flatten rfl (World.ownsRow.alloc HO6.out _) (some ⟨W6.heap.size, 0, none⟩) 1 1 [.string (str x), .int .i64 a, .slice bl nl kl, .slice none 0 0, .slice none 0 0] rfl rfl (fun h => by cases h) (new_row _ _ _) (five_cells _ _ _ _ _) HR61.out HR62.out HS61.out ?_; intro v' w3 hown3 hgrow3 hblk3; have HA6 := Lib.hid (App.of HB62.out hown3 hgrow3 hblk3); have cb63 := (HA6.out.chg.cell HBX6.out.cell (fun e => HBX6.out.shut (Or.inr (Or.inr ⟨.ru, by rw [HVN.out]; exact e⟩)))); have c63 := HA6.out.chg.cell HC3.out HND6.out; have f63 := (HA6.out.chg.frozens HLT6.out HND6.out 3).trans HF6.out; obtain ⟨a3, cap3, hv3⟩ := own_shape5 hown3; subst hv3; clear hown3 hgrow3 hblk3)
        all_goals
          have HNX6 := Lib.hid (Nx.push (X := fun k => k = LB) (o := 3) .ru (by rw [HVN.out]; exact HA6.out))
          clear c63 f63 cb63 cb6a c3a c3 cbc6 r0 r1 r2 r3 r4
          go_wp2_with fail
          go_ret
          refine ⟨(HZ6.out.trans HNX6.out.fr).chg, ?_⟩
          rcases HCA.out with ⟨h1, h2⟩ | ⟨h1, l, h2, h3, h4⟩
          · have e : rlLine t s = .error e6 := by rw [HRL.out, HX.out, if_neg (by rw [HN.out]; decide), if_neg (fun h => h rfl), h2]
            rw [e]
            exact ⟨rfl, h1⟩
          · have e : rlLine t s = .ok { t with rules := t.rules ++ [⟨x, a, l, [], []⟩] } := by rw [HRL.out, HX.out, if_neg (by rw [HN.out]; decide), if_neg (fun h => h rfl), h2]
            have hp := HD6.out.push_ru HT.out.2 x a l (.slice bl nl kl) h3 h4 (by rw [HVN.out]; exact HA6.out)
            rw [e]
            exact ⟨ret_int h1, _, hp.keep (S := fun _ => False) (Chg.refl _ _) (fun _ h _ => h.elim) (fun k hk => hp.xD k (Or.inl hk)) (fun k hk _ => Or.inl hk), HZ6.out.trans HNX6.out.fr, fun h => by have := HT.out.2; omega, fun h => by have := HT.out.2; omega⟩
    · have heb : (er != 0) = true := by simpa using he
      have HE := Lib.hid (show rlLine t s = .error er by rw [HRL.out, HX.out, if_neg (by rw [HN.out]; decide), if_pos he])
      have HER := Lib.hid he
      clear he
      go_enter Tryz.func75, Tryz.ntmps75
      go_wp2_with (first | (go_at_call 13; (first | (refine (HW2.out n1).mono ?_; rintro _ w3 ⟨rfl, n3, rfl⟩) | (refine HW.out.mono ?_; rintro _ w1 ⟨rfl, n1, rfl⟩))) | (go_at_call 74; refine (HNA.out _ (HG.out.step ((HZQ.out n1).below HD0.out)).now.glob).mono ?_; rintro _ w2 ⟨rfl, rfl⟩) | (go_at_call 73; refine (HNU.out _ (HG.out.step ((HZQ2.out n1 n3).below HD0.out)).now).mono ?_; rintro _ w4 ⟨rfl, hb4⟩; have HB4 := Lib.hid hb4; clear hb4))
      go_ret
      refine ⟨((HZQ2.out n1 n3).trans (Fr.of HB4.out)).chg, ?_⟩
      rw [HE.out]
      exact ⟨rfl, HER.out⟩
end
end Go.Proofs.YtfooiggedgcjcaaGreatDoor.T
