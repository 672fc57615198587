/-
  Layer 6: the line of the variables.
-/
import Derived.Test.YtfooiggedgcjcaaGreatDoorTPh
namespace Go.Proofs.YtfooiggedgcjcaaGreatDoor.T
open Go Go.RowKit Go.Proofs.YtfooiggedgcjcaaGreatDoor.B Go.Proofs.YtfooiggedgcjcaaGreatDoor.K Go.Proofs.YtfooiggedgcjcaaGreatDoor.E Go.Proofs.YtfooiggedgcjcaaGreatDoor.R
set_option linter.unusedVariables false

/-- The words of a line's rest. -/
def items (s : Bs) : List Bs := if s = [] then [] else words s
theorem items_nil : items [] = [] := rfl
theorem items_cons (s : Bs) (h : s ≠ []) : items s = wd s :: items (nx s) := by
  unfold items
  rw [if_neg h, words_cons]

def vrT (t : Tb) (done : List (Bs × Int)) : Tb := { t with vars := t.vars ++ done.map (·.1), start := t.start ++ done.map (·.2) }
theorem vrT_snoc (t : Tb) (done : List (Bs × Int)) (x : Bs) (n : Int) :
    ({ ({ vrT t done with vars := (vrT t done).vars ++ [x] } : Tb) with start := ({ vrT t done with vars := (vrT t done).vars ++ [x] } : Tb).start ++ [n] } : Tb) = vrT t (done ++ [(x, n)]) := by
  simp [vrT]

section
variable {D LB : Nat} {t : Tb} {said : Nat} {q : Dq} {w : World}

/-- The loop's world. -/
structure VrJ (D LB cb : Nat) (val0 : Ix → Value) (t : Tb) (w0 : World) (s : Bs) (done : List (Bs × Int)) (s1 : Bs) (q : Dq) (w : World) : Prop where
  dr : Dr D (fun k => k = LB) (vrT t done) 1 q w
  box : Box D (fun k => k = LB) q.val cb w
  bel : Fr D LB val0 q.val w0 w
  line : LnAt w LB s1
  many : done.length + s1.length ≤ s.length
  small : ∀ x ∈ done, x.1.length ≤ s.length
  goes : vrItems (items s) = (vrItems (items s1)).map (done ++ ·)

def VrMid (D LB cb : Nat) (val0 : Ix → Value) (u : Tb) (w0 : World) (s1 : Bs) (w : World) : Prop := ∃ q, Dr D (fun k => k = LB) u 1 q w ∧ Box D (fun k => k = LB) q.val cb w ∧ LnAt w LB s1 ∧ Fr D LB val0 q.val w0 w

theorem vr_bad {done : List (Bs × Int)} {s s1 : Bs} (h : vrItems (items s) = (vrItems (items s1)).map (done ++ ·)) (h0 : s1 ≠ []) (hb : vrItem (wd s1) = none) : vrItems (items s) = none := by
  rw [h, items_cons s1 h0, vrItems, hb]
  rfl
theorem vr_good {done : List (Bs × Int)} {s s1 : Bs} {p : Bs × Int} (h : vrItems (items s) = (vrItems (items s1)).map (done ++ ·)) (h0 : s1 ≠ []) (hb : vrItem (wd s1) = some p) : vrItems (items s) = (vrItems (items (nx s1))).map ((done ++ [p]) ++ ·) := by
  rw [h, items_cons s1 h0, vrItems, hb]
  cases vrItems (items (nx s1)) with
  | none => rfl
  | some l => simp

set_option maxHeartbeats 8000000 in
set_option maxRecDepth 100000 in
theorem vars1_any (cb : Nat) (s : Bs) (hs : s.length ≤ 99999) (ht : t.vars.length ≤ 100000) (hn : t.start.length ≤ 100000) (htl : ∀ x ∈ t.vars, x.length ≤ 100000) (h : Dr D (fun k => k = LB) t 1 q w) (hb : Box D (fun k => k = LB) q.val cb w) (hg : GlD D w) (hl : LnAt w LB s) :
    Calls Tryz.prog 72 #[.pointer (some ⟨LB, 0, none⟩), .pointer (some ⟨cb, 0, none⟩)] w (LnOut D LB q.val 1 (vrLine t s) w) := by
  have hJ0 : VrJ D LB cb q.val t w s [] s q w := ⟨(by
    have e : vrT t [] = t := by simp [vrT]
    rw [e]
    exact h), hb, Fr.refl _ _ _ _, hl, by simp, by simp, by simp⟩
  have HD0 := Lib.hid h
  have HJ0 := Lib.hid hJ0
  have HS := Lib.hid (And.intro hs (And.intro ht (And.intro hn htl)))
  have HG := Lib.hid hg
  clear hJ0 hg hs ht hn htl h hb hl
  go_enter Tryz.func72, Tryz.ntmps72
  go_wp2_with fail
  go_loopg [] (s.length) (fun g wr => ∃ (done : List (Bs × Int)) (s1 : Bs) (q1 : Dq), s1.length ≤ g ∧ Hid (VrJ D LB cb q.val t w s done s1 q1 wr))
  case atStart => exact ⟨[], s, q, Nat.le_refl _, HJ0⟩
  case round =>
    obtain ⟨done, s1, q1, hs1, HJ⟩ := hrel
    by_cases h0 : s1 = []
    · subst h0
      have HN := Lib.hid (ended_yes LB wr HJ.out.line.cell)
      go_wp2_with (go_at_call 11; refine HN.out.mono ?_; rintro _ w3 ⟨rfl, rfl⟩)
      have hd := HJ.out.dr
      have hbx := HJ.out.box
      have c1 := hd.cell 1 (v := q1.val .va) rfl
      have cbc := hbx.cell
      have c6 := hd.cell 6 (v := q1.mV) rfl
      have f6 := hd.frozen 6 (by decide)
      have HD := Lib.hid hd
      have HP := Lib.hid (fun W (hW : Below wr.heap.size wr W) => placesOf_any (vrT t done).vars (q1.val .va) W (Sl.below (Sl.owns (hd.rows.own .va)) hW) (by have := HS.out; have := HJ.out.many; simp [vrT]; omega) (fun x hx => by
        have h3 := HS.out
        unfold maxLen
        rcases List.mem_append.1 hx with hx | hx
        · have := h3.2.2.2 x hx; omega
        · obtain ⟨y, hy, rfl⟩ := List.mem_map.1 hx
          have := HJ.out.small y hy; omega))
      clear hd hbx
      obtain ⟨vS, hvS⟩ : ∃ v, q1.val .va = v := ⟨_, rfl⟩
      rw [hvS] at c1 HP
      clear hvS
      go_wp2_with fail
      go_region_law (go_simp; go_at_call 71; refine (HP.out _ ((Below.refl wr.heap.size wr).drew)).mono ?_; rintro _ w2 ⟨rfl, hm2, hb2'⟩; have hb2 : Below wr.heap.size wr w2 := ((Below.refl wr.heap.size wr).drew).trans hb2'; clear hb2'; have HM2 := Lib.hid hm2; have HB2 := Lib.hid hb2; have cb2 := kept_cell hb2 cbc; have c62 := kept_cell hb2 c6; have f62 := (hb2.frozen (p := ⟨D, 6, none⟩) HD.out.lt).trans f6; clear hm2 hb2)
      all_goals
        have HE := Lib.hid (HD.out.map_va wr.heap.size HB2.out HM2.out (Nat.le_refl _))
        have HBE := Lib.hid ((HJ.out.bel.trans (Fr.of HB2.out)).trans (Fr.own (Chg.set (S := fun k => k = D) w2 (g := D) 6 (.map (some wr.heap.size)) rfl)))
        clear cb2 c62 f62 cbc c6 f6 c1
        go_wp2_with fail
        go_ret
        refine ⟨HBE.out.chg, ?_⟩
        have e : vrItems (if s = [] then [] else words s) = some done := by
          have := HJ.out.goes
          rw [items_nil] at this
          exact this.trans (by simp [vrItems])
        unfold vrLine
        rw [e]
        exact ⟨rfl, _, HE.out.1, HBE.out, fun h => by (cases h), fun _ => HE.out.2⟩
    · have HN := Lib.hid (ended_no LB s1 h0 wr HJ.out.line.cell)
      have HW := Lib.hid (word_any LB s1 (by have := HJ.out.many; have := HS.out; omega) wr HJ.out.line.cell HJ.out.line.frozen)
      have HC := Lib.hid (fun W => cut_any (wd s1) 61 W (by have := HJ.out.many; have := HS.out; have := wd_le s1; omega))
      have H0 := Lib.hid h0
      clear h0
      go_wp2_with (first | (go_at_call 11; refine HN.out.mono ?_; rintro _ w3 ⟨rfl, rfl⟩) | (go_at_call 13; refine HW.out.mono ?_; rintro _ w3 ⟨rfl, n3, rfl⟩) | (go_at_call 33; refine (HC.out _).mono ?_; rintro _ w4 ⟨rfl, n4, rfl⟩))
      obtain ⟨W4, hW4⟩ : ∃ W, ((wr.drewN n3).setCell ⟨LB, 0, none⟩ (sv (nx s1))).drewN n4 = W := ⟨_, rfl⟩
      have hd4 : Dr D (fun k => k = LB) (vrT t done) 1 q1 W4 := by rw [← hW4]; exact (HJ.out.dr.lined n3 (nx s1)).grow (below_drewN (Below.refl _ _) n4)
      have hb4 : Box D (fun k => k = LB) q1.val cb W4 := by rw [← hW4]; exact (HJ.out.box.lined n3 (nx s1)).step (Chg.drew (S := fun _ => False) _ n4) (fun _ h _ => h.elim) (fun _ h _ => h)
      have hl4 : LnAt W4 LB (nx s1) := by rw [← hW4]; exact (HJ.out.line.set n3 (nx s1)).chg (Chg.drew (S := fun _ => False) _ n4) (fun h => h)
      have hz4 : Fr D LB q.val q1.val w W4 := by
        rw [← hW4]
        exact (HJ.out.bel.trans (Fr.lined wr n3 (nx s1))).trans (Fr.of (below_drewN (Below.refl _ _) n4))
      rw [hW4]
      clear hW4
      have HD4 := Lib.hid hd4
      have HB4 := Lib.hid hb4
      have HL4 := Lib.hid hl4
      have HZ4 := Lib.hid hz4
      have hxl : (upTo 61 (wd s1)).length ≤ s.length := by
        have h1 := HJ.out.many
        have h2 := wd_le s1
        have h3 : (upTo 61 (wd s1)).length ≤ (wd s1).length := (List.takeWhile_prefix _).length_le
        omega
      have hyl : (past 61 (wd s1)).length ≤ s.length := by
        have h1 := HJ.out.many
        have h2 := wd_le s1
        have h3 : (past 61 (wd s1)).length ≤ (wd s1).length := by
          unfold past
          rw [List.length_drop]
          have := (List.dropWhile_suffix (l := wd s1) (· != (61 : UInt8))).length_le
          omega
        omega
      have HXL := Lib.hid hxl
      have HNM := Lib.hid (number_any (past 61 (wd s1)) (-1099511627776) W4 (HG.out.step (hz4.below HD0.out)).now (by have := HS.out; omega))
      have hvi : vrItem (wd s1) = if (numOf (past 61 (wd s1)) (-1099511627776)).2 = 0 ∧ I.isName (upTo 61 (wd s1)) = true then some (upTo 61 (wd s1), (numOf (past 61 (wd s1)) (-1099511627776)).1) else none := rfl
      obtain ⟨x, hx⟩ : ∃ x, upTo 61 (wd s1) = x := ⟨_, rfl⟩
      obtain ⟨n, hn⟩ : ∃ n, (numOf (past 61 (wd s1)) (-1099511627776)).1 = n := ⟨_, rfl⟩
      obtain ⟨er, her⟩ : ∃ er, (numOf (past 61 (wd s1)) (-1099511627776)).2 = er := ⟨_, rfl⟩
      rw [hx, hn, her] at hvi
      rw [hn, her] at HNM
      rw [hx] at HXL ⊢
      have HVI := Lib.hid hvi
      clear hvi hx hn her hxl hyl hd4 hb4 hl4 hz4 HN HW HC
      unfold sv at HNM ⊢
      by_cases he : er = 0
      · subst he
        have HNA := Lib.hid (fun W (hW : I.Glob W) => I.name_any x W hW (by have := HXL.out; have := HS.out; omega))
        have HCL := Lib.hid (fun W => I.clone_any x W (by have := HXL.out; have := HS.out; omega))
        unfold sv at HNA HCL
        cases hnm : I.isName x with
        | false =>
          rw [hnm] at HNA
          have hbad : vrItem (wd s1) = none := by rw [HVI.out, if_neg (by rw [hnm]; simp)]
          have HBD := Lib.hid hbad
          clear hbad hnm
          go_wp2_with (first | (go_at_call 73; refine HNM.out.mono ?_; rintro _ w5 ⟨rfl, hb5⟩; have HB5 := Lib.hid hb5; clear hb5) | (go_at_call 74; refine (HNA.out _ (HG.out.step ((HZ4.out.trans (Fr.of HB5.out)).below HD0.out)).now.glob).mono ?_; rintro _ w6 ⟨rfl, rfl⟩))
          go_ret
          refine ⟨(HZ4.out.trans (Fr.of HB5.out)).chg, ?_⟩
          have := vr_bad HJ.out.goes H0.out HBD.out
          unfold items at this
          unfold vrLine
          rw [this]
          exact ⟨rfl, by decide⟩
        | true =>
          rw [hnm] at HNA
          have hgood : vrItem (wd s1) = some (x, n) := by rw [HVI.out, if_pos ⟨rfl, hnm⟩]
          have HGD := Lib.hid hgood
          clear hgood hnm
          go_upto_region 6 with (first | (go_at_call 73; refine HNM.out.mono ?_; rintro _ w5 ⟨rfl, hb5⟩; have HB5 := Lib.hid hb5; clear hb5) | (go_at_call 74; refine (HNA.out _ (HG.out.step ((HZ4.out.trans (Fr.of HB5.out)).below HD0.out)).now.glob).mono ?_; rintro _ w6 ⟨rfl, rfl⟩))
          have hd5 := HD4.out.grow HB5.out
          have hbx5 := HB4.out.step (Chg.of (S := fun _ => False) HB5.out) (fun _ h _ => h.elim) (fun _ h _ => h)
          have hl5 := HL4.out.chg (Chg.of (S := fun _ => False) HB5.out) (fun h => h)
          have HZ5 := Lib.hid (HZ4.out.trans (Fr.of HB5.out))
          have cbc := hbx5.cell
          have c1 := hd5.cell 1 (v := q1.val .va) rfl
          have HD := Lib.hid hd5
          have HBX := Lib.hid hbx5
          have HL5 := Lib.hid hl5
          have HLT := Lib.hid hd5.lt
          have HO := Lib.hid (hd5.rows.own .va)
          have HF := Lib.hid (hd5.frozen 1 (by decide))
          have hlen : (vrT t done).vars.length ≤ 300000 := by have := HS.out; have := HJ.out.many; simp [vrT]; omega
          have HR1 := Lib.hid (show (vrT t done).vars.length + 1 ≤ maxLen by unfold maxLen; omega)
          have HR2 := Lib.hid (show ((vrT t done).vars.length + 1) * 16 ≤ 140737488355328 by omega)
          obtain ⟨i0, hi, hz0, hz1, hz2⟩ := info_string
          obtain ⟨vS, hvS⟩ : ∃ v, q1.val .va = v := ⟨_, rfl⟩
          rw [hvS] at c1 HO
          have HVS := Lib.hid hvS
          have HC0 := Lib.hid c1
          have HND := Lib.hid (show ¬ vS.ownBlock = some D from fun e => by have := own_block_lt HO.out e; omega)
          clear hd5 hbx5 hl5 hlen hvS HNA HNM
          go_cut [] from 31 to 43 (fun wx => VrMid D LB cb q.val { vrT t done with vars := (vrT t done).vars ++ [x] } w (nx s1) wx)
          case first =>
            go_region_law (first | (refine step_append_all rfl _ _ 22 rfl (D + 1) 9 i0 (.string ⟨#[]⟩) 1 16 Tryz.underlying22 hi hz0 hz1 hz2 rfl (by decide) vS (vrT t done).vars.length ((vrT t done).vars.map sv) rfl (World.ownsRow.alloc HO1.out _) (some ⟨w1.heap.size, 0, none⟩) 1 1 [.string (str x)] rfl rfl (fun h => by cases h) (new_one _ _ _) (one_str _) HR1.out HR2.out HS1.out ?_; intro v' w3 hown3 hgrow3 hblk3; have HA := Lib.hid (App.of HB2.out hown3 hgrow3 hblk3); have cb3 := (HA.out.chg.cell HBX.out.cell (fun e => HBX.out.shut (Or.inr (Or.inr ⟨.va, by rw [HVS.out]; exact e⟩)))); have c3 := HA.out.chg.cell HC0.out HND.out; have f3 := (HA.out.chg.frozens HLT.out HND.out 1).trans HF.out; obtain ⟨a3, cap3, hv3⟩ := own_shape5 hown3; subst hv3; clear hown3 hgrow3 hblk3) | (go_simp; go_at_call 69; refine (HCL.out _).mono ?_; rintro _ w1 ⟨rfl, hb1'⟩; have hb1 : Below w5.heap.size w5 w1 := ((Below.refl w5.heap.size w5).drew).trans hb1'; clear hb1'; have HB1 := Lib.hid hb1; have HO1 := Lib.hid (own_kept HO.out hb1); have HB2 := Lib.hid (hb1.trans ((Chg.alloc (S := fun _ => False) w1 (.cells #[.string (str x)] 9)).below (fun _ h => h.elim) hb1.size)); have HS1 := Lib.hid (show D + 1 ≤ (w1.alloc (.cells #[.string (str x)] 9)).heap.size by have := hb1.size; have := HLT.out; simp; omega); have cb1 := kept_cell hb1 cbc; have c11 := kept_cell hb1 c1; have cb1a := alloc_cell (.cells #[.string (str x)] 9) cb1; have c1a := alloc_cell (.cells #[.string (str x)] 9) c11; clear hb1))
            all_goals
              have HE := Lib.hid (HD.out.push_va x (by rw [HVS.out]; exact HA.out))
              have HNX := Lib.hid (Nx.push (X := fun k => k = LB) (o := 1) .va (by rw [HVS.out]; exact HA.out))
              clear c3 f3 cb3 cb1 c11 cb1a c1a c1 cbc
              go_wp2_with fail
              go_meet
              exact ⟨_, HE.out, HNX.out.box HBX.out, HNX.out.line HD.out rfl HL5.out, HZ5.out.trans HNX.out.fr⟩
          case rest =>
            obtain ⟨W6, rfl⟩ : ∃ W : World, W = wc := ⟨_, rfl⟩
            obtain ⟨q2, hd6, hb6, hl6, hz6⟩ := hcut
            have cbc6 := hb6.cell
            have c2 := hd6.cell 2 (v := q2.val .nu) rfl
            have HD6 := Lib.hid hd6
            have HBX6 := Lib.hid hb6
            have HL6 := Lib.hid hl6
            have HZ6 := Lib.hid hz6
            have HLT6 := Lib.hid hd6.lt
            have HO6 := Lib.hid (hd6.rows.own .nu)
            have HF6 := Lib.hid (hd6.frozen 2 (by decide))
            have hlen6 : (vrT t done).start.length ≤ 300000 := by have := HS.out; have := HJ.out.many; simp [vrT]; omega
            have HR61 := Lib.hid (show (vrT t done).start.length + 1 ≤ maxLen by unfold maxLen; omega)
            have HR62 := Lib.hid (show ((vrT t done).start.length + 1) * 8 ≤ 140737488355328 by omega)
            obtain ⟨i1, hi1, hy0, hy1, hy2⟩ := info_int
            obtain ⟨vN, hvN⟩ : ∃ v, q2.val .nu = v := ⟨_, rfl⟩
            rw [hvN] at c2 HO6
            have HVN := Lib.hid hvN
            have HC2 := Lib.hid c2
            have HND6 := Lib.hid (show ¬ vN.ownBlock = some D from fun e => by have := own_block_lt HO6.out e; omega)
            have HB62 := Lib.hid (show Below W6.heap.size W6 (W6.drew.alloc (.cells #[.int .i64 n] 3)) from ((Below.refl W6.heap.size W6).drew).alloc (Nat.le_refl _) _)
            have HS61 := Lib.hid (show D + 1 ≤ (W6.drew.alloc (.cells #[.int .i64 n] 3)).heap.size by have := HB62.out.size; have := HLT6.out; omega)
            have cb6a := alloc_cell (.cells #[.int .i64 n] 3) cbc6
            have c2a := alloc_cell (.cells #[.int .i64 n] 3) c2
            clear hd6 hb6 hl6 hz6 hlen6 hvN c1 cbc
            go_upto_region 7 with fail
            go_region_law (refine step_append_all rfl _ _ 23 rfl (D + 1) 3 i1 (.int .i64 0) 1 8 Tryz.underlying23 hi1 hy0 hy1 hy2 rfl (by decide) vN (vrT t done).start.length ((vrT t done).start.map fun n => .int .i64 n) rfl (World.ownsRow.alloc HO6.out _) (some ⟨W6.heap.size, 0, none⟩) 1 1 [.int .i64 n] rfl rfl (fun h => by cases h) (new_one _ _ _) (one_int _) HR61.out HR62.out HS61.out ?_; intro v' w3 hown3 hgrow3 hblk3; have HA6 := Lib.hid (App.of HB62.out hown3 hgrow3 hblk3); have cb63 := (HA6.out.chg.cell HBX6.out.cell (fun e => HBX6.out.shut (Or.inr (Or.inr ⟨.nu, by rw [HVN.out]; exact e⟩)))); have c63 := HA6.out.chg.cell HC2.out HND6.out; have f63 := (HA6.out.chg.frozens HLT6.out HND6.out 2).trans HF6.out; obtain ⟨a3, cap3, hv3⟩ := own_shape5 hown3; subst hv3; clear hown3 hgrow3 hblk3)
            all_goals
              have HE6 := Lib.hid (HD6.out.push_nu n (by rw [HVN.out]; exact HA6.out))
              have HNX6 := Lib.hid (Nx.push (X := fun k => k = LB) (o := 2) .nu (by rw [HVN.out]; exact HA6.out))
              clear c63 f63 cb63 cb6a c2a c2 cbc6
              go_wp2_with fail
              go_roundg ((nx s1).length)
              case measure => have := nx_lt s1 H0.out; omega
              case rel =>
                have hdr := HE6.out
                rw [vrT_snoc t done x n] at hdr
                refine ⟨done ++ [(x, n)], nx s1, _, Nat.le_refl _, Lib.hid ⟨hdr, HNX6.out.box HBX6.out, HZ6.out.trans HNX6.out.fr, HNX6.out.line HD6.out rfl HL6.out, ?_, fun y hy => ?_, vr_good HJ.out.goes H0.out HGD.out⟩⟩
                · have := HJ.out.many; have := nx_lt s1 H0.out; simp; omega
                · rcases List.mem_append.1 hy with hy | hy
                  · exact HJ.out.small y hy
                  · simp at hy; subst hy; exact HXL.out
      · have heb : (er != 0) = true := by simpa using he
        have hbad : vrItem (wd s1) = none := by rw [HVI.out, if_neg (fun h => he h.1)]
        have HBD := Lib.hid hbad
        clear hbad
        go_wp2_with (go_at_call 73; refine HNM.out.mono ?_; rintro _ w5 ⟨rfl, hb5⟩; have HB5 := Lib.hid hb5; clear hb5)
        go_ret
        refine ⟨(HZ4.out.trans (Fr.of HB5.out)).chg, ?_⟩
        have := vr_bad HJ.out.goes H0.out HBD.out
        unfold items at this
        unfold vrLine
        rw [this]
        exact ⟨rfl, by decide⟩
end
end Go.Proofs.YtfooiggedgcjcaaGreatDoor.T
