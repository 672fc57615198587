/-
  Layer 7, the program's side: what comes of a rule's steps (the walk).
-/
import Derived.Test.YtgkniocjlkfhmaaDoorSVk
namespace Go.Proofs.YtgkniocjlkfhmaaDoor.D
open Go Go.RowKit Go.Proofs.YtgkniocjlkfhmaaDoor.B Go.Proofs.YtgkniocjlkfhmaaDoor.K Go.Proofs.YtgkniocjlkfhmaaDoor.E Go.Proofs.YtgkniocjlkfhmaaDoor.R
set_option linter.unusedVariables false
set_option maxRecDepth 100000

theorem ev_infos : (Tryd.prog.info? 31).map (fun i => (i.zero, i.size, i.bytes)) = some (some (.agg #[.int .i64 0, .slice none 0 0]), 2, 32) := by kernel_rfl

theorem own_lt {w : World} {M : Nat} {e : TypeId} {z n : Nat} {v : Value} {xs : List Value} (h : w.ownsRow M e z v n xs) : ∀ j, v.ownBlock = some j → j < w.heap.size := by
  intro j hj
  rcases h.2 with ⟨e1, _⟩ | ⟨q, cap, cur, e1, _, h3, _⟩
  · rw [e1] at hj; cases hj
  · rw [e1] at hj; cases hj; exact (Array.getElem?_eq_some_iff.1 h3).1
theorem two_one (x : Int) (g n : Nat) : ∀ u ∈ [Value.int .i64 x, .slice (some ⟨g, 0, none⟩) n n], u.oneCell' = true := by
  intro u hu
  simp only [List.mem_cons, List.not_mem_nil, or_false] at hu
  rcases hu with rfl | rfl <;> rfl

/-- What comes of steps: events in memory of their own; or the code, and none. -/
def EvOut (o : Option (List Ev)) (w : World) (z : Ending) (w' : World) : Prop := Below w.heap.size w w' ∧
  ((o = none ∧ z = .returned (.tuple #[.slice none 0 0, .int .i64 5])) ∨ ∃ evs v, o = some evs ∧ z = .returned (.tuple #[v, .int .i64 0]) ∧ EvNew w w' v evs)

set_option maxHeartbeats 4000000 in
theorem events_any (l : List Sp) (s : Stt) (c : Cm) (sl v u : Value) (n : Nat) (w : World) (h : SlOf w 2 (SpIs w) sl l) (hw : ∀ p ∈ l, SpWf p) (hl : l.length ≤ 3) (hvar : ∀ p ∈ l, ∀ x ∈ p.sets, 0 ≤ x.var ∧ x.var < (n : Int)) (hs : SlN w v s.vars) (hn : s.vars.length = n) (hn8 : n * 8 ≤ 281474976710656) (hu : SlN w u c.args) (hal : c.args.length ≤ 9223372036854775807) :
    Calls Tryd.prog 24 #[sl, .agg #[.int .i64 s.pos, .int .i64 s.ver, v], .agg #[.int .i64 c.client, .int .i64 c.seq, sv c.stream, .int .i64 c.rule, u, .int .i64 c.expect]] w (EvOut (stepsDo c.args l s.pos s.vars) w) := by
  obtain ⟨p, hp⟩ : ∃ N, s.pos = N := ⟨_, rfl⟩
  obtain ⟨r, hr⟩ : ∃ N, s.ver = N := ⟨_, rfl⟩
  obtain ⟨cl, hcl⟩ : ∃ N, c.client = N := ⟨_, rfl⟩
  obtain ⟨sq, hsq⟩ : ∃ N, c.seq = N := ⟨_, rfl⟩
  obtain ⟨sr, hsr⟩ : ∃ N, sv c.stream = N := ⟨_, rfl⟩
  obtain ⟨rl, hrl⟩ : ∃ N, c.rule = N := ⟨_, rfl⟩
  obtain ⟨ex, hex⟩ : ∃ N, c.expect = N := ⟨_, rfl⟩
  rw [hp, hr, hcl, hsq, hsr, hrl, hex]
  obtain ⟨vs, hvs⟩ : ∃ l, s.vars = l := ⟨_, rfl⟩
  obtain ⟨ar, har⟩ : ∃ l, c.args = l := ⟨_, rfl⟩
  rw [hvs] at hs hn ⊢
  rw [har] at hu hal ⊢
  obtain ⟨au, capu, rfl⟩ := sl_len hu
  rw [List.length_map] at hu ⊢
  obtain ⟨na, hna⟩ : ∃ N, ar.length = N := ⟨_, rfl⟩
  rw [hna] at hu hal ⊢
  obtain ⟨asl, capl, rfl, h⟩ := h.open
  obtain ⟨N, hN⟩ : ∃ N, l.length = N := ⟨_, rfl⟩
  rw [hN] at hl h ⊢
  have HSL := Lib.hid h
  have HWF := Lib.hid hw
  have HVR := Lib.hid hvar
  have HLN := Lib.hid hN
  have HL3 := Lib.hid hl
  have HU := Lib.hid hu
  have HAL := Lib.hid (show ar.length ≤ 9223372036854775807 by rw [hna]; exact hal)
  have HN8 := Lib.hid hn8
  clear h hw hvar hN hl hal hna
  obtain ⟨W0, hW0⟩ : ∃ W0, w.alloc (.cells #[.int .i64 p, .int .i64 r, v] 24) = W0 := ⟨_, rfl⟩
  obtain ⟨g, hg⟩ : ∃ g, W0.heap.size = g := ⟨_, rfl⟩
  obtain ⟨W1, hW1⟩ : ∃ W1, W0.alloc (.cells #[.int .i64 cl, .int .i64 sq, sr, .int .i64 rl, .slice au na capu, .int .i64 ex] 43) = W1 := ⟨_, rfl⟩
  have hB0 : Below w.heap.size w W0 := by rw [← hW0]; exact below_alloc _ _
  have hB1 : Below W0.heap.size W0 W1 := by rw [← hW1]; exact below_alloc _ _
  have q0 : W0.cell? ⟨w.heap.size, 0, none⟩ = some (.int .i64 p) := by rw [← hW0]; exact box_cell _ _ _ _ _ rfl
  have q2 : W0.cell? ⟨w.heap.size, 2, none⟩ = some v := by rw [← hW0]; exact box_cell _ _ _ _ _ rfl
  have q0 := kept_cell hB1 q0
  have q2 := kept_cell hB1 q2
  have q4 : W1.cell? ⟨g, 4, none⟩ = some (.slice au na capu) := by rw [← hW1, ← hg]; exact box_cell _ _ _ _ _ rfl
  have hb1 := hB0.trans (hB1.mono hB0.size)
  obtain ⟨W2, hW2⟩ : ∃ W2, W1.alloc (.cells #[fSet, fMove] 78) = W2 := ⟨_, rfl⟩
  have hB2 : Below W1.heap.size W1 W2 := by rw [← hW2]; exact below_alloc _ _
  obtain ⟨gd, hgd⟩ : ∃ gd, W1.heap.size = gd := ⟨_, rfl⟩
  have d0 : W2.cell? ⟨gd, 0, none⟩ = some fSet := by rw [← hW2, ← hgd]; exact box_cell _ _ _ _ _ rfl
  have d1 : W2.cell? ⟨gd, 1, none⟩ = some fMove := by rw [← hW2, ← hgd]; exact box_cell _ _ _ _ _ rfl
  have hgd2 : gd < W2.heap.size := by rw [← hgd, ← hW2]; simp
  have hb2 := hb1.trans (hB2.mono hb1.size)
  have q0 := kept_cell hB2 q0
  have q2 := kept_cell hB2 q2
  have q4 := kept_cell hB2 q4
  have q0d : W2.drew.cell? ⟨w.heap.size, 0, none⟩ = some (.int .i64 p) := q0
  have q2d : W2.drew.cell? ⟨w.heap.size, 2, none⟩ = some v := q2
  have q4d : W2.drew.cell? ⟨g, 4, none⟩ = some (.slice au na capu) := q4
  obtain ⟨Z, hZ⟩ : ∃ Z : Obj, Z = .cells #[.int .i64 0, .slice none 0 0, .slice none 0 0] 80 := ⟨_, rfl⟩
  have hBz : Below W2.drew.heap.size W2.drew (W2.drew.alloc Z) := below_alloc _ _
  have q0z := kept_cell hBz q0d
  have q2z := kept_cell hBz q2d
  have q4z := kept_cell hBz q4d
  rw [hZ] at q0z q2z q4z
  have q0y : (W2.alloc Z).drew.cell? ⟨w.heap.size, 0, none⟩ = some (.int .i64 p) := by rw [hZ]; exact q0z
  have q2y : (W2.alloc Z).drew.cell? ⟨w.heap.size, 2, none⟩ = some v := by rw [hZ]; exact q2z
  have q4y : (W2.alloc Z).drew.cell? ⟨g, 4, none⟩ = some (.slice au na capu) := by rw [hZ]; exact q4z
  rw [hZ] at q0y q2y q4y
  have HP := Lib.hid (fun (W : World) (hb : Below W2.heap.size W2 W) => copied_n vs n v W (Sl.below hs (hb2.trans (hb.mono hb2.size))) hn hn8)
  have HB := Lib.hid hb2
  have HD := Lib.hid (And.intro d0 d1)
  have HGD := Lib.hid hgd2
  have HGW := Lib.hid (show w.heap.size < gd by rw [← hgd, ← hW1]; have := hB0.size; simp; omega)
  have HQ := Lib.hid (And.intro q0 (And.intro q2 q4))
  have hW2 : W1.alloc (.cells #[.func (.func 31) #[] #[], .func (.func 32) #[] #[]] 78) = W2 := hW2
  clear hB0 hB1 hb1 hB2 hb2 d0 d1 hgd2 hBz hZ hs hn8 hu hvs har hp hr hcl hsq hsr hrl hex
  have HAZ := Lib.hid (show Below W2.heap.size W2 (W2.drew.alloc (Obj.cells #[.int .i64 0, .slice none 0 0, .slice none 0 0] 80)) from ((Below.refl W2.heap.size W2).drew).alloc (Nat.le_refl _) _)
  obtain ⟨gz, hgz⟩ : ∃ gz, W2.heap.size = gz := ⟨_, rfl⟩
  have HAZd := Lib.hid (show Below W2.heap.size W2 (W2.alloc (Obj.cells #[.int .i64 0, .slice none 0 0, .slice none 0 0] 80)).drew from ((Below.refl W2.heap.size W2).alloc (Nat.le_refl _) _).drew)
  go_enter Tryd.func24, Tryd.ntmps24
  go_upto_region 2 with fail
  go_cut [9] from 17 to 24 (fun s9 wx => WayMid w p n vs (.slice au na capu) gd s9 wx)
  case first =>
    go_region_law (first | (go_simp; go_at_call 10; refine (HP.out W2.drew ((Below.refl W2.heap.size W2).drew)).mono ?_; rintro _ w3 ⟨k, rfl, hk, hnk, hb3'⟩; have hb3 : Below W2.heap.size W2 w3 := ((Below.refl W2.heap.size W2).drew).trans hb3'; have q03 := kept_cell hb3 HQ.out.1; have q23 := kept_cell hb3 HQ.out.2.1; have q43 := kept_cell hb3 HQ.out.2.2; have q03z := kept_cell (below_alloc w3 (Obj.cells #[.int .i64 0, .slice none 0 0, .slice none 0 0] 80)) q03; have q23z := kept_cell (below_alloc w3 (Obj.cells #[.int .i64 0, .slice none 0 0, .slice none 0 0] 80)) q23; have q43z := kept_cell (below_alloc w3 (Obj.cells #[.int .i64 0, .slice none 0 0, .slice none 0 0] 80)) q43; have HB3 := Lib.hid hb3; have HK := Lib.hid (show W2.heap.size ≤ k from hk); have HN := Lib.hid hnk; clear hb3 hb3' hk hnk) | (go_simp; go_at_call 10; refine (HP.out _ (by first | exact HAZ.out | exact HAZd.out)).mono ?_; rintro _ w3 ⟨k, rfl, hk, hnk, hb3'⟩; obtain ⟨hzz, hb3, hlz⟩ := zero_kept (W2 := W2) (T := 80) (cs := #[.int .i64 0, .slice none 0 0, .slice none 0 0]) (by first | exact Or.inl rfl | exact Or.inr rfl) hb3'; have q03 := kept_cell hb3 HQ.out.1; have q23 := kept_cell hb3 HQ.out.2.1; have q43 := kept_cell hb3 HQ.out.2.2; rw [hgz] at hzz; obtain ⟨⟨z0, y0⟩, ⟨z1, y1⟩, ⟨z2, y2⟩⟩ := zero_cells hzz; have HZZ := Lib.hid hzz; have HB3 := Lib.hid hb3; have HK := Lib.hid (Nat.lt_of_lt_of_le hlz hk); have HN := Lib.hid hnk; clear hb3 hb3' hk hnk hzz hlz))
    all_goals
      go_wp2_with fail
      go_meet
      first
        | exact mid_a HB.out HB3.out HN.out HK.out HGD.out HD.out
        | exact mid_b HB.out HB3.out HN.out HK.out hgz HZZ.out HGD.out HD.out
  case rest =>
    obtain ⟨wm, rfl⟩ : ∃ W : World, W = wc := ⟨_, rfl⟩
    obtain ⟨q, k, rfl, hway, hnum, hqk, hgq, hgk, hbw, hd0, hd1⟩ := (show WayMid w p n vs (.slice au na capu) gd _ _ from hcut)
    clear hcut
    obtain ⟨M, hM⟩ : ∃ M, wm.heap.size = M := ⟨_, rfl⟩
    have hqM : q < M := by rw [← hM]; exact hway.lt
    have hkM : k < M := by rw [← hM]; exact hnum.lt
    have hsw : Sw w q k n gd M (.slice au na capu) [] (.slice none 0 0) p vs wm := ⟨hbw, hway, hnum, hn, hd0, hd1, ⟨rfl, Or.inl ⟨rfl, rfl⟩⟩, fun x hx => by cases hx⟩
    have HSW := Lib.hid hsw
    have HK := Lib.hid (show w.heap.size ≤ q ∧ w.heap.size ≤ k ∧ q ≠ k ∧ gd < q ∧ gd < k ∧ q < M ∧ k < M ∧ gd < M ∧ w.heap.size ≤ M from ⟨by have := HGW.out; omega, by have := HGW.out; omega, hqk, hgq, hgk, hqM, hkM, by omega, by have := HGW.out; omega⟩)
    have HMM := Lib.hid (show M ≤ wm.heap.size by omega)
    obtain ⟨i0, hi, hz0, hz1, hz2⟩ := info3 ev_infos
    clear hway hnum hqk hgq hgk hbw hd0 hd1 hqM hkM hsw HAZ HAZd HP hgz HGD HD HQ hM
    go_wp2_with fail
    go_loopw [10, 27] (fun lv i wr => ∃ (K : Nat) (L : List (Ev × Nat)) (pos : Int) (now : List Int), i = .int .i64 (K : Int) ∧ K ≤ N ∧ L.length = K ∧ Hid (Sw w q k n gd M (.slice au na capu) L lv pos now wr) ∧ Hid (M ≤ wr.heap.size) ∧ Hid (stepsDo ar l p vs = match stepsDo ar (l.drop K) pos now with | none => none | some r => some (L.map (·.1) ++ r))) (fun _ i _ => N - (intOf i).toNat)
    case atStart => exact ⟨0, [], p, vs, rfl, Nat.zero_le _, rfl, HSW, HMM, Lib.hid (by rw [List.drop_zero]; cases stepsDo ar l p vs <;> rfl)⟩
    case round =>
      obtain ⟨K, L, pos, now, rfl, hK, hLK, HS, HM, HI⟩ := hrel
      by_cases hlt : K < N
      · have hltI : (K : Int) < (N : Int) := by omega
        obtain ⟨st, hst⟩ : ∃ st, l[K]? = some st := ⟨_, List.getElem?_eq_getElem (by rw [HLN.out]; exact hlt)⟩
        obtain ⟨b, off, ea, cs, -, ⟨cv, rfl, hcv⟩, hc⟩ := HSL.out.at hst
        subst ea
        have HST0 := Lib.hid hcv
        obtain ⟨a0, cap0, hce, -⟩ := hcv.open
        obtain ⟨n0, hn0⟩ : ∃ n, st.sets.length = n := ⟨_, rfl⟩
        rw [hn0] at hce
        subst hce
        obtain ⟨T, hT⟩ : ∃ T, st.to = T := ⟨_, rfl⟩
        have k0 : wr.cell? ⟨b, off + K * 2, none⟩ = some (.slice a0 n0 cap0) := (HS.out.bel.cell (p := ⟨b, off + K * 2, none⟩) (World.block_lt_of_cell? w _ (hc 0 _ rfl))).trans (hc 0 _ rfl)
        have k1 : wr.cell? ⟨b, off + K * 2 + 1, none⟩ = some (.int .i64 T) := by rw [← hT]; exact (HS.out.bel.cell (p := ⟨b, off + K * 2 + 1, none⟩) (World.block_lt_of_cell? w _ (hc 1 _ rfl))).trans (hc 1 _ rfl)
        have hsm := List.mem_of_getElem? hst
        have HSP := Lib.hid (HWF.out st hsm)
        have HVS := Lib.hid (HVR.out st hsm)
        have HSD := Lib.hid (stepsDo_at ar l K st pos now hst)
        have HT := Lib.hid hT
        obtain ⟨W1, hW1⟩ : ∃ W1, wr.alloc (.cells #[.slice a0 n0 cap0, .int .i64 T] 57) = W1 := ⟨_, rfl⟩
        have hB1 : Below wr.heap.size wr W1 := by rw [← hW1]; exact below_alloc _ _
        obtain ⟨z, hz⟩ : ∃ z, wr.heap.size = z := ⟨_, rfl⟩
        have c0 : W1.cell? ⟨z, 0, none⟩ = some (.slice a0 n0 cap0) := by rw [← hW1, ← hz]; exact box_cell _ _ _ _ _ rfl
        have c1 : W1.cell? ⟨z, 1, none⟩ = some (.int .i64 T) := by rw [← hW1, ← hz]; exact box_cell _ _ _ _ _ rfl
        have HS1 := Lib.hid (HS.out.call hB1)
        have HMZ := Lib.hid (show M ≤ z by rw [← hz]; exact HM.out)
        have HM1 := Lib.hid (Nat.le_trans HM.out hB1.size)
        have HC1 := Lib.hid (And.intro c0 c1)
        have e0 : W1.cell? ⟨gd, 0, none⟩ = some (.func (.func 31) #[] #[]) := HS1.out.d0
        have e1 : W1.cell? ⟨gd, 1, none⟩ = some (.func (.func 32) #[] #[]) := HS1.out.d1
        have hwK := wrap_next K (by have := HL3.out; omega)
        clear hst hc hcv hsm hT hB1 HS HM hn0 c0 c1
        go_wp2_with fail
        clear k0 k1 hW1 hz e0 e1
        go_loopw [32] (fun i wr => ∃ (I : Nat) (pos2 : Int) (now2 : List Int), i = .int .i64 (I : Int) ∧ I ≤ 2 ∧ Hid (Sw w q k n gd M (.slice au na capu) L u10 pos2 now2 wr) ∧ Hid (wr.cell? ⟨z, 0, none⟩ = some (.slice a0 n0 cap0) ∧ wr.cell? ⟨z, 1, none⟩ = some (.int .i64 T)) ∧ Hid (M ≤ wr.heap.size) ∧
          Hid ((I = 0 ∧ pos2 = pos ∧ now2 = now) ∨ (I = 1 ∧ pos2 = pos ∧ setsDo now ar st.sets now = some now2) ∨ (I = 2 ∧ pos2 = goTo st pos ∧ setsDo now ar st.sets now = some now2))) (fun i _ => 2 - (intOf i).toNat)
        case atStart => exact ⟨0, pos, now, rfl, by omega, HS1, HC1, HM1, Lib.hid (Or.inl ⟨rfl, rfl, rfl⟩)⟩
        case round =>
          obtain ⟨I, pos2, now2, rfl, hI2, HS2, HC2, HM2, HO⟩ := hrel
          have hor := HO.out
          obtain ⟨K1, K2, K3, K4, K5, K6, K7, K8, K9⟩ := HK.out
          rcases hor with ⟨rfl, rfl, rfl⟩ | ⟨rfl, rfl, hso⟩ | ⟨rfl, rfl, hso⟩
          · have hcall := set_any st (.slice a0 n0 cap0) (.slice au na capu) q k n pos2 now2 ar w wr HS2.out.bel K2 K3 HS2.out.way HS2.out.nums HS2.out.len HN8.out HST0.out HSP.out HVS.out HU.out HAL.out
            rw [HT.out] at hcall
            have HCALL := Lib.hid hcall
            have hix : ∀ W : World, (Instr.index 78 (.agg #[.func (.func 31) #[] #[], .func (.func 32) #[] #[]]) (.int .i64 0)).run Tryd.prog W = .ok (.func (.func 31) #[] #[]) W := fun _ => by kernel_rfl
            have c0 := HC2.out.1
            have c1 := HC2.out.2
            clear hcall K1 K2 K3 K4 K5 K6 K7 K8 K9 HO
            go_wp2_with fail
            refine HCALL.out.mono ?_
            rintro z3 w3 ⟨ht, hor⟩
            obtain ⟨K1, K2, K3, K4, K5, K6, K7, K8, K9⟩ := HK.out
            have d0 := ht.cell HC2.out.1 (by have := HMZ.out; omega)
            have d1 := ht.cell HC2.out.2 (by have := HMZ.out; omega)
            have HC3 := Lib.hid (And.intro d0 d1)
            have HM3 := Lib.hid (Nat.le_trans HM2.out ht.size)
            rcases hor with ⟨hno, rfl⟩ | ⟨now3, hso, rfl, hnn⟩
            · have HB3 := Lib.hid (ht.below HS2.out.bel HS2.out.bel.size K2)
              have HNO := Lib.hid (show stepsDo ar l p vs = none by rw [HI.out, HSD.out, hno])
              clear ht hno K1 K2 K3 K4 K5 K6 K7 K8 K9 d0 d1 c0 c1 HCALL
              go_wp2_with fail
              go_ret2
              exact ⟨HB3.out, Or.inl ⟨HNO.out, rfl⟩⟩
            · have hl3 : now3.length = n := (setsDo_length _ _ _ _ _ hso).trans HS2.out.len
              have HS3 := Lib.hid (HS2.out.turnk ht hnn hl3 K2 K3 K5 K7)
              have HO3 := Lib.hid hso
              clear ht hnn hl3 K1 K2 K3 K4 K5 K6 K7 K8 K9 d0 d1 c0 c1 HCALL hso
              go_wp2_with fail
              go_round
              case rel => exact ⟨1, _, now3, rfl, by omega, HS3, HC3, HM3, Lib.hid (Or.inr (Or.inl ⟨rfl, rfl, HO3.out⟩))⟩
              case measure => simp [intOf]
          · have hcall := move_any st (.slice a0 n0 cap0) (.slice au na capu) q k n pos2 wr HS2.out.way rfl
            rw [HT.out] at hcall
            have HCALL := Lib.hid hcall
            have hix : ∀ W : World, (Instr.index 78 (.agg #[.func (.func 31) #[] #[], .func (.func 32) #[] #[]]) (.int .i64 1)).run Tryd.prog W = .ok (.func (.func 32) #[] #[]) W := fun _ => by kernel_rfl
            have HSO := Lib.hid hso
            have c0 := HC2.out.1
            have c1 := HC2.out.2
            clear hcall K1 K2 K3 K4 K5 K6 K7 K8 K9 HO hso
            go_wp2_with fail
            refine HCALL.out.mono ?_
            rintro _ w3 ⟨rfl, hwy, ht⟩
            obtain ⟨K1, K2, K3, K4, K5, K6, K7, K8, K9⟩ := HK.out
            have d0 := ht.cell HC2.out.1 (by have := HMZ.out; omega)
            have d1 := ht.cell HC2.out.2 (by have := HMZ.out; omega)
            have HC3 := Lib.hid (And.intro d0 d1)
            have HM3 := Lib.hid (Nat.le_trans HM2.out ht.size)
            have HS3 := Lib.hid (HS2.out.turng ht hwy K1 K3 K4 K6)
            clear ht hwy K1 K2 K3 K4 K5 K6 K7 K8 K9 d0 d1 c0 c1 HCALL
            go_wp2_with fail
            go_round
            case rel => exact ⟨2, _, now2, rfl, by omega, HS3, HC3, HM3, Lib.hid (Or.inr (Or.inr ⟨rfl, rfl, HSO.out⟩))⟩
            case measure => simp [intOf]
          · have HSO := Lib.hid hso
            have HCALL := Lib.hid (event_any q k n (goTo st pos) now2 (.slice au na capu) wr HS2.out.way HS2.out.nums HS2.out.len HN8.out)
            have HLT := Lib.hid hlt
            clear K1 K2 K3 K4 K5 K6 K7 K8 K9 HO hso
            go_wp2_with fail
            refine HCALL.out.mono ?_
            rintro _ w3 ⟨k', rfl, hk', hnk, hb3⟩
            have HS3 := Lib.hid (HS2.out.call hb3)
            have HM3 := Lib.hid (Nat.le_trans HM2.out hb3.size)
            have HNK := Lib.hid hnk
            have HK' := Lib.hid hk'
            have HOWN := Lib.hid (own_lt HS2.out.own)
            obtain ⟨G, hG⟩ : ∃ G, goTo st pos = G := ⟨_, rfl⟩
            have HG := Lib.hid hG
            rw [hG] at HS3 ⊢
            have hb4 := below_alloc w3 (.cells #[.int .i64 G, .slice (some ⟨k', 0, none⟩) n n] 31)
            have HS4 := Lib.hid (HS3.out.call hb4)
            have HN4 := Lib.hid (hnk.below hb4)
            have HM4 := Lib.hid (Nat.le_trans HM3.out hb4.size)
            have HLT4 := Lib.hid (show k' < (w3.alloc (.cells #[.int .i64 G, .slice (some ⟨k', 0, none⟩) n n] 31)).heap.size from (hnk.below hb4).lt)
            have HR1 := Lib.hid (show L.length + 1 ≤ maxLen by have := HL3.out; have := HLT.out; unfold maxLen; omega)
            have HR2 := Lib.hid (show (L.length + 1) * 32 ≤ 140737488355328 by have := HL3.out; have := HLT.out; omega)
            clear hb3 hnk hk' hb4 hG
            go_wp2_with (at_builtin; go_must (refine wpList_append_lies _ rfl _ _ 25 rfl M 31 i0 (.agg #[.int .i64 0, .slice none 0 0]) 2 32 Tryd.underlying25 hi hz0 hz1 hz2 rfl (by decide) _ _ _ rfl HS4.out.own ⟨w3.heap.size, 0, none⟩ 1 1 [.int .i64 G, .slice (some ⟨k', 0, none⟩) n n] rfl rfl (new_two _ _ _ _) (two_one _ _ _) (by decide) HR1.out HR2.out HM4.out _ rfl ?_); intro b' cap' w5 hown5 hgr5 hbk5 hlt5)
            obtain ⟨K1, K2, K3, K4, K5, K6, K7, K8, K9⟩ := HK.out
            have hp := Sw.push (e := ⟨G, now2⟩) HS4.out HS4.out.len HN4.out (Nat.le_trans HM2.out HK'.out) (fun e => Nat.lt_irrefl _ (Nat.lt_of_lt_of_le (HOWN.out k' e) HK'.out)) HLT4.out rfl rfl hown5 hgr5 hbk5 HM4.out K7 K6 K8 K9
            have HI5 := Lib.hid (show stepsDo ar l p vs = match stepsDo ar (l.drop (K + 1)) G now2 with | none => none | some r => some ((L ++ [((⟨G, now2⟩ : Ev), k')]).map (·.1) ++ r) by
              rw [HI.out, HSD.out, HSO.out, HG.out]
              obtain ⟨o, ho⟩ : ∃ o, stepsDo ar (l.drop (K + 1)) G now2 = o := ⟨_, rfl⟩
              simp only [ho]
              cases o <;> simp)
            rw [hLK] at hp
            refine ⟨⟨K + 1, L ++ [(⟨G, now2⟩, k')], G, now2, by go_num, by omega, by rw [List.length_append, hLK]; rfl, Lib.hid hp, Lib.hid (Nat.le_trans HM4.out hgr5.size), HI5⟩, by simp [intOf]; omega⟩
      · have hltI : ¬ (K : Int) < (N : Int) := by omega
        have hfin : stepsDo ar l p vs = some (L.map (·.1)) := by
          rw [HI.out, List.drop_of_length_le (by have := HLN.out; omega)]
          show some (L.map (·.1) ++ []) = _
          rw [List.append_nil]
        have HF := Lib.hid hfin
        clear hfin
        go_wp2_with fail
        go_ret2
        exact ⟨HS.out.bel, Or.inr ⟨_, _, HF.out, rfl, HS.out.read_new HK.out.2.2.2.2.2.2.2.2⟩⟩
end Go.Proofs.YtgkniocjlkfhmaaDoor.D
