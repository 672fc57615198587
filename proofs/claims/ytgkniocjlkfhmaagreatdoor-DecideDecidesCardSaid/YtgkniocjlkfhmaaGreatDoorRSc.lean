/-
  Layer 5: contracts of the reference: what is wrong with a rule's lists.
-/
import Derived.Test.YtgkniocjlkfhmaaGreatDoorSVo
namespace Go.Proofs.YtgkniocjlkfhmaaGreatDoor.R
open Go Go.RowKit Go.Proofs.YtgkniocjlkfhmaaGreatDoor.B Go.Proofs.YtgkniocjlkfhmaaGreatDoor.K Go.Proofs.YtgkniocjlkfhmaaGreatDoor.E
set_option linter.unusedVariables false

theorem fromBad_at (S : Int) (l : List Int) (K : Nat) (x : Int) (h : l[K]? = some x) : fromBad S l K = placeE x S ((l.take K).any fun y => y == x) := by
  unfold fromBad; rw [h]
theorem guardBad_at (V A : Int) (l : List Gd) (K : Nat) (g : Gd) (h : l[K]? = some g) : guardBad V A l K = gdBad V A g := by
  unfold guardBad; rw [h]; rfl
theorem stepBad_at (S V A : Int) (l : List Sp) (K : Nat) (p : Sp) (h : l[K]? = some p) : stepBad S V A l K = spBad S V A p := by
  unfold stepBad; rw [h]

theorem any_take_int {l : List Int} {J : Nat} {x y : Int} (h : (l.take J).any (fun z => z == x) = false) (hy : l[J]? = some y) (hne : (y == x) = false) : (l.take (J + 1)).any (fun z => z == x) = false := by
  rw [List.take_add_one, hy, List.any_append, h, Bool.false_or]
  simp [hne]

/-- The parts of a rule that are lists. -/
def ruleTail (t : Tb) (r : Rl) : List Pt := [
  ⟨7, 0, r.from_.length, fromBad t.states.length r.from_⟩,
  ⟨8, countE r.guards.length 0 4, r.guards.length, guardBad t.vars.length r.args r.guards⟩,
  ⟨9, countE r.steps.length 1 3, r.steps.length, stepBad t.states.length t.vars.length r.args r.steps⟩]

/-- What a part tells, or what is behind it. -/
def orF (o : Option (Nat × Int)) (rule num : Int) (d : Ft) : Ft := match o with
  | some x => (x.2, rule, num, (x.1 : Int))
  | none => d

theorem ff_cons (rule : Int) (p : Pt) (l : List Pt) : ff rule (p :: l) = if p.whole ≠ 0 then (p.whole, rule, p.number, 0) else orF (firstBad p.wrong 0 p.places) rule p.number (ff rule l) := by
  unfold orF; rfl

/-- The end: the fault is in its cells. -/
def f4_ok (w wr : World) (g : Nat) (f R : Ft) : Prop := F4 ((((wr.setCell ⟨g, 0, none⟩ (.int .i64 f.1)).setCell ⟨g, 1, none⟩ (.int .i64 f.2.1)).setCell ⟨g, 2, none⟩ (.int .i64 f.2.2.1)).setCell ⟨g, 3, none⟩ (.int .i64 f.2.2.2)) g f ∧ R.v = f.v ∧
  Below w.heap.size w ((((wr.setCell ⟨g, 0, none⟩ (.int .i64 f.1)).setCell ⟨g, 1, none⟩ (.int .i64 f.2.1)).setCell ⟨g, 2, none⟩ (.int .i64 f.2.2.1)).setCell ⟨g, 3, none⟩ (.int .i64 f.2.2.2))

theorem countE_no {n a b : Int} (h1 : ¬ b < n) (h2 : ¬ n < a) : countE n a b = 0 := by unfold countE; rw [if_neg h1, if_neg h2]
theorem countE_big {n a b : Int} (h1 : b < n) : countE n a b = 4 := by unfold countE; rw [if_pos h1]
theorem countE_few {n a b : Int} (h1 : ¬ b < n) (h2 : n < a) : countE n a b = 2 := by unfold countE; rw [if_neg h1, if_pos h2]

theorem firstBad_now (f : Nat → Int) (K N : Nat) (x : Int) (h : K < N) (hx : f K = x) (hne : x ≠ 0) : firstBad f K (N - K) = some (K, x) := by
  rw [firstBad_step f K N h, hx, if_pos hne]
theorem firstBad_later (f : Nat → Int) (K N : Nat) (h : K < N) (hx : f K = 0) : firstBad f (K + 1) (N - (K + 1)) = firstBad f K (N - K) := by
  rw [firstBad_step f K N h, hx, if_neg (by decide)]

set_option maxHeartbeats 8000000 in
set_option maxRecDepth 100000 in
theorem refRule_any (t : Tb) (c0 c1 c2 c3 : Value) (n : Nat) (r : Rl) (w : World) (h : TbIs w [c0, c1, c2, c3] t) (hw : TbWf t) (hr : t.rules[n]? = some r) :
    Calls Tryz.prog 34 #[.agg #[c0, c1, c2, c3], .int .i64 (n : Int)] w fun z w' => z = .returned (ff n (ruleTail t r)).v ∧ Below w.heap.size w w' := by
  obtain ⟨d0, d1, d2, d3, e, h0, h1, h2, h3⟩ := h
  cases e
  obtain ⟨a0, cap0, rfl⟩ := sl_len h0
  obtain ⟨a1, cap1, rfl⟩ := sl_len h1
  obtain ⟨a3, cap3, rfl, h3⟩ := h3.open
  rw [List.length_map, List.length_map]
  obtain ⟨b, off, ea, cs, -, ⟨vf, vg, vp, rfl, hf, hg, hp⟩, hc⟩ := h3.at hr
  subst ea
  have hRW := hw.2.2.2.1 r (List.mem_of_getElem? hr)
  obtain ⟨hnm, -, ⟨hfw, hfl⟩, ⟨hgw, hgl⟩, ⟨hpw, hpl⟩⟩ := hRW
  obtain ⟨af, capf, rfl⟩ := sl_len hf
  obtain ⟨ag, capg, rfl, hg⟩ := hg.open
  obtain ⟨ap, capp, rfl, hp⟩ := hp.open
  rw [List.length_map] at hc
  have hSf : SlN w (.slice af r.from_.length capf) r.from_ := by rw [List.length_map] at hf; exact hf
  have hnN : n < t.rules.length := (List.getElem?_eq_some_iff.1 hr).1
  obtain ⟨R, hR⟩ : ∃ R, ff n (ruleTail t r) = R := ⟨_, rfl⟩
  have hR1 := hR
  unfold ruleTail at hR1
  rw [ff_cons, ff_cons, ff_cons, show ff (n : Int) [] = (0, 0, 0, 0) from rfl] at hR1
  rw [hR]
  obtain ⟨S, hS⟩ : ∃ N, t.states.length = N := ⟨_, rfl⟩
  obtain ⟨V, hV⟩ : ∃ N, t.vars.length = N := ⟨_, rfl⟩
  obtain ⟨N, hN⟩ : ∃ N, t.rules.length = N := ⟨_, rfl⟩
  obtain ⟨F, hF⟩ : ∃ N, r.from_.length = N := ⟨_, rfl⟩
  obtain ⟨G, hG⟩ : ∃ N, r.guards.length = N := ⟨_, rfl⟩
  obtain ⟨T, hT⟩ : ∃ N, r.steps.length = N := ⟨_, rfl⟩
  obtain ⟨A, hA⟩ : ∃ A, r.args = A := ⟨_, rfl⟩
  rw [hS, hV, hN]
  rw [hS, hV, hF, hG, hT, hA] at hR1
  rw [hN] at hnN
  rw [hF] at hfl hSf hc
  rw [hG] at hgl hg hc
  rw [hT] at hpl hp hc
  rw [hA] at hc
  have HSF := Lib.hid hSf
  have HSG := Lib.hid hg
  have HSP := Lib.hid hp
  have HFL := Lib.hid hfl
  have HGL := Lib.hid hgl
  have HPL := Lib.hid hpl
  have HGW := Lib.hid hgw
  have HPW := Lib.hid hpw
  have HF := Lib.hid hF
  have HG := Lib.hid hG
  have HT := Lib.hid hT
  have HR := Lib.hid hR1
  obtain ⟨nm, hnm0⟩ : ∃ s, r.name = s := ⟨_, rfl⟩
  rw [hnm0] at hc
  obtain ⟨W0, hW0⟩ : ∃ W0, w.alloc (.cells #[.slice a0 S cap0, .slice a1 V cap1, c2, .slice (some ⟨b, off, none⟩) N cap3] 26) = W0 := ⟨_, rfl⟩
  have hB0 : Below w.heap.size w W0 := by rw [← hW0]; exact below_alloc _ _
  have q0 : W0.cell? ⟨w.heap.size, 0, none⟩ = some (.slice a0 S cap0) := by rw [← hW0]; exact box_cell _ _ _ _ _ rfl
  have q1 : W0.cell? ⟨w.heap.size, 1, none⟩ = some (.slice a1 V cap1) := by rw [← hW0]; exact box_cell _ _ _ _ _ rfl
  have q2 : W0.cell? ⟨w.heap.size, 2, none⟩ = some c2 := by rw [← hW0]; exact box_cell _ _ _ _ _ rfl
  have q3 : W0.cell? ⟨w.heap.size, 3, none⟩ = some (.slice (some ⟨b, off, none⟩) N cap3) := by rw [← hW0]; exact box_cell _ _ _ _ _ rfl
  obtain ⟨g4, hg4⟩ : ∃ g, W0.heap.size = g := ⟨_, rfl⟩
  obtain ⟨W1, hW1⟩ : ∃ W1, W0.alloc (.cells #[.int .i64 0, .int .i64 0, .int .i64 0, .int .i64 0] 31) = W1 := ⟨_, rfl⟩
  have hB1 : Below W0.heap.size W0 W1 := by rw [← hW1]; exact below_alloc _ _
  have hF1 : F4 W1 g4 (0, 0, 0, 0) := by rw [← hW1, ← hg4]; exact heap_alloc_at _ _
  have q0 := kept_cell hB1 q0
  have q1 := kept_cell hB1 q1
  have q2 := kept_cell hB1 q2
  have q3 := kept_cell hB1 q3
  have hB01 := hB0.trans (hB1.mono hB0.size)
  have k0 : W1.cell? ⟨b, off + n * 5, none⟩ = some (.string (str nm)) := kept_cell hB01 (hc 0 _ rfl)
  have k1 := kept_cell hB01 (hc 1 _ rfl)
  have k2 := kept_cell hB01 (hc 2 _ rfl)
  have k3 := kept_cell hB01 (hc 3 _ rfl)
  have k4 := kept_cell hB01 (hc 4 _ rfl)
  obtain ⟨g5, hg5⟩ : ∃ g, W1.heap.size = g := ⟨_, rfl⟩
  obtain ⟨W2, hW2⟩ : ∃ W2, W1.alloc (.cells #[.string (str nm), .int .i64 A, .slice af F capf, .slice ag G capg, .slice ap T capp] 57) = W2 := ⟨_, rfl⟩
  have hB2 : Below W1.heap.size W1 W2 := by rw [← hW2]; exact below_alloc _ _
  have u1 : W2.cell? ⟨g5, 1, none⟩ = some (.int .i64 A) := by rw [← hW2, ← hg5]; exact box_cell _ _ _ _ _ rfl
  have u2 : W2.cell? ⟨g5, 2, none⟩ = some (.slice af F capf) := by rw [← hW2, ← hg5]; exact box_cell _ _ _ _ _ rfl
  have u3 : W2.cell? ⟨g5, 3, none⟩ = some (.slice ag G capg) := by rw [← hW2, ← hg5]; exact box_cell _ _ _ _ _ rfl
  have u4 : W2.cell? ⟨g5, 4, none⟩ = some (.slice ap T capp) := by rw [← hW2, ← hg5]; exact box_cell _ _ _ _ _ rfl
  have v0 := kept_cell hB2 q0
  have v1 := kept_cell hB2 q1
  have v2 := kept_cell hB2 q2
  have v3 := kept_cell hB2 q3
  have HF4 := Lib.hid (hF1.below hB2)
  have HB := Lib.hid (hB01.trans (hB2.mono hB01.size))
  have HGW4 := Lib.hid (show w.heap.size ≤ g4 by rw [← hg4]; exact hB0.size)
  have HU := Lib.hid (show (W2.cell? ⟨w.heap.size, 0, none⟩ = some (.slice a0 S cap0) ∧ W2.cell? ⟨w.heap.size, 1, none⟩ = some (.slice a1 V cap1) ∧ W2.cell? ⟨w.heap.size, 2, none⟩ = some c2 ∧ W2.cell? ⟨w.heap.size, 3, none⟩ = some (.slice (some ⟨b, off, none⟩) N cap3)) ∧ W2.cell? ⟨g5, 1, none⟩ = some (.int .i64 A) ∧ W2.cell? ⟨g5, 2, none⟩ = some (.slice af F capf) ∧ W2.cell? ⟨g5, 3, none⟩ = some (.slice ag G capg) ∧ W2.cell? ⟨g5, 4, none⟩ = some (.slice ap T capp) from ⟨⟨v0, v1, v2, v3⟩, u1, u2, u3, u4⟩)
  have hend : ∀ (wr : World) (f : Ft), Below W2.heap.size W2 wr → R = f → f4_ok w wr g4 f R := fun wr f hb he => ⟨(HF4.out.below hb).set f, by rw [he], below_set4 (HB.out.trans (hb.mono HB.out.size)) HGW4.out _ _ _ _⟩
  have HEND := Lib.hid hend
  clear hend h0 h1 h2 h3 hf hg hp hnm hfw hfl hgw hgl hpw hpl hSf hR hR1 hS hV hN hF hG hT hc hB0 hB1 hB2 hB01 hF1 hw hr hnm0 q0 q1 q2 u3 u4 v0 v1 v2 v3 u1 u2
  go_enter Tryz.func34, Tryz.ntmps34
  go_wp2_with fail
  go_loopw [6] (fun y wr => ∃ (K : Nat), y = .int .i64 (K : Int) ∧ K ≤ F ∧ Hid (Below W2.heap.size W2 wr) ∧ Hid (firstBad (fromBad S r.from_) K (F - K) = firstBad (fromBad S r.from_) 0 F)) (fun y _ => F - (intOf y).toNat)
  case atStart => exact ⟨0, rfl, Nat.zero_le _, Lib.hid (Below.refl _ _), Lib.hid rfl⟩
  case round =>
    obtain ⟨K, rfl, hK, HBK, HI⟩ := hrel
    clear k0 k1 k2 k3 k4 q3 hW0 hW1 hW2 hg4 hg5
    have x2 := kept_cell HBK.out HU.out.2.2.1
    have y0 := kept_cell HBK.out HU.out.1.1
    obtain ⟨⟨r0, s0⟩, ⟨r1, s1⟩, ⟨r2, s2⟩, r3, s3⟩ := (HF4.out.below HBK.out).cells
    by_cases hlt : K < F
    · have hltI : (K : Int) < (F : Int) := by omega
      obtain ⟨x, hx⟩ : ∃ x, r.from_[K]? = some x := ⟨_, List.getElem?_eq_getElem (by rw [HF.out]; exact hlt)⟩
      have hm : (r.from_.map fun n => Value.int .i64 n)[K]? = some (.int .i64 x) := by rw [List.getElem?_map, hx]; rfl
      obtain ⟨bf, of_, ea, hc⟩ := HSF.out.at hm
      subst ea
      have HBW := Lib.hid (HB.out.trans (HBK.out.mono HB.out.size))
      have HC0 := Lib.hid hc
      have z0 := kept_cell HBW.out hc
      have hat := fromBad_at S r.from_ K x hx
      have hwK := wrap_next K (by have := HFL.out; omega)
      clear hm hx hc
      by_cases hin : 0 ≤ x ∧ x < (S : Int)
      case neg =>
        rw [placeE_out hin] at hat
        have hfb := (HI.out.symm.trans (firstBad_now _ K F 3 hlt hat (by decide)))
        have HV := Lib.hid (show R = (3, (n : Int), 7, (K : Int)) by rw [← HR.out, hfb]; rfl)
        by_cases h0 : x < 0
        · clear hin hat hfb HI
          go_wp2_with fail
          go_quiet (fail)
          go_wp2_with fail
          obtain ⟨hx1, hx2, hx3⟩ := HEND.out _ _ (below_drewN HBK.out _) HV.out
          exact f4_end (3, (n : Int), 7, (K : Int)) rfl rfl rfl hx1 ⟨by rw [hx2], hx3⟩
        · have h1 : (S : Int) ≤ x := by omega
          clear hin hat hfb HI
          go_wp2_with fail
          go_quiet (fail)
          go_wp2_with fail
          obtain ⟨hx1, hx2, hx3⟩ := HEND.out _ _ (below_drewN HBK.out _) HV.out
          exact f4_end (3, (n : Int), 7, (K : Int)) rfl rfl rfl hx1 ⟨by rw [hx2], hx3⟩
      case pos =>
        rw [placeE_in hin] at hat
        obtain ⟨h0, h1⟩ := hin
        have h0 : ¬ x < 0 := by omega
        have h1 : ¬ (S : Int) ≤ x := by omega
        have HAT := Lib.hid hat
        clear hat
        go_wp2_with fail
        go_quiet (fail)
        go_wp2_with fail
        go_loopw [7] (fun y wy => ∃ (J : Nat), y = .int .i64 (J : Int) ∧ J ≤ K ∧ Hid (Below W2.heap.size W2 wy) ∧ Hid ((r.from_.take J).any (fun z => z == x) = false)) (fun y _ => K - (intOf y).toNat)
        case atStart => exact ⟨0, rfl, Nat.zero_le _, Lib.hid (below_drewN HBK.out _), Lib.hid rfl⟩
        case round =>
          clear x2 y0 z0 r0 r1 r2 r3 s0 s1 s2 s3 HBK HBW
          obtain ⟨J, rfl, hJ, HBK, HJ⟩ := hrel
          have x2 := kept_cell HBK.out HU.out.2.2.1
          obtain ⟨⟨r0, s0⟩, ⟨r1, s1⟩, ⟨r2, s2⟩, r3, s3⟩ := (HF4.out.below HBK.out).cells
          have HBW := Lib.hid (HB.out.trans (HBK.out.mono HB.out.size))
          have z0 := kept_cell HBW.out HC0.out
          by_cases hltJ : J < K
          · have hltJI : (J : Int) < (K : Int) := by omega
            have hltJF : (J : Int) < (F : Int) := by omega
            obtain ⟨y, hy⟩ : ∃ y, r.from_[J]? = some y := ⟨_, List.getElem?_eq_getElem (by rw [HF.out]; omega)⟩
            have hm : (r.from_.map fun n => Value.int .i64 n)[J]? = some (.int .i64 y) := by rw [List.getElem?_map, hy]; rfl
            obtain ⟨b2, o2, ea, hc⟩ := HSF.out.at hm
            cases ea
            have z1 := kept_cell HBW.out hc
            have HYJ := Lib.hid hy
            have hwJ := wrap_next J (by have := HFL.out; omega)
            clear hm hc hy
            by_cases hq : y = x
            · have hqb : (y == x) = true := beq_iff_eq.2 hq
              have hany : (r.from_.take K).any (fun z => z == x) = true := by
                rw [List.any_eq_true]
                exact ⟨y, List.mem_of_getElem? (i := J) (by rw [List.getElem?_take, if_pos hltJ]; exact HYJ.out), hqb⟩
              have hat := HAT.out
              rw [hany, if_pos rfl] at hat
              have hfb := (HI.out.symm.trans (firstBad_now _ K F 9 hlt hat (by decide)))
              have HV := Lib.hid (show R = (9, (n : Int), 7, (K : Int)) by rw [← HR.out, hfb]; rfl)
              clear hq hany hat hfb HI HAT
              go_wp2_with fail
              go_quiet (fail)
              go_wp2_with fail
              obtain ⟨hx1, hx2, hx3⟩ := HEND.out _ _ (below_drewN HBK.out _) HV.out
              exact f4_end (9, (n : Int), 7, (K : Int)) rfl rfl rfl hx1 ⟨by rw [hx2], hx3⟩
            · have hqb : (y == x) = false := beq_eq_false_iff_ne.2 hq
              have HQ := Lib.hid hqb
              clear hq
              go_wp2_with fail
              go_quiet (fail)
              go_wp2_with fail
              clear hwJ hltI hltJI hwK hltJF h0 h1
              exact ⟨⟨J + 1, by go_num, by omega, Lib.hid (below_drewN HBK.out _), Lib.hid (any_take_int HJ.out HYJ.out HQ.out)⟩, by simp [intOf]; omega⟩
          · have hltJI : ¬ (J : Int) < (K : Int) := by omega
            have e : J = K := by omega
            have HI3 : Hid (firstBad (fromBad S r.from_) (K + 1) (F - (K + 1)) = firstBad (fromBad S r.from_) 0 F) := by
              have h3 := HJ.out
              have hat := HAT.out
              rw [e] at h3
              rw [h3, show (if false = true then (9 : Int) else 0) = 0 from rfl] at hat
              exact Lib.hid ((firstBad_later _ K F hlt hat).trans HI.out)
            clear HI HAT
            go_wp2_with fail
            clear hwK hltI hltJI h0 h1
            exact ⟨⟨K + 1, by go_num, by omega, HBK, HI3⟩, by simp [intOf]; omega⟩
    · have hltI : ¬ (K : Int) < (F : Int) := by omega
      have e : K = F := by omega
      have hz : firstBad (fromBad S r.from_) 0 F = none := by rw [← HI.out, e, Nat.sub_self]; rfl
      have HR2 : Hid ((if countE (G : Int) 0 4 ≠ 0 then (countE (G : Int) 0 4, (n : Int), 8, 0) else orF (firstBad (guardBad V A r.guards) 0 G) n 8 (if countE (T : Int) 1 3 ≠ 0 then (countE (T : Int) 1 3, (n : Int), 9, 0) else orF (firstBad (stepBad S V A r.steps) 0 T) n 9 (0, 0, 0, 0))) = R) := Lib.hid (by have h := HR.out; rw [if_neg (by decide), hz] at h; exact h)
      have x3 := kept_cell HBK.out HU.out.2.2.2.1
      obtain ⟨Z, rfl⟩ : ∃ Z, Z = wr := ⟨_, rfl⟩
      clear hz HI HR
      by_cases hg4 : 4 < (G : Int)
      · have HV := Lib.hid (show R = (4, (n : Int), 8, 0) by rw [← HR2.out, countE_big hg4, if_pos (by decide)])
        clear HR2
        go_wp2_with fail
        obtain ⟨hx1, hx2, hx3⟩ := HEND.out _ _ HBK.out HV.out
        exact f4_end (4, (n : Int), 8, 0) rfl rfl rfl hx1 ⟨by rw [hx2], hx3⟩
      · have HR3 : Hid (orF (firstBad (guardBad V A r.guards) 0 G) n 8 (if countE (T : Int) 1 3 ≠ 0 then (countE (T : Int) 1 3, (n : Int), 9, 0) else orF (firstBad (stepBad S V A r.steps) 0 T) n 9 (0, 0, 0, 0)) = R) := Lib.hid (by have h := HR2.out; rw [countE_no hg4 (by omega), if_neg (by decide)] at h; exact h)
        clear HR2
        go_wp2_with fail
        go_loopw [8] (fun y wr => ∃ (K : Nat), y = .int .i64 (K : Int) ∧ K ≤ G ∧ Hid (Below W2.heap.size W2 wr) ∧ Hid (firstBad (guardBad V A r.guards) K (G - K) = firstBad (guardBad V A r.guards) 0 G)) (fun y _ => G - (intOf y).toNat)
        case atStart => exact ⟨0, rfl, Nat.zero_le _, HBK, Lib.hid rfl⟩
        case round =>
          clear x2 y0 r0 r1 r2 r3 s0 s1 s2 s3 HBK x3
          obtain ⟨K, rfl, hK, HBK, HI⟩ := hrel
          have x3 := kept_cell HBK.out HU.out.2.2.2.1
          obtain ⟨⟨r0, s0⟩, ⟨r1, s1⟩, ⟨r2, s2⟩, r3, s3⟩ := (HF4.out.below HBK.out).cells
          by_cases hlt : K < G
          · have hltI : (K : Int) < (G : Int) := by omega
            obtain ⟨gd, hgd⟩ : ∃ x, r.guards[K]? = some x := ⟨_, List.getElem?_eq_getElem (by rw [HG.out]; exact hlt)⟩
            obtain ⟨bg, og, ea, cs, -, ⟨vv, rfl, hvv⟩, hc⟩ := HSG.out.at hgd
            subst ea
            obtain ⟨av, capv, rfl⟩ := sl_lenC hvv
            have hgwf := HGW.out gd (List.mem_of_getElem? hgd)
            have HBW := Lib.hid (HB.out.trans (HBK.out.mono HB.out.size))
            have HGC := Lib.hid (fun (W : World) (hb : Below w.heap.size w W) => refGuard_any gd _ (.slice a0 S cap0) c2 (.slice (some ⟨b, off, none⟩) N cap3) a1 V cap1 A W (hvv.below hb) hgwf.2.2)
            obtain ⟨cd, hcd⟩ : ∃ x, gd.code = x := ⟨_, rfl⟩
            obtain ⟨L, hL⟩ : ∃ x, gd.test.length = x := ⟨_, rfl⟩
            obtain ⟨E, hE0⟩ : ∃ E, gdBad V A gd = E := ⟨_, rfl⟩
            have HAT := Lib.hid (show guardBad V A r.guards K = E from (guardBad_at V A r.guards K gd hgd).trans hE0)
            rw [hcd, hL] at hc
            rw [hcd, hL, hE0] at HGC
            have z0 : wr.cell? ⟨bg, og + K * 2, none⟩ = some (.int .i64 cd) := kept_cell HBW.out (hc 0 _ rfl)
            have z1 : wr.cell? ⟨bg, og + K * 2 + 1, none⟩ = some (.slice av L capv) := kept_cell HBW.out (hc 1 _ rfl)
            clear hc hgd hcd hL hE0
            have hwK := wrap_next K (by have := HGL.out; omega)
            have HX := Lib.hid (show wr.drew.cell? ⟨w.heap.size, 0, none⟩ = some (.slice a0 S cap0) ∧ wr.drew.cell? ⟨w.heap.size, 1, none⟩ = some (.slice a1 V cap1) ∧ wr.drew.cell? ⟨w.heap.size, 2, none⟩ = some c2 ∧ wr.drew.cell? ⟨w.heap.size, 3, none⟩ = some (.slice (some ⟨b, off, none⟩) N cap3) ∧ wr.drew.cell? ⟨g5, 1, none⟩ = some (.int .i64 A) ∧ wr.drew.cell? ⟨g5, 3, none⟩ = some (.slice (some ⟨bg, og, none⟩) G capg) ∧ wr.drew.cell? ⟨bg, og + K * 2, none⟩ = some (.int .i64 cd) ∧ wr.drew.cell? ⟨bg, og + K * 2 + 1, none⟩ = some (.slice av L capv) ∧ Below W2.heap.size W2 wr.drew from ⟨kept_cell HBK.out.drew HU.out.1.1, kept_cell HBK.out.drew HU.out.1.2.1, kept_cell HBK.out.drew HU.out.1.2.2.1, kept_cell HBK.out.drew HU.out.1.2.2.2, kept_cell HBK.out.drew HU.out.2.1, kept_cell HBK.out.drew HU.out.2.2.2.1, kept_cell (Below.refl _ _).drew z0, kept_cell (Below.refl _ _).drew z1, HBK.out.drew⟩)
            have HCALL := Lib.hid (fun (Wx : World) (hS : Wx.cell? ⟨w.heap.size, 0, none⟩ = some (.slice a0 S cap0) ∧ Wx.cell? ⟨w.heap.size, 1, none⟩ = some (.slice a1 V cap1) ∧ Wx.cell? ⟨w.heap.size, 2, none⟩ = some c2 ∧ Wx.cell? ⟨w.heap.size, 3, none⟩ = some (.slice (some ⟨b, off, none⟩) N cap3) ∧ Wx.cell? ⟨g5, 1, none⟩ = some (.int .i64 A) ∧ Wx.cell? ⟨g5, 3, none⟩ = some (.slice (some ⟨bg, og, none⟩) G capg) ∧ Wx.cell? ⟨bg, og + K * 2, none⟩ = some (.int .i64 cd) ∧ Wx.cell? ⟨bg, og + K * 2 + 1, none⟩ = some (.slice av L capv) ∧ Below W2.heap.size W2 Wx) => (HGC.out Wx (HB.out.trans (hS.2.2.2.2.2.2.2.2.mono HB.out.size))).mono (fun z w' (hz : z = .returned (.int .i64 E) ∧ Below Wx.heap.size Wx w') => show z = .returned (.int .i64 E) ∧ w'.cell? ⟨w.heap.size, 0, none⟩ = some (.slice a0 S cap0) ∧ w'.cell? ⟨w.heap.size, 1, none⟩ = some (.slice a1 V cap1) ∧ w'.cell? ⟨w.heap.size, 2, none⟩ = some c2 ∧ w'.cell? ⟨w.heap.size, 3, none⟩ = some (.slice (some ⟨b, off, none⟩) N cap3) ∧ w'.cell? ⟨g5, 1, none⟩ = some (.int .i64 A) ∧ w'.cell? ⟨g5, 3, none⟩ = some (.slice (some ⟨bg, og, none⟩) G capg) ∧ w'.cell? ⟨bg, og + K * 2, none⟩ = some (.int .i64 cd) ∧ w'.cell? ⟨bg, og + K * 2 + 1, none⟩ = some (.slice av L capv) ∧ Below W2.heap.size W2 w' from ⟨hz.1, ⟨kept_cell hz.2 hS.1, kept_cell hz.2 hS.2.1, kept_cell hz.2 hS.2.2.1, kept_cell hz.2 hS.2.2.2.1, kept_cell hz.2 hS.2.2.2.2.1, kept_cell hz.2 hS.2.2.2.2.2.1, kept_cell hz.2 hS.2.2.2.2.2.2.1, kept_cell hz.2 hS.2.2.2.2.2.2.2.1, hS.2.2.2.2.2.2.2.2.trans (hz.2.mono hS.2.2.2.2.2.2.2.2.size)⟩⟩))
            clear z0 z1 r0 r1 r2 r3 s0 s1 s2 s3 hvv hgwf
            go_upto_region 17 with fail
            have hS0 : wr.drew.cell? ⟨w.heap.size, 0, none⟩ = some (.slice a0 S cap0) ∧ wr.drew.cell? ⟨w.heap.size, 1, none⟩ = some (.slice a1 V cap1) ∧ wr.drew.cell? ⟨w.heap.size, 2, none⟩ = some c2 ∧ wr.drew.cell? ⟨w.heap.size, 3, none⟩ = some (.slice (some ⟨b, off, none⟩) N cap3) ∧ wr.drew.cell? ⟨g5, 1, none⟩ = some (.int .i64 A) ∧ wr.drew.cell? ⟨g5, 3, none⟩ = some (.slice (some ⟨bg, og, none⟩) G capg) ∧ wr.drew.cell? ⟨bg, og + K * 2, none⟩ = some (.int .i64 cd) ∧ wr.drew.cell? ⟨bg, og + K * 2 + 1, none⟩ = some (.slice av L capv) ∧ Below W2.heap.size W2 wr.drew := HX.out
            go_region_held3 (fun Wz => Wz.cell? ⟨w.heap.size, 0, none⟩ = some (.slice a0 S cap0) ∧ Wz.cell? ⟨w.heap.size, 1, none⟩ = some (.slice a1 V cap1) ∧ Wz.cell? ⟨w.heap.size, 2, none⟩ = some c2 ∧ Wz.cell? ⟨w.heap.size, 3, none⟩ = some (.slice (some ⟨b, off, none⟩) N cap3) ∧ Wz.cell? ⟨g5, 1, none⟩ = some (.int .i64 A) ∧ Wz.cell? ⟨g5, 3, none⟩ = some (.slice (some ⟨bg, og, none⟩) G capg) ∧ Wz.cell? ⟨bg, og + K * 2, none⟩ = some (.int .i64 cd) ∧ Wz.cell? ⟨bg, og + K * 2 + 1, none⟩ = some (.slice av L capv) ∧ Below W2.heap.size W2 Wz) (first | exact hS0 | assumption) (first | (go_at_call 68; ((with_reducible refine (HCALL.out _ ?_).mono ?_); (first | exact hS0 | assumption)); rintro _ w5 ⟨rfl, hS5⟩))
            have HB5 := Lib.hid (hS5.2.2.2.2.2.2.2.2)
            obtain ⟨⟨r0, s0⟩, ⟨r1, s1⟩, ⟨r2, s2⟩, r3, s3⟩ := (HF4.out.below HB5.out).cells
            clear hS0 hS5 HX HCALL
            by_cases hE : E = 0
            · have hEb : (E == 0) = true := beq_iff_eq.2 hE
              have HI3 := Lib.hid (show firstBad (guardBad V A r.guards) (K + 1) (G - (K + 1)) = firstBad (guardBad V A r.guards) 0 G from (firstBad_later _ K G hlt (HAT.out.trans hE)).trans HI.out)
              clear hE HI HAT
              go_wp2_with fail
              clear hwK hltI
              exact ⟨⟨K + 1, by go_num, by omega, HB5, HI3⟩, by simp [intOf]; omega⟩
            · have hEb : (E == 0) = false := beq_eq_false_iff_ne.2 hE
              have HV := Lib.hid (show R = (E, (n : Int), 8, (K : Int)) by rw [← HR3.out, HI.out.symm.trans (firstBad_now _ K G E hlt HAT.out hE)]; rfl)
              clear hE HI HAT
              go_wp2_with fail
              obtain ⟨hx1, hx2, hx3⟩ := HEND.out _ _ HB5.out HV.out
              exact f4_end (E, (n : Int), 8, (K : Int)) rfl rfl rfl hx1 ⟨by rw [hx2], hx3⟩
          · have hltI : ¬ (K : Int) < (G : Int) := by omega
            have e : K = G := by omega
            have hz : firstBad (guardBad V A r.guards) 0 G = none := by rw [← HI.out, e, Nat.sub_self]; rfl
            have HR4 : Hid ((if countE (T : Int) 1 3 ≠ 0 then (countE (T : Int) 1 3, (n : Int), 9, 0) else orF (firstBad (stepBad S V A r.steps) 0 T) n 9 (0, 0, 0, 0)) = R) := Lib.hid (by have h := HR3.out; rw [hz] at h; exact h)
            have x4 := kept_cell HBK.out HU.out.2.2.2.2
            obtain ⟨Z, rfl⟩ : ∃ Z, Z = wr := ⟨_, rfl⟩
            clear hz HI HR3
            by_cases ht0 : T = 0
            · subst ht0
              have HV := Lib.hid (show R = (2, (n : Int), 9, 0) by rw [← HR4.out, countE_few (by decide) (by decide), if_pos (by decide)])
              clear HR4
              go_wp2_with fail
              obtain ⟨hx1, hx2, hx3⟩ := HEND.out _ _ HBK.out HV.out
              exact f4_end (2, (n : Int), 9, 0) rfl rfl rfl hx1 ⟨by rw [hx2], hx3⟩
            · have ht0b : ((T : Int) == 0) = false := beq_eq_false_iff_ne.2 (by omega)
              by_cases ht3 : 3 < (T : Int)
              · have HV := Lib.hid (show R = (4, (n : Int), 9, 0) by rw [← HR4.out, countE_big ht3, if_pos (by decide)])
                clear HR4
                go_wp2_with fail
                obtain ⟨hx1, hx2, hx3⟩ := HEND.out _ _ HBK.out HV.out
                exact f4_end (4, (n : Int), 9, 0) rfl rfl rfl hx1 ⟨by rw [hx2], hx3⟩
              · have HR5 : Hid (orF (firstBad (stepBad S V A r.steps) 0 T) n 9 (0, 0, 0, 0) = R) := Lib.hid (by have h := HR4.out; rw [countE_no ht3 (by omega), if_neg (by decide)] at h; exact h)
                clear HR4
                go_wp2_with fail
                go_loopw [10] (fun y wr => ∃ (K : Nat), y = .int .i64 (K : Int) ∧ K ≤ T ∧ Hid (Below W2.heap.size W2 wr) ∧ Hid (firstBad (stepBad S V A r.steps) K (T - K) = firstBad (stepBad S V A r.steps) 0 T)) (fun y _ => T - (intOf y).toNat)
                case atStart => exact ⟨0, rfl, Nat.zero_le _, HBK, Lib.hid rfl⟩
                case round =>
                  clear x3 r0 r1 r2 r3 s0 s1 s2 s3 HBK x4
                  obtain ⟨K, rfl, hK, HBK, HI⟩ := hrel
                  have x3 := kept_cell HBK.out HU.out.2.2.2.2
                  obtain ⟨⟨r0, s0⟩, ⟨r1, s1⟩, ⟨r2, s2⟩, r3, s3⟩ := (HF4.out.below HBK.out).cells
                  by_cases hlt : K < T
                  · have hltI : (K : Int) < (T : Int) := by omega
                    obtain ⟨pp, hpp⟩ : ∃ x, r.steps[K]? = some x := ⟨_, List.getElem?_eq_getElem (by rw [HT.out]; exact hlt)⟩
                    obtain ⟨bg, og, ea, cs, -, ⟨vv, rfl, hvv⟩, hc⟩ := HSP.out.at hpp
                    subst ea
                    obtain ⟨av, capv, rfl, hvv⟩ := hvv.open
                    have hgwf := HPW.out pp (List.mem_of_getElem? hpp)
                    have HBW := Lib.hid (HB.out.trans (HBK.out.mono HB.out.size))
                    have HGC := Lib.hid (fun (W : World) (hb : Below w.heap.size w W) => refStep_any pp _ c2 (.slice (some ⟨b, off, none⟩) N cap3) a0 a1 S cap0 V cap1 A W (hvv.below hb (fun _ _ q => q.below hb)) hgwf)
                    obtain ⟨cd, hcd⟩ : ∃ x, pp.to = x := ⟨_, rfl⟩
                    obtain ⟨L, hL⟩ : ∃ x, pp.sets.length = x := ⟨_, rfl⟩
                    obtain ⟨E, hE0⟩ : ∃ E, spBad S V A pp = E := ⟨_, rfl⟩
                    have HAT := Lib.hid (show stepBad S V A r.steps K = E from (stepBad_at S V A r.steps K pp hpp).trans hE0)
                    rw [hcd, hL] at hc
                    rw [hcd, hL, hE0] at HGC
                    have z0 : wr.cell? ⟨bg, og + K * 2, none⟩ = some (.slice av L capv) := kept_cell HBW.out (hc 0 _ rfl)
                    have z1 : wr.cell? ⟨bg, og + K * 2 + 1, none⟩ = some (.int .i64 cd) := kept_cell HBW.out (hc 1 _ rfl)
                    clear hc hpp hcd hL hE0
                    have hwK := wrap_next K (by have := HPL.out; omega)
                    have HX := Lib.hid (show wr.drew.cell? ⟨w.heap.size, 0, none⟩ = some (.slice a0 S cap0) ∧ wr.drew.cell? ⟨w.heap.size, 1, none⟩ = some (.slice a1 V cap1) ∧ wr.drew.cell? ⟨w.heap.size, 2, none⟩ = some c2 ∧ wr.drew.cell? ⟨w.heap.size, 3, none⟩ = some (.slice (some ⟨b, off, none⟩) N cap3) ∧ wr.drew.cell? ⟨g5, 1, none⟩ = some (.int .i64 A) ∧ wr.drew.cell? ⟨g5, 4, none⟩ = some (.slice (some ⟨bg, og, none⟩) T capp) ∧ wr.drew.cell? ⟨bg, og + K * 2, none⟩ = some (.slice av L capv) ∧ wr.drew.cell? ⟨bg, og + K * 2 + 1, none⟩ = some (.int .i64 cd) ∧ Below W2.heap.size W2 wr.drew from ⟨kept_cell HBK.out.drew HU.out.1.1, kept_cell HBK.out.drew HU.out.1.2.1, kept_cell HBK.out.drew HU.out.1.2.2.1, kept_cell HBK.out.drew HU.out.1.2.2.2, kept_cell HBK.out.drew HU.out.2.1, kept_cell HBK.out.drew HU.out.2.2.2.2, kept_cell (Below.refl _ _).drew z0, kept_cell (Below.refl _ _).drew z1, HBK.out.drew⟩)
                    have HCALL := Lib.hid (fun (Wx : World) (hS : Wx.cell? ⟨w.heap.size, 0, none⟩ = some (.slice a0 S cap0) ∧ Wx.cell? ⟨w.heap.size, 1, none⟩ = some (.slice a1 V cap1) ∧ Wx.cell? ⟨w.heap.size, 2, none⟩ = some c2 ∧ Wx.cell? ⟨w.heap.size, 3, none⟩ = some (.slice (some ⟨b, off, none⟩) N cap3) ∧ Wx.cell? ⟨g5, 1, none⟩ = some (.int .i64 A) ∧ Wx.cell? ⟨g5, 4, none⟩ = some (.slice (some ⟨bg, og, none⟩) T capp) ∧ Wx.cell? ⟨bg, og + K * 2, none⟩ = some (.slice av L capv) ∧ Wx.cell? ⟨bg, og + K * 2 + 1, none⟩ = some (.int .i64 cd) ∧ Below W2.heap.size W2 Wx) => (HGC.out Wx (HB.out.trans (hS.2.2.2.2.2.2.2.2.mono HB.out.size))).mono (fun z w' (hz : z = .returned (.int .i64 E) ∧ Below Wx.heap.size Wx w') => show z = .returned (.int .i64 E) ∧ w'.cell? ⟨w.heap.size, 0, none⟩ = some (.slice a0 S cap0) ∧ w'.cell? ⟨w.heap.size, 1, none⟩ = some (.slice a1 V cap1) ∧ w'.cell? ⟨w.heap.size, 2, none⟩ = some c2 ∧ w'.cell? ⟨w.heap.size, 3, none⟩ = some (.slice (some ⟨b, off, none⟩) N cap3) ∧ w'.cell? ⟨g5, 1, none⟩ = some (.int .i64 A) ∧ w'.cell? ⟨g5, 4, none⟩ = some (.slice (some ⟨bg, og, none⟩) T capp) ∧ w'.cell? ⟨bg, og + K * 2, none⟩ = some (.slice av L capv) ∧ w'.cell? ⟨bg, og + K * 2 + 1, none⟩ = some (.int .i64 cd) ∧ Below W2.heap.size W2 w' from ⟨hz.1, ⟨kept_cell hz.2 hS.1, kept_cell hz.2 hS.2.1, kept_cell hz.2 hS.2.2.1, kept_cell hz.2 hS.2.2.2.1, kept_cell hz.2 hS.2.2.2.2.1, kept_cell hz.2 hS.2.2.2.2.2.1, kept_cell hz.2 hS.2.2.2.2.2.2.1, kept_cell hz.2 hS.2.2.2.2.2.2.2.1, hS.2.2.2.2.2.2.2.2.trans (hz.2.mono hS.2.2.2.2.2.2.2.2.size)⟩⟩))
                    clear z0 z1 r0 r1 r2 r3 s0 s1 s2 s3 hvv hgwf
                    go_upto_region 27 with fail
                    have hS0 : wr.drew.cell? ⟨w.heap.size, 0, none⟩ = some (.slice a0 S cap0) ∧ wr.drew.cell? ⟨w.heap.size, 1, none⟩ = some (.slice a1 V cap1) ∧ wr.drew.cell? ⟨w.heap.size, 2, none⟩ = some c2 ∧ wr.drew.cell? ⟨w.heap.size, 3, none⟩ = some (.slice (some ⟨b, off, none⟩) N cap3) ∧ wr.drew.cell? ⟨g5, 1, none⟩ = some (.int .i64 A) ∧ wr.drew.cell? ⟨g5, 4, none⟩ = some (.slice (some ⟨bg, og, none⟩) T capp) ∧ wr.drew.cell? ⟨bg, og + K * 2, none⟩ = some (.slice av L capv) ∧ wr.drew.cell? ⟨bg, og + K * 2 + 1, none⟩ = some (.int .i64 cd) ∧ Below W2.heap.size W2 wr.drew := HX.out
                    go_region_held3 (fun Wz => Wz.cell? ⟨w.heap.size, 0, none⟩ = some (.slice a0 S cap0) ∧ Wz.cell? ⟨w.heap.size, 1, none⟩ = some (.slice a1 V cap1) ∧ Wz.cell? ⟨w.heap.size, 2, none⟩ = some c2 ∧ Wz.cell? ⟨w.heap.size, 3, none⟩ = some (.slice (some ⟨b, off, none⟩) N cap3) ∧ Wz.cell? ⟨g5, 1, none⟩ = some (.int .i64 A) ∧ Wz.cell? ⟨g5, 4, none⟩ = some (.slice (some ⟨bg, og, none⟩) T capp) ∧ Wz.cell? ⟨bg, og + K * 2, none⟩ = some (.slice av L capv) ∧ Wz.cell? ⟨bg, og + K * 2 + 1, none⟩ = some (.int .i64 cd) ∧ Below W2.heap.size W2 Wz) (first | exact hS0 | assumption) (first | (go_at_call 69; ((with_reducible refine (HCALL.out _ ?_).mono ?_); (first | exact hS0 | assumption)); rintro _ w5 ⟨rfl, hS5⟩))
                    have HB5 := Lib.hid (hS5.2.2.2.2.2.2.2.2)
                    obtain ⟨⟨r0, s0⟩, ⟨r1, s1⟩, ⟨r2, s2⟩, r3, s3⟩ := (HF4.out.below HB5.out).cells
                    clear hS0 hS5 HX HCALL
                    by_cases hE : E = 0
                    · have hEb : (E == 0) = true := beq_iff_eq.2 hE
                      have HI3 := Lib.hid (show firstBad (stepBad S V A r.steps) (K + 1) (T - (K + 1)) = firstBad (stepBad S V A r.steps) 0 T from (firstBad_later _ K T hlt (HAT.out.trans hE)).trans HI.out)
                      clear hE HI HAT
                      go_wp2_with fail
                      clear hwK hltI
                      exact ⟨⟨K + 1, by go_num, by omega, HB5, HI3⟩, by simp [intOf]; omega⟩
                    · have hEb : (E == 0) = false := beq_eq_false_iff_ne.2 hE
                      have HV := Lib.hid (show R = (E, (n : Int), 9, (K : Int)) by rw [← HR5.out, HI.out.symm.trans (firstBad_now _ K T E hlt HAT.out hE)]; rfl)
                      clear hE HI HAT
                      go_wp2_with fail
                      obtain ⟨hx1, hx2, hx3⟩ := HEND.out _ _ HB5.out HV.out
                      exact f4_end (E, (n : Int), 9, (K : Int)) rfl rfl rfl hx1 ⟨by rw [hx2], hx3⟩
                  · have hltI : ¬ (K : Int) < (T : Int) := by omega
                    have e : K = T := by omega
                    have hz : firstBad (stepBad S V A r.steps) 0 T = none := by rw [← HI.out, e, Nat.sub_self]; rfl
                    have HV := Lib.hid (show R = (0, 0, 0, 0) by rw [← HR5.out, hz]; rfl)
                    clear hz HI HR5
                    go_wp2_with fail
                    obtain ⟨hx1, hx2, hx3⟩ := HEND.out _ _ HBK.out HV.out
                    exact f4_end (0, 0, 0, 0) rfl rfl rfl hx1 ⟨by rw [hx2], hx3⟩
end Go.Proofs.YtgkniocjlkfhmaaGreatDoor.R
