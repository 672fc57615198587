/-
  Layer 5: contracts of the reference: Reads, Writes.
-/
import Derived.Test.YtfcdkjhabdpijaaDoorRRef
namespace Go.Proofs.YtfcdkjhabdpijaaDoor.R
open Go Go.RowKit Go.Proofs.YtfcdkjhabdpijaaDoor.B Go.Proofs.YtfcdkjhabdpijaaDoor.K Go.Proofs.YtfcdkjhabdpijaaDoor.E
set_option linter.unusedVariables false

def gdReads (x : Int) (g : Gd) : Bool := names g.test x
def seReads (x : Int) (s : Se) : Bool := names s.value x
def seWrites (x : Int) (s : Se) : Bool := s.var == x
def spReads (x : Int) (p : Sp) : Bool := p.sets.any (seReads x)
def spWrites (x : Int) (p : Sp) : Bool := p.sets.any (seWrites x)
def rlReads (r : Rl) (x : Int) : Bool := r.guards.any (gdReads x) || r.steps.any (spReads x)
def rlWrites (r : Rl) (x : Int) : Bool := r.steps.any (spWrites x)

theorem any_drop {α : Type} (f : α → Bool) (l : List α) (K : Nat) (x : α) (h : l[K]? = some x) : (l.drop K).any f = (f x || (l.drop (K + 1)).any f) := by
  obtain ⟨hk, e⟩ := List.getElem?_eq_some_iff.1 h
  rw [List.drop_eq_getElem_cons hk, e]; rfl

set_option maxHeartbeats 2000000 in
theorem refWrites_any (r : Rl) (c0 c1 c2 c3 c4 : Value) (x : Int) (w : World) (h : RlIs w [c0, c1, c2, c3, c4] r) (hw : RlWf r) :
    Calls Tryd.prog 25 #[.agg #[c0, c1, c2, c3, c4], .int .i64 x] w fun e w' => e = .returned (.bool (rlWrites r x)) ∧ Below w.heap.size w w' := by
  obtain ⟨f, g, st, e, hf, hg, hs⟩ := h
  obtain ⟨rfl, rfl, rfl, rfl, rfl⟩ : c0 = sv r.name ∧ c1 = .int .i64 r.args ∧ c2 = f ∧ c3 = g ∧ c4 = st := by simpa using e
  clear e
  have hl : r.steps.length ≤ 9223372036854775807 := hw.2.2.2.2.2
  have hsw := hw.2.2.2.2.1
  clear hw
  have HS := Lib.hid hs
  obtain ⟨a, cap, rfl, -⟩ := hs
  obtain ⟨N, hN⟩ : ∃ N, r.steps.length = N := ⟨_, rfl⟩
  rw [hN] at hl HS ⊢
  have HB := Lib.hid ((Below.refl w.heap.size w).alloc (Nat.le_refl _) (.cells #[sv r.name, .int .i64 r.args, c2, c3, .slice a N cap] 38))
  have HL := Lib.hid hl
  have HN := Lib.hid hN
  have HSW := Lib.hid hsw
  clear hN hl hf hg hsw
  unfold sv at HB ⊢
  obtain ⟨W, hW⟩ : ∃ W, w.alloc (.cells #[.string (str r.name), .int .i64 r.args, c2, c3, .slice a N cap] 38) = W := ⟨_, rfl⟩
  have h4 : W.cell? ⟨w.heap.size, 4, none⟩ = some (.slice a N cap) := by rw [← hW]; unfold World.cell?; rw [heap_alloc_at]; rfl
  rw [hW] at HB
  go_enter Tryd.func25, Tryd.ntmps25
  go_wp2_with fail
  clear hW
  go_loopw [5] (fun i wr => ∃ K : Nat, i = .int .i64 (K : Int) ∧ K ≤ N ∧ wr = W ∧ Hid ((r.steps.drop K).any (spWrites x) = rlWrites r x)) (fun k _ => N - (intOf k).toNat)
  case atStart => exact ⟨0, rfl, Nat.zero_le _, rfl, Lib.hid rfl⟩
  case round =>
    obtain ⟨K, rfl, hK, rfl, HI⟩ := hrel
    by_cases hlt : K < N
    · have hltI : (K : Int) < (N : Int) := by omega
      obtain ⟨p, hp⟩ : ∃ p, r.steps[K]? = some p := ⟨_, List.getElem?_eq_getElem (by rw [HN.out]; exact hlt)⟩
      obtain ⟨b', off', ea, cs, -, ⟨t, rfl, hst⟩, hc⟩ := HS.out.at hp
      subst ea
      have k0 : wr.cell? ⟨b', off' + K * 2, none⟩ = some t := kept_cell HB.out (hc 0 _ rfl)
      have hwp := HSW.out p (List.mem_of_getElem? hp)
      have hml : p.sets.length ≤ 9223372036854775807 := hwp.2.1
      have HT := Lib.hid (hst.below HB.out (fun _ _ q => q.below HB.out))
      obtain ⟨a2, cap2, rfl, -⟩ := hst
      obtain ⟨M, hM⟩ : ∃ M, p.sets.length = M := ⟨_, rfl⟩
      rw [hM] at HT k0 hml
      have HM := Lib.hid hM
      have HML := Lib.hid hml
      have hd := any_drop (spWrites x) r.steps K p hp
      rw [hd] at HI
      have hwK : IntKind.i64.wrap ((K : Int) + 1) = (K : Int) + 1 := IntWalk.i64_in _ (by have := HL.out; omega)
      clear hd hp hc hM hml hwp
      go_wp2_with fail
      go_loopw [6] (fun i wq => ∃ J : Nat, i = .int .i64 (J : Int) ∧ J ≤ M ∧ wq = wr ∧ Hid ((p.sets.drop J).any (seWrites x) = spWrites x p)) (fun k _ => M - (intOf k).toNat)
      case atStart => exact ⟨0, rfl, Nat.zero_le _, rfl, Lib.hid rfl⟩
      case round =>
        obtain ⟨J, rfl, hJ, rfl, HJ⟩ := hrel
        by_cases hlt2 : J < M
        · have hltI2 : (J : Int) < (M : Int) := by omega
          obtain ⟨s, hs⟩ : ∃ s, p.sets[J]? = some s := ⟨_, List.getElem?_eq_getElem (by rw [HM.out]; exact hlt2)⟩
          obtain ⟨b2, off2, ea, cs, -, ⟨t2, rfl, -⟩, hc⟩ := HT.out.at hs
          subst ea
          have j0 : wr.cell? ⟨b2, off2 + J * 2, none⟩ = some (.int .i64 s.var) := hc 0 _ rfl
          have hd := any_drop (seWrites x) p.sets J s hs
          rw [hd] at HJ
          have hwJ : IntKind.i64.wrap ((J : Int) + 1) = (J : Int) + 1 := IntWalk.i64_in _ (by have := HML.out; omega)
          have hKN : K < N := by omega
          clear hd hs hc
          by_cases hq : s.var = x
          · have hqb : (s.var == x) = true := beq_iff_eq.2 hq
            have hn : seWrites x s = true := by unfold seWrites; exact hqb
            rw [hn] at HJ
            have HI2 := Lib.hid (show rlWrites r x = true by rw [← HI.out, ← HJ.out]; rfl)
            clear HI HJ hn hq
            go_wp2_with fail
            go_ret
            exact ⟨ret_bool HI2.out.symm, HB.out⟩
          · have hqb : (s.var == x) = false := beq_eq_false_iff_ne.2 hq
            have hn : seWrites x s = false := by unfold seWrites; exact hqb
            rw [hn] at HJ
            clear hn
            go_wp2_with fail
            exact ⟨⟨J + 1, by go_num, by omega, trivial, HJ⟩, by simp [intOf]; omega⟩
        · have hltI2 : ¬ (J : Int) < (M : Int) := by omega
          have e : J = M := by omega
          have hKN : K < N := by omega
          have hn : spWrites x p = false := by rw [← HJ.out, e, ← HM.out, List.drop_length]; rfl
          rw [hn] at HI
          clear hn
          go_wp2_with fail
          exact ⟨⟨K + 1, by go_num, by omega, trivial, HI⟩, by simp [intOf]; omega⟩
    · have hltI : ¬ (K : Int) < (N : Int) := by omega
      have e : K = N := by omega
      go_wp2_with fail
      go_ret
      refine ⟨ret_bool ?_, HB.out⟩
      rw [← HI.out, e, ← HN.out, List.drop_length]; rfl

set_option maxHeartbeats 2000000 in
theorem refReads_any (r : Rl) (c0 c1 c2 c3 c4 : Value) (x : Int) (w : World) (h : RlIs w [c0, c1, c2, c3, c4] r) (hw : RlWf r) :
    Calls Tryd.prog 24 #[.agg #[c0, c1, c2, c3, c4], .int .i64 x] w fun e w' => e = .returned (.bool (rlReads r x)) ∧ Below w.heap.size w w' := by
  obtain ⟨f, g, st, e, hf, hg, hs⟩ := h
  obtain ⟨rfl, rfl, rfl, rfl, rfl⟩ : c0 = sv r.name ∧ c1 = .int .i64 r.args ∧ c2 = f ∧ c3 = g ∧ c4 = st := by simpa using e
  clear e
  have hl : r.steps.length ≤ 9223372036854775807 := hw.2.2.2.2.2
  have hsw := hw.2.2.2.2.1
  have hlg : r.guards.length ≤ 9223372036854775807 := hw.2.2.2.1.2
  have hgw := hw.2.2.2.1.1
  clear hw
  have HS := Lib.hid hs
  have HG := Lib.hid hg
  obtain ⟨a, cap, rfl, -⟩ := hs
  obtain ⟨ag, capg, rfl, -⟩ := hg
  obtain ⟨N, hN⟩ : ∃ N, r.steps.length = N := ⟨_, rfl⟩
  obtain ⟨G, hG⟩ : ∃ G, r.guards.length = G := ⟨_, rfl⟩
  rw [hN] at hl HS ⊢
  rw [hG] at hlg HG ⊢
  have HB := Lib.hid ((Below.refl w.heap.size w).alloc (Nat.le_refl _) (.cells #[sv r.name, .int .i64 r.args, c2, .slice ag G capg, .slice a N cap] 38))
  have HL := Lib.hid hl
  have HN := Lib.hid hN
  have HLG := Lib.hid hlg
  have HGN := Lib.hid hG
  have HSW := Lib.hid hsw
  have HGW := Lib.hid hgw
  clear hN hl hf hsw hlg hG hgw
  unfold sv at HB ⊢
  obtain ⟨W, hW⟩ : ∃ W, w.alloc (.cells #[.string (str r.name), .int .i64 r.args, c2, .slice ag G capg, .slice a N cap] 38) = W := ⟨_, rfl⟩
  have h4 : W.cell? ⟨w.heap.size, 4, none⟩ = some (.slice a N cap) := by rw [← hW]; unfold World.cell?; rw [heap_alloc_at]; rfl
  have h3 : W.cell? ⟨w.heap.size, 3, none⟩ = some (.slice ag G capg) := by rw [← hW]; unfold World.cell?; rw [heap_alloc_at]; rfl
  rw [hW] at HB
  go_enter Tryd.func24, Tryd.ntmps24
  go_wp2_with fail
  clear hW
  go_loopw [5] (fun i wr => ∃ K : Nat, i = .int .i64 (K : Int) ∧ K ≤ G ∧ wr = W ∧ Hid (((r.guards.drop K).any (gdReads x) || r.steps.any (spReads x)) = rlReads r x)) (fun k _ => G - (intOf k).toNat)
  case atStart => exact ⟨0, rfl, Nat.zero_le _, rfl, Lib.hid rfl⟩
  case round =>
    obtain ⟨K, rfl, hK, rfl, HI⟩ := hrel
    by_cases hlt : K < G
    · have hltI : (K : Int) < (G : Int) := by omega
      obtain ⟨p, hp⟩ : ∃ p, r.guards[K]? = some p := ⟨_, List.getElem?_eq_getElem (by rw [HGN.out]; exact hlt)⟩
      obtain ⟨b', off', ea, cs, -, ⟨t, rfl, hst⟩, hc⟩ := HG.out.at hp
      subst ea
      have k1 : wr.cell? ⟨b', off' + K * 2 + 1, none⟩ = some t := kept_cell HB.out (hc 1 _ rfl)
      have hcw := (HGW.out p (List.mem_of_getElem? hp)).2.2
      have HC := Lib.hid (refNames_any p.test t x wr (hst.below HB.out) hcw)
      obtain ⟨at_, capt, rfl, -⟩ := hst
      have hd := any_drop (gdReads x) r.guards K p hp
      rw [hd] at HI
      have hwK : IntKind.i64.wrap ((K : Int) + 1) = (K : Int) + 1 := IntWalk.i64_in _ (by have := HLG.out; omega)
      obtain ⟨B, hBB⟩ : ∃ B, names p.test x = B := ⟨_, rfl⟩
      have hg2 : gdReads x p = B := hBB
      rw [hg2] at HI
      rw [hBB] at HC
      clear hd hp hc hcw hBB hg2
      go_wp2_with fail
      refine HC.out.mono ?_
      rintro _ w1 ⟨rfl, rfl⟩
      cases B with
      | true =>
        have HI2 := Lib.hid (show rlReads r x = true by rw [← HI.out]; rfl)
        clear HI HC
        go_wp2_with fail
        go_ret
        exact ⟨ret_bool HI2.out.symm, HB.out⟩
      | false =>
        clear HC
        go_wp2_with fail
        exact ⟨⟨K + 1, by go_num, by omega, trivial, HI⟩, by simp [intOf]; omega⟩
    · have hltI : ¬ (K : Int) < (G : Int) := by omega
      have e : K = G := by omega
      have HI2 := Lib.hid (show r.steps.any (spReads x) = rlReads r x by rw [← HI.out, e, ← HGN.out, List.drop_length]; rfl)
      clear HI
      go_wp2_with fail
      go_loopw [6] (fun i wq => ∃ K : Nat, i = .int .i64 (K : Int) ∧ K ≤ N ∧ wq = wr ∧ Hid ((r.steps.drop K).any (spReads x) = rlReads r x)) (fun k _ => N - (intOf k).toNat)
      case atStart => exact ⟨0, rfl, Nat.zero_le _, rfl, HI2⟩
      case round =>
        obtain ⟨K, rfl, hK, rfl, HI⟩ := hrel
        by_cases hlt : K < N
        · have hltI : (K : Int) < (N : Int) := by omega
          obtain ⟨p, hp⟩ : ∃ p, r.steps[K]? = some p := ⟨_, List.getElem?_eq_getElem (by rw [HN.out]; exact hlt)⟩
          obtain ⟨b', off', ea, cs, -, ⟨t, rfl, hst⟩, hc⟩ := HS.out.at hp
          subst ea
          have k0 : wr.cell? ⟨b', off' + K * 2, none⟩ = some t := kept_cell HB.out (hc 0 _ rfl)
          have hwp := HSW.out p (List.mem_of_getElem? hp)
          have hml : p.sets.length ≤ 9223372036854775807 := hwp.2.1
          have HT := Lib.hid (hst.below HB.out (fun _ _ q => q.below HB.out))
          obtain ⟨a2, cap2, rfl, -⟩ := hst
          obtain ⟨M, hM⟩ : ∃ M, p.sets.length = M := ⟨_, rfl⟩
          rw [hM] at HT k0 hml
          have HM := Lib.hid hM
          have HML := Lib.hid hml
          have HWP := Lib.hid hwp.1
          have hd := any_drop (spReads x) r.steps K p hp
          rw [hd] at HI
          have hwK : IntKind.i64.wrap ((K : Int) + 1) = (K : Int) + 1 := IntWalk.i64_in _ (by have := HL.out; omega)
          clear hd hp hc hM hml hwp
          go_wp2_with fail
          go_loopw [7] (fun i wq => ∃ J : Nat, i = .int .i64 (J : Int) ∧ J ≤ M ∧ wq = wr ∧ Hid ((p.sets.drop J).any (seReads x) = spReads x p)) (fun k _ => M - (intOf k).toNat)
          case atStart => exact ⟨0, rfl, Nat.zero_le _, rfl, Lib.hid rfl⟩
          case round =>
            obtain ⟨J, rfl, hJ, rfl, HJ⟩ := hrel
            by_cases hlt2 : J < M
            · have hltI2 : (J : Int) < (M : Int) := by omega
              obtain ⟨s, hs⟩ : ∃ s, p.sets[J]? = some s := ⟨_, List.getElem?_eq_getElem (by rw [HM.out]; exact hlt2)⟩
              obtain ⟨b2, off2, ea, cs, -, ⟨t2, rfl, hst2⟩, hc⟩ := HT.out.at hs
              subst ea
              have j1 := hc 1 _ rfl
              have hcw := (HWP.out s (List.mem_of_getElem? hs)).2.2
              have HC := Lib.hid (refNames_any s.value t2 x _ hst2 hcw)
              obtain ⟨at_, capt, rfl, -⟩ := hst2
              have hd := any_drop (seReads x) p.sets J s hs
              rw [hd] at HJ
              have hwJ : IntKind.i64.wrap ((J : Int) + 1) = (J : Int) + 1 := IntWalk.i64_in _ (by have := HML.out; omega)
              have hKN : K < N := by omega
              obtain ⟨B, hBB⟩ : ∃ B, names s.value x = B := ⟨_, rfl⟩
              have hg2 : seReads x s = B := hBB
              rw [hg2] at HJ
              rw [hBB] at HC
              clear hd hs hc hcw hBB hg2
              go_wp2_with fail
              refine HC.out.mono ?_
              rintro _ w1 ⟨rfl, rfl⟩
              cases B with
              | true =>
                have HI2 := Lib.hid (show rlReads r x = true by rw [← HI.out, ← HJ.out]; rfl)
                clear HI HC HJ
                go_wp2_with fail
                go_ret
                exact ⟨ret_bool HI2.out.symm, HB.out⟩
              | false =>
                clear HC
                go_wp2_with fail
                exact ⟨⟨J + 1, by go_num, by omega, trivial, HJ⟩, by simp [intOf]; omega⟩
            · have hltI2 : ¬ (J : Int) < (M : Int) := by omega
              have e : J = M := by omega
              have hKN : K < N := by omega
              have hn : spReads x p = false := by rw [← HJ.out, e, ← HM.out, List.drop_length]; rfl
              rw [hn] at HI
              clear hn
              go_wp2_with fail
              exact ⟨⟨K + 1, by go_num, by omega, trivial, HI⟩, by simp [intOf]; omega⟩
        · have hltI : ¬ (K : Int) < (N : Int) := by omega
          have e : K = N := by omega
          go_wp2_with fail
          go_ret
          refine ⟨ret_bool ?_, HB.out⟩
          rw [← HI.out, e, ← HN.out, List.drop_length]; rfl
end Go.Proofs.YtfcdkjhabdpijaaDoor.R
