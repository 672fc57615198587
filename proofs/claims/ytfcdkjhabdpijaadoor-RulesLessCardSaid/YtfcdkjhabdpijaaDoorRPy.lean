/-
  Layer 5, the program's side: For, and where a rule leads.
-/
import Derived.Test.YtfcdkjhabdpijaaDoorRMb
import Derived.Test.YtfcdkjhabdpijaaDoorRRef
namespace Go.Proofs.YtfcdkjhabdpijaaDoor.R
open Go Go.RowKit Go.Proofs.YtfcdkjhabdpijaaDoor.B Go.Proofs.YtfcdkjhabdpijaaDoor.K Go.Proofs.YtfcdkjhabdpijaaDoor.E
set_option linter.unusedVariables false

theorem isAt_iff (n m : Int) : isAt n m = true ↔ 0 ≤ n ∧ n < m := by
  unfold isAt
  simp

set_option maxHeartbeats 2000000 in
theorem for_any (t : Tb) (c0 c1 c2 c3 : Value) (n s : Int) (w : World) (h : TbIs w [c0, c1, c2, c3] t) (hw : TbWf t) :
    Calls Tryd.prog 13 #[.agg #[c0, c1, c2, c3], .int .i64 n, .int .i64 s] w fun e w' => e = .returned (.bool (isFor t n s)) ∧ Below w.heap.size w w' := by
  obtain ⟨d0, d1, d2, d3, e, h0, h1, h2, h3⟩ := h
  cases e
  obtain ⟨⟨-, hl0⟩, -, -, ⟨hr3, hl3⟩⟩ := hw
  have HR := Lib.hid h3
  have HRW := Lib.hid hr3
  obtain ⟨a0, cap0, rfl, -⟩ := h0
  obtain ⟨a3, cap3, rfl, -⟩ := h3
  rw [List.length_map]
  obtain ⟨S, hS⟩ : ∃ S, t.states.length = S := ⟨_, rfl⟩
  obtain ⟨N, hN⟩ : ∃ N, t.rules.length = N := ⟨_, rfl⟩
  rw [hS] at hl0 ⊢
  rw [hN] at hl3 HR ⊢
  obtain ⟨W0, hW0⟩ : ∃ W0, w.alloc (.cells #[.slice a0 S cap0, c1, c2, .slice a3 N cap3] 26) = W0 := ⟨_, rfl⟩
  have hB0 : Below w.heap.size w W0 := by rw [← hW0]; exact (Below.refl w.heap.size w).alloc (Nat.le_refl _) _
  have HB := Lib.hid hB0
  have q0 : W0.cell? ⟨w.heap.size, 0, none⟩ = some (.slice a0 S cap0) := by rw [← hW0]; unfold World.cell?; rw [heap_alloc_at]; rfl
  have q3 : W0.cell? ⟨w.heap.size, 3, none⟩ = some (.slice a3 N cap3) := by rw [← hW0]; unfold World.cell?; rw [heap_alloc_at]; rfl
  have H1 := Lib.hid (isPlace_any n (N : Int) W0)
  have H2 := Lib.hid (isPlace_any s (S : Int) W0)
  cases x1 : isAt n (N : Int) with
  | false =>
    rw [isFor_no t n s (by rw [hS, hN]; intro hh; rw [(isAt_iff n N).2 ⟨hh.1, hh.2.1⟩] at x1; cases x1)]
    rw [x1] at H1
    clear hS hN h1 h2 hr3 x1 hB0
    go_enter Tryd.func13, Tryd.ntmps13
    go_wp2_with fail
    refine H1.out.mono ?_
    rintro _ w1 ⟨rfl, rfl⟩
    go_wp2_with fail
    go_ret
    exact ⟨rfl, HB.out⟩
  | true =>
    cases x2 : isAt s (S : Int) with
    | false =>
      rw [isFor_no t n s (by rw [hS, hN]; intro hh; rw [(isAt_iff s S).2 ⟨hh.2.2.1, hh.2.2.2⟩] at x2; cases x2)]
      rw [x1] at H1
      rw [x2] at H2
      clear hS hN h1 h2 hr3 x1 x2 hB0
      go_enter Tryd.func13, Tryd.ntmps13
      go_wp2_with fail
      refine H1.out.mono ?_
      rintro _ w1 ⟨rfl, rfl⟩
      go_wp2_with fail
      refine H2.out.mono ?_
      rintro _ w1 ⟨rfl, rfl⟩
      go_wp2_with fail
      go_ret
      exact ⟨rfl, HB.out⟩
    | true =>
      rw [x1] at H1
      rw [x2] at H2
      obtain ⟨y0, y1⟩ := (isAt_iff _ _).1 x1
      obtain ⟨y2, y3⟩ := (isAt_iff _ _).1 x2
      obtain ⟨m, rfl⟩ : ∃ m : Nat, n = m := ⟨n.toNat, by omega⟩
      obtain ⟨q, rfl⟩ : ∃ q : Nat, s = q := ⟨s.toNat, by omega⟩
      obtain ⟨r, hr⟩ : ∃ r, t.rules[m]? = some r := ⟨_, List.getElem?_eq_getElem (by omega)⟩
      rw [isFor_at t m q r (by omega) hr]
      obtain ⟨b, off, ea, cs, -, ⟨f, g, st, rfl, hf, -, -⟩, hc⟩ := HR.out.at hr
      subst ea
      have k2 := (kept_cell HB.out (hc 2 _ rfl))
      have HF := Lib.hid (Sl.below hf HB.out)
      have hfl : r.from_.length ≤ 9223372036854775807 := (HRW.out r (List.mem_of_getElem? hr)).2.2.1.2
      obtain ⟨af, capf, rfl, -⟩ := hf
      have HC := Lib.hid (containsInt_any r.from_ _ (q : Int) W0 HF.out hfl)
      have hE : rlFor r (q : Int) = (((r.from_.length : Int) == 0) || r.from_.any fun y => y == (q : Int)) := by
        rw [← for_end r q]
        congr 1
        rw [List.contains_eq_any_beq]
        congr 1
        funext x
        exact Bool.beq_comm
      rw [hE]
      rw [List.length_map] at HF k2 HC
      obtain ⟨F, hF⟩ : ∃ F, r.from_.length = F := ⟨_, rfl⟩
      rw [hF] at HF k2 hfl HC ⊢
      obtain ⟨B, hB⟩ : ∃ B, (r.from_.any fun y => y == (q : Int)) = B := ⟨_, rfl⟩
      rw [hB] at HC ⊢
      clear hc hS hN hF hfl hl0 hl3 h1 h2 hr3 hr x1 x2 hB0 hE hB
      by_cases hF0 : F = 0
      · subst hF0
        go_enter Tryd.func13, Tryd.ntmps13
        go_wp2_with fail
        refine H1.out.mono ?_
        rintro _ w1 ⟨rfl, rfl⟩
        go_wp2_with fail
        refine H2.out.mono ?_
        rintro _ w1 ⟨rfl, rfl⟩
        go_wp2_with fail
        go_ret
        exact ⟨rfl, HB.out⟩
      · have hFb : ((F : Int) == 0) = false := beq_eq_false_iff_ne.2 (by omega)
        rw [hFb, Bool.false_or]
        go_enter Tryd.func13, Tryd.ntmps13
        go_wp2_with fail
        refine H1.out.mono ?_
        rintro _ w1 ⟨rfl, rfl⟩
        go_wp2_with fail
        refine H2.out.mono ?_
        rintro _ w1 ⟨rfl, rfl⟩
        go_wp2_with fail
        refine HC.out.mono ?_
        rintro _ w1 ⟨rfl, rfl⟩
        go_wp2_with fail
        go_ret
        exact ⟨rfl, HB.out⟩

theorem toAt_next (l : List Sp) (s : Int) (K : Nat) (p : Sp) (h : l[K]? = some p) : toAt l s (K + 1) = if 0 ≤ p.to then p.to else toAt l s K := by
  show (match l[K]? with | some p => _ | none => _) = _
  rw [h]

set_option maxHeartbeats 2000000 in
theorem end_any (r : Rl) (c0 c1 c2 c3 c4 : Value) (s : Int) (w : World) (h : RlIs w [c0, c1, c2, c3, c4] r) (hw : RlWf r) :
    Calls Tryd.prog 41 #[.agg #[c0, c1, c2, c3, c4], .int .i64 s] w fun e w' => e = .returned (.int .i64 (toOf r s)) ∧ Below w.heap.size w w' := by
  obtain ⟨f, g, st, e, -, -, hp⟩ := h
  cases e
  have hpl := hw.2.2.2.2.2
  obtain ⟨a, cap, rfl, hp⟩ := hp.open
  have HS := Lib.hid hp
  obtain ⟨N, hN⟩ : ∃ N, r.steps.length = N := ⟨_, rfl⟩
  have HT := Lib.hid (show toAt r.steps s N = toOf r s by unfold toOf; rw [hN])
  have HN := Lib.hid hN
  rw [hN] at hpl HS ⊢
  have HL := Lib.hid hpl
  obtain ⟨W0, hW0⟩ : ∃ W0, w.alloc (.cells #[sv r.name, .int .i64 r.args, c2, c3, .slice a N cap] 38) = W0 := ⟨_, rfl⟩
  have hB0 : Below w.heap.size w W0 := by rw [← hW0]; exact (Below.refl w.heap.size w).alloc (Nat.le_refl _) _
  have HB0 := Lib.hid hB0
  have q4 : W0.cell? ⟨w.heap.size, 4, none⟩ = some (.slice a N cap) := by rw [← hW0]; unfold World.cell?; rw [heap_alloc_at]; rfl
  obtain ⟨T, hT⟩ : ∃ T, toOf r s = T := ⟨_, rfl⟩
  rw [hT] at HT ⊢
  clear hp hN hpl hB0 hT
  go_enter Tryd.func41, Tryd.ntmps41
  go_wp2_with fail
  go_loopw [1, 10] (fun x k wr => ∃ (K : Nat), k = .int .i64 (K : Int) ∧ x = .int .i64 (toAt r.steps s K) ∧ K ≤ N ∧ Hid (Below w.heap.size w wr)) (fun _ k _ => N - (intOf k).toNat)
  case atStart => exact ⟨0, rfl, rfl, Nat.zero_le _, HB0⟩
  case round =>
    obtain ⟨K, rfl, rfl, hK, HB⟩ := hrel
    by_cases hlt : K < N
    · have hltI : (K : Int) < (N : Int) := by omega
      obtain ⟨p, hpp⟩ : ∃ p, r.steps[K]? = some p := ⟨_, List.getElem?_eq_getElem (by rw [HN.out]; exact hlt)⟩
      obtain ⟨b, off, ea, cs, -, ⟨vs, rfl, hvs⟩, hc⟩ := HS.out.at hpp
      obtain ⟨av, capv, rfl, -⟩ := hvs.open
      subst ea
      have k0 := kept_cell HB.out (hc 0 _ rfl)
      have k1 := kept_cell HB.out (hc 1 _ rfl)
      have k0 : wr.cell? ⟨b, off + K * 2, none⟩ = some (.slice av p.sets.length capv) := k0
      have hn := toAt_next r.steps s K p hpp
      obtain ⟨x, hx⟩ : ∃ x, p.to = x := ⟨_, rfl⟩
      rw [hx] at k1 hn
      obtain ⟨W1, hW1⟩ : ∃ W1, wr.alloc (.cells #[.slice av p.sets.length capv, .int .i64 x] 75) = W1 := ⟨_, rfl⟩
      have hB1 : Below wr.heap.size wr W1 := by rw [← hW1]; exact (Below.refl wr.heap.size wr).alloc (Nat.le_refl _) _
      have c1 : W1.cell? ⟨wr.heap.size, 1, none⟩ = some (.int .i64 x) := by rw [← hW1]; unfold World.cell?; rw [heap_alloc_at]; rfl
      have HB1 := Lib.hid (HB.out.trans (hB1.mono HB.out.size))
      have hwK := wrap_next K (Nat.lt_of_lt_of_le hlt HL.out)
      clear hc hpp hB1 hx
      by_cases hx0 : 0 ≤ x
      · rw [if_pos hx0] at hn
        have HNx := Lib.hid hn
        clear hn
        go_wp2_with fail
        clear hwK hltI
        exact ⟨⟨K + 1, by go_num, by rw [HNx.out], by omega, HB1⟩, by simp [intOf]; omega⟩
      · rw [if_neg hx0] at hn
        have HNx := Lib.hid hn
        clear hn
        go_wp2_with fail
        clear hwK hltI
        exact ⟨⟨K + 1, by go_num, by rw [HNx.out], by omega, HB1⟩, by simp [intOf]; omega⟩
    · have hltI : ¬ (K : Int) < (N : Int) := by omega
      have e : K = N := by omega
      go_wp2_with fail
      go_ret
      exact ⟨ret_i64 (e ▸ HT.out), HB.out⟩
end Go.Proofs.YtfcdkjhabdpijaaDoor.R
