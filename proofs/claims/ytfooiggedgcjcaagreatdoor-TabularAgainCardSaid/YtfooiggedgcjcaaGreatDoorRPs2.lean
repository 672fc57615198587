/-
  Layer 5, the program's side: what tells what is wrong with each set of a step, each step.
-/
import Derived.Test.YtfooiggedgcjcaaGreatDoorRPr
namespace Go.Proofs.YtfooiggedgcjcaaGreatDoor.R
open Go Go.RowKit Go.Proofs.YtfooiggedgcjcaaGreatDoor.B Go.Proofs.YtfooiggedgcjcaaGreatDoor.K Go.Proofs.YtfooiggedgcjcaaGreatDoor.E
set_option linter.unusedVariables false

theorem calls_keep2 {P : Program} {f : Nat} {args : Array Value} {W : World} {r : Ending} {S : World → Prop} (hc : Calls P f args W (fun z w' => z = r ∧ Below W.heap.size W w')) (hS : ∀ W', Below W.heap.size W W' → S W') : Calls P f args W (fun z w' => z = r ∧ S w') :=
  hc.mono (by rintro _ w' ⟨rfl, hb⟩; exact ⟨rfl, hS _ hb⟩)

set_option maxHeartbeats 1000000 in
theorem indexSet_any (l : List Se) (y : Se) (b K N cap off g1 g2 : Nat) (w : World) (h : SlOf w 2 (SeIs w) (.slice (some ⟨b, off, none⟩) N cap) l) (hN : l.length = N) (hl : l.length ≤ 9223372036854775807) (h1 : w.cell? ⟨g1, 0, none⟩ = some (.slice (some ⟨b, off, none⟩) N cap)) (h2 : w.cell? ⟨g2, 0, none⟩ = some (.int .i64 (K : Int))) (hK : K < N)
    (h3 : w.cell? ⟨b, off + K * 2, none⟩ = some (.int .i64 y.var)) :
    Calls Tryz.prog 122 #[.slice (some ⟨b, off, none⟩) N cap, .func (.func 121) #[] #[.pointer (some ⟨g1, 0, none⟩), .pointer (some ⟨g2, 0, none⟩)]] w fun z w' => z = .returned (.int .i64 (idxP (fun s => s.var == y.var) l)) ∧ Below w.heap.size w w' := by
  have HS := Lib.hid h
  have HG := Lib.hid (And.intro h1 (And.intro h2 h3))
  have HKK := Lib.hid hK
  rw [hN] at hl
  have HL := Lib.hid hl
  have HN := Lib.hid hN
  clear hN hl h h1 h2 h3 hK
  go_enter Tryz.func122, Tryz.ntmps122
  go_wp2_with fail
  go_loopw [8] (fun k wr => ∃ (J : Nat), k = .int .i64 (J : Int) ∧ J ≤ N ∧ Hid (Below w.heap.size w wr) ∧ Hid (∀ (j : Nat) s, j < J → l[j]? = some s → (s.var == y.var) = false)) (fun k _ => N - (intOf k).toNat)
  case atStart => exact ⟨0, rfl, Nat.zero_le _, Lib.hid (Below.refl _ _), Lib.hid (fun j s h => absurd h (Nat.not_lt_zero _))⟩
  case round =>
    obtain ⟨J, rfl, hJ, HBW, HI⟩ := hrel
    by_cases hlt : J < N
    · have hltI : (J : Int) < (N : Int) := by omega
      obtain ⟨s, hs⟩ : ∃ s, l[J]? = some s := ⟨_, List.getElem?_eq_getElem (by rw [HN.out]; exact hlt)⟩
      have HY := Lib.hid hs
      obtain ⟨b', off', ea, cs, -, ⟨tv, rfl, -⟩, hc⟩ := HS.out.at hs
      cases ea
      have k0 : wr.cell? ⟨b, off + J * 2, none⟩ = some (.int .i64 s.var) := kept_cell HBW.out (hc 0 _ rfl)
      have k1 := kept_cell HBW.out (hc 1 _ rfl)
      have HC := Lib.hid (set1_any s y b K N cap off tv g1 g2 wr (kept_cell HBW.out HG.out.1) (kept_cell HBW.out HG.out.2.1) HKK.out (kept_cell HBW.out HG.out.2.2))
      have hwK := wrap_next J (Nat.lt_of_lt_of_le hlt HL.out)
      clear hc hs
      cases hq : (s.var == y.var) with
      | true =>
        rw [hq] at HC
        have HQ := Lib.hid hq
        clear hq
        go_wp2_with (go_at_call 121; refine HC.out.mono ?_; rintro _ w1 ⟨rfl, hb1⟩; have HB1 := Lib.hid (HBW.out.trans (hb1.mono HBW.out.size)); clear hb1)
        go_ret
        exact ⟨ret_int (idxP_at _ l J s HY.out HQ.out HI.out).symm, HB1.out⟩
      | false =>
        rw [hq] at HC
        have HQ := Lib.hid hq
        clear hq
        go_wp2_with (go_at_call 121; refine HC.out.mono ?_; rintro _ w1 ⟨rfl, hb1⟩; have HB1 := Lib.hid (HBW.out.trans (hb1.mono HBW.out.size)); clear hb1)
        clear hwK hltI
        exact ⟨⟨J + 1, by go_num, by omega, HB1, Lib.hid (none_next HI.out HY.out HQ.out)⟩, by simp [intOf]; omega⟩
    · have hltI : ¬ (J : Int) < (N : Int) := by omega
      have e : J = N := by omega
      go_wp2_with fail
      go_ret
      exact ⟨ret_int (idxP_none _ l (fun j s hs => HI.out j s (by have := (List.getElem?_eq_some_iff.1 hs).1; rw [HN.out] at this; omega) hs)).symm, HBW.out⟩

set_option maxHeartbeats 1000000 in
theorem sets1_any (l : List Se) (v fc : Value) (V : Nat) (A : Int) (gt gc k : Nat) (w : World) (h : SlOf w 2 (SeIs w) v l) (hw : ∀ x ∈ l, SeWf x) (hl : l.length ≤ 9223372036854775807) (hk : k < l.length) (hV : ∃ a cap, w.cell? ⟨gt, 1, none⟩ = some (.slice a V cap)) (hfc : w.cell? ⟨gc, 0, none⟩ = some fc) (hF : CodeF w fc V A) :
    Calls Tryz.prog 120 #[v, .int .i64 (k : Int), .pointer (some ⟨gt, 0, none⟩), .pointer (some ⟨gc, 0, none⟩)] w fun z w' => z = .returned (.int .i64 (setBad V A l k)) ∧ Below w.heap.size w w' := by
  obtain ⟨x, hx⟩ : ∃ x, l[k]? = some x := ⟨_, List.getElem?_eq_getElem hk⟩
  obtain ⟨a, cap, rfl, h⟩ := h.open
  obtain ⟨b, off, ea, cs, -, ⟨tv, rfl, hcode⟩, hc⟩ := h.at hx
  subst ea
  obtain ⟨a2, cap2, hV⟩ := hV
  have hxw := hw x (List.mem_of_getElem? hx)
  have hres : setBad V A l k = if placeE x.var V (decide (idxP (fun s => s.var == x.var) l < (k : Int))) ≠ 0 then placeE x.var V (decide (idxP (fun s => s.var == x.var) l < (k : Int))) else (check x.value V A).2 := by
    unfold setBad; rw [hx]; simp only
    rw [idxP_lt _ l k x hx (by simp)]
  rw [hres]
  obtain ⟨N, hN⟩ : ∃ N, l.length = N := ⟨_, rfl⟩
  rw [hN] at hk h ⊢
  have hkI : (k : Int) < (N : Int) := by omega
  have k0 : w.cell? ⟨b, off + k * 2, none⟩ = some (.int .i64 x.var) := hc 0 _ rfl
  have k1 : w.cell? ⟨b, off + k * 2 + 1, none⟩ = some tv := hc 1 _ rfl
  obtain ⟨at_, capt, rfl, htt⟩ := hcode
  have hcode : SlI w (.slice at_ x.value.length capt) x.value := ⟨at_, capt, rfl, htt⟩
  obtain ⟨ht, hr, a3, cap3, rfl, e1, e2⟩ := hF
  obtain ⟨W1, W2, hW1, hW2, hB1, hB2, q1, q2⟩ := two_box w #[.slice (some ⟨b, off, none⟩) N cap] #[.int .i64 (k : Int)] 78 3
  have HX := Lib.hid (fun (W : World) (hb : Below w.heap.size w W) => expr1_any x.value (.slice at_ x.value.length capt) V A ht hr a3 cap3 W (hcode.below hb) hxw.2.2 (kept_cell hb e1) (kept_cell hb e2))
  obtain ⟨sv_, hsv⟩ : ∃ s, x.var = s := ⟨_, rfl⟩
  obtain ⟨M, hM⟩ : ∃ M, x.value.length = M := ⟨_, rfl⟩
  obtain ⟨E, hE⟩ : ∃ E, (check x.value V A).2 = E := ⟨_, rfl⟩
  rw [hM, hE] at HX
  rw [hM] at k1
  have hS2 : W2.cell? ⟨w.heap.size, 0, none⟩ = some (.slice (some ⟨b, off, none⟩) N cap) ∧ W2.cell? ⟨W1.heap.size, 0, none⟩ = some (.int .i64 (k : Int)) ∧ W2.cell? ⟨b, off + k * 2, none⟩ = some (.int .i64 sv_) ∧ W2.cell? ⟨b, off + k * 2 + 1, none⟩ = some (.slice at_ M capt) ∧ W2.cell? ⟨gt, 1, none⟩ = some (.slice a2 V cap2) ∧ W2.cell? ⟨gc, 0, none⟩ = some (.func (.func 118) #[] #[.pointer (some ⟨ht, 0, none⟩), .pointer (some ⟨hr, 0, none⟩)]) ∧ Below w.heap.size w W2 := ⟨q1 0 _ rfl, q2 0 _ rfl, by rw [← hsv]; exact kept_cell hB2 k0, kept_cell hB2 k1, kept_cell hB2 hV, kept_cell hB2 hfc, hB2⟩
  have HIX := Lib.hid (fun (W : World) (hS : W.cell? ⟨w.heap.size, 0, none⟩ = some (.slice (some ⟨b, off, none⟩) N cap) ∧ W.cell? ⟨W1.heap.size, 0, none⟩ = some (.int .i64 (k : Int)) ∧ W.cell? ⟨b, off + k * 2, none⟩ = some (.int .i64 sv_) ∧ W.cell? ⟨b, off + k * 2 + 1, none⟩ = some (.slice at_ M capt) ∧ W.cell? ⟨gt, 1, none⟩ = some (.slice a2 V cap2) ∧ W.cell? ⟨gc, 0, none⟩ = some (.func (.func 118) #[] #[.pointer (some ⟨ht, 0, none⟩), .pointer (some ⟨hr, 0, none⟩)]) ∧ Below w.heap.size w W) => calls_keep2 (S := fun W => W.cell? ⟨w.heap.size, 0, none⟩ = some (.slice (some ⟨b, off, none⟩) N cap) ∧ W.cell? ⟨W1.heap.size, 0, none⟩ = some (.int .i64 (k : Int)) ∧ W.cell? ⟨b, off + k * 2, none⟩ = some (.int .i64 sv_) ∧ W.cell? ⟨b, off + k * 2 + 1, none⟩ = some (.slice at_ M capt) ∧ W.cell? ⟨gt, 1, none⟩ = some (.slice a2 V cap2) ∧ W.cell? ⟨gc, 0, none⟩ = some (.func (.func 118) #[] #[.pointer (some ⟨ht, 0, none⟩), .pointer (some ⟨hr, 0, none⟩)]) ∧ Below w.heap.size w W) (indexSet_any l x b k N cap off w.heap.size W1.heap.size W (h.below hS.2.2.2.2.2.2 (fun _ _ q => q.below hS.2.2.2.2.2.2)) hN hl hS.1 hS.2.1 hk (by rw [hsv]; exact hS.2.2.1)) (fun W' hb => ⟨kept_cell hb hS.1, kept_cell hb hS.2.1, kept_cell hb hS.2.2.1, kept_cell hb hS.2.2.2.1, kept_cell hb hS.2.2.2.2.1, kept_cell hb hS.2.2.2.2.2.1, hS.2.2.2.2.2.2.trans (hb.mono hS.2.2.2.2.2.2.size)⟩))
  obtain ⟨i, hi⟩ : ∃ i, idxP (fun s => s.var == x.var) l = i := ⟨_, rfl⟩
  rw [hi] at HIX ⊢
  have HON := Lib.hid (fun (W : World) (hS : W.cell? ⟨w.heap.size, 0, none⟩ = some (.slice (some ⟨b, off, none⟩) N cap) ∧ W.cell? ⟨W1.heap.size, 0, none⟩ = some (.int .i64 (k : Int)) ∧ W.cell? ⟨b, off + k * 2, none⟩ = some (.int .i64 sv_) ∧ W.cell? ⟨b, off + k * 2 + 1, none⟩ = some (.slice at_ M capt) ∧ W.cell? ⟨gt, 1, none⟩ = some (.slice a2 V cap2) ∧ W.cell? ⟨gc, 0, none⟩ = some (.func (.func 118) #[] #[.pointer (some ⟨ht, 0, none⟩), .pointer (some ⟨hr, 0, none⟩)]) ∧ Below w.heap.size w W) => calls_keep (S := fun W => W.cell? ⟨w.heap.size, 0, none⟩ = some (.slice (some ⟨b, off, none⟩) N cap) ∧ W.cell? ⟨W1.heap.size, 0, none⟩ = some (.int .i64 (k : Int)) ∧ W.cell? ⟨b, off + k * 2, none⟩ = some (.int .i64 sv_) ∧ W.cell? ⟨b, off + k * 2 + 1, none⟩ = some (.slice at_ M capt) ∧ W.cell? ⟨gt, 1, none⟩ = some (.slice a2 V cap2) ∧ W.cell? ⟨gc, 0, none⟩ = some (.func (.func 118) #[] #[.pointer (some ⟨ht, 0, none⟩), .pointer (some ⟨hr, 0, none⟩)]) ∧ Below w.heap.size w W) (ofPlace_any sv_ V (decide (i < (k : Int))) W) hS)
  rw [hsv, hE]
  obtain ⟨E2, hE2⟩ : ∃ E2, placeE sv_ V (decide (i < (k : Int))) = E2 := ⟨_, rfl⟩
  rw [hE2] at HON ⊢
  obtain ⟨R, hR⟩ : ∃ R, (if E2 ≠ 0 then E2 else E) = R := ⟨_, rfl⟩
  rw [hR]
  have HR := Lib.hid hR
  clear hR
  clear hx h hw hl hV hres hN k0 k1 htt hcode e1 e2 hB1 hB2 q1 q2 hsv hM hE hi hE2 hfc hxw hc
  go_enter Tryz.func120, Tryz.ntmps120
  go_upto_region 2 with fail
  have hS0 : W2.drew.cell? ⟨w.heap.size, 0, none⟩ = some (.slice (some ⟨b, off, none⟩) N cap) ∧ W2.drew.cell? ⟨W1.heap.size, 0, none⟩ = some (.int .i64 (k : Int)) ∧ W2.drew.cell? ⟨b, off + k * 2, none⟩ = some (.int .i64 sv_) ∧ W2.drew.cell? ⟨b, off + k * 2 + 1, none⟩ = some (.slice at_ M capt) ∧ W2.drew.cell? ⟨gt, 1, none⟩ = some (.slice a2 V cap2) ∧ W2.drew.cell? ⟨gc, 0, none⟩ = some (.func (.func 118) #[] #[.pointer (some ⟨ht, 0, none⟩), .pointer (some ⟨hr, 0, none⟩)]) ∧ Below w.heap.size w W2.drew := ⟨hS2.1, hS2.2.1, hS2.2.2.1, hS2.2.2.2.1, hS2.2.2.2.2.1, hS2.2.2.2.2.2.1, hS2.2.2.2.2.2.2.drew⟩
  clear hS2
  go_region_held3 (fun W => W.cell? ⟨w.heap.size, 0, none⟩ = some (.slice (some ⟨b, off, none⟩) N cap) ∧ W.cell? ⟨W1.heap.size, 0, none⟩ = some (.int .i64 (k : Int)) ∧ W.cell? ⟨b, off + k * 2, none⟩ = some (.int .i64 sv_) ∧ W.cell? ⟨b, off + k * 2 + 1, none⟩ = some (.slice at_ M capt) ∧ W.cell? ⟨gt, 1, none⟩ = some (.slice a2 V cap2) ∧ W.cell? ⟨gc, 0, none⟩ = some (.func (.func 118) #[] #[.pointer (some ⟨ht, 0, none⟩), .pointer (some ⟨hr, 0, none⟩)]) ∧ Below w.heap.size w W) (first | exact hS0 | assumption) (first | (go_at_call 122; ((with_reducible refine (HIX.out _ ?_).mono ?_); (first | exact hS0 | assumption)); rintro _ w1 ⟨rfl, hS1⟩) | (go_at_call 88; ((with_reducible refine (HON.out _ ?_).mono ?_); (first | exact hS0 | assumption)); rintro _ w3 ⟨rfl, hS3⟩))
  clear hS0 HIX HON
  by_cases h0 : E2 = 0
  · have hb0 : (E2 == 0) = true := beq_iff_eq.2 h0
    have HR2 : Hid (E = R) := Lib.hid (by rw [← HR.out, if_neg (by simp [h0])])
    clear h0 HR
    go_upto_region 5 with fail
    have hS0 : w3.drew.cell? ⟨w.heap.size, 0, none⟩ = some (.slice (some ⟨b, off, none⟩) N cap) ∧ w3.drew.cell? ⟨W1.heap.size, 0, none⟩ = some (.int .i64 (k : Int)) ∧ w3.drew.cell? ⟨b, off + k * 2, none⟩ = some (.int .i64 sv_) ∧ w3.drew.cell? ⟨b, off + k * 2 + 1, none⟩ = some (.slice at_ M capt) ∧ w3.drew.cell? ⟨gt, 1, none⟩ = some (.slice a2 V cap2) ∧ w3.drew.cell? ⟨gc, 0, none⟩ = some (.func (.func 118) #[] #[.pointer (some ⟨ht, 0, none⟩), .pointer (some ⟨hr, 0, none⟩)]) ∧ Below w.heap.size w w3.drew := ⟨hS3.1, hS3.2.1, hS3.2.2.1, hS3.2.2.2.1, hS3.2.2.2.2.1, hS3.2.2.2.2.2.1, hS3.2.2.2.2.2.2.drew⟩
    have HX2 := Lib.hid (fun (W : World) (hS : W.cell? ⟨w.heap.size, 0, none⟩ = some (.slice (some ⟨b, off, none⟩) N cap) ∧ W.cell? ⟨W1.heap.size, 0, none⟩ = some (.int .i64 (k : Int)) ∧ W.cell? ⟨b, off + k * 2, none⟩ = some (.int .i64 sv_) ∧ W.cell? ⟨b, off + k * 2 + 1, none⟩ = some (.slice at_ M capt) ∧ W.cell? ⟨gt, 1, none⟩ = some (.slice a2 V cap2) ∧ W.cell? ⟨gc, 0, none⟩ = some (.func (.func 118) #[] #[.pointer (some ⟨ht, 0, none⟩), .pointer (some ⟨hr, 0, none⟩)]) ∧ Below w.heap.size w W) => calls_keep2 (S := fun W => W.cell? ⟨w.heap.size, 0, none⟩ = some (.slice (some ⟨b, off, none⟩) N cap) ∧ W.cell? ⟨W1.heap.size, 0, none⟩ = some (.int .i64 (k : Int)) ∧ W.cell? ⟨b, off + k * 2, none⟩ = some (.int .i64 sv_) ∧ W.cell? ⟨b, off + k * 2 + 1, none⟩ = some (.slice at_ M capt) ∧ W.cell? ⟨gt, 1, none⟩ = some (.slice a2 V cap2) ∧ W.cell? ⟨gc, 0, none⟩ = some (.func (.func 118) #[] #[.pointer (some ⟨ht, 0, none⟩), .pointer (some ⟨hr, 0, none⟩)]) ∧ Below w.heap.size w W) (HX.out W hS.2.2.2.2.2.2) (fun W' hb => ⟨kept_cell hb hS.1, kept_cell hb hS.2.1, kept_cell hb hS.2.2.1, kept_cell hb hS.2.2.2.1, kept_cell hb hS.2.2.2.2.1, kept_cell hb hS.2.2.2.2.2.1, hS.2.2.2.2.2.2.trans (hb.mono hS.2.2.2.2.2.2.size)⟩))
    clear hS3 HX
    go_region_held3 (fun W => W.cell? ⟨w.heap.size, 0, none⟩ = some (.slice (some ⟨b, off, none⟩) N cap) ∧ W.cell? ⟨W1.heap.size, 0, none⟩ = some (.int .i64 (k : Int)) ∧ W.cell? ⟨b, off + k * 2, none⟩ = some (.int .i64 sv_) ∧ W.cell? ⟨b, off + k * 2 + 1, none⟩ = some (.slice at_ M capt) ∧ W.cell? ⟨gt, 1, none⟩ = some (.slice a2 V cap2) ∧ W.cell? ⟨gc, 0, none⟩ = some (.func (.func 118) #[] #[.pointer (some ⟨ht, 0, none⟩), .pointer (some ⟨hr, 0, none⟩)]) ∧ Below w.heap.size w W) (first | exact hS0 | assumption) (first | (go_at_call 118; ((with_reducible refine (HX2.out _ ?_).mono ?_); (first | exact hS0 | assumption)); rintro _ w4 ⟨rfl, hS4⟩))
    all_goals
      go_wp2_with fail
      go_ret
      exact ⟨ret_int HR2.out, hS4.2.2.2.2.2.2⟩
  · have hb0 : (E2 == 0) = false := beq_eq_false_iff_ne.2 h0
    have HR2 : Hid (E2 = R) := Lib.hid (by rw [← HR.out, if_pos h0])
    clear h0 HR
    go_wp2_with fail
    go_ret
    exact ⟨ret_int HR2.out, hS3.2.2.2.2.2.2⟩

theorem ent_sets : Ent 120 := fun args w => enters_of Tryz.func120 (by kernel_rfl) rfl args w

/-- A function value that tells what is wrong with a set of a step. -/
def SetF (w : World) (fs : Value) (V : Nat) (A : Int) : Prop :=
  ∃ gt gc a cap fc, fs = .func (.func 120) #[] #[.pointer (some ⟨gt, 0, none⟩), .pointer (some ⟨gc, 0, none⟩)] ∧ w.cell? ⟨gt, 1, none⟩ = some (.slice a V cap) ∧ w.cell? ⟨gc, 0, none⟩ = some fc ∧ CodeF w fc V A

theorem SetF.below {w w' : World} {fc : Value} {V : Nat} {A : Int} (h : SetF w fc V A) (hb : Below w.heap.size w w') : SetF w' fc V A := by
  obtain ⟨gt, gc, a, cap, fc, rfl, h1, h2, h3⟩ := h
  exact ⟨gt, gc, a, cap, fc, rfl, kept_cell hb h1, kept_cell hb h2, h3.below hb⟩

set_option maxHeartbeats 1000000 in
theorem sets_any (V : Nat) (A : Int) (c0 vv c2 c3 f0 f2 f3 f4 : Value) (w : World) (hV : ∃ a cap, vv = .slice a V cap) :
    Calls Tryz.prog 92 #[.agg #[c0, vv, c2, c3], .agg #[f0, .int .i64 A, f2, f3, f4]] w fun z w' => (∃ fc, z = .returned fc ∧ SetF w' fc V A) ∧ Below w.heap.size w w' := by
  obtain ⟨W1, W2, hW1, hW2, hB1, hB2, q1, q2⟩ := two_box w #[c0, vv, c2, c3] #[f0, .int .i64 A, f2, f3, f4] 26 58
  have HX := Lib.hid (expressions_any V A c0 vv c2 c3 f0 f2 f3 f4 W2 hV)
  obtain ⟨a, cap, rfl⟩ := hV
  have p0 := q1 0 _ rfl
  have p1 := q1 1 _ rfl
  have p2 := q1 2 _ rfl
  have p3 := q1 3 _ rfl
  have r0 := q2 0 _ rfl
  have r1 := q2 1 _ rfl
  have r2 := q2 2 _ rfl
  have r3 := q2 3 _ rfl
  have r4 := q2 4 _ rfl
  have H1 := Lib.hid p1
  have HB := Lib.hid hB2
  clear q1 q2 hB1 hB2
  go_enter Tryz.func92, Tryz.ntmps92
  go_wp2_with (go_at_call 90; refine HX.out.mono ?_; rintro _ w1 ⟨⟨fc, rfl, hfc⟩, hb1⟩; obtain ⟨gt, gr, a2, cap2, rfl, e1, e2⟩ := hfc; have HB1 := Lib.hid (HB.out.trans (hb1.mono HB.out.size)); have H31 := Lib.hid (kept_cell hb1 H1.out); have HE := Lib.hid (And.intro e1 e2); clear hb1 e1 e2)
  go_ret
  have hw3 := below_alloc w1 (.cells #[.func (.func 118) #[] #[.pointer (some ⟨gt, 0, none⟩), .pointer (some ⟨gr, 0, none⟩)]] 138)
  exact ⟨⟨_, rfl, _, _, _, _, _, rfl, kept_cell hw3 H31.out, box_cell _ _ _ _ _ rfl, gt, gr, a2, cap2, rfl, kept_cell hw3 HE.out.1, kept_cell hw3 HE.out.2⟩, HB1.out.trans (hw3.mono HB1.out.size)⟩
end Go.Proofs.YtfooiggedgcjcaaGreatDoor.R
