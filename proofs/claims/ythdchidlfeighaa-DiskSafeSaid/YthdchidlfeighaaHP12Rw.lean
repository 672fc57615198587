/-
  Layer 12, the document's answers: Truncate.
-/
import Derived.Test.YthdchidlfeighaaHP12Rv
import Derived.Deep.RegionHeldLaw
namespace Go.Proofs.Ythdchidlfeighaa.C12
open Go Go.RowKit Go.Proofs Go.Proofs.Ythdchidlfeighaa.B Go.Proofs.Ythdchidlfeighaa.K Go.Proofs.Ythdchidlfeighaa.P8
set_option linter.unusedVariables false
set_option maxRecDepth 100000

theorem str_take (l : List UInt8) (n : Nat) : (str l).extract 0 n = str (l.take n) := by
  unfold str
  rw [Lib.extract_eq]
  simp

set_option maxHeartbeats 8000000 in
theorem trunc_any (s : List UInt8) (n : Int) (b : Nat) (G : Nat → Prop) (D : Dst) (w : World) (h : RAt w G b D) :
    Calls Try.prog 47 #[.pointer (some ⟨b, 0, none⟩), .string (str s), .int .i64 n] w (Wrote G b (truncD D s n) w) := by
  have HS := some_any s b G D w h
  unfold someR at HS
  unfold truncD someD
  cases hd : D.down with
  | true =>
    rw [hd] at HS
    simp only [if_true] at HS ⊢
    have HS := Lib.hid HS
    have H := Lib.hid h
    clear h
    go_enter Try.func47, Try.ntmps47
    go_wp2_with (go_at_call 55; refine HS.out.mono ?_; rintro _ w1 ⟨rfl, hb1⟩; have HB1 := Lib.hid hb1; clear hb1)
    go_ret
    exact ⟨G, rfl, (H.out.below HB1.out).below (below_alloc _ _), Chg.of_below (HB1.out.trans ((below_alloc _ _).mono HB1.out.size))⟩
  | false =>
    rw [hd] at HS
    simp only [Bool.false_eq_true, if_false] at HS ⊢
    cases hf : findF D.files s with
    | none =>
      rw [hf] at HS
      simp only at HS ⊢
      have HS := Lib.hid HS
      have H := Lib.hid h
      clear h
      go_enter Try.func47, Try.ntmps47
      go_wp2_with (go_at_call 55; refine HS.out.mono ?_; rintro _ w1 ⟨rfl, hb1⟩; have HB1 := Lib.hid hb1; clear hb1)
      go_ret
      exact ⟨G, rfl, (H.out.below HB1.out).below (below_alloc _ _), Chg.of_below (HB1.out.trans ((below_alloc _ _).mono HB1.out.size))⟩
    | some f =>
      rw [hf] at HS
      simp only at HS ⊢
      obtain ⟨hfm, hfn⟩ := find_facts hf
      have hfe := h.ok.each f hfm
      have hdl := drop_lt hfm hfn
      have hcn := h.ok.count
      have HS := Lib.hid HS
      have H := Lib.hid h
      have HGO := Lib.hid (fun W (hW : RAt W G b D) => goes_any b G D W hW)
      have HGF := Lib.hid (goes_files D)
      have HLT := Lib.hid (fun i (hi : G i) => h.lt i hi)
      have HFN := Lib.hid hfn
      clear h hf hfn
      obtain ⟨S, hS⟩ : ∃ S, f.safe.length = S := ⟨_, rfl⟩
      obtain ⟨M, hM⟩ : ∃ S, f.more.length = S := ⟨_, rfl⟩
      have z1 : (str f.safe).size = S := by rw [str_size]; exact hS
      have z2 : (str f.more).size = M := by rw [str_size]; exact hM
      have a1 : IntKind.i64.wrap ((S : Int) + (M : Int)) = (S : Int) + (M : Int) := IntWalk.i64_in _ (by rw [← hS, ← hM]; omega)
      rw [hS, hM] at hfe ⊢
      by_cases hn0 : n < 0
      · rw [if_pos (Or.inl hn0)]
        go_enter Try.func47, Try.ntmps47
        go_wp2_with fail
        refine HS.out.mono ?_
        rintro _ w1 ⟨rfl, hb1⟩
        obtain ⟨W2, hW2⟩ : ∃ W2, w1.alloc (.cells #[.string (str f.name), .string (str f.safe), .string (str f.more)] 41) = W2 := ⟨_, rfl⟩
        have hB2 : Below w1.heap.size w1 W2 := by rw [← hW2]; exact below_alloc _ _
        have HB2 := Lib.hid (hb1.trans (hB2.mono hb1.size))
        have hR2 := H.out.below HB2.out
        obtain ⟨g0, hg0⟩ : ∃ g, w1.heap.size = g := ⟨_, rfl⟩
        have m1 : W2.cell? ⟨g0, 1, none⟩ = some (.string (str f.safe)) := by rw [← hW2, ← hg0]; exact alloc_cell w1 [_, _, _] _ 1 _ rfl
        have m2 : W2.cell? ⟨g0, 2, none⟩ = some (.string (str f.more)) := by rw [← hW2, ← hg0]; exact alloc_cell w1 [_, _, _] _ 2 _ rfl
        have hG0 : ¬ G g0 := fun e => by
          have := HLT.out g0 e
          have := hb1.size
          omega
        clear hb1 hB2
        go_wp2_with fail
        go_ret
        exact ⟨G, rfl, hR2, Chg.of_below HB2.out⟩
      · by_cases hn1 : (S : Int) + (M : Int) < n
        · rw [if_pos (Or.inr hn1)]
          go_enter Try.func47, Try.ntmps47
          go_wp2_with fail
          refine HS.out.mono ?_
          rintro _ w1 ⟨rfl, hb1⟩
          obtain ⟨W2, hW2⟩ : ∃ W2, w1.alloc (.cells #[.string (str f.name), .string (str f.safe), .string (str f.more)] 41) = W2 := ⟨_, rfl⟩
          have hB2 : Below w1.heap.size w1 W2 := by rw [← hW2]; exact below_alloc _ _
          have HB2 := Lib.hid (hb1.trans (hB2.mono hb1.size))
          have hR2 := H.out.below HB2.out
          obtain ⟨g0, hg0⟩ : ∃ g, w1.heap.size = g := ⟨_, rfl⟩
          have m1 : W2.cell? ⟨g0, 1, none⟩ = some (.string (str f.safe)) := by rw [← hW2, ← hg0]; exact alloc_cell w1 [_, _, _] _ 1 _ rfl
          have m2 : W2.cell? ⟨g0, 2, none⟩ = some (.string (str f.more)) := by rw [← hW2, ← hg0]; exact alloc_cell w1 [_, _, _] _ 2 _ rfl
          have hG0 : ¬ G g0 := fun e => by
            have := HLT.out g0 e
            have := hb1.size
            omega
          clear hb1 hB2
          go_wp2_with fail
          go_ret
          exact ⟨G, rfl, hR2, Chg.of_below HB2.out⟩
        · rw [if_neg (by omega)]
          by_cases hnS : n ≤ (S : Int)
          · simp only [hnS, if_true]
            go_enter Try.func47, Try.ntmps47
            go_wp2_with fail
            refine HS.out.mono ?_
            rintro _ w1 ⟨rfl, hb1⟩
            obtain ⟨W2, hW2⟩ : ∃ W2, w1.alloc (.cells #[.string (str f.name), .string (str f.safe), .string (str f.more)] 41) = W2 := ⟨_, rfl⟩
            have hB2 : Below w1.heap.size w1 W2 := by rw [← hW2]; exact below_alloc _ _
            have HB2 := Lib.hid (hb1.trans (hB2.mono hb1.size))
            have hR2 := H.out.below HB2.out
            obtain ⟨g0, hg0⟩ : ∃ g, w1.heap.size = g := ⟨_, rfl⟩
            have m1 : W2.cell? ⟨g0, 1, none⟩ = some (.string (str f.safe)) := by rw [← hW2, ← hg0]; exact alloc_cell w1 [_, _, _] _ 1 _ rfl
            have m2 : W2.cell? ⟨g0, 2, none⟩ = some (.string (str f.more)) := by rw [← hW2, ← hg0]; exact alloc_cell w1 [_, _, _] _ 2 _ rfl
            have hG0 : ¬ G g0 := fun e => by
              have := HLT.out g0 e
              have := hb1.size
              omega
            clear hb1 hB2
            go_wp2_with fail
            refine (HGO.out _ hR2).mono ?_
            rintro _ w3 ⟨rfl, hr3, hc3⟩
            have HR3 := Lib.hid hr3
            have HC3 := Lib.hid ((Chg.of_below (F := G) HB2.out).trans hc3)
            have m1' := box_keep hc3 hG0 m1
            have m2' := box_keep hc3 hG0 m2
            clear hr3 hc3 hR2 m1 m2 hW2
            obtain ⟨⟨E, z⟩, hEz⟩ : ∃ p, goesD D = p := ⟨_, rfl⟩
            rw [hEz] at HR3 HGF ⊢
            dsimp only at HR3 HGF ⊢
            have HEZ := Lib.hid hEz
            clear hEz
            cases z with
            | true =>
              go_wp2_with fail
              go_ret
              rw [goD_down HEZ.out]
              exact ⟨G, rfl, HR3.out, HC3.out⟩
            | false =>
              obtain ⟨k, rfl⟩ : ∃ k : Nat, n = (k : Int) := ⟨n.toNat, by omega⟩
              have hk0 : 0 ≤ (k : Int) := by omega
              have hcut := str_take f.safe k
              have HST := Lib.hid (set_any ⟨s, f.safe.take k, []⟩ b G E w3 HR3.out (by unfold setF; rw [set_len, HGF.out]; simp only [Bool.false_eq_true, if_false]; omega) ⟨by rw [← HFN.out]; exact hfe.1, by show (f.safe.take k).length + 0 ≤ 65536; rw [List.length_take]; omega⟩)
              dsimp only at HST
              go_wp2_with fail
              refine HST.out.mono ?_
              rintro _ w4 ⟨G', rfl, hr4, hc4⟩
              have HR4 := Lib.hid hr4
              have HC4 := Lib.hid hc4
              clear hr4 hc4
              go_wp2_with fail
              go_ret
              rw [goD_on HEZ.out]
              refine ⟨G', rfl, ?_, HC3.out.trans HC4.out⟩
              exact HR4.out
          · simp only [hnS, if_false]
            go_enter Try.func47, Try.ntmps47
            go_wp2_with fail
            refine HS.out.mono ?_
            rintro _ w1 ⟨rfl, hb1⟩
            obtain ⟨W2, hW2⟩ : ∃ W2, w1.alloc (.cells #[.string (str f.name), .string (str f.safe), .string (str f.more)] 41) = W2 := ⟨_, rfl⟩
            have hB2 : Below w1.heap.size w1 W2 := by rw [← hW2]; exact below_alloc _ _
            have HB2 := Lib.hid (hb1.trans (hB2.mono hb1.size))
            have hR2 := H.out.below HB2.out
            obtain ⟨g0, hg0⟩ : ∃ g, w1.heap.size = g := ⟨_, rfl⟩
            have m1 : W2.cell? ⟨g0, 1, none⟩ = some (.string (str f.safe)) := by rw [← hW2, ← hg0]; exact alloc_cell w1 [_, _, _] _ 1 _ rfl
            have m2 : W2.cell? ⟨g0, 2, none⟩ = some (.string (str f.more)) := by rw [← hW2, ← hg0]; exact alloc_cell w1 [_, _, _] _ 2 _ rfl
            have hG0 : ¬ G g0 := fun e => by
              have := HLT.out g0 e
              have := hb1.size
              omega
            clear hb1 hB2
            go_wp2_with fail
            refine (HGO.out _ hR2).mono ?_
            rintro _ w3 ⟨rfl, hr3, hc3⟩
            have HR3 := Lib.hid hr3
            have HC3 := Lib.hid ((Chg.of_below (F := G) HB2.out).trans hc3)
            have m1' := box_keep hc3 hG0 m1
            have m2' := box_keep hc3 hG0 m2
            clear hr3 hc3 hR2 m1 m2 hW2
            obtain ⟨⟨E, z⟩, hEz⟩ : ∃ p, goesD D = p := ⟨_, rfl⟩
            rw [hEz] at HR3 HGF ⊢
            dsimp only at HR3 HGF ⊢
            have HEZ := Lib.hid hEz
            clear hEz
            cases z with
            | true =>
              go_wp2_with fail
              go_ret
              rw [goD_down HEZ.out]
              exact ⟨G, rfl, HR3.out, HC3.out⟩
            | false =>
              obtain ⟨k, rfl⟩ : ∃ k : Nat, n = (k : Int) := ⟨n.toNat, by omega⟩
              obtain ⟨j, hj⟩ : ∃ j : Nat, k = S + j := ⟨k - S, by omega⟩
              have hk0 : 0 ≤ (j : Int) := by omega
              have hjM : (j : Int) ≤ (M : Int) := by omega
              have a2 : IntKind.i64.wrap ((k : Int) - (S : Int)) = (j : Int) := by rw [show (k : Int) - (S : Int) = (j : Int) by omega]; exact IntWalk.i64_in _ (by omega)
              have hcut := str_take f.more j
              have hjn : (j : Int).toNat = j := by omega
              have hwj : IntKind.i64.wrap (j : Int) = (j : Int) := IntWalk.i64_in _ (by omega)
              have hjM2 : ¬ (M : Int) < (j : Int) := by omega
              have hjM3 : j ≤ M := by omega
              have HST := Lib.hid (fun W (hW : RAt W G b E) => set_any ⟨s, f.safe, f.more.take j⟩ b G E W hW (by unfold setF; rw [set_len, HGF.out]; simp only [Bool.false_eq_true, if_false]; omega) ⟨by rw [← HFN.out]; exact hfe.1, by show f.safe.length + (f.more.take j).length ≤ 65536; rw [List.length_take, hS]; omega⟩)
              dsimp only at HST
              have HJJ := Lib.hid hj
              clear hj
              go_upto_region 10 with fail
              have hS0 : (w3.drew.cell? ⟨g0, 1, none⟩ = some (Value.string (str f.safe)) ∧ w3.drew.cell? ⟨g0, 2, none⟩ = some (Value.string (str f.more))) := ⟨m1', m2'⟩
              have HR3D := Lib.hid (show RAt w3.drew G b E from HR3.out.below (Below.refl _ _).drew)
              go_region_held_law (fun W => (W.cell? ⟨g0, 1, none⟩ = some (Value.string (str f.safe)) ∧ W.cell? ⟨g0, 2, none⟩ = some (Value.string (str f.more)))) (first | exact hS0 | assumption) (first | (go_at_call 65; ((with_reducible refine (HST.out _ HR3D.out).mono ?_)); rintro _ w4 ⟨G', rfl, hr4, hc4⟩; have HR4 := Lib.hid hr4; have HC4 := Lib.hid hc4; have hS4 : (w4.cell? ⟨g0, 1, none⟩ = some (Value.string (str f.safe)) ∧ w4.cell? ⟨g0, 2, none⟩ = some (Value.string (str f.more))) := ⟨cell_same (hc4.turn.block g0 (World.block_lt_of_cell? w3 _ m1') hG0) m1', cell_same (hc4.turn.block g0 (World.block_lt_of_cell? w3 _ m1') hG0) m2'⟩; clear hr4 hc4))
              go_wp2_with fail
              go_ret
              rw [goD_on HEZ.out]
              refine ⟨G', rfl, ?_, HC3.out.trans ((Chg.of_below (F := G) (Below.refl w3.heap.size w3).drew).trans HC4.out)⟩
              have hkj : k - S = j := by have := HJJ.out; omega
              have hr := HR4.out
              rw [← hkj] at hr
              exact hr
end Go.Proofs.Ythdchidlfeighaa.C12
