/-
  Layer 12, the document's answers: Append.
-/
import Derived.Test.YthdchidlfeighaaHP12Rw
namespace Go.Proofs.Ythdchidlfeighaa.C12
open Go Go.RowKit Go.Proofs Go.Proofs.Ythdchidlfeighaa.B Go.Proofs.Ythdchidlfeighaa.K Go.Proofs.Ythdchidlfeighaa.P8
set_option linter.unusedVariables false
set_option maxRecDepth 100000


set_option maxHeartbeats 16000000 in
theorem append_any (s t : List UInt8) (b : Nat) (G : Nat → Prop) (D : Dst) (w : World) (h : RAt w G b D) (hs : s.length ≤ 140737488355328) (ht : t.length ≤ 140737488355328) :
    Calls Try.prog 45 #[.pointer (some ⟨b, 0, none⟩), .string (str s), .string (str t)] w (Wrote G b (appendD D s t) w) := by
  obtain ⟨v, hrow, hfl, -⟩ := h.cell
  have c3 := (row_at hrow 3 _ rfl).1
  have N1 := Lib.hid (fun W => name_any s W hs)
  unfold appendD
  cases hd : D.down with
  | true =>
    rw [hd] at c3
    simp only [if_true]
    have H := Lib.hid h
    clear h hrow hfl
    go_enter Try.func45, Try.ntmps45
    go_wp2_with fail
    go_ret
    exact ⟨G, rfl, H.out, Chg.of_below (Below.refl _ _)⟩
  | false =>
    rw [hd] at c3
    simp only [Bool.false_eq_true, if_false]
    cases h1 : nameOk s with
    | false =>
      rw [h1] at N1
      simp only [if_true]
      have H := Lib.hid h
      clear h hrow hfl h1
      go_enter Try.func45, Try.ntmps45
      go_wp2_with (go_at_call 64; refine (N1.out _).mono ?_; rintro _ w1 ⟨rfl, rfl⟩)
      go_ret
      exact ⟨G, rfl, H.out, Chg.of_below (Below.refl _ _)⟩
    | true =>
      have hsn : s.length ≤ 24 := by
        have := h1
        unfold nameOk at this
        simp only [Bool.and_eq_true, decide_eq_true_eq] at this
        exact this.2.2
      rw [h1] at N1
      simp only [Bool.true_eq_false, if_false]
      clear h1
      obtain ⟨a, cap, rfl, hc⟩ := hfl.open
      obtain ⟨N, hN⟩ : ∃ N, D.files.length = N := ⟨_, rfl⟩
      rw [hN] at hrow
      have hcount : N ≤ 128 := by rw [← hN]; exact h.ok.count
      have hroom := h.ok.room
      have hused := h.ok.used
      have c0 := (row_at hrow 0 _ rfl).1
      have c1 := (row_at hrow 1 _ rfl).1
      have HN := Lib.hid hN
      have H := Lib.hid h
      have HAT := Lib.hid (fun W (hW : RAt W G b D) => at_any s b G D W hW)
      have HUS := Lib.hid (fun W (hW : RAt W G b D) => used_any b G D W hW)
      have HLT := Lib.hid (fun i (hi : G i) => h.lt i hi)
      obtain ⟨R, hR⟩ : ∃ R, D.room = R := ⟨_, rfl⟩
      obtain ⟨U, hU⟩ : ∃ U, usedF D.files = U := ⟨_, rfl⟩
      obtain ⟨Tl, hT⟩ : ∃ U, t.length = U := ⟨_, rfl⟩
      rw [hR] at c0 hroom
      rw [hU] at hused
      have HR := Lib.hid hR
      have HU := Lib.hid hU
      have HT := Lib.hid hT
      have zt : (str t).size = Tl := by rw [str_size]; exact hT
      have wu : IntKind.i64.wrap (R - (U : Int)) = R - (U : Int) := IntWalk.i64_in _ (by omega)
      rw [hR, hU, hT, hN]
      have HC := Lib.hid hc
      rcases place_find D.files s with ⟨hp, hf⟩ | ⟨j, f, hp, hj, hf, hn⟩
      · rw [hp] at HAT
        rw [hf]
        simp only [Option.getD_none]
        have hm1 : ¬ (0 : Int) ≤ -1 := by decide
        have hm2 : (-1 : Int) < 0 := by decide
        clear hp hf
        have lz : (([] : List UInt8).length : Int) = 0 := rfl
        have l0 : (str []).toList = [] := str_toList []
        have a0 : IntKind.i64.wrap (65536 : Int) = 65536 := IntWalk.i64_in _ (by decide)
        have wz : IntKind.i64.wrap ((65536 : Int) - 0) = 65536 := IntWalk.i64_in _ (by decide)
        simp only [List.length_nil, Int.natCast_zero, Int.sub_zero] at *
        by_cases q1N : 128 ≤ N
        · have q1I : (128 : Int) ≤ (N : Int) := by omega
          have q1D : decide ((128 : Int) ≤ (N : Int)) = true := decide_eq_true q1I
          rw [if_pos (Or.inl ⟨trivial, q1N⟩)]
          obtain ⟨W2, hW2⟩ : ∃ W2, w.alloc (.cells #[.string (str s), .string ⟨#[]⟩, .string ⟨#[]⟩] 41) = W2 := ⟨_, rfl⟩
          obtain ⟨g0, hg0⟩ : ∃ g, w.heap.size = g := ⟨_, rfl⟩
          have hB2 : Below w.heap.size w W2 := by rw [← hW2]; exact below_alloc _ _
          have hrow2 : W2.heap[g0]? = some (.cells #[.string (str s), .string ⟨#[]⟩, .string ⟨#[]⟩] 41 (0, 0)) := by rw [← hW2, ← hg0]; exact heap_alloc_at _ _
          have hG0 : ¬ G g0 := fun e => by
            have := HLT.out g0 e
            omega
          have hgz : w.heap.size ≤ g0 := Nat.le_of_eq hg0
          have hR2 := H.out.below hB2
          have hrowX : W2.heap[g0]? = some (.cells #[.string (str s), .string ⟨#[]⟩, .string ⟨#[]⟩] 41 (0, 0)) := hrow2
          have HBX := Lib.hid hB2
          have q1 := kept_cell HBX.out c1
          have q0 := kept_cell HBX.out c0
          have x1 := (row_at hrowX 1 _ rfl).1
          have x2 := (row_at hrowX 2 _ rfl).1
          have HROWX := Lib.hid hrowX
          have HRX := Lib.hid (H.out.below HBX.out)
          have d1 := kept_cell hB2 c1
          have HAT2 := Lib.hid (HAT.out W2 hR2)
          have hS0 : (W2.drew.cell? ⟨b, 0, none⟩ = some (.int .i64 R) ∧ W2.drew.cell? ⟨b, 1, none⟩ = some (.slice a N cap) ∧ W2.drew.cell? ⟨g0, 1, none⟩ = some (Value.string ⟨#[]⟩) ∧ W2.drew.cell? ⟨g0, 2, none⟩ = some (Value.string ⟨#[]⟩) ∧ Below W2.heap.size W2 W2.drew) := ⟨q0, q1, x1, x2, (Below.refl _ _).drew⟩
          have QG1 := wdq_call (S := fun W => (W.cell? ⟨b, 0, none⟩ = some (.int .i64 R) ∧ W.cell? ⟨b, 1, none⟩ = some (.slice a N cap) ∧ W.cell? ⟨g0, 1, none⟩ = some (Value.string ⟨#[]⟩) ∧ W.cell? ⟨g0, 2, none⟩ = some (Value.string ⟨#[]⟩) ∧ Below W2.heap.size W2 W)) (f := 31) (args := #[.pointer (some ⟨b, 0, none⟩)]) (v := .int .i64 (U : Int)) (fun W hS => (HUS.out W (HRX.out.below hS.2.2.2.2)).mono fun e w2 hh => ⟨by rw [hh.1, HU.out], (⟨kept_cell hh.2 hS.1, kept_cell hh.2 hS.2.1, kept_cell hh.2 hS.2.2.1, kept_cell hh.2 hS.2.2.2.1, hS.2.2.2.2.trans (hh.2.mono hS.2.2.2.2.size)⟩ : (w2.cell? ⟨b, 0, none⟩ = some (.int .i64 R) ∧ w2.cell? ⟨b, 1, none⟩ = some (.slice a N cap) ∧ w2.cell? ⟨g0, 1, none⟩ = some (Value.string ⟨#[]⟩) ∧ w2.cell? ⟨g0, 2, none⟩ = some (Value.string ⟨#[]⟩) ∧ Below W2.heap.size W2 w2))⟩)
          have j0 := fun z : WdQ (fun W => (W.cell? ⟨b, 0, none⟩ = some (.int .i64 R) ∧ W.cell? ⟨b, 1, none⟩ = some (.slice a N cap) ∧ W.cell? ⟨g0, 1, none⟩ = some (Value.string ⟨#[]⟩) ∧ W.cell? ⟨g0, 2, none⟩ = some (Value.string ⟨#[]⟩) ∧ Below W2.heap.size W2 W)) => z.ok.1
          have j1 := fun z : WdQ (fun W => (W.cell? ⟨b, 0, none⟩ = some (.int .i64 R) ∧ W.cell? ⟨b, 1, none⟩ = some (.slice a N cap) ∧ W.cell? ⟨g0, 1, none⟩ = some (Value.string ⟨#[]⟩) ∧ W.cell? ⟨g0, 2, none⟩ = some (Value.string ⟨#[]⟩) ∧ Below W2.heap.size W2 W)) => z.ok.2.1
          have j2 := fun z : WdQ (fun W => (W.cell? ⟨b, 0, none⟩ = some (.int .i64 R) ∧ W.cell? ⟨b, 1, none⟩ = some (.slice a N cap) ∧ W.cell? ⟨g0, 1, none⟩ = some (Value.string ⟨#[]⟩) ∧ W.cell? ⟨g0, 2, none⟩ = some (Value.string ⟨#[]⟩) ∧ Below W2.heap.size W2 W)) => z.ok.2.2.1
          have j3 := fun z : WdQ (fun W => (W.cell? ⟨b, 0, none⟩ = some (.int .i64 R) ∧ W.cell? ⟨b, 1, none⟩ = some (.slice a N cap) ∧ W.cell? ⟨g0, 1, none⟩ = some (Value.string ⟨#[]⟩) ∧ W.cell? ⟨g0, 2, none⟩ = some (Value.string ⟨#[]⟩) ∧ Below W2.heap.size W2 W)) => z.ok.2.2.2.1
          haveI hne : Nonempty (WdQ (fun W => (W.cell? ⟨b, 0, none⟩ = some (.int .i64 R) ∧ W.cell? ⟨b, 1, none⟩ = some (.slice a N cap) ∧ W.cell? ⟨g0, 1, none⟩ = some (Value.string ⟨#[]⟩) ∧ W.cell? ⟨g0, 2, none⟩ = some (Value.string ⟨#[]⟩) ∧ Below W2.heap.size W2 W))) := ⟨⟨_, hS0⟩⟩
          try dsimp only at j0 j1 j2 j3
          have HW2 := Lib.hid hW2
          have HG0 := Lib.hid hg0
          clear hrow hrow2 hrowX hR2 hB2 hW2 hg0 
          go_enter Try.func45, Try.ntmps45
          go_wp2_with fail
          refine (N1.out _).mono ?_
          rintro _ w0 ⟨rfl, rfl⟩
          go_wp2_with fail
          rw [HW2.out]
          try simp only [HG0.out]
          refine HAT2.out.mono ?_
          rintro _ w0 ⟨rfl, rfl⟩
          go_upto_region 9 with fail
          refine region_quiet_q (S := fun W => (W.cell? ⟨b, 0, none⟩ = some (.int .i64 R) ∧ W.cell? ⟨b, 1, none⟩ = some (.slice a N cap) ∧ W.cell? ⟨g0, 1, none⟩ = some (Value.string ⟨#[]⟩) ∧ W.cell? ⟨g0, 2, none⟩ = some (Value.string ⟨#[]⟩) ∧ Below W2.heap.size W2 W)) (by kernel_rfl) (by kernel_rfl) hS0 ?_
          repeat (go_big_quiet_step (first | (with_reducible exact QG1 _)))
          refine wpQuiet_nil ?_
          intro _ hw'
          obtain ⟨z, rfl⟩ := hw'
          obtain ⟨Y, hSq⟩ := z
          try dsimp only
          have HBY := Lib.hid (HBX.out.trans (hSq.2.2.2.2.mono HBX.out.size))
          have hrowY := (hSq.2.2.2.2.block g0 (Array.getElem?_eq_some_iff.1 HROWX.out).1).trans HROWX.out
          clear hne j0 j1 j2 j3 hS0 QG1 hSq
          go_wp2_with fail
          go_ret
          exact ⟨G, rfl, H.out.below HBY.out, Chg.of_below HBY.out⟩
        · have q1I : ¬ (128 : Int) ≤ (N : Int) := by omega
          have q1D : decide ((128 : Int) ≤ (N : Int)) = false := decide_eq_false q1I
          by_cases q2 : (65536 : Int) < (Tl : Int)
          · have q2D : decide ((65536 : Int) < (Tl : Int)) = true := decide_eq_true q2
            rw [if_pos (Or.inr (Or.inl q2))]
            obtain ⟨W2, hW2⟩ : ∃ W2, w.alloc (.cells #[.string (str s), .string ⟨#[]⟩, .string ⟨#[]⟩] 41) = W2 := ⟨_, rfl⟩
            obtain ⟨g0, hg0⟩ : ∃ g, w.heap.size = g := ⟨_, rfl⟩
            have hB2 : Below w.heap.size w W2 := by rw [← hW2]; exact below_alloc _ _
            have hrow2 : W2.heap[g0]? = some (.cells #[.string (str s), .string ⟨#[]⟩, .string ⟨#[]⟩] 41 (0, 0)) := by rw [← hW2, ← hg0]; exact heap_alloc_at _ _
            have hG0 : ¬ G g0 := fun e => by
              have := HLT.out g0 e
              omega
            have hgz : w.heap.size ≤ g0 := Nat.le_of_eq hg0
            have hR2 := H.out.below hB2
            have hrowX : W2.heap[g0]? = some (.cells #[.string (str s), .string ⟨#[]⟩, .string ⟨#[]⟩] 41 (0, 0)) := hrow2
            have HBX := Lib.hid hB2
            have q1 := kept_cell HBX.out c1
            have q0 := kept_cell HBX.out c0
            have x1 := (row_at hrowX 1 _ rfl).1
            have x2 := (row_at hrowX 2 _ rfl).1
            have HROWX := Lib.hid hrowX
            have HRX := Lib.hid (H.out.below HBX.out)
            have d1 := kept_cell hB2 c1
            have HAT2 := Lib.hid (HAT.out W2 hR2)
            have hS0 : (W2.drew.cell? ⟨b, 0, none⟩ = some (.int .i64 R) ∧ W2.drew.cell? ⟨b, 1, none⟩ = some (.slice a N cap) ∧ W2.drew.cell? ⟨g0, 1, none⟩ = some (Value.string ⟨#[]⟩) ∧ W2.drew.cell? ⟨g0, 2, none⟩ = some (Value.string ⟨#[]⟩) ∧ Below W2.heap.size W2 W2.drew) := ⟨q0, q1, x1, x2, (Below.refl _ _).drew⟩
            have QG1 := wdq_call (S := fun W => (W.cell? ⟨b, 0, none⟩ = some (.int .i64 R) ∧ W.cell? ⟨b, 1, none⟩ = some (.slice a N cap) ∧ W.cell? ⟨g0, 1, none⟩ = some (Value.string ⟨#[]⟩) ∧ W.cell? ⟨g0, 2, none⟩ = some (Value.string ⟨#[]⟩) ∧ Below W2.heap.size W2 W)) (f := 31) (args := #[.pointer (some ⟨b, 0, none⟩)]) (v := .int .i64 (U : Int)) (fun W hS => (HUS.out W (HRX.out.below hS.2.2.2.2)).mono fun e w2 hh => ⟨by rw [hh.1, HU.out], (⟨kept_cell hh.2 hS.1, kept_cell hh.2 hS.2.1, kept_cell hh.2 hS.2.2.1, kept_cell hh.2 hS.2.2.2.1, hS.2.2.2.2.trans (hh.2.mono hS.2.2.2.2.size)⟩ : (w2.cell? ⟨b, 0, none⟩ = some (.int .i64 R) ∧ w2.cell? ⟨b, 1, none⟩ = some (.slice a N cap) ∧ w2.cell? ⟨g0, 1, none⟩ = some (Value.string ⟨#[]⟩) ∧ w2.cell? ⟨g0, 2, none⟩ = some (Value.string ⟨#[]⟩) ∧ Below W2.heap.size W2 w2))⟩)
            have j0 := fun z : WdQ (fun W => (W.cell? ⟨b, 0, none⟩ = some (.int .i64 R) ∧ W.cell? ⟨b, 1, none⟩ = some (.slice a N cap) ∧ W.cell? ⟨g0, 1, none⟩ = some (Value.string ⟨#[]⟩) ∧ W.cell? ⟨g0, 2, none⟩ = some (Value.string ⟨#[]⟩) ∧ Below W2.heap.size W2 W)) => z.ok.1
            have j1 := fun z : WdQ (fun W => (W.cell? ⟨b, 0, none⟩ = some (.int .i64 R) ∧ W.cell? ⟨b, 1, none⟩ = some (.slice a N cap) ∧ W.cell? ⟨g0, 1, none⟩ = some (Value.string ⟨#[]⟩) ∧ W.cell? ⟨g0, 2, none⟩ = some (Value.string ⟨#[]⟩) ∧ Below W2.heap.size W2 W)) => z.ok.2.1
            have j2 := fun z : WdQ (fun W => (W.cell? ⟨b, 0, none⟩ = some (.int .i64 R) ∧ W.cell? ⟨b, 1, none⟩ = some (.slice a N cap) ∧ W.cell? ⟨g0, 1, none⟩ = some (Value.string ⟨#[]⟩) ∧ W.cell? ⟨g0, 2, none⟩ = some (Value.string ⟨#[]⟩) ∧ Below W2.heap.size W2 W)) => z.ok.2.2.1
            have j3 := fun z : WdQ (fun W => (W.cell? ⟨b, 0, none⟩ = some (.int .i64 R) ∧ W.cell? ⟨b, 1, none⟩ = some (.slice a N cap) ∧ W.cell? ⟨g0, 1, none⟩ = some (Value.string ⟨#[]⟩) ∧ W.cell? ⟨g0, 2, none⟩ = some (Value.string ⟨#[]⟩) ∧ Below W2.heap.size W2 W)) => z.ok.2.2.2.1
            haveI hne : Nonempty (WdQ (fun W => (W.cell? ⟨b, 0, none⟩ = some (.int .i64 R) ∧ W.cell? ⟨b, 1, none⟩ = some (.slice a N cap) ∧ W.cell? ⟨g0, 1, none⟩ = some (Value.string ⟨#[]⟩) ∧ W.cell? ⟨g0, 2, none⟩ = some (Value.string ⟨#[]⟩) ∧ Below W2.heap.size W2 W))) := ⟨⟨_, hS0⟩⟩
            try dsimp only at j0 j1 j2 j3
            have HW2 := Lib.hid hW2
            have HG0 := Lib.hid hg0
            clear hrow hrow2 hrowX hR2 hB2 hW2 hg0 
            go_enter Try.func45, Try.ntmps45
            go_wp2_with fail
            refine (N1.out _).mono ?_
            rintro _ w0 ⟨rfl, rfl⟩
            go_wp2_with fail
            rw [HW2.out]
            try simp only [HG0.out]
            refine HAT2.out.mono ?_
            rintro _ w0 ⟨rfl, rfl⟩
            go_upto_region 9 with fail
            refine region_quiet_q (S := fun W => (W.cell? ⟨b, 0, none⟩ = some (.int .i64 R) ∧ W.cell? ⟨b, 1, none⟩ = some (.slice a N cap) ∧ W.cell? ⟨g0, 1, none⟩ = some (Value.string ⟨#[]⟩) ∧ W.cell? ⟨g0, 2, none⟩ = some (Value.string ⟨#[]⟩) ∧ Below W2.heap.size W2 W)) (by kernel_rfl) (by kernel_rfl) hS0 ?_
            repeat (go_big_quiet_step (first | (with_reducible exact QG1 _)))
            refine wpQuiet_nil ?_
            intro _ hw'
            obtain ⟨z, rfl⟩ := hw'
            obtain ⟨Y, hSq⟩ := z
            try dsimp only
            have HBY := Lib.hid (HBX.out.trans (hSq.2.2.2.2.mono HBX.out.size))
            have hrowY := (hSq.2.2.2.2.block g0 (Array.getElem?_eq_some_iff.1 HROWX.out).1).trans HROWX.out
            clear hne j0 j1 j2 j3 hS0 QG1 hSq
            go_wp2_with fail
            go_ret
            exact ⟨G, rfl, H.out.below HBY.out, Chg.of_below HBY.out⟩
          · have q2D : decide ((65536 : Int) < (Tl : Int)) = false := decide_eq_false q2
            by_cases q3 : R - (U : Int) < (Tl : Int)
            · have q3D : decide (R - (U : Int) < (Tl : Int)) = true := decide_eq_true q3
              rw [if_pos (Or.inr (Or.inr q3))]
              obtain ⟨W2, hW2⟩ : ∃ W2, w.alloc (.cells #[.string (str s), .string ⟨#[]⟩, .string ⟨#[]⟩] 41) = W2 := ⟨_, rfl⟩
              obtain ⟨g0, hg0⟩ : ∃ g, w.heap.size = g := ⟨_, rfl⟩
              have hB2 : Below w.heap.size w W2 := by rw [← hW2]; exact below_alloc _ _
              have hrow2 : W2.heap[g0]? = some (.cells #[.string (str s), .string ⟨#[]⟩, .string ⟨#[]⟩] 41 (0, 0)) := by rw [← hW2, ← hg0]; exact heap_alloc_at _ _
              have hG0 : ¬ G g0 := fun e => by
                have := HLT.out g0 e
                omega
              have hgz : w.heap.size ≤ g0 := Nat.le_of_eq hg0
              have hR2 := H.out.below hB2
              have hrowX : W2.heap[g0]? = some (.cells #[.string (str s), .string ⟨#[]⟩, .string ⟨#[]⟩] 41 (0, 0)) := hrow2
              have HBX := Lib.hid hB2
              have q1 := kept_cell HBX.out c1
              have q0 := kept_cell HBX.out c0
              have x1 := (row_at hrowX 1 _ rfl).1
              have x2 := (row_at hrowX 2 _ rfl).1
              have HROWX := Lib.hid hrowX
              have HRX := Lib.hid (H.out.below HBX.out)
              have d1 := kept_cell hB2 c1
              have HAT2 := Lib.hid (HAT.out W2 hR2)
              have hS0 : (W2.drew.cell? ⟨b, 0, none⟩ = some (.int .i64 R) ∧ W2.drew.cell? ⟨b, 1, none⟩ = some (.slice a N cap) ∧ W2.drew.cell? ⟨g0, 1, none⟩ = some (Value.string ⟨#[]⟩) ∧ W2.drew.cell? ⟨g0, 2, none⟩ = some (Value.string ⟨#[]⟩) ∧ Below W2.heap.size W2 W2.drew) := ⟨q0, q1, x1, x2, (Below.refl _ _).drew⟩
              have QG1 := wdq_call (S := fun W => (W.cell? ⟨b, 0, none⟩ = some (.int .i64 R) ∧ W.cell? ⟨b, 1, none⟩ = some (.slice a N cap) ∧ W.cell? ⟨g0, 1, none⟩ = some (Value.string ⟨#[]⟩) ∧ W.cell? ⟨g0, 2, none⟩ = some (Value.string ⟨#[]⟩) ∧ Below W2.heap.size W2 W)) (f := 31) (args := #[.pointer (some ⟨b, 0, none⟩)]) (v := .int .i64 (U : Int)) (fun W hS => (HUS.out W (HRX.out.below hS.2.2.2.2)).mono fun e w2 hh => ⟨by rw [hh.1, HU.out], (⟨kept_cell hh.2 hS.1, kept_cell hh.2 hS.2.1, kept_cell hh.2 hS.2.2.1, kept_cell hh.2 hS.2.2.2.1, hS.2.2.2.2.trans (hh.2.mono hS.2.2.2.2.size)⟩ : (w2.cell? ⟨b, 0, none⟩ = some (.int .i64 R) ∧ w2.cell? ⟨b, 1, none⟩ = some (.slice a N cap) ∧ w2.cell? ⟨g0, 1, none⟩ = some (Value.string ⟨#[]⟩) ∧ w2.cell? ⟨g0, 2, none⟩ = some (Value.string ⟨#[]⟩) ∧ Below W2.heap.size W2 w2))⟩)
              have j0 := fun z : WdQ (fun W => (W.cell? ⟨b, 0, none⟩ = some (.int .i64 R) ∧ W.cell? ⟨b, 1, none⟩ = some (.slice a N cap) ∧ W.cell? ⟨g0, 1, none⟩ = some (Value.string ⟨#[]⟩) ∧ W.cell? ⟨g0, 2, none⟩ = some (Value.string ⟨#[]⟩) ∧ Below W2.heap.size W2 W)) => z.ok.1
              have j1 := fun z : WdQ (fun W => (W.cell? ⟨b, 0, none⟩ = some (.int .i64 R) ∧ W.cell? ⟨b, 1, none⟩ = some (.slice a N cap) ∧ W.cell? ⟨g0, 1, none⟩ = some (Value.string ⟨#[]⟩) ∧ W.cell? ⟨g0, 2, none⟩ = some (Value.string ⟨#[]⟩) ∧ Below W2.heap.size W2 W)) => z.ok.2.1
              have j2 := fun z : WdQ (fun W => (W.cell? ⟨b, 0, none⟩ = some (.int .i64 R) ∧ W.cell? ⟨b, 1, none⟩ = some (.slice a N cap) ∧ W.cell? ⟨g0, 1, none⟩ = some (Value.string ⟨#[]⟩) ∧ W.cell? ⟨g0, 2, none⟩ = some (Value.string ⟨#[]⟩) ∧ Below W2.heap.size W2 W)) => z.ok.2.2.1
              have j3 := fun z : WdQ (fun W => (W.cell? ⟨b, 0, none⟩ = some (.int .i64 R) ∧ W.cell? ⟨b, 1, none⟩ = some (.slice a N cap) ∧ W.cell? ⟨g0, 1, none⟩ = some (Value.string ⟨#[]⟩) ∧ W.cell? ⟨g0, 2, none⟩ = some (Value.string ⟨#[]⟩) ∧ Below W2.heap.size W2 W)) => z.ok.2.2.2.1
              haveI hne : Nonempty (WdQ (fun W => (W.cell? ⟨b, 0, none⟩ = some (.int .i64 R) ∧ W.cell? ⟨b, 1, none⟩ = some (.slice a N cap) ∧ W.cell? ⟨g0, 1, none⟩ = some (Value.string ⟨#[]⟩) ∧ W.cell? ⟨g0, 2, none⟩ = some (Value.string ⟨#[]⟩) ∧ Below W2.heap.size W2 W))) := ⟨⟨_, hS0⟩⟩
              try dsimp only at j0 j1 j2 j3
              have HW2 := Lib.hid hW2
              have HG0 := Lib.hid hg0
              clear hrow hrow2 hrowX hR2 hB2 hW2 hg0 
              go_enter Try.func45, Try.ntmps45
              go_wp2_with fail
              refine (N1.out _).mono ?_
              rintro _ w0 ⟨rfl, rfl⟩
              go_wp2_with fail
              rw [HW2.out]
              try simp only [HG0.out]
              refine HAT2.out.mono ?_
              rintro _ w0 ⟨rfl, rfl⟩
              go_upto_region 9 with fail
              refine region_quiet_q (S := fun W => (W.cell? ⟨b, 0, none⟩ = some (.int .i64 R) ∧ W.cell? ⟨b, 1, none⟩ = some (.slice a N cap) ∧ W.cell? ⟨g0, 1, none⟩ = some (Value.string ⟨#[]⟩) ∧ W.cell? ⟨g0, 2, none⟩ = some (Value.string ⟨#[]⟩) ∧ Below W2.heap.size W2 W)) (by kernel_rfl) (by kernel_rfl) hS0 ?_
              repeat (go_big_quiet_step (first | (with_reducible exact QG1 _)))
              refine wpQuiet_nil ?_
              intro _ hw'
              obtain ⟨z, rfl⟩ := hw'
              obtain ⟨Y, hSq⟩ := z
              try dsimp only
              have HBY := Lib.hid (HBX.out.trans (hSq.2.2.2.2.mono HBX.out.size))
              have hrowY := (hSq.2.2.2.2.block g0 (Array.getElem?_eq_some_iff.1 HROWX.out).1).trans HROWX.out
              clear hne j0 j1 j2 j3 hS0 QG1 hSq
              go_wp2_with fail
              go_ret
              exact ⟨G, rfl, H.out.below HBY.out, Chg.of_below HBY.out⟩
            · have q3D : decide (R - (U : Int) < (Tl : Int)) = false := decide_eq_false q3
              rw [if_neg (by rintro (⟨-, h⟩ | h | h) <;> omega)]
              try simp only [List.nil_append]
              obtain ⟨r, hrr⟩ : ∃ r, ((goesD (putF D ⟨s, [], t⟩)).1, (if (goesD (putF D ⟨s, [], t⟩)).2 then (11 : Int) else 0)) = r := ⟨_, rfl⟩
              show Calls _ _ _ w (Wrote G b ((goesD (putF D ⟨s, [], t⟩)).1, (if (goesD (putF D ⟨s, [], t⟩)).2 then (11 : Int) else 0)) w)
              rw [hrr]
              have HRR := Lib.hid hrr
              clear hrr
              obtain ⟨W2, hW2⟩ : ∃ W2, w.alloc (.cells #[.string (str s), .string ⟨#[]⟩, .string ⟨#[]⟩] 41) = W2 := ⟨_, rfl⟩
              obtain ⟨g0, hg0⟩ : ∃ g, w.heap.size = g := ⟨_, rfl⟩
              have hB2 : Below w.heap.size w W2 := by rw [← hW2]; exact below_alloc _ _
              have hrow2 : W2.heap[g0]? = some (.cells #[.string (str s), .string ⟨#[]⟩, .string ⟨#[]⟩] 41 (0, 0)) := by rw [← hW2, ← hg0]; exact heap_alloc_at _ _
              have hG0 : ¬ G g0 := fun e => by
                have := HLT.out g0 e
                omega
              have hgz : w.heap.size ≤ g0 := Nat.le_of_eq hg0
              have hR2 := H.out.below hB2
              have hrowX : W2.heap[g0]? = some (.cells #[.string (str s), .string ⟨#[]⟩, .string ⟨#[]⟩] 41 (0, 0)) := hrow2
              have HBX := Lib.hid hB2
              have q1 := kept_cell HBX.out c1
              have q0 := kept_cell HBX.out c0
              have x1 := (row_at hrowX 1 _ rfl).1
              have x2 := (row_at hrowX 2 _ rfl).1
              have HROWX := Lib.hid hrowX
              have HRX := Lib.hid (H.out.below HBX.out)
              have d1 := kept_cell hB2 c1
              have HAT2 := Lib.hid (HAT.out W2 hR2)
              have hS0 : (W2.drew.cell? ⟨b, 0, none⟩ = some (.int .i64 R) ∧ W2.drew.cell? ⟨b, 1, none⟩ = some (.slice a N cap) ∧ W2.drew.cell? ⟨g0, 1, none⟩ = some (Value.string ⟨#[]⟩) ∧ W2.drew.cell? ⟨g0, 2, none⟩ = some (Value.string ⟨#[]⟩) ∧ Below W2.heap.size W2 W2.drew) := ⟨q0, q1, x1, x2, (Below.refl _ _).drew⟩
              have QG1 := wdq_call (S := fun W => (W.cell? ⟨b, 0, none⟩ = some (.int .i64 R) ∧ W.cell? ⟨b, 1, none⟩ = some (.slice a N cap) ∧ W.cell? ⟨g0, 1, none⟩ = some (Value.string ⟨#[]⟩) ∧ W.cell? ⟨g0, 2, none⟩ = some (Value.string ⟨#[]⟩) ∧ Below W2.heap.size W2 W)) (f := 31) (args := #[.pointer (some ⟨b, 0, none⟩)]) (v := .int .i64 (U : Int)) (fun W hS => (HUS.out W (HRX.out.below hS.2.2.2.2)).mono fun e w2 hh => ⟨by rw [hh.1, HU.out], (⟨kept_cell hh.2 hS.1, kept_cell hh.2 hS.2.1, kept_cell hh.2 hS.2.2.1, kept_cell hh.2 hS.2.2.2.1, hS.2.2.2.2.trans (hh.2.mono hS.2.2.2.2.size)⟩ : (w2.cell? ⟨b, 0, none⟩ = some (.int .i64 R) ∧ w2.cell? ⟨b, 1, none⟩ = some (.slice a N cap) ∧ w2.cell? ⟨g0, 1, none⟩ = some (Value.string ⟨#[]⟩) ∧ w2.cell? ⟨g0, 2, none⟩ = some (Value.string ⟨#[]⟩) ∧ Below W2.heap.size W2 w2))⟩)
              have j0 := fun z : WdQ (fun W => (W.cell? ⟨b, 0, none⟩ = some (.int .i64 R) ∧ W.cell? ⟨b, 1, none⟩ = some (.slice a N cap) ∧ W.cell? ⟨g0, 1, none⟩ = some (Value.string ⟨#[]⟩) ∧ W.cell? ⟨g0, 2, none⟩ = some (Value.string ⟨#[]⟩) ∧ Below W2.heap.size W2 W)) => z.ok.1
              have j1 := fun z : WdQ (fun W => (W.cell? ⟨b, 0, none⟩ = some (.int .i64 R) ∧ W.cell? ⟨b, 1, none⟩ = some (.slice a N cap) ∧ W.cell? ⟨g0, 1, none⟩ = some (Value.string ⟨#[]⟩) ∧ W.cell? ⟨g0, 2, none⟩ = some (Value.string ⟨#[]⟩) ∧ Below W2.heap.size W2 W)) => z.ok.2.1
              have j2 := fun z : WdQ (fun W => (W.cell? ⟨b, 0, none⟩ = some (.int .i64 R) ∧ W.cell? ⟨b, 1, none⟩ = some (.slice a N cap) ∧ W.cell? ⟨g0, 1, none⟩ = some (Value.string ⟨#[]⟩) ∧ W.cell? ⟨g0, 2, none⟩ = some (Value.string ⟨#[]⟩) ∧ Below W2.heap.size W2 W)) => z.ok.2.2.1
              have j3 := fun z : WdQ (fun W => (W.cell? ⟨b, 0, none⟩ = some (.int .i64 R) ∧ W.cell? ⟨b, 1, none⟩ = some (.slice a N cap) ∧ W.cell? ⟨g0, 1, none⟩ = some (Value.string ⟨#[]⟩) ∧ W.cell? ⟨g0, 2, none⟩ = some (Value.string ⟨#[]⟩) ∧ Below W2.heap.size W2 W)) => z.ok.2.2.2.1
              haveI hne : Nonempty (WdQ (fun W => (W.cell? ⟨b, 0, none⟩ = some (.int .i64 R) ∧ W.cell? ⟨b, 1, none⟩ = some (.slice a N cap) ∧ W.cell? ⟨g0, 1, none⟩ = some (Value.string ⟨#[]⟩) ∧ W.cell? ⟨g0, 2, none⟩ = some (Value.string ⟨#[]⟩) ∧ Below W2.heap.size W2 W))) := ⟨⟨_, hS0⟩⟩
              try dsimp only at j0 j1 j2 j3
              have HW2 := Lib.hid hW2
              have HG0 := Lib.hid hg0
              clear hrow hrow2 hrowX hR2 hB2 hW2 hg0 
              go_enter Try.func45, Try.ntmps45
              go_wp2_with fail
              refine (N1.out _).mono ?_
              rintro _ w0 ⟨rfl, rfl⟩
              go_wp2_with fail
              rw [HW2.out]
              try simp only [HG0.out]
              refine HAT2.out.mono ?_
              rintro _ w0 ⟨rfl, rfl⟩
              go_upto_region 9 with fail
              refine region_quiet_q (S := fun W => (W.cell? ⟨b, 0, none⟩ = some (.int .i64 R) ∧ W.cell? ⟨b, 1, none⟩ = some (.slice a N cap) ∧ W.cell? ⟨g0, 1, none⟩ = some (Value.string ⟨#[]⟩) ∧ W.cell? ⟨g0, 2, none⟩ = some (Value.string ⟨#[]⟩) ∧ Below W2.heap.size W2 W)) (by kernel_rfl) (by kernel_rfl) hS0 ?_
              repeat (go_big_quiet_step (first | (with_reducible exact QG1 _)))
              refine wpQuiet_nil ?_
              intro _ hw'
              obtain ⟨z, rfl⟩ := hw'
              obtain ⟨Y, hSq⟩ := z
              try dsimp only
              have HBY := Lib.hid (HBX.out.trans (hSq.2.2.2.2.mono HBX.out.size))
              have hrowY := (hSq.2.2.2.2.block g0 (Array.getElem?_eq_some_iff.1 HROWX.out).1).trans HROWX.out
              clear hne j0 j1 j2 j3 hS0 QG1 hSq
              have v2 := (row_at hrowY 2 _ rfl).1
              have vf2 := (row_at hrowY 2 _ rfl).2
              have e1 : ∀ W, (Op.stringOp .add ⟨#[]⟩ (str t)).run Try.prog W = .ok (.string (str t)) W := add_str12 [] t (by simp only [List.length_nil]; have := HT.out; omega)
              obtain ⟨Z, hZ⟩ : ∃ Z, Y.setCell ⟨g0, 2, none⟩ (.string (str (t))) = Z := ⟨_, rfl⟩
              have hrowZ : Z.heap[g0]? = some (.cells #[.string (str s), .string ⟨#[]⟩, .string (str (t))] 41 (0, 0)) := by rw [← hZ]; exact heap_setCell_same Y g0 2 _ 41 _ hrowY
              have HBZ := Lib.hid (show Below w.heap.size w Z by rw [← hZ]; exact HBY.out.setCell (p := ⟨g0, 2, none⟩) hgz _)
              have u0 := (row_at hrowZ 0 _ rfl).1
              have u1 := (row_at hrowZ 1 _ rfl).1
              have u2 := (row_at hrowZ 2 _ rfl).1
              have HST := Lib.hid (set_any ⟨s, [], t⟩ b G D Z (H.out.below HBZ.out) (by unfold setF; rw [set_len]; simp only [Bool.false_eq_true, if_false]; have := drop_sub (l := D.files) (s := s); rw [HN.out] at this; omega) ⟨by exact hsn, by show ([] : List UInt8).length + (t).length ≤ 65536; have := HT.out; simp only [List.length_nil]; omega⟩)
              dsimp only at HST
              clear hrowY hrowZ
              go_wp2_with fail
              refine HST.out.mono ?_
              rintro _ w3 ⟨G1, rfl, hr3, hc3⟩
              have HC3 := Lib.hid hc3
              clear v2 vf2 u0 u1 u2 hZ
              go_wp2_with fail
              refine (goes_any b G1 _ w3 hr3).mono ?_
              rintro _ w4 ⟨rfl, hr4, hc4⟩
              have HR4 := Lib.hid hr4
              have HC4 := Lib.hid hc4
              clear hr4 hc4 hr3 hc3
              obtain ⟨⟨E, z⟩, hEz⟩ : ∃ p, goesD (putF D ⟨s, [], t⟩) = p := ⟨_, rfl⟩
              have hrr := HRR.out
              rw [hEz] at HR4 hrr ⊢
              dsimp only at HR4 hrr ⊢
              clear hEz
              cases z with
              | true =>
                have HRX2 := Lib.hid hrr
                clear hrr
                go_wp2_with fail
                go_ret
                rw [← HRX2.out]
                exact ⟨G1, rfl, HR4.out, ((Chg.of_below (F := G) HBZ.out).trans HC3.out).trans HC4.out⟩
              | false =>
                have HRX2 := Lib.hid hrr
                clear hrr
                go_wp2_with fail
                go_ret
                rw [← HRX2.out]
                exact ⟨G1, rfl, HR4.out, ((Chg.of_below (F := G) HBZ.out).trans HC3.out).trans HC4.out⟩
      · rw [hp] at HAT
        rw [hf]
        simp only [Option.getD_some]
        obtain ⟨b', off, rfl, k0, k1, k2⟩ := HC.out j f hj
        have hjN : j < N := by rw [← HN.out]; exact (List.getElem?_eq_some_iff.1 hj).1
        have hjI : (j : Int) < (N : Int) := by omega
        have hj0 : 0 ≤ (j : Int) := by omega
        have hj1 : ¬ (j : Int) < 0 := by omega
        have hj2 : decide ((j : Int) < 0) = false := decide_eq_false hj1
        have hfe := (H.out.ok.each f (find_facts hf).1)
        have HFN := Lib.hid hn
        have hdl := drop_lt (find_facts hf).1 (rfl : f.name = f.name)
        rw [HN.out] at hdl
        clear hp hf hj hn
        obtain ⟨fs, hfs⟩ : ∃ x, f.safe = x := ⟨_, rfl⟩
        obtain ⟨fm, hfm⟩ : ∃ x, f.more = x := ⟨_, rfl⟩
        obtain ⟨fn, hfn⟩ : ∃ x, f.name = x := ⟨_, rfl⟩
        obtain ⟨f1, f2, f3⟩ := f
        dsimp only at hfs hfm hfn hfe k0 k1 k2 HFN hdl ⊢
        subst hfs hfm hfn
        have HDL := Lib.hid hdl
        obtain ⟨S, hS⟩ : ∃ S, f2.length = S := ⟨_, rfl⟩
        obtain ⟨M, hM⟩ : ∃ S, f3.length = S := ⟨_, rfl⟩
        have z1 : (str f2).size = S := by rw [str_size]; exact hS
        have z2 : (str f3).size = M := by rw [str_size]; exact hM
        rw [hS, hM] at hfe ⊢
        have a1 : IntKind.i64.wrap ((65536 : Int) - (S : Int)) = (65536 : Int) - (S : Int) := IntWalk.i64_in _ (by omega)
        have a2 : IntKind.i64.wrap ((65536 : Int) - (S : Int) - (M : Int)) = (65536 : Int) - (S : Int) - (M : Int) := IntWalk.i64_in _ (by omega)
        by_cases q2 : (65536 : Int) - (S : Int) - (M : Int) < (Tl : Int)
        · have q2D : decide ((65536 : Int) - (S : Int) - (M : Int) < (Tl : Int)) = true := decide_eq_true q2
          rw [if_pos (Or.inr (Or.inl q2))]
          obtain ⟨W2, hW2⟩ : ∃ W2, w.alloc (.cells #[.string (str s), .string ⟨#[]⟩, .string ⟨#[]⟩] 41) = W2 := ⟨_, rfl⟩
          obtain ⟨g0, hg0⟩ : ∃ g, w.heap.size = g := ⟨_, rfl⟩
          have hB2 : Below w.heap.size w W2 := by rw [← hW2]; exact below_alloc _ _
          have hrow2 : W2.heap[g0]? = some (.cells #[.string (str s), .string ⟨#[]⟩, .string ⟨#[]⟩] 41 (0, 0)) := by rw [← hW2, ← hg0]; exact heap_alloc_at _ _
          have hG0 : ¬ G g0 := fun e => by
            have := HLT.out g0 e
            omega
          have hgz : w.heap.size ≤ g0 := Nat.le_of_eq hg0
          have hR2 := H.out.below hB2
          have hr3 := set3 hrow2 (.string (str f1)) (.string (str f2)) (.string (str f3))
          have hB3 := below_set3 hB2 hgz (.string (str f1)) (.string (str f2)) (.string (str f3))
          have y0 := (row_at hrow2 0 _ rfl).1
          have yf0 := (row_at hrow2 0 _ rfl).2
          have y1 := (row_at hrow2 1 _ rfl).1
          have yf1 := (row_at hrow2 1 _ rfl).2
          have y2 := (row_at hrow2 2 _ rfl).1
          have yf2 := (row_at hrow2 2 _ rfl).2
          have p0 := kept_cell hB2 k0
          have p1 := kept_cell hB2 k1
          have p2 := kept_cell hB2 k2
          obtain ⟨X, hX⟩ : ∃ X, ((W2.setCell ⟨g0, 0, none⟩ (.string (str f1))).setCell ⟨g0, 1, none⟩ (.string (str f2))).setCell ⟨g0, 2, none⟩ (.string (str f3)) = X := ⟨_, rfl⟩
          rw [hX] at hr3 hB3
          have hrowX : X.heap[g0]? = some (.cells #[.string (str f1), .string (str f2), .string (str f3)] 41 (0, 0)) := hr3
          have HBX := Lib.hid hB3
          have q1 := kept_cell HBX.out c1
          have q0 := kept_cell HBX.out c0
          have x1 := (row_at hrowX 1 _ rfl).1
          have x2 := (row_at hrowX 2 _ rfl).1
          have HROWX := Lib.hid hrowX
          have HRX := Lib.hid (H.out.below HBX.out)
          have d1 := kept_cell hB2 c1
          have HAT2 := Lib.hid (HAT.out W2 hR2)
          have hS0 : (X.drew.cell? ⟨b, 0, none⟩ = some (.int .i64 R) ∧ X.drew.cell? ⟨b, 1, none⟩ = some (.slice (some ⟨b', off, none⟩) N cap) ∧ X.drew.cell? ⟨g0, 1, none⟩ = some (Value.string (str f2)) ∧ X.drew.cell? ⟨g0, 2, none⟩ = some (Value.string (str f3)) ∧ Below X.heap.size X X.drew) := ⟨q0, q1, x1, x2, (Below.refl _ _).drew⟩
          have QG1 := wdq_call (S := fun W => (W.cell? ⟨b, 0, none⟩ = some (.int .i64 R) ∧ W.cell? ⟨b, 1, none⟩ = some (.slice (some ⟨b', off, none⟩) N cap) ∧ W.cell? ⟨g0, 1, none⟩ = some (Value.string (str f2)) ∧ W.cell? ⟨g0, 2, none⟩ = some (Value.string (str f3)) ∧ Below X.heap.size X W)) (f := 31) (args := #[.pointer (some ⟨b, 0, none⟩)]) (v := .int .i64 (U : Int)) (fun W hS => (HUS.out W (HRX.out.below hS.2.2.2.2)).mono fun e w2 hh => ⟨by rw [hh.1, HU.out], (⟨kept_cell hh.2 hS.1, kept_cell hh.2 hS.2.1, kept_cell hh.2 hS.2.2.1, kept_cell hh.2 hS.2.2.2.1, hS.2.2.2.2.trans (hh.2.mono hS.2.2.2.2.size)⟩ : (w2.cell? ⟨b, 0, none⟩ = some (.int .i64 R) ∧ w2.cell? ⟨b, 1, none⟩ = some (.slice (some ⟨b', off, none⟩) N cap) ∧ w2.cell? ⟨g0, 1, none⟩ = some (Value.string (str f2)) ∧ w2.cell? ⟨g0, 2, none⟩ = some (Value.string (str f3)) ∧ Below X.heap.size X w2))⟩)
          have j0 := fun z : WdQ (fun W => (W.cell? ⟨b, 0, none⟩ = some (.int .i64 R) ∧ W.cell? ⟨b, 1, none⟩ = some (.slice (some ⟨b', off, none⟩) N cap) ∧ W.cell? ⟨g0, 1, none⟩ = some (Value.string (str f2)) ∧ W.cell? ⟨g0, 2, none⟩ = some (Value.string (str f3)) ∧ Below X.heap.size X W)) => z.ok.1
          have j1 := fun z : WdQ (fun W => (W.cell? ⟨b, 0, none⟩ = some (.int .i64 R) ∧ W.cell? ⟨b, 1, none⟩ = some (.slice (some ⟨b', off, none⟩) N cap) ∧ W.cell? ⟨g0, 1, none⟩ = some (Value.string (str f2)) ∧ W.cell? ⟨g0, 2, none⟩ = some (Value.string (str f3)) ∧ Below X.heap.size X W)) => z.ok.2.1
          have j2 := fun z : WdQ (fun W => (W.cell? ⟨b, 0, none⟩ = some (.int .i64 R) ∧ W.cell? ⟨b, 1, none⟩ = some (.slice (some ⟨b', off, none⟩) N cap) ∧ W.cell? ⟨g0, 1, none⟩ = some (Value.string (str f2)) ∧ W.cell? ⟨g0, 2, none⟩ = some (Value.string (str f3)) ∧ Below X.heap.size X W)) => z.ok.2.2.1
          have j3 := fun z : WdQ (fun W => (W.cell? ⟨b, 0, none⟩ = some (.int .i64 R) ∧ W.cell? ⟨b, 1, none⟩ = some (.slice (some ⟨b', off, none⟩) N cap) ∧ W.cell? ⟨g0, 1, none⟩ = some (Value.string (str f2)) ∧ W.cell? ⟨g0, 2, none⟩ = some (Value.string (str f3)) ∧ Below X.heap.size X W)) => z.ok.2.2.2.1
          haveI hne : Nonempty (WdQ (fun W => (W.cell? ⟨b, 0, none⟩ = some (.int .i64 R) ∧ W.cell? ⟨b, 1, none⟩ = some (.slice (some ⟨b', off, none⟩) N cap) ∧ W.cell? ⟨g0, 1, none⟩ = some (Value.string (str f2)) ∧ W.cell? ⟨g0, 2, none⟩ = some (Value.string (str f3)) ∧ Below X.heap.size X W))) := ⟨⟨_, hS0⟩⟩
          try dsimp only at j0 j1 j2 j3
          have HW2 := Lib.hid hW2
          have HG0 := Lib.hid hg0
          clear hrow hrow2 hrowX hR2 hB2 hW2 hg0 hr3 hB3
          go_enter Try.func45, Try.ntmps45
          go_wp2_with fail
          refine (N1.out _).mono ?_
          rintro _ w0 ⟨rfl, rfl⟩
          go_wp2_with fail
          rw [HW2.out]
          try simp only [HG0.out]
          refine HAT2.out.mono ?_
          rintro _ w0 ⟨rfl, rfl⟩
          go_upto_region 9 with fail
          refine region_quiet_q (S := fun W => (W.cell? ⟨b, 0, none⟩ = some (.int .i64 R) ∧ W.cell? ⟨b, 1, none⟩ = some (.slice (some ⟨b', off, none⟩) N cap) ∧ W.cell? ⟨g0, 1, none⟩ = some (Value.string (str f2)) ∧ W.cell? ⟨g0, 2, none⟩ = some (Value.string (str f3)) ∧ Below X.heap.size X W)) (by kernel_rfl) (by kernel_rfl) hS0 ?_
          repeat (go_big_quiet_step (first | (with_reducible exact QG1 _)))
          refine wpQuiet_nil ?_
          intro _ hw'
          obtain ⟨z, rfl⟩ := hw'
          obtain ⟨Y, hSq⟩ := z
          try dsimp only
          have HBY := Lib.hid (HBX.out.trans (hSq.2.2.2.2.mono HBX.out.size))
          have hrowY := (hSq.2.2.2.2.block g0 (Array.getElem?_eq_some_iff.1 HROWX.out).1).trans HROWX.out
          clear hne j0 j1 j2 j3 hS0 QG1 hSq
          go_wp2_with fail
          go_ret
          exact ⟨G, rfl, H.out.below HBY.out, Chg.of_below HBY.out⟩
        · have q2D : decide ((65536 : Int) - (S : Int) - (M : Int) < (Tl : Int)) = false := decide_eq_false q2
          by_cases q3 : R - (U : Int) < (Tl : Int)
          · have q3D : decide (R - (U : Int) < (Tl : Int)) = true := decide_eq_true q3
            rw [if_pos (Or.inr (Or.inr q3))]
            obtain ⟨W2, hW2⟩ : ∃ W2, w.alloc (.cells #[.string (str s), .string ⟨#[]⟩, .string ⟨#[]⟩] 41) = W2 := ⟨_, rfl⟩
            obtain ⟨g0, hg0⟩ : ∃ g, w.heap.size = g := ⟨_, rfl⟩
            have hB2 : Below w.heap.size w W2 := by rw [← hW2]; exact below_alloc _ _
            have hrow2 : W2.heap[g0]? = some (.cells #[.string (str s), .string ⟨#[]⟩, .string ⟨#[]⟩] 41 (0, 0)) := by rw [← hW2, ← hg0]; exact heap_alloc_at _ _
            have hG0 : ¬ G g0 := fun e => by
              have := HLT.out g0 e
              omega
            have hgz : w.heap.size ≤ g0 := Nat.le_of_eq hg0
            have hR2 := H.out.below hB2
            have hr3 := set3 hrow2 (.string (str f1)) (.string (str f2)) (.string (str f3))
            have hB3 := below_set3 hB2 hgz (.string (str f1)) (.string (str f2)) (.string (str f3))
            have y0 := (row_at hrow2 0 _ rfl).1
            have yf0 := (row_at hrow2 0 _ rfl).2
            have y1 := (row_at hrow2 1 _ rfl).1
            have yf1 := (row_at hrow2 1 _ rfl).2
            have y2 := (row_at hrow2 2 _ rfl).1
            have yf2 := (row_at hrow2 2 _ rfl).2
            have p0 := kept_cell hB2 k0
            have p1 := kept_cell hB2 k1
            have p2 := kept_cell hB2 k2
            obtain ⟨X, hX⟩ : ∃ X, ((W2.setCell ⟨g0, 0, none⟩ (.string (str f1))).setCell ⟨g0, 1, none⟩ (.string (str f2))).setCell ⟨g0, 2, none⟩ (.string (str f3)) = X := ⟨_, rfl⟩
            rw [hX] at hr3 hB3
            have hrowX : X.heap[g0]? = some (.cells #[.string (str f1), .string (str f2), .string (str f3)] 41 (0, 0)) := hr3
            have HBX := Lib.hid hB3
            have q1 := kept_cell HBX.out c1
            have q0 := kept_cell HBX.out c0
            have x1 := (row_at hrowX 1 _ rfl).1
            have x2 := (row_at hrowX 2 _ rfl).1
            have HROWX := Lib.hid hrowX
            have HRX := Lib.hid (H.out.below HBX.out)
            have d1 := kept_cell hB2 c1
            have HAT2 := Lib.hid (HAT.out W2 hR2)
            have hS0 : (X.drew.cell? ⟨b, 0, none⟩ = some (.int .i64 R) ∧ X.drew.cell? ⟨b, 1, none⟩ = some (.slice (some ⟨b', off, none⟩) N cap) ∧ X.drew.cell? ⟨g0, 1, none⟩ = some (Value.string (str f2)) ∧ X.drew.cell? ⟨g0, 2, none⟩ = some (Value.string (str f3)) ∧ Below X.heap.size X X.drew) := ⟨q0, q1, x1, x2, (Below.refl _ _).drew⟩
            have QG1 := wdq_call (S := fun W => (W.cell? ⟨b, 0, none⟩ = some (.int .i64 R) ∧ W.cell? ⟨b, 1, none⟩ = some (.slice (some ⟨b', off, none⟩) N cap) ∧ W.cell? ⟨g0, 1, none⟩ = some (Value.string (str f2)) ∧ W.cell? ⟨g0, 2, none⟩ = some (Value.string (str f3)) ∧ Below X.heap.size X W)) (f := 31) (args := #[.pointer (some ⟨b, 0, none⟩)]) (v := .int .i64 (U : Int)) (fun W hS => (HUS.out W (HRX.out.below hS.2.2.2.2)).mono fun e w2 hh => ⟨by rw [hh.1, HU.out], (⟨kept_cell hh.2 hS.1, kept_cell hh.2 hS.2.1, kept_cell hh.2 hS.2.2.1, kept_cell hh.2 hS.2.2.2.1, hS.2.2.2.2.trans (hh.2.mono hS.2.2.2.2.size)⟩ : (w2.cell? ⟨b, 0, none⟩ = some (.int .i64 R) ∧ w2.cell? ⟨b, 1, none⟩ = some (.slice (some ⟨b', off, none⟩) N cap) ∧ w2.cell? ⟨g0, 1, none⟩ = some (Value.string (str f2)) ∧ w2.cell? ⟨g0, 2, none⟩ = some (Value.string (str f3)) ∧ Below X.heap.size X w2))⟩)
            have j0 := fun z : WdQ (fun W => (W.cell? ⟨b, 0, none⟩ = some (.int .i64 R) ∧ W.cell? ⟨b, 1, none⟩ = some (.slice (some ⟨b', off, none⟩) N cap) ∧ W.cell? ⟨g0, 1, none⟩ = some (Value.string (str f2)) ∧ W.cell? ⟨g0, 2, none⟩ = some (Value.string (str f3)) ∧ Below X.heap.size X W)) => z.ok.1
            have j1 := fun z : WdQ (fun W => (W.cell? ⟨b, 0, none⟩ = some (.int .i64 R) ∧ W.cell? ⟨b, 1, none⟩ = some (.slice (some ⟨b', off, none⟩) N cap) ∧ W.cell? ⟨g0, 1, none⟩ = some (Value.string (str f2)) ∧ W.cell? ⟨g0, 2, none⟩ = some (Value.string (str f3)) ∧ Below X.heap.size X W)) => z.ok.2.1
            have j2 := fun z : WdQ (fun W => (W.cell? ⟨b, 0, none⟩ = some (.int .i64 R) ∧ W.cell? ⟨b, 1, none⟩ = some (.slice (some ⟨b', off, none⟩) N cap) ∧ W.cell? ⟨g0, 1, none⟩ = some (Value.string (str f2)) ∧ W.cell? ⟨g0, 2, none⟩ = some (Value.string (str f3)) ∧ Below X.heap.size X W)) => z.ok.2.2.1
            have j3 := fun z : WdQ (fun W => (W.cell? ⟨b, 0, none⟩ = some (.int .i64 R) ∧ W.cell? ⟨b, 1, none⟩ = some (.slice (some ⟨b', off, none⟩) N cap) ∧ W.cell? ⟨g0, 1, none⟩ = some (Value.string (str f2)) ∧ W.cell? ⟨g0, 2, none⟩ = some (Value.string (str f3)) ∧ Below X.heap.size X W)) => z.ok.2.2.2.1
            haveI hne : Nonempty (WdQ (fun W => (W.cell? ⟨b, 0, none⟩ = some (.int .i64 R) ∧ W.cell? ⟨b, 1, none⟩ = some (.slice (some ⟨b', off, none⟩) N cap) ∧ W.cell? ⟨g0, 1, none⟩ = some (Value.string (str f2)) ∧ W.cell? ⟨g0, 2, none⟩ = some (Value.string (str f3)) ∧ Below X.heap.size X W))) := ⟨⟨_, hS0⟩⟩
            try dsimp only at j0 j1 j2 j3
            have HW2 := Lib.hid hW2
            have HG0 := Lib.hid hg0
            clear hrow hrow2 hrowX hR2 hB2 hW2 hg0 hr3 hB3
            go_enter Try.func45, Try.ntmps45
            go_wp2_with fail
            refine (N1.out _).mono ?_
            rintro _ w0 ⟨rfl, rfl⟩
            go_wp2_with fail
            rw [HW2.out]
            try simp only [HG0.out]
            refine HAT2.out.mono ?_
            rintro _ w0 ⟨rfl, rfl⟩
            go_upto_region 9 with fail
            refine region_quiet_q (S := fun W => (W.cell? ⟨b, 0, none⟩ = some (.int .i64 R) ∧ W.cell? ⟨b, 1, none⟩ = some (.slice (some ⟨b', off, none⟩) N cap) ∧ W.cell? ⟨g0, 1, none⟩ = some (Value.string (str f2)) ∧ W.cell? ⟨g0, 2, none⟩ = some (Value.string (str f3)) ∧ Below X.heap.size X W)) (by kernel_rfl) (by kernel_rfl) hS0 ?_
            repeat (go_big_quiet_step (first | (with_reducible exact QG1 _)))
            refine wpQuiet_nil ?_
            intro _ hw'
            obtain ⟨z, rfl⟩ := hw'
            obtain ⟨Y, hSq⟩ := z
            try dsimp only
            have HBY := Lib.hid (HBX.out.trans (hSq.2.2.2.2.mono HBX.out.size))
            have hrowY := (hSq.2.2.2.2.block g0 (Array.getElem?_eq_some_iff.1 HROWX.out).1).trans HROWX.out
            clear hne j0 j1 j2 j3 hS0 QG1 hSq
            go_wp2_with fail
            go_ret
            exact ⟨G, rfl, H.out.below HBY.out, Chg.of_below HBY.out⟩
          · have q3D : decide (R - (U : Int) < (Tl : Int)) = false := decide_eq_false q3
            rw [if_neg (by rintro (⟨h, -⟩ | h | h); cases h; omega; omega)]
            try simp only [List.nil_append]
            obtain ⟨r, hrr⟩ : ∃ r, ((goesD (putF D ⟨f1, f2, f3 ++ t⟩)).1, (if (goesD (putF D ⟨f1, f2, f3 ++ t⟩)).2 then (11 : Int) else 0)) = r := ⟨_, rfl⟩
            show Calls _ _ _ w (Wrote G b ((goesD (putF D ⟨f1, f2, f3 ++ t⟩)).1, (if (goesD (putF D ⟨f1, f2, f3 ++ t⟩)).2 then (11 : Int) else 0)) w)
            rw [hrr]
            have HRR := Lib.hid hrr
            clear hrr
            obtain ⟨W2, hW2⟩ : ∃ W2, w.alloc (.cells #[.string (str s), .string ⟨#[]⟩, .string ⟨#[]⟩] 41) = W2 := ⟨_, rfl⟩
            obtain ⟨g0, hg0⟩ : ∃ g, w.heap.size = g := ⟨_, rfl⟩
            have hB2 : Below w.heap.size w W2 := by rw [← hW2]; exact below_alloc _ _
            have hrow2 : W2.heap[g0]? = some (.cells #[.string (str s), .string ⟨#[]⟩, .string ⟨#[]⟩] 41 (0, 0)) := by rw [← hW2, ← hg0]; exact heap_alloc_at _ _
            have hG0 : ¬ G g0 := fun e => by
              have := HLT.out g0 e
              omega
            have hgz : w.heap.size ≤ g0 := Nat.le_of_eq hg0
            have hR2 := H.out.below hB2
            have hr3 := set3 hrow2 (.string (str f1)) (.string (str f2)) (.string (str f3))
            have hB3 := below_set3 hB2 hgz (.string (str f1)) (.string (str f2)) (.string (str f3))
            have y0 := (row_at hrow2 0 _ rfl).1
            have yf0 := (row_at hrow2 0 _ rfl).2
            have y1 := (row_at hrow2 1 _ rfl).1
            have yf1 := (row_at hrow2 1 _ rfl).2
            have y2 := (row_at hrow2 2 _ rfl).1
            have yf2 := (row_at hrow2 2 _ rfl).2
            have p0 := kept_cell hB2 k0
            have p1 := kept_cell hB2 k1
            have p2 := kept_cell hB2 k2
            obtain ⟨X, hX⟩ : ∃ X, ((W2.setCell ⟨g0, 0, none⟩ (.string (str f1))).setCell ⟨g0, 1, none⟩ (.string (str f2))).setCell ⟨g0, 2, none⟩ (.string (str f3)) = X := ⟨_, rfl⟩
            rw [hX] at hr3 hB3
            have hrowX : X.heap[g0]? = some (.cells #[.string (str f1), .string (str f2), .string (str f3)] 41 (0, 0)) := hr3
            have HBX := Lib.hid hB3
            have q1 := kept_cell HBX.out c1
            have q0 := kept_cell HBX.out c0
            have x1 := (row_at hrowX 1 _ rfl).1
            have x2 := (row_at hrowX 2 _ rfl).1
            have HROWX := Lib.hid hrowX
            have HRX := Lib.hid (H.out.below HBX.out)
            have d1 := kept_cell hB2 c1
            have HAT2 := Lib.hid (HAT.out W2 hR2)
            have hS0 : (X.drew.cell? ⟨b, 0, none⟩ = some (.int .i64 R) ∧ X.drew.cell? ⟨b, 1, none⟩ = some (.slice (some ⟨b', off, none⟩) N cap) ∧ X.drew.cell? ⟨g0, 1, none⟩ = some (Value.string (str f2)) ∧ X.drew.cell? ⟨g0, 2, none⟩ = some (Value.string (str f3)) ∧ Below X.heap.size X X.drew) := ⟨q0, q1, x1, x2, (Below.refl _ _).drew⟩
            have QG1 := wdq_call (S := fun W => (W.cell? ⟨b, 0, none⟩ = some (.int .i64 R) ∧ W.cell? ⟨b, 1, none⟩ = some (.slice (some ⟨b', off, none⟩) N cap) ∧ W.cell? ⟨g0, 1, none⟩ = some (Value.string (str f2)) ∧ W.cell? ⟨g0, 2, none⟩ = some (Value.string (str f3)) ∧ Below X.heap.size X W)) (f := 31) (args := #[.pointer (some ⟨b, 0, none⟩)]) (v := .int .i64 (U : Int)) (fun W hS => (HUS.out W (HRX.out.below hS.2.2.2.2)).mono fun e w2 hh => ⟨by rw [hh.1, HU.out], (⟨kept_cell hh.2 hS.1, kept_cell hh.2 hS.2.1, kept_cell hh.2 hS.2.2.1, kept_cell hh.2 hS.2.2.2.1, hS.2.2.2.2.trans (hh.2.mono hS.2.2.2.2.size)⟩ : (w2.cell? ⟨b, 0, none⟩ = some (.int .i64 R) ∧ w2.cell? ⟨b, 1, none⟩ = some (.slice (some ⟨b', off, none⟩) N cap) ∧ w2.cell? ⟨g0, 1, none⟩ = some (Value.string (str f2)) ∧ w2.cell? ⟨g0, 2, none⟩ = some (Value.string (str f3)) ∧ Below X.heap.size X w2))⟩)
            have j0 := fun z : WdQ (fun W => (W.cell? ⟨b, 0, none⟩ = some (.int .i64 R) ∧ W.cell? ⟨b, 1, none⟩ = some (.slice (some ⟨b', off, none⟩) N cap) ∧ W.cell? ⟨g0, 1, none⟩ = some (Value.string (str f2)) ∧ W.cell? ⟨g0, 2, none⟩ = some (Value.string (str f3)) ∧ Below X.heap.size X W)) => z.ok.1
            have j1 := fun z : WdQ (fun W => (W.cell? ⟨b, 0, none⟩ = some (.int .i64 R) ∧ W.cell? ⟨b, 1, none⟩ = some (.slice (some ⟨b', off, none⟩) N cap) ∧ W.cell? ⟨g0, 1, none⟩ = some (Value.string (str f2)) ∧ W.cell? ⟨g0, 2, none⟩ = some (Value.string (str f3)) ∧ Below X.heap.size X W)) => z.ok.2.1
            have j2 := fun z : WdQ (fun W => (W.cell? ⟨b, 0, none⟩ = some (.int .i64 R) ∧ W.cell? ⟨b, 1, none⟩ = some (.slice (some ⟨b', off, none⟩) N cap) ∧ W.cell? ⟨g0, 1, none⟩ = some (Value.string (str f2)) ∧ W.cell? ⟨g0, 2, none⟩ = some (Value.string (str f3)) ∧ Below X.heap.size X W)) => z.ok.2.2.1
            have j3 := fun z : WdQ (fun W => (W.cell? ⟨b, 0, none⟩ = some (.int .i64 R) ∧ W.cell? ⟨b, 1, none⟩ = some (.slice (some ⟨b', off, none⟩) N cap) ∧ W.cell? ⟨g0, 1, none⟩ = some (Value.string (str f2)) ∧ W.cell? ⟨g0, 2, none⟩ = some (Value.string (str f3)) ∧ Below X.heap.size X W)) => z.ok.2.2.2.1
            haveI hne : Nonempty (WdQ (fun W => (W.cell? ⟨b, 0, none⟩ = some (.int .i64 R) ∧ W.cell? ⟨b, 1, none⟩ = some (.slice (some ⟨b', off, none⟩) N cap) ∧ W.cell? ⟨g0, 1, none⟩ = some (Value.string (str f2)) ∧ W.cell? ⟨g0, 2, none⟩ = some (Value.string (str f3)) ∧ Below X.heap.size X W))) := ⟨⟨_, hS0⟩⟩
            try dsimp only at j0 j1 j2 j3
            have HW2 := Lib.hid hW2
            have HG0 := Lib.hid hg0
            clear hrow hrow2 hrowX hR2 hB2 hW2 hg0 hr3 hB3
            go_enter Try.func45, Try.ntmps45
            go_wp2_with fail
            refine (N1.out _).mono ?_
            rintro _ w0 ⟨rfl, rfl⟩
            go_wp2_with fail
            rw [HW2.out]
            try simp only [HG0.out]
            refine HAT2.out.mono ?_
            rintro _ w0 ⟨rfl, rfl⟩
            go_upto_region 9 with fail
            refine region_quiet_q (S := fun W => (W.cell? ⟨b, 0, none⟩ = some (.int .i64 R) ∧ W.cell? ⟨b, 1, none⟩ = some (.slice (some ⟨b', off, none⟩) N cap) ∧ W.cell? ⟨g0, 1, none⟩ = some (Value.string (str f2)) ∧ W.cell? ⟨g0, 2, none⟩ = some (Value.string (str f3)) ∧ Below X.heap.size X W)) (by kernel_rfl) (by kernel_rfl) hS0 ?_
            repeat (go_big_quiet_step (first | (with_reducible exact QG1 _)))
            refine wpQuiet_nil ?_
            intro _ hw'
            obtain ⟨z, rfl⟩ := hw'
            obtain ⟨Y, hSq⟩ := z
            try dsimp only
            have HBY := Lib.hid (HBX.out.trans (hSq.2.2.2.2.mono HBX.out.size))
            have hrowY := (hSq.2.2.2.2.block g0 (Array.getElem?_eq_some_iff.1 HROWX.out).1).trans HROWX.out
            clear hne j0 j1 j2 j3 hS0 QG1 hSq
            have v2 := (row_at hrowY 2 _ rfl).1
            have vf2 := (row_at hrowY 2 _ rfl).2
            have e1 := add_str12 f3 t (by have := HT.out; omega)
            obtain ⟨Z, hZ⟩ : ∃ Z, Y.setCell ⟨g0, 2, none⟩ (.string (str (f3 ++ t))) = Z := ⟨_, rfl⟩
            have hrowZ : Z.heap[g0]? = some (.cells #[.string (str f1), .string (str f2), .string (str (f3 ++ t))] 41 (0, 0)) := by rw [← hZ]; exact heap_setCell_same Y g0 2 _ 41 _ hrowY
            have HBZ := Lib.hid (show Below w.heap.size w Z by rw [← hZ]; exact HBY.out.setCell (p := ⟨g0, 2, none⟩) hgz _)
            have u0 := (row_at hrowZ 0 _ rfl).1
            have u1 := (row_at hrowZ 1 _ rfl).1
            have u2 := (row_at hrowZ 2 _ rfl).1
            have HST := Lib.hid (set_any ⟨f1, f2, f3 ++ t⟩ b G D Z (H.out.below HBZ.out) (by unfold setF; rw [set_len]; simp only [Bool.false_eq_true, if_false]; have := HDL.out; omega) ⟨by exact hfe.1, by show (f2 : List UInt8).length + (f3 ++ t).length ≤ 65536; rw [List.length_append]; have := HT.out; omega⟩)
            dsimp only at HST
            clear hrowY hrowZ
            go_wp2_with fail
            refine HST.out.mono ?_
            rintro _ w3 ⟨G1, rfl, hr3, hc3⟩
            have HC3 := Lib.hid hc3
            clear v2 vf2 u0 u1 u2 hZ
            go_wp2_with fail
            refine (goes_any b G1 _ w3 hr3).mono ?_
            rintro _ w4 ⟨rfl, hr4, hc4⟩
            have HR4 := Lib.hid hr4
            have HC4 := Lib.hid hc4
            clear hr4 hc4 hr3 hc3
            obtain ⟨⟨E, z⟩, hEz⟩ : ∃ p, goesD (putF D ⟨f1, f2, f3 ++ t⟩) = p := ⟨_, rfl⟩
            have hrr := HRR.out
            rw [hEz] at HR4 hrr ⊢
            dsimp only at HR4 hrr ⊢
            clear hEz
            cases z with
            | true =>
              have HRX2 := Lib.hid hrr
              clear hrr
              go_wp2_with fail
              go_ret
              rw [← HRX2.out]
              exact ⟨G1, rfl, HR4.out, ((Chg.of_below (F := G) HBZ.out).trans HC3.out).trans HC4.out⟩
            | false =>
              have HRX2 := Lib.hid hrr
              clear hrr
              go_wp2_with fail
              go_ret
              rw [← HRX2.out]
              exact ⟨G1, rfl, HR4.out, ((Chg.of_below (F := G) HBZ.out).trans HC3.out).trans HC4.out⟩
end Go.Proofs.Ythdchidlfeighaa.C12
