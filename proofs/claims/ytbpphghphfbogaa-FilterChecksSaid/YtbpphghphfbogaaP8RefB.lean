/-
  Layer 8, the document's answer: what covers, matches and meets what.
-/
import Derived.Test.YtbpphghphfbogaaP8RefA
namespace Go.Proofs.Ytbpphghphfbogaa.P8
open Go Go.RowKit Go.Shelf Go.Proofs Go.Proofs.Ytbpphghphfbogaa.B Go.Proofs.Ytbpphghphfbogaa.K
set_option linter.unusedVariables false

set_option maxHeartbeats 1000000 in
set_option maxRecDepth 100000 in
theorem parts_any (l : List UInt8) (hl : l.length ≤ 1000) (w : World) :
    Calls Try.prog 42 #[.string (str l)] w fun e w' => ∃ v, e = .returned v ∧ Pt w' v (parts l) ∧ Below w.heap.size w w' := by
  go_enter Try.func42, Try.ntmps42
  go_wp2_with fail
  refine (split_any l hl _).mono ?_
  rintro _ w1 ⟨v, rfl, hp, hb⟩
  go_wp2_with fail
  go_ret
  exact ⟨v, rfl, hp, hb⟩

/-- 'p[1:]'. -/
theorem cut_first (b off L cap : Nat) (hL : L + 1 ≤ cap) :
    ∃ o2, (L ≠ 0 → o2 = off + 1) ∧ ∀ W : World, (Instr.sliceAt 22 (.slice (some ⟨b, off, none⟩) (L + 1) cap) (some (.int .i64 1)) none none).run Try.prog W = .ok (.slice (some ⟨b, o2, none⟩) L (cap - 1)) W := by
  by_cases h : cap = 1
  · refine ⟨off, fun h2 => by omega, fun W => ?_⟩
    have he : Try.prog.underlying 22 = some (.slice (Try.prog.elem 22)) := by kernel_rfl
    have hs : (sizeOf (Try.prog.elem 22)).run Try.prog W = .ok 1 W := by kernel_rfl
    rw [run_sliceAt_slice W 22 _ _ _ _ he, run_slice_l W 22 _ _ _ he .i64 (1 : Int) (by omega) (by omega), hs]
    simp only [Result.andThen, sliced]
    rw [if_pos (by simp; omega)]
    simp
  · refine ⟨off + 1, fun _ => rfl, fun W => ?_⟩
    have he : Try.prog.underlying 22 = some (.slice (Try.prog.elem 22)) := by kernel_rfl
    have hs : (sizeOf (Try.prog.elem 22)).run Try.prog W = .ok 1 W := by kernel_rfl
    rw [run_sliceAt_slice W 22 _ _ _ _ he, run_slice_l W 22 _ _ _ he .i64 (1 : Int) (by omega) (by omega), hs]
    simp only [Result.andThen, sliced]
    rw [if_neg (by simp; omega)]
    simp [Option.map, Go.WideShapes.add_plain]

theorem Pt.cons {w : World} {v : Value} {p : List UInt8} {P : List (List UInt8)} (h : Pt w v (p :: P)) :
    ∃ b off cap v2, v = .slice (some ⟨b, off, none⟩) (P.length + 1) cap ∧ w.cell? ⟨b, off, none⟩ = some (.string (str p)) ∧ Pt w v2 P ∧
      ∀ W : World, (Instr.sliceAt 22 (.slice (some ⟨b, off, none⟩) (P.length + 1) cap) (some (.int .i64 1)) none none).run Try.prog W = .ok v2 W := by
  obtain ⟨b, off, cap, rfl, hc, hx⟩ := h
  obtain ⟨o2, h2, h3⟩ := cut_first b off P.length cap hc
  refine ⟨b, off, cap, _, rfl, hx 0 p rfl, ⟨b, o2, cap - 1, rfl, by simp at hc; omega, fun j x hj => ?_⟩, h3⟩
  have hl : P.length ≠ 0 := by
    intro h0
    have := List.eq_nil_of_length_eq_zero h0
    subst this
    simp at hj
  rw [h2 hl, Nat.add_assoc, Nat.add_comm 1 j]
  exact hx (j + 1) x (by simpa using hj)

theorem Pt.nil {w : World} {v : Value} (h : Pt w v []) : ∃ b off cap, v = .slice (some ⟨b, off, none⟩) 0 cap := by
  obtain ⟨b, off, cap, rfl, _, _⟩ := h
  exact ⟨b, off, cap, rfl⟩

set_option maxHeartbeats 4000000 in
set_option maxRecDepth 100000 in
theorem refMatch_any : ∀ (P S : List (List UInt8)) (v1 v2 : Value) (w : World), P.length ≤ 1000 → S.length ≤ 1000 → Pt w v1 P → Pt w v2 S →
    Calls Try.prog 48 #[v1, v2] w fun e w' => e = .returned (.bool (matchL P S)) ∧ ∃ m, w' = w.drewN m
  | [], [], v1, v2, w, _, _, h1, h2 => by
    obtain ⟨b1, o1, c1, rfl⟩ := h1.nil
    obtain ⟨b2, o2, c2, rfl⟩ := h2.nil
    go_enter Try.func48, Try.ntmps48
    go_wp2_with fail
    go_ret
    exact ⟨rfl, 0, rfl⟩
  | [], s :: S, v1, v2, w, _, hS, h1, h2 => by
    obtain ⟨b1, o1, c1, rfl⟩ := h1.nil
    obtain ⟨b2, o2, c2, v2', rfl, e2, q2, r2⟩ := h2.cons
    obtain ⟨n, hn⟩ : ∃ n, S.length = n := ⟨_, rfl⟩
    rw [hn]
    have hz : (((n : Int) + 1) == 0) = false := by rw [beq_eq_false_iff_ne]; omega
    go_enter Try.func48, Try.ntmps48
    go_wp2_with fail
    go_ret
    exact ⟨rfl, 0, rfl⟩
  | p :: P, [], v1, v2, w, hP, _, h1, h2 => by
    obtain ⟨b1, o1, c1, v1', rfl, e1, q1, r1⟩ := h1.cons
    obtain ⟨b2, o2, c2, rfl⟩ := h2.nil
    have hm := eq_many p
    have hml : matchL (p :: P) [] = (P.isEmpty && p == many) := rfl
    rw [hml]
    obtain ⟨m, hmv⟩ : ∃ m, (p == many) = m := ⟨_, rfl⟩
    rw [hmv] at hm ⊢
    cases P with
    | nil =>
      go_enter Try.func48, Try.ntmps48
      cases m <;> (go_wp2_with fail; go_ret; exact ⟨rfl, 0, rfl⟩)
    | cons p2 P =>
      obtain ⟨n, hn⟩ : ∃ n, (p2 :: P).length = n := ⟨_, rfl⟩
      have hn1 : 1 ≤ n := by rw [← hn]; simp
      rw [hn]
      have hz : (((n : Int) + 1) == 0) = false := by rw [beq_eq_false_iff_ne]; omega
      have hz1 : (((n : Int) + 1) == 1) = false := by rw [beq_eq_false_iff_ne]; omega
      go_enter Try.func48, Try.ntmps48
      go_wp2_with fail
      go_ret
      exact ⟨rfl, 0, rfl⟩
  | p :: P, s :: S, v1, v2, w, hP, hS, h1, h2 => by
    obtain ⟨b1, o1, c1, v1', rfl, e1, q1, r1⟩ := h1.cons
    obtain ⟨b2, o2, c2, v2', rfl, e2, q2, r2⟩ := h2.cons
    have hm := eq_many p
    have ho := eq_one p
    have hps := eq_bool p s
    have IH := fun n => refMatch_any P S v1' v2' (w.drewN n) (by simp at hP; omega) (by simp at hS; omega) (q1.below (below_drewN w n)) (q2.below (below_drewN w n))
    have hml : matchL (p :: P) (s :: S) = (p == many || ((p == one || p == s) && matchL P S)) := rfl
    rw [hml]
    obtain ⟨m, hmv⟩ : ∃ m, (p == many) = m := ⟨_, rfl⟩
    obtain ⟨o, hov⟩ : ∃ m, (p == one) = m := ⟨_, rfl⟩
    obtain ⟨d, hdv⟩ : ∃ m, (p == s) = m := ⟨_, rfl⟩
    obtain ⟨r, hrv⟩ : ∃ m, matchL P S = m := ⟨_, rfl⟩
    rw [hrv] at IH
    rw [hmv] at hm; rw [hov] at ho; rw [hdv] at hps
    rw [hmv, hov, hdv, hrv]
    obtain ⟨n, hn⟩ : ∃ n, P.length = n := ⟨_, rfl⟩
    obtain ⟨k, hk⟩ : ∃ n, S.length = n := ⟨_, rfl⟩
    rw [hn] at r1 ⊢
    rw [hk] at r2 ⊢
    have hz : (((n : Int) + 1) == 0) = false := by rw [beq_eq_false_iff_ne]; omega
    have hz2 : (((k : Int) + 1) == 0) = false := by rw [beq_eq_false_iff_ne]; omega
    have HI := Lib.hid IH
    clear IH hml hmv hov hdv hrv hn hk h1 h2 hP hS q1 q2
    go_enter Try.func48, Try.ntmps48
    cases m with
    | true => go_wp2_with fail; go_ret; exact ⟨rfl, 0, rfl⟩
    | false =>
      go_wp2_with fail
      cases o with
      | true =>
        go_quiet ((go_at_call 48; exact Calls.quiet_of (HI.out _)))
        go_wp2_with fail
        go_ret
        exact ⟨rfl, _, rfl⟩
      | false =>
        cases d with
        | true =>
          go_quiet ((go_at_call 48; exact Calls.quiet_of (HI.out _)))
          go_wp2_with fail
          go_ret
          exact ⟨rfl, _, rfl⟩
        | false =>
          go_quiet (fail)
          go_wp2_with fail
          go_ret
          exact ⟨rfl, _, rfl⟩
end Go.Proofs.Ytbpphghphfbogaa.P8
