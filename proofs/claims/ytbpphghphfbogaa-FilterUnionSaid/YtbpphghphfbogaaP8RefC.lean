/-
  Layer 8, the document's answer: what covers and what meets what.
-/
import Derived.Test.YtbpphghphfbogaaP8RefB
namespace Go.Proofs.Ytbpphghphfbogaa.P8
open Go Go.RowKit Go.Shelf Go.Proofs Go.Proofs.Ytbpphghphfbogaa.B Go.Proofs.Ytbpphghphfbogaa.K
set_option linter.unusedVariables false

theorem len_one (P : List (List UInt8)) (n : Nat) (h : P.length = n) : (((n : Int) + 1) == 1) = P.isEmpty ∧ (((n : Int) + 1) == 0) = false := by
  refine ⟨?_, by rw [beq_eq_false_iff_ne]; omega⟩
  cases P with
  | nil => simp at h; subst h; rfl
  | cons a b => simp at h; rw [List.isEmpty_cons, beq_eq_false_iff_ne]; omega

set_option maxHeartbeats 4000000 in
set_option maxRecDepth 100000 in
theorem refCovers_any : ∀ (P S : List (List UInt8)) (v1 v2 : Value) (w : World), P.length ≤ 1000 → S.length ≤ 1000 → Pt w v1 P → Pt w v2 S →
    Calls Try.prog 53 #[v1, v2] w fun e w' => e = .returned (.bool (coversL P S)) ∧ ∃ m, w' = w.drewN m
  | [], [], v1, v2, w, _, _, h1, h2 => by
    obtain ⟨b1, o1, c1, rfl⟩ := h1.nil
    obtain ⟨b2, o2, c2, rfl⟩ := h2.nil
    go_enter Try.func53, Try.ntmps53
    go_wp2_with fail
    go_ret
    exact ⟨rfl, 0, rfl⟩
  | [], s :: S, v1, v2, w, _, hS, h1, h2 => by
    obtain ⟨b1, o1, c1, rfl⟩ := h1.nil
    obtain ⟨b2, o2, c2, v2', rfl, e2, q2, r2⟩ := h2.cons
    obtain ⟨n, hn⟩ : ∃ n, S.length = n := ⟨_, rfl⟩
    rw [hn]
    have hz := (len_one S n hn).2
    go_enter Try.func53, Try.ntmps53
    go_wp2_with fail
    go_ret
    exact ⟨rfl, 0, rfl⟩
  | p :: P, [], v1, v2, w, hP, _, h1, h2 => by
    obtain ⟨b1, o1, c1, v1', rfl, e1, q1, r1⟩ := h1.cons
    obtain ⟨b2, o2, c2, rfl⟩ := h2.nil
    have hm := eq_many p
    have hml : coversL (p :: P) [] = ((P.isEmpty && p == many) || false) := rfl
    rw [hml]
    obtain ⟨m, hmv⟩ : ∃ m, (p == many) = m := ⟨_, rfl⟩
    obtain ⟨n, hn⟩ : ∃ n, P.length = n := ⟨_, rfl⟩
    obtain ⟨hz1, hz⟩ := len_one P n hn
    obtain ⟨e, hev⟩ : ∃ m, P.isEmpty = m := ⟨_, rfl⟩
    rw [hev] at hz1 ⊢
    rw [hmv] at hm ⊢
    rw [hn]
    clear hml hmv hev hn
    go_enter Try.func53, Try.ntmps53
    cases e <;> cases m <;> (go_wp2_with fail; go_ret; exact ⟨rfl, 0, rfl⟩)
  | p :: P, s :: S, v1, v2, w, hP, hS, h1, h2 => by
    obtain ⟨b1, o1, c1, v1', rfl, e1, q1, r1⟩ := h1.cons
    obtain ⟨b2, o2, c2, v2', rfl, e2, q2, r2⟩ := h2.cons
    have hm := eq_many p
    have hm2 := eq_many s
    have ho := eq_one p
    have hps := eq_bool p s
    have IH := fun n => refCovers_any P S v1' v2' (w.drewN n) (by simp at hP; omega) (by simp at hS; omega) (q1.below (below_drewN w n)) (q2.below (below_drewN w n))
    have hml : coversL (p :: P) (s :: S) = ((P.isEmpty && p == many) || (!(s == many) && ((p == one || p == s) && coversL P S))) := rfl
    rw [hml]
    obtain ⟨m, hmv⟩ : ∃ m, (p == many) = m := ⟨_, rfl⟩
    obtain ⟨m2, hmv2⟩ : ∃ m, (s == many) = m := ⟨_, rfl⟩
    obtain ⟨o, hov⟩ : ∃ m, (p == one) = m := ⟨_, rfl⟩
    obtain ⟨d, hdv⟩ : ∃ m, (p == s) = m := ⟨_, rfl⟩
    obtain ⟨r, hrv⟩ : ∃ m, coversL P S = m := ⟨_, rfl⟩
    rw [hrv] at IH
    rw [hmv] at hm; rw [hmv2] at hm2; rw [hov] at ho; rw [hdv] at hps
    rw [hmv, hmv2, hov, hdv, hrv]
    obtain ⟨n, hn⟩ : ∃ n, P.length = n := ⟨_, rfl⟩
    obtain ⟨k, hk⟩ : ∃ n, S.length = n := ⟨_, rfl⟩
    obtain ⟨hz1, hz⟩ := len_one P n hn
    obtain ⟨_, hz2⟩ := len_one S k hk
    obtain ⟨e, hev⟩ : ∃ m, P.isEmpty = m := ⟨_, rfl⟩
    rw [hev] at hz1 ⊢
    rw [hn] at r1 ⊢
    rw [hk] at r2 ⊢
    have HI := Lib.hid IH
    clear IH hml hmv hmv2 hov hdv hrv hev hn hk h1 h2 hP hS q1 q2
    by_cases hem : (e && m) = true
    · rw [Bool.and_eq_true] at hem
      obtain ⟨rfl, rfl⟩ := hem
      go_enter Try.func53, Try.ntmps53
      go_wp2_with fail; go_ret; exact ⟨rfl, 0, rfl⟩
    · have hem2 : (e && m) = false := by simpa using hem
      rw [hem2, Bool.false_or]
      go_enter Try.func53, Try.ntmps53
      have hgo : ∀ (Q : Prop), (e = false → Q) → (e = true → m = false → Q) → Q := by
        intro Q h1 h2
        cases e with
        | false => exact h1 rfl
        | true => exact h2 rfl (by simpa using hem)
      clear hem
      cases m2 with
      | true => refine hgo _ ?_ ?_ <;> (intros; subst_vars; go_wp2_with fail; go_ret; exact ⟨rfl, 0, rfl⟩)
      | false =>
        cases o with
        | true =>
          refine hgo _ ?_ ?_ <;>
            (intros; subst_vars; go_wp2_with fail
             go_quiet ((go_at_call 53; exact Calls.quiet_of (HI.out _)))
             go_wp2_with fail
             go_ret
             exact ⟨rfl, _, rfl⟩)
        | false =>
          cases d with
          | true =>
            refine hgo _ ?_ ?_ <;>
              (intros; subst_vars; go_wp2_with fail
               go_quiet ((go_at_call 53; exact Calls.quiet_of (HI.out _)))
               go_wp2_with fail
               go_ret
               exact ⟨rfl, _, rfl⟩)
          | false =>
            refine hgo _ ?_ ?_ <;>
              (intros; subst_vars; go_wp2_with fail
               go_quiet (fail)
               go_wp2_with fail
               go_ret
               exact ⟨rfl, _, rfl⟩)

theorem many_alone (q : List UInt8) (Q : List (List UInt8)) : ((q :: Q) == [many]) = (Q.isEmpty && q == many) := by
  rw [Bool.eq_iff_iff]
  cases Q <;> simp

set_option maxHeartbeats 8000000 in
set_option maxRecDepth 100000 in
theorem refMeets_any : ∀ (P S : List (List UInt8)) (v1 v2 : Value) (w : World), P.length ≤ 1000 → S.length ≤ 1000 → Pt w v1 P → Pt w v2 S →
    Calls Try.prog 56 #[v1, v2] w fun e w' => e = .returned (.bool (meetsL P S)) ∧ ∃ m, w' = w.drewN m
  | [], [], v1, v2, w, _, _, h1, h2 => by
    obtain ⟨b1, o1, c1, rfl⟩ := h1.nil
    obtain ⟨b2, o2, c2, rfl⟩ := h2.nil
    go_enter Try.func56, Try.ntmps56
    go_wp2_with fail
    go_ret
    exact ⟨rfl, 0, rfl⟩
  | [], s :: S, v1, v2, w, _, hS, h1, h2 => by
    obtain ⟨b1, o1, c1, rfl⟩ := h1.nil
    obtain ⟨b2, o2, c2, v2', rfl, e2, q2, r2⟩ := h2.cons
    have hm := eq_many s
    have hml : meetsL [] (s :: S) = (((s :: S) == [many]) || false) := rfl
    rw [hml, many_alone]
    obtain ⟨m, hmv⟩ : ∃ m, (s == many) = m := ⟨_, rfl⟩
    obtain ⟨n, hn⟩ : ∃ n, S.length = n := ⟨_, rfl⟩
    obtain ⟨hz1, hz⟩ := len_one S n hn
    obtain ⟨e, hev⟩ : ∃ m, S.isEmpty = m := ⟨_, rfl⟩
    rw [hev] at hz1 ⊢
    rw [hmv] at hm ⊢
    rw [hn]
    clear hml hmv hev hn
    go_enter Try.func56, Try.ntmps56
    cases e <;> cases m <;> (go_wp2_with fail; go_ret; exact ⟨rfl, 0, rfl⟩)
  | p :: P, [], v1, v2, w, hP, _, h1, h2 => by
    obtain ⟨b1, o1, c1, v1', rfl, e1, q1, r1⟩ := h1.cons
    obtain ⟨b2, o2, c2, rfl⟩ := h2.nil
    have hm := eq_many p
    have hml : meetsL (p :: P) [] = ((P.isEmpty && p == many) || false) := rfl
    rw [hml]
    obtain ⟨m, hmv⟩ : ∃ m, (p == many) = m := ⟨_, rfl⟩
    obtain ⟨n, hn⟩ : ∃ n, P.length = n := ⟨_, rfl⟩
    obtain ⟨hz1, hz⟩ := len_one P n hn
    obtain ⟨e, hev⟩ : ∃ m, P.isEmpty = m := ⟨_, rfl⟩
    rw [hev] at hz1 ⊢
    rw [hmv] at hm ⊢
    rw [hn]
    clear hml hmv hev hn
    go_enter Try.func56, Try.ntmps56
    cases e <;> cases m <;> (go_wp2_with fail; go_ret; exact ⟨rfl, 0, rfl⟩)
  | p :: P, s :: S, v1, v2, w, hP, hS, h1, h2 => by
    obtain ⟨b1, o1, c1, v1', rfl, e1, q1, r1⟩ := h1.cons
    obtain ⟨b2, o2, c2, v2', rfl, e2, q2, r2⟩ := h2.cons
    have hm := eq_many p
    have hm2 := eq_many s
    have ho := eq_one p
    have ho2 := eq_one s
    have hps := eq_bool p s
    have IH := fun n => refMeets_any P S v1' v2' (w.drewN n) (by simp at hP; omega) (by simp at hS; omega) (q1.below (below_drewN w n)) (q2.below (below_drewN w n))
    have hml : meetsL (p :: P) (s :: S) = ((P.isEmpty && p == many) || ((S.isEmpty && s == many) || ((p == one || (s == one || p == s)) && meetsL P S))) := rfl
    rw [hml]
    obtain ⟨m, hmv⟩ : ∃ m, (p == many) = m := ⟨_, rfl⟩
    obtain ⟨m2, hmv2⟩ : ∃ m, (s == many) = m := ⟨_, rfl⟩
    obtain ⟨o, hov⟩ : ∃ m, (p == one) = m := ⟨_, rfl⟩
    obtain ⟨o', hov2⟩ : ∃ m, (s == one) = m := ⟨_, rfl⟩
    obtain ⟨d, hdv⟩ : ∃ m, (p == s) = m := ⟨_, rfl⟩
    obtain ⟨r, hrv⟩ : ∃ m, meetsL P S = m := ⟨_, rfl⟩
    rw [hrv] at IH
    rw [hmv] at hm; rw [hmv2] at hm2; rw [hov] at ho; rw [hov2] at ho2; rw [hdv] at hps
    rw [hmv, hmv2, hov, hov2, hdv, hrv]
    obtain ⟨n, hn⟩ : ∃ n, P.length = n := ⟨_, rfl⟩
    obtain ⟨k, hk⟩ : ∃ n, S.length = n := ⟨_, rfl⟩
    obtain ⟨hz1, hz⟩ := len_one P n hn
    obtain ⟨hz3, hz2⟩ := len_one S k hk
    obtain ⟨e, hev⟩ : ∃ m, P.isEmpty = m := ⟨_, rfl⟩
    obtain ⟨e', hev2⟩ : ∃ m, S.isEmpty = m := ⟨_, rfl⟩
    rw [hev] at hz1 ⊢
    rw [hev2] at hz3 ⊢
    rw [hn] at r1 ⊢
    rw [hk] at r2 ⊢
    have HI := Lib.hid IH
    clear IH hml hmv hmv2 hov hov2 hdv hrv hev hev2 hn hk h1 h2 hP hS q1 q2
    go_enter Try.func56, Try.ntmps56
    by_cases hem : e = true ∧ m = true
    · obtain ⟨rfl, rfl⟩ := hem
      go_wp2_with fail; go_ret; exact ⟨rfl, 0, rfl⟩
    have hgo : ∀ (Q : Prop), (e = false → Q) → (e = true → m = false → Q) → Q := by
      intro Q h1 h2
      cases e with
      | false => exact h1 rfl
      | true => cases m with
        | false => exact h2 rfl rfl
        | true => exact absurd ⟨rfl, rfl⟩ hem
    clear hem
    by_cases hem : e' = true ∧ m2 = true
    · obtain ⟨rfl, rfl⟩ := hem
      refine hgo _ ?_ ?_ <;> (intros; subst_vars; go_wp2_with fail; go_ret; exact ⟨by simp, 0, rfl⟩)
    have hgo2 : ∀ (Q : Prop), (e' = false → Q) → (e' = true → m2 = false → Q) → Q := by
      intro Q h1 h2
      cases e' with
      | false => exact h1 rfl
      | true => cases m2 with
        | false => exact h2 rfl rfl
        | true => exact absurd ⟨rfl, rfl⟩ hem
    clear hem
    refine hgo _ ?_ ?_ <;> (first | (refine fun (h : e = true) (h' : m = false) => ?_; subst h; subst h') | (refine fun (h : e = false) => ?_; subst h))
    all_goals (refine hgo2 _ ?_ ?_ <;> (first | (refine fun (h : e' = true) (h' : m2 = false) => ?_; subst h; subst h') | (refine fun (h : e' = false) => ?_; subst h)))
    all_goals clear hgo hgo2
    all_goals go_wp2_with fail
    all_goals
      cases o with
      | true =>
        go_quiet ((go_at_call 56; exact Calls.quiet_of (HI.out _)))
        go_wp2_with fail
        go_ret
        exact ⟨by simp, _, rfl⟩
      | false =>
        cases o' with
        | true =>
          go_quiet ((go_at_call 56; exact Calls.quiet_of (HI.out _)))
          go_wp2_with fail
          go_ret
          exact ⟨by simp, _, rfl⟩
        | false =>
          cases d with
          | true =>
            go_quiet ((go_at_call 56; exact Calls.quiet_of (HI.out _)))
            go_wp2_with fail
            go_ret
            exact ⟨by simp, _, rfl⟩
          | false =>
            go_quiet (fail)
            go_wp2_with fail
            go_ret
            exact ⟨by simp, _, rfl⟩
end Go.Proofs.Ytbpphghphfbogaa.P8
