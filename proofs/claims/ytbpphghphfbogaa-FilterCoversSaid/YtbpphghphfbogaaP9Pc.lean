/-
  Layer 9, the program: Has, Covers, Meet.
-/
import Derived.Test.YtbpphghphfbogaaP9Pa
import Derived.Test.YtbpphghphfbogaaP9Pb
namespace Go.Proofs.Ytbpphghphfbogaa.P8
open Go Go.RowKit Go.Shelf Go.Proofs Go.Proofs.Ytbpphghphfbogaa.B Go.Proofs.Ytbpphghphfbogaa.K
set_option linter.unusedVariables false
set_option maxRecDepth 100000

theorem tss1 {w : World} {u : Value} {l : List (List UInt8)} (h : Ts w u l) : Tss (w.alloc (.cells #[u] 22)) (.slice (some ⟨w.heap.size, 0, none⟩) 1 1) [l] := by
  refine ⟨[u], Sl.row (cap := 1) (xs := [u]) (heap_alloc_at w _) rfl, rfl, fun j x m hx hm => ?_⟩
  match j, hx, hm with
  | 0, hx, hm =>
    simp at hx hm
    subst hx hm
    exact h.below (below_new w _)
theorem tss2 {w : World} {u v : Value} {l m : List (List UInt8)} (h : Ts w u l) (h' : Ts w v m) : Tss (w.alloc (.cells #[u, v] 22)) (.slice (some ⟨w.heap.size, 0, none⟩) 2 2) [l, m] := by
  refine ⟨[u, v], Sl.row (cap := 2) (xs := [u, v]) (heap_alloc_at w _) rfl, rfl, fun j x y hx hm => ?_⟩
  match j, hx, hm with
  | 0, hx, hm =>
    simp at hx hm
    subst hx hm
    exact h.below (below_new w _)
  | 1, hx, hm =>
    simp at hx hm
    subst hx hm
    exact h'.below (below_new w _)

theorem push_modify {X : Type} (a : Array X) (x : X) (f : X → X) : (a.push x).modify a.size f = a.push (f x) := by
  apply Array.ext_getElem?
  intro i
  rw [Array.getElem?_modify, Array.getElem?_push, Array.getElem?_push]
  by_cases h : a.size = i
  · subst h; simp
  · rw [if_neg h, if_neg (fun e => h e.symm), if_neg (fun e => h e.symm)]
theorem alloc_set (w : World) (z v : Value) (e : TypeId) : (w.alloc (.cells #[z] e)).setCell ⟨w.heap.size, 0, none⟩ v = w.alloc (.cells #[v] e) := by
  unfold World.setCell World.alloc
  simp only [push_modify]
  rfl
theorem frozen_one {w : World} {A : Nat} {v : Value} {e : TypeId} (h : w.heap[A]? = some (.cells #[v] e (0, 0))) : w.frozen? ⟨A, 0, none⟩ = false := by simp [World.frozen?, h]
/-- A new cell is filled, whatever with. -/
theorem run_store_new (P : Program) (w : World) (z v : Value) (e : TypeId) (hv : v.oneCell' = true) : (store ⟨w.heap.size, 0, none⟩ v).run P (w.alloc (.cells #[z] e)) = .ok () (w.alloc (.cells #[v] e)) := by
  have hg := heap_alloc_at w (.cells #[z] e)
  have h1 : (w.alloc (.cells #[z] e)).cell? ⟨w.heap.size, 0, none⟩ = some z := cell_one hg
  have h2 : (w.alloc (.cells #[z] e)).frozen? ⟨w.heap.size, 0, none⟩ = false := frozen_one hg
  rw [run_store P _ _ _ _ hv, h1, h2, ← alloc_set w z v e]
  rfl

theorem holds_match : HoldsIs 27 matT := fun p s W hp hs => match_any p s hp hs W
theorem holds_covers : HoldsIs 32 covT := fun p s W hp hs => covers_any p s hp hs W
theorem holds_meets : HoldsIs 36 metT := fun p s W hp hs => meets_any p s hp hs W
theorem ent_match : Ent 27 := fun args w => enters_of Try.func27 (by kernel_rfl) rfl args w
theorem ent_covers : Ent 32 := fun args w => enters_of Try.func32 (by kernel_rfl) rfl args w
theorem ent_meets : Ent 36 := fun args w => enters_of Try.func36 (by kernel_rfl) rfl args w
theorem ent_bare : Ent 33 := fun args w => enters_of Try.func33 (by kernel_rfl) rfl args w

theorem err_one {l : List (List UInt8)} : (errF [l] == 0) = right9 l := by
  rw [Bool.eq_iff_iff, beq_iff_eq, errF_zero]
  simp
theorem err_two {l m : List (List UInt8)} : (errF [l, m] == 0) = (right9 l && right9 m) := by
  rw [Bool.eq_iff_iff, beq_iff_eq, errF_zero]
  simp

set_option maxHeartbeats 1000000 in
theorem has_any (l : List (List UInt8)) (s : List UInt8) (v : Value) (w : World) (h : Ts w v l) (hB : Bd l) (hs : s.length ≤ 9223372036854775807) :
    Calls Try.prog 12 #[v, .string (str s)] w fun e w' => e = .returned (.bool (hasF l s)) ∧ Below w.heap.size w w' := by
  obtain ⟨a, cap, rfl, -⟩ := id h.open
  obtain ⟨N, hN⟩ : ∃ N, l.length = N := ⟨_, rfl⟩
  rw [hN] at h ⊢
  have hb0 := below_new w (.cells #[.slice a N cap] 22)
  have HF := Lib.hid (firstError_any [l] _ _ (tss1 h) (by simp) (fun m hm x hx => by simp at hm; subst hm; exact hB.big x hx))
  obtain ⟨e9, he⟩ : ∃ e, errF [l] = e := ⟨_, rfl⟩
  have her : (e9 == 0) = right9 l := by rw [← he]; exact err_one
  rw [he] at HF
  have HO := Lib.hid (fun W => oneOf_any a N cap 27 W)
  have H1 := Lib.hid (fun (A B : Nat) (W : World) (hO : OneIs W A B (.slice a N cap) 27) (hW : Below w.heap.size w W) => one1_any _ A B matT ent_match holds_match l s _ W hO (h.below hW) hB hs)
  have e1 := ent_one1
  unfold Ent at e1
  have HB0 := Lib.hid hb0
  obtain ⟨c, hc⟩ : ∃ c, (l.any fun x => matT x s) = c := ⟨_, rfl⟩
  have hR : hasF l s = (c && right9 l) := by unfold hasF; rw [hc]
  rw [hc] at H1
  rw [hR]
  obtain ⟨r, hr⟩ : ∃ r, right9 l = r := ⟨_, rfl⟩
  rw [hr] at her ⊢
  clear hR hc he hr hb0 hN h hB
  cases r with
  | false =>
    go_enter Try.func12, Try.ntmps12
    go_wp2_with (go_at_call 25; refine HF.out.mono ?_; rintro _ w1 ⟨rfl, hb1⟩; have HB1 := Lib.hid hb1; clear hb1)
    go_ret
    exact ⟨by rw [Bool.and_false]; rfl, HB0.out.trans (HB1.out.mono HB0.out.size)⟩
  | true =>
    go_enter Try.func12, Try.ntmps12
    go_wp2_with (first
      | (go_at_call 25; refine HF.out.mono ?_; rintro _ w1 ⟨rfl, hb1⟩; have HB1 := Lib.hid (HB0.out.trans (hb1.mono HB0.out.size)); clear hb1)
      | (go_at_call 26; refine (HO.out _).mono ?_; rintro _ w2 ⟨A, B, rfl, hO, hb2⟩; have HB2 := Lib.hid (HB1.out.trans (hb2.mono HB1.out.size)); have HOO := Lib.hid hO; clear hb2 hO))
    refine (H1.out A B w2 HOO.out HB2.out).mono ?_
    rintro _ w3 ⟨rfl, hb3⟩
    have HB3 := Lib.hid (HB2.out.trans (hb3.mono HB2.out.size))
    clear hb3
    go_wp2_with fail
    go_ret
    exact ⟨by rw [Bool.and_true]; rfl, HB3.out⟩

set_option maxHeartbeats 1000000 in
theorem meet9_any (l m : List (List UInt8)) (v u : Value) (w : World) (h : Ts w v l) (h' : Ts w u m) (hB : Bd l) (hB' : Bd m) :
    Calls Try.prog 19 #[v, u] w fun e w' => e = .returned (.bool (metF l m)) ∧ Below w.heap.size w w' := by
  obtain ⟨a, cap, rfl, -⟩ := id h.open
  obtain ⟨a', cap', rfl, -⟩ := id h'.open
  obtain ⟨N, hN⟩ : ∃ N, l.length = N := ⟨_, rfl⟩
  obtain ⟨M, hM⟩ : ∃ N, m.length = N := ⟨_, rfl⟩
  rw [hN] at h ⊢
  rw [hM] at h' ⊢
  have hb0 := below_new w (.cells #[.slice a N cap, .slice a' M cap'] 22)
  have HF := Lib.hid (firstError_any [l, m] _ _ (tss2 h h') (by simp) (fun n hn x hx => by simp at hn; rcases hn with rfl | rfl; exact hB.big x hx; exact hB'.big x hx))
  obtain ⟨e9, he⟩ : ∃ e, errF [l, m] = e := ⟨_, rfl⟩
  have her : (e9 == 0) = (right9 l && right9 m) := by rw [← he]; exact err_two
  rw [he] at HF
  have HO := Lib.hid (fun W => oneOf_any a N cap 36 W)
  have H1 := Lib.hid (fun (A B : Nat) (W : World) (hO : OneIs W A B (.slice a N cap) 36) (hW : Below w.heap.size w W) =>
    containsFunc_any m (.slice a' M cap') 44 #[.pointer (some ⟨A, 0, none⟩), .pointer (some ⟨B, 0, none⟩)] (fun y => l.any fun x => metT x y) W (h'.below hW) hB'.1 ent_one1
      (fun W' y hy hW' => one1_any _ A B metT ent_meets holds_meets l y _ W' (hO.below hW') (h.below (hW.trans (hW'.mono hW.size))) hB (hB'.big y hy)))
  have e1 := ent_one1
  unfold Ent at e1
  have HB0 := Lib.hid hb0
  obtain ⟨c, hc⟩ : ∃ c, (m.any fun y => l.any fun x => metT x y) = c := ⟨_, rfl⟩
  have hR : metF l m = (c && (right9 l && right9 m)) := by unfold metF; rw [hc]
  rw [hc] at H1
  rw [hR]
  obtain ⟨r, hr⟩ : ∃ r, (right9 l && right9 m) = r := ⟨_, rfl⟩
  rw [hr] at her ⊢
  clear hR hc he hr hb0 hN h hB hM h' hB'
  cases r with
  | false =>
    go_enter Try.func19, Try.ntmps19
    go_wp2_with (go_at_call 25; refine HF.out.mono ?_; rintro _ w1 ⟨rfl, hb1⟩; have HB1 := Lib.hid hb1; clear hb1)
    go_ret
    exact ⟨by rw [Bool.and_false]; rfl, HB0.out.trans (HB1.out.mono HB0.out.size)⟩
  | true =>
    go_enter Try.func19, Try.ntmps19
    go_wp2_with (first
      | (go_at_call 25; refine HF.out.mono ?_; rintro _ w1 ⟨rfl, hb1⟩; have HB1 := Lib.hid (HB0.out.trans (hb1.mono HB0.out.size)); clear hb1)
      | (go_at_call 26; refine (HO.out _).mono ?_; rintro _ w2 ⟨A, B, rfl, hO, hb2⟩; have HB2 := Lib.hid (HB1.out.trans (hb2.mono HB1.out.size)); have HOO := Lib.hid hO; clear hb2 hO)
      | (go_at_call 34; refine (H1.out A B w2 HOO.out HB2.out).mono ?_; rintro _ w3 ⟨rfl, hb3⟩; have HB3 := Lib.hid (HB2.out.trans (hb3.mono HB2.out.size)); clear hb3))
    go_ret
    exact ⟨by rw [Bool.and_true]; rfl, HB3.out⟩

set_option maxHeartbeats 1000000 in
/-- What asks whether a pattern is covered by none. -/
theorem bare_any (C A B : Nat) (l : List (List UInt8)) (s : List UInt8) (v : Value) (w : World) (e : TypeId) (hC : w.heap[C]? = some (.cells #[.func (.func 44) #[] #[.pointer (some ⟨A, 0, none⟩), .pointer (some ⟨B, 0, none⟩)]] e (0, 0)))
    (hO : OneIs w A B v 32) (hT : Ts w v l) (hB : Bd l) (hs : s.length ≤ 9223372036854775807) :
    Calls Try.prog 33 #[.string (str s), .pointer (some ⟨C, 0, none⟩)] w fun e w' => e = .returned (.bool (!(l.any fun x => covT x s))) ∧ Below w.heap.size w w' := by
  have h1 := cell_one hC
  have H1 := Lib.hid (one1_any _ A B covT ent_covers holds_covers l s v w hO hT hB hs)
  have e1 := ent_one1
  unfold Ent at e1
  obtain ⟨c, hc⟩ : ∃ c, (l.any fun x => covT x s) = c := ⟨_, rfl⟩
  rw [hc] at H1 ⊢
  clear hc hC hO hT
  go_enter Try.func33, Try.ntmps33
  go_wp2_with fail
  refine H1.out.mono ?_
  rintro _ w3 ⟨rfl, hb3⟩
  have HB3 := Lib.hid hb3
  clear hb3
  go_wp2_with fail
  go_ret
  exact ⟨rfl, HB3.out⟩

set_option maxHeartbeats 1000000 in
theorem covers9_any (l m : List (List UInt8)) (v u : Value) (w : World) (h : Ts w v l) (h' : Ts w u m) (hB : Bd l) (hB' : Bd m) :
    Calls Try.prog 17 #[v, u] w fun e w' => e = .returned (.bool (covF l m)) ∧ Below w.heap.size w w' := by
  obtain ⟨a, cap, rfl, -⟩ := id h.open
  obtain ⟨a', cap', rfl, -⟩ := id h'.open
  obtain ⟨N, hN⟩ : ∃ N, l.length = N := ⟨_, rfl⟩
  obtain ⟨M, hM⟩ : ∃ N, m.length = N := ⟨_, rfl⟩
  rw [hN] at h ⊢
  rw [hM] at h' ⊢
  have HF := Lib.hid (fun (W : World) (hW : Below w.heap.size w W) => firstError_any [l, m] _ _ (tss2 (h.below hW) (h'.below hW)) (by simp) (fun n hn x hx => by simp at hn; rcases hn with rfl | rfl; exact hB.big x hx; exact hB'.big x hx))
  obtain ⟨e9, he⟩ : ∃ e, errF [l, m] = e := ⟨_, rfl⟩
  have her : (e9 == 0) = (right9 l && right9 m) := by rw [← he]; exact err_two
  rw [he] at HF
  have HO := Lib.hid (fun W => oneOf_any a N cap 32 W)
  have H1 := Lib.hid (fun (A B C : Nat) (W : World) (hO : OneIs W A B (.slice a N cap) 32) (hC : W.heap[C]? = some (.cells #[.func (.func 44) #[] #[.pointer (some ⟨A, 0, none⟩), .pointer (some ⟨B, 0, none⟩)]] 39 (0, 0))) (hW : Below w.heap.size w W) =>
    containsFunc_any m (.slice a' M cap') 33 #[.pointer (some ⟨C, 0, none⟩)] (fun y => !(l.any fun x => covT x y)) W (h'.below hW) hB'.1 ent_bare
      (fun W' y hy hW' => bare_any C A B l y _ W' _ ((hW'.block _ (Array.getElem?_eq_some_iff.1 hC).1).trans hC) (hO.below hW') (h.below (hW.trans (hW'.mono hW.size))) hB (hB'.big y hy)))
  obtain ⟨c, hc⟩ : ∃ c, (m.any fun y => !(l.any fun x => covT x y)) = c := ⟨_, rfl⟩
  have hR : covF l m = (!c && (right9 l && right9 m)) := by unfold covF; rw [← hc, List.not_any_eq_all_not]; simp
  rw [hc] at H1
  rw [hR]
  obtain ⟨r, hr⟩ : ∃ r, (right9 l && right9 m) = r := ⟨_, rfl⟩
  rw [hr] at her ⊢
  clear hR hc he hr hN h hB hM h' hB'
  go_enter Try.func17, Try.ntmps17
  go_wp2_with fail
  refine (HO.out _).mono ?_
  rintro _ w1 ⟨A, B, rfl, hO, hb1⟩
  have hCC := heap_alloc_at w1 (.cells #[.func (.func 44) #[] #[.pointer (some ⟨A, 0, none⟩), .pointer (some ⟨B, 0, none⟩)]] 39)
  have HC := Lib.hid hCC
  have HO1 := Lib.hid hO
  have HB1 := Lib.hid hb1
  clear hCC hO hb1
  have hst := run_store_new Try.prog w1 .nilFunc (.func (.func 44) #[] #[.pointer (some ⟨A, 0, none⟩), .pointer (some ⟨B, 0, none⟩)]) 39 rfl
  have hbA := below_new w1 (.cells #[.func (.func 44) #[] #[.pointer (some ⟨A, 0, none⟩), .pointer (some ⟨B, 0, none⟩)]] 39)
  obtain ⟨W2, hW2⟩ : ∃ W, w1.alloc (.cells #[.func (.func 44) #[] #[.pointer (some ⟨A, 0, none⟩), .pointer (some ⟨B, 0, none⟩)]] 39) = W := ⟨_, rfl⟩
  rw [hW2] at hst HC hbA
  have HB2 := Lib.hid (HB1.out.trans (hbA.mono HB1.out.size))
  have HO2 := Lib.hid (HO1.out.below hbA)
  clear hbA hW2
  have hb0 := below_new W2 (.cells #[.slice a N cap, .slice a' M cap'] 22)
  have HF1 := Lib.hid (HF.out W2 HB2.out)
  have HC3 := Lib.hid ((hb0.block _ (Array.getElem?_eq_some_iff.1 HC.out).1).trans HC.out)
  have HO3 := Lib.hid (HO2.out.below hb0)
  have HB3 := Lib.hid (HB2.out.trans (hb0.mono HB2.out.size))
  clear hb0 HF
  cases r with
  | false =>
    go_wp2_with (go_at_call 25; refine HF1.out.mono ?_; rintro _ w4 ⟨rfl, hb1⟩; have HB4 := Lib.hid (HB3.out.trans (hb1.mono HB3.out.size)); clear hb1)
    go_ret
    exact ⟨by rw [Bool.and_false]; rfl, HB4.out⟩
  | true =>
    go_wp2_with (first
      | (go_at_call 25; refine HF1.out.mono ?_; rintro _ w4 ⟨rfl, hb1⟩; have HB4 := Lib.hid (HB3.out.trans (hb1.mono HB3.out.size)); have HO4 := Lib.hid (HO3.out.below hb1); have HC4 := Lib.hid ((hb1.block _ (Array.getElem?_eq_some_iff.1 HC3.out).1).trans HC3.out); clear hb1)
      | (go_at_call 34; refine (H1.out A B w1.heap.size w4 HO4.out HC4.out HB4.out).mono ?_; rintro _ w5 ⟨rfl, hb3⟩; have HB5 := Lib.hid (HB4.out.trans (hb3.mono HB4.out.size)); clear hb3))
    go_ret
    exact ⟨by rw [Bool.and_true]; rfl, HB5.out⟩
end Go.Proofs.Ytbpphghphfbogaa.P8
