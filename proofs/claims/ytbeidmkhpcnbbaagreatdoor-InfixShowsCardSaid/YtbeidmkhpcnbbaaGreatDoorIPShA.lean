/-
  Contracts of the program of layer 4, to show: levels, numbers, brackets.
-/
import Derived.Test.YtbeidmkhpcnbbaaGreatDoorIPCall
import Derived.Test.YtbeidmkhpcnbbaaGreatDoorIShow
import Derived.Laws.Tables
namespace Go.Proofs.YtbeidmkhpcnbbaaGreatDoor.I
open Go Go.RowKit Go.Proofs.YtbeidmkhpcnbbaaGreatDoor.B Go.Proofs.YtbeidmkhpcnbbaaGreatDoor.K Go.Proofs.YtbeidmkhpcnbbaaGreatDoor.E
set_option linter.unusedVariables false

/-- The level whose rule makes an instruction. -/
def lvl (o : Int) : Int := if o = 4 ∨ o = 5 then 2 else if o = 8 then 3 else if o = 6 ∨ o = 7 then 4 else if o = 11 ∨ o = 12 ∨ o = 13 then 5 else if o = 14 then 6 else if o = 15 then 7 else 1

set_option maxHeartbeats 2000000 in
theorem level_any (o : Int) (h1 : 1 ≤ o) (h2 : o ≤ 16) (w : World) : Calls Tryz.prog 29 #[.int .i64 o] w fun e w' => e = .returned (.int .i64 (lvl o)) ∧ w = w' := by
  rcases (show o = 1 ∨ o = 2 ∨ o = 3 ∨ o = 4 ∨ o = 5 ∨ o = 6 ∨ o = 7 ∨ o = 8 ∨ o = 9 ∨ o = 10 ∨ o = 11 ∨ o = 12 ∨ o = 13 ∨ o = 14 ∨ o = 15 ∨ o = 16 by omega) with rfl | rfl | rfl | rfl | rfl | rfl | rfl | rfl | rfl | rfl | rfl | rfl | rfl | rfl | rfl | rfl
  all_goals
    go_enter Tryz.func29, Tryz.ntmps29
    go_wp2_with fail
    go_ret
    exact ⟨rfl, rfl⟩

theorem decDigits_dig (n : Nat) : Lib.decDigits n = dig n := by
  induction n using Nat.strongRecOn with
  | _ n ih =>
    rw [Lib.decDigits]
    by_cases h : n < 10
    · rw [dif_pos h, dig_small n h]
    · rw [dif_neg h, dig_big n h, ih (n / 10) (by omega)]

/-- A number's digits, with its sign. -/
def itoa (n : Int) : Bs := if n < 0 then 45 :: dig n.natAbs else dig n.toNat
theorem itoa_is (n : Int) : Lib.itoa n = itoa n := by unfold Lib.itoa itoa; rw [decDigits_dig, decDigits_dig]

theorem below_grown (w : World) (k : Nat) (os : Array Obj) : Below w.heap.size w (Sort.grow (w.drewN k) os) :=
  ⟨rfl, rfl, rfl, by show w.heap.size ≤ (w.heap ++ os).size; simp, fun i hi => by show (w.heap ++ os)[i]? = _; rw [Array.getElem?_append_left hi]⟩

theorem itoa_any (n : Int) (h0 : -9223372036854775808 ≤ n) (h1 : n ≤ 9223372036854775807) (w : World) (hg : Glob w) : Calls Tryz.prog 26 #[.int .i64 n] w fun e w' => e = .returned (sv (itoa n)) ∧ Below w.heap.size w w' := by
  refine (S.strconv_Itoa n h0 h1 w hg.tens).mono ?_
  rintro e w' ⟨rfl, k, os, rfl⟩
  exact ⟨by rw [itoa_is]; rfl, below_grown w k os⟩

/-- A text with brackets around it. -/
def brk (s : Bs) : Bs := [40] ++ s ++ [41]
theorem brk_eq (s : Bs) : ((⟨#[40]⟩ : ByteArray) ++ str s ++ ⟨#[41]⟩) = str (brk s) := by
  show str [40] ++ str s ++ str [41] = _
  rw [str_append, str_append]; rfl

set_option maxHeartbeats 1000000 in
set_option maxRecDepth 100000 in
theorem bracketed_any (s : Bs) (l : Int) (w : World) (hs : s.length ≤ 281474976710000) : Calls Tryz.prog 47 #[.agg #[sv s, .int .i64 l]] w fun e w' => e = .returned (sv (brk s)) ∧ Below w.heap.size w w' := by
  have h1 : (str [40]).size + (str s).size ≤ 281474976710656 := by rw [str_size, str_size]; simp only [List.length_cons, List.length_nil]; omega
  have e1 : str [40] ++ str s = str ([40] ++ s) := str_append _ _
  have h2 : (str ([40] ++ s)).size + (str [41]).size ≤ 281474976710656 := by rw [str_size, str_size]; simp only [List.length_append, List.length_cons, List.length_nil]; omega
  have e2 : str ([40] ++ s) ++ str [41] = str ([40] ++ s ++ [41]) := str_append _ _
  have hsz : (str s).size = s.length := str_size s
  unfold sv
  go_enter Tryz.func47, Tryz.ntmps47
  go_wp2_with fail
  go_ret
  exact ⟨ret_str (brk_eq s), (Below.refl _ _).alloc (Nat.le_refl _) _⟩

/-- Where the grammar asks for a level. -/
def upto (p : Bs × Int) (l : Int) : Bs := if l < p.2 then brk p.1 else p.1

set_option maxHeartbeats 1000000 in
set_option maxRecDepth 100000 in
theorem upTo_any (s : Bs) (l m : Int) (w : World) (hs : s.length ≤ 281474976710000) : Calls Tryz.prog 48 #[.agg #[sv s, .int .i64 l], .int .i64 m] w fun e w' => e = .returned (sv (upto (s, l) m)) ∧ Below w.heap.size w w' := by
  have HB := Lib.hid (fun W => bracketed_any s l W hs)
  have hb0 := (Below.refl w.heap.size w).alloc (Nat.le_refl _) (.cells #[.string (str s), .int .i64 l] 41)
  have HB0 := Lib.hid hb0
  unfold sv at HB ⊢
  clear hb0
  by_cases h : m < l
  · have hu : upto (s, l) m = brk s := if_pos h
    rw [hu]
    go_enter Tryz.func48, Tryz.ntmps48
    go_wp2_with (go_at_call 47; refine (HB.out _).mono ?_; rintro _ w1 ⟨rfl, hb1⟩; have HB1 := Lib.hid (HB0.out.trans (hb1.mono HB0.out.size)); clear hb1)
    go_ret
    exact ⟨rfl, HB1.out⟩
  · have hu : upto (s, l) m = s := if_neg h
    rw [hu]
    go_enter Tryz.func48, Tryz.ntmps48
    go_wp2_with fail
    go_ret
    exact ⟨rfl, HB0.out⟩

set_option maxHeartbeats 1000000 in
set_option maxRecDepth 100000 in
theorem clone_any (s : Bs) (w : World) (hs : s.length ≤ 281474976710656) : Calls Tryz.prog 25 #[sv s] w fun e w' => e = .returned (sv s) ∧ Below w.heap.size w w' := by
  have HC := Lib.hid (fun W => S.stringslite_Clone (str s) W (by rw [str_size]; exact hs))
  unfold sv
  clear hs
  go_enter Tryz.func25, Tryz.ntmps25
  go_wp2_with (go_at_call 44; refine (HC.out _).mono ?_; rintro _ w1 ⟨rfl, hb1⟩; have HB1 := Lib.hid hb1; clear hb1)
  go_ret
  exact ⟨rfl, HB1.out⟩

theorem row_below' (W : World) (B g : Nat) (cs : Array Value) (hB : B ≤ W.heap.size) (hg : B ≤ g) : Below B W (W.setRow g cs) :=
  Below.grown (Below.refl B W) ⟨rfl, rfl, rfl, by simp, fun j _ hj => setRow_other W g j _ (fun e => hj (by rw [e]))⟩ hB (row := some g) (fun j hj => by cases hj; omega)

theorem piece_cells {w : World} {N : Nat} {cs : Array Value} (h : w.heap[N]? = some (.cells cs 41 (0, 0))) (j : Nat) (hj : j < cs.size) : w.cell? ⟨N, j, none⟩ = some cs[j] ∧ w.frozen? ⟨N, j, none⟩ = false := by
  refine ⟨by rw [cell_of_row _ _ _ _ _ _ h]; simp [hj], (row_cell h hj).choose_spec.2⟩

set_option maxHeartbeats 1000000 in
set_option maxRecDepth 100000 in
theorem number_any (n : Int) (h0 : -9223372036854775808 ≤ n) (h1 : n ≤ 9223372036854775807) (w : World) (hg : Glob w) : Calls Tryz.prog 24 #[.int .i64 n] w fun e w' => e = .returned (.agg #[sv (itoa n), .int .i64 (if n < 0 then 2 else 0)]) ∧ Below w.heap.size w w' := by
  have HI := Lib.hid (fun W hW => itoa_any n h0 h1 W hW)
  obtain ⟨s, hs⟩ : ∃ s, itoa n = s := ⟨_, rfl⟩
  rw [hs] at HI ⊢
  have hb0 := (Below.refl w.heap.size w).alloc (Nat.le_refl _) (.cells #[.string ⟨#[]⟩, .int .i64 0] 41)
  have HG := Lib.hid (hg.below hb0)
  have HB0 := Lib.hid hb0
  unfold sv at HI ⊢
  clear hb0 hg h0 h1 hs
  have HI1 := Lib.hid (show (Tryz.prog.info? 41).map (·.size) = some (#[Value.string (str s), .int .i64 0] : Array Value).size by kernel_rfl)
  by_cases h : n < 0
  · rw [if_pos h]
    go_enter Tryz.func24, Tryz.ntmps24
    go_wp2_with (go_at_call 26; refine (HI.out _ HG.out).mono ?_; rintro _ w1 ⟨rfl, hb1⟩; have hrow := (hb1.block w.heap.size (by simp)).trans (heap_alloc_at w _); have HROW := Lib.hid hrow; have HB1 := Lib.hid hb1; obtain ⟨k0, z0⟩ := piece_cells hrow 0 (by decide); obtain ⟨k1, z1⟩ := piece_cells hrow 1 (by decide); clear hb1 hrow)
    have hr2 := heap_setCell_same _ w.heap.size 1 _ 41 (.int .i64 2) (heap_setCell_same w1 w.heap.size 0 _ 41 (.string (str s)) HROW.out)
    refine bodyPost_ret (v := .agg #[.string (str s), .int .i64 2]) (results_cell_row rfl _ _ w.heap.size 41 #[.string (str s), .int .i64 2] (0, 0) _ rfl hr2 Tryz.underlying41 rfl HI1.out) rfl ?_
    exact ⟨rfl, ((HB0.out.trans (HB1.out.mono HB0.out.size)).setCell (Nat.le_refl _) _).setCell (Nat.le_refl _) _⟩
  · rw [if_neg h]
    go_enter Tryz.func24, Tryz.ntmps24
    go_wp2_with (go_at_call 26; refine (HI.out _ HG.out).mono ?_; rintro _ w1 ⟨rfl, hb1⟩; have hrow := (hb1.block w.heap.size (by simp)).trans (heap_alloc_at w _); have HROW := Lib.hid hrow; have HB1 := Lib.hid hb1; obtain ⟨k0, z0⟩ := piece_cells hrow 0 (by decide); obtain ⟨k1, z1⟩ := piece_cells hrow 1 (by decide); clear hb1 hrow)
    have hr2 := heap_setCell_same _ w.heap.size 1 _ 41 (.int .i64 0) (heap_setCell_same w1 w.heap.size 0 _ 41 (.string (str s)) HROW.out)
    refine bodyPost_ret (v := .agg #[.string (str s), .int .i64 0]) (results_cell_row rfl _ _ w.heap.size 41 #[.string (str s), .int .i64 0] (0, 0) _ rfl hr2 Tryz.underlying41 rfl HI1.out) rfl ?_
    exact ⟨rfl, ((HB0.out.trans (HB1.out.mono HB0.out.size)).setCell (Nat.le_refl _) _).setCell (Nat.le_refl _) _⟩
end Go.Proofs.YtbeidmkhpcnbbaaGreatDoor.I
