/-
  Contracts of the program of layer 4, to show: levels, numbers, brackets.
  Layer 6: the program's numbers, names and places.
  Layer 6: where names stand: a map of the program's.
  Layer 5, the program's side: the small functions (unless, count, isPlace, ofName, ofPlace), and where a list has something.
-/
import Derived.Test.YtfooiggedgcjcaaGreatDoorIPCall
import Derived.Test.YtfooiggedgcjcaaGreatDoorTSpec
import Derived.Laws.Tables
import Derived.Test.YtfooiggedgcjcaaGreatDoorIPWords
import Derived.Test.YtfooiggedgcjcaaGreatDoorIPStep
import Derived.Maps.OwnSet
import Derived.StringKeys
import Derived.Deep.QuietTactic
import Derived.BigQuiet
namespace Go.Proofs.YtfooiggedgcjcaaGreatDoor.I
open Go Go.RowKit Go.Proofs.YtfooiggedgcjcaaGreatDoor.B Go.Proofs.YtfooiggedgcjcaaGreatDoor.K Go.Proofs.YtfooiggedgcjcaaGreatDoor.E
set_option linter.unusedVariables false

/-- The level whose rule makes an instruction. -/
def lvl (o : Int) : Int := if o = 4 ∨ o = 5 then 2 else if o = 8 then 3 else if o = 6 ∨ o = 7 then 4 else if o = 11 ∨ o = 12 ∨ o = 13 then 5 else if o = 14 then 6 else if o = 15 then 7 else 1

set_option maxHeartbeats 2000000 in
theorem level_any (o : Int) (h1 : 1 ≤ o) (h2 : o ≤ 16) (w : World) : Calls Tryz.prog 155 #[.int .i64 o] w fun e w' => e = .returned (.int .i64 (lvl o)) ∧ w = w' := by
  rcases (show o = 1 ∨ o = 2 ∨ o = 3 ∨ o = 4 ∨ o = 5 ∨ o = 6 ∨ o = 7 ∨ o = 8 ∨ o = 9 ∨ o = 10 ∨ o = 11 ∨ o = 12 ∨ o = 13 ∨ o = 14 ∨ o = 15 ∨ o = 16 by omega) with rfl | rfl | rfl | rfl | rfl | rfl | rfl | rfl | rfl | rfl | rfl | rfl | rfl | rfl | rfl | rfl
  all_goals
    go_enter Tryz.func155, Tryz.ntmps155
    go_wp2_with fail
    go_ret
    exact ⟨rfl, rfl⟩

theorem decDigits_dig (n : Nat) : Lib.decDigits n = dig n := by
  induction n using Nat.strongRecOn with
  | _ n ih =>
    rw [Lib.decDigits]
    by_cases h : n < 10
    · rw [dif_pos h, dig_small n h]
    · rw [dif_neg h, dig_big n h, ih (n / 10) (by omega)]

/-- A number's digits, with its sign. -/
def itoa (n : Int) : Bs := if n < 0 then 45 :: dig n.natAbs else dig n.toNat
theorem itoa_is (n : Int) : Lib.itoa n = itoa n := by unfold Lib.itoa itoa; rw [decDigits_dig, decDigits_dig]

theorem below_grown (w : World) (k : Nat) (os : Array Obj) : Below w.heap.size w (Sort.grow (w.drewN k) os) :=
  ⟨rfl, rfl, rfl, by show w.heap.size ≤ (w.heap ++ os).size; simp, fun i hi => by show (w.heap ++ os)[i]? = _; rw [Array.getElem?_append_left hi]⟩

theorem itoa_any (n : Int) (h0 : -9223372036854775808 ≤ n) (h1 : n ≤ 9223372036854775807) (w : World) (hg : Glob w) : Calls Tryz.prog 50 #[.int .i64 n] w fun e w' => e = .returned (sv (itoa n)) ∧ Below w.heap.size w w' := by
  refine (S.strconv_Itoa n h0 h1 w hg.tens).mono ?_
  rintro e w' ⟨rfl, k, os, rfl⟩
  exact ⟨by rw [itoa_is]; rfl, below_grown w k os⟩

/-- A text with brackets around it. -/
def brk (s : Bs) : Bs := [40] ++ s ++ [41]
theorem brk_eq (s : Bs) : ((⟨#[40]⟩ : ByteArray) ++ str s ++ ⟨#[41]⟩) = str (brk s) := by
  show str [40] ++ str s ++ str [41] = _
  rw [str_append, str_append]; rfl

set_option maxHeartbeats 1000000 in
set_option maxRecDepth 100000 in
theorem bracketed_any (s : Bs) (l : Int) (w : World) (hs : s.length ≤ 281474976710000) : Calls Tryz.prog 175 #[.agg #[sv s, .int .i64 l]] w fun e w' => e = .returned (sv (brk s)) ∧ Below w.heap.size w w' := by
  have h1 : (str [40]).size + (str s).size ≤ 281474976710656 := by rw [str_size, str_size]; simp only [List.length_cons, List.length_nil]; omega
  have e1 : str [40] ++ str s = str ([40] ++ s) := str_append _ _
  have h2 : (str ([40] ++ s)).size + (str [41]).size ≤ 281474976710656 := by rw [str_size, str_size]; simp only [List.length_append, List.length_cons, List.length_nil]; omega
  have e2 : str ([40] ++ s) ++ str [41] = str ([40] ++ s ++ [41]) := str_append _ _
  have hsz : (str s).size = s.length := str_size s
  unfold sv
  go_enter Tryz.func175, Tryz.ntmps175
  go_wp2_with fail
  go_ret
  exact ⟨ret_str (brk_eq s), (Below.refl _ _).alloc (Nat.le_refl _) _⟩

/-- Where the grammar asks for a level. -/
def upto (p : Bs × Int) (l : Int) : Bs := if l < p.2 then brk p.1 else p.1

set_option maxHeartbeats 1000000 in
set_option maxRecDepth 100000 in
theorem upTo_any (s : Bs) (l m : Int) (w : World) (hs : s.length ≤ 281474976710000) : Calls Tryz.prog 176 #[.agg #[sv s, .int .i64 l], .int .i64 m] w fun e w' => e = .returned (sv (upto (s, l) m)) ∧ Below w.heap.size w w' := by
  have HB := Lib.hid (fun W => bracketed_any s l W hs)
  have hb0 := (Below.refl w.heap.size w).alloc (Nat.le_refl _) (.cells #[.string (str s), .int .i64 l] 166)
  have HB0 := Lib.hid hb0
  unfold sv at HB ⊢
  clear hb0
  by_cases h : m < l
  · have hu : upto (s, l) m = brk s := if_pos h
    rw [hu]
    go_enter Tryz.func176, Tryz.ntmps176
    go_wp2_with (go_at_call 175; refine (HB.out _).mono ?_; rintro _ w1 ⟨rfl, hb1⟩; have HB1 := Lib.hid (HB0.out.trans (hb1.mono HB0.out.size)); clear hb1)
    go_ret
    exact ⟨rfl, HB1.out⟩
  · have hu : upto (s, l) m = s := if_neg h
    rw [hu]
    go_enter Tryz.func176, Tryz.ntmps176
    go_wp2_with fail
    go_ret
    exact ⟨rfl, HB0.out⟩

set_option maxHeartbeats 1000000 in
set_option maxRecDepth 100000 in
theorem clone_any (s : Bs) (w : World) (hs : s.length ≤ 281474976710656) : Calls Tryz.prog 69 #[sv s] w fun e w' => e = .returned (sv s) ∧ Below w.heap.size w w' := by
  have HC := Lib.hid (fun W => S.stringslite_Clone (str s) W (by rw [str_size]; exact hs))
  unfold sv
  clear hs
  go_enter Tryz.func69, Tryz.ntmps69
  go_wp2_with (go_at_call 106; refine (HC.out _).mono ?_; rintro _ w1 ⟨rfl, hb1⟩; have HB1 := Lib.hid hb1; clear hb1)
  go_ret
  exact ⟨rfl, HB1.out⟩

theorem row_below' (W : World) (B g : Nat) (cs : Array Value) (hB : B ≤ W.heap.size) (hg : B ≤ g) : Below B W (W.setRow g cs) :=
  Below.grown (Below.refl B W) ⟨rfl, rfl, rfl, by simp, fun j _ hj => setRow_other W g j _ (fun e => hj (by rw [e]))⟩ hB (row := some g) (fun j hj => by cases hj; omega)

theorem piece_cells {w : World} {N : Nat} {cs : Array Value} (h : w.heap[N]? = some (.cells cs 166 (0, 0))) (j : Nat) (hj : j < cs.size) : w.cell? ⟨N, j, none⟩ = some cs[j] ∧ w.frozen? ⟨N, j, none⟩ = false := by
  refine ⟨by rw [cell_of_row _ _ _ _ _ _ h]; simp [hj], (row_cell h hj).choose_spec.2⟩

set_option maxHeartbeats 1000000 in
set_option maxRecDepth 100000 in
theorem number_any (n : Int) (h0 : -9223372036854775808 ≤ n) (h1 : n ≤ 9223372036854775807) (w : World) (hg : Glob w) : Calls Tryz.prog 152 #[.int .i64 n] w fun e w' => e = .returned (.agg #[sv (itoa n), .int .i64 (if n < 0 then 2 else 0)]) ∧ Below w.heap.size w w' := by
  have HI := Lib.hid (fun W hW => itoa_any n h0 h1 W hW)
  obtain ⟨s, hs⟩ : ∃ s, itoa n = s := ⟨_, rfl⟩
  rw [hs] at HI ⊢
  have hb0 := (Below.refl w.heap.size w).alloc (Nat.le_refl _) (.cells #[.string ⟨#[]⟩, .int .i64 0] 166)
  have HG := Lib.hid (hg.below hb0)
  have HB0 := Lib.hid hb0
  unfold sv at HI ⊢
  clear hb0 hg h0 h1 hs
  have HI1 := Lib.hid (show (Tryz.prog.info? 166).map (·.size) = some (#[Value.string (str s), .int .i64 0] : Array Value).size by kernel_rfl)
  by_cases h : n < 0
  · rw [if_pos h]
    go_enter Tryz.func152, Tryz.ntmps152
    go_wp2_with (go_at_call 50; refine (HI.out _ HG.out).mono ?_; rintro _ w1 ⟨rfl, hb1⟩; have hrow := (hb1.block w.heap.size (by simp)).trans (heap_alloc_at w _); have HROW := Lib.hid hrow; have HB1 := Lib.hid hb1; obtain ⟨k0, z0⟩ := piece_cells hrow 0 (by decide); obtain ⟨k1, z1⟩ := piece_cells hrow 1 (by decide); clear hb1 hrow)
    have hr2 := heap_setCell_same _ w.heap.size 1 _ 166 (.int .i64 2) (heap_setCell_same w1 w.heap.size 0 _ 166 (.string (str s)) HROW.out)
    refine bodyPost_ret (v := .agg #[.string (str s), .int .i64 2]) (results_cell_row rfl _ _ w.heap.size 166 #[.string (str s), .int .i64 2] (0, 0) _ rfl hr2 Tryz.underlying166 rfl HI1.out) rfl ?_
    exact ⟨rfl, ((HB0.out.trans (HB1.out.mono HB0.out.size)).setCell (Nat.le_refl _) _).setCell (Nat.le_refl _) _⟩
  · rw [if_neg h]
    go_enter Tryz.func152, Tryz.ntmps152
    go_wp2_with (go_at_call 50; refine (HI.out _ HG.out).mono ?_; rintro _ w1 ⟨rfl, hb1⟩; have hrow := (hb1.block w.heap.size (by simp)).trans (heap_alloc_at w _); have HROW := Lib.hid hrow; have HB1 := Lib.hid hb1; obtain ⟨k0, z0⟩ := piece_cells hrow 0 (by decide); obtain ⟨k1, z1⟩ := piece_cells hrow 1 (by decide); clear hb1 hrow)
    have hr2 := heap_setCell_same _ w.heap.size 1 _ 166 (.int .i64 0) (heap_setCell_same w1 w.heap.size 0 _ 166 (.string (str s)) HROW.out)
    refine bodyPost_ret (v := .agg #[.string (str s), .int .i64 0]) (results_cell_row rfl _ _ w.heap.size 166 #[.string (str s), .int .i64 0] (0, 0) _ rfl hr2 Tryz.underlying166 rfl HI1.out) rfl ?_
    exact ⟨rfl, ((HB0.out.trans (HB1.out.mono HB0.out.size)).setCell (Nat.le_refl _) _).setCell (Nat.le_refl _) _⟩
end Go.Proofs.YtfooiggedgcjcaaGreatDoor.I

namespace Go.Proofs.YtfooiggedgcjcaaGreatDoor.T
open Go Go.RowKit Go.Proofs.YtfooiggedgcjcaaGreatDoor.B Go.Proofs.YtfooiggedgcjcaaGreatDoor.K Go.Proofs.YtfooiggedgcjcaaGreatDoor.E Go.Proofs.YtfooiggedgcjcaaGreatDoor.R
set_option linter.unusedVariables false

/-- What the package's and the library's variables hold. -/
structure Globs (w : World) : Prop where
  glob : I.Glob w
  synt : ∃ t p, w.cell? ⟨5, 0, none⟩ = some (.iface t p)
  rang : ∃ t p, w.cell? ⟨6, 0, none⟩ = some (.iface t p)
theorem Globs.below {w w' : World} (h : Globs w) (hb : Below w.heap.size w w') : Globs w' := by
  obtain ⟨h1, ⟨t, p, h2⟩, ⟨u, q, h3⟩⟩ := h
  exact ⟨h1.below hb, ⟨t, p, kept_cell hb h2⟩, ⟨u, q, kept_cell hb h3⟩⟩

theorem itoa_num (n : Int) : I.itoa n = num n := by
  unfold I.itoa num
  split
  · rfl
  · congr 1; omega

theorem below_bytes (w : World) (t : TypeId) (n : ByteArray) : Below w.heap.size w (Lib.bytesWorld w t n) := Lib.bytesWorld_below _ _ _

theorem numOf_ok (s : Bs) (least n : Int) (h : Lib.atoiAll s = .ok n) : numOf s least = if num n = s ∧ least ≤ n ∧ n ≤ 1099511627776 then (n, 0) else (0, 6) := by unfold numOf; rw [h]
theorem numOf_syn (s : Bs) (least : Int) (h : Lib.atoiAll s = Lib.atoiAll []) : numOf s least = (0, 6) := by unfold numOf; rw [h]; rfl
theorem atoi_ends (s : Bs) : Lib.atoiAll s = Lib.atoiAll [] ∨ Lib.atoiAll s = .range ∨ ∃ n, Lib.atoiAll s = .ok n := by
  rcases h : Lib.atoiAll s with n | _ | _
  · exact Or.inr (Or.inr ⟨n, rfl⟩)
  · exact Or.inl rfl
  · exact Or.inr (Or.inl rfl)
theorem numOf_rng (s : Bs) (least : Int) (h : Lib.atoiAll s = .range) : numOf s least = (0, 6) := by unfold numOf; rw [h]

set_option maxHeartbeats 2000000 in
theorem number_any (s : Bs) (least : Int) (w : World) (hg : Globs w) (hs : s.length ≤ 281474976710656) :
    Calls Tryz.prog 73 #[sv s, .int .i64 least] w fun e w' => e = .returned (.tuple #[.int .i64 (numOf s least).1, .int .i64 (numOf s least).2]) ∧ Below w.heap.size w w' := by
  have hsd : (str s).data.toList = s := str_data s
  have hsz : (str s).size = s.length := str_size s
  rcases atoi_ends s with ha | ha | ⟨n, ha⟩
  ·
    obtain ⟨t, p, hv⟩ := hg.synt
    have HA := Lib.hid (S.strconv_Atoi_syn (str s) (by rw [hsz]; exact hs) (by rw [hsd]; exact ha) _ w hv (Or.inr ⟨t, p, rfl⟩))
    rw [numOf_syn s least ha]
    unfold sv
    clear hv hsd hsz ha hs hg
    go_enter Tryz.func73, Tryz.ntmps73
    go_wp2_with (go_at_call 107; refine HA.out.mono ?_; rintro _ w1 ⟨N, rfl, hN, _, hb1⟩; have HB := Lib.hid hb1; clear hb1 hN)
    go_ret2
    exact ⟨rfl, HB.out⟩
  ·
    obtain ⟨t, p, hv⟩ := hg.rang
    have HA := Lib.hid (S.strconv_Atoi_range (str s) (by rw [hsz]; exact hs) (by rw [hsd]; exact ha) _ w hv (Or.inr ⟨t, p, rfl⟩))
    rw [numOf_rng s least ha]
    unfold sv
    clear hv hsd hsz ha hs hg
    go_enter Tryz.func73, Tryz.ntmps73
    go_wp2_with (go_at_call 107; refine HA.out.mono ?_; rintro _ w1 ⟨N, rfl, hN, _, hb1⟩; have HB := Lib.hid hb1; clear hb1 hN)
    go_ret2
    exact ⟨rfl, HB.out⟩
  ·
    have hbd := Lib.atoiAll_bounds ha
    have HA : Hid (Calls Tryz.prog 107 #[.string (str s)] w fun e w' => e = .returned (.tuple #[.int .i64 n, .nilIface]) ∧ Below w.heap.size w w') := Lib.hid ((S.strconv_Atoi_ok (str s) (by rw [hsz]; omega) n (by rw [hsd]; exact ha) w).mono fun e w' ⟨he, hw⟩ => ⟨he, by
      rcases hw with rfl | ⟨t, rfl⟩
      · exact Below.refl _ _
      · exact below_bytes _ _ _⟩)
    have HI := Lib.hid (fun W (hW : I.Glob W) => I.itoa_any n hbd.1 hbd.2 W hW)
    rw [itoa_num] at HI
    have HG := Lib.hid hg.glob
    rw [numOf_ok s least n ha]
    clear hbd hsd hsz ha hs hg
    obtain ⟨x, hx⟩ : ∃ x, num n = x := ⟨_, rfl⟩
    rw [hx] at HI ⊢
    clear hx
    unfold sv at HI ⊢
    by_cases h1 : x = s
    · subst h1
      by_cases h2 : n < least
      · rw [if_neg (fun h => by have := h.2.1; omega)]
        go_enter Tryz.func73, Tryz.ntmps73
        go_wp2_with (first | (go_at_call 107; refine HA.out.mono ?_; rintro _ w1 ⟨rfl, hb1⟩; have HB := Lib.hid hb1; clear hb1) | (go_at_call 50; refine (HI.out _ (HG.out.below HB.out)).mono ?_; rintro _ w2 ⟨rfl, hb2⟩; have HB2 := Lib.hid hb2; clear hb2))
        go_ret2
        exact ⟨rfl, HB.out.trans (HB2.out.mono HB.out.size)⟩
      · by_cases h3 : 1099511627776 < n
        · rw [if_neg (fun h => by have := h.2.2; omega)]
          go_enter Tryz.func73, Tryz.ntmps73
          go_wp2_with (first | (go_at_call 107; refine HA.out.mono ?_; rintro _ w1 ⟨rfl, hb1⟩; have HB := Lib.hid hb1; clear hb1) | (go_at_call 50; refine (HI.out _ (HG.out.below HB.out)).mono ?_; rintro _ w2 ⟨rfl, hb2⟩; have HB2 := Lib.hid hb2; clear hb2))
          go_ret2
          exact ⟨rfl, HB.out.trans (HB2.out.mono HB.out.size)⟩
        · rw [if_pos ⟨rfl, by omega, by omega⟩]
          go_enter Tryz.func73, Tryz.ntmps73
          go_wp2_with (first | (go_at_call 107; refine HA.out.mono ?_; rintro _ w1 ⟨rfl, hb1⟩; have HB := Lib.hid hb1; clear hb1) | (go_at_call 50; refine (HI.out _ (HG.out.below HB.out)).mono ?_; rintro _ w2 ⟨rfl, hb2⟩; have HB2 := Lib.hid hb2; clear hb2))
          go_ret2
          exact ⟨rfl, HB.out.trans (HB2.out.mono HB.out.size)⟩
    · rw [if_neg (fun h => h1 h.1)]
      have e1 : ((str x).toList == (str s).toList) = false := str_ne h1
      have e2 : ((str x).toList != (str s).toList) = true := by rw [bne, e1]; rfl
      go_enter Tryz.func73, Tryz.ntmps73
      go_wp2_with (first | (go_at_call 107; refine HA.out.mono ?_; rintro _ w1 ⟨rfl, hb1⟩; have HB := Lib.hid hb1; clear hb1) | (go_at_call 50; refine (HI.out _ (HG.out.below HB.out)).mono ?_; rintro _ w2 ⟨rfl, hb2⟩; have HB2 := Lib.hid hb2; clear hb2))
      go_ret2
      exact ⟨rfl, HB.out.trans (HB2.out.mono HB.out.size)⟩

def nameErr (s : Bs) : Int := if I.isName s = true then 0 else 6
set_option maxHeartbeats 1000000 in
theorem unlessName_any (s : Bs) (w : World) (hg : I.Glob w) (hs : s.length ≤ 9223372036854775807) :
    Calls Tryz.prog 70 #[sv s] w fun e w' => e = .returned (.int .i64 (nameErr s)) ∧ w = w' := by
  have HN := Lib.hid (I.name_any s w hg hs)
  unfold nameErr
  cases hn : I.isName s with
  | false =>
    rw [hn] at HN
    rw [if_neg (by decide)]
    unfold sv at HN ⊢
    clear hn hs hg
    go_enter Tryz.func70, Tryz.ntmps70
    go_wp2_with (go_at_call 74; refine HN.out.mono ?_; rintro _ w1 ⟨rfl, rfl⟩)
    go_ret
    exact ⟨rfl, rfl⟩
  | true =>
    rw [hn] at HN
    rw [if_pos rfl]
    unfold sv at HN ⊢
    clear hn hs hg
    go_enter Tryz.func70, Tryz.ntmps70
    go_wp2_with (go_at_call 74; refine HN.out.mono ?_; rintro _ w1 ⟨rfl, rfl⟩)
    go_ret
    exact ⟨rfl, rfl⟩

theorem refuse_any (v : Value) (w : World) : Calls Tryz.prog 32 #[v] w fun e w' => e = .returned (.int .i64 6) ∧ w = w' := by
  go_enter Tryz.func32, Tryz.ntmps32
  go_wp2_with fail
  go_ret
  exact ⟨rfl, rfl⟩
end Go.Proofs.YtfooiggedgcjcaaGreatDoor.T

namespace Go.Proofs.YtfooiggedgcjcaaGreatDoor.T
open Go Go.RowKit Go.ChangeMaps Go.Maps Go.Proofs.YtfooiggedgcjcaaGreatDoor.B Go.Proofs.YtfooiggedgcjcaaGreatDoor.K Go.Proofs.YtfooiggedgcjcaaGreatDoor.E Go.Proofs.YtfooiggedgcjcaaGreatDoor.R
set_option linter.unusedVariables false

/-- Block b is a map from the names of l to where each stands first. -/
def MapIs (w : World) (b : Nat) (l : List Bs) : Prop :=
  ∃ D : DataW Unit, w.ownsMap Tryz.prog 9 (plainElem Tryz.prog 3) b l.length D ∧ IsMap D ∧
    ∀ s : Bs, Maps.has D (.string s) = (l.findIdx? (· == s)).isSome ∧ ∀ k, l.findIdx? (· == s) = some k → D.atKey (.string s) (.lit (.int .i64 0)) = .lit (.int .i64 (k : Int))

theorem strK : Keyed Tryz.prog 9 := string_keyed Tryz.underlying9
theorem placesU : Tryz.prog.underlying 39 = some (.map 9 3) := Tryz.underlying39
theorem int_wf (k : Int) (h : 0 ≤ k ∧ k ≤ 9223372036854775807) : (Lit.int .i64 k).wf = true := by
  simp [Lit.wf, IntKind.min, IntKind.max, IntKind.signed, IntKind.bits]; omega
theorem key_of (s : Bs) (h : s.length ≤ maxLen) : keyOf Tryz.prog 9 (.string (str s)) = some (.string s) := by
  have := WideMaps.keyOf_string_mk (P := Tryz.prog) Tryz.underlying9 (s := str s) (by rw [str_size]; exact h)
  rw [str_data] at this
  exact this

theorem MapIs.lt {w : World} {b : Nat} {l : List Bs} (h : MapIs w b l) : b < w.heap.size := by obtain ⟨D, h, _⟩ := h; exact h.lt
theorem MapIs.chg {w w' : World} {b : Nat} {l : List Bs} {S : Nat → Prop} (h : MapIs w b l) (hc : Chg S w w') (hn : ¬ S b) : MapIs w' b l := by
  have hlt := h.lt
  obtain ⟨D, ⟨es, clock, hb, r⟩, h2⟩ := h
  exact ⟨D, ⟨es, clock, hc.heap hb hn, r⟩, h2⟩

/-- A look at the map. -/
theorem MapIs.look {w : World} {b : Nat} {l : List Bs} (h : MapIs w b l) (s : Bs) (hs : s.length ≤ maxLen) :
    ∃ c : Int, (Instr.lookup 39 (.map (some b)) (.string (str s)) true).run Tryz.prog w = .ok (.tuple #[.int .i64 c, .bool (l.findIdx? (· == s)).isSome]) w ∧ ∀ k, l.findIdx? (· == s) = some k → c = (k : Int) := by
  obtain ⟨D, ho, hD, hr⟩ := h
  obtain ⟨h1, h2⟩ := hr s
  obtain ⟨v, ps, hrun, hv⟩ := ho.look_ok strK placesU (z := .int .i64 0) (Tryz.zeroValue3 w) (plainElem_int Tryz.underlying3 (int_wf 0 (by omega))) (key_of s hs)
  obtain ⟨c, rfl, hc, hwc⟩ := plainElem_int_inv Tryz.underlying3 hv
  rw [h1] at hrun
  refine ⟨c, hrun, fun k hk => ?_⟩
  have := congrArg Prod.fst hc
  simp only at this
  rw [h2 k hk] at this
  have := DataW.lit.inj this
  have := Lit.int.inj this
  exact this.2.symm

theorem findIdx_snoc (l : List Bs) (x s : Bs) : (l ++ [x]).findIdx? (· == s) = if (l.findIdx? (· == s)).isSome = true then l.findIdx? (· == s) else if x = s then some l.length else none := by
  rw [List.findIdx?_append]
  cases h : l.findIdx? (· == s) with
  | some k => rfl
  | none =>
    by_cases hx : x = s
    · subst hx; simp [List.findIdx?_cons]
    · simp [List.findIdx?_cons, hx]

theorem MapIs.same {w : World} {b : Nat} {l : List Bs} (h : MapIs w b l) (x : Bs) (hx : (l.findIdx? (· == x)).isSome = true) : MapIs w b (l ++ [x]) := by
  obtain ⟨D, ho, hD, hr⟩ := h
  refine ⟨D, ho.mono (by simp), hD, fun s => ?_⟩
  have e : (l ++ [x]).findIdx? (· == s) = l.findIdx? (· == s) := by
    rw [findIdx_snoc]
    split
    · rfl
    · rename_i h
      split
      · rename_i hs; subst hs; exact absurd hx h
      · cases hq : l.findIdx? (· == s) with
        | none => rfl
        | some k => rw [hq] at h; exact absurd rfl h
  rw [e]
  exact hr s

/-- A name more. -/
theorem MapIs.more {w : World} {b : Nat} {l : List Bs} (h : MapIs w b l) (x : Bs) (hx : (l.findIdx? (· == x)).isSome = false) (hs : x.length ≤ maxLen) (hl : l.length < 4611686018427387904) :
    ∃ w', (Instr.mapUpdate 39 (.map (some b)) (.string (str x)) (.int .i64 (l.length : Int))).run Tryz.prog w = .ok () w' ∧ MapIs w' b (l ++ [x]) ∧ w.grownBy w' (some b) := by
  obtain ⟨D, ho, hD, hr⟩ := h
  obtain ⟨w', h1, h2, h3⟩ := ho.update (d := .lit (.int .i64 (l.length : Int))) (ps := []) strK placesU (by unfold maxLen; omega) (key_of x hs) (plainElem_int Tryz.underlying3 (int_wf _ (by omega)))
  refine ⟨w', h1, ⟨_, by simpa using h2, hD.put _ _, fun s => ?_⟩, h3⟩
  rw [findIdx_snoc]
  by_cases e : x = s
  · subst e
    rw [if_neg (by rw [hx]; decide), if_pos rfl]
    refine ⟨has_put_same hD (show WideAt.IsKeyLit (.string x) from trivial) _, fun k hk => ?_⟩
    cases hk
    exact atKey_put_same hD (show WideAt.IsKeyLit (.string x) from trivial) _ _
  · have hne : (Lit.string s) ≠ .string x := fun h => e (Lit.string.inj h).symm
    rw [has_put_other hne, atKey_put_other hne, if_neg e]
    obtain ⟨r1, r2⟩ := hr s
    cases hq : l.findIdx? (· == s) with
    | none => rw [hq] at r1; exact ⟨r1, fun k hk => by simp at hk⟩
    | some k => rw [hq] at r1 r2; exact ⟨r1, fun k' hk => r2 k' (by simpa using hk)⟩

theorem MapIs.made (w : World) : MapIs (w.alloc (.map #[] 0)) w.heap.size [] :=
  ⟨.map [], World.ownsMap_made w _ _ _, isMap_empty, fun s => ⟨rfl, fun k hk => by simp at hk⟩⟩

set_option maxHeartbeats 2000000 in
theorem placesOf_any (l : List Bs) (v : Value) (w : World) (h : Sl w v (l.map sv)) (hl : l.length < 4611686018427387904) (hs : ∀ s ∈ l, s.length ≤ maxLen) :
    Calls Tryz.prog 71 #[v] w fun e w' => e = .returned (.map (some w.heap.size)) ∧ MapIs w' w.heap.size l ∧ Below w.heap.size w w' := by
  have HSl := Lib.hid h
  obtain ⟨a, cap, rfl, -⟩ := h
  rw [List.length_map] at HSl ⊢
  obtain ⟨n, hn⟩ : ∃ n, l.length = n := ⟨_, rfl⟩
  rw [hn] at HSl hl ⊢
  have HN := Lib.hid hn
  have HS := Lib.hid hs
  clear hn hs
  have hmm := @run_makeMap Tryz.prog
  obtain ⟨B, hB⟩ : ∃ B, w.heap.size = B := ⟨_, rfl⟩
  have HM := Lib.hid (MapIs.made w)
  have HB0 := Lib.hid ((Below.refl w.heap.size w).alloc (Nat.le_refl _) (.map #[] 0))
  have hsz : (w.alloc (.map #[] 0)).heap.size = w.heap.size + 1 := by simp
  have HSZ := Lib.hid hsz
  clear hsz
  rw [hB] at HM HB0 HSZ ⊢
  go_enter Tryz.func71, Tryz.ntmps71
  go_wp2_with fail
  clear hmm
  go_loopw [11] (fun i wr => ∃ k : Nat, i = .int .i64 (k : Int) ∧ k ≤ n ∧ MapIs wr B (l.take k) ∧ Below B w wr ∧ B < wr.heap.size) (fun i _ => n - (intOf i).toNat)
  case atStart => exact ⟨0, rfl, Nat.zero_le _, HM.out, HB0.out, by rw [HSZ.out]; omega⟩
  case round =>
    obtain ⟨k, rfl, hk, hm, hb, hsz⟩ := hrel
    by_cases hlt : k < n
    · have hltI : (k : Int) < (n : Int) := by omega
      obtain ⟨x, hx⟩ : ∃ x, l[k]? = some x := ⟨_, List.getElem?_eq_getElem (by rw [HN.out]; exact hlt)⟩
      obtain ⟨b, off, rfl, hcell⟩ := HSl.out.at (u := sv x) (j := k) (by rw [List.getElem?_map, hx]; rfl)
      have hc1 : wr.cell? ⟨b, off + k, none⟩ = some (.string (str x)) := by
        have hbl := World.block_lt_of_cell? w _ hcell
        exact (hb.cell (p := ⟨b, off + k, none⟩) (by rw [← hB]; exact hbl)).trans hcell
      have hk0 : 0 ≤ (k : Int) := by omega
      have hxl := HS.out x (List.mem_of_getElem? hx)
      have htk : l.take (k + 1) = l.take k ++ [x] := by rw [List.take_add_one, hx]; rfl
      have HTK := Lib.hid htk
      have hlen : (l.take k).length = k := by rw [List.length_take, HN.out]; omega
      obtain ⟨c, hrun, -⟩ := hm.look x hxl
      cases hq : ((l.take k).findIdx? (· == x)).isSome with
      | true =>
        rw [hq] at hrun
        have HM1 := Lib.hid (hm.same x hq)
        have HBK := Lib.hid hb
        clear hcell hx htk hlen hq hm hb
        go_wp2_with fail
        go_roundw
        case rel => exact ⟨k + 1, by go_num, by omega, by rw [HTK.out]; exact HM1.out, HBK.out, hsz⟩
        case measure => simp [intOf]; omega
      | false =>
        rw [hq] at hrun
        obtain ⟨w2, hup, hm2, hgr⟩ := hm.more x hq hxl (by rw [hlen]; omega)
        rw [hlen] at hup
        have HM1 := Lib.hid hm2
        have HBK := Lib.hid (hb.trans ((Chg.grown (S := fun k => k = B) hgr (fun k hk => by cases hk; rfl)).below (fun k hk => by omega) (by omega)))
        have HSZ2 := Lib.hid (Nat.lt_of_lt_of_le hsz hgr.size)
        clear hcell hx htk hlen hq hm hb hm2 hgr
        go_wp2_with fail
        go_roundw
        case rel => exact ⟨k + 1, by go_num, by omega, by rw [HTK.out]; exact HM1.out, HBK.out, HSZ2.out⟩
        case measure => simp [intOf]; omega
    · have hltI : ¬ (k : Int) < (n : Int) := by omega
      have e : l.take k = l := List.take_of_length_le (by rw [HN.out]; omega)
      have HM1 := Lib.hid hm
      have HBK := Lib.hid hb
      have HE := Lib.hid e
      clear hm hb e
      go_wp2_with fail
      go_ret
      refine ⟨rfl, ?_, HBK.out⟩
      have := HM1.out
      rw [HE.out] at this
      exact this

set_option maxHeartbeats 1000000 in
theorem find_any (b : Nat) (l : List Bs) (s : Bs) (w : World) (hm : MapIs w b l) (hg : I.Glob w) (hs : s.length ≤ 281474976710656) :
    Calls Tryz.prog 112 #[.map (some b), sv s] w fun e w' => e = .returned (.tuple #[.int .i64 (findN l s).1, .int .i64 (findN l s).2]) ∧ w = w' := by
  have HU := Lib.hid (unlessName_any s w hg (by omega))
  obtain ⟨c, hrun, hc⟩ := hm.look s (by unfold maxLen; omega)
  unfold findN
  cases hn : I.isName s with
  | false =>
    rw [if_pos rfl]
    unfold nameErr at HU
    rw [hn, if_neg (by decide)] at HU
    unfold sv at HU ⊢
    clear hn hs hg hm hc hrun
    go_enter Tryz.func112, Tryz.ntmps112
    go_wp2_with (go_at_call 70; refine HU.out.mono ?_; rintro _ w1 ⟨rfl, rfl⟩)
    go_ret2
    exact ⟨rfl, rfl⟩
  | true =>
    rw [if_neg (by decide)]
    unfold nameErr at HU
    rw [hn, if_pos rfl] at HU
    unfold sv at HU ⊢
    cases hq : l.findIdx? (· == s) with
    | none =>
      rw [hq] at hrun
      clear hn hs hg hm hc hq
      simp only [Option.isSome_none] at hrun
      go_enter Tryz.func112, Tryz.ntmps112
      go_wp2_with (go_at_call 70; refine HU.out.mono ?_; rintro _ w1 ⟨rfl, rfl⟩)
      go_ret2
      exact ⟨rfl, rfl⟩
    | some k =>
      obtain rfl := hc k hq
      rw [hq] at hrun
      clear hn hs hg hm hc hq
      simp only [Option.isSome_some] at hrun
      go_enter Tryz.func112, Tryz.ntmps112
      go_wp2_with (go_at_call 70; refine HU.out.mono ?_; rintro _ w1 ⟨rfl, rfl⟩)
      go_ret2
      exact ⟨rfl, rfl⟩
end Go.Proofs.YtfooiggedgcjcaaGreatDoor.T

namespace Go.Proofs.YtfooiggedgcjcaaGreatDoor.R
open Go Go.RowKit Go.Proofs.YtfooiggedgcjcaaGreatDoor.B Go.Proofs.YtfooiggedgcjcaaGreatDoor.K Go.Proofs.YtfooiggedgcjcaaGreatDoor.E
set_option linter.unusedVariables false

theorem unless_any (b : Bool) (e : Int) (w : World) : Calls Tryz.prog 41 #[.bool b, .int .i64 e] w fun z w' => z = .returned (.int .i64 (unlessE b e)) ∧ w = w' := by
  cases b
  · go_enter Tryz.func41, Tryz.ntmps41
    go_wp2_with fail
    go_ret
    exact ⟨rfl, rfl⟩
  · go_enter Tryz.func41, Tryz.ntmps41
    go_wp2_with fail
    go_ret
    exact ⟨rfl, rfl⟩

theorem unless_at (x : Prop) [Decidable x] (e : Int) (h : x) (w : World) : Calls Tryz.prog 41 #[.bool true, .int .i64 e] w fun z w' => z = .returned (.int .i64 0) ∧ w = w' := unless_any true e w

theorem count_any (n least most : Int) (w : World) : Calls Tryz.prog 43 #[.int .i64 n, .int .i64 least, .int .i64 most] w fun z w' => z = .returned (.int .i64 (countE n least most)) ∧ w = w' := by
  unfold countE
  by_cases h1 : most < n
  · rw [if_pos h1]
    go_enter Tryz.func43, Tryz.ntmps43
    go_wp2_with fail
    go_ret
    exact ⟨rfl, rfl⟩
  · rw [if_neg h1]
    by_cases h2 : n < least
    · rw [if_pos h2]
      have h3 : ¬ least ≤ n := by omega
      have hb : decide (least ≤ n) = false := decide_eq_false h3
      have H := Lib.hid (fun W => unless_any false 2 W)
      go_enter Tryz.func43, Tryz.ntmps43
      go_wp2_with (go_at_call 41; refine (H.out _).mono ?_; rintro _ w1 ⟨rfl, rfl⟩)
      go_ret
      exact ⟨rfl, rfl⟩
    · rw [if_neg h2]
      have h3 : least ≤ n := by omega
      have hb : decide (least ≤ n) = true := decide_eq_true h3
      have H := Lib.hid (fun W => unless_any true 2 W)
      go_enter Tryz.func43, Tryz.ntmps43
      go_wp2_with (go_at_call 41; refine (H.out _).mono ?_; rintro _ w1 ⟨rfl, rfl⟩)
      go_ret
      exact ⟨rfl, rfl⟩

def isAt (n many : Int) : Bool := decide (0 ≤ n ∧ n < many)

theorem isPlace_any (n many : Int) (w : World) : Calls Tryz.prog 117 #[.int .i64 n, .int .i64 many] w fun z w' => z = .returned (.bool (isAt n many)) ∧ w = w' := by
  unfold isAt
  by_cases h0 : 0 ≤ n
  · by_cases h1 : n < many
    · rw [decide_eq_true ⟨h0, h1⟩]
      go_enter Tryz.func117, Tryz.ntmps117
      go_wp2_with fail
      go_ret
      exact ⟨rfl, rfl⟩
    · rw [decide_eq_false (fun h => h1 h.2)]
      go_enter Tryz.func117, Tryz.ntmps117
      go_wp2_with fail
      go_ret
      exact ⟨rfl, rfl⟩
  · rw [decide_eq_false (fun h => h0 h.1)]
    go_enter Tryz.func117, Tryz.ntmps117
    go_wp2_with fail
    go_ret
    exact ⟨rfl, rfl⟩

theorem ofName_any (s : Bs) (ahead : Bool) (w : World) (hg : I.Glob w) (hl : s.length ≤ 9223372036854775807) :
    Calls Tryz.prog 45 #[sv s, .bool ahead] w fun z w' => z = .returned (.int .i64 (nameE s ahead)) ∧ w = w' := by
  have HN := Lib.hid (I.name_any s w hg hl)
  unfold nameE
  cases hn : I.isName s with
  | false =>
    rw [if_pos rfl]
    rw [hn] at HN
    clear hn
    unfold sv at HN ⊢
    go_enter Tryz.func45, Tryz.ntmps45
    go_wp2_with (go_at_call 74; refine HN.out.mono ?_; rintro _ w1 ⟨rfl, rfl⟩)
    go_ret
    exact ⟨rfl, rfl⟩
  | true =>
    rw [if_neg (by decide)]
    rw [hn] at HN
    clear hn
    unfold sv at HN ⊢
    cases ahead
    · have H := Lib.hid (fun W => unless_any true 9 W)
      go_enter Tryz.func45, Tryz.ntmps45
      go_wp2_with (first | (go_at_call 74; refine HN.out.mono ?_; rintro _ w1 ⟨rfl, rfl⟩) | (go_at_call 41; refine (H.out _).mono ?_; rintro _ w1 ⟨rfl, rfl⟩))
      go_ret
      exact ⟨rfl, rfl⟩
    · have H := Lib.hid (fun W => unless_any false 9 W)
      go_enter Tryz.func45, Tryz.ntmps45
      go_wp2_with (first | (go_at_call 74; refine HN.out.mono ?_; rintro _ w1 ⟨rfl, rfl⟩) | (go_at_call 41; refine (H.out _).mono ?_; rintro _ w1 ⟨rfl, rfl⟩))
      go_ret
      exact ⟨rfl, rfl⟩

theorem ofPlace_any (n many : Int) (ahead : Bool) (w : World) :
    Calls Tryz.prog 88 #[.int .i64 n, .int .i64 many, .bool ahead] w fun z w' => z = .returned (.int .i64 (placeE n many ahead)) ∧ w = w' := by
  have HN := Lib.hid (isPlace_any n many w)
  unfold placeE
  by_cases h : 0 ≤ n ∧ n < many
  · rw [if_pos h]
    rw [show isAt n many = true from decide_eq_true h] at HN
    clear h
    cases ahead
    · have H := Lib.hid (fun W => unless_any true 9 W)
      go_enter Tryz.func88, Tryz.ntmps88
      go_wp2_with (first | (go_at_call 117; refine HN.out.mono ?_; rintro _ w1 ⟨rfl, rfl⟩) | (go_at_call 41; refine (H.out _).mono ?_; rintro _ w1 ⟨rfl, rfl⟩))
      go_ret
      exact ⟨rfl, rfl⟩
    · have H := Lib.hid (fun W => unless_any false 9 W)
      go_enter Tryz.func88, Tryz.ntmps88
      go_wp2_with (first | (go_at_call 117; refine HN.out.mono ?_; rintro _ w1 ⟨rfl, rfl⟩) | (go_at_call 41; refine (H.out _).mono ?_; rintro _ w1 ⟨rfl, rfl⟩))
      go_ret
      exact ⟨rfl, rfl⟩
  · rw [if_neg h]
    rw [show isAt n many = false from decide_eq_false h] at HN
    clear h
    go_enter Tryz.func88, Tryz.ntmps88
    go_wp2_with (go_at_call 117; refine HN.out.mono ?_; rintro _ w1 ⟨rfl, rfl⟩)
    go_ret
    exact ⟨rfl, rfl⟩

theorem idxP_at {X : Type} (p : X → Bool) (l : List X) (K : Nat) (x : X) (hx : l[K]? = some x) (hp : p x = true) (h : ∀ (j : Nat) y, j < K → l[j]? = some y → p y = false) : idxP p l = (K : Int) := by
  unfold idxP; rw [findIdx_some p l K x hx hp h]
theorem idxP_none {X : Type} (p : X → Bool) (l : List X) (h : ∀ (j : Nat) y, l[j]? = some y → p y = false) : idxP p l = -1 := by
  unfold idxP; rw [findIdx_none p l h]
theorem none_next {X : Type} {p : X → Bool} {l : List X} {K : Nat} {x : X} (h : ∀ (j : Nat) y, j < K → l[j]? = some y → p y = false) (hx : l[K]? = some x) (hp : p x = false) : ∀ (j : Nat) y, j < K + 1 → l[j]? = some y → p y = false := by
  intro j y hj hy
  rcases Nat.lt_succ_iff_lt_or_eq.1 hj with h1 | rfl
  · exact h j y h1 hy
  · rw [hx] at hy; cases hy; exact hp

set_option maxHeartbeats 1000000 in
/-- slices.Index of numbers. -/
theorem indexInt_any (l : List Int) (v : Value) (x : Int) (w : World) (h : SlN w v l) (hl : l.length ≤ 9223372036854775807) :
    Calls Tryz.prog 89 #[v, .int .i64 x] w fun z w' => z = .returned (.int .i64 (idxP (fun y => y == x) l)) ∧ w = w' := by
  have HS := Lib.hid h
  obtain ⟨a, cap, rfl, -⟩ := h
  rw [List.length_map] at HS ⊢
  obtain ⟨N, hN⟩ : ∃ N, l.length = N := ⟨_, rfl⟩
  rw [hN] at hl HS ⊢
  have HL := Lib.hid hl
  have HN := Lib.hid hN
  clear hN hl
  go_enter Tryz.func89, Tryz.ntmps89
  go_wp2_with fail
  go_loopw [8] (fun k wr => ∃ (K : Nat), k = .int .i64 (K : Int) ∧ K ≤ N ∧ w = wr ∧ Hid (∀ (j : Nat) y, j < K → l[j]? = some y → (y == x) = false)) (fun k _ => N - (intOf k).toNat)
  case atStart => exact ⟨0, rfl, Nat.zero_le _, rfl, Lib.hid (fun j y h => absurd h (Nat.not_lt_zero _))⟩
  case round =>
    obtain ⟨K, rfl, hK, rfl, HI⟩ := hrel
    by_cases hlt : K < N
    · have hltI : (K : Int) < (N : Int) := by omega
      obtain ⟨y, hy⟩ : ∃ y, l[K]? = some y := ⟨_, List.getElem?_eq_getElem (by rw [HN.out]; exact hlt)⟩
      have HY := Lib.hid hy
      have hm : (l.map fun n => Value.int .i64 n)[K]? = some (.int .i64 y) := by rw [List.getElem?_map, hy]; rfl
      obtain ⟨b, off, ea, h1⟩ := HS.out.at hm
      subst ea
      have hwK : IntKind.i64.wrap ((K : Int) + 1) = (K : Int) + 1 := IntWalk.i64_in _ (by have := HL.out; omega)
      clear hm hy
      by_cases hq : y = x
      · have hqb : (x == y) = true := beq_iff_eq.2 hq.symm
        have HQ := Lib.hid (show (y == x) = true from beq_iff_eq.2 hq)
        clear hq
        go_wp2_with fail
        go_ret
        exact ⟨ret_int (idxP_at _ l K y HY.out HQ.out HI.out).symm, rfl⟩
      · have hqb : (x == y) = false := beq_eq_false_iff_ne.2 (fun e => hq e.symm)
        have HQ := Lib.hid (show (y == x) = false from beq_eq_false_iff_ne.2 hq)
        clear hq
        go_wp2_with fail
        exact ⟨⟨K + 1, by go_num, by omega, trivial, Lib.hid (none_next HI.out HY.out HQ.out)⟩, by simp [intOf]; omega⟩
    · have hltI : ¬ (K : Int) < (N : Int) := by omega
      have e : K = N := by omega
      go_wp2_with fail
      go_ret
      exact ⟨ret_int (idxP_none _ l (fun j y hy => HI.out j y (by have := (List.getElem?_eq_some_iff.1 hy).1; rw [HN.out] at this; omega) hy)).symm, rfl⟩

set_option maxHeartbeats 1000000 in
/-- slices.Index of texts. -/
theorem indexStr_any (l : List Bs) (v : Value) (x : Bs) (w : World) (h : SlB w v l) (hl : l.length ≤ 9223372036854775807) :
    Calls Tryz.prog 84 #[v, sv x] w fun z w' => z = .returned (.int .i64 (idxP (fun y => y == x) l)) ∧ w = w' := by
  have HS := Lib.hid h
  obtain ⟨a, cap, rfl, -⟩ := h
  rw [List.length_map] at HS ⊢
  obtain ⟨N, hN⟩ : ∃ N, l.length = N := ⟨_, rfl⟩
  rw [hN] at hl HS ⊢
  have HL := Lib.hid hl
  have HN := Lib.hid hN
  clear hN hl
  unfold sv
  go_enter Tryz.func84, Tryz.ntmps84
  go_wp2_with fail
  go_loopw [8] (fun k wr => ∃ (K : Nat), k = .int .i64 (K : Int) ∧ K ≤ N ∧ w = wr ∧ Hid (∀ (j : Nat) y, j < K → l[j]? = some y → (y == x) = false)) (fun k _ => N - (intOf k).toNat)
  case atStart => exact ⟨0, rfl, Nat.zero_le _, rfl, Lib.hid (fun j y h => absurd h (Nat.not_lt_zero _))⟩
  case round =>
    obtain ⟨K, rfl, hK, rfl, HI⟩ := hrel
    by_cases hlt : K < N
    · have hltI : (K : Int) < (N : Int) := by omega
      obtain ⟨y, hy⟩ : ∃ y, l[K]? = some y := ⟨_, List.getElem?_eq_getElem (by rw [HN.out]; exact hlt)⟩
      have HY := Lib.hid hy
      have hm : (l.map sv)[K]? = some (sv y) := by rw [List.getElem?_map, hy]; rfl
      obtain ⟨b, off, ea, h1⟩ := HS.out.at hm
      subst ea
      have hwK : IntKind.i64.wrap ((K : Int) + 1) = (K : Int) + 1 := IntWalk.i64_in _ (by have := HL.out; omega)
      unfold sv at h1
      clear hm hy
      by_cases hq : y = x
      · have hqb : ((str x).toList == (str y).toList) = true := by rw [hq]; simp
        have HQ := Lib.hid (show (y == x) = true from beq_iff_eq.2 hq)
        clear hq
        go_wp2_with fail
        go_ret
        exact ⟨ret_int (idxP_at _ l K y HY.out HQ.out HI.out).symm, rfl⟩
      · have hqb : ((str x).toList == (str y).toList) = false := str_ne (fun e => hq e.symm)
        have HQ := Lib.hid (show (y == x) = false from beq_eq_false_iff_ne.2 hq)
        clear hq
        go_wp2_with fail
        exact ⟨⟨K + 1, by go_num, by omega, trivial, Lib.hid (none_next HI.out HY.out HQ.out)⟩, by simp [intOf]; omega⟩
    · have hltI : ¬ (K : Int) < (N : Int) := by omega
      have e : K = N := by omega
      go_wp2_with fail
      go_ret
      exact ⟨ret_int (idxP_none _ l (fun j y hy => HI.out j y (by have := (List.getElem?_eq_some_iff.1 hy).1; rw [HN.out] at this; omega) hy)).symm, rfl⟩

end Go.Proofs.YtfooiggedgcjcaaGreatDoor.R
