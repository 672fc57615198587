/-
  Contracts of the program of layer 4: Parse.
-/
import Derived.Test.YtbeidmkhpcnbbaaGreatDoorIPRead
namespace Go.Proofs.YtbeidmkhpcnbbaaGreatDoor.I
open Go Go.RowKit Go.Proofs.YtbeidmkhpcnbbaaGreatDoor.B Go.Proofs.YtbeidmkhpcnbbaaGreatDoor.K Go.Proofs.YtbeidmkhpcnbbaaGreatDoor.E
set_option linter.unusedVariables false

section
variable {f : Nat → Option Obj} {W0 : World} {B a : Nat} {t s : Bs} {v1 : Value} {na e : Int} {c : List In}

set_option maxHeartbeats 1000000 in
set_option maxRecDepth 100000 in
theorem end_ok (w : World) (h : Rd f W0 B t v1 na t.length s c e w) :
    Calls Tryz.prog 17 #[.pointer (some ⟨B, 0, none⟩)] w fun z w' => z = .returned (.bool true) ∧ Rd f W0 B t v1 na t.length s c e w' := by
  obtain ⟨_, ⟨c0, _, _, c3, _, _, _⟩, _, _⟩ := h.cells
  have hsz : (str t).size = t.length := str_size t
  have heq : ((t.length : Int) == (t.length : Int)) = true := by simp
  have HH := Lib.hid h
  unfold sv at c0
  clear h
  go_enter Tryz.func17, Tryz.ntmps17
  go_wp2_with fail
  go_quiet (fail)
  go_wp2_with fail
  go_ret
  exact ⟨rfl, HH.out.drewN _⟩

set_option maxHeartbeats 1000000 in
set_option maxRecDepth 100000 in
theorem end_no (w : World) (ha : a < t.length) (h : Rd f W0 B t v1 na a s c e w) :
    Calls Tryz.prog 17 #[.pointer (some ⟨B, 0, none⟩)] w fun z w' => z = .returned (.bool false) ∧ Rd f W0 B t v1 na a s c 6 w' := by
  obtain ⟨_, ⟨c0, _, _, c3, _, _, _⟩, _, _⟩ := h.cells
  have hsz : (str t).size = t.length := str_size t
  obtain ⟨n, hn⟩ : ∃ n, t.length = n := ⟨_, rfl⟩
  rw [hn] at ha hsz
  have heq : ((a : Int) == (n : Int)) = false := by rw [beq_eq_false_iff_ne]; omega
  have HF := Lib.hid (fun W hW => fail_any (f := f) (W0 := W0) (B := B) (a := a) (t := t) (s := s) (v1 := v1) (na := na) (e := e) (c := c) W 6 hW)
  have HH := Lib.hid h
  unfold sv at c0
  clear h ha hn
  go_enter Tryz.func17, Tryz.ntmps17
  go_wp2_with fail
  go_region_with (go_at_call 37; refine (HF.out _ (by first | exact HH.out.drewN _ | exact HH.out)).mono ?_; rintro _ w1 ⟨rfl, hr1⟩; have HR1 := Lib.hid hr1; clear hr1)
  all_goals
    go_wp2_with fail
    go_ret
    exact ⟨rfl, by first | exact HR1.out | exact HR1.out.drewN _⟩
end

/-- A reader as it is made. -/
theorem rd_made (w : World) (t : Bs) (v1 : Value) (na : Int) : Rd (fun _ => none) w w.heap.size t v1 na 0 [] [] 0 (w.alloc (.cells (rdCells t v1 na 0 [] (.slice none 0 0) 0) 48 (0, 0))) :=
  ⟨(Below.refl _ _).alloc (Nat.le_refl _) _, Nat.le_refl _, fun i o h => (by cases h), .slice none 0 0, heap_alloc_at _ _, World.ownsRow_nil _ _ _ _, fun k h => (by cases h)⟩

theorem own_form {w : World} {B : Nat} {c : List In} {v : Value} (h : w.ownsRow B 39 2 v c.length (pairCells c)) : ∃ av cv, v = .slice av c.length cv := by
  rcases h.2 with ⟨rfl, h0⟩ | ⟨g, cap, cur, rfl, _⟩
  · rw [h0]; exact ⟨none, 0, rfl⟩
  · exact ⟨_, _, rfl⟩

set_option maxHeartbeats 2000000 in
set_option maxRecDepth 100000 in
theorem parse_err (t : Bs) (vs : List Bs) (na : Int) (ts : List Tk) (p : Nat) (e : Int) (v1 : Value) (w : World) (hg : Glob w) (hlx : Lx 0 t ts) (htl : t.length ≤ 2048) (hvs : Names w v1 vs) (hvl : vs.length ≤ 1000000)
    (hpa : Pa vs na (.lv 1) ts (.err p e)) (htsl : ts.length ≤ 1000000) :
    Calls Tryz.prog 8 #[sv t, v1, .int .i64 na] w fun x w' => (∃ v, x = .returned (.tuple #[v, .int .i64 (p : Int), .int .i64 e])) ∧ Below w.heap.size w w' := by
  obtain ⟨⟨p', s'⟩, r', hts⟩ := lx_cons hlx
  have HD := Lib.hid (does_any (B := w.heap.size) (t := t) hg hvs hvl htl hpa)
  have hmade := rd_made w t v1 na
  have HA := Lib.hid (advance_any _ hg hmade (Nat.zero_le _) (hts ▸ hlx) htl)
  have hsz : (str t).size = t.length := str_size t
  have hle : ¬ 2048 < (t.length : Int) := by omega
  have HTS := Lib.hid (show ts = (p', s') :: r' ∧ ts.length ≤ 1000000 from ⟨hts, htsl⟩)
  obtain ⟨ad, cap, hv1, hvs2⟩ := hvs
  obtain ⟨n, hn⟩ : ∃ n, (vs.map sv).length = n := ⟨_, rfl⟩
  rw [hn] at hv1
  subst hv1
  unfold sv
  unfold rdCells sv at HA
  clear hg hlx htl hvl hpa hts htsl hmade hn hvs2
  go_enter Tryz.func8, Tryz.ntmps8
  go_wp2_with (go_at_call 15; refine HA.out.mono ?_; rintro _ w1 ⟨rfl, hr1, ha1⟩; have HR1 := Lib.hid hr1; have HA1 := Lib.hid ha1; clear hr1 ha1)
  refine (HD.out (fun _ => none) [] w1 p' s' r' HTS.out.1 HA1.out HR1.out (by have := HTS.out.2; simp only [List.length_nil]; omega)).mono ?_
  rintro _ w2 ⟨rfl, s2, c2, hr2⟩
  obtain ⟨_, ⟨_, _, _, c3, _, _, c6⟩, _, _⟩ := hr2.cells
  have HB2 := Lib.hid hr2.below
  clear hr2 HD HTS HR1 HA1 HA
  go_wp2_with fail
  go_quiet (fail)
  go_wp2_with fail
  go_ret3
  exact ⟨⟨_, rfl⟩, below_drewN HB2.out _⟩

set_option maxHeartbeats 2000000 in
set_option maxRecDepth 100000 in
theorem parse_more (t : Bs) (vs : List Bs) (na : Int) (ts : List Tk) (c : List In) (q : Nat) (s : Bs) (r : List Tk) (hs0 : s ≠ []) (v1 : Value) (w : World) (hg : Glob w) (hlx : Lx 0 t ts) (htl : t.length ≤ 2048) (hvs : Names w v1 vs) (hvl : vs.length ≤ 1000000)
    (hpa : Pa vs na (.lv 1) ts (.ok c ((q, s) :: r))) (htsl : ts.length ≤ 1000000) :
    Calls Tryz.prog 8 #[sv t, v1, .int .i64 na] w fun x w' => (∃ v, x = .returned (.tuple #[v, .int .i64 (q : Int), .int .i64 6])) ∧ Below w.heap.size w w' := by
  obtain ⟨⟨p', s'⟩, r', hts⟩ := lx_cons hlx
  have HD := Lib.hid (does_any (B := w.heap.size) (t := t) hg hvs hvl htl hpa)
  have hmade := rd_made w t v1 na
  have HA := Lib.hid (advance_any _ hg hmade (Nat.zero_le _) (hts ▸ hlx) htl)
  have hsz : (str t).size = t.length := str_size t
  have hle : ¬ 2048 < (t.length : Int) := by omega
  have HTS := Lib.hid (show ts = (p', s') :: r' ∧ ts.length ≤ 1000000 from ⟨hts, htsl⟩)
  obtain ⟨ad, cap, hv1, hvs2⟩ := hvs
  obtain ⟨n, hn⟩ : ∃ n, (vs.map sv).length = n := ⟨_, rfl⟩
  rw [hn] at hv1
  subst hv1
  unfold sv
  unfold rdCells sv at HA
  clear hg hlx htl hvl hpa hts htsl hmade hn hvs2
  go_enter Tryz.func8, Tryz.ntmps8
  go_wp2_with (go_at_call 15; refine HA.out.mono ?_; rintro _ w1 ⟨rfl, hr1, ha1⟩; have HR1 := Lib.hid hr1; have HA1 := Lib.hid ha1; clear hr1 ha1)
  refine (HD.out (fun _ => none) [] w1 p' s' r' HTS.out.1 HA1.out HR1.out (by have := HTS.out.2; simp only [List.length_nil]; omega)).mono ?_
  rintro _ w2 ⟨rfl, p2, s2, r2, e2, a2, hr2⟩
  cases e2
  have hq : q < t.length := by
    have := (a2.next hs0).1
    have h1 : 0 < s.length := List.length_pos_iff.2 hs0
    omega
  have HE := Lib.hid (end_no w2 hq hr2)
  clear hr2 HD HTS HR1 HA1 HA a2 hq hs0
  go_wp2_with (go_at_call 17; refine HE.out.mono ?_; rintro _ w3 ⟨rfl, hr3⟩; obtain ⟨_, ⟨_, _, _, c3, _, _, c6⟩, _, _⟩ := hr3.cells; have HB3 := Lib.hid hr3.below; clear hr3)
  go_quiet (fail)
  go_wp2_with fail
  go_ret3
  exact ⟨⟨_, rfl⟩, below_drewN HB3.out _⟩

set_option maxHeartbeats 2000000 in
set_option maxRecDepth 100000 in
theorem parse_ok (t : Bs) (vs : List Bs) (na : Int) (ts : List Tk) (c : List In) (z : Nat) (hcl : (c.length : Int) ≤ 31) (v1 : Value) (w : World) (hg : Glob w) (hlx : Lx 0 t ts) (htl : t.length ≤ 2048) (hvs : Names w v1 vs) (hvl : vs.length ≤ 1000000)
    (hpa : Pa vs na (.lv 1) ts (.ok c [(z, [])])) (htsl : ts.length ≤ 1000000) :
    Calls Tryz.prog 8 #[sv t, v1, .int .i64 na] w fun x w' => (∃ v, x = .returned (.tuple #[v, .int .i64 0, .int .i64 0]) ∧ SlI w' v c) ∧ Below w.heap.size w w' := by
  obtain ⟨⟨p', s'⟩, r', hts⟩ := lx_cons hlx
  have HD := Lib.hid (does_any (B := w.heap.size) (t := t) hg hvs hvl htl hpa)
  have hmade := rd_made w t v1 na
  have HA := Lib.hid (advance_any _ hg hmade (Nat.zero_le _) (hts ▸ hlx) htl)
  have hsz : (str t).size = t.length := str_size t
  have hle : ¬ 2048 < (t.length : Int) := by omega
  have HTS := Lib.hid (show ts = (p', s') :: r' ∧ ts.length ≤ 1000000 from ⟨hts, htsl⟩)
  obtain ⟨ad, cap, hv1, hvs2⟩ := hvs
  obtain ⟨n, hn⟩ : ∃ n, (vs.map sv).length = n := ⟨_, rfl⟩
  rw [hn] at hv1
  subst hv1
  unfold sv
  unfold rdCells sv at HA
  clear hg hlx htl hvl hpa hts htsl hmade hn hvs2
  go_enter Tryz.func8, Tryz.ntmps8
  go_wp2_with (go_at_call 15; refine HA.out.mono ?_; rintro _ w1 ⟨rfl, hr1, ha1⟩; have HR1 := Lib.hid hr1; have HA1 := Lib.hid ha1; clear hr1 ha1)
  refine (HD.out (fun _ => none) [] w1 p' s' r' HTS.out.1 HA1.out HR1.out (by have := HTS.out.2; simp only [List.length_nil]; omega)).mono ?_
  rintro _ w2 ⟨rfl, p2, s2, r2, e2, a2, hr2⟩
  cases e2
  obtain ⟨hz, _⟩ := a2.done
  subst hz
  have HE := Lib.hid (end_ok w2 hr2)
  clear hr2 HD HTS HR1 HA1 HA a2
  go_wp2_with (go_at_call 17; refine HE.out.mono ?_; rintro _ w3 ⟨rfl, hr3⟩; obtain ⟨v, ⟨_, _, _, _, _, c5, _⟩, ho, _⟩ := hr3.cells; obtain ⟨av, cv, hv⟩ : ∃ av cv, v = .slice av c.length cv := own_form ho; subst hv; have HO := Lib.hid ho; have HB3 := Lib.hid hr3.below; clear hr3 ho)
  go_ret3
  exact ⟨⟨_, rfl, SlI.owns HO.out⟩, HB3.out⟩

end Go.Proofs.YtbeidmkhpcnbbaaGreatDoor.I
