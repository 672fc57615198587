/-
  Layer 5, the program's side: the function that Reads makes, which marks what an expression names.
  Layer 5, the program's side: Writes.
  Layer 5, the program's side: Reads.
-/
import Derived.Test.YtfcdkjhabdpijaaDoorRMf
import Derived.Test.YtfcdkjhabdpijaaDoorRRef2
import Derived.Test.YtfcdkjhabdpijaaDoorEPUses2
import Derived.StillTailTactics
namespace Go.Proofs.YtfcdkjhabdpijaaDoor.R
open Go Go.RowKit Go.Proofs.YtfcdkjhabdpijaaDoor.B Go.Proofs.YtfcdkjhabdpijaaDoor.K Go.Proofs.YtfcdkjhabdpijaaDoor.E
set_option linter.unusedVariables false

theorem crun_right (nv na : Int) : ∀ (code : List In) (h k : Int), crun nv na code h = .ok k → ∀ i ∈ code, right i nv na = true
  | [], _, _, _, i, hi => by cases hi
  | j :: r, h, k, hr, i, hi => by
    unfold crun cstep at hr
    split at hr
    · cases hr
    · split at hr
      · cases hr
      · rename_i h2
        split at hr
        · cases hr
        · rcases List.mem_cons.1 hi with rfl | hi
          · simpa using h2
          · exact crun_right nv na r _ k hr i hi

theorem right_var {i : In} {nv na : Int} (h : right i nv na = true) (h2 : i.1 = 2) : 0 ≤ i.2 ∧ i.2 < nv := by
  rcases I.right_cases i nv na h with h | h | h | h
  · omega
  · exact h.2
  · omega
  · omega

theorem var_of_check {code : List In} {nv na : Int} (h : (check code nv na).2 = 0) : ∀ i ∈ code, i.1 = 2 → 0 ≤ i.2 ∧ i.2 < nv := by
  intro i hi h2
  unfold check at h
  split at h
  · cases h
  · split at h
    · cases h
    · rw [chk_err] at h
      cases hc : crun nv na code 0 with
      | error e =>
        rw [hc] at h
        have he := crun_error nv na code 0 e hc
        have h : e = 0 := h
        omega
      | ok k => exact right_var (crun_right nv na code 0 k hc i hi) h2

theorem uses_le {code : List In} {nv : Nat} (h : ∀ i ∈ code, i.1 = 2 → 0 ≤ i.2 ∧ i.2 < (nv : Int)) : (uses 2 6 code).length ≤ nv := by
  have : ∀ (l : List In) (t : Int), (∀ i ∈ l, i.1 = 2 → 0 ≤ i.2 ∧ i.2 < (nv : Int)) → t < nv → usesTop 2 6 l t < nv := by
    intro l
    induction l with
    | nil => exact fun t _ ht => ht
    | cons i r ih =>
      intro t hl ht
      unfold usesTop
      refine ih _ (fun j hj => hl j (List.mem_cons_of_mem _ hj)) ?_
      split
      · rename_i hc
        have := hl i List.mem_cons_self hc.1
        omega
      · exact ht
  have h1 := this code (-1) h (by omega)
  have h2 := usesTop_le 2 6 code (-1)
  unfold uses
  rw [List.length_map, List.length_range]
  omega

theorem nm_named (x : Int) (i : In) : nm x i = named 2 x i := by
  unfold nm named
  rw [Bool.eq_iff_iff, Bool.and_eq_true, beq_iff_eq, beq_iff_eq, decide_eq_true_iff]

theorem uses_getD (code : List In) (m : Nat) (hm : m < 6) : (uses 2 6 code).getD m false = names code m := by
  rw [List.getD_eq_getElem?_getD, uses_at]
  have e : code.any (named 2 m) = names code m := by
    unfold names; congr 1; funext i; exact (nm_named m i).symm
  split
  · exact e
  · rw [← e, named_far 2 6 code m (by omega) (by omega)]; rfl

/-- What the function that Reads makes has: the row of bools, and the cell of its slice. -/
structure Mk (w : World) (V : Nat) (l : List Bool) (W : World) : Prop where
  below : Below w.heap.size w W
  row : W.heap[w.heap.size]? = some (.cells (l.map Value.bool).toArray 4 (0, 0))
  k5 : W.cell? ⟨w.heap.size + 1, 0, none⟩ = some (.slice (some ⟨w.heap.size, 0, none⟩) V V)
  len : l.length = V

section
variable {w W W' : World} {V : Nat} {l : List Bool}
theorem Mk.call (h : Mk w V l W) (hb : Below W.heap.size W W') : Mk w V l W' :=
  ⟨h.below.trans (hb.mono h.below.size), (hb.block _ (Array.getElem?_eq_some_iff.1 h.row).1).trans h.row, kept_cell hb h.k5, h.len⟩
theorem Mk.set (h : Mk w V l W) (k : Nat) (B : Bool) : Mk w V (l.set k B) (W.setCell ⟨w.heap.size, k, none⟩ (.bool B)) := by
  refine ⟨h.below.setCell (p := ⟨w.heap.size, k, none⟩) (Nat.le_refl _) _, ?_, ?_, by rw [List.length_set]; exact h.len⟩
  · rw [heap_setCell_same W w.heap.size k _ _ _ h.row, List.map_set]; simp
  · rw [World.cell?_setCell_other W ⟨w.heap.size, k, none⟩ ⟨w.heap.size + 1, 0, none⟩ _ (by intro e; injection e; omega)]; exact h.k5
theorem Mk.read (h : Mk w V l W) {i : Nat} {B : Bool} (hv : l[i]? = some B) : W.cell? ⟨w.heap.size, i, none⟩ = some (.bool B) := by
  unfold World.cell?; rw [h.row]; simp [hv]
theorem Mk.store (h : Mk w V l W) {k : Nat} (hk : k < l.length) : ∃ old, W.cell? ⟨w.heap.size, k, none⟩ = some old ∧ W.frozen? ⟨w.heap.size, k, none⟩ = false :=
  row_cell h.row (by simpa using hk)
end

theorem getD_setB (l : List Bool) (k i : Nat) (B : Bool) : (l.set k B).getD i false = (if k = i ∧ i < l.length then B else l.getD i false) := by
  rw [List.getD_eq_getElem?_getD, List.getElem?_set]
  by_cases h : k = i
  · subst h
    by_cases h2 : k < l.length
    · simp [h2]
    · simp [h2, List.getD_eq_getElem?_getD]
  · simp [h, List.getD_eq_getElem?_getD]

/-- What is marked behind K places. -/
def OrTo (l u l' : List Bool) (K : Nat) : Prop := ∀ i, l'.getD i false = (l.getD i false || (decide (i < K) && u.getD i false))

theorem OrTo.next {l u l' : List Bool} {K : Nat} {A B : Bool} (h : OrTo l u l' K) (hA : l'[K]? = some A) (hB : u[K]? = some B) : OrTo l u (l'.set K (A || B)) (K + 1) := by
  intro i
  have hi := h i
  rw [getD_setB]
  have hK : K < l'.length := (List.getElem?_eq_some_iff.1 hA).1
  by_cases e : K = i
  · subst e
    rw [if_pos ⟨rfl, hK⟩]
    rw [getD_of hA, show decide (K < K) = false by simp, Bool.false_and, Bool.or_false] at hi
    rw [getD_of hB, hi, show decide (K < K + 1) = true by simp, Bool.true_and]
  · rw [if_neg (fun h => e h.1), hi]
    congr 2
    rw [decide_eq_decide]; omega

theorem OrTo.full {l u l' : List Bool} {K : Nat} (h : OrTo l u l' K) (hK : u.length ≤ K) : ∀ i, l'.getD i false = (l.getD i false || u.getD i false) := by
  intro i
  rw [h i]
  by_cases e : i < K
  · rw [decide_eq_true e, Bool.true_and]
  · rw [decide_eq_false e, Bool.false_and, show u.getD i false = false by rw [List.getD_eq_getElem?_getD, List.getElem?_eq_none (by omega)]; rfl]

set_option maxHeartbeats 2000000 in
set_option maxRecDepth 100000 in
theorem mark_any (code : List In) (v : Value) (w W : World) (V : Nat) (l : List Bool) (hM : Mk w V l W) (hs : SlI W v code) (hl : code.length ≤ 9223372036854775807) (hu : (uses 2 6 code).length ≤ V) (hV : V ≤ 6) :
    Calls Tryd.prog 42 #[v, .pointer (some ⟨w.heap.size + 1, 0, none⟩)] W fun z w' => z = .returned (.tuple #[]) ∧ ∃ l', Mk w V l' w' ∧ ∀ i, l'.getD i false = (l.getD i false || (uses 2 6 code).getD i false) := by
  have HU0 := Lib.hid (uses_own code v W hs hl)
  obtain ⟨u, hue⟩ : ∃ u, uses 2 6 code = u := ⟨_, rfl⟩
  rw [hue] at HU0 hu ⊢
  have HM := Lib.hid hM
  obtain ⟨G, hG⟩ : ∃ G, w.heap.size = G := ⟨_, rfl⟩
  have hGW : G < W.heap.size := by rw [← hG]; exact (Array.getElem?_eq_some_iff.1 hM.row).1
  clear hue hM hs hl
  rw [hG]
  go_enter Tryd.func42, Tryd.ntmps42
  go_wp2_with fail
  refine HU0.out.mono ?_
  rintro _ w2 ⟨⟨u1, u2, rfl, h1, -⟩, hb⟩
  have HM2 := Lib.hid (HM.out.call hb)
  obtain ⟨a1, cap1, rfl⟩ := owns_shape h1
  obtain ⟨n, hn⟩ : ∃ n, u.length = n := ⟨_, rfl⟩
  rw [hn] at hu
  unfold Marks at h1
  rw [hn] at h1 ⊢
  have HO := Lib.hid h1
  have HN := Lib.hid hn
  clear hb h1 hn HM HU0
  go_wp2_with fail
  go_loopw [14] (fun x wr => ∃ (K : Nat), x = .int .i64 (K : Int) ∧ K ≤ n ∧ Hid (∃ l', Mk w V l' wr ∧ OrTo l u l' K ∧ Tg G w2 wr)) (fun x _ => n - (intOf x).toNat)
  case atStart => exact ⟨0, rfl, Nat.zero_le _, Lib.hid ⟨l, HM2.out, fun i => by simp, Tg.refl _ _⟩⟩
  case round =>
    obtain ⟨K, rfl, hK, HI⟩ := hrel
    by_cases hlt : K < n
    · have hltI : (K : Int) < (n : Int) := by omega
      have hltV : (K : Int) < (V : Int) := by omega
      obtain ⟨l', hM, hO, hT⟩ := HI.out
      obtain ⟨A, hA⟩ : ∃ A, l'[K]? = some A := ⟨_, List.getElem?_eq_getElem (by rw [hM.len]; omega)⟩
      obtain ⟨B, hB⟩ : ∃ B, u[K]? = some B := ⟨_, List.getElem?_eq_getElem (by rw [HN.out]; omega)⟩
      have hm : (u.map Value.bool)[K]? = some (.bool B) := by rw [List.getElem?_map, hB]; rfl
      obtain ⟨g1, cp, hv, -, -⟩ := owns_form_at HO.out K hlt
      have hgb : g1 ≠ G := by
        have := owns_block HO.out g1 (by rw [hv]; rfl)
        omega
      obtain ⟨b', off', ea, hc⟩ := (Sl.owns HO.out).at hm
      cases hv
      cases ea
      have pu := hT.cell hc hgb
      rw [Nat.zero_add] at pu
      have pr := hM.read hA
      rw [hG] at pr
      obtain ⟨old, ko, kf⟩ := hM.store (k := K) (by rw [hM.len]; omega)
      rw [hG] at kf
      have k5 := hM.k5
      rw [hG] at k5
      have hwK := wrap_next K (by omega)
      have HX : Hid (∃ l', Mk w V l' (wr.setCell ⟨G, K, none⟩ (.bool (A || B))).drew ∧ OrTo l u l' (K + 1) ∧ Tg G w2 (wr.setCell ⟨G, K, none⟩ (.bool (A || B))).drew) := by
        refine Lib.hid ⟨l'.set K (A || B), ?_, hO.next hA hB, hT.trans ((Tg.set wr G K _).trans (Tg.of_below (Below.refl _ _).drew))⟩
        have := hM.set K (A || B)
        rw [hG] at this
        exact this.call (Below.refl _ _).drew
      clear HI hM hO hT hA hB hm hgb hc ko HM2
      cases A <;> cases B
      · go_wp2_with fail
        go_still_tail 10, (by kernel_rfl)
        change wpList _ _ _ _ _ wr.drew
        go_wp2_with fail
        clear hwK hltI
        exact ⟨⟨K + 1, by go_num, by omega, HX⟩, by simp [intOf]; omega⟩
      · go_wp2_with fail
        go_still_tail 10, (by kernel_rfl)
        change wpList _ _ _ _ _ wr.drew
        go_wp2_with fail
        clear hwK hltI
        exact ⟨⟨K + 1, by go_num, by omega, HX⟩, by simp [intOf]; omega⟩
      · go_wp2_with fail
        go_still_tail 10, (by kernel_rfl)
        change wpList _ _ _ _ _ wr.drew
        go_wp2_with fail
        clear hwK hltI
        exact ⟨⟨K + 1, by go_num, by omega, HX⟩, by simp [intOf]; omega⟩
      · go_wp2_with fail
        go_still_tail 10, (by kernel_rfl)
        change wpList _ _ _ _ _ wr.drew
        go_wp2_with fail
        clear hwK hltI
        exact ⟨⟨K + 1, by go_num, by omega, HX⟩, by simp [intOf]; omega⟩
    · have hltI : ¬ (K : Int) < (n : Int) := by omega
      obtain ⟨l', hM, hO, hT⟩ := HI.out
      have HY : Hid (∃ l', Mk w V l' wr ∧ ∀ i, l'.getD i false = (l.getD i false || u.getD i false)) := Lib.hid ⟨l', hM, hO.full (by rw [HN.out]; omega)⟩
      clear hM hO hT HI HM2 hK hlt
      go_wp2_with fail
      go_end0
      exact ⟨rfl, HY.out⟩
end Go.Proofs.YtfcdkjhabdpijaaDoor.R

namespace Go.Proofs.YtfcdkjhabdpijaaDoor.R
open Go Go.RowKit Go.Proofs.YtfcdkjhabdpijaaDoor.B Go.Proofs.YtfcdkjhabdpijaaDoor.K Go.Proofs.YtfcdkjhabdpijaaDoor.E
set_option linter.unusedVariables false

theorem make_bools0 (S : Nat) (h8 : S ≤ 8) : ∀ w : World, (Instr.makeSlice 42 (.int .i64 (S : Int)) (.int .i64 (S : Int))).run Tryd.prog w = .ok (.slice (some ⟨w.heap.size, 0, none⟩) S S) (w.alloc (.cells (Array.replicate S (.bool false)) 4)) := by
  intro w
  rcases (show S = 0 ∨ S = 1 ∨ S = 2 ∨ S = 3 ∨ S = 4 ∨ S = 5 ∨ S = 6 ∨ S = 7 ∨ S = 8 by omega) with rfl | rfl | rfl | rfl | rfl | rfl | rfl | rfl | rfl <;> kernel_rfl

/-- What Reads and Writes tell. -/
def MarksOr (t : Tb) (n : Int) (P : Rl → Int → Bool) (e : Ending) (w' : World) : Prop := ((isAt n t.rules.length && mayB t) = false ∧ e = .returned (.slice none 0 0)) ∨
  (mayB t = true ∧ ∃ (k : Nat) (r : Rl) (v : Value) (l : List Bool), n = (k : Int) ∧ t.rules[k]? = some r ∧ e = .returned v ∧ Sl w' v (l.map Value.bool) ∧ l.length = t.vars.length ∧ ∀ x : Nat, x < l.length → l.getD x false = P r x)

/-- The row of bools alone. -/
structure Mw (w : World) (V : Nat) (l : List Bool) (W : World) : Prop where
  below : Below w.heap.size w W
  row : W.heap[w.heap.size]? = some (.cells (l.map Value.bool).toArray 4 (0, 0))
  len : l.length = V

section
variable {w W W' : World} {V : Nat} {l : List Bool}
theorem Mw.call (h : Mw w V l W) (hb : Below W.heap.size W W') : Mw w V l W' :=
  ⟨h.below.trans (hb.mono h.below.size), (hb.block _ (Array.getElem?_eq_some_iff.1 h.row).1).trans h.row, h.len⟩
theorem Mw.set (h : Mw w V l W) (k : Nat) (B : Bool) : Mw w V (l.set k B) (W.setCell ⟨w.heap.size, k, none⟩ (.bool B)) := by
  refine ⟨h.below.setCell (p := ⟨w.heap.size, k, none⟩) (Nat.le_refl _) _, ?_, by rw [List.length_set]; exact h.len⟩
  rw [heap_setCell_same W w.heap.size k _ _ _ h.row, List.map_set]; simp
theorem Mw.store (h : Mw w V l W) {k : Nat} (hk : k < l.length) : ∃ old, W.cell? ⟨w.heap.size, k, none⟩ = some old ∧ W.frozen? ⟨w.heap.size, k, none⟩ = false :=
  row_cell h.row (by simpa using hk)
theorem Mw.start (w : World) (V : Nat) : Mw w V (List.replicate V false) (w.alloc (.cells (Array.replicate V (.bool false)) 4)) :=
  ⟨below_alloc _ _, by rw [heap_alloc_at]; simp, List.length_replicate⟩
theorem Mw.sl (h : Mw w V l W) : Sl W (.slice (some ⟨w.heap.size, 0, none⟩) V V) (l.map Value.bool) := by
  have hlS : (l.map Value.bool).length = V := by rw [List.length_map]; exact h.len
  rw [← hlS]
  exact Sl.row h.row (by rw [List.take_of_length_le (by simp)])
end

/-- What is marked so far. -/
def Got (w : World) (V : Nat) (A : Nat → Bool) (W : World) : Prop := ∃ l, Mw w V l W ∧ ∀ x, x < V → l.getD x false = A x

theorem any_take {α : Type} (f : α → Bool) (l : List α) (K : Nat) (x : α) (h : l[K]? = some x) : (l.take (K + 1)).any f = ((l.take K).any f || f x) := by
  rw [List.take_add_one, h, List.any_append]
  simp

theorem sl_lenI {w : World} {v : Value} {code : List In} (h : SlI w v code) : ∃ a cap, v = .slice a code.length cap := by
  obtain ⟨a, cap, rfl, -⟩ := h
  exact ⟨a, cap, rfl⟩

set_option maxHeartbeats 4000000 in
set_option maxRecDepth 100000 in
theorem writes_any (t : Tb) (c0 c1 c2 c3 : Value) (n : Int) (w : World) (h : TbIs w [c0, c1, c2, c3] t) (hw : TbWf t) (hG : I.Glob w) :
    Calls Tryd.prog 23 #[.agg #[c0, c1, c2, c3], .int .i64 n] w fun e w' => MarksOr t n rlWrites e w' ∧ Below w.heap.size w w' := by
  have HM0 := Lib.hid (fun (W : World) (hb : Below w.heap.size w W) => mayBe_any t c0 c1 c2 c3 W (h.below hb) hw (hG.below hb))
  have HT := Lib.hid h
  obtain ⟨d0, d1, d2, d3, e, h0, h1, h2, h3⟩ := h
  cases e
  obtain ⟨a3, cap3, rfl, h3⟩ := h3.open
  obtain ⟨a1, cap1, rfl⟩ := sl_len h1
  rw [List.length_map] at HM0 HT ⊢
  obtain ⟨N, hN⟩ : ∃ N, t.rules.length = N := ⟨_, rfl⟩
  obtain ⟨V, hV⟩ : ∃ V, t.vars.length = V := ⟨_, rfl⟩
  rw [hN, hV] at HM0 HT
  rw [hN] at h3 ⊢
  rw [hV]
  obtain ⟨W0, hW0⟩ : ∃ W0, w.alloc (.cells #[c0, .slice a1 V cap1, c2, .slice a3 N cap3] 26) = W0 := ⟨_, rfl⟩
  have hB0 : Below w.heap.size w W0 := by rw [← hW0]; exact below_alloc _ _
  have q0 : W0.cell? ⟨w.heap.size, 0, none⟩ = some c0 := by rw [← hW0]; exact box_cell _ _ _ _ _ rfl
  have q1 : W0.cell? ⟨w.heap.size, 1, none⟩ = some (.slice a1 V cap1) := by rw [← hW0]; exact box_cell _ _ _ _ _ rfl
  have q2 : W0.cell? ⟨w.heap.size, 2, none⟩ = some c2 := by rw [← hW0]; exact box_cell _ _ _ _ _ rfl
  have q3 : W0.cell? ⟨w.heap.size, 3, none⟩ = some (.slice a3 N cap3) := by rw [← hW0]; exact box_cell _ _ _ _ _ rfl
  have H := Lib.hid (HM0.out W0 hB0)
  have HB0 := Lib.hid hB0
  have HP := Lib.hid (isPlace_any n (N : Int) W0)
  cases hA : isAt n (N : Int) with
  | false =>
    rw [hA] at HP
    have HR : Hid (∀ w', MarksOr t n rlWrites (.returned (.slice none 0 0)) w') := Lib.hid fun _ => Or.inl ⟨by rw [hN, hA]; rfl, rfl⟩
    clear hB0 hw hG h0 h1 h2 h3 HM0 hN hV hA H
    go_enter Tryd.func23, Tryd.ntmps23
    go_wp2_with fail
    refine HP.out.mono ?_
    rintro _ w1 ⟨rfl, rfl⟩
    go_wp2_with fail
    go_ret
    exact ⟨HR.out _, HB0.out⟩
  | true =>
    rw [hA] at HP
    cases hM : mayB t with
    | false =>
      rw [hM] at H
      have HR : Hid (∀ w', MarksOr t n rlWrites (.returned (.slice none 0 0)) w') := Lib.hid fun _ => Or.inl ⟨by rw [hM, Bool.and_false], rfl⟩
      clear hB0 hw hG h0 h1 h2 h3 HM0 hN hV hA hM
      go_enter Tryd.func23, Tryd.ntmps23
      go_wp2_with fail
      refine HP.out.mono ?_
      rintro _ w1 ⟨rfl, rfl⟩
      go_wp2_with fail
      refine H.out.mono ?_
      rintro _ w1 ⟨rfl, hb⟩
      have HB1 := Lib.hid (HB0.out.trans (hb.mono HB0.out.size))
      clear hb
      go_wp2_with fail
      go_ret
      exact ⟨HR.out _, HB1.out⟩
    | true =>
      rw [hM] at H
      have hF := fine_of (by simpa [mayB] using hM)
      obtain ⟨y0, y1⟩ := (isAt_iff _ _).1 hA
      obtain ⟨k, rfl⟩ : ∃ k : Nat, n = k := ⟨n.toNat, by omega⟩
      obtain ⟨r, hr⟩ : ∃ r, t.rules[k]? = some r := ⟨_, List.getElem?_eq_getElem (by omega)⟩
      have hrm := List.mem_of_getElem? hr
      have hsl3 := (hF.steps r hrm).1
      have HSETS := Lib.hid (hF.sets r hrm)
      have hV6 : V ≤ 6 := by rw [← hV]; exact hF.vars
      have h8 : V ≤ 8 := by omega
      rw [hV] at HSETS
      have HMB := Lib.hid hM
      have HRW := Lib.hid (hw.2.2.2.1 r hrm)
      have HRK := Lib.hid hr
      have HV := Lib.hid hV
      obtain ⟨b, off, ea, cs, -, ⟨f, g, st, rfl, -, -, hst⟩, hc⟩ := h3.at hr
      subst ea
      obtain ⟨aS, caps, rfl, hst⟩ := hst.open
      have HST := Lib.hid hst
      obtain ⟨T, hT⟩ : ∃ T, r.steps.length = T := ⟨_, rfl⟩
      rw [hT] at HST hsl3 hc
      have HTT := Lib.hid hT
      have k4 := kept_cell hB0 (hc 4 _ rfl)
      clear hB0 hw hG h0 h1 h2 h3 HM0 hN hV hA hM hF hr hrm hst hT hc
      go_enter Tryd.func23, Tryd.ntmps23
      go_wp2_with fail
      refine HP.out.mono ?_
      rintro _ w1 ⟨rfl, rfl⟩
      go_wp2_with fail
      refine H.out.mono ?_
      rintro _ w1 ⟨rfl, hb⟩
      have HB1 := Lib.hid (HB0.out.trans (hb.mono HB0.out.size))
      have q1 := kept_cell hb q1
      have q3 := kept_cell hb q3
      have k4 := kept_cell hb k4
      have hmk := make_bools0 V h8 w1
      have HMW := Lib.hid (Mw.start w1 V)
      obtain ⟨X, hX⟩ : ∃ X, w1.alloc (.cells (Array.replicate V (.bool false)) 4) = X := ⟨_, rfl⟩
      rw [hX] at hmk HMW
      have hBX : Below w1.heap.size w1 X := HMW.out.below
      have q3 := kept_cell hBX q3
      have k4 := kept_cell hBX k4
      obtain ⟨g1, hg1⟩ : ∃ x, w1.heap.size = x := ⟨_, rfl⟩
      rw [hg1] at hmk
      clear hb hBX hX H HP
      go_wp2_with fail
      go_loopw [32] (fun x wr => ∃ (K : Nat), x = .int .i64 (K : Int) ∧ K ≤ T ∧ Hid (Got w1 V (fun x => (r.steps.take K).any (spWrites x)) wr)) (fun x _ => T - (intOf x).toNat)
      case atStart => exact ⟨0, rfl, Nat.zero_le _, Lib.hid ⟨_, HMW.out, fun x _ => getD_none V x⟩⟩
      case round =>
        obtain ⟨K, rfl, hK, HI⟩ := hrel
        clear HMW hmk q0 q1 q2 q3 k4
        by_cases hlt : K < T
        · have hltI : (K : Int) < (T : Int) := by omega
          obtain ⟨p, hp⟩ : ∃ p, r.steps[K]? = some p := ⟨_, List.getElem?_eq_getElem (by rw [HTT.out]; exact hlt)⟩
          have HPM := Lib.hid (List.mem_of_getElem? hp)
          obtain ⟨b2, off2, ea, cs, -, ⟨vs, rfl, hvs⟩, hc⟩ := HST.out.at hp
          subst ea
          obtain ⟨aq, capq, rfl, hvs⟩ := hvs.open
          obtain ⟨Q, hQ⟩ : ∃ Q, p.sets.length = Q := ⟨_, rfl⟩
          rw [hQ] at hvs hc
          have HVS := Lib.hid hvs
          have HQ := Lib.hid hQ
          have HQL := Lib.hid (show Q ≤ 9223372036854775807 by rw [← hQ]; exact (HRW.out.2.2.2.2.1 p HPM.out).2.1)
          have HPK := Lib.hid hp
          have hwK := wrap_next K (by omega)
          obtain ⟨x0, hx0⟩ : ∃ x, p.to = x := ⟨_, rfl⟩
          rw [hx0] at hc
          obtain ⟨l, hML, hGL⟩ := HI.out
          have hbw : Below w.heap.size w wr := HB1.out.trans (hML.below.mono HB1.out.size)
          have e0 : wr.cell? ⟨b2, off2 + K * 2, none⟩ = some (.slice aq Q capq) := kept_cell hbw (hc 0 _ rfl)
          have e1 := kept_cell hbw (hc 1 _ rfl)
          obtain ⟨W2, hW2⟩ : ∃ W2, wr.alloc (.cells #[.slice aq Q capq, .int .i64 x0] 75) = W2 := ⟨_, rfl⟩
          have hB2 : Below wr.heap.size wr W2 := by rw [← hW2]; exact below_alloc _ _
          have u0 : W2.cell? ⟨wr.heap.size, 0, none⟩ = some (.slice aq Q capq) := by rw [← hW2]; exact box_cell _ _ _ _ _ rfl
          have HG2 := Lib.hid (show Got w1 V (fun x => (r.steps.take K).any (spWrites x) || (p.sets.take 0).any (seWrites x)) W2 from ⟨l, hML.call hB2, fun x hx => by rw [hGL x hx]; simp⟩)
          clear HI hML hGL hbw hc hp hvs hQ hx0 hB2
          go_wp2_with fail
          go_loopw [39] (fun x wr => ∃ (J : Nat), x = .int .i64 (J : Int) ∧ J ≤ Q ∧ Hid (Got w1 V (fun x => (r.steps.take K).any (spWrites x) || (p.sets.take J).any (seWrites x)) wr)) (fun x _ => Q - (intOf x).toNat)
          case atStart => exact ⟨0, rfl, Nat.zero_le _, HG2⟩
          case round =>
            obtain ⟨J, rfl, hJ, HI⟩ := hrel
            clear HG2 e0 e1 u0 hW2
            by_cases hlt2 : J < Q
            · have hltJ : (J : Int) < (Q : Int) := by omega
              obtain ⟨s, hs⟩ : ∃ s, p.sets[J]? = some s := ⟨_, List.getElem?_eq_getElem (by rw [HQ.out]; exact hlt2)⟩
              obtain ⟨b3, off3, ea, cs, -, ⟨vv, rfl, hvv⟩, hc⟩ := HVS.out.at hs
              subst ea
              obtain ⟨av, capv, rfl⟩ := sl_lenI hvv
              have hsv := (HSETS.out p HPM.out s (List.mem_of_getElem? hs)).1
              obtain ⟨m, hm⟩ : ∃ m : Nat, s.var = (m : Int) := ⟨s.var.toNat, by omega⟩
              have hmV : m < V := by omega
              have hmI : (m : Int) < (V : Int) := by omega
              obtain ⟨l, hML, hGL⟩ := HI.out
              have hbw : Below w.heap.size w wr := HB1.out.trans (hML.below.mono HB1.out.size)
              rw [hm] at hc
              have e0 : wr.cell? ⟨b3, off3 + J * 2, none⟩ = some (.int .i64 (m : Int)) := kept_cell hbw (hc 0 _ rfl)
              have e1 := kept_cell hbw (hc 1 _ rfl)
              obtain ⟨L, hL⟩ : ∃ L, s.value.length = L := ⟨_, rfl⟩
              rw [hL] at e1
              have hwJ := wrap_next J (by have := HVS.out; have := HQL.out; omega)
              obtain ⟨W3, hW3⟩ : ∃ W3, wr.alloc (.cells #[.int .i64 (m : Int), .slice av L capv] 77) = W3 := ⟨_, rfl⟩
              have hB3 : Below wr.heap.size wr W3 := by rw [← hW3]; exact below_alloc _ _
              have u0 : W3.cell? ⟨wr.heap.size, 0, none⟩ = some (.int .i64 (m : Int)) := by rw [← hW3]; exact box_cell _ _ _ _ _ rfl
              have hM3 := hML.call hB3
              obtain ⟨old, ko, kf⟩ := hM3.store (k := m) (by rw [hM3.len]; exact hmV)
              rw [hg1] at ko kf
              have HG3 : Hid (Got w1 V (fun x => (r.steps.take K).any (spWrites x) || (p.sets.take (J + 1)).any (seWrites x)) (W3.setCell ⟨g1, m, none⟩ (.bool true))) := by
                refine Lib.hid ⟨l.set m true, hg1 ▸ hM3.set m true, fun x hx => ?_⟩
                have hg := hGL x hx
                dsimp only at hg ⊢
                rw [getD_set, any_take _ _ _ _ hs, hg]
                have hsw : seWrites (x : Int) s = decide (m = x) := by
                  unfold seWrites; rw [hm, Bool.eq_iff_iff, beq_iff_eq, decide_eq_true_iff]; omega
                rw [hsw]
                by_cases e : m = x
                · rw [if_pos ⟨e, by rw [hM3.len]; exact hx⟩, decide_eq_true e, Bool.or_true, Bool.or_true]
                · rw [if_neg (fun h => e h.1), decide_eq_false e, Bool.or_false]
              clear HI hML hGL hbw hc hs hvv hsv hm hL hB3 hM3 hmV
              go_wp2_with fail
              clear hwJ hltJ
              exact ⟨⟨J + 1, by go_num, by omega, HG3⟩, by simp [intOf]; omega⟩
            · have hltJ : ¬ (J : Int) < (Q : Int) := by omega
              have e : J = Q := by omega
              have HG3 : Hid (Got w1 V (fun x => (r.steps.take (K + 1)).any (spWrites x)) wr) := by
                obtain ⟨l, hML, hGL⟩ := HI.out
                refine Lib.hid ⟨l, hML, fun x hx => ?_⟩
                have hg := hGL x hx
                dsimp only at hg ⊢
                rw [hg, any_take _ _ _ _ HPK.out, e, ← HQ.out, List.take_length]; rfl
              clear HI
              go_wp2_with fail
              clear hwK hltI hltJ
              exact ⟨⟨K + 1, by go_num, by omega, HG3⟩, by simp [intOf]; omega⟩
        · have hltI : ¬ (K : Int) < (T : Int) := by omega
          have e : K = T := by omega
          obtain ⟨l, hML, hGL⟩ := HI.out
          have HML := Lib.hid hML
          have HGL := Lib.hid hGL
          clear hML hGL HI
          go_wp2_with fail
          go_ret
          refine ⟨Or.inr ⟨HMB.out, k, r, _, l, rfl, HRK.out, rfl, hg1 ▸ HML.out.sl, by rw [HML.out.len]; exact HV.out.symm, fun x hx => ?_⟩, HB1.out.trans (HML.out.below.mono HB1.out.size)⟩
          rw [HGL.out x (by rw [← HML.out.len]; exact hx), e, ← HTT.out, List.take_length]; rfl
end Go.Proofs.YtfcdkjhabdpijaaDoor.R

namespace Go.Proofs.YtfcdkjhabdpijaaDoor.R
open Go Go.RowKit Go.Proofs.YtfcdkjhabdpijaaDoor.B Go.Proofs.YtfcdkjhabdpijaaDoor.K Go.Proofs.YtfcdkjhabdpijaaDoor.E
set_option linter.unusedVariables false

/-- What is marked so far. -/
def Gom (w : World) (V : Nat) (A : Nat → Bool) (W : World) : Prop := ∃ l, Mk w V l W ∧ ∀ x, x < V → l.getD x false = A x

theorem mk_start {w1 X : World} {V : Nat} (hX : w1.alloc (.cells (Array.replicate V (.bool false)) 4) = X) :
    Mk w1 V (List.replicate V false) (X.alloc (.cells #[.slice (some ⟨w1.heap.size, 0, none⟩) V V] 42)) := by
  have h1 := Mw.start w1 V
  rw [hX] at h1
  have s1 : X.heap.size = w1.heap.size + 1 := by rw [← hX]; show (w1.heap.push _).size = _; rw [Array.size_push]
  have h2 := below_alloc X (.cells #[.slice (some ⟨w1.heap.size, 0, none⟩) V V] 42)
  have h3 := h1.call h2
  refine ⟨h3.below, h3.row, ?_, h3.len⟩
  rw [← s1]
  exact box_cell _ _ _ _ _ rfl

theorem Mk.sl {w W : World} {V : Nat} {l : List Bool} (h : Mk w V l W) : Sl W (.slice (some ⟨w.heap.size, 0, none⟩) V V) (l.map Value.bool) :=
  Mw.sl ⟨h.below, h.row, h.len⟩

set_option maxHeartbeats 4000000 in
set_option maxRecDepth 100000 in
theorem reads_any (t : Tb) (c0 c1 c2 c3 : Value) (n : Int) (w : World) (h : TbIs w [c0, c1, c2, c3] t) (hw : TbWf t) (hG : I.Glob w) :
    Calls Tryd.prog 22 #[.agg #[c0, c1, c2, c3], .int .i64 n] w fun e w' => MarksOr t n rlReads e w' ∧ Below w.heap.size w w' := by
  have HM0 := Lib.hid (fun (W : World) (hb : Below w.heap.size w W) => mayBe_any t c0 c1 c2 c3 W (h.below hb) hw (hG.below hb))
  have HT := Lib.hid h
  obtain ⟨d0, d1, d2, d3, e, h0, h1, h2, h3⟩ := h
  cases e
  obtain ⟨a3, cap3, rfl, h3⟩ := h3.open
  obtain ⟨a1, cap1, rfl⟩ := sl_len h1
  rw [List.length_map] at HM0 HT ⊢
  obtain ⟨N, hN⟩ : ∃ N, t.rules.length = N := ⟨_, rfl⟩
  obtain ⟨V, hV⟩ : ∃ V, t.vars.length = V := ⟨_, rfl⟩
  rw [hN, hV] at HM0 HT
  rw [hN] at h3 ⊢
  rw [hV]
  obtain ⟨W0, hW0⟩ : ∃ W0, w.alloc (.cells #[c0, .slice a1 V cap1, c2, .slice a3 N cap3] 26) = W0 := ⟨_, rfl⟩
  have hB0 : Below w.heap.size w W0 := by rw [← hW0]; exact below_alloc _ _
  have q0 : W0.cell? ⟨w.heap.size, 0, none⟩ = some c0 := by rw [← hW0]; exact box_cell _ _ _ _ _ rfl
  have q1 : W0.cell? ⟨w.heap.size, 1, none⟩ = some (.slice a1 V cap1) := by rw [← hW0]; exact box_cell _ _ _ _ _ rfl
  have q2 : W0.cell? ⟨w.heap.size, 2, none⟩ = some c2 := by rw [← hW0]; exact box_cell _ _ _ _ _ rfl
  have q3 : W0.cell? ⟨w.heap.size, 3, none⟩ = some (.slice a3 N cap3) := by rw [← hW0]; exact box_cell _ _ _ _ _ rfl
  have H := Lib.hid (HM0.out W0 hB0)
  have HB0 := Lib.hid hB0
  have HP := Lib.hid (isPlace_any n (N : Int) W0)
  cases hA : isAt n (N : Int) with
  | false =>
    rw [hA] at HP
    have HR : Hid (∀ w', MarksOr t n rlReads (.returned (.slice none 0 0)) w') := Lib.hid fun _ => Or.inl ⟨by rw [hN, hA]; rfl, rfl⟩
    clear hB0 hw hG h0 h1 h2 h3 HM0 hN hV hA H
    go_enter Tryd.func22, Tryd.ntmps22
    go_wp2_with fail
    refine HP.out.mono ?_
    rintro _ w1 ⟨rfl, rfl⟩
    go_wp2_with fail
    go_ret
    exact ⟨HR.out _, HB0.out⟩
  | true =>
    rw [hA] at HP
    cases hM : mayB t with
    | false =>
      rw [hM] at H
      have HR : Hid (∀ w', MarksOr t n rlReads (.returned (.slice none 0 0)) w') := Lib.hid fun _ => Or.inl ⟨by rw [hM, Bool.and_false], rfl⟩
      clear hB0 hw hG h0 h1 h2 h3 HM0 hN hV hA hM
      go_enter Tryd.func22, Tryd.ntmps22
      go_wp2_with fail
      refine HP.out.mono ?_
      rintro _ w1 ⟨rfl, rfl⟩
      go_wp2_with fail
      refine H.out.mono ?_
      rintro _ w1 ⟨rfl, hb⟩
      have HB1 := Lib.hid (HB0.out.trans (hb.mono HB0.out.size))
      clear hb
      go_wp2_with fail
      go_ret
      exact ⟨HR.out _, HB1.out⟩
    | true =>
      rw [hM] at H
      have hF := fine_of (by simpa [mayB] using hM)
      obtain ⟨y0, y1⟩ := (isAt_iff _ _).1 hA
      obtain ⟨k, rfl⟩ : ∃ k : Nat, n = k := ⟨n.toNat, by omega⟩
      obtain ⟨r, hr⟩ : ∃ r, t.rules[k]? = some r := ⟨_, List.getElem?_eq_getElem (by omega)⟩
      have hrm := List.mem_of_getElem? hr
      have hsl3 := (hF.steps r hrm).1
      have HSETS := Lib.hid (hF.sets r hrm)
      have HGDS := Lib.hid (hF.guards r hrm)
      have hV6 : V ≤ 6 := by rw [← hV]; exact hF.vars
      have h8 : V ≤ 8 := by omega
      rw [hV] at HSETS HGDS
      have HMB := Lib.hid hM
      have HRW := Lib.hid (hw.2.2.2.1 r hrm)
      have HRK := Lib.hid hr
      have HV := Lib.hid hV
      obtain ⟨b, off, ea, cs, -, ⟨f, g, st, rfl, -, hgt, hst⟩, hc⟩ := h3.at hr
      subst ea
      obtain ⟨aG, capg, rfl, hgt⟩ := hgt.open
      obtain ⟨aS, caps, rfl, hst⟩ := hst.open
      have HST := Lib.hid hst
      have HGT := Lib.hid hgt
      obtain ⟨T, hT⟩ : ∃ T, r.steps.length = T := ⟨_, rfl⟩
      obtain ⟨G, hGl⟩ : ∃ G, r.guards.length = G := ⟨_, rfl⟩
      rw [hT] at HST hsl3 hc
      rw [hGl] at HGT hc
      have HTT := Lib.hid hT
      have HGL := Lib.hid hGl
      have hg4 : G ≤ 4 := by rw [← hGl]; exact HGDS.out.1
      have k3 := kept_cell hB0 (hc 3 _ rfl)
      have k4 := kept_cell hB0 (hc 4 _ rfl)
      clear hB0 hw hG h0 h1 h2 h3 HM0 hN hV hA hM hF hr hrm hst hgt hT hGl hc
      go_enter Tryd.func22, Tryd.ntmps22
      go_wp2_with fail
      refine HP.out.mono ?_
      rintro _ w1 ⟨rfl, rfl⟩
      go_wp2_with fail
      refine H.out.mono ?_
      rintro _ w1 ⟨rfl, hb⟩
      have HB1 := Lib.hid (HB0.out.trans (hb.mono HB0.out.size))
      have q1 := kept_cell hb q1
      have q3 := kept_cell hb q3
      have k3 := kept_cell hb k3
      have k4 := kept_cell hb k4
      have p3 := q3
      have p4 := k4
      have hmk := make_bools0 V h8 w1
      obtain ⟨X, hX⟩ : ∃ X, w1.alloc (.cells (Array.replicate V (.bool false)) 4) = X := ⟨_, rfl⟩
      have hMS := mk_start hX
      have s1 : X.heap.size = w1.heap.size + 1 := by rw [← hX]; show (w1.heap.push _).size = _; rw [Array.size_push]
      rw [hX] at hmk
      obtain ⟨Y, hY⟩ : ∃ Y, X.alloc (.cells #[.slice (some ⟨w1.heap.size, 0, none⟩) V V] 42) = Y := ⟨_, rfl⟩
      rw [hY] at hMS
      have hBY : Below w1.heap.size w1 Y := hMS.below
      have HMS := Lib.hid hMS
      have q3 := kept_cell hBY q3
      have k3 := kept_cell hBY k3
      have k4 := kept_cell hBY k4
      obtain ⟨g1, hg1⟩ : ∃ x, w1.heap.size = x := ⟨_, rfl⟩
      rw [hg1] at hmk s1 hY
      clear hb hBY hX hMS H HP
      go_wp2_with fail
      go_loopw [36] (fun x wr => ∃ (K : Nat), x = .int .i64 (K : Int) ∧ K ≤ G ∧ Hid (Gom w1 V (fun x => (r.guards.take K).any (gdReads x)) wr)) (fun x _ => G - (intOf x).toNat)
      case atStart => exact ⟨0, rfl, Nat.zero_le _, Lib.hid ⟨_, HMS.out, fun x _ => getD_none V x⟩⟩
      case round =>
        obtain ⟨K, rfl, hK, HI⟩ := hrel
        clear hmk q0 q1 q2 hY s1
        by_cases hlt : K < G
        · have hltI : (K : Int) < (G : Int) := by omega
          obtain ⟨p, hp⟩ : ∃ p, r.guards[K]? = some p := ⟨_, List.getElem?_eq_getElem (by rw [HGL.out]; exact hlt)⟩
          obtain ⟨b2, off2, ea, cs, -, ⟨vt, rfl, hvt⟩, hc⟩ := HGT.out.at hp
          subst ea
          obtain ⟨av, capv, rfl⟩ := sl_lenI hvt
          have hck := HGDS.out.2 p (List.mem_of_getElem? hp)
          have hlen := (HRW.out.2.2.2.1.1 p (List.mem_of_getElem? hp)).2.2
          obtain ⟨l, hML, hGL⟩ := HI.out
          have hbw : Below w.heap.size w wr := HB1.out.trans (hML.below.mono HB1.out.size)
          obtain ⟨cd, hcd⟩ : ∃ x, p.code = x := ⟨_, rfl⟩
          rw [hcd] at hc
          have e0 : wr.cell? ⟨b2, off2 + K * 2, none⟩ = some (.int .i64 cd) := kept_cell hbw (hc 0 _ rfl)
          have e1 := kept_cell hbw (hc 1 _ rfl)
          obtain ⟨W2, hW2⟩ : ∃ W2, wr.alloc (.cells #[.int .i64 cd, .slice av p.test.length capv] 72) = W2 := ⟨_, rfl⟩
          have hB2 : Below wr.heap.size wr W2 := by rw [← hW2]; exact below_alloc _ _
          have u1 : W2.cell? ⟨wr.heap.size, 1, none⟩ = some (.slice av p.test.length capv) := by rw [← hW2]; exact box_cell _ _ _ _ _ rfl
          have hM2 := hML.call hB2
          have HMA := Lib.hid (mark_any p.test _ w1 W2 V l hM2 (hvt.below (hbw.trans (hB2.mono hbw.size))) hlen (uses_le (var_of_check hck)) hV6)
          rw [hg1] at HMA
          have HNX : ∀ (w5 : World) (l' : List Bool), Mk w1 V l' w5 → (∀ i, l'.getD i false = (l.getD i false || (uses 2 6 p.test).getD i false)) → Gom w1 V (fun x => (r.guards.take (K + 1)).any (gdReads x)) w5 := by
            intro w5 l' h1 h2
            refine ⟨l', h1, fun x hx => ?_⟩
            have hg := hGL x hx
            dsimp only at hg ⊢
            rw [any_take _ _ _ _ hp, h2 x, hg, uses_getD _ _ (by omega)]; rfl
          have HNX := Lib.hid HNX
          have hwK := wrap_next K (by omega)
          clear HI hML hGL hbw hc hp hvt hB2 hM2 hck hlen hcd
          go_wp2_with fail
          refine HMA.out.mono ?_
          rintro _ w5 ⟨rfl, l', hM5, hO5⟩
          have HG5 := Lib.hid (HNX.out w5 l' hM5 hO5)
          clear hM5 hO5 HMA HNX
          go_wp2_with fail
          clear hwK hltI
          exact ⟨⟨K + 1, by go_num, by omega, HG5⟩, by simp [intOf]; omega⟩
        · have hltI : ¬ (K : Int) < (G : Int) := by omega
          have e : K = G := by omega
          have HI0 : Hid (Gom w1 V (fun x => r.guards.any (gdReads x) || (r.steps.take 0).any (spReads x)) wr) := by
            obtain ⟨l, hML, hGL⟩ := HI.out
            refine Lib.hid ⟨l, hML, fun x hx => ?_⟩
            have hg := hGL x hx
            dsimp only at hg ⊢
            rw [hg, e, ← HGL.out, List.take_length]; simp
          have hbw : Below w1.heap.size w1 wr := by obtain ⟨l, hML, hGL⟩ := HI.out; exact hML.below
          obtain ⟨Z, rfl⟩ : ∃ Z, Z = wr := ⟨_, rfl⟩
          have q3 : Z.cell? ⟨w.heap.size, 3, none⟩ = some (.slice (some ⟨b, off, none⟩) N cap3) := kept_cell hbw p3
          have k4 := kept_cell hbw p4
          clear hbw HI
          go_wp2_with fail
          go_loopw [52] (fun x wr => ∃ (K : Nat), x = .int .i64 (K : Int) ∧ K ≤ T ∧ Hid (Gom w1 V (fun x => r.guards.any (gdReads x) || (r.steps.take K).any (spReads x)) wr)) (fun x _ => T - (intOf x).toNat)
          case atStart => exact ⟨0, rfl, Nat.zero_le _, HI0⟩
          case round =>
            clear HI0 q3 k4
            obtain ⟨K, rfl, hK, HI⟩ := hrel
            by_cases hlt : K < T
            · have hltI : (K : Int) < (T : Int) := by omega
              obtain ⟨p, hp⟩ : ∃ p, r.steps[K]? = some p := ⟨_, List.getElem?_eq_getElem (by rw [HTT.out]; exact hlt)⟩
              have HPM := Lib.hid (List.mem_of_getElem? hp)
              obtain ⟨b2, off2, ea, cs, -, ⟨vs, rfl, hvs⟩, hc⟩ := HST.out.at hp
              subst ea
              obtain ⟨aq, capq, rfl, hvs⟩ := hvs.open
              obtain ⟨Q, hQ⟩ : ∃ Q, p.sets.length = Q := ⟨_, rfl⟩
              rw [hQ] at hvs hc
              have HVS := Lib.hid hvs
              have HQ := Lib.hid hQ
              have HQL := Lib.hid (show Q ≤ 9223372036854775807 by rw [← hQ]; exact (HRW.out.2.2.2.2.1 p HPM.out).2.1)
              have HPK := Lib.hid hp
              have hwK := wrap_next K (by omega)
              obtain ⟨x0, hx0⟩ : ∃ x, p.to = x := ⟨_, rfl⟩
              rw [hx0] at hc
              obtain ⟨l, hML, hGL⟩ := HI.out
              have hbw : Below w.heap.size w wr := HB1.out.trans (hML.below.mono HB1.out.size)
              have e0 : wr.cell? ⟨b2, off2 + K * 2, none⟩ = some (.slice aq Q capq) := kept_cell hbw (hc 0 _ rfl)
              have e1 := kept_cell hbw (hc 1 _ rfl)
              obtain ⟨W2, hW2⟩ : ∃ W2, wr.alloc (.cells #[.slice aq Q capq, .int .i64 x0] 75) = W2 := ⟨_, rfl⟩
              have hB2 : Below wr.heap.size wr W2 := by rw [← hW2]; exact below_alloc _ _
              have u0 : W2.cell? ⟨wr.heap.size, 0, none⟩ = some (.slice aq Q capq) := by rw [← hW2]; exact box_cell _ _ _ _ _ rfl
              have HG2 := Lib.hid (show Gom w1 V (fun x => (r.guards.any (gdReads x) || (r.steps.take K).any (spReads x)) || (p.sets.take 0).any (seReads x)) W2 from ⟨l, hML.call hB2, fun x hx => by rw [hGL x hx]; simp⟩)
              clear HI hML hGL hbw hc hp hvs hQ hx0 hB2
              go_wp2_with fail
              go_loopw [59] (fun x wr => ∃ (J : Nat), x = .int .i64 (J : Int) ∧ J ≤ Q ∧ Hid (Gom w1 V (fun x => (r.guards.any (gdReads x) || (r.steps.take K).any (spReads x)) || (p.sets.take J).any (seReads x)) wr)) (fun x _ => Q - (intOf x).toNat)
              case atStart => exact ⟨0, rfl, Nat.zero_le _, HG2⟩
              case round =>
                obtain ⟨J, rfl, hJ, HI⟩ := hrel
                clear HG2 e0 e1 u0 hW2
                by_cases hlt2 : J < Q
                · have hltJ : (J : Int) < (Q : Int) := by omega
                  obtain ⟨s, hs⟩ : ∃ s, p.sets[J]? = some s := ⟨_, List.getElem?_eq_getElem (by rw [HQ.out]; exact hlt2)⟩
                  have hsm := List.mem_of_getElem? hs
                  obtain ⟨b3, off3, ea, cs, -, ⟨vv, rfl, hvv⟩, hc⟩ := HVS.out.at hs
                  subst ea
                  obtain ⟨av, capv, rfl⟩ := sl_lenI hvv
                  have hck := (HSETS.out p HPM.out s hsm).2
                  have hlen := ((HRW.out.2.2.2.2.1 p HPM.out).1 s hsm).2.2
                  obtain ⟨l, hML, hGL⟩ := HI.out
                  have hbw : Below w.heap.size w wr := HB1.out.trans (hML.below.mono HB1.out.size)
                  obtain ⟨cd, hcd⟩ : ∃ x, s.var = x := ⟨_, rfl⟩
                  rw [hcd] at hc
                  have e0 : wr.cell? ⟨b3, off3 + J * 2, none⟩ = some (.int .i64 cd) := kept_cell hbw (hc 0 _ rfl)
                  have e1 := kept_cell hbw (hc 1 _ rfl)
                  obtain ⟨W2, hW2⟩ : ∃ W2, wr.alloc (.cells #[.int .i64 cd, .slice av s.value.length capv] 77) = W2 := ⟨_, rfl⟩
                  have hB2 : Below wr.heap.size wr W2 := by rw [← hW2]; exact below_alloc _ _
                  have u1 : W2.cell? ⟨wr.heap.size, 1, none⟩ = some (.slice av s.value.length capv) := by rw [← hW2]; exact box_cell _ _ _ _ _ rfl
                  have hM2 := hML.call hB2
                  have HMA := Lib.hid (mark_any s.value _ w1 W2 V l hM2 (hvv.below (hbw.trans (hB2.mono hbw.size))) hlen (uses_le (var_of_check hck)) hV6)
                  rw [hg1] at HMA
                  have HNX : ∀ (w5 : World) (l' : List Bool), Mk w1 V l' w5 → (∀ i, l'.getD i false = (l.getD i false || (uses 2 6 s.value).getD i false)) → Gom w1 V (fun x => (r.guards.any (gdReads x) || (r.steps.take K).any (spReads x)) || (p.sets.take (J + 1)).any (seReads x)) w5 := by
                    intro w5 l' h1 h2
                    refine ⟨l', h1, fun x hx => ?_⟩
                    have hg := hGL x hx
                    dsimp only at hg ⊢
                    rw [any_take _ _ _ _ hs, h2 x, hg, uses_getD _ _ (by omega), Bool.or_assoc (r.guards.any (gdReads x) || (r.steps.take K).any (spReads x))]; rfl
                  have HNX := Lib.hid HNX
                  have hwJ := wrap_next J (by have := HQL.out; omega)
                  clear HI hML hGL hbw hc hs hsm hvv hB2 hM2 hck hlen hcd
                  go_wp2_with fail
                  refine HMA.out.mono ?_
                  rintro _ w5 ⟨rfl, l', hM5, hO5⟩
                  have HG5 := Lib.hid (HNX.out w5 l' hM5 hO5)
                  clear hM5 hO5 HMA HNX
                  go_wp2_with fail
                  clear hwJ hltJ
                  exact ⟨⟨J + 1, by go_num, by omega, HG5⟩, by simp [intOf]; omega⟩
                · have hltJ : ¬ (J : Int) < (Q : Int) := by omega
                  have e : J = Q := by omega
                  have HG3 : Hid (Gom w1 V (fun x => r.guards.any (gdReads x) || (r.steps.take (K + 1)).any (spReads x)) wr) := by
                    obtain ⟨l, hML, hGL⟩ := HI.out
                    refine Lib.hid ⟨l, hML, fun x hx => ?_⟩
                    have hg := hGL x hx
                    dsimp only at hg ⊢
                    rw [hg, any_take _ _ _ _ HPK.out, e, ← HQ.out, List.take_length, Bool.or_assoc]; rfl
                  clear HI
                  go_wp2_with fail
                  clear hwK hltI hltJ
                  exact ⟨⟨K + 1, by go_num, by omega, HG3⟩, by simp [intOf]; omega⟩
            · have hltI : ¬ (K : Int) < (T : Int) := by omega
              have e : K = T := by omega
              obtain ⟨l, hML, hGL⟩ := HI.out
              have k5 := hML.k5
              rw [hg1] at k5
              have HML := Lib.hid hML
              have HGLL := Lib.hid hGL
              clear hML hGL HI
              go_wp2_with fail
              go_ret
              refine ⟨Or.inr ⟨HMB.out, k, r, _, l, rfl, HRK.out, rfl, hg1 ▸ HML.out.sl, by rw [HML.out.len]; exact HV.out.symm, fun x hx => ?_⟩, HB1.out.trans (HML.out.below.mono HB1.out.size)⟩
              rw [HGLL.out x (by rw [← HML.out.len]; exact hx), e, ← HTT.out, List.take_length]; rfl
end Go.Proofs.YtfcdkjhabdpijaaDoor.R
