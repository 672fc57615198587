/-
  Contracts: lists of texts read, the program's and the reference's.
-/
import Derived.Test.YtaclkofkajehpaaVRdNums
namespace Go.Proofs.Ytaclkofkajehpaa.V
open Go.RowKit Go.Proofs.Ytaclkofkajehpaa.K

theorem one_cell_str (s : ByteArray) : ∀ u ∈ [Value.string s], u.oneCell' = true := by intro u hu; simp at hu; subst hu; rfl

theorem heap_lt {w : World} {g : Nat} {o : Obj} (h : w.heap[g]? = some o) : g < w.heap.size := (Array.getElem?_eq_some_iff.1 h).1

/-- The function literal: ReadNumber at the captured text. -/
theorem txtItem_of {s : ByteArray} {p : Int} {x : List UInt8} {q e : Int} (h : txt s.data.toList p = (x, q, e)) (a : Addr) (w : World) (hs : s.size ≤ 140737488355328) (ha : w.cell? a = some (.string s)) :
    Calls Try.prog 40 #[.int .i64 p, .pointer (some a)] w fun e' w' => e' = .returned (.tuple #[.string (str x), .int .i64 q, .int .i64 e]) ∧ Below w.heap.size w w' := by
  have HR := Lib.hid h; clear h
  go_enter Try.func40, Try.ntmps40
  go_wp2_with (go_at_call 20; refine (readText_of HR.out _ hs).mono ?_; rintro e w' ⟨rfl, hb⟩)
  go_ret3
  exact ⟨rfl, hb⟩

theorem Try.info9 : (Try.prog.info? 9).map (fun i => (i.zero, i.size, i.bytes)) = some (some (.string ⟨#[]⟩), 1, 16) := by kernel_rfl

set_option maxHeartbeats 1000000 in
set_option maxRecDepth 100000 in
theorem readList_txt (s : ByteArray) (p : Int) (a : Addr) (w : World) (hs : s.size ≤ 140737488355328) (ha : w.cell? a = some (.string s)) :
    Calls Try.prog 39 #[.string s, .int .i64 p, .func (.func 40) #[] #[.pointer (some a)]] w fun e w' =>
      ∃ v, e = .returned (.tuple #[v, .int .i64 (txts s.data.toList p).2.1, .int .i64 (txts s.data.toList p).2.2]) ∧ Sl w' v ((txts s.data.toList p).1.map sv) ∧ Below w.heap.size w w' := by
  obtain ⟨i0, hi, hz0, hz1, hz2⟩ := info_parts Try.info9
  obtain ⟨⟨x, q, e⟩, hr⟩ : ∃ t, count s.data.toList p 256 = t := ⟨_, rfl⟩
  have hc : txts s.data.toList p = listOf (txt s.data.toList) (x, q, e) := by unfold txts; rw [hr]
  rw [hc]
  clear hc
  by_cases he : e = 0
  · subst he
    obtain ⟨c1, c2, _, _, _, _⟩ := count_ok _ _ _ hr
    obtain ⟨n, rfl⟩ := Int.eq_ofNat_of_zero_le c1
    rw [listOf_ok]
    have HR := Lib.hid hr; clear hr
    obtain ⟨cur, hcs, hmk⟩ := run_make_n (P := Try.prog) w 26 9 i0 (.string ⟨#[]⟩) Try.underlying26 hi hz0 hz1 n (by rw [hz2]; omega) (by omega)
    have HCS := Lib.hid hcs; clear hcs
    go_enter Try.func39, Try.ntmps39
    go_wp2_with (go_at_call 34; refine (readCount_of HR.out _ hs).mono ?_; rintro e w' ⟨rfl, rfl⟩)
    clear hmk
    go_loopw [10, 11, 28] (fun nx er i wr => ∃ (k : Nat) (q' : Int) (pre : List (List UInt8)) (cur' : Array Value), k ≤ n ∧ i = .int .i64 (k : Int) ∧ er = .int .i64 0 ∧ nx = .int .i64 q' ∧
        Hid (items (txt s.data.toList) n q = app pre (items (txt s.data.toList) (n - k) q')) ∧ Hid (pre.length = k) ∧ wr.heap[w.heap.size]? = some (.cells cur' 9 (0, 0)) ∧ Hid (cur'.size = n) ∧ Hid (cur'.toList.take k = pre.map sv) ∧ Below w.heap.size w wr)
      (fun _ _ i _ => n - (intOf i).toNat)
    case atStart => exact ⟨0, q, [], cur, Nat.zero_le _, rfl, rfl, rfl, by show _ = _; rw [Nat.sub_zero]; exact (app_id _ (items_zero _ _ _)).symm, rfl, heap_alloc_at _ _, HCS.out, by show _ = _; simp, (Below.refl _ _).alloc (Nat.le_refl _) _⟩
    case round =>
      obtain ⟨k, q', pre, cur', hk, rfl, rfl, rfl, HIT, HPL, hrow, HCS', HTK, hbel⟩ := hrel
      have har : wr.cell? a = some (.string s) := (hbel.cell (World.block_lt_of_cell? w _ ha)).trans ha
      have HROW := Lib.hid hrow; clear hrow
      by_cases hlt : k < n
      · obtain ⟨⟨x, q2, e⟩, hr⟩ : ∃ t, txt s.data.toList q' = t := ⟨_, rfl⟩
        have HR2 := Lib.hid hr; clear hr
        have hltI : (k : Int) < (n : Int) := by omega
        by_cases he : e = 0
        · subst he
          go_wp2_with (go_at_call 40; refine (txtItem_of HR2.out a _ hs har).mono ?_; rintro e w1 ⟨rfl, hb1⟩; have hrow1 := Lib.hid ((hb1.block _ (heap_lt HROW.out)).trans HROW.out); obtain ⟨old, hold, hfz⟩ := row_cell hrow1.out (k := k) (by rw [HCS'.out]; exact hlt))
          have hb2 : Below w.heap.size w (w1.setCell ⟨w.heap.size, k, none⟩ (.string (str x))) := (hbel.trans (hb1.mono hbel.size)).setCell (Nat.le_refl _) _
          obtain ⟨cur2, hrow2, hcs2, htk2⟩ := row_fill hrow1.out (by rw [HCS'.out]; exact hlt) HTK.out (.string (str x))
          go_roundw
          case rel =>
            refine ⟨k + 1, q2, pre ++ [x], cur2, by omega, by go_num, rfl, rfl, ?_, ?_, hrow2, ?_, ?_, hb2⟩
            · show _ = _
              rw [HIT.out, show n - k = (n - (k + 1)) + 1 by omega, items_next _ _ _ HR2.out, app_app]
            · show _ = _
              rw [List.length_append, HPL.out]; rfl
            · show _ = _
              rw [hcs2, HCS'.out]
            · show _ = _
              rw [htk2, List.map_append]; rfl
          case measure => simp [intOf]; omega
        · have hb : (e == 0) = false := by simp [he]
          have hres : items (txt s.data.toList) n q = ([], 0, e) := by
            rw [HIT.out, show n - k = (n - (k + 1)) + 1 by omega, items_err _ _ _ HR2.out he, app_err _ he]
          have HRES := Lib.hid hres; clear hres he
          go_wp2_with (go_at_call 40; refine (txtItem_of HR2.out a _ hs har).mono ?_; rintro e w1 ⟨rfl, hb1⟩; have hrow1 := Lib.hid ((hb1.block _ (heap_lt HROW.out)).trans HROW.out); obtain ⟨old, hold, hfz⟩ := row_cell hrow1.out (k := k) (by rw [HCS'.out]; exact hlt))
          have hb2 : Below w.heap.size w (w1.setCell ⟨w.heap.size, k, none⟩ (.string (str x))) := (hbel.trans (hb1.mono hbel.size)).setCell (Nat.le_refl _) _
          go_ret3
          exact list_fin HRES.out rfl (Sl.nil _) hb2
      · have hkn : k = n := by omega
        have hres : items (txt s.data.toList) n q = (pre, q', 0) := by rw [HIT.out, hkn, Nat.sub_self]; exact app_nil _ _
        have HRES := Lib.hid hres; clear hres
        have hltI : ¬ (k : Int) < (n : Int) := by omega
        go_wp2_with fail
        go_ret3
        refine list_fin HRES.out rfl ?_ hbel
        have := Sl.row (cap := n) (xs := pre.map sv) HROW.out (by rw [List.length_map, HPL.out]; exact HTK.out)
        rw [List.length_map, HPL.out, hkn] at this
        exact this
  · have hv := listOf_err (txt s.data.toList) (x := x) (q := q) he
    rw [hv]
    have HR := Lib.hid hr; clear hr
    have hb : (e == 0) = false := by simp [he]
    clear hv he
    go_enter Try.func39, Try.ntmps39
    go_wp2_with (go_at_call 34; refine (readCount_of HR.out _ hs).mono ?_; rintro e w' ⟨rfl, rfl⟩)
    go_ret3
    exact ⟨_, rfl, Sl.nil _, Below.refl _ _⟩

set_option maxHeartbeats 400000 in
theorem readTexts_any (s : ByteArray) (p : Int) (w : World) (hs : s.size ≤ 140737488355328) :
    Calls Try.prog 25 #[.string s, .int .i64 p] w fun e w' =>
      ∃ v, e = .returned (.tuple #[v, .int .i64 (txts s.data.toList p).2.1, .int .i64 (txts s.data.toList p).2.2]) ∧ Sl w' v ((txts s.data.toList p).1.map sv) ∧ Below w.heap.size w w' := by
  have hmf : ∀ (fn : Fn) (first cap : Array Value) (w : World), (Instr.makeFunc fn first cap).run Try.prog w = .ok (.func fn first cap) w := fun _ _ _ _ => rfl
  have hcell : (w.alloc (.cells #[.string s] 9)).cell? ⟨w.heap.size, 0, none⟩ = some (.string s) := by rw [World.cell?_alloc_at _ _ _ _ rfl]; rfl
  go_enter Try.func25, Try.ntmps25
  go_wp2_with fail
  refine (readList_txt s p ⟨w.heap.size, 0, none⟩ _ hs hcell).mono ?_
  rintro e w1 ⟨v, rfl, hsl, hb⟩
  go_wp2_with fail
  go_ret3
  exact ⟨v, rfl, hsl, ((Below.refl _ _).alloc (Nat.le_refl _) _).trans (hb.mono (by simp))⟩

set_option maxHeartbeats 1000000 in
set_option maxRecDepth 100000 in
theorem refReadTexts_any (s : ByteArray) (p : Int) (w : World) (hs : s.size ≤ 140737488355328) :
    Calls Try.prog 26 #[.string s, .int .i64 p] w fun e w' =>
      ∃ v, e = .returned (.tuple #[v, .int .i64 (txts s.data.toList p).2.1, .int .i64 (txts s.data.toList p).2.2]) ∧ Sl w' v ((txts s.data.toList p).1.map sv) ∧ Below w.heap.size w w' := by
  obtain ⟨i0, hi, hz0, hz1, hz2⟩ := info_parts Try.info9
  obtain ⟨⟨x, q, e⟩, hr⟩ : ∃ t, count s.data.toList p 256 = t := ⟨_, rfl⟩
  have hc : txts s.data.toList p = listOf (txt s.data.toList) (x, q, e) := by unfold txts; rw [hr]
  rw [hc]
  clear hc
  by_cases he : e = 0
  · subst he
    obtain ⟨c1, c2, _, _, _, _⟩ := count_ok _ _ _ hr
    obtain ⟨n, rfl⟩ := Int.eq_ofNat_of_zero_le c1
    rw [listOf_ok]
    have HR := Lib.hid hr; clear hr
    go_enter Try.func26, Try.ntmps26
    go_wp2_with (go_at_call 36; refine (refCount_of HR.out _ hs).mono ?_; rintro e w' ⟨rfl, rfl⟩)
    go_loopw [8, 10, 11] (fun nx out i wr => ∃ (k : Nat) (q' : Int) (pre : List (List UInt8)), k ≤ n ∧ i = .int .i64 (k : Int) ∧ nx = .int .i64 q' ∧
        Hid (items (txt s.data.toList) n q = app pre (items (txt s.data.toList) (n - k) q')) ∧ Hid (pre.length = k) ∧ wr.ownsRow w.heap.size 9 1 out k (pre.map sv) ∧ Below w.heap.size w wr)
      (fun _ _ i _ => n - (intOf i).toNat)
    case atStart => exact ⟨0, q, [], Nat.zero_le _, rfl, rfl, by show _ = _; rw [Nat.sub_zero]; exact (app_id _ (items_zero _ _ _)).symm, rfl, World.ownsRow_nil _ _ _ _, Below.refl _ _⟩
    case round =>
      obtain ⟨k, q', pre, hk, rfl, rfl, HIT, HPL, hown, hbel⟩ := hrel
      by_cases hlt : k < n
      · obtain ⟨⟨x, q2, e⟩, hr⟩ : ∃ t, txt s.data.toList q' = t := ⟨_, rfl⟩
        have HR2 := Lib.hid hr; clear hr
        have hltI : (k : Int) < (n : Int) := by omega
        by_cases he : e = 0
        · subst he
          have hc4 : (k + 1) * 16 ≤ 140737488355328 := by omega
          have hc5 : w.heap.size ≤ (wr.alloc (.cells #[.string (str x)] 9)).heap.size := by have := hbel.size; simp; omega
          have HC4 := Lib.hid hc4; clear hc4
          have HC5 := Lib.hid hc5; clear hc5
          go_wp2_with (first | (go_at_call 21; refine (refReadText_of HR2.out _ hs).mono ?_; rintro e w' ⟨rfl, rfl⟩) | (at_builtin; refine wpList_append_own _ rfl _ _ 26 rfl w.heap.size 9 i0 (.string ⟨#[]⟩) 1 16 Try.underlying26 hi hz0 hz1 hz2 rfl (by decide) _ _ _ rfl (hown.alloc _) ⟨wr.heap.size, 0, none⟩ 1 1 [.string (str x)] rfl rfl (one_new _ _ _) (one_cell_str _) (by unfold maxLen; omega) HC4.out HC5.out ?_; intro v' w1 hown' hgrow hnn; clear hnn))
          have hb1 : Below w.heap.size w w1 := (hbel.alloc hbel.size _).grown hgrow HC5.out (owns_block hown)
          clear hgrow hown
          go_wp2_with fail
          go_roundw
          case rel =>
            refine ⟨k + 1, q2, pre ++ [x], by omega, by go_num, rfl, ?_, ?_, by rw [List.map_append]; exact hown', hb1⟩
            · show _ = _
              rw [HIT.out, show n - k = (n - (k + 1)) + 1 by omega, items_next _ _ _ HR2.out, app_app]
            · show _ = _
              rw [List.length_append, HPL.out]; rfl
          case measure => simp [intOf]; omega
        · have hb : (e == 0) = false := by simp [he]
          have hres : items (txt s.data.toList) n q = ([], 0, e) := by
            rw [HIT.out, show n - k = (n - (k + 1)) + 1 by omega, items_err _ _ _ HR2.out he, app_err _ he]
          have HRES := Lib.hid hres; clear hres he
          go_wp2_with (go_at_call 21; refine (refReadText_of HR2.out _ hs).mono ?_; rintro e w' ⟨rfl, rfl⟩)
          go_ret3
          exact list_fin HRES.out rfl (Sl.nil _) hbel
      · have hkn : k = n := by omega
        have hres : items (txt s.data.toList) n q = (pre, q', 0) := by rw [HIT.out, hkn, Nat.sub_self]; exact app_nil _ _
        have HRES := Lib.hid hres; clear hres
        have hltI : ¬ (k : Int) < (n : Int) := by omega
        clear hkn
        go_wp2_with fail
        go_ret3
        exact list_fin HRES.out rfl (Sl.owns hown) hbel
  · have hv := listOf_err (txt s.data.toList) (x := x) (q := q) he
    rw [hv]
    have HR := Lib.hid hr; clear hr
    have hb : (e == 0) = false := by simp [he]
    clear hv he
    go_enter Try.func26, Try.ntmps26
    go_wp2_with (go_at_call 36; refine (refCount_of HR.out _ hs).mono ?_; rintro e w' ⟨rfl, rfl⟩)
    go_ret3
    exact ⟨_, rfl, Sl.nil _, Below.refl _ _⟩
end Go.Proofs.Ytaclkofkajehpaa.V
