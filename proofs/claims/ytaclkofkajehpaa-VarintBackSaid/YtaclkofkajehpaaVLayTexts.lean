/-
  Contracts: lists of texts laid, the program's and the reference's.
-/
import Derived.Test.YtaclkofkajehpaaVLayNums
import Derived.Test.YtaclkofkajehpaaKApp
namespace Go.Proofs.Ytaclkofkajehpaa.V
open Go.RowKit Go.Proofs.Ytaclkofkajehpaa.K


set_option maxHeartbeats 1000000 in
set_option maxRecDepth 100000 in
theorem layList_txt (v : Value) (l : List (List UInt8)) (w : World) (hwf : ∀ x ∈ l, x.length ≤ maxLen) (hv : Sl w v (l.map sv)) :
    Calls Try.prog 32 #[v, .func (.func 12) #[] #[]] w fun e w' => e = .returned (.tuple #[.string (str (layList textOf l).1), .int .i64 (layList textOf l).2]) ∧ Below w.heap.size w w' := by
  obtain ⟨a, cap, rfl, hc⟩ := hv
  rw [List.length_map]
  have HC := Lib.hid hc; clear hc
  have HWF := Lib.hid hwf; clear hwf
  by_cases h : 256 < l.length
  · have hlay : layList textOf l = ([], 4) := by simp [layList, h]
    rw [hlay]
    have hlt : 256 < (l.length : Int) := by omega
    clear hlay h
    go_enter Try.func32, Try.ntmps32
    go_wp2_with fail
    go_ret2
    exact ⟨rfl, Below.refl _ _⟩
  · have hlay : layList textOf l = comb (num l.length) (layAll textOf l) := by simp [layList, h]
    have HLAY := Lib.hid hlay; clear hlay
    obtain ⟨n, hN⟩ : ∃ n, l.length = n := ⟨_, rfl⟩
    rw [hN] at h HLAY ⊢
    have HN := Lib.hid hN; clear hN
    have hlt : ¬ 256 < (n : Int) := by omega
    have hnl : (num n).length ≤ 10 := num_len _ (by omega) (by omega)
    have hbn := builder_new w 64 5
    have HBN := Lib.hid hbn; clear hbn
    clear h
    go_enter Try.func32, Try.ntmps32
    go_wp2_with fail
    refine (number_any _ _ (by omega) (by omega)).mono ?_
    rintro _ w1 ⟨rfl, hb1⟩
    have hbl1 := builder_below HBN.out hb1
    have h1 : Below w.heap.size w w1 := ((Below.refl _ _).alloc (Nat.le_refl _) _).trans (hb1.mono (by simp))
    clear hb1 HBN
    go_wp2_with fail
    refine (S.write_any w.heap.size w.heap.size [] _ _ hbl1 (by rw [str_size, List.length_nil]; omega) h1.size).mono ?_
    rintro _ w2 ⟨rfl, hbl2, hb2⟩
    rw [List.nil_append, strCells_str] at hbl2
    have hbl2' := Lib.hid (Or.inr hbl2 : Lib.IsBuilder 64 5 w.heap.size w.heap.size (Lib.byteCells (num n)) w2)
    have h2 : Below w.heap.size w w2 := h1.trans hb2
    clear h1 hb2 hbl1 hbl2
    go_wp2_with fail
    go_loopw [20] (fun i wr => ∃ (k : Nat) (acc : List UInt8), k ≤ n ∧ i = .int .i64 (k : Int) ∧ Hid (layAll textOf l = comb acc (layAll textOf (l.drop k))) ∧ acc.length ≤ 4106 * k ∧
        Hid (Lib.IsBuilder 64 5 w.heap.size w.heap.size (Lib.byteCells (num n ++ acc)) wr) ∧ Hid (Below w.heap.size w2 wr)) (fun i _ => n - (intOf i).toNat)
    case atStart => exact ⟨0, [], Nat.zero_le _, rfl, by show _ = _; rw [List.drop_zero]; exact (comb_id _ (layAll_zero _ _)).symm, by simp, by rw [List.append_nil]; exact hbl2', Below.refl _ _⟩
    case round =>
      obtain ⟨k, acc, hk, rfl, HLA, hacc, HBL, HBE⟩ := hrel
      by_cases hltk : k < n
      · obtain ⟨x, hx⟩ : ∃ x, l[k]? = some x := ⟨_, List.getElem?_eq_getElem (by rw [HN.out]; exact hltk)⟩
        obtain ⟨b, off, rfl, hcell⟩ := HC.out k (.string (str x)) (by rw [List.getElem?_map, hx]; rfl)
        have hbw : Below w.heap.size w wr := h2.trans HBE.out
        have hc1 : wr.cell? ⟨b, off + k, none⟩ = some (.string (str x)) := (hbw.cell (World.block_lt_of_cell? w _ hcell)).trans hcell
        have hx01 := HWF.out x (List.mem_of_getElem? hx)
        obtain ⟨⟨t, e⟩, ht⟩ : ∃ t, textOf x = t := ⟨_, rfl⟩
        have htl := textOf_len x hx01
        rw [ht] at htl
        have hltI : (k : Int) < (n : Int) := by omega
        have HX := Lib.hid hx01
        have hcon := text_any x wr hx01
        rw [ht] at hcon
        have HCON := Lib.hid hcon; clear hcon
        by_cases he : e = 0
        · subst he
          have hnx := layAll_next textOf l k hx ht
          have hnx' : layAll textOf l = comb (acc ++ t) (layAll textOf (l.drop (k + 1))) := by rw [HLA.out, hnx, comb_comb]
          have HNX := Lib.hid hnx'
          have hxl : t.length ≤ 4106 := htl
          clear hcell hx hnx hnx' hx01 hbw htl ht
          go_wp2_with fail
          refine HCON.out.mono ?_
          rintro _ w3 ⟨rfl, hb3⟩
          have hbl3 := builder_below HBL.out hb3
          have h3 : Below w.heap.size w2 w3 := HBE.out.trans (hb3.mono (Nat.le_trans h2.size HBE.out.size))
          go_wp2_with fail
          refine (S.write_any w.heap.size w.heap.size _ _ _ hbl3 (by rw [str_size, Lib.byteCells_length, List.length_append]; omega) (Nat.le_trans h2.size h3.size)).mono ?_
          rintro _ w4 ⟨rfl, hbl4, hb4⟩
          rw [strCells_str, ← Lib.byteCells_append, List.append_assoc] at hbl4
          have h4 : Below w.heap.size w2 w4 := h3.trans hb4
          go_wp2_with fail
          go_roundw
          case rel => exact ⟨k + 1, acc ++ t, by omega, by go_num, HNX.out, by rw [List.length_append]; omega, Or.inr hbl4, h4⟩
          case measure => simp [intOf]; omega
        · have hb : (e == 0) = false := by simp [he]
          have hend : layList textOf l = ([], e) := by rw [HLAY.out, HLA.out, layAll_err _ _ _ hx ht he, comb_err _ he, comb_err _ he]
          have HEND := Lib.hid hend; clear hend
          clear hcell hx hx01 htl ht he
          go_wp2_with fail
          refine HCON.out.mono ?_
          rintro _ w3 ⟨rfl, hb3⟩
          have h3 : Below w.heap.size w w3 := hbw.trans (hb3.mono hbw.size)
          go_wp2_with fail
          go_ret2
          exact lay_fin HEND.out rfl h3
      · have hend : layList textOf l = (num n ++ acc, 0) := by
          rw [HLAY.out, HLA.out, layAll_end _ _ _ (by rw [HN.out]; omega), comb_nil]; simp [comb]
        have HEND := Lib.hid hend; clear hend
        have hltI : ¬ (k : Int) < (n : Int) := by omega
        have hbw : Below w.heap.size w wr := h2.trans HBE.out
        go_wp2_with (go_at_call 42; refine (S.string_any w.heap.size w.heap.size _ _ HBL.out hbw.size).mono ?_; rintro e w5 ⟨rfl, hb5⟩)
        go_ret2
        exact lay_fin HEND.out rfl (hbw.trans hb5)

theorem texts_any (v : Value) (l : List (List UInt8)) (w : World) (hwf : ∀ x ∈ l, x.length ≤ maxLen) (hv : Sl w v (l.map sv)) :
    Calls Try.prog 16 #[v] w fun e w' => e = .returned (.tuple #[.string (str (layList textOf l).1), .int .i64 (layList textOf l).2]) ∧ Below w.heap.size w w' := by
  have HV := Lib.hid hv; clear hv
  have HWF := Lib.hid hwf; clear hwf
  go_enter Try.func16, Try.ntmps16
  go_wp2_with (go_at_call 32; refine (layList_txt v l _ HWF.out HV.out).mono ?_; rintro e w1 ⟨rfl, hb⟩)
  go_ret2
  exact ⟨rfl, hb⟩

set_option maxHeartbeats 1000000 in
set_option maxRecDepth 100000 in
theorem refTexts_any (v : Value) (l : List (List UInt8)) (w : World) (hwf : ∀ x ∈ l, x.length ≤ maxLen) (hv : Sl w v (l.map sv)) :
    Calls Try.prog 17 #[v] w fun e w' => e = .returned (.tuple #[.string (str (layList textOf l).1), .int .i64 (layList textOf l).2]) ∧ Below w.heap.size w w' := by
  obtain ⟨a, cap, rfl, hc⟩ := hv
  rw [List.length_map]
  obtain ⟨i0, hi, hz0, hz1, hz2⟩ := info_parts Try.info5
  have HC := Lib.hid hc; clear hc
  have HWF := Lib.hid hwf; clear hwf
  by_cases h : 256 < l.length
  · have hlay : layList textOf l = ([], 4) := by simp [layList, h]
    rw [hlay]
    have hlt : 256 < (l.length : Int) := by omega
    clear hlay h
    go_enter Try.func17, Try.ntmps17
    go_wp2_with fail
    go_ret2
    exact ⟨rfl, Below.refl _ _⟩
  · have hlay : layList textOf l = comb (num l.length) (layAll textOf l) := by simp [layList, h]
    have HLAY := Lib.hid hlay; clear hlay
    obtain ⟨n, hN⟩ : ∃ n, l.length = n := ⟨_, rfl⟩
    rw [hN] at h HLAY ⊢
    have HN := Lib.hid hN; clear hN
    have hlt : ¬ 256 < (n : Int) := by omega
    have hnl : (num n).length ≤ 10 := num_len _ (by omega) (by omega)
    clear h
    go_enter Try.func17, Try.ntmps17
    go_wp2_with fail
    refine (refNumber_any _ _ (by omega) (by omega)).mono ?_
    rintro _ w2 ⟨rfl, h2⟩
    obtain ⟨v3, w3, hcv, how, hb3⟩ := conv_bytes (P := Try.prog) w2 9 50 5 (str (num n)) Try.underlying9 Try.underlying50 Try.underlying5 (by rw [str_size]; unfold maxLen; omega)
    rw [strCells_str, str_size] at how
    have HOW := Lib.hid (how.mono h2.size)
    have HB3 := Lib.hid (h2.trans (hb3.mono h2.size))
    clear how hb3 h2
    go_wp2_with fail
    go_simp
    clear hcv
    go_wp2_with fail
    go_loopw [4, 5] (fun o i wr => ∃ (k : Nat) (acc : List UInt8), k ≤ n ∧ i = .int .i64 (k : Int) ∧ Hid (layAll textOf l = comb acc (layAll textOf (l.drop k))) ∧ acc.length ≤ 4106 * k ∧
        Hid (OwnsG wr w.heap.size 5 o (num n ++ acc).length (Lib.byteCells (num n ++ acc))) ∧ Hid (Below w.heap.size w wr)) (fun _ i _ => n - (intOf i).toNat)
    case atStart => exact ⟨0, [], Nat.zero_le _, rfl, by show _ = _; rw [List.drop_zero]; exact (comb_id _ (layAll_zero _ _)).symm, by simp, by rw [List.append_nil]; exact HOW.out, HB3.out⟩
    case round =>
      obtain ⟨k, acc, hk, rfl, HLA, hacc, HOWN, HBE⟩ := hrel
      by_cases hltk : k < n
      · obtain ⟨x, hx⟩ : ∃ x, l[k]? = some x := ⟨_, List.getElem?_eq_getElem (by rw [HN.out]; exact hltk)⟩
        obtain ⟨b, off, rfl, hcell⟩ := HC.out k (.string (str x)) (by rw [List.getElem?_map, hx]; rfl)
        have hc1 : wr.cell? ⟨b, off + k, none⟩ = some (.string (str x)) := (HBE.out.cell (World.block_lt_of_cell? w _ hcell)).trans hcell
        have hx01 := HWF.out x (List.mem_of_getElem? hx)
        obtain ⟨⟨t, e⟩, ht⟩ : ∃ t, textOf x = t := ⟨_, rfl⟩
        have htl := textOf_len x hx01
        rw [ht] at htl
        have hltI : (k : Int) < (n : Int) := by omega
        have hcon := refText_any x wr hx01
        rw [ht] at hcon
        have HCON := Lib.hid hcon; clear hcon
        by_cases he : e = 0
        · subst he
          have hnx := layAll_next textOf l k hx ht
          have hnx' : layAll textOf l = comb (acc ++ t) (layAll textOf (l.drop (k + 1))) := by rw [HLA.out, hnx, comb_comb]
          have HNX := Lib.hid hnx'
          have hxl : t.length ≤ 4106 := htl
          have hal : (num n ++ acc).length + (str t).size ≤ 4611686 := by rw [str_size, List.length_append]; omega
          have HAL := Lib.hid hal; clear hal
          clear hcell hx hnx hnx' hx01 htl ht
          go_wp2_with fail
          refine HCON.out.mono ?_
          rintro _ w4 ⟨rfl, hb4⟩
          have h4 := Lib.hid (HBE.out.trans (hb4.mono HBE.out.size))
          have how4 := Lib.hid (HOWN.out.below hb4)
          clear hb4
          go_wp2_with (at_builtin; refine wpList_appendG _ rfl _ _ 50 9 rfl w.heap.size 5 i0 Try.underlying50 Try.underlying9 hi hz0 hz1 hz2 _ _ _ rfl how4.out (str t) rfl (by have := HAL.out; unfold maxLen; omega) (by have := HAL.out; omega) h4.out.size ?_; intro v' w5 hown' hgrow)
          have hb5 : Below w.heap.size w w5 := h4.out.grown hgrow h4.out.size how4.out.block
          rw [strCells_str, ← Lib.byteCells_append, List.append_assoc, str_size, ← List.length_append, List.append_assoc] at hown'
          clear hgrow
          go_wp2_with fail
          go_roundw
          case rel => exact ⟨k + 1, acc ++ t, by omega, by go_num, HNX.out, by rw [List.length_append]; omega, hown', hb5⟩
          case measure => simp [intOf]; omega
        · have hb : (e == 0) = false := by simp [he]
          have hend : layList textOf l = ([], e) := by rw [HLAY.out, HLA.out, layAll_err _ _ _ hx ht he, comb_err _ he, comb_err _ he]
          have HEND := Lib.hid hend; clear hend
          clear hcell hx hx01 htl ht he
          go_wp2_with fail
          refine HCON.out.mono ?_
          rintro _ w4 ⟨rfl, hb4⟩
          have h4 : Below w.heap.size w w4 := HBE.out.trans (hb4.mono HBE.out.size)
          go_wp2_with fail
          go_ret2
          exact lay_fin HEND.out rfl h4
      · have hend : layList textOf l = (num n ++ acc, 0) := by
          rw [HLAY.out, HLA.out, layAll_end _ _ _ (by rw [HN.out]; omega), comb_nil]; simp [comb]
        have HEND := Lib.hid hend; clear hend
        have hltI : ¬ (k : Int) < (n : Int) := by omega
        have hcv := run_strG (P := Try.prog) Try.underlying50 Try.underlying5 Try.underlying9 HOWN.out (dst := 9) (src := 50)
        rw [show (⟨(num n ++ acc).toArray⟩ : ByteArray) = str (num n ++ acc) from rfl] at hcv
        go_wp2_with fail
        go_simp
        go_wp2_with fail
        go_ret2
        exact lay_fin HEND.out rfl HBE.out
end Go.Proofs.Ytaclkofkajehpaa.V
