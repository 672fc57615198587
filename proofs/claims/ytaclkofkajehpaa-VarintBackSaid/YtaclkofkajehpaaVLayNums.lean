/-
  Contracts: lists of numbers laid, the program's and the reference's.
-/
import Derived.Test.YtaclkofkajehpaaVText
import Derived.Test.YtaclkofkajehpaaKSl
import Derived.Test.YtaclkofkajehpaaKBld
import Derived.Test.YtaclkofkajehpaaShBuild
namespace Go.Proofs.Ytaclkofkajehpaa.V
open Go.RowKit Go.Proofs.Ytaclkofkajehpaa.K

theorem numLit_any (n : Int) (w : World) (h0 : -9223372036854775808 ≤ n) (h1 : n ≤ 9223372036854775807) :
    Calls Try.prog 31 #[.int .i64 n] w fun e w' => e = .returned (.tuple #[.string (str (num n)), .int .i64 0]) ∧ Below w.heap.size w w' := by
  go_enter Try.func31, Try.ntmps31
  go_wp2_with (go_at_call 10; refine (number_any _ _ h0 h1).mono ?_; rintro e w1 ⟨rfl, hb⟩)
  go_ret2
  exact ⟨rfl, hb⟩

/-- What is laid has a name. -/
theorem lay_fin {w w' : World} {e : Ending} {r t : List UInt8 × Int} (h : r = t) (hv : e = .returned (.tuple #[.string (str t.1), .int .i64 t.2])) (hb : Below w.heap.size w w') :
    e = .returned (.tuple #[.string (str r.1), .int .i64 r.2]) ∧ Below w.heap.size w w' := by
  subst h
  exact ⟨hv, hb⟩

theorem strCells_str (l : List UInt8) : Lib.strCells (str l) = Lib.byteCells l := rfl

set_option maxHeartbeats 1000000 in
set_option maxRecDepth 100000 in
theorem layList_num (v : Value) (l : List Int) (w : World) (hwf : ∀ x ∈ l, -9223372036854775808 ≤ x ∧ x ≤ 9223372036854775807) (hv : Sl w v (l.map (Value.int .i64))) :
    Calls Try.prog 30 #[v, .func (.func 31) #[] #[]] w fun e w' => e = .returned (.tuple #[.string (str (layList numOf l).1), .int .i64 (layList numOf l).2]) ∧ Below w.heap.size w w' := by
  obtain ⟨a, cap, rfl, hc⟩ := hv
  rw [List.length_map]
  have HC := Lib.hid hc; clear hc
  have HWF := Lib.hid hwf; clear hwf
  by_cases h : 256 < l.length
  · have hlay : layList numOf l = ([], 4) := by simp [layList, h]
    rw [hlay]
    have hlt : 256 < (l.length : Int) := by omega
    clear hlay h
    go_enter Try.func30, Try.ntmps30
    go_wp2_with fail
    go_ret2
    exact ⟨rfl, Below.refl _ _⟩
  · have hlay : layList numOf l = comb (num l.length) (layAll numOf l) := by simp [layList, h]
    have HLAY := Lib.hid hlay; clear hlay
    obtain ⟨n, hN⟩ : ∃ n, l.length = n := ⟨_, rfl⟩
    rw [hN] at h HLAY ⊢
    have HN := Lib.hid hN; clear hN
    have hlt : ¬ 256 < (n : Int) := by omega
    have hnl : (num n).length ≤ 10 := num_len _ (by omega) (by omega)
    have hbn := builder_new w 64 5
    have HBN := Lib.hid hbn; clear hbn
    clear h
    go_enter Try.func30, Try.ntmps30
    go_wp2_with fail
    refine (number_any _ _ (by omega) (by omega)).mono ?_
    rintro _ w1 ⟨rfl, hb1⟩
    have hbl1 := builder_below HBN.out hb1
    have h1 : Below w.heap.size w w1 := ((Below.refl _ _).alloc (Nat.le_refl _) _).trans (hb1.mono (by simp))
    clear hb1 HBN
    go_wp2_with fail
    refine (S.write_any w.heap.size w.heap.size [] _ _ hbl1 (by rw [str_size, List.length_nil]; omega) h1.size).mono ?_
    rintro _ w2 ⟨rfl, hbl2, hb2⟩
    rw [List.nil_append, strCells_str] at hbl2
    have hbl2' := Lib.hid (Or.inr hbl2 : Lib.IsBuilder 64 5 w.heap.size w.heap.size (Lib.byteCells (num n)) w2)
    have h2 : Below w.heap.size w w2 := h1.trans hb2
    clear h1 hb2 hbl1 hbl2
    go_wp2_with fail
    go_loopw [20] (fun i wr => ∃ (k : Nat) (acc : List UInt8), k ≤ n ∧ i = .int .i64 (k : Int) ∧ Hid (layAll numOf l = comb acc (layAll numOf (l.drop k))) ∧ acc.length ≤ 10 * k ∧
        Hid (Lib.IsBuilder 64 5 w.heap.size w.heap.size (Lib.byteCells (num n ++ acc)) wr) ∧ Hid (Below w.heap.size w2 wr)) (fun i _ => n - (intOf i).toNat)
    case atStart => exact ⟨0, [], Nat.zero_le _, rfl, by show _ = _; rw [List.drop_zero]; exact (comb_id _ (layAll_zero _ _)).symm, by simp, by rw [List.append_nil]; exact hbl2', Below.refl _ _⟩
    case round =>
      obtain ⟨k, acc, hk, rfl, HLA, hacc, HBL, HBE⟩ := hrel
      by_cases hltk : k < n
      · obtain ⟨x, hx⟩ : ∃ x, l[k]? = some x := ⟨_, List.getElem?_eq_getElem (by rw [HN.out]; exact hltk)⟩
        obtain ⟨b, off, rfl, hcell⟩ := HC.out k (.int .i64 x) (by rw [List.getElem?_map, hx]; rfl)
        have hbw : Below w.heap.size w wr := h2.trans HBE.out
        have hc1 : wr.cell? ⟨b, off + k, none⟩ = some (.int .i64 x) := (hbw.cell (World.block_lt_of_cell? w _ hcell)).trans hcell
        have hx01 := HWF.out x (List.mem_of_getElem? hx)
        have hnx := layAll_next numOf l k hx (show numOf x = (num x, 0) from rfl)
        have hnx' : layAll numOf l = comb (acc ++ num x) (layAll numOf (l.drop (k + 1))) := by rw [HLA.out, hnx, comb_comb]
        have HNX := Lib.hid hnx'
        have hxl := num_len x hx01.1 hx01.2
        have hltI : (k : Int) < (n : Int) := by omega
        have HX := Lib.hid hx01
        clear hcell hx hnx hnx' hx01 hbw
        go_wp2_with fail
        refine (numLit_any x _ HX.out.1 HX.out.2).mono ?_
        rintro _ w3 ⟨rfl, hb3⟩
        have hbl3 := builder_below HBL.out hb3
        have h3 : Below w.heap.size w2 w3 := HBE.out.trans (hb3.mono (Nat.le_trans h2.size HBE.out.size))
        go_wp2_with fail
        refine (S.write_any w.heap.size w.heap.size _ _ _ hbl3 (by rw [str_size, Lib.byteCells_length, List.length_append]; omega) (Nat.le_trans h2.size h3.size)).mono ?_
        rintro _ w4 ⟨rfl, hbl4, hb4⟩
        rw [strCells_str, ← Lib.byteCells_append, List.append_assoc] at hbl4
        have h4 : Below w.heap.size w2 w4 := h3.trans hb4
        go_wp2_with fail
        go_roundw
        case rel => exact ⟨k + 1, acc ++ num x, by omega, by go_num, HNX.out, by rw [List.length_append]; omega, Or.inr hbl4, h4⟩
        case measure => simp [intOf]; omega
      · have hend : layList numOf l = (num n ++ acc, 0) := by
          rw [HLAY.out, HLA.out, layAll_end _ _ _ (by rw [HN.out]; omega), comb_nil]; simp [comb]
        have HEND := Lib.hid hend; clear hend
        have hltI : ¬ (k : Int) < (n : Int) := by omega
        have hbw : Below w.heap.size w wr := h2.trans HBE.out
        go_wp2_with (go_at_call 42; refine (S.string_any w.heap.size w.heap.size _ _ HBL.out hbw.size).mono ?_; rintro e w5 ⟨rfl, hb5⟩)
        go_ret2
        exact lay_fin HEND.out rfl (hbw.trans hb5)

theorem numbers_any (v : Value) (l : List Int) (w : World) (hwf : ∀ x ∈ l, -9223372036854775808 ≤ x ∧ x ≤ 9223372036854775807) (hv : Sl w v (l.map (Value.int .i64))) :
    Calls Try.prog 14 #[v] w fun e w' => e = .returned (.tuple #[.string (str (layList numOf l).1), .int .i64 (layList numOf l).2]) ∧ Below w.heap.size w w' := by
  have HV := Lib.hid hv; clear hv
  have HWF := Lib.hid hwf; clear hwf
  go_enter Try.func14, Try.ntmps14
  go_wp2_with (go_at_call 30; refine (layList_num v l _ HWF.out HV.out).mono ?_; rintro e w1 ⟨rfl, hb⟩)
  go_ret2
  exact ⟨rfl, hb⟩

set_option maxHeartbeats 1000000 in
set_option maxRecDepth 100000 in
theorem refNumbers_any (v : Value) (l : List Int) (w : World) (hwf : ∀ x ∈ l, -9223372036854775808 ≤ x ∧ x ≤ 9223372036854775807) (hv : Sl w v (l.map (Value.int .i64))) :
    Calls Try.prog 15 #[v] w fun e w' => e = .returned (.tuple #[.string (str (layList numOf l).1), .int .i64 (layList numOf l).2]) ∧ Below w.heap.size w w' := by
  obtain ⟨a, cap, rfl, hc⟩ := hv
  rw [List.length_map]
  have HC := Lib.hid hc; clear hc
  have HWF := Lib.hid hwf; clear hwf
  by_cases h : 256 < l.length
  · have hlay : layList numOf l = ([], 4) := by simp [layList, h]
    rw [hlay]
    have hlt : 256 < (l.length : Int) := by omega
    clear hlay h
    go_enter Try.func15, Try.ntmps15
    go_wp2_with fail
    go_ret2
    exact ⟨rfl, Below.refl _ _⟩
  · have hlay : layList numOf l = comb (num l.length) (layAll numOf l) := by simp [layList, h]
    have HLAY := Lib.hid hlay; clear hlay
    obtain ⟨n, hN⟩ : ∃ n, l.length = n := ⟨_, rfl⟩
    rw [hN] at h HLAY ⊢
    have HN := Lib.hid hN; clear hN
    have hlt : ¬ 256 < (n : Int) := by omega
    have hnl : (num n).length ≤ 10 := num_len _ (by omega) (by omega)
    clear h
    go_enter Try.func15, Try.ntmps15
    go_wp2_with fail
    refine (refNumber_any _ _ (by omega) (by omega)).mono ?_
    rintro _ w2 ⟨rfl, h2⟩
    go_wp2_with fail
    go_loopw [4, 5] (fun o i wr => ∃ (k : Nat) (acc : List UInt8), k ≤ n ∧ i = .int .i64 (k : Int) ∧ o = .string (str (num n ++ acc)) ∧ Hid (layAll numOf l = comb acc (layAll numOf (l.drop k))) ∧ acc.length ≤ 10 * k ∧
        Hid (Below w.heap.size w wr)) (fun _ i _ => n - (intOf i).toNat)
    case atStart => exact ⟨0, [], Nat.zero_le _, rfl, by rw [List.append_nil], by show _ = _; rw [List.drop_zero]; exact (comb_id _ (layAll_zero _ _)).symm, by simp, h2⟩
    case round =>
      obtain ⟨k, acc, hk, rfl, rfl, HLA, hacc, HBE⟩ := hrel
      by_cases hltk : k < n
      · obtain ⟨x, hx⟩ : ∃ x, l[k]? = some x := ⟨_, List.getElem?_eq_getElem (by rw [HN.out]; exact hltk)⟩
        obtain ⟨b, off, rfl, hcell⟩ := HC.out k (.int .i64 x) (by rw [List.getElem?_map, hx]; rfl)
        have hc1 : wr.cell? ⟨b, off + k, none⟩ = some (.int .i64 x) := (HBE.out.cell (World.block_lt_of_cell? w _ hcell)).trans hcell
        have hx01 := HWF.out x (List.mem_of_getElem? hx)
        have hnx := layAll_next numOf l k hx (show numOf x = (num x, 0) from rfl)
        have hnx' : layAll numOf l = comb (acc ++ num x) (layAll numOf (l.drop (k + 1))) := by rw [HLA.out, hnx, comb_comb]
        have HNX := Lib.hid hnx'
        have hxl := num_len x hx01.1 hx01.2
        have hltI : (k : Int) < (n : Int) := by omega
        have HX := Lib.hid hx01
        have hs1 : (str (num n ++ acc)).size ≤ 4000 := by rw [str_size, List.length_append]; omega
        have hs2 : (str (num x)).size ≤ 10 := by rw [str_size]; exact hxl
        clear hcell hx hnx hnx' hx01
        go_wp2_with fail
        refine (refNumber_any x _ HX.out.1 HX.out.2).mono ?_
        rintro _ w3 ⟨rfl, hb3⟩
        have h3 : Below w.heap.size w w3 := HBE.out.trans (hb3.mono HBE.out.size)
        go_wp2_with fail
        go_roundw
        case rel => exact ⟨k + 1, acc ++ num x, by omega, by go_num, by rw [str_append, List.append_assoc], HNX.out, by rw [List.length_append]; omega, h3⟩
        case measure => simp [intOf]; omega
      · have hend : layList numOf l = (num n ++ acc, 0) := by
          rw [HLAY.out, HLA.out, layAll_end _ _ _ (by rw [HN.out]; omega), comb_nil]; simp [comb]
        have HEND := Lib.hid hend; clear hend
        have hltI : ¬ (k : Int) < (n : Int) := by omega
        go_wp2_with fail
        go_ret2
        exact lay_fin HEND.out rfl HBE.out
end Go.Proofs.Ytaclkofkajehpaa.V
