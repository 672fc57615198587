/-
  Contracts of the program's check: of, twice, zero (an array of 32 images of a register's bits).
-/
import Derived.Test.YtlfkbdfaacpjeaaCDown
import Derived.Test.YtlfkbdfaacpjeaaCMat
import Derived.Laws.ShiftsVarLaws
import Derived.Deep.DeepCutAuto
import Derived.Deep.RegionHeld3
import Derived.Deep.MidRow
import Derived.Test.YtlfkbdfaacpjeaaKSl
namespace Go.Proofs.Ytlfkbdfaacpjeaa.C
open Go Go.RowKit Go.Proofs.Ytlfkbdfaacpjeaa.B Go.Proofs.Ytlfkbdfaacpjeaa.K

/-- An array of 32 numbers: what N bits 0 do to each bit. -/
def IsMat (N : Nat) (cs : Array Value) : Prop := cs.size = 32 ∧ ∀ i, i < 32 → cs[i]? = some (.int .u32 (zs N (2 ^ i) : Nat))

set_option maxHeartbeats 400000 in
theorem of_any (N : Nat) (cs : Array Value) (r : Nat) (w : World) (hm : IsMat N cs) (hr : r < 4294967296) :
    Calls Try.prog 29 #[.agg cs, .int .u32 (r : Int)] w fun e w' => e = .returned (.int .u32 (zs N r : Nat)) ∧ Below w.heap.size w w' := by
  have HM := Lib.hid hm; clear hm
  have HR := Lib.hid hr
  go_enter Try.func29, Try.ntmps29
  go_wp2_with fail
  go_loop [1, 5, 6] (fun d x i => ∃ D X k : Nat, d = .int .u32 (D : Int) ∧ D < 4294967296 ∧ x = .int .u32 (X : Int) ∧ i = .int .i64 (k : Int) ∧ k ≤ 32 ∧ Hid (r / 2 ^ k = D) ∧ Hid (zs N (r % 2 ^ k) = X)) (fun _ _ i => 32 - (intOf i).toNat)
  case atStart => exact ⟨r, 0, 0, rfl, hr, rfl, rfl, by omega, by show r / 1 = r; exact Nat.div_one r, by show zs N (r % 1) = 0; rw [Nat.mod_one, zs_zero]⟩
  case round =>
    obtain ⟨D, X, k, rfl, hD1, rfl, rfl, hk, HD, HX⟩ := hrel
    clear hr
    by_cases hD0 : D = 0
    · subst hD0
      have hend : X = zs N r := by
        have h1 := HD.out
        have h2 : r < 2 ^ k := by
          rcases Nat.lt_or_ge r (2 ^ k) with h | h
          · exact h
          · have := Nat.div_pos h (Nat.two_pow_pos k); omega
        rw [← HX.out, Nat.mod_eq_of_lt h2]
      have HE := Lib.hid hend; clear hend
      go_wp2_with fail
      go_ret
      exact ⟨ret_int (congrArg _ HE.out), (Below.refl _ _).alloc (Nat.le_refl _) _⟩
    · have hk32 : k < 32 := by
        rcases Nat.lt_or_ge k 32 with h | h
        · exact h
        · obtain rfl : k = 32 := by omega
          have h1 := HD.out
          have h2 := HR.out
          rw [Nat.div_eq_of_lt (show r < 2 ^ 32 from h2)] at h1
          omega
      have hne : ((D : Int) != 0) = true := by simp; omega
      obtain ⟨V, hV⟩ : ∃ V, zs N (2 ^ k) = V := ⟨_, rfl⟩
      have hc0 := HM.out.2 k hk32
      rw [hV] at hc0
      have hc : (w.alloc (.cells cs 45)).cell? ⟨w.heap.size, k, none⟩ = some (.int .u32 (V : Int)) := by
        rw [cell_of_row _ _ _ cs 45 (0, 0) (heap_alloc_at _ _)]; exact hc0
      have hV1 : V < 4294967296 := by rw [← hV]; exact zs_lt _ _ (Nat.pow_lt_pow_right (show 1 < 2 by omega) hk32)
      have hX1 : X < 4294967296 := by
        rw [← HX.out]; exact zs_lt _ _ (Nat.lt_of_le_of_lt (Nat.mod_le _ _) HR.out)
      have hx := u32_xor_nat X V hX1 hV1
      obtain ⟨Y, hY⟩ : ∃ Y, X ^^^ V = Y := ⟨_, rfl⟩
      rw [hY] at hx
      have hand := u32_and_nat D 1 hD1 (by omega)
      rw [Nat.and_one_is_mod] at hand
      have hnd : r / 2 ^ (k + 1) = D / 2 := by rw [Nat.pow_succ, ← Nat.div_div_eq_div_mul, HD.out]
      have HND := Lib.hid hnd
      have hD2 : D / 2 < 4294967296 := by omega
      have HD2 := Lib.hid hD2
      have HY := Lib.hid hY
      have HV := Lib.hid hV
      have hkI : (k : Int) < 32 := by omega
      clear hD2 hnd hY hV hc0 hX1 hV1 hD0
      by_cases hbit : D % 2 = 1
      · rw [hbit] at hand
        have hand' : bits .and .u32 (D : Int) 1 = 1 := hand
        have hnx := zs_bit_one N r k (by rw [HD.out]; exact hbit)
        rw [HX.out, HV.out, HY.out] at hnx
        have HNX := Lib.hid hnx
        clear hand hbit hnx
        go_wp2_with fail
        go_round
        case rel => exact ⟨D / 2, Y, k + 1, by go_num, HD2.out, rfl, by go_num, by omega, HND.out, HNX.out⟩
        case measure => simp [intOf]; omega
      · have hb0 : D % 2 = 0 := by omega
        rw [hb0] at hand
        have hand' : bits .and .u32 (D : Int) 1 = 0 := hand
        have hnx := zs_bit_zero N r k (by rw [HD.out]; exact hb0)
        rw [HX.out] at hnx
        have HNX := Lib.hid hnx
        clear hand hbit hnx hb0
        go_wp2_with fail
        go_round
        case rel => exact ⟨D / 2, X, k + 1, by go_num, HD2.out, rfl, by go_num, by omega, HND.out, HNX.out⟩
        case measure => simp [intOf]; omega

theorem three (w : World) (A B C : Obj) : (((w.alloc A).alloc B).alloc C).heap[w.heap.size]? = some A ∧ (((w.alloc A).alloc B).alloc C).heap[w.heap.size + 1]? = some B ∧ (((w.alloc A).alloc B).alloc C).heap[w.heap.size + 1 + 1]? = some C ∧ Below w.heap.size w (((w.alloc A).alloc B).alloc C) := by
  have h1 : (w.alloc A).heap.size = w.heap.size + 1 := by simp
  have h2 : ((w.alloc A).alloc B).heap.size = w.heap.size + 1 + 1 := by simp
  have a1 := heap_alloc_at w A
  have a2 := heap_alloc_at (w.alloc A) B
  have a3 := heap_alloc_at ((w.alloc A).alloc B) C
  rw [h1] at a2
  rw [h2] at a3
  refine ⟨?_, ?_, a3, (((Below.refl _ _).alloc (Nat.le_refl _) _).alloc (by omega) _).alloc (by omega) _⟩
  · rw [Below.heap_alloc _ _ _ (by omega), Below.heap_alloc _ _ _ (by omega)]; exact a1
  · rw [Below.heap_alloc _ _ _ (by omega)]; exact a2

theorem keepS {W : World} {B k V : Nat} {csl : List Value} {v : Value} (h : W.rangeAt B 0 csl ∧ W.cell? ⟨B, k, none⟩ = some (.int .u32 (V : Int))) :
    (W.setCell ⟨B + 1 + 1, k, none⟩ v).rangeAt B 0 csl ∧ (W.setCell ⟨B + 1 + 1, k, none⟩ v).cell? ⟨B, k, none⟩ = some (.int .u32 (V : Int)) := by
  obtain ⟨h1, h2⟩ := h
  have hb : Below (B + 1) W (W.setCell ⟨B + 1 + 1, k, none⟩ v) := (Below.refl _ _).setCell (by show B + 1 ≤ B + 1 + 1; omega) v
  exact ⟨fun j u hj => (hb.cell (p := ⟨B, 0 + j, none⟩) (by show B < B + 1; omega)).trans (h1 j u hj), (hb.cell (p := ⟨B, k, none⟩) (by show B < B + 1; omega)).trans h2⟩

set_option maxHeartbeats 400000 in
theorem twice_any (N : Nat) (cs : Array Value) (w : World) (hm : IsMat N cs) :
    Calls Try.prog 30 #[.agg cs] w fun e w' => (∃ ds, e = .returned (.agg ds) ∧ IsMat (2 * N) ds) ∧ Below w.heap.size w w' := by
  obtain ⟨csl, rfl⟩ : ∃ l : List Value, cs = l.toArray := ⟨cs.toList, by simp⟩
  have HM := Lib.hid hm; clear hm
  go_enter Try.func30, Try.ntmps30
  go_wp2_with fail
  obtain ⟨zr, hzr⟩ : ∃ zr : Array Value, Array.replicate 32 (Value.int .u32 0) = zr := ⟨_, rfl⟩
  go_loopw [4, 5] (fun _ i wr => ∃ (k : Nat) (cur : Array Value), i = .int .i64 (k : Int) ∧ k ≤ 32 ∧ wr.heap[w.heap.size]? = some (.cells csl.toArray 45) ∧ wr.heap[w.heap.size + 1 + 1]? = some (.cells cur 45) ∧ cur.size = 32 ∧ cur.all (·.oneCell') = true ∧ (∃ rr, wr.heap[w.heap.size + 1]? = some (.cells rr 45) ∧ rr.size = 32) ∧
      Hid (∀ j, j < k → cur[j]? = some (.int .u32 (zs (2 * N) (2 ^ j) : Nat))) ∧ Hid (Below w.heap.size w wr)) (fun _ i _ => 32 - (intOf i).toNat)
  case atStart =>
    have h3 := three w (.cells csl.toArray 45)
    exact ⟨0, _, rfl, by omega, (h3 _ _).1, (h3 _ _).2.2.1, rfl, by decide +kernel, ⟨_, (h3 _ _).2.1, rfl⟩, fun j hj => by omega, (h3 _ _).2.2.2⟩
  case round =>
    obtain ⟨k, cur, rfl, hk, hB, hC, hcur, hone, ⟨rr, hR, hrs⟩, HC, HBE⟩ := hrel
    have HONE := Lib.hid hone; clear hone
    have HRS := Lib.hid hrs; clear hrs
    have HCUR := Lib.hid hcur
    have hi1 : (Try.prog.info? 45).map (·.size) = some cur.size := by rw [hcur]; kernel_rfl
    have hi2 : (Try.prog.info? 45).map (·.size) = some csl.toArray.size := by rw [HM.out.1]; kernel_rfl
    have HI1 := Lib.hid hi1; clear hi1
    have HI2 := Lib.hid hi2; clear hi2
    clear hcur
    by_cases hk32 : k < 32
    · have hkI : (k : Int) < 32 := by omega
      obtain ⟨V, hV⟩ : ∃ V, zs N (2 ^ k) = V := ⟨_, rfl⟩
      have hc0 := HM.out.2 k hk32
      rw [hV] at hc0
      have hV1 : V < 4294967296 := by rw [← hV]; exact zs_lt _ _ (Nat.pow_lt_pow_right (show 1 < 2 by omega) hk32)
      have hc : wr.cell? ⟨w.heap.size, k, none⟩ = some (.int .u32 (V : Int)) := by
        rw [cell_of_row _ _ _ csl.toArray 45 (0, 0) hB]; exact hc0
      have HDO := Lib.hid (fun W => of_any N csl.toArray V W HM.out hV1)
      clear hV1 hc0
      have hun : Try.prog.underlying 45 = some (.array 32 27) := Try.underlying45
      have hin : (Try.prog.info? 45).map (·.size) = some csl.length := HI2.out.trans (by simp)
      have hr0 : wr.rangeAt w.heap.size 0 csl := fun j u hj => by
        rw [Nat.zero_add, cell_of_row _ _ _ csl.toArray 45 (0, 0) hB]; simpa using hj
      have hlt1 : w.heap.size < wr.heap.size := (Array.getElem?_eq_some_iff.1 hB).1
      have hlt3 : w.heap.size + 1 < wr.heap.size := (Array.getElem?_eq_some_iff.1 hR).1
      have hlt2 : w.heap.size + 1 + 1 < wr.heap.size := (Array.getElem?_eq_some_iff.1 hC).1
      obtain ⟨old, hold1, hold2⟩ := row_cell hC (show k < cur.size by rw [HCUR.out]; exact hk32)
      have hS0 : wr.drew.rangeAt w.heap.size 0 csl ∧ wr.drew.cell? ⟨w.heap.size, k, none⟩ = some (.int .u32 (V : Int)) := ⟨hr0, hc⟩
      go_upto_region 5 with fail
      go_region_held3 (fun W => W.rangeAt w.heap.size 0 csl ∧ W.cell? ⟨w.heap.size, k, none⟩ = some (.int .u32 (V : Int))) (first | exact hS0 | assumption | exact keepS (by assumption)) (first | (go_at_call 29; refine (HDO.out _).mono ?_; rintro _ w1 ⟨rfl, hb1⟩; have hS1 : w1.rangeAt w.heap.size 0 csl ∧ w1.cell? ⟨w.heap.size, k, none⟩ = some (.int .u32 (V : Int)) := ⟨fun j u hj => (hb1.cell (p := ⟨w.heap.size, 0 + j, none⟩) hlt1).trans (hr0 j u hj), (hb1.cell (p := ⟨w.heap.size, k, none⟩) hlt1).trans hc⟩; have ho1 : w1.cell? ⟨w.heap.size + 1 + 1, k, none⟩ = some old := (hb1.cell (p := ⟨w.heap.size + 1 + 1, k, none⟩) hlt2).trans hold1; have ho2 : w1.frozen? ⟨w.heap.size + 1 + 1, k, none⟩ = false := (hb1.frozen (p := ⟨w.heap.size + 1 + 1, k, none⟩) hlt2).trans hold2; have hC1 : w1.heap[w.heap.size + 1 + 1]? = some (.cells cur 45) := (hb1.block _ hlt2).trans hC; have hR1 : w1.heap[w.heap.size + 1]? = some (.cells rr 45) := (hb1.block _ hlt3).trans hR; have hB1 : w1.heap[w.heap.size]? = some (.cells csl.toArray 45) := (hb1.block _ hlt1).trans hB; have hbe1 := HBE.out.drew.trans (hb1.mono (Nat.le_of_lt hlt1))))
      go_wp2_with fail
      go_roundw
      case rel =>
        have hnew : zs N V = zs (2 * N) (2 ^ k) := by rw [← hV, zs_twice]
        have hbs : Below w.heap.size w1 (w1.setCell ⟨w.heap.size + 1 + 1, k, none⟩ (.int .u32 (zs N V : Nat))) := (Below.refl _ _).setCell (by show w.heap.size ≤ w.heap.size + 1 + 1; omega) _
        have hb3 : Below (w.heap.size + 1 + 1) w1 (w1.setCell ⟨w.heap.size + 1 + 1, k, none⟩ (.int .u32 (zs N V : Nat))) := (Below.refl _ _).setCell (by show w.heap.size + 1 + 1 ≤ w.heap.size + 1 + 1; exact Nat.le_refl _) _
        refine ⟨k + 1, cur.setIfInBounds k (.int .u32 (zs N V : Nat)), by go_num, by omega, (hb3.block _ (by omega)).trans hB1, heap_setCell_same w1 _ k cur 45 _ hC1, by simpa using HCUR.out, ?_, ⟨rr, (hb3.block _ (by omega)).trans hR1, HRS.out⟩, ?_, hbe1.trans hbs⟩
        · rw [Array.all_eq_true_iff_forall_mem]
          intro x hx
          rcases Array.mem_or_eq_of_mem_setIfInBounds hx with hx | hx
          · exact (Array.all_eq_true_iff_forall_mem.1 HONE.out) x hx
          · rw [hx]; rfl
        · intro j hj
          rw [Array.getElem?_setIfInBounds]
          by_cases hjk : k = j
          · subst hjk
            rw [if_pos rfl, if_pos (by rw [HCUR.out]; exact hk32), hnew]
          · rw [if_neg hjk]
            exact HC.out j (by omega)
      case measure => simp [intOf]; omega
    · obtain rfl : k = 32 := by omega
      go_wp2_with (first | refine wpList_load_row rfl 45 _ rfl (w.heap.size + 1 + 1) rfl 45 cur (0, 0) _ hC Try.underlying45 rfl HI1.out ?_ | refine wpList_load_row rfl 45 _ rfl w.heap.size rfl 45 csl.toArray (0, 0) _ hB Try.underlying45 rfl HI2.out ?_ | refine wpList_store_row rfl 45 _ _ rfl (w.heap.size + 1) cur rfl rfl 45 rr hR HI1.out (HRS.out.trans HCUR.out.symm) HONE.out ?_)
      refine bodyPost_ret (v := .agg cur) (results_cell_row rfl _ _ (w.heap.size + 1) 45 cur (0, 0) _ rfl (setRow_heap wr (w.heap.size + 1) rr cur 45 (0, 0) hR) Try.underlying45 rfl HI1.out) rfl ?_
      refine ⟨⟨cur, rfl, HCUR.out, HC.out⟩, ?_⟩
      exact HBE.out.trans (Below.grown (Below.refl w.heap.size wr) ⟨rfl, rfl, rfl, by simp, fun j _ hj => setRow_other wr (w.heap.size + 1) j _ (fun e => hj (by rw [e]))⟩ HBE.out.size (row := some (w.heap.size + 1)) (fun j hj => by cases hj; omega))
end Go.Proofs.Ytlfkbdfaacpjeaa.C
