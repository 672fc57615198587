/-
  Contracts of the program's check: zeros and the function that it makes, Join.
-/
import Derived.Test.YtlfkbdfaacpjeaaCZero
namespace Go.Proofs.Ytlfkbdfaacpjeaa.C
open Go Go.RowKit Go.Proofs.Ytlfkbdfaacpjeaa.B Go.Proofs.Ytlfkbdfaacpjeaa.K

theorem mat_one (N : Nat) (cs : Array Value) (h : IsMat N cs) : cs.all (·.oneCell') = true := by
  rw [Array.all_eq_true_iff_forall_mem]
  intro x hx
  obtain ⟨i, hi, e⟩ := Array.mem_iff_getElem.1 hx
  have h2 := h.2 i (by rw [← h.1]; exact hi)
  rw [Array.getElem?_eq_getElem hi, e] at h2
  cases h2; rfl

theorem row_below (W : World) (B g : Nat) (cs : Array Value) (hB : B ≤ W.heap.size) (hg : B ≤ g) : Below B W (W.setRow g cs) :=
  Below.grown (Below.refl B W) ⟨rfl, rfl, rfl, by simp, fun j _ hj => setRow_other W g j _ (fun e => hj (by rw [e]))⟩ hB (row := some g) (fun j hj => by cases hj; omega)

theorem mat_info (cs : Array Value) (h : cs.size = 32) : (Try.prog.info? 45).map (·.size) = some cs.size := by rw [h]; kernel_rfl

/-- A whole array stored: what stands there behind it, and that all below is left alone. -/
theorem wpList_store_turn {ops : Array Oper} {rest : List Oper} {o : Oper} {a : Act} {w : World} {Q : Exit → Act → World → Prop} (hgd : o.guard = none) (x y : Operand) (ho : o.op = .store 45 x y)
    (g : Nat) (N : Nat) (cells : Array Value) (hx : a.eval x = .pointer (some ⟨g, 0, none⟩)) (hy : a.eval y = .agg cells) (hm : IsMat N cells)
    (old : Array Value) (hg : w.heap[g]? = some (.cells old 45 (0, 0))) (hold : old.size = 32)
    (h : ∀ W, W.heap[g]? = some (.cells cells 45 (0, 0)) → Below g w W → wpList Try.prog ops Q rest (a.put o.dst undef) W) : wpList Try.prog ops Q (o :: rest) a w :=
  wpList_store_row hgd 45 x y ho g cells hx hy 45 old hg (mat_info _ hm.1) (hold.trans hm.1.symm) (mat_one N cells hm)
    (h _ (setRow_heap w g old cells 45 (0, 0) hg) (row_below w g g cells (Nat.le_of_lt (Array.getElem?_eq_some_iff.1 hg).1) (Nat.le_refl _)))

set_option maxHeartbeats 400000 in
theorem zerosOf_any (b n r : Nat) (w : World) (hn : n ≤ 9223372036854775807) (hr : r < 4294967296) (hc : w.cell? ⟨b, 0, none⟩ = some (.int .i64 (n : Int))) (hb : b < w.heap.size) :
    Calls Try.prog 27 #[.int .u32 (r : Int), .pointer (some ⟨b, 0, none⟩)] w fun e w' => e = .returned (.int .u32 (zs (8 * n) r : Nat)) ∧ Below w.heap.size w w' := by
  go_enter Try.func27, Try.ntmps27
  go_wp2_with fail
  refine (zero_any _).mono ?_
  rintro _ w1 ⟨⟨ds, rfl, hd⟩, hb1⟩
  have hc1 : w1.cell? ⟨b, 0, none⟩ = some (.int .i64 (n : Int)) := ((bcell hb1).1 b 0 hb).trans hc
  have HD := Lib.hid hd; clear hd
  have HB1 := Lib.hid hb1; clear hb1
  have HN := Lib.hid hn; clear hn
  have hb2 : b < w1.heap.size := Nat.lt_of_lt_of_le hb HB1.out.size
  have HB2 := Lib.hid hb2
  go_wp2_with (refine wpList_store_turn rfl _ _ rfl w1.heap.size 8 ds rfl rfl HD.out _ (heap_alloc_at w1 _) (by rfl) ?_; intro W2 hrow2 hbe2; have hc2 : W2.cell? ⟨b, 0, none⟩ = some (.int .i64 (n : Int)) := ((bcell hbe2).1 b 0 HB2.out).trans (((bcell ((Below.refl w1.heap.size w1).alloc (Nat.le_refl _) _)).1 b 0 HB2.out).trans hc1); have HBE2 := Lib.hid (HB1.out.trans ((((Below.refl w1.heap.size w1).alloc (Nat.le_refl _) _).trans hbe2).mono HB1.out.size)); clear hbe2 hb2)
  go_loopw [0, 5] (fun x m wr => ∃ R M N cs, x = .int .u32 ((R : Nat) : Int) ∧ R < 4294967296 ∧ m = .int .i64 ((M : Nat) : Int) ∧ M ≤ n ∧ wr.heap[w1.heap.size]? = some (.cells cs 45) ∧ Hid (IsMat N cs) ∧ Hid (zs (N * M) R = zs (8 * n) r) ∧ Hid (Below w.heap.size w wr)) (fun _ m _ => (intOf m).toNat)
  case atStart => exact ⟨r, n, 8, ds, rfl, hr, rfl, Nat.le_refl _, hrow2, HD, rfl, HBE2⟩
  case round =>
    obtain ⟨R, M, N, cs, rfl, hR, rfl, hM, hrow, HM, HZ, HBE⟩ := hrel
    by_cases h0 : M = 0
    · subst h0
      have hend : R = zs (8 * n) r := by rw [← HZ.out]; rfl
      have HE := Lib.hid hend; clear hend
      go_wp2_with fail
      go_ret
      exact ⟨ret_int (congrArg _ HE.out), HBE.out⟩
    · have hM0 : 0 < (M : Int) := by omega
      have hlt : w1.heap.size < wr.heap.size := (Array.getElem?_eq_some_iff.1 hrow).1
      have HI := Lib.hid (mat_info cs HM.out.1)
      have hdiv : IntKind.i64.wrap ((M : Int) / 2) = ((M / 2 : Nat) : Int) := by
        rw [show ((M : Int) / 2) = ((M / 2 : Nat) : Int) by omega]; exact IntWalk.i64_in _ (by have := HN.out; omega)
      by_cases hp : M % 2 = 1
      · have hpb : ((M : Int) % 2 == 1) = true := by simp; omega
        have hnx := zs_half_odd N M R hp
        clear h0 hp
        have HNX := Lib.hid (hnx.trans HZ.out); clear hnx
        go_wp2_with (refine wpList_load_row rfl 45 _ rfl w1.heap.size rfl 45 cs (0, 0) _ hrow Try.underlying45 rfl HI.out ?_)
        refine (of_any N cs R wr HM.out hR).mono ?_
        rintro _ w2 ⟨rfl, hb2⟩
        have hrow' : w2.heap[w1.heap.size]? = some (.cells cs 45) := (hb2.block _ hlt).trans hrow
        have HBE3 := Lib.hid (HBE.out.trans (hb2.mono HBE.out.size))
        have hlt' : w1.heap.size < w2.heap.size := (Array.getElem?_eq_some_iff.1 hrow').1
        clear hb2 hlt
        go_wp2_with (refine wpList_load_row rfl 45 _ rfl w1.heap.size rfl 45 cs (0, 0) _ hrow' Try.underlying45 rfl HI.out ?_)
        refine (twice_any N cs w2 HM.out).mono ?_
        rintro _ w3 ⟨⟨ds', rfl, hm'⟩, hb3⟩
        have hrow3 : w3.heap[w1.heap.size]? = some (.cells cs 45) := (hb3.block _ hlt').trans hrow'
        have HBE4 := Lib.hid (HBE3.out.trans (hb3.mono HBE3.out.size))
        have HM' := Lib.hid hm'; clear hm' hb3
        go_wp2_with (refine wpList_store_turn rfl _ _ rfl w1.heap.size (2 * N) ds' rfl rfl HM'.out _ hrow3 HM.out.1 ?_; intro W4 hrow4 hbe4; have HBE5 := Lib.hid (HBE4.out.trans (hbe4.mono HB1.out.size)); clear hbe4)
        go_roundw
        case rel => exact ⟨zs N R, M / 2, 2 * N, ds', rfl, zs_lt N R hR, by go_num, by omega, hrow4, HM', HNX, HBE5⟩
        case measure => simp [intOf]; omega
      · have hpb : ((M : Int) % 2 == 1) = false := by simp; omega
        have hnx := zs_half_even N M R (by omega)
        clear h0 hp
        have HNX := Lib.hid (hnx.trans HZ.out); clear hnx
        go_wp2_with (refine wpList_load_row rfl 45 _ rfl w1.heap.size rfl 45 cs (0, 0) _ hrow Try.underlying45 rfl HI.out ?_)
        refine (twice_any N cs wr HM.out).mono ?_
        rintro _ w3 ⟨⟨ds', rfl, hm'⟩, hb3⟩
        have hrow3 : w3.heap[w1.heap.size]? = some (.cells cs 45) := (hb3.block _ hlt).trans hrow
        have HBE4 := Lib.hid (HBE.out.trans (hb3.mono HBE.out.size))
        have HM' := Lib.hid hm'; clear hm' hb3
        go_wp2_with (refine wpList_store_turn rfl _ _ rfl w1.heap.size (2 * N) ds' rfl rfl HM'.out _ hrow3 HM.out.1 ?_; intro W4 hrow4 hbe4; have HBE5 := Lib.hid (HBE4.out.trans (hbe4.mono HB1.out.size)); clear hbe4)
        go_roundw
        case rel => exact ⟨R, M / 2, 2 * N, ds', rfl, hR, by go_num, by omega, hrow4, HM', HNX, HBE5⟩
        case measure => simp [intOf]; omega

theorem ret_ui {a a' b : Int} (h : a = a') : Ending.returned (.tuple #[.int .u32 a, .int .i64 b]) = .returned (.tuple #[.int .u32 a', .int .i64 b]) := by rw [h]

set_option maxHeartbeats 400000 in
theorem zeros_any (n : Nat) (w : World) :
    Calls Try.prog 25 #[.int .i64 (n : Int)] w fun e w' => e = .returned (.func (.func 27) #[] #[.pointer (some ⟨w.heap.size, 0, none⟩)]) ∧ w' = w.alloc (.cells #[.int .i64 (n : Int)] 3) := by
  go_enter Try.func25, Try.ntmps25
  go_wp2_with fail
  go_ret
  exact ⟨rfl, rfl⟩

set_option maxHeartbeats 400000 in
theorem join_any (a b : Nat) (n : Int) (w : World) (ha : a < 4294967296) (hb : b < 4294967296) (hn1 : n ≤ 9223372036854775807) :
    Calls Try.prog 19 #[.int .u32 (a : Int), .int .u32 (b : Int), .int .i64 n] w fun e w' => e = .returned (.tuple #[.int .u32 ((joinOf a b n).1 : Nat), .int .i64 (joinOf a b n).2]) ∧ Below w.heap.size w w' := by
  by_cases hneg : n < 0
  · rw [joinOf_neg a b n hneg]
    go_enter Try.func19, Try.ntmps19
    go_wp2_with fail
    go_ret2
    exact ⟨rfl, Below.refl _ _⟩
  · obtain ⟨m, rfl⟩ := Int.eq_ofNat_of_zero_le (Int.not_lt.1 hneg)
    rw [joinOf_nat]
    have hx := u32_xor_nat (zs (8 * m) a) b (zs_lt _ _ ha) hb
    have HX := Lib.hid (hx.trans (congrArg (fun z : Nat => (z : Int)) (show zs (8 * m) a ^^^ b = join a b m from rfl))); clear hx
    have HA := Lib.hid (fun w bk h1 h2 => zerosOf_any bk m a w (by omega) ha h1 h2)
    have hneg' : ¬ (m : Int) < 0 := hneg
    clear hneg hn1
    go_enter Try.func19, Try.ntmps19
    go_wp2_with fail
    refine (zeros_any m w).mono ?_
    rintro _ w1 ⟨rfl, rfl⟩
    have hcell : (w.alloc (.cells #[.int .i64 (m : Int)] 3)).cell? ⟨w.heap.size, 0, none⟩ = some (.int .i64 (m : Int)) := by
      rw [cell_of_row _ _ _ #[.int .i64 (m : Int)] 3 (0, 0) (heap_alloc_at _ _)]; rfl
    have hcall := HA.out _ _ hcell (by simp)
    have HCALL := Lib.hid hcall
    have HBE := Lib.hid ((Below.refl w.heap.size w).alloc (Nat.le_refl _) (.cells #[.int .i64 (m : Int)] 3))
    clear hcell hcall
    go_wp2_with fail
    refine HCALL.out.mono ?_
    rintro _ w2 ⟨rfl, hb2⟩
    have HBE2 := Lib.hid (HBE.out.trans (hb2.mono HBE.out.size))
    clear hb2 HBE HCALL
    go_wp2_with fail
    go_ret2
    exact ⟨ret_ui HX.out, HBE2.out⟩
end Go.Proofs.Ytlfkbdfaacpjeaa.C
