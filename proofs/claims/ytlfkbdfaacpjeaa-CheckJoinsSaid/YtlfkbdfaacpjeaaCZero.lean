/-
  Contracts of the program's check: zero (the turn by one byte 0).
-/
import Derived.Test.YtlfkbdfaacpjeaaCTurn
namespace Go.Proofs.Ytlfkbdfaacpjeaa.C
open Go Go.RowKit Go.Proofs.Ytlfkbdfaacpjeaa.B Go.Proofs.Ytlfkbdfaacpjeaa.K

theorem two (w : World) (A B : Obj) : ((w.alloc A).alloc B).heap[w.heap.size]? = some A ∧ ((w.alloc A).alloc B).heap[w.heap.size + 1]? = some B ∧ Below w.heap.size w ((w.alloc A).alloc B) := by
  have h1 : (w.alloc A).heap.size = w.heap.size + 1 := by simp
  have a1 := heap_alloc_at w A
  have a2 := heap_alloc_at (w.alloc A) B
  rw [h1] at a2
  refine ⟨?_, a2, ((Below.refl _ _).alloc (Nat.le_refl _) _).alloc (by omega) _⟩
  rw [Below.heap_alloc _ _ _ (by omega)]; exact a1

set_option maxHeartbeats 400000 in
theorem zero_any (w : World) :
    Calls Try.prog 28 #[] w fun e w' => (∃ ds, e = .returned (.agg ds) ∧ IsMat 8 ds) ∧ Below w.heap.size w w' := by
  go_enter Try.func28, Try.ntmps28
  go_wp2_with fail
  obtain ⟨zr, hzr⟩ : ∃ zr : Array Value, Array.replicate 32 (Value.int .u32 0) = zr := ⟨_, rfl⟩
  go_loopw [2, 3] (fun _ i wr => ∃ (k : Nat) (cur : Array Value), i = .int .i64 (k : Int) ∧ k ≤ 32 ∧ wr.heap[w.heap.size + 1]? = some (.cells cur 45) ∧ cur.size = 32 ∧ cur.all (·.oneCell') = true ∧ (∃ rr, wr.heap[w.heap.size]? = some (.cells rr 45) ∧ rr.size = 32) ∧
      Hid (∀ j, j < k → cur[j]? = some (.int .u32 (zs 8 (2 ^ j) : Nat))) ∧ Hid (Below w.heap.size w wr)) (fun _ i _ => 32 - (intOf i).toNat)
  case atStart =>
    have h3 := two w (.cells (Array.replicate 32 (Value.int .u32 0)) 45) (.cells (Array.replicate 32 (Value.int .u32 0)) 45)
    exact ⟨0, _, rfl, by omega, h3.2.1, rfl, by decide +kernel, ⟨_, h3.1, rfl⟩, fun j hj => by omega, h3.2.2⟩
  case round =>
    obtain ⟨k, cur, rfl, hk, hC, hcur, hone, ⟨rr, hR, hrs⟩, HC, HBE⟩ := hrel
    have HONE := Lib.hid hone; clear hone
    have HRS := Lib.hid hrs; clear hrs
    have HCUR := Lib.hid hcur
    have hi1 : (Try.prog.info? 45).map (·.size) = some cur.size := by rw [hcur]; kernel_rfl
    have HI1 := Lib.hid hi1; clear hi1
    clear hcur
    by_cases hk32 : k < 32
    · have hkI : (k : Int) < 32 := by omega
      obtain ⟨P, hP⟩ : ∃ P, 2 ^ k = P := ⟨_, rfl⟩
      have hp : P < 4294967296 := by rw [← hP]; exact Nat.pow_lt_pow_right (show 1 < 2 by omega) hk32
      have hpw : IntKind.u32.wrap (P : Int) = (P : Int) := IntWalk.u32_in _ (by omega)
      have hpI : IntKind.u32.wrap ((2 : Int) ^ k) = (P : Int) := by
        rw [show ((2 : Int) ^ k) = (P : Int) by rw [← hP]; simp]; exact hpw
      have hnew : (zs 8 P : Nat) = zs 8 (2 ^ k) := by rw [hP]
      have HNEW := Lib.hid hnew
      have HDO := Lib.hid (fun W => down_any P W hp)
      obtain ⟨old, hold1, hold2⟩ := row_cell hC (show k < cur.size by rw [HCUR.out]; exact hk32)
      have HP := Lib.hid hP
      clear hp hpw hP hnew
      go_wp2_with (go_at_call 23; refine (HDO.out _).mono ?_; rintro _ w1 ⟨rfl, rfl⟩)
      go_roundw
      case rel =>
        have hbs : Below w.heap.size wr (wr.setCell ⟨w.heap.size + 1, k, none⟩ (.int .u32 (zs 8 P : Nat))) := (Below.refl _ _).setCell (by show w.heap.size ≤ w.heap.size + 1; omega) _
        have hb3 : Below (w.heap.size + 1) wr (wr.setCell ⟨w.heap.size + 1, k, none⟩ (.int .u32 (zs 8 P : Nat))) := (Below.refl _ _).setCell (by show w.heap.size + 1 ≤ w.heap.size + 1; exact Nat.le_refl _) _
        refine ⟨k + 1, cur.setIfInBounds k (.int .u32 (zs 8 P : Nat)), by go_num, by omega, heap_setCell_same wr _ k cur 45 _ hC, by simpa using HCUR.out, ?_, ⟨rr, (hb3.block _ (by omega)).trans hR, HRS.out⟩, ?_, HBE.out.trans hbs⟩
        · rw [Array.all_eq_true_iff_forall_mem]
          intro x hx
          rcases Array.mem_or_eq_of_mem_setIfInBounds hx with hx | hx
          · exact (Array.all_eq_true_iff_forall_mem.1 HONE.out) x hx
          · rw [hx]; rfl
        · intro j hj
          rw [Array.getElem?_setIfInBounds]
          by_cases hjk : k = j
          · subst hjk
            rw [if_pos rfl, if_pos (by rw [HCUR.out]; exact hk32), HNEW.out]
          · rw [if_neg hjk]
            exact HC.out j (by omega)
      case measure => simp [intOf]; omega
    · obtain rfl : k = 32 := by omega
      go_wp2_with (first | refine wpList_load_row rfl 45 _ rfl (w.heap.size + 1) rfl 45 cur (0, 0) _ hC Try.underlying45 rfl HI1.out ?_ | refine wpList_store_row rfl 45 _ _ rfl w.heap.size cur rfl rfl 45 rr hR HI1.out (HRS.out.trans HCUR.out.symm) HONE.out ?_)
      refine bodyPost_ret (v := .agg cur) (results_cell_row rfl _ _ w.heap.size 45 cur (0, 0) _ rfl (setRow_heap wr w.heap.size rr cur 45 (0, 0) hR) Try.underlying45 rfl HI1.out) rfl ?_
      refine ⟨⟨cur, rfl, HCUR.out, HC.out⟩, ?_⟩
      exact HBE.out.trans (Below.grown (Below.refl w.heap.size wr) ⟨rfl, rfl, rfl, by simp, fun j _ hj => setRow_other wr w.heap.size j _ (fun e => hj (by rw [e]))⟩ HBE.out.size (row := some w.heap.size) (fun j hj => by cases hj; omega))
end Go.Proofs.Ytlfkbdfaacpjeaa.C
