/-
  Layer 12: the same texts are the same.
-/
import Derived.Test.YthdchidlfeighaaHP12Pd
import Derived.BigQuiet
namespace Go.Proofs.Ythdchidlfeighaa.C12
open Go Go.RowKit Go.Proofs Go.Proofs.Ythdchidlfeighaa.B Go.Proofs.Ythdchidlfeighaa.K Go.Proofs.Ythdchidlfeighaa.P8
set_option linter.unusedVariables false
set_option maxRecDepth 100000

set_option maxHeartbeats 1000000 in
theorem same_same (v v' : Value) (xs : List (List UInt8)) (w : World) (hn : xs.length ≤ 4611686018427387904) (h : Sl w v (xs.map sv)) (h' : Sl w v' (xs.map sv)) :
    Calls Try.prog 29 #[v, v'] w fun e w' => e = .returned (.bool true) ∧ Below w.heap.size w w' := by
  obtain ⟨a, cap, rfl, hc⟩ := h
  obtain ⟨a', cap', rfl, hc'⟩ := h'
  rw [List.length_map]
  have hnn : ((xs.length : Int) != (xs.length : Int)) = false := by simp
  have HC := Lib.hid hc; clear hc
  have HC' := Lib.hid hc'; clear hc'
  obtain ⟨n, hN⟩ : ∃ n, xs.length = n := ⟨_, rfl⟩
  rw [hN] at hn hnn ⊢
  have HN := Lib.hid hN; clear hN
  go_enter Try.func29, Try.ntmps29
  go_wp2_with fail
  go_loopw [5] (fun i wr => ∃ k : Nat, k ≤ n ∧ i = .int .i64 (k : Int) ∧ Below w.heap.size w wr) (fun i _ => n - (intOf i).toNat)
  case atStart => exact ⟨0, Nat.zero_le _, rfl, Below.refl _ _⟩
  case round =>
    obtain ⟨k, hk, rfl, hbel⟩ := hrel
    by_cases hlt : k < n
    · obtain ⟨x, hx⟩ : ∃ x, xs[k]? = some x := ⟨_, List.getElem?_eq_getElem (by rw [HN.out]; exact hlt)⟩
      obtain ⟨b, off, rfl, hcell⟩ := HC.out k (.string (str x)) (by rw [List.getElem?_map, hx]; rfl)
      obtain ⟨b', off', rfl, hcell'⟩ := HC'.out k (.string (str x)) (by rw [List.getElem?_map, hx]; rfl)
      have hc1 : wr.cell? ⟨b, off + k, none⟩ = some (.string (str x)) := (hbel.cell (World.block_lt_of_cell? w _ hcell)).trans hcell
      have hc2 : wr.cell? ⟨b', off' + k, none⟩ = some (.string (str x)) := (hbel.cell (World.block_lt_of_cell? w _ hcell')).trans hcell'
      have hltI : (k : Int) < (n : Int) := by omega
      have hk0 : 0 ≤ (k : Int) := by omega
      clear hcell hcell' hx
      go_wp2_with fail
      go_quiet (fail)
      go_wp2_with fail
      go_roundw
      case rel => exact ⟨k + 1, by omega, by go_num, below_drewN hbel _⟩
      case measure => simp [intOf]; omega
    · have hltI : ¬ (k : Int) < (n : Int) := by omega
      go_wp2_with fail
      go_ret
      exact ⟨rfl, hbel⟩
end Go.Proofs.Ythdchidlfeighaa.C12
