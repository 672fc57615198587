/-
  Contracts of the program of layer 4, to show: rows of pieces; a list.
-/
import Derived.Test.YtbeidmkhpcnbbaaGreatDoorIPShA
namespace Go.Proofs.YtbeidmkhpcnbbaaGreatDoor.I
open Go Go.RowKit Go.Proofs.YtbeidmkhpcnbbaaGreatDoor.B Go.Proofs.YtbeidmkhpcnbbaaGreatDoor.K Go.Proofs.YtbeidmkhpcnbbaaGreatDoor.E
set_option linter.unusedVariables false

/-- A piece: its text, its level. -/
abbrev Pc := Bs × Int
def cellsP (ps : List Pc) : List Value := ps.flatMap fun p => [sv p.1, .int .i64 p.2]
theorem cellsP_cons (p : Pc) (r : List Pc) : cellsP (p :: r) = sv p.1 :: .int .i64 p.2 :: cellsP r := by simp [cellsP]
theorem cellsP_append (a b : List Pc) : cellsP (a ++ b) = cellsP a ++ cellsP b := by simp [cellsP]
theorem cellsP_length (ps : List Pc) : (cellsP ps).length = ps.length * 2 := by
  induction ps with
  | nil => rfl
  | cons p r ih => rw [cellsP_cons]; simp only [List.length_cons, ih]; omega
theorem cellsP_at (ps : List Pc) (j : Nat) (p : Pc) (h : ps[j]? = some p) : (cellsP ps)[j * 2]? = some (sv p.1) ∧ (cellsP ps)[j * 2 + 1]? = some (.int .i64 p.2) := by
  induction ps generalizing j with
  | nil => simp at h
  | cons x r ih =>
    rw [cellsP_cons]
    cases j with
    | zero => simp at h; subst h; exact ⟨rfl, rfl⟩
    | succ j =>
      rw [List.getElem?_cons_succ] at h
      obtain ⟨h1, h2⟩ := ih j h
      rw [show (j + 1) * 2 = j * 2 + 1 + 1 by omega]
      exact ⟨h1, h2⟩

/-- A slice that reads as pieces. -/
def SlP (w : World) (v : Value) (ps : List Pc) : Prop :=
  ∃ a cap, v = .slice a ps.length cap ∧ ∀ j p, ps[j]? = some p → ∃ b off, a = some ⟨b, off, none⟩ ∧ w.cell? ⟨b, off + j * 2, none⟩ = some (sv p.1) ∧ w.cell? ⟨b, off + j * 2 + 1, none⟩ = some (.int .i64 p.2)

theorem SlP.below {w w' : World} {v : Value} {ps : List Pc} (h : SlP w v ps) (hb : Below w.heap.size w w') : SlP w' v ps := by
  obtain ⟨a, cap, e, hc⟩ := h
  exact ⟨a, cap, e, fun j p hj => by obtain ⟨b, off, e1, h1, h2⟩ := hc j p hj; exact ⟨b, off, e1, cell_kept hb h1, cell_kept hb h2⟩⟩

theorem SlP.at {w : World} {a : Option Addr} {len cap : Nat} {ps : List Pc} {j : Nat} {p : Pc} (h : SlP w (.slice a len cap) ps) (hp : ps[j]? = some p) :
    ∃ b off, a = some ⟨b, off, none⟩ ∧ w.cell? ⟨b, off + j * 2, none⟩ = some (sv p.1) ∧ w.cell? ⟨b, off + j * 2 + 1, none⟩ = some (.int .i64 p.2) := by
  obtain ⟨a', cap', e, hc⟩ := h
  cases e
  exact hc j p hp

theorem run_make_n {P : Program} (w : World) (t e : TypeId) (i : TypeInfo) (z : Value) (ht : P.underlying t = some (.slice e)) (hi : P.info? e = some i) (hz : i.zero = some z) (hsize : i.size = 1) (n : Nat) (hb : i.bytes * n ≤ 281474976710656) (hn : n ≤ 256) :
    ∃ cur : Array Value, cur.size = n ∧ (Instr.makeSlice t (.int .i64 (n : Int)) (.int .i64 (n : Int))).run P w = .ok (.slice (some ⟨w.heap.size, 0, none⟩) n n) (w.alloc (.cells cur e)) := by
  have := run_make (P := P) w t e i z ht hi hz .i64 .i64 (n : Int) (n : Int) (by omega) (by omega) (by rw [← Int.natCast_mul]; exact Int.ofNat_le.2 hb) (by omega)
  rw [Int.toNat_natCast, hsize, Nat.mul_one] at this
  exact ⟨_, size_madeCells _ _, this⟩

theorem strInfo : ∃ i, Tryz.prog.info? 9 = some i ∧ i.zero = some (.string ⟨#[]⟩) ∧ i.size = 1 ∧ i.bytes = 16 := by
  have h : (Tryz.prog.info? 9).map (fun i => (i.zero, i.size, i.bytes)) = some (some (.string ⟨#[]⟩), 1, 16) := by kernel_rfl
  obtain ⟨i, h1, h2⟩ := Option.map_eq_some_iff.1 h
  simp only [Prod.mk.injEq] at h2
  exact ⟨i, h1, h2.1, h2.2.1, h2.2.2⟩

set_option maxHeartbeats 2000000 in
set_option maxRecDepth 100000 in
theorem list_any (ps : List Pc) (v : Value) (w : World) (hs : SlP w v ps) (h0 : 0 < ps.length) (hn : ps.length ≤ 256) (hj : (Lib.join (ps.map (·.1)) [44, 32]).length ≤ 140737488355328) :
    Calls Tryz.prog 46 #[v] w fun e w' => e = .returned (sv (Lib.join (ps.map (·.1)) [44, 32])) ∧ Below w.heap.size w w' := by
  have HS := Lib.hid hs
  obtain ⟨a, cap, rfl, -⟩ := hs
  obtain ⟨n, hnn⟩ : ∃ n, ps.length = n := ⟨_, rfl⟩
  rw [hnn] at HS h0 hn ⊢
  have HN := Lib.hid hnn
  have HL := Lib.hid hn
  have hJ := fun (W : World) (hc : ∀ (j : Nat) x, (ps.map fun p => str p.1)[j]? = some x → W.cell? ⟨w.heap.size, 0 + j, none⟩ = some (.string x)) (hlt : w.heap.size < W.heap.size) => S.strings_Join w.heap.size 0 n (ps.map fun p => str p.1) ⟨#[44, 32]⟩ W hc hlt (by rw [List.length_map, hnn]; omega) (by rw [List.length_map, hnn]; exact Nat.le_refl _)
    (by rw [List.map_map]; show (Lib.join (ps.map fun p => (str p.1).data.toList) [44, 32]).length ≤ _; simp only [str_data]; exact hj)
  simp only [List.map_map, List.length_map, hnn] at hJ
  have hJe : (ps.map ((fun x : ByteArray => x.data.toList) ∘ fun p => str p.1)) = ps.map (·.1) := List.map_congr_left (fun p _ => str_data p.1)
  rw [hJe] at hJ
  have HJ := Lib.hid hJ
  obtain ⟨i0, hi, hz0, hz1, hz2⟩ := strInfo
  obtain ⟨cur, hcs, hmk⟩ := run_make_n (P := Tryz.prog) w 23 9 i0 (.string ⟨#[]⟩) Tryz.underlying23 hi hz0 hz1 n (by rw [hz2]; omega) hn
  have HB0 := Lib.hid ((Below.refl w.heap.size w).alloc (Nat.le_refl _) (.cells cur 9))
  have HCS := Lib.hid hcs
  have HROW0 := Lib.hid (heap_alloc_at w (.cells cur 9))
  clear hnn hn hj hJ hJe hi hz0 hz1 hz2 hcs
  go_enter Tryz.func46, Tryz.ntmps46
  go_wp2_with fail
  clear hmk
  go_loopw [11] (fun k wr => ∃ (K : Nat) (cu : Array Value), k = .int .i64 (K : Int) ∧ K ≤ n ∧ Hid (wr.heap[w.heap.size]? = some (.cells cu 9 (0, 0))) ∧ Hid (cu.size = n ∧ cu.toList.take K = (ps.take K).map fun p => sv p.1) ∧ Hid (Below w.heap.size w wr)) (fun k _ => n - (intOf k).toNat)
  case atStart => exact ⟨0, cur, rfl, Nat.zero_le _, HROW0, Lib.hid ⟨HCS.out, by simp⟩, HB0⟩
  case round =>
    obtain ⟨K, cu, rfl, hK, HROW, HCU, HBE⟩ := hrel
    by_cases hlt : K < n
    · obtain ⟨⟨s, l⟩, hp⟩ : ∃ p, ps[K]? = some p := ⟨_, List.getElem?_eq_getElem (by rw [HN.out]; exact hlt)⟩
      obtain ⟨b, off, ea, h1, h2⟩ := (HS.out.below HBE.out).at hp
      subst ea
      obtain ⟨old, co, fo⟩ := row_cell HROW.out (show K < cu.size by rw [HCU.out.1]; exact hlt)
      have hltI : (K : Int) < (n : Int) := by omega
      have hwK : IntKind.i64.wrap ((K : Int) + 1) = (K : Int) + 1 := IntWalk.i64_in _ (by have := HL.out; omega)
      have HP := Lib.hid hp
      have hNlt := HBE.out.size
      have hrlt := (Array.getElem?_eq_some_iff.1 HROW.out).1
      unfold sv at h1
      clear hp
      obtain ⟨cu', hc1, hc2, hc3⟩ := row_fill HROW.out (show K < cu.size by rw [HCU.out.1]; exact hlt) HCU.out.2 (sv s)
      have HF := Lib.hid (show ((wr.setCell ⟨w.heap.size, K, none⟩ (sv s)).alloc (.cells #[sv s, .int .i64 l] 41)).heap[w.heap.size]? = some (.cells cu' 9 (0, 0)) from (alloc_keeps _ _ _ (by simp [World.setCell]; exact hrlt)).trans hc1)
      have HG := Lib.hid (show cu'.size = n ∧ cu'.toList.take (K + 1) = (ps.take (K + 1)).map fun p => sv p.1 by
        refine ⟨hc2.trans HCU.out.1, ?_⟩
        rw [hc3, List.take_add_one, HP.out, List.map_append]; rfl)
      have HBN := Lib.hid (show Below w.heap.size w ((wr.setCell ⟨w.heap.size, K, none⟩ (sv s)).alloc (.cells #[sv s, .int .i64 l] 41)) from (Below.setCell HBE.out (Nat.le_refl _) _).alloc (by simp [World.setCell]; omega) _)
      clear hc1 hc2 hc3
      go_wp2_with fail
      go_roundw
      case rel => exact ⟨K + 1, cu', by go_num, by omega, HF, HG, HBN⟩
      case measure => simp [intOf]; omega
    · have hltI : ¬ (K : Int) < (n : Int) := by omega
      obtain rfl : K = n := by omega
      have HJ2 := Lib.hid (HJ.out wr (fun j x hx => by
        rw [List.getElem?_map] at hx
        obtain ⟨p, hp, rfl⟩ := Option.map_eq_some_iff.1 hx
        rw [Nat.zero_add, cell_of_row _ _ _ _ _ _ HROW.out]
        have hjl : j < K := by rw [← HN.out]; exact (List.getElem?_eq_some_iff.1 hp).1
        have h3 : (cu.toList.take K)[j]? = some (sv p.1) := by rw [HCU.out.2, List.getElem?_map, List.getElem?_take_of_lt hjl, hp]; rfl
        rw [List.getElem?_take_of_lt hjl] at h3
        rw [← Array.getElem?_toList]; exact h3) (Array.getElem?_eq_some_iff.1 HROW.out).1)
      go_wp2_with (go_at_call 55; refine HJ2.out.mono ?_; rintro _ w1 ⟨rfl, hb1⟩; have HB1 := Lib.hid (HBE.out.trans (hb1.mono HBE.out.size)); clear hb1)
      go_ret
      exact ⟨rfl, HB1.out⟩
end Go.Proofs.YtbeidmkhpcnbbaaGreatDoor.I
