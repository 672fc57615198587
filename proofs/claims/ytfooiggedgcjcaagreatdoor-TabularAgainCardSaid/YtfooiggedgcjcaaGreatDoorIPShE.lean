/-
  Contracts of the program of layer 4, to show: rows of pieces; a list.
  Contracts of the program of layer 4, to show: what an instruction makes of its operands.
  Contracts of the program of layer 4, to show: what puts a piece that has no operands.
  Contracts of the program of layer 4, to show: what puts a piece with operands in it.
-/
import Derived.Test.YtfooiggedgcjcaaGreatDoorRPs
import Derived.Deep.AppendLies
import Derived.Deep.RegionLaw
namespace Go.Proofs.YtfooiggedgcjcaaGreatDoor.I
open Go Go.RowKit Go.Proofs.YtfooiggedgcjcaaGreatDoor.B Go.Proofs.YtfooiggedgcjcaaGreatDoor.K Go.Proofs.YtfooiggedgcjcaaGreatDoor.E
set_option linter.unusedVariables false

/-- A piece: its text, its level. -/
abbrev Pc := Bs × Int
def cellsP (ps : List Pc) : List Value := ps.flatMap fun p => [sv p.1, .int .i64 p.2]
theorem cellsP_cons (p : Pc) (r : List Pc) : cellsP (p :: r) = sv p.1 :: .int .i64 p.2 :: cellsP r := by simp [cellsP]
theorem cellsP_append (a b : List Pc) : cellsP (a ++ b) = cellsP a ++ cellsP b := by simp [cellsP]
theorem cellsP_length (ps : List Pc) : (cellsP ps).length = ps.length * 2 := by
  induction ps with
  | nil => rfl
  | cons p r ih => rw [cellsP_cons]; simp only [List.length_cons, ih]; omega
theorem cellsP_at (ps : List Pc) (j : Nat) (p : Pc) (h : ps[j]? = some p) : (cellsP ps)[j * 2]? = some (sv p.1) ∧ (cellsP ps)[j * 2 + 1]? = some (.int .i64 p.2) := by
  induction ps generalizing j with
  | nil => simp at h
  | cons x r ih =>
    rw [cellsP_cons]
    cases j with
    | zero => simp at h; subst h; exact ⟨rfl, rfl⟩
    | succ j =>
      rw [List.getElem?_cons_succ] at h
      obtain ⟨h1, h2⟩ := ih j h
      rw [show (j + 1) * 2 = j * 2 + 1 + 1 by omega]
      exact ⟨h1, h2⟩

/-- A slice that reads as pieces. -/
def SlP (w : World) (v : Value) (ps : List Pc) : Prop :=
  ∃ a cap, v = .slice a ps.length cap ∧ ∀ j p, ps[j]? = some p → ∃ b off, a = some ⟨b, off, none⟩ ∧ w.cell? ⟨b, off + j * 2, none⟩ = some (sv p.1) ∧ w.cell? ⟨b, off + j * 2 + 1, none⟩ = some (.int .i64 p.2)

theorem SlP.below {w w' : World} {v : Value} {ps : List Pc} (h : SlP w v ps) (hb : Below w.heap.size w w') : SlP w' v ps := by
  obtain ⟨a, cap, e, hc⟩ := h
  exact ⟨a, cap, e, fun j p hj => by obtain ⟨b, off, e1, h1, h2⟩ := hc j p hj; exact ⟨b, off, e1, cell_kept hb h1, cell_kept hb h2⟩⟩

theorem SlP.at {w : World} {a : Option Addr} {len cap : Nat} {ps : List Pc} {j : Nat} {p : Pc} (h : SlP w (.slice a len cap) ps) (hp : ps[j]? = some p) :
    ∃ b off, a = some ⟨b, off, none⟩ ∧ w.cell? ⟨b, off + j * 2, none⟩ = some (sv p.1) ∧ w.cell? ⟨b, off + j * 2 + 1, none⟩ = some (.int .i64 p.2) := by
  obtain ⟨a', cap', e, hc⟩ := h
  cases e
  exact hc j p hp

theorem run_make_n {P : Program} (w : World) (t e : TypeId) (i : TypeInfo) (z : Value) (ht : P.underlying t = some (.slice e)) (hi : P.info? e = some i) (hz : i.zero = some z) (hsize : i.size = 1) (n : Nat) (hb : i.bytes * n ≤ 281474976710656) (hn : n ≤ 256) :
    ∃ cur : Array Value, cur.size = n ∧ (Instr.makeSlice t (.int .i64 (n : Int)) (.int .i64 (n : Int))).run P w = .ok (.slice (some ⟨w.heap.size, 0, none⟩) n n) (w.alloc (.cells cur e)) := by
  have := run_make (P := P) w t e i z ht hi hz .i64 .i64 (n : Int) (n : Int) (by omega) (by omega) (by rw [← Int.natCast_mul]; exact Int.ofNat_le.2 hb) (by omega)
  rw [Int.toNat_natCast, hsize, Nat.mul_one] at this
  exact ⟨_, size_madeCells _ _, this⟩

theorem strInfo : ∃ i, Tryz.prog.info? 9 = some i ∧ i.zero = some (.string ⟨#[]⟩) ∧ i.size = 1 ∧ i.bytes = 16 := by
  have h : (Tryz.prog.info? 9).map (fun i => (i.zero, i.size, i.bytes)) = some (some (.string ⟨#[]⟩), 1, 16) := by kernel_rfl
  obtain ⟨i, h1, h2⟩ := Option.map_eq_some_iff.1 h
  simp only [Prod.mk.injEq] at h2
  exact ⟨i, h1, h2.1, h2.2.1, h2.2.2⟩

set_option maxHeartbeats 2000000 in
set_option maxRecDepth 100000 in
theorem list_any (ps : List Pc) (v : Value) (w : World) (hs : SlP w v ps) (h0 : 0 < ps.length) (hn : ps.length ≤ 256) (hj : (Lib.join (ps.map (·.1)) [44, 32]).length ≤ 140737488355328) :
    Calls Tryz.prog 174 #[v] w fun e w' => e = .returned (sv (Lib.join (ps.map (·.1)) [44, 32])) ∧ Below w.heap.size w w' := by
  have HS := Lib.hid hs
  obtain ⟨a, cap, rfl, -⟩ := hs
  obtain ⟨n, hnn⟩ : ∃ n, ps.length = n := ⟨_, rfl⟩
  rw [hnn] at HS h0 hn ⊢
  have HN := Lib.hid hnn
  have HL := Lib.hid hn
  have hJ := fun (W : World) (hc : ∀ (j : Nat) x, (ps.map fun p => str p.1)[j]? = some x → W.cell? ⟨w.heap.size, 0 + j, none⟩ = some (.string x)) (hlt : w.heap.size < W.heap.size) => S.strings_Join w.heap.size 0 n (ps.map fun p => str p.1) ⟨#[44, 32]⟩ W hc hlt (by rw [List.length_map, hnn]; omega) (by rw [List.length_map, hnn]; exact Nat.le_refl _)
    (by rw [List.map_map]; show (Lib.join (ps.map fun p => (str p.1).data.toList) [44, 32]).length ≤ _; simp only [str_data]; exact hj)
  simp only [List.map_map, List.length_map, hnn] at hJ
  have hJe : (ps.map ((fun x : ByteArray => x.data.toList) ∘ fun p => str p.1)) = ps.map (·.1) := List.map_congr_left (fun p _ => str_data p.1)
  rw [hJe] at hJ
  have HJ := Lib.hid hJ
  obtain ⟨i0, hi, hz0, hz1, hz2⟩ := strInfo
  obtain ⟨cur, hcs, hmk⟩ := run_make_n (P := Tryz.prog) w 22 9 i0 (.string ⟨#[]⟩) Tryz.underlying22 hi hz0 hz1 n (by rw [hz2]; omega) hn
  have HB0 := Lib.hid ((Below.refl w.heap.size w).alloc (Nat.le_refl _) (.cells cur 9))
  have HCS := Lib.hid hcs
  have HROW0 := Lib.hid (heap_alloc_at w (.cells cur 9))
  clear hnn hn hj hJ hJe hi hz0 hz1 hz2 hcs
  go_enter Tryz.func174, Tryz.ntmps174
  go_wp2_with fail
  clear hmk
  go_loopw [11] (fun k wr => ∃ (K : Nat) (cu : Array Value), k = .int .i64 (K : Int) ∧ K ≤ n ∧ Hid (wr.heap[w.heap.size]? = some (.cells cu 9 (0, 0))) ∧ Hid (cu.size = n ∧ cu.toList.take K = (ps.take K).map fun p => sv p.1) ∧ Hid (Below w.heap.size w wr)) (fun k _ => n - (intOf k).toNat)
  case atStart => exact ⟨0, cur, rfl, Nat.zero_le _, HROW0, Lib.hid ⟨HCS.out, by simp⟩, HB0⟩
  case round =>
    obtain ⟨K, cu, rfl, hK, HROW, HCU, HBE⟩ := hrel
    by_cases hlt : K < n
    · obtain ⟨⟨s, l⟩, hp⟩ : ∃ p, ps[K]? = some p := ⟨_, List.getElem?_eq_getElem (by rw [HN.out]; exact hlt)⟩
      obtain ⟨b, off, ea, h1, h2⟩ := (HS.out.below HBE.out).at hp
      subst ea
      obtain ⟨old, co, fo⟩ := row_cell HROW.out (show K < cu.size by rw [HCU.out.1]; exact hlt)
      have hltI : (K : Int) < (n : Int) := by omega
      have hwK : IntKind.i64.wrap ((K : Int) + 1) = (K : Int) + 1 := IntWalk.i64_in _ (by have := HL.out; omega)
      have HP := Lib.hid hp
      have hNlt := HBE.out.size
      have hrlt := (Array.getElem?_eq_some_iff.1 HROW.out).1
      unfold sv at h1
      clear hp
      obtain ⟨cu', hc1, hc2, hc3⟩ := row_fill HROW.out (show K < cu.size by rw [HCU.out.1]; exact hlt) HCU.out.2 (sv s)
      have HF := Lib.hid (show ((wr.setCell ⟨w.heap.size, K, none⟩ (sv s)).alloc (.cells #[sv s, .int .i64 l] 166)).heap[w.heap.size]? = some (.cells cu' 9 (0, 0)) from (alloc_keeps _ _ _ (by simp [World.setCell]; exact hrlt)).trans hc1)
      have HG := Lib.hid (show cu'.size = n ∧ cu'.toList.take (K + 1) = (ps.take (K + 1)).map fun p => sv p.1 by
        refine ⟨hc2.trans HCU.out.1, ?_⟩
        rw [hc3, List.take_add_one, HP.out, List.map_append]; rfl)
      have HBN := Lib.hid (show Below w.heap.size w ((wr.setCell ⟨w.heap.size, K, none⟩ (sv s)).alloc (.cells #[sv s, .int .i64 l] 166)) from (Below.setCell HBE.out (Nat.le_refl _) _).alloc (by simp [World.setCell]; omega) _)
      clear hc1 hc2 hc3
      go_wp2_with fail
      go_roundw
      case rel => exact ⟨K + 1, cu', by go_num, by omega, HF, HG, HBN⟩
      case measure => simp [intOf]; omega
    · have hltI : ¬ (K : Int) < (n : Int) := by omega
      obtain rfl : K = n := by omega
      have HJ2 := Lib.hid (HJ.out wr (fun j x hx => by
        rw [List.getElem?_map] at hx
        obtain ⟨p, hp, rfl⟩ := Option.map_eq_some_iff.1 hx
        rw [Nat.zero_add, cell_of_row _ _ _ _ _ _ HROW.out]
        have hjl : j < K := by rw [← HN.out]; exact (List.getElem?_eq_some_iff.1 hp).1
        have h3 : (cu.toList.take K)[j]? = some (sv p.1) := by rw [HCU.out.2, List.getElem?_map, List.getElem?_take_of_lt hjl, hp]; rfl
        rw [List.getElem?_take_of_lt hjl] at h3
        rw [← Array.getElem?_toList]; exact h3) (Array.getElem?_eq_some_iff.1 HROW.out).1)
      go_wp2_with (go_at_call 23; refine HJ2.out.mono ?_; rintro _ w1 ⟨rfl, hb1⟩; have HB1 := Lib.hid (HBE.out.trans (hb1.mono HBE.out.size)); clear hb1)
      go_ret
      exact ⟨rfl, HB1.out⟩
end Go.Proofs.YtfooiggedgcjcaaGreatDoor.I

namespace Go.Proofs.YtfooiggedgcjcaaGreatDoor.I
open Go Go.RowKit Go.Proofs.YtfooiggedgcjcaaGreatDoor.B Go.Proofs.YtfooiggedgcjcaaGreatDoor.K Go.Proofs.YtfooiggedgcjcaaGreatDoor.E
set_option linter.unusedVariables false

theorem sum_is (a b : Bs) (h : a.length + b.length ≤ 281474976710656) (c : Bs) (hc : a ++ b = c) (x y : ByteArray) (hx : x = str a) (hy : y = str b) : ∀ W, (Op.stringOp .add x y).run Tryz.prog W = .ok (.string (str c)) W := by
  intro W
  subst hx hy hc
  rw [run_string_add_sum W _ _ (by rw [str_size, str_size]; omega), ← str_append]

set_option maxHeartbeats 2000000 in
set_option maxRecDepth 100000 in
theorem together_call (o : Nat) (ho : o = 9 ∨ o = 10 ∨ o = 16) (ps : List Pc) (v : Value) (w : World) (hg : Glob w) (hs : SlP w v ps) (h0 : 0 < ps.length) (hn : ps.length ≤ 256) (hj : (Lib.join (ps.map (·.1)) [44, 32]).length ≤ 140737488355328) :
    Calls Tryz.prog 154 #[.int .i64 (o : Int), v] w fun e w' => e = .returned (sv (sg o ++ [40] ++ Lib.join (ps.map (·.1)) [44, 32] ++ [41])) ∧ Below w.heap.size w w' := by
  have ho17 : o < 17 := by omega
  have hco : calledOf (sg o) = (o : Int) := by rcases ho with rfl | rfl | rfl <;> decide
  have hon : ((o : Int) == 0) = false := by rw [beq_eq_false_iff_ne]; omega
  have hsl : (sg o).length ≤ 3 := signs_le o _ (sg_get o ho17)
  have co := hg.cell o (sg o) (sg_get o ho17)
  have hoI : (o : Int) < 17 := by omega
  have hCL := called_any (sg o) w hg
  rw [hco] at hCL
  have HP := Lib.hid (fun (W : World) (h : (W.cell? ⟨1, o, none⟩ = some (sv (sg o)) ∧ Below w.heap.size w W)) => (show Calls Tryz.prog 174 #[v] W fun e w' => e = .returned (.string (str (Lib.join (ps.map (·.1)) [44, 32]))) ∧ (w'.cell? ⟨1, o, none⟩ = some (sv (sg o)) ∧ Below w.heap.size w w') from
    (list_any ps v W (hs.below h.2) h0 hn hj).mono fun e w' ⟨h1, h2⟩ => ⟨h1, cell_kept h2 h.1, h.2.trans (h2.mono h.2.size)⟩))
  obtain ⟨a, cap, rfl, -⟩ := hs
  obtain ⟨n, hnn⟩ : ∃ n, ps.length = n := ⟨_, rfl⟩
  rw [hnn] at HP ⊢
  obtain ⟨J, hJ⟩ : ∃ J, Lib.join (ps.map (·.1)) [44, 32] = J := ⟨_, rfl⟩
  rw [hJ] at HP hj ⊢
  obtain ⟨S, hS⟩ : ∃ S, sg o = S := ⟨_, rfl⟩
  rw [hS] at HP co hCL hsl ⊢
  have HCL := Lib.hid hCL
  obtain ⟨U1, hU1⟩ : ∃ U, S ++ ([40] : Bs) = U := ⟨_, rfl⟩
  obtain ⟨U2, hU2⟩ : ∃ U, U1 ++ J = U := ⟨_, rfl⟩
  obtain ⟨U3, hU3⟩ : ∃ U, U2 ++ ([41] : Bs) = U := ⟨_, rfl⟩
  have z1 : U1.length = S.length + 1 := by rw [← hU1]; simp
  have z2 : U2.length = U1.length + J.length := by rw [← hU2]; simp
  have e1 := sum_is S [40] (by simp only [List.length_cons, List.length_nil]; omega) U1 hU1 (str S) ⟨#[40]⟩ rfl rfl
  have e2 := sum_is U1 J (by omega) U2 hU2 (str U1) (str J) rfl rfl
  have e3 := sum_is U2 [41] (by simp only [List.length_cons, List.length_nil]; omega) U3 hU3 (str U2) ⟨#[41]⟩ rfl rfl
  have htx : S ++ [40] ++ J ++ [41] = U3 := by rw [hU1, hU2, hU3]
  rw [htx]
  unfold sv at HP co HCL ⊢
  have hS0 : (w.drew.cell? ⟨1, o, none⟩ = some (.string (str S)) ∧ Below w.heap.size w w.drew) := ⟨co, (Below.refl _ _).drew⟩
  clear hU1 hU2 hU3 z1 z2 htx hS hJ hnn hco hCL ho hg hj hn h0 hsl ho17
  go_enter Tryz.func154, Tryz.ntmps154
  go_upto_region 2 with (go_at_call 110; refine HCL.out.mono ?_; rintro _ w1 ⟨rfl, rfl⟩)
  go_region_held3 (fun W => (W.cell? ⟨1, o, none⟩ = some (.string (str S)) ∧ Below w.heap.size w W)) (first | exact hS0 | assumption) (first | (go_at_call 174; ((with_reducible refine (HP.out _ ?_).mono ?_); (first | exact hS0 | assumption)); rintro _ w3 ⟨rfl, hS3⟩))
  all_goals
    go_wp2_with fail
    go_ret
    exact ⟨rfl, hS3.2⟩
set_option maxHeartbeats 2000000 in
set_option maxRecDepth 100000 in
theorem together_paren (p : Pc) (v : Value) (w : World) (hg : Glob w) (hs : SlP w v [p]) (hl : p.1.length ≤ 140737488355328) (hz : p.2 = 0) :
    Calls Tryz.prog 154 #[.int .i64 ((4 : Nat) : Int), v] w fun e w' => e = .returned (sv (sg 4 ++ brk p.1)) ∧ Below w.heap.size w w' := by
  have ho17 : 4 < 17 := by omega
  have hco : calledOf (sg 4) = 0 := by decide
  have hsl : (sg 4).length ≤ 3 := signs_le 4 _ (sg_get 4 ho17)
  have co := hg.cell 4 (sg 4) (sg_get 4 ho17)
  have hoI : ((4 : Nat) : Int) < 17 := by omega
  have hCL := called_any (sg 4) w hg
  rw [hco] at hCL
  obtain ⟨t, l⟩ := p
  obtain ⟨a, cap, rfl, hcell⟩ := hs
  obtain ⟨b, off, hab, k0, k1⟩ := hcell 0 (t, l) rfl
  subst hab
  rw [show off + 0 * 2 = off by omega] at k0 k1
  simp only at k0 k1 hl
  obtain rfl : l = 0 := hz
  have ho4 : (((4 : Nat) : Int) == 4) = true := by decide
  have hz0 : ((0 : Int) == 0) = true := by decide
  have hrl : (brk t).length ≤ t.length + 2 := (by unfold brk; simp only [List.length_append, List.length_cons, List.length_nil]; omega)
  have HP := Lib.hid (fun (W : World) (h : (W.cell? ⟨1, 4, none⟩ = some (sv (sg 4)) ∧ W.cell? ⟨b, off, none⟩ = some (sv t) ∧ W.cell? ⟨b, off + 1, none⟩ = some (.int .i64 0) ∧ Below w.heap.size w W)) => (show Calls Tryz.prog 175 #[.agg #[sv t, .int .i64 0]] W fun e w' => e = .returned (.string (str (brk t))) ∧ (w'.cell? ⟨1, 4, none⟩ = some (sv (sg 4)) ∧ w'.cell? ⟨b, off, none⟩ = some (sv t) ∧ w'.cell? ⟨b, off + 1, none⟩ = some (.int .i64 0) ∧ Below w.heap.size w w') from
    (bracketed_any t 0 W (by omega)).mono fun e w' ⟨h1, h2⟩ => ⟨h1, cell_kept h2 h.1, cell_kept h2 h.2.1, cell_kept h2 h.2.2.1, h.2.2.2.trans (h2.mono h.2.2.2.size)⟩))
  obtain ⟨J, hJ⟩ : ∃ J, brk t = J := ⟨_, rfl⟩
  rw [show brk (t, (0 : Int)).1 = J from hJ]
  rw [hJ] at HP hrl
  rw [show [(t, (0 : Int))].length = 1 from rfl]
  obtain ⟨S, hS⟩ : ∃ S, sg 4 = S := ⟨_, rfl⟩
  rw [hS] at HP co hCL hsl ⊢
  have HCL := Lib.hid hCL
  obtain ⟨U1, hU1⟩ : ∃ U, S ++ J = U := ⟨_, rfl⟩
  rw [hU1]
  have e1 := sum_is S J (by omega) U1 hU1 (str S) (str J) rfl rfl
  unfold sv at HP co HCL k0 ⊢
  have hS0 : (w.drew.cell? ⟨1, 4, none⟩ = some (.string (str S)) ∧ w.drew.cell? ⟨b, off, none⟩ = some (.string (str t)) ∧ w.drew.cell? ⟨b, off + 1, none⟩ = some (.int .i64 0) ∧ Below w.heap.size w w.drew) := ⟨co, k0, k1, (Below.refl _ _).drew⟩
  have h2 : (2 : Int) = IntKind.i64.wrap 2 := by decide
  clear hU1 hS hJ hco hCL hg hl hsl ho17 hrl hcell h2
  go_enter Tryz.func154, Tryz.ntmps154
  go_upto_region 4 with (go_at_call 110; refine HCL.out.mono ?_; rintro _ w1 ⟨rfl, rfl⟩)
  go_region_held3 (fun W => (W.cell? ⟨1, 4, none⟩ = some (.string (str S)) ∧ W.cell? ⟨b, off, none⟩ = some (.string (str t)) ∧ W.cell? ⟨b, off + 1, none⟩ = some (.int .i64 0) ∧ Below w.heap.size w W)) (first | exact hS0 | assumption) (first | (go_at_call 175; ((with_reducible refine (HP.out _ ?_).mono ?_); (first | exact hS0 | assumption)); rintro _ w3 ⟨rfl, hS3⟩))
  all_goals
    go_wp2_with fail
    go_ret
    exact ⟨rfl, hS3.2.2.2⟩

set_option maxHeartbeats 2000000 in
set_option maxRecDepth 100000 in
theorem together_un (o : Nat) (ho : o = 4 ∨ o = 5) (p : Pc) (v : Value) (w : World) (hg : Glob w) (hs : SlP w v [p]) (hl : p.1.length ≤ 140737488355328) (hz : o = 4 → p.2 ≠ 0) :
    Calls Tryz.prog 154 #[.int .i64 (o : Int), v] w fun e w' => e = .returned (sv (sg o ++ upto p 2)) ∧ Below w.heap.size w w' := by
  have ho17 : o < 17 := by omega
  have hco : calledOf (sg o) = 0 := by rcases ho with rfl | rfl <;> decide
  have hsl : (sg o).length ≤ 3 := signs_le o _ (sg_get o ho17)
  have co := hg.cell o (sg o) (sg_get o ho17)
  have hoI : (o : Int) < 17 := by omega
  have hCL := called_any (sg o) w hg
  rw [hco] at hCL
  obtain ⟨t, l⟩ := p
  obtain ⟨a, cap, rfl, hcell⟩ := hs
  obtain ⟨b, off, hab, k0, k1⟩ := hcell 0 (t, l) rfl
  subst hab
  rw [show off + 0 * 2 = off by omega] at k0 k1
  simp only at k0 k1 hl
  have ho4 : (((o : Int) == 4) = true ∧ (l == 0) = false) ∨ ((o : Int) == 4) = false := by
    rcases ho with rfl | rfl
    · left; exact ⟨by decide, by rw [beq_eq_false_iff_ne]; exact hz rfl⟩
    · right; decide
  have hrl : (upto (t, l) 2).length ≤ t.length + 2 := (by unfold upto brk; split <;> simp only [List.length_append, List.length_cons, List.length_nil] <;> omega)
  have HP := Lib.hid (fun (W : World) (h : (W.cell? ⟨1, o, none⟩ = some (sv (sg o)) ∧ W.cell? ⟨b, off, none⟩ = some (sv t) ∧ W.cell? ⟨b, off + 1, none⟩ = some (.int .i64 l) ∧ Below w.heap.size w W)) => (show Calls Tryz.prog 176 #[.agg #[sv t, .int .i64 l], .int .i64 2] W fun e w' => e = .returned (.string (str (upto (t, l) 2))) ∧ (w'.cell? ⟨1, o, none⟩ = some (sv (sg o)) ∧ w'.cell? ⟨b, off, none⟩ = some (sv t) ∧ w'.cell? ⟨b, off + 1, none⟩ = some (.int .i64 l) ∧ Below w.heap.size w w') from
    (upTo_any t l 2 W (by omega)).mono fun e w' ⟨h1, h2⟩ => ⟨h1, cell_kept h2 h.1, cell_kept h2 h.2.1, cell_kept h2 h.2.2.1, h.2.2.2.trans (h2.mono h.2.2.2.size)⟩))
  obtain ⟨J, hJ⟩ : ∃ J, upto (t, l) 2 = J := ⟨_, rfl⟩
  rw [show upto (t, l) 2 = J from hJ]
  rw [hJ] at HP hrl
  rw [show [(t, l)].length = 1 from rfl]
  obtain ⟨S, hS⟩ : ∃ S, sg o = S := ⟨_, rfl⟩
  rw [hS] at HP co hCL hsl ⊢
  have HCL := Lib.hid hCL
  obtain ⟨U1, hU1⟩ : ∃ U, S ++ J = U := ⟨_, rfl⟩
  rw [hU1]
  have e1 := sum_is S J (by omega) U1 hU1 (str S) (str J) rfl rfl
  unfold sv at HP co HCL k0 ⊢
  have hS0 : (w.drew.cell? ⟨1, o, none⟩ = some (.string (str S)) ∧ w.drew.cell? ⟨b, off, none⟩ = some (.string (str t)) ∧ w.drew.cell? ⟨b, off + 1, none⟩ = some (.int .i64 l) ∧ Below w.heap.size w w.drew) := ⟨co, k0, k1, (Below.refl _ _).drew⟩
  have h2 : (2 : Int) = IntKind.i64.wrap 2 := by decide
  clear hU1 hS hJ hco hCL ho hg hl hsl ho17 hrl hcell h2
  rcases ho4 with ⟨ho4, hz0⟩ | ho4
  all_goals
   go_enter Tryz.func154, Tryz.ntmps154
   go_upto_region 6 with (go_at_call 110; refine HCL.out.mono ?_; rintro _ w1 ⟨rfl, rfl⟩)
   go_region_held3 (fun W => (W.cell? ⟨1, o, none⟩ = some (.string (str S)) ∧ W.cell? ⟨b, off, none⟩ = some (.string (str t)) ∧ W.cell? ⟨b, off + 1, none⟩ = some (.int .i64 l) ∧ Below w.heap.size w W)) (first | exact hS0 | assumption) (first | (go_at_call 176; ((with_reducible refine (HP.out _ ?_).mono ?_); (first | exact hS0 | assumption)); rintro _ w3 ⟨rfl, hS3⟩))
   all_goals
     go_wp2_with fail
     go_ret
     exact ⟨rfl, hS3.2.2.2⟩

/-- The level up to which the first operand goes. -/
def fst1 (o : Int) : Int := if lvl o = 5 then 4 else lvl o

set_option maxHeartbeats 4000000 in
set_option maxRecDepth 100000 in
theorem together_bin (o : Nat) (ho : o = 6 ∨ o = 7 ∨ o = 8 ∨ o = 11 ∨ o = 12 ∨ o = 13 ∨ o = 14 ∨ o = 15) (p q : Pc) (v : Value) (w : World) (hg : Glob w) (hs : SlP w v [p, q]) (hl : p.1.length ≤ 70368744177664) (hl2 : q.1.length ≤ 70368744177664) :
    Calls Tryz.prog 154 #[.int .i64 (o : Int), v] w fun e w' => e = .returned (sv (upto p (fst1 o) ++ [32] ++ sg o ++ [32] ++ upto q (lvl o - 1))) ∧ Below w.heap.size w w' := by
  have ho17 : o < 17 := by omega
  have hco : calledOf (sg o) = 0 := by rcases ho with rfl | rfl | rfl | rfl | rfl | rfl | rfl | rfl <;> decide
  have hsl : (sg o).length ≤ 3 := signs_le o _ (sg_get o ho17)
  have co := hg.cell o (sg o) (sg_get o ho17)
  have hoI : (o : Int) < 17 := by omega
  have ho4 : ((o : Int) == 4) = false := by rw [beq_eq_false_iff_ne]; omega
  have hCL := called_any (sg o) w hg
  rw [hco] at hCL
  have hLV := level_any (o : Int) (by omega) (by omega) w
  have hLr : 3 ≤ lvl o ∧ lvl o ≤ 7 := by rcases ho with rfl | rfl | rfl | rfl | rfl | rfl | rfl | rfl <;> decide
  obtain ⟨t, l⟩ := p
  obtain ⟨u, k⟩ := q
  obtain ⟨a, cap, rfl, hcell⟩ := hs
  obtain ⟨b, off, hab, k0, k1⟩ := hcell 0 (t, l) rfl
  obtain ⟨b', off', hab', k2, k3⟩ := hcell 1 (u, k) rfl
  subst hab
  cases hab'
  rw [show off + 0 * 2 = off by omega] at k0 k1
  rw [show off + 1 * 2 = off + 2 by omega] at k2
  rw [show off + 1 * 2 + 1 = off + 3 by omega] at k3
  simp only at k0 k1 k2 k3 hl hl2
  unfold fst1
  obtain ⟨L, hL⟩ : ∃ L, lvl (o : Int) = L := ⟨_, rfl⟩
  rw [hL] at hLV hLr ⊢
  obtain ⟨M, hM⟩ : ∃ M, (if L = 5 then 4 else L) = M := ⟨_, rfl⟩
  rw [hM]
  obtain ⟨L1, hL1⟩ : ∃ L1, L - 1 = L1 := ⟨_, rfl⟩
  have hw1 : IntKind.i64.wrap (L - 1) = L1 := by rw [hL1]; exact IntWalk.i64_in _ (by omega)
  rw [hL1]
  have HP1 := Lib.hid (fun (W : World) (h : (W.cell? ⟨1, o, none⟩ = some (sv (sg o)) ∧ W.cell? ⟨b, off, none⟩ = some (sv t) ∧ W.cell? ⟨b, off + 1, none⟩ = some (.int .i64 l) ∧ W.cell? ⟨b, off + 2, none⟩ = some (sv u) ∧ W.cell? ⟨b, off + 3, none⟩ = some (.int .i64 k) ∧ Below w.heap.size w W)) => (show Calls Tryz.prog 176 #[.agg #[sv t, .int .i64 l], .int .i64 M] W fun e w' => e = .returned (.string (str (upto (t, l) M))) ∧ (w'.cell? ⟨1, o, none⟩ = some (sv (sg o)) ∧ w'.cell? ⟨b, off, none⟩ = some (sv t) ∧ w'.cell? ⟨b, off + 1, none⟩ = some (.int .i64 l) ∧ w'.cell? ⟨b, off + 2, none⟩ = some (sv u) ∧ w'.cell? ⟨b, off + 3, none⟩ = some (.int .i64 k) ∧ Below w.heap.size w w') from (upTo_any t l M W (by omega)).mono fun e w' ⟨h1, h2⟩ => ⟨h1, cell_kept h2 h.1, cell_kept h2 h.2.1, cell_kept h2 h.2.2.1, cell_kept h2 h.2.2.2.1, cell_kept h2 h.2.2.2.2.1, h.2.2.2.2.2.trans (h2.mono h.2.2.2.2.2.size)⟩))
  have HP2 := Lib.hid (fun (W : World) (h : (W.cell? ⟨1, o, none⟩ = some (sv (sg o)) ∧ W.cell? ⟨b, off, none⟩ = some (sv t) ∧ W.cell? ⟨b, off + 1, none⟩ = some (.int .i64 l) ∧ W.cell? ⟨b, off + 2, none⟩ = some (sv u) ∧ W.cell? ⟨b, off + 3, none⟩ = some (.int .i64 k) ∧ Below w.heap.size w W)) => (show Calls Tryz.prog 176 #[.agg #[sv u, .int .i64 k], .int .i64 L1] W fun e w' => e = .returned (.string (str (upto (u, k) L1))) ∧ (w'.cell? ⟨1, o, none⟩ = some (sv (sg o)) ∧ w'.cell? ⟨b, off, none⟩ = some (sv t) ∧ w'.cell? ⟨b, off + 1, none⟩ = some (.int .i64 l) ∧ w'.cell? ⟨b, off + 2, none⟩ = some (sv u) ∧ w'.cell? ⟨b, off + 3, none⟩ = some (.int .i64 k) ∧ Below w.heap.size w w') from (upTo_any u k L1 W (by omega)).mono fun e w' ⟨h1, h2⟩ => ⟨h1, cell_kept h2 h.1, cell_kept h2 h.2.1, cell_kept h2 h.2.2.1, cell_kept h2 h.2.2.2.1, cell_kept h2 h.2.2.2.2.1, h.2.2.2.2.2.trans (h2.mono h.2.2.2.2.2.size)⟩))
  have hr1 : (upto (t, l) M).length ≤ t.length + 2 := by unfold upto brk; split <;> simp only [List.length_append, List.length_cons, List.length_nil] <;> omega
  have hr2 : (upto (u, k) L1).length ≤ u.length + 2 := by unfold upto brk; split <;> simp only [List.length_append, List.length_cons, List.length_nil] <;> omega
  obtain ⟨T1, hT1⟩ : ∃ T, upto (t, l) M = T := ⟨_, rfl⟩
  obtain ⟨T2, hT2⟩ : ∃ T, upto (u, k) L1 = T := ⟨_, rfl⟩
  rw [hT1] at HP1 hr1 ⊢
  rw [hT2] at HP2 hr2 ⊢
  rw [show [(t, l), (u, k)].length = 2 from rfl]
  obtain ⟨S, hS⟩ : ∃ S, sg o = S := ⟨_, rfl⟩
  rw [hS] at HP1 HP2 co hCL hsl ⊢
  have HCL := Lib.hid hCL
  have HLV := Lib.hid hLV
  obtain ⟨U1, hU1⟩ : ∃ U, T1 ++ ([32] : Bs) = U := ⟨_, rfl⟩
  obtain ⟨U2, hU2⟩ : ∃ U, U1 ++ S = U := ⟨_, rfl⟩
  obtain ⟨U3, hU3⟩ : ∃ U, U2 ++ ([32] : Bs) = U := ⟨_, rfl⟩
  obtain ⟨U4, hU4⟩ : ∃ U, U3 ++ T2 = U := ⟨_, rfl⟩
  have z1 : U1.length = T1.length + 1 := by rw [← hU1]; simp
  have z2 : U2.length = U1.length + S.length := by rw [← hU2]; simp
  have z3 : U3.length = U2.length + 1 := by rw [← hU3]; simp
  rw [hU1, hU2, hU3, hU4]
  have e1 := sum_is T1 [32] (by simp only [List.length_cons, List.length_nil]; omega) U1 hU1 (str T1) ⟨#[32]⟩ rfl rfl
  have e2 := sum_is U1 S (by omega) U2 hU2 (str U1) (str S) rfl rfl
  have e3 := sum_is U2 [32] (by simp only [List.length_cons, List.length_nil]; omega) U3 hU3 (str U2) ⟨#[32]⟩ rfl rfl
  have e4 := sum_is U3 T2 (by omega) U4 hU4 (str U3) (str T2) rfl rfl
  unfold sv at HP1 HP2 co HCL k0 k2 ⊢
  have hS0 : (w.drew.cell? ⟨1, o, none⟩ = some (.string (str S)) ∧ w.drew.cell? ⟨b, off, none⟩ = some (.string (str t)) ∧ w.drew.cell? ⟨b, off + 1, none⟩ = some (.int .i64 l) ∧ w.drew.cell? ⟨b, off + 2, none⟩ = some (.string (str u)) ∧ w.drew.cell? ⟨b, off + 3, none⟩ = some (.int .i64 k) ∧ Below w.heap.size w w.drew) := ⟨co, k0, k1, k2, k3, (Below.refl _ _).drew⟩
  have hM5 : (L == 5) = true ∧ L1 = M ∨ (L == 5) = false ∧ L = M := by
    by_cases h5 : L = 5
    · left; rw [if_pos h5] at hM; exact ⟨by simp [h5], by omega⟩
    · right; rw [if_neg h5] at hM; exact ⟨by simp [h5], hM⟩
  clear hU1 hU2 hU3 hU4 hS hT1 hT2 hco hCL hLV ho hg hl hl2 hsl ho17 hr1 hr2 hcell z1 z2 z3 hLr hL hL1 hM
  rcases hM5 with ⟨h5, rfl⟩ | ⟨h5, rfl⟩
  all_goals
   go_enter Tryz.func154, Tryz.ntmps154
   go_upto_region 11 with (first | (go_at_call 110; refine HCL.out.mono ?_; rintro _ w1 ⟨rfl, rfl⟩) | (go_at_call 155; refine HLV.out.mono ?_; rintro _ w1 ⟨rfl, rfl⟩))
   go_region_held3 (fun W => (W.cell? ⟨1, o, none⟩ = some (.string (str S)) ∧ W.cell? ⟨b, off, none⟩ = some (.string (str t)) ∧ W.cell? ⟨b, off + 1, none⟩ = some (.int .i64 l) ∧ W.cell? ⟨b, off + 2, none⟩ = some (.string (str u)) ∧ W.cell? ⟨b, off + 3, none⟩ = some (.int .i64 k) ∧ Below w.heap.size w W)) (first | exact hS0 | assumption) (first | (go_at_call 176; ((with_reducible refine (HP1.out _ ?_).mono ?_); (first | exact hS0 | assumption)); rintro _ w3 ⟨rfl, hS3⟩) | (go_at_call 176; ((with_reducible refine (HP2.out _ ?_).mono ?_); (first | exact hS0 | assumption)); rintro _ w4 ⟨rfl, hS4⟩))
   all_goals
     go_wp2_with fail
     go_ret
     exact ⟨rfl, by first | exact hS4.2.2.2.2.2 | exact hS3.2.2.2.2.2⟩

end Go.Proofs.YtfooiggedgcjcaaGreatDoor.I

namespace Go.Proofs.YtfooiggedgcjcaaGreatDoor.I
open Go Go.RowKit Go.Proofs.YtfooiggedgcjcaaGreatDoor.B Go.Proofs.YtfooiggedgcjcaaGreatDoor.K Go.Proofs.YtfooiggedgcjcaaGreatDoor.E
set_option linter.unusedVariables false

/-- A row of pieces that the call owns. -/
def RowP (w : World) (base : Nat) (v : Value) (ps : List Pc) : Prop := w.ownsRow base 166 2 v ps.length (cellsP ps)

theorem RowP.below {w w' : World} {base : Nat} {v : Value} {ps : List Pc} (h : RowP w base v ps) (hb : Below w.heap.size w w') : RowP w' base v ps := own_kept h hb

theorem pieceInfo : ∃ i, Tryz.prog.info? 166 = some i ∧ i.zero = some (.agg #[.string ⟨#[]⟩, .int .i64 0]) ∧ i.size = 2 ∧ i.bytes = 24 := by
  have h : (Tryz.prog.info? 166).map (fun i => (i.zero, i.size, i.bytes)) = some (some (.agg #[.string ⟨#[]⟩, .int .i64 0]), 2, 24) := by kernel_rfl
  obtain ⟨i, h1, h2⟩ := Option.map_eq_some_iff.1 h
  simp only [Prod.mk.injEq] at h2
  exact ⟨i, h1, h2.1, h2.2.1, h2.2.2⟩

theorem piece_new (W : World) (s : ByteArray) (l : Int) : ∀ j u, [Value.string s, .int .i64 l][j]? = some u → (W.alloc (.cells #[.string s, .int .i64 l] 166)).cell? ((⟨W.heap.size, 0, none⟩ : Addr).add j) = some u :=
  World.news_of_block (cs := #[.string s, .int .i64 l]) (heap_alloc_at W _)
theorem piece_cell (s : ByteArray) (l : Int) : ∀ u ∈ [Value.string s, .int .i64 l], u.oneCell' = true := by
  intro u hu; simp at hu; rcases hu with rfl | rfl <;> rfl

/-- Behind the append of a piece. -/
theorem row_push {w w1 w3 : World} {base g cap : Nat} {v : Value} {ps : List Pc} {s : Bs} {l : Int} {X : Obj} (hb : Below base w w1) (hs : base ≤ w1.heap.size) (hr : RowP w1 base v ps)
    (ho : w3.ownsRow base 166 2 (.slice (some ⟨g, 0, none⟩) (ps.length + 1) cap) (ps.length + 1) (cellsP ps ++ [.string (str s), .int .i64 l])) (hg : (w1.alloc X).grownBy w3 v.ownBlock) :
    RowP w3 base (.slice (some ⟨g, 0, none⟩) (ps.length + 1) cap) (ps ++ [(s, l)]) ∧ Below base w w3 := by
  refine ⟨?_, (hb.alloc hs X).grown hg (by simp; omega) (fun k hk => owns_block hr k hk)⟩
  unfold RowP
  rw [cellsP_append, List.length_append]
  exact ho

section
variable {w : World} {base bx : Nat} {v v1 : Value} {ps : List Pc}

set_option maxHeartbeats 2000000 in
set_option maxRecDepth 100000 in
theorem put_con (x : Int) (hx0 : -9223372036854775808 ≤ x) (hx1 : x ≤ 9223372036854775807) (hg : Glob w) (hr : RowP w base v ps) (hbs : base ≤ w.heap.size) (hn : ps.length ≤ 1000) :
    Calls Tryz.prog 151 #[v, .agg #[.int .i64 1, .int .i64 x], .pointer (some ⟨bx, 0, none⟩)] w fun e w' => (∃ v', e = .returned v' ∧ RowP w' base v' (ps ++ [(itoa x, if x < 0 then 2 else 0)])) ∧ Below base w w' := by
  obtain ⟨i0, hi, hz0, hz1, hz2⟩ := pieceInfo
  have hal := (Below.refl w.heap.size w).alloc (Nat.le_refl _) (.cells #[.int .i64 1, .int .i64 x] 83)
  have HN := Lib.hid (number_any x hx0 hx1 _ (hg.below hal))
  obtain ⟨l, hl⟩ : ∃ l : Int, (if x < 0 then 2 else 0) = l := ⟨_, rfl⟩
  obtain ⟨s, hs⟩ : ∃ s, itoa x = s := ⟨_, rfl⟩
  rw [hl, hs] at HN ⊢
  have HAL := Lib.hid (hal.mono hbs)
  have HR := Lib.hid (hr.below hal)
  have HBS := Lib.hid hbs
  have HR1 := Lib.hid (show ps.length + 1 ≤ maxLen by unfold maxLen; omega)
  have HR2 := Lib.hid (show (ps.length + 1) * 24 ≤ 140737488355328 by omega)
  unfold sv at HN
  clear hg hr hal hl hs hbs hn hx0 hx1
  go_enter Tryz.func151, Tryz.ntmps151
  go_wp2_with (first | (go_at_call 152; refine HN.out.mono ?_; rintro _ w1 ⟨rfl, hb1⟩; have HO := Lib.hid (HR.out.below hb1); have HB1 := Lib.hid (HAL.out.trans (hb1.mono (by have := HBS.out; simp; omega))); have HS1 := Lib.hid (show base ≤ w1.heap.size by have := hb1.size; have := HBS.out; simp at *; omega); have HS2 := Lib.hid (show base ≤ (w1.alloc (.cells #[.string (str s), .int .i64 l] 166)).heap.size by have := HS1.out; simp; omega); clear hb1) | (at_builtin; go_must (refine wpList_append_lies _ rfl _ _ 164 rfl base 166 i0 (.agg #[.string ⟨#[]⟩, .int .i64 0]) 2 24 Tryz.underlying164 hi hz0 hz1 hz2 rfl (by decide) _ _ _ rfl (World.ownsRow.alloc HO.out _) ⟨w1.heap.size, 0, none⟩ 1 1 [.string (str s), .int .i64 l] rfl rfl (piece_new _ _ _) (piece_cell _ _) (by decide) HR1.out HR2.out HS2.out _ rfl ?_); intro g' cap' w3 hown3 hgrow3 hblk3 hlt3; have HF := Lib.hid (row_push HB1.out HS1.out HO.out hown3 hgrow3); clear hown3 hgrow3 hblk3))
  go_ret
  exact ⟨⟨_, rfl, HF.out.1⟩, HF.out.2⟩

set_option maxHeartbeats 2000000 in
set_option maxRecDepth 100000 in
theorem put_arg (x : Int) (hx0 : -9223372036854775808 ≤ x) (hx1 : x ≤ 9223372036854775807) (hlen : (itoa x).length ≤ 1000) (hg : Glob w) (hr : RowP w base v ps) (hbs : base ≤ w.heap.size) (hn : ps.length ≤ 1000) :
    Calls Tryz.prog 151 #[v, .agg #[.int .i64 3, .int .i64 x], .pointer (some ⟨bx, 0, none⟩)] w fun e w' => (∃ v', e = .returned v' ∧ RowP w' base v' (ps ++ [([36] ++ itoa x, 1)])) ∧ Below base w w' := by
  obtain ⟨i0, hi, hz0, hz1, hz2⟩ := pieceInfo
  have hal := (Below.refl w.heap.size w).alloc (Nat.le_refl _) (.cells #[.int .i64 3, .int .i64 x] 83)
  have HN := Lib.hid (itoa_any x hx0 hx1 _ (hg.below hal))
  obtain ⟨s, hs⟩ : ∃ s, itoa x = s := ⟨_, rfl⟩
  rw [hs] at HN hlen ⊢
  obtain ⟨U, hU⟩ : ∃ U, ([36] : Bs) ++ s = U := ⟨_, rfl⟩
  rw [hU]
  have e1 := sum_is [36] s (by simp only [List.length_cons, List.length_nil]; omega) U hU ⟨#[36]⟩ (str s) rfl rfl
  have HAL := Lib.hid (hal.mono hbs)
  have HR := Lib.hid (hr.below hal)
  have HBS := Lib.hid hbs
  have HR1 := Lib.hid (show ps.length + 1 ≤ maxLen by unfold maxLen; omega)
  have HR2 := Lib.hid (show (ps.length + 1) * 24 ≤ 140737488355328 by omega)
  unfold sv at HN
  clear hg hr hal hs hbs hn hx0 hx1 hU hlen
  go_enter Tryz.func151, Tryz.ntmps151
  go_wp2_with (first | (go_at_call 50; refine HN.out.mono ?_; rintro _ w1 ⟨rfl, hb1⟩; have HO := Lib.hid (HR.out.below hb1); have HB1 := Lib.hid (HAL.out.trans (hb1.mono (by have := HBS.out; simp; omega))); have HS1 := Lib.hid (show base ≤ w1.heap.size by have := hb1.size; have := HBS.out; simp at *; omega); have HS2 := Lib.hid (show base ≤ (w1.alloc (.cells #[.string (str U), .int .i64 1] 166)).heap.size by have := HS1.out; simp; omega); clear hb1) | (at_builtin; go_must (refine wpList_append_lies _ rfl _ _ 164 rfl base 166 i0 (.agg #[.string ⟨#[]⟩, .int .i64 0]) 2 24 Tryz.underlying164 hi hz0 hz1 hz2 rfl (by decide) _ _ _ rfl (World.ownsRow.alloc HO.out _) ⟨w1.heap.size, 0, none⟩ 1 1 [.string (str U), .int .i64 1] rfl rfl (piece_new _ _ _) (piece_cell _ _) (by decide) HR1.out HR2.out HS2.out _ rfl ?_); intro g' cap' w3 hown3 hgrow3 hblk3 hlt3; have HF := Lib.hid (row_push HB1.out HS1.out HO.out hown3 hgrow3); clear hown3 hgrow3 hblk3))
  go_ret
  exact ⟨⟨_, rfl, HF.out.1⟩, HF.out.2⟩

set_option maxHeartbeats 2000000 in
set_option maxRecDepth 100000 in
theorem put_var (vs : List Bs) (k : Nat) (s : Bs) (hk : vs[k]? = some s) (hvs : Names w v1 vs) (hvl : vs.length ≤ 1000000) (hbx : w.cell? ⟨bx, 0, none⟩ = some v1) (hlen : s.length ≤ 140737488355328) (hr : RowP w base v ps) (hbs : base ≤ w.heap.size) (hn : ps.length ≤ 1000) :
    Calls Tryz.prog 151 #[v, .agg #[.int .i64 2, .int .i64 (k : Int)], .pointer (some ⟨bx, 0, none⟩)] w fun e w' => (∃ v', e = .returned v' ∧ RowP w' base v' (ps ++ [(s, 1)])) ∧ Below base w w' := by
  obtain ⟨i0, hi, hz0, hz1, hz2⟩ := pieceInfo
  have hal := (Below.refl w.heap.size w).alloc (Nat.le_refl _) (.cells #[.int .i64 2, .int .i64 (k : Int)] 83)
  have HC := Lib.hid (clone_any s (w.alloc (.cells #[.int .i64 2, .int .i64 (k : Int)] 83)) (by omega))
  have hbx2 := cell_kept hal hbx
  obtain ⟨ad, cap, rfl, hcell⟩ := Sl.below hvs hal
  obtain ⟨b, off, hab, hks⟩ := hcell k (sv s) (by rw [List.getElem?_map, hk]; rfl)
  subst hab
  rw [List.length_map] at hbx2 hbx hvs
  have hkl : k < vs.length := (List.getElem?_eq_some_iff.1 hk).1
  obtain ⟨n, hnn⟩ : ∃ n, vs.length = n := ⟨_, rfl⟩
  rw [hnn] at hbx2 hbx hkl hvl
  have hkI : (k : Int) < (n : Int) := by omega
  have HAL := Lib.hid (hal.mono hbs)
  have HR := Lib.hid (hr.below hal)
  have HBS := Lib.hid hbs
  have HR1 := Lib.hid (show ps.length + 1 ≤ maxLen by unfold maxLen; omega)
  have HR2 := Lib.hid (show (ps.length + 1) * 24 ≤ 140737488355328 by omega)
  unfold sv at HC hks
  clear hr hal hbs hn hlen hk hvs hbx hcell hnn hkl
  go_enter Tryz.func151, Tryz.ntmps151
  go_wp2_with (first | (go_at_call 69; refine HC.out.mono ?_; rintro _ w1 ⟨rfl, hb1⟩; have HO := Lib.hid (HR.out.below hb1); have HB1 := Lib.hid (HAL.out.trans (hb1.mono (by have := HBS.out; simp; omega))); have HS1 := Lib.hid (show base ≤ w1.heap.size by have := hb1.size; have := HBS.out; simp at *; omega); have HS2 := Lib.hid (show base ≤ (w1.alloc (.cells #[.string (str s), .int .i64 1] 166)).heap.size by have := HS1.out; simp; omega); clear hb1) | (at_builtin; go_must (refine wpList_append_lies _ rfl _ _ 164 rfl base 166 i0 (.agg #[.string ⟨#[]⟩, .int .i64 0]) 2 24 Tryz.underlying164 hi hz0 hz1 hz2 rfl (by decide) _ _ _ rfl (World.ownsRow.alloc HO.out _) ⟨w1.heap.size, 0, none⟩ 1 1 [.string (str s), .int .i64 1] rfl rfl (piece_new _ _ _) (piece_cell _ _) (by decide) HR1.out HR2.out HS2.out _ rfl ?_); intro g' cap' w3 hown3 hgrow3 hblk3 hlt3; have HF := Lib.hid (row_push HB1.out HS1.out HO.out hown3 hgrow3); clear hown3 hgrow3 hblk3))
  go_ret
  exact ⟨⟨_, rfl, HF.out.1⟩, HF.out.2⟩
end
end Go.Proofs.YtfooiggedgcjcaaGreatDoor.I

namespace Go.Proofs.YtfooiggedgcjcaaGreatDoor.I
open Go Go.RowKit Go.Proofs.YtfooiggedgcjcaaGreatDoor.B Go.Proofs.YtfooiggedgcjcaaGreatDoor.K Go.Proofs.YtfooiggedgcjcaaGreatDoor.E
set_option linter.unusedVariables false

/-- 'row[:F]'. -/
theorem cut_head (W : World) (g L F cap : Nat) (hF : F ≤ cap) :
    (Instr.sliceAt 164 (.slice (some ⟨g, 0, none⟩) L cap) none (some (.int .i64 (F : Int))) none).run Tryz.prog W = .ok (.slice (some ⟨g, 0, none⟩) F cap) W := by
  have he : Tryz.prog.underlying 164 = some (.slice (Tryz.prog.elem 164)) := by kernel_rfl
  have hs : (sizeOf (Tryz.prog.elem 164)).run Tryz.prog W = .ok 2 W := by kernel_rfl
  rw [run_sliceAt_slice W 164 _ _ _ _ he, run_slice_h W 164 _ _ _ he .i64 (F : Int) (by omega) (by omega), hs]
  simp only [Result.andThen, sliced, Int.toNat_natCast, Option.map, Go.WideShapes.add_plain, Nat.zero_mul, Nat.add_zero, Nat.sub_zero]
  split <;> rfl

/-- 'row[F:]'. -/
theorem cut_tail (W : World) (g L F cap : Nat) (hF : F ≤ L) (hL : L ≤ cap) (hlt : F < cap) :
    (Instr.sliceAt 164 (.slice (some ⟨g, 0, none⟩) L cap) (some (.int .i64 (F : Int))) none none).run Tryz.prog W = .ok (.slice (some ⟨g, F * 2, none⟩) (L - F) (cap - F)) W := by
  have he : Tryz.prog.underlying 164 = some (.slice (Tryz.prog.elem 164)) := by kernel_rfl
  have hs : (sizeOf (Tryz.prog.elem 164)).run Tryz.prog W = .ok 2 W := by kernel_rfl
  rw [run_sliceAt_slice W 164 _ _ _ _ he, run_slice_l W 164 _ _ _ he .i64 (F : Int) (by omega) (by omega), hs]
  simp only [Result.andThen, sliced, Int.toNat_natCast]
  rw [if_neg (by omega)]
  simp only [Option.map, Go.WideShapes.add_plain, Nat.zero_add]
/-- The row's shape. -/
theorem row_form {w : World} {base : Nat} {v : Value} {ps : List Pc} (h : RowP w base v ps) (h0 : 0 < ps.length) : ∃ g cap, v = .slice (some ⟨g, 0, none⟩) ps.length cap ∧ ps.length ≤ cap ∧ cap ≤ maxLen ∧ base ≤ g ∧ g < w.heap.size ∧
    ∀ (j : Nat) (p : Pc), ps[j]? = some p → w.cell? ⟨g, j * 2, none⟩ = some (sv p.1) ∧ w.cell? ⟨g, j * 2 + 1, none⟩ = some (.int .i64 p.2) := by
  have h' := h
  obtain ⟨hl, h⟩ := h
  rcases h with ⟨_, h1⟩ | ⟨g, cap, cur, hv, hb, hg, hc, hm, hsz, ht⟩
  · omega
  · refine ⟨g, cap, hv, hc, hm, hb, (Array.getElem?_eq_some_iff.1 hg).1, fun j p hj => ?_⟩
    obtain ⟨c0, c1⟩ := cellsP_at ps j p hj
    have hjl : j < ps.length := (List.getElem?_eq_some_iff.1 hj).1
    have key : ∀ m u, (cellsP ps)[m]? = some u → w.cell? ⟨g, m, none⟩ = some u := by
      intro m u hu
      rw [cell_of_row _ _ _ _ _ _ hg, ← Array.getElem?_toList]
      have hml : m < (cellsP ps).length := (List.getElem?_eq_some_iff.1 hu).1
      rw [cellsP_length] at hml
      rw [← ht, List.getElem?_take_of_lt hml] at hu
      exact hu
    exact ⟨key _ _ c0, key _ _ c1⟩

/-- A beginning of the row. -/
theorem row_head {w : World} {base g cap : Nat} {ps : List Pc} (h : RowP w base (.slice (some ⟨g, 0, none⟩) ps.length cap) ps) (h0 : 0 < ps.length) (F : Nat) (hF : F ≤ ps.length) : RowP w base (.slice (some ⟨g, 0, none⟩) F cap) (ps.take F) := by
  obtain ⟨hl, h⟩ := h
  rcases h with ⟨h1, _⟩ | ⟨g', cap', cur, hv, hb, hg, hc, hm, hsz, ht⟩
  · cases h1
  · obtain ⟨e1, e2, e3⟩ := Value.slice.inj hv
    cases e1
    subst e3
    have hlen : (ps.take F).length = F := by rw [List.length_take]; omega
    have hsplit : cellsP ps = cellsP (ps.take F) ++ cellsP (ps.drop F) := by rw [← cellsP_append, List.take_append_drop]
    refine ⟨by rw [cellsP_length], Or.inr ⟨g, cap, cur, by rw [hlen], hb, hg, by omega, hm, hsz, ?_⟩⟩
    have h2 : cur.toList.take (F * 2) = (cur.toList.take (ps.length * 2)).take (F * 2) := by rw [List.take_take]; congr 1; omega
    rw [hlen, h2, ht, hsplit]
    exact List.take_left' (by rw [cellsP_length, hlen])

theorem row_tail {w : World} {g : Nat} {ps : List Pc} (hc : ∀ (j : Nat) (p : Pc), ps[j]? = some p → w.cell? ⟨g, j * 2, none⟩ = some (sv p.1) ∧ w.cell? ⟨g, j * 2 + 1, none⟩ = some (.int .i64 p.2)) (F c : Nat) (hF : F ≤ ps.length) : SlP w (.slice (some ⟨g, F * 2, none⟩) (ps.length - F) c) (ps.drop F) := by
  refine ⟨_, c, by rw [List.length_drop], fun j p hj => ⟨g, F * 2, rfl, ?_⟩⟩
  rw [List.getElem?_drop] at hj
  obtain ⟨h1, h2⟩ := hc _ p hj
  rw [show F * 2 + j * 2 = (F + j) * 2 by omega]
  exact ⟨h1, h2⟩

theorem row_pushed {w w1 w3 : World} {base g cap F : Nat} {v : Value} {ps : List Pc} {s : Bs} {l : Int} {X : Obj} (hb : Below base w w1) (hs : base ≤ w1.heap.size) (hF : ps.length = F) (hr : w1.ownsRow base 166 2 v F (cellsP ps))
    (ho : w3.ownsRow base 166 2 (.slice (some ⟨g, 0, none⟩) (F + 1) cap) (F + 1) (cellsP ps ++ [.string (str s), .int .i64 l])) (hg : (w1.alloc X).grownBy w3 v.ownBlock) :
    RowP w3 base (.slice (some ⟨g, 0, none⟩) (F + 1) cap) (ps ++ [(s, l)]) ∧ Below base w w3 := by
  subst hF
  exact row_push hb hs hr ho hg

set_option maxHeartbeats 4000000 in
set_option maxRecDepth 100000 in
theorem put_op {w : World} {base bx : Nat} {v : Value} {ps : List Pc} (o k : Nat) (ho : 4 ≤ o) (ho2 : o ≤ 16) (hk : takes (o : Int) = (k : Int)) (T : Bs) (hT : ∀ (W : World) (u : Value), Glob W → SlP W u (ps.drop (ps.length - k)) → Calls Tryz.prog 154 #[.int .i64 (o : Int), u] W fun e w' => e = .returned (sv T) ∧ Below W.heap.size W w')
    (hkn : k ≤ ps.length) (hg : Glob w) (hr : RowP w base v ps) (hbs : base ≤ w.heap.size) (hn : ps.length ≤ 1000) :
    Calls Tryz.prog 151 #[v, .agg #[.int .i64 (o : Int), .int .i64 0], .pointer (some ⟨bx, 0, none⟩)] w fun e w' => (∃ v', e = .returned v' ∧ RowP w' base v' (ps.take (ps.length - k) ++ [(T, lvl (o : Int))])) ∧ Below base w w' := by
  obtain ⟨i0, hi, hz0, hz1, hz2⟩ := pieceInfo
  have hk0 : 0 < k := by
    have hti := takes_is (o : Int)
    omega
  obtain ⟨g, cap, rfl, hcap, hcm, hbg, hgl, hcells⟩ := row_form hr (by omega)
  have HOPR := Lib.hid (fun W => operands_any (o : Int) (by omega) (by omega) W)
  rw [hk] at HOPR
  have HLV := Lib.hid (fun W => level_any (o : Int) (by omega) (by omega) W)
  obtain ⟨L, hL⟩ : ∃ L, lvl (o : Int) = L := ⟨_, rfl⟩
  rw [hL] at HLV ⊢
  have hb1 : ((o : Int) == 1) = false := by rw [beq_eq_false_iff_ne]; omega
  have hb2 : ((o : Int) == 2) = false := by rw [beq_eq_false_iff_ne]; omega
  have hb3 : ((o : Int) == 3) = false := by rw [beq_eq_false_iff_ne]; omega
  obtain ⟨X, hX⟩ : ∃ X, (Obj.cells #[.int .i64 (o : Int), .int .i64 0] 83 (0, 0)) = X := ⟨_, rfl⟩
  have hal := (Below.refl w.heap.size w).alloc (Nat.le_refl _) X
  have hald := hal.drew
  obtain ⟨F, hF⟩ : ∃ F, ps.length - k = F := ⟨_, rfl⟩
  obtain ⟨n, hnn⟩ : ∃ n, ps.length = n := ⟨_, rfl⟩
  have hct : ∀ (j : Nat) (p : Pc), ps[j]? = some p → (w.alloc X).drew.cell? ⟨g, j * 2, none⟩ = some (sv p.1) ∧ (w.alloc X).drew.cell? ⟨g, j * 2 + 1, none⟩ = some (.int .i64 p.2) := fun j p hj => ⟨cell_kept hald (hcells j p hj).1, cell_kept hald (hcells j p hj).2⟩
  have hsp := row_tail hct F (cap - F) (by omega)
  have hrh := row_head (hr.below hald) (by omega) F (by omega)
  rw [hF] at hT ⊢
  have HTG := Lib.hid (hT _ _ (hg.below hald) hsp)
  rw [hnn] at HTG hkn hcap hn hF
  have HRH := Lib.hid hrh
  have HLT := Lib.hid (show (ps.take F).length = F by rw [List.length_take]; omega)
  have hsl1 := fun W => cut_head W g n F cap (by omega)
  have hsl2 := fun W => cut_tail W g n F cap (by omega) hcap (by omega)
  have hF2 : IntKind.i64.wrap ((n : Int) - (k : Int)) = (F : Int) := by rw [show (n : Int) - (k : Int) = (F : Int) by omega]; exact IntWalk.i64_in _ (by omega)
  have HAL := Lib.hid (hald.mono hbs)
  have HBX := Lib.hid (show (w.alloc X).drew.cell? ⟨w.heap.size, 0, none⟩ = some (.int .i64 (o : Int)) by
    show (w.alloc X).cell? ⟨w.heap.size, 0, none⟩ = _
    rw [cell_of_row _ _ _ _ _ _ (show (w.alloc X).heap[w.heap.size]? = some (.cells #[.int .i64 (o : Int), .int .i64 0] 83 (0, 0)) by rw [hX]; exact heap_alloc_at _ _)]
    rfl)
  have HBS := Lib.hid hbs
  have HBG := Lib.hid hbg
  have HR1 := Lib.hid (show F + 1 ≤ maxLen by unfold maxLen; omega)
  have HR2 := Lib.hid (show (F + 1) * 24 ≤ 140737488355328 by omega)
  subst hX
  rw [hnn]
  unfold sv at HTG
  clear hg hr hal hald hbs hn hkn hcap hcm hbg hgl hcells hct hsp hrh hT hL hk hk0 ho ho2 hnn hF
  go_enter Tryz.func151, Tryz.ntmps151
  go_upto_region 9 with (go_at_call 153; refine (HOPR.out _).mono ?_; rintro _ w1 ⟨rfl, rfl⟩)
  go_region_law (first | (refine step_append_lies _ rfl _ _ 164 rfl base 166 i0 (.agg #[.string ⟨#[]⟩, .int .i64 0]) 2 24 Tryz.underlying164 hi hz0 hz1 hz2 rfl (by decide) (.slice (some ⟨g, 0, none⟩) F cap) F (cellsP (ps.take F)) rfl (World.ownsRow.alloc HO5.out _) ⟨w5.heap.size, 0, none⟩ 1 1 [.string (str T), .int .i64 L] rfl rfl (piece_new _ _ _) (piece_cell _ _) (by decide) HR1.out HR2.out HB6.out _ rfl ?_; intro g6 cap6 w6 hown6 hgrow6 hblk6 hlt6) | (go_simp; go_at_call 154; refine HTG.out.mono ?_; rintro _ w5 ⟨rfl, hb5⟩; have HO5 := Lib.hid (show w5.ownsRow base 166 2 (.slice (some ⟨g, 0, none⟩) F cap) F (cellsP (ps.take F)) by have h := HRH.out.below hb5; unfold RowP at h; rw [HLT.out] at h; exact h); have HB5 := Lib.hid (HAL.out.trans (hb5.mono (by have := HBS.out; simp; omega))); have HS5 := Lib.hid (show base ≤ w5.heap.size by have := hb5.size; have := HBS.out; simp at *; omega); have HB6 := Lib.hid (show base ≤ (w5.alloc (.cells #[.string (str T), .int .i64 L] 166)).heap.size by have := HS5.out; simp; omega); have c5 := cell_kept hb5 HBX.out; clear hb5) | (go_simp; go_at_call 155; refine (HLV.out _).mono ?_; rintro _ w7 ⟨rfl, rfl⟩))
  all_goals
    have HF := Lib.hid (row_pushed HB5.out HS5.out HLT.out HO5.out hown6 hgrow6)
    clear hown6 hgrow6 hblk6
    go_wp2_with fail
    go_ret
    exact ⟨⟨_, rfl, HF.out.1⟩, HF.out.2⟩
end Go.Proofs.YtfooiggedgcjcaaGreatDoor.I
