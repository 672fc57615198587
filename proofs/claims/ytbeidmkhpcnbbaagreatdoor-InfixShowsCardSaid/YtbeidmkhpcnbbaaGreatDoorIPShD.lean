/-
  Contracts of the program of layer 4, to show: what puts a piece that has no operands.
-/
import Derived.Test.YtbeidmkhpcnbbaaGreatDoorIPShC
import Derived.Deep.AppendLies
namespace Go.Proofs.YtbeidmkhpcnbbaaGreatDoor.I
open Go Go.RowKit Go.Proofs.YtbeidmkhpcnbbaaGreatDoor.B Go.Proofs.YtbeidmkhpcnbbaaGreatDoor.K Go.Proofs.YtbeidmkhpcnbbaaGreatDoor.E
set_option linter.unusedVariables false

/-- A row of pieces that the call owns. -/
def RowP (w : World) (base : Nat) (v : Value) (ps : List Pc) : Prop := w.ownsRow base 41 2 v ps.length (cellsP ps)

theorem RowP.below {w w' : World} {base : Nat} {v : Value} {ps : List Pc} (h : RowP w base v ps) (hb : Below w.heap.size w w') : RowP w' base v ps := own_kept h hb

theorem pieceInfo : ∃ i, Tryz.prog.info? 41 = some i ∧ i.zero = some (.agg #[.string ⟨#[]⟩, .int .i64 0]) ∧ i.size = 2 ∧ i.bytes = 24 := by
  have h : (Tryz.prog.info? 41).map (fun i => (i.zero, i.size, i.bytes)) = some (some (.agg #[.string ⟨#[]⟩, .int .i64 0]), 2, 24) := by kernel_rfl
  obtain ⟨i, h1, h2⟩ := Option.map_eq_some_iff.1 h
  simp only [Prod.mk.injEq] at h2
  exact ⟨i, h1, h2.1, h2.2.1, h2.2.2⟩

theorem piece_new (W : World) (s : ByteArray) (l : Int) : ∀ j u, [Value.string s, .int .i64 l][j]? = some u → (W.alloc (.cells #[.string s, .int .i64 l] 41)).cell? ((⟨W.heap.size, 0, none⟩ : Addr).add j) = some u :=
  World.news_of_block (cs := #[.string s, .int .i64 l]) (heap_alloc_at W _)
theorem piece_cell (s : ByteArray) (l : Int) : ∀ u ∈ [Value.string s, .int .i64 l], u.oneCell' = true := by
  intro u hu; simp at hu; rcases hu with rfl | rfl <;> rfl

/-- Behind the append of a piece. -/
theorem row_push {w w1 w3 : World} {base g cap : Nat} {v : Value} {ps : List Pc} {s : Bs} {l : Int} {X : Obj} (hb : Below base w w1) (hs : base ≤ w1.heap.size) (hr : RowP w1 base v ps)
    (ho : w3.ownsRow base 41 2 (.slice (some ⟨g, 0, none⟩) (ps.length + 1) cap) (ps.length + 1) (cellsP ps ++ [.string (str s), .int .i64 l])) (hg : (w1.alloc X).grownBy w3 v.ownBlock) :
    RowP w3 base (.slice (some ⟨g, 0, none⟩) (ps.length + 1) cap) (ps ++ [(s, l)]) ∧ Below base w w3 := by
  refine ⟨?_, (hb.alloc hs X).grown hg (by simp; omega) (fun k hk => owns_block hr k hk)⟩
  unfold RowP
  rw [cellsP_append, List.length_append]
  exact ho

section
variable {w : World} {base bx : Nat} {v v1 : Value} {ps : List Pc}

set_option maxHeartbeats 2000000 in
set_option maxRecDepth 100000 in
theorem put_con (x : Int) (hx0 : -9223372036854775808 ≤ x) (hx1 : x ≤ 9223372036854775807) (hg : Glob w) (hr : RowP w base v ps) (hbs : base ≤ w.heap.size) (hn : ps.length ≤ 1000) :
    Calls Tryz.prog 23 #[v, .agg #[.int .i64 1, .int .i64 x], .pointer (some ⟨bx, 0, none⟩)] w fun e w' => (∃ v', e = .returned v' ∧ RowP w' base v' (ps ++ [(itoa x, if x < 0 then 2 else 0)])) ∧ Below base w w' := by
  obtain ⟨i0, hi, hz0, hz1, hz2⟩ := pieceInfo
  have hal := (Below.refl w.heap.size w).alloc (Nat.le_refl _) (.cells #[.int .i64 1, .int .i64 x] 39)
  have HN := Lib.hid (number_any x hx0 hx1 _ (hg.below hal))
  obtain ⟨l, hl⟩ : ∃ l : Int, (if x < 0 then 2 else 0) = l := ⟨_, rfl⟩
  obtain ⟨s, hs⟩ : ∃ s, itoa x = s := ⟨_, rfl⟩
  rw [hl, hs] at HN ⊢
  have HAL := Lib.hid (hal.mono hbs)
  have HR := Lib.hid (hr.below hal)
  have HBS := Lib.hid hbs
  have HR1 := Lib.hid (show ps.length + 1 ≤ maxLen by unfold maxLen; omega)
  have HR2 := Lib.hid (show (ps.length + 1) * 24 ≤ 140737488355328 by omega)
  unfold sv at HN
  clear hg hr hal hl hs hbs hn hx0 hx1
  go_enter Tryz.func23, Tryz.ntmps23
  go_wp2_with (first | (go_at_call 24; refine HN.out.mono ?_; rintro _ w1 ⟨rfl, hb1⟩; have HO := Lib.hid (HR.out.below hb1); have HB1 := Lib.hid (HAL.out.trans (hb1.mono (by have := HBS.out; simp; omega))); have HS1 := Lib.hid (show base ≤ w1.heap.size by have := hb1.size; have := HBS.out; simp at *; omega); have HS2 := Lib.hid (show base ≤ (w1.alloc (.cells #[.string (str s), .int .i64 l] 41)).heap.size by have := HS1.out; simp; omega); clear hb1) | (at_builtin; go_must (refine wpList_append_lies _ rfl _ _ 37 rfl base 41 i0 (.agg #[.string ⟨#[]⟩, .int .i64 0]) 2 24 Tryz.underlying37 hi hz0 hz1 hz2 rfl (by decide) _ _ _ rfl (World.ownsRow.alloc HO.out _) ⟨w1.heap.size, 0, none⟩ 1 1 [.string (str s), .int .i64 l] rfl rfl (piece_new _ _ _) (piece_cell _ _) (by decide) HR1.out HR2.out HS2.out _ rfl ?_); intro g' cap' w3 hown3 hgrow3 hblk3 hlt3; have HF := Lib.hid (row_push HB1.out HS1.out HO.out hown3 hgrow3); clear hown3 hgrow3 hblk3))
  go_ret
  exact ⟨⟨_, rfl, HF.out.1⟩, HF.out.2⟩

set_option maxHeartbeats 2000000 in
set_option maxRecDepth 100000 in
theorem put_arg (x : Int) (hx0 : -9223372036854775808 ≤ x) (hx1 : x ≤ 9223372036854775807) (hlen : (itoa x).length ≤ 1000) (hg : Glob w) (hr : RowP w base v ps) (hbs : base ≤ w.heap.size) (hn : ps.length ≤ 1000) :
    Calls Tryz.prog 23 #[v, .agg #[.int .i64 3, .int .i64 x], .pointer (some ⟨bx, 0, none⟩)] w fun e w' => (∃ v', e = .returned v' ∧ RowP w' base v' (ps ++ [([36] ++ itoa x, 1)])) ∧ Below base w w' := by
  obtain ⟨i0, hi, hz0, hz1, hz2⟩ := pieceInfo
  have hal := (Below.refl w.heap.size w).alloc (Nat.le_refl _) (.cells #[.int .i64 3, .int .i64 x] 39)
  have HN := Lib.hid (itoa_any x hx0 hx1 _ (hg.below hal))
  obtain ⟨s, hs⟩ : ∃ s, itoa x = s := ⟨_, rfl⟩
  rw [hs] at HN hlen ⊢
  obtain ⟨U, hU⟩ : ∃ U, ([36] : Bs) ++ s = U := ⟨_, rfl⟩
  rw [hU]
  have e1 := sum_is [36] s (by simp only [List.length_cons, List.length_nil]; omega) U hU ⟨#[36]⟩ (str s) rfl rfl
  have HAL := Lib.hid (hal.mono hbs)
  have HR := Lib.hid (hr.below hal)
  have HBS := Lib.hid hbs
  have HR1 := Lib.hid (show ps.length + 1 ≤ maxLen by unfold maxLen; omega)
  have HR2 := Lib.hid (show (ps.length + 1) * 24 ≤ 140737488355328 by omega)
  unfold sv at HN
  clear hg hr hal hs hbs hn hx0 hx1 hU hlen
  go_enter Tryz.func23, Tryz.ntmps23
  go_wp2_with (first | (go_at_call 26; refine HN.out.mono ?_; rintro _ w1 ⟨rfl, hb1⟩; have HO := Lib.hid (HR.out.below hb1); have HB1 := Lib.hid (HAL.out.trans (hb1.mono (by have := HBS.out; simp; omega))); have HS1 := Lib.hid (show base ≤ w1.heap.size by have := hb1.size; have := HBS.out; simp at *; omega); have HS2 := Lib.hid (show base ≤ (w1.alloc (.cells #[.string (str U), .int .i64 1] 41)).heap.size by have := HS1.out; simp; omega); clear hb1) | (at_builtin; go_must (refine wpList_append_lies _ rfl _ _ 37 rfl base 41 i0 (.agg #[.string ⟨#[]⟩, .int .i64 0]) 2 24 Tryz.underlying37 hi hz0 hz1 hz2 rfl (by decide) _ _ _ rfl (World.ownsRow.alloc HO.out _) ⟨w1.heap.size, 0, none⟩ 1 1 [.string (str U), .int .i64 1] rfl rfl (piece_new _ _ _) (piece_cell _ _) (by decide) HR1.out HR2.out HS2.out _ rfl ?_); intro g' cap' w3 hown3 hgrow3 hblk3 hlt3; have HF := Lib.hid (row_push HB1.out HS1.out HO.out hown3 hgrow3); clear hown3 hgrow3 hblk3))
  go_ret
  exact ⟨⟨_, rfl, HF.out.1⟩, HF.out.2⟩

set_option maxHeartbeats 2000000 in
set_option maxRecDepth 100000 in
theorem put_var (vs : List Bs) (k : Nat) (s : Bs) (hk : vs[k]? = some s) (hvs : Names w v1 vs) (hvl : vs.length ≤ 1000000) (hbx : w.cell? ⟨bx, 0, none⟩ = some v1) (hlen : s.length ≤ 140737488355328) (hr : RowP w base v ps) (hbs : base ≤ w.heap.size) (hn : ps.length ≤ 1000) :
    Calls Tryz.prog 23 #[v, .agg #[.int .i64 2, .int .i64 (k : Int)], .pointer (some ⟨bx, 0, none⟩)] w fun e w' => (∃ v', e = .returned v' ∧ RowP w' base v' (ps ++ [(s, 1)])) ∧ Below base w w' := by
  obtain ⟨i0, hi, hz0, hz1, hz2⟩ := pieceInfo
  have hal := (Below.refl w.heap.size w).alloc (Nat.le_refl _) (.cells #[.int .i64 2, .int .i64 (k : Int)] 39)
  have HC := Lib.hid (clone_any s (w.alloc (.cells #[.int .i64 2, .int .i64 (k : Int)] 39)) (by omega))
  have hbx2 := cell_kept hal hbx
  obtain ⟨ad, cap, rfl, hcell⟩ := Sl.below hvs hal
  obtain ⟨b, off, hab, hks⟩ := hcell k (sv s) (by rw [List.getElem?_map, hk]; rfl)
  subst hab
  rw [List.length_map] at hbx2 hbx hvs
  have hkl : k < vs.length := (List.getElem?_eq_some_iff.1 hk).1
  obtain ⟨n, hnn⟩ : ∃ n, vs.length = n := ⟨_, rfl⟩
  rw [hnn] at hbx2 hbx hkl hvl
  have hkI : (k : Int) < (n : Int) := by omega
  have HAL := Lib.hid (hal.mono hbs)
  have HR := Lib.hid (hr.below hal)
  have HBS := Lib.hid hbs
  have HR1 := Lib.hid (show ps.length + 1 ≤ maxLen by unfold maxLen; omega)
  have HR2 := Lib.hid (show (ps.length + 1) * 24 ≤ 140737488355328 by omega)
  unfold sv at HC hks
  clear hr hal hbs hn hlen hk hvs hbx hcell hnn hkl
  go_enter Tryz.func23, Tryz.ntmps23
  go_wp2_with (first | (go_at_call 25; refine HC.out.mono ?_; rintro _ w1 ⟨rfl, hb1⟩; have HO := Lib.hid (HR.out.below hb1); have HB1 := Lib.hid (HAL.out.trans (hb1.mono (by have := HBS.out; simp; omega))); have HS1 := Lib.hid (show base ≤ w1.heap.size by have := hb1.size; have := HBS.out; simp at *; omega); have HS2 := Lib.hid (show base ≤ (w1.alloc (.cells #[.string (str s), .int .i64 1] 41)).heap.size by have := HS1.out; simp; omega); clear hb1) | (at_builtin; go_must (refine wpList_append_lies _ rfl _ _ 37 rfl base 41 i0 (.agg #[.string ⟨#[]⟩, .int .i64 0]) 2 24 Tryz.underlying37 hi hz0 hz1 hz2 rfl (by decide) _ _ _ rfl (World.ownsRow.alloc HO.out _) ⟨w1.heap.size, 0, none⟩ 1 1 [.string (str s), .int .i64 1] rfl rfl (piece_new _ _ _) (piece_cell _ _) (by decide) HR1.out HR2.out HS2.out _ rfl ?_); intro g' cap' w3 hown3 hgrow3 hblk3 hlt3; have HF := Lib.hid (row_push HB1.out HS1.out HO.out hown3 hgrow3); clear hown3 hgrow3 hblk3))
  go_ret
  exact ⟨⟨_, rfl, HF.out.1⟩, HF.out.2⟩
end
end Go.Proofs.YtbeidmkhpcnbbaaGreatDoor.I
