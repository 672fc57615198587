/-
  Contracts of the program's reader of layer 4: fail, put, end.
-/
import Derived.Test.YtbeidmkhpcnbbaaGreatDoorIPRd
import Derived.RegionTactic
import Derived.Deep.QuietTactic
namespace Go.Proofs.YtbeidmkhpcnbbaaGreatDoor.I
open Go Go.RowKit Go.Proofs.YtbeidmkhpcnbbaaGreatDoor.B Go.Proofs.YtbeidmkhpcnbbaaGreatDoor.K Go.Proofs.YtbeidmkhpcnbbaaGreatDoor.E
set_option linter.unusedVariables false

section
variable {f : Nat → Option Obj} {W0 w w3 : World} {B a : Nat} {t s : Bs} {v1 v : Value} {na e : Int} {c : List In}

/-- Behind the append the reader is as it was. -/
theorem Rd.pushed (h : Rd f W0 B t v1 na a s c e w) {X : Obj} (hv : w.cell? ⟨B, 5, none⟩ = some v) (hg : (w.alloc X).grownBy w3 v.ownBlock) : w3.cell? ⟨B, 5, none⟩ = some v ∧ w3.frozen? ⟨B, 5, none⟩ = false := by
  have hlt := h.lt
  obtain ⟨v', hv', ho', hf'⟩ := h.own
  have hvv : v' = v := by
    rw [cell_of_row _ _ _ _ _ _ hv'] at hv
    exact Option.some.inj hv
  subst hvv
  have hB : w3.heap[B]? = some (.cells (rdCells t v1 na a s v' e) 48 (0, 0)) :=
    (hg.block B (by simp; omega) (fun h2 => by have := owns_block ho' B h2.symm; omega)).trans ((alloc_keeps w X B hlt).trans hv')
  exact ⟨by rw [cell_of_row _ _ _ _ _ _ hB]; rfl, (row_cell hB (show 5 < (rdCells t v1 na a s v' e).size by show 5 < 7; decide)).choose_spec.2⟩

theorem Rd.push (h : Rd f W0 B t v1 na a s c e w) {o x : Int} {g cap : Nat} {X : Obj} (hv : w.cell? ⟨B, 5, none⟩ = some v)
    (ho : w3.ownsRow (B + 1) 39 2 (.slice (some ⟨g, 0, none⟩) (c.length + 1) cap) (c.length + 1) (pairCells c ++ [.int .i64 o, .int .i64 x]))
    (hg : (w.alloc X).grownBy w3 v.ownBlock) (hblk : v.ownBlock = some g ∨ g = (w.alloc X).heap.size) :
    Rd f W0 B t v1 na a s (c ++ [(o, x)]) e (w3.setCell ⟨B, 5, none⟩ (.slice (some ⟨g, 0, none⟩) (c.length + 1) cap)) := by
  have hlt := h.lt
  obtain ⟨v', hv', ho', hf'⟩ := h.own
  have hvv : v' = v := by
    rw [cell_of_row _ _ _ _ _ _ hv'] at hv
    exact Option.some.inj hv
  subst hvv
  have hsz : (w.alloc X).heap.size = w.heap.size + 1 := by simp
  have hsame : ∀ i, i < w.heap.size → v'.ownBlock ≠ some i → w3.heap[i]? = w.heap[i]? := fun i hi hn =>
    (hg.block i (by omega) (fun h2 => hn h2.symm)).trans (alloc_keeps w X i hi)
  have hBn : v'.ownBlock ≠ some B := fun h2 => by have := owns_block ho' B h2; omega
  have hgB : B + 1 ≤ g := by
    rcases hblk with h2 | h2
    · exact owns_block ho' g h2
    · omega
  refine ⟨?_, h.le, fun i o' hi => ?_, .slice (some ⟨g, 0, none⟩) (c.length + 1) cap, ?_, ?_, fun k hk => ?_⟩
  · refine Below.setCell (Below.grown (h.below.alloc h.below.size X) hg (by have := h.below.size; omega) (fun k hk => ?_)) h.le _
    have := owns_block ho' k hk; have := h.le; omega
  · obtain ⟨h1, h2⟩ := h.frame i o' hi
    refine ⟨(Below.heap_setCell _ _ _ i h2).trans ((hsame i (Array.getElem?_eq_some_iff.1 h1).1 (fun h3 => ?_)).trans h1), h2⟩
    rw [hf' i h3] at hi; cases hi
  · exact heap_setCell_same w3 B 5 _ _ _ ((hsame B hlt hBn).trans hv')
  · have hl : (c ++ [(o, x)]).length = c.length + 1 := by simp
    have hp : pairCells (c ++ [(o, x)]) = pairCells c ++ [.int .i64 o, .int .i64 x] := by rw [pairCells_append]; rfl
    rw [hl, hp]
    refine World.ownsRow.kept (row := some B) ho ⟨rfl, rfl, rfl, by simp [World.setCell], fun i _ hn => Below.heap_setCell _ _ _ i (fun h2 => hn (by rw [h2]))⟩ (Or.inr (fun h2 => ?_))
    simp [Value.ownBlock] at h2; omega
  · simp [Value.ownBlock] at hk
    subst hk
    rcases hblk with h2 | h2
    · exact hf' g h2
    · cases hfg : f g with
      | none => rfl
      | some o' => have := (Array.getElem?_eq_some_iff.1 (h.frame g o' hfg).1).1; omega
end

section
variable {f : Nat → Option Obj} {W0 : World} {B a : Nat} {t s : Bs} {v1 : Value} {na e : Int} {c : List In}

set_option maxHeartbeats 400000 in
theorem fail_any (w : World) (e' : Int) (h : Rd f W0 B t v1 na a s c e w) :
    Calls Tryz.prog 37 #[.pointer (some ⟨B, 0, none⟩), .int .i64 e'] w fun x w' => x = .returned (.bool false) ∧ Rd f W0 B t v1 na a s c e' w' := by
  obtain ⟨v, ⟨_, _, _, _, _, _, c6⟩, _, hfz⟩ := h.cells
  have f6 := hfz 6 (by decide)
  have HR := Lib.hid (h.set (a' := a) (s' := s) (e' := e') 6 (.int .i64 e') (fun v => rfl))
  clear hfz h
  go_enter Tryz.func37, Tryz.ntmps37
  go_wp2_with fail
  go_ret
  exact ⟨rfl, HR.out⟩

theorem two_new' (W : World) (o x : Int) : ∀ j u, [Value.int .i64 o, .int .i64 x][j]? = some u → (W.alloc (.cells #[.int .i64 o, .int .i64 x] 39)).cell? ((⟨W.heap.size, 0, none⟩ : Addr).add j) = some u :=
  World.news_of_block (cs := #[.int .i64 o, .int .i64 x]) (heap_alloc_at W _)
theorem two_cell' (o x : Int) : ∀ u ∈ [Value.int .i64 o, .int .i64 x], u.oneCell' = true := by
  intro u hu; simp at hu; rcases hu with rfl | rfl <;> rfl

set_option maxHeartbeats 1000000 in
theorem put_any (w : World) (o x : Int) (h : Rd f W0 B t v1 na a s c e w) (hc : c.length ≤ 1000000000000) :
    Calls Tryz.prog 58 #[.pointer (some ⟨B, 0, none⟩), .int .i64 o, .int .i64 x] w fun z w' => z = .returned (.tuple #[]) ∧ Rd f W0 B t v1 na a s (c ++ [(o, x)]) e w' := by
  obtain ⟨v, ⟨_, _, _, _, _, c5, _⟩, ho, hfz⟩ := h.cells
  have f5 := hfz 5 (by decide)
  have hlt := h.lt
  obtain ⟨i0, hi, hz0, hz1, hz2⟩ : ∃ i, Tryz.prog.info? 39 = some i ∧ i.zero = some (.agg #[.int .i64 0, .int .i64 0]) ∧ i.size = 2 ∧ i.bytes = 16 := by
    have h : (Tryz.prog.info? 39).map (fun i => (i.zero, i.size, i.bytes)) = some (some (.agg #[.int .i64 0, .int .i64 0]), 2, 16) := by kernel_rfl
    obtain ⟨i, h1, h2⟩ := Option.map_eq_some_iff.1 h
    simp only [Prod.mk.injEq] at h2
    exact ⟨i, h1, h2.1, h2.2.1, h2.2.2⟩
  have HH := Lib.hid h
  have HO := Lib.hid ho
  have HR1 := Lib.hid (show c.length + 1 ≤ maxLen by unfold maxLen; omega)
  have HR2 := Lib.hid (show (c.length + 1) * 16 ≤ 140737488355328 by omega)
  have HR3 := Lib.hid (show B + 1 ≤ (w.alloc (.cells #[.int .i64 o, .int .i64 x] 39)).heap.size by simp; omega)
  have HLT := Lib.hid hlt
  have HC5 := Lib.hid c5
  clear hfz h ho hc hlt
  go_enter Tryz.func58, Tryz.ntmps58
  go_wp2_with (at_builtin; go_must (refine wpList_append_lies _ rfl _ _ 22 rfl (B + 1) 39 i0 (.agg #[.int .i64 0, .int .i64 0]) 2 16 Tryz.underlying22 hi hz0 hz1 hz2 rfl (by decide) _ _ _ rfl (World.ownsRow.alloc HO.out _) ⟨w.heap.size, 0, none⟩ 1 1 [.int .i64 o, .int .i64 x] rfl rfl (two_new' _ _ _) (two_cell' _ _) (by decide) HR1.out HR2.out HR3.out _ rfl ?_); intro g' cap' w3 hown3 hgrow3 hblk3 hlt3; have HR := Lib.hid (HH.out.push HC5.out hown3 hgrow3 hblk3); obtain ⟨c5', f5'⟩ := HH.out.pushed HC5.out hgrow3; clear hown3 hgrow3 hblk3)
  go_end0
  exact ⟨rfl, HR.out⟩
end
end Go.Proofs.YtbeidmkhpcnbbaaGreatDoor.I
