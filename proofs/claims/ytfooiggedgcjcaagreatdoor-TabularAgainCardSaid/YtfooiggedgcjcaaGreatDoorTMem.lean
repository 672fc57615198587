/-
  Layer 6: what turns in memory, told by the blocks that may turn; what is closed, read without the blocks that are open.
-/
import Derived.Test.YtfooiggedgcjcaaGreatDoorIMath
import Derived.Test.YtfooiggedgcjcaaGreatDoorTSpec
import Derived.Deep.AppendLies
import Derived.Maps.Own
namespace Go.Proofs.YtfooiggedgcjcaaGreatDoor.T
open Go Go.RowKit Go.Proofs.YtfooiggedgcjcaaGreatDoor.B Go.Proofs.YtfooiggedgcjcaaGreatDoor.K Go.Proofs.YtfooiggedgcjcaaGreatDoor.E Go.Proofs.YtfooiggedgcjcaaGreatDoor.R
set_option linter.unusedVariables false

/-- Nothing but blocks of S has turned; new memory may have come. -/
structure Chg (S : Nat → Prop) (w w' : World) : Prop where
  os : w'.os = w.os
  tape : w'.tape = w.tape
  output : w'.output = w.output
  size : w.heap.size ≤ w'.heap.size
  block : ∀ k, k < w.heap.size → ¬ S k → w'.heap[k]? = w.heap[k]?

theorem Chg.refl (S : Nat → Prop) (w : World) : Chg S w w := ⟨rfl, rfl, rfl, Nat.le_refl _, fun _ _ _ => rfl⟩
/-- Two one behind the other: of what was there at first, S alone. -/
theorem Chg.then {S S' : Nat → Prop} {a b c : World} (h : Chg S a b) (g : Chg S' b c) (hs : ∀ k, S' k → k < a.heap.size → S k) : Chg S a c :=
  ⟨g.os.trans h.os, g.tape.trans h.tape, g.output.trans h.output, Nat.le_trans h.size g.size, fun k hk hn => (g.block k (Nat.lt_of_lt_of_le hk h.size) (fun hm => hn (hs k hm hk))).trans (h.block k hk hn)⟩
theorem Chg.trans {S : Nat → Prop} {a b c : World} (h : Chg S a b) (g : Chg S b c) : Chg S a c := h.then g fun _ hk _ => hk
theorem Chg.mono {S S' : Nat → Prop} {a b : World} (h : Chg S a b) (hs : ∀ k, S k → S' k) : Chg S' a b := ⟨h.os, h.tape, h.output, h.size, fun k hk hn => h.block k hk fun hm => hn (hs k hm)⟩
theorem Chg.of {S : Nat → Prop} {a b : World} (h : Below a.heap.size a b) : Chg S a b := ⟨h.os, h.tape, h.output, h.size, fun k hk _ => h.block k hk⟩
theorem Chg.below {S : Nat → Prop} {B : Nat} {a b : World} (h : Chg S a b) (hs : ∀ k, S k → B ≤ k) (hB : B ≤ a.heap.size) : Below B a b :=
  ⟨h.os, h.tape, h.output, h.size, fun k hk => h.block k (by omega) fun hm => by have := hs k hm; omega⟩
theorem Chg.grown {S : Nat → Prop} {a b : World} {r : Option Nat} (h : a.grownBy b r) (hs : ∀ k, r = some k → S k) : Chg S a b := ⟨h.os, h.tape, h.output, h.size, fun k hk hn => h.block k hk fun e => hn (hs k e.symm)⟩
theorem Chg.set {S : Nat → Prop} (w : World) {g : Nat} (o : Nat) (v : Value) (hg : S g) : Chg S w (w.setCell ⟨g, o, none⟩ v) :=
  ⟨rfl, rfl, rfl, by simp, fun k hk hn => heap_setCell_other _ ⟨g, o, none⟩ _ _ fun e => hn (by rw [e]; exact hg)⟩
theorem Chg.drew {S : Nat → Prop} (w : World) (n : Nat) : Chg S w (w.drewN n) := Chg.of (below_drewN (Below.refl _ _) n)
theorem Chg.alloc {S : Nat → Prop} (w : World) (o : Obj) : Chg S w (w.alloc o) := Chg.of ((Below.refl _ _).alloc (Nat.le_refl _) o)
theorem Chg.heap {S : Nat → Prop} {a b : World} (h : Chg S a b) {k : Nat} {o : Obj} (hk : a.heap[k]? = some o) (hn : ¬ S k) : b.heap[k]? = some o := (h.block k (Array.getElem?_eq_some_iff.1 hk).1 hn).trans hk
theorem Chg.cells {S : Nat → Prop} {a b : World} (h : Chg S a b) {g : Nat} (hg : g < a.heap.size) (hn : ¬ S g) (o : Nat) : b.cell? ⟨g, o, none⟩ = a.cell? ⟨g, o, none⟩ := by
  unfold World.cell?
  rw [h.block g hg hn]
theorem Chg.frozens {S : Nat → Prop} {a b : World} (h : Chg S a b) {g : Nat} (hg : g < a.heap.size) (hn : ¬ S g) (o : Nat) : b.frozen? ⟨g, o, none⟩ = a.frozen? ⟨g, o, none⟩ := by
  unfold World.frozen?
  rw [h.block g hg hn]
theorem Chg.cell {S : Nat → Prop} {a b : World} (h : Chg S a b) {g o : Nat} {v : Value} (hc : a.cell? ⟨g, o, none⟩ = some v) (hn : ¬ S g) : b.cell? ⟨g, o, none⟩ = some v := (h.cells (World.block_lt_of_cell? a _ hc) hn o).trans hc
theorem Chg.own {S : Nat → Prop} {a b : World} (h : Chg S a b) {base n size : Nat} {e : TypeId} {v : Value} {xs : List Value} (ho : a.ownsRow base e size v n xs) (hn : ∀ k, v.ownBlock = some k → ¬ S k) : b.ownsRow base e size v n xs := by
  refine ⟨ho.1, ?_⟩
  rcases ho.2 with h0 | ⟨g, cap, cur, h1, h2, h3, h4⟩
  · exact Or.inl h0
  · exact Or.inr ⟨g, cap, cur, h1, h2, h.heap h3 (hn g (by rw [h1]; rfl)), h4⟩

/-- All cells that F has, w has. -/
def Sub (F w : World) : Prop := ∀ b o c, F.cell? ⟨b, o, none⟩ = some c → w.cell? ⟨b, o, none⟩ = some c

theorem Sub.refl (w : World) : Sub w w := fun _ _ _ h => h
theorem Sub.trans {a b c : World} (h : Sub a b) (g : Sub b c) : Sub a c := fun b o c h1 => g b o c (h b o c h1)

/-- What holds of P without looking at blocks of S. -/
def Closed (S : Nat → Prop) (w : World) (P : World → Prop) : Prop := ∃ F, Sub F w ∧ (∀ k o, S k → F.cell? ⟨k, o, none⟩ = none) ∧ P F
/-- More cells do no harm. -/
def Mono (P : World → Prop) : Prop := ∀ F F', Sub F F' → P F → P F'

theorem exists_hide (S : Nat → Prop) (w : World) : ∃ F : World, (∀ k o, S k → F.cell? ⟨k, o, none⟩ = none) ∧ ∀ k o, ¬ S k → F.cell? ⟨k, o, none⟩ = w.cell? ⟨k, o, none⟩ := by
  classical
  refine ⟨{ w with heap := w.heap.mapIdx fun i o => if S i then .cells #[] 0 (0, 0) else o }, fun k o h => ?_, fun k o h => ?_⟩
  · have e : (w.heap.mapIdx fun i o => if S i then Obj.cells #[] 0 (0, 0) else o)[k]? = (w.heap[k]?).map fun _ => .cells #[] 0 (0, 0) := by
      rw [Array.getElem?_mapIdx]
      cases w.heap[k]? with
      | none => rfl
      | some x => simp [h]
    unfold World.cell?
    simp only [e]
    cases w.heap[k]? <;> simp
  · have e : (w.heap.mapIdx fun i o => if S i then Obj.cells #[] 0 (0, 0) else o)[k]? = w.heap[k]? := by
      rw [Array.getElem?_mapIdx]
      cases w.heap[k]? with
      | none => rfl
      | some x => simp [h]
    unfold World.cell?
    simp only [e]

theorem Closed.out {S : Nat → Prop} {w : World} {P : World → Prop} (h : Closed S w P) (m : Mono P) : P w := by obtain ⟨F, h1, _, h3⟩ := h; exact m F w h1 h3
/-- What was closed and has not turned is closed still. -/
theorem Closed.step {S S' T : Nat → Prop} {w w' : World} {P : World → Prop} (h : Closed S w P) (hc : Chg T w w') (hT : ∀ k, T k → k < w.heap.size → S k) (hS : ∀ k, S' k → k < w.heap.size → S k) : Closed S' w' P := by
  obtain ⟨F, h1, h2, h3⟩ := h
  refine ⟨F, fun b o c hb => ?_, fun k o hk => ?_, h3⟩
  · have hw := h1 b o c hb
    have hlt : b < w.heap.size := World.block_lt_of_cell? w _ hw
    exact hc.cell hw fun hm => by rw [h2 b o (hT b hm hlt)] at hb; cases hb
  · cases hq : F.cell? ⟨k, o, none⟩ with
    | none => rfl
    | some c =>
      have hlt : k < w.heap.size := World.block_lt_of_cell? w _ (h1 k o c hq)
      rw [h2 k o (hS k hk hlt)] at hq; cases hq
/-- All that is closed, and what stands in blocks that are not open. -/
theorem Closed.more {S : Nat → Prop} {w : World} {P Q : World → Prop} (h : Closed S w P) (m : Mono P) (hQ : ∀ F, (∀ k o, ¬ S k → F.cell? ⟨k, o, none⟩ = w.cell? ⟨k, o, none⟩) → P F → Q F) : Closed S w Q := by
  obtain ⟨F, h1, h2, h3⟩ := h
  obtain ⟨F', g1, g2⟩ := exists_hide S w
  have hs : Sub F F' := fun b o c hb => by
    by_cases hk : S b
    · rw [h2 b o hk] at hb; cases hb
    · rw [g2 b o hk]; exact h1 b o c hb
  refine ⟨F', fun b o c hb => ?_, g1, hQ F' g2 (m F F' hs h3)⟩
  by_cases hk : S b
  · rw [g1 b o hk] at hb; cases hb
  · rwa [g2 b o hk] at hb
theorem Closed.nothing (S : Nat → Prop) (w : World) : Closed S w fun _ => True := by
  obtain ⟨F', g1, g2⟩ := exists_hide S w
  refine ⟨F', fun b o c hb => ?_, g1, trivial⟩
  by_cases hk : S b
  · rw [g1 b o hk] at hb; cases hb
  · rwa [g2 b o hk] at hb
theorem Closed.imp {S : Nat → Prop} {w : World} {P Q : World → Prop} (h : Closed S w P) (hq : ∀ F, P F → Q F) : Closed S w Q := by obtain ⟨F, h1, h2, h3⟩ := h; exact ⟨F, h1, h2, hq F h3⟩
theorem Closed.and {S : Nat → Prop} {w : World} {P Q : World → Prop} (h : Closed S w P) (g : Closed S w Q) (m : Mono P) (n : Mono Q) : Closed S w fun F => P F ∧ Q F := by
  obtain ⟨G, g1, g2, g3⟩ := g
  refine h.more m fun F' hF hP => ⟨hP, n G F' (fun b o c hb => ?_) g3⟩
  by_cases hk : S b
  · rw [g2 b o hk] at hb; cases hb
  · rw [hF b o hk]; exact g1 b o c hb

theorem sl_sub {F w : World} (h : Sub F w) {v : Value} {xs : List Value} (hs : Sl F v xs) : Sl w v xs := by
  obtain ⟨a, cap, rfl, hc⟩ := hs
  refine ⟨a, cap, rfl, fun j u hj => ?_⟩
  obtain ⟨b, off, ha, hcell⟩ := hc j u hj
  exact ⟨b, off, ha, h _ _ _ hcell⟩
theorem sli_sub {F w : World} (h : Sub F w) {v : Value} {xs : List (Int × Int)} (hs : SlI F v xs) : SlI w v xs := by
  obtain ⟨a, cap, rfl, hc⟩ := hs
  refine ⟨a, cap, rfl, fun j u hj => ?_⟩
  obtain ⟨b, off, ha, h1, h2⟩ := hc j u hj
  exact ⟨b, off, ha, h _ _ _ h1, h _ _ _ h2⟩
theorem slof_sub {X : Type} {F w : World} (h : Sub F w) {k : Nat} {Q Q' : List Value → X → Prop} {v : Value} {xs : List X} (hs : SlOf F k Q v xs) (hq : ∀ cs x, Q cs x → Q' cs x) : SlOf w k Q' v xs := by
  obtain ⟨a, cap, rfl, hc⟩ := hs
  refine ⟨a, cap, rfl, fun j x hj => ?_⟩
  obtain ⟨b, off, ha, cs, hl, hQ, h1⟩ := hc j x hj
  exact ⟨b, off, ha, cs, hl, hq _ _ hQ, fun i c hi => h _ _ _ (h1 i c hi)⟩
theorem gd_sub {F w : World} (h : Sub F w) {cs : List Value} {g : Gd} (hs : GdIs F cs g) : GdIs w cs g := by obtain ⟨t, rfl, h1⟩ := hs; exact ⟨t, rfl, sli_sub h h1⟩
theorem se_sub {F w : World} (h : Sub F w) {cs : List Value} {g : Se} (hs : SeIs F cs g) : SeIs w cs g := by obtain ⟨t, rfl, h1⟩ := hs; exact ⟨t, rfl, sli_sub h h1⟩
theorem sp_sub {F w : World} (h : Sub F w) {cs : List Value} {g : Sp} (hs : SpIs F cs g) : SpIs w cs g := by obtain ⟨t, rfl, h1⟩ := hs; exact ⟨t, rfl, slof_sub h h1 fun _ _ q => se_sub h q⟩
theorem rl_sub {F w : World} (h : Sub F w) {cs : List Value} {g : Rl} (hs : RlIs F cs g) : RlIs w cs g := by
  obtain ⟨f, x, s, rfl, h1, h2, h3⟩ := hs
  exact ⟨f, x, s, rfl, sl_sub h h1, slof_sub h h2 fun _ _ q => gd_sub h q, slof_sub h h3 fun _ _ q => sp_sub h q⟩

/-- A slice whose block is not open. -/
theorem sl_shut {S : Nat → Prop} {F w : World} (hF : ∀ k o, ¬ S k → F.cell? ⟨k, o, none⟩ = w.cell? ⟨k, o, none⟩) {v : Value} {xs : List Value} (h : Sl w v xs) (hn : ∀ k, v.ownBlock = some k → ¬ S k) : Sl F v xs := by
  obtain ⟨a, cap, rfl, hc⟩ := h
  refine ⟨a, cap, rfl, fun j u hj => ?_⟩
  obtain ⟨b, off, rfl, h1⟩ := hc j u hj
  exact ⟨b, off, rfl, by rw [hF b _ (hn b rfl)]; exact h1⟩
theorem sli_shut {S : Nat → Prop} {F w : World} (hF : ∀ k o, ¬ S k → F.cell? ⟨k, o, none⟩ = w.cell? ⟨k, o, none⟩) {v : Value} {xs : List (Int × Int)} (h : SlI w v xs) (hn : ∀ k, v.ownBlock = some k → ¬ S k) : SlI F v xs := by
  obtain ⟨a, cap, rfl, hc⟩ := h
  refine ⟨a, cap, rfl, fun j i hj => ?_⟩
  obtain ⟨b, off, rfl, h1, h2⟩ := hc j i hj
  exact ⟨b, off, rfl, by rw [hF b _ (hn b rfl)]; exact h1, by rw [hF b _ (hn b rfl)]; exact h2⟩
theorem slof_shut {X : Type} {S : Nat → Prop} {F w : World} (hF : ∀ k o, ¬ S k → F.cell? ⟨k, o, none⟩ = w.cell? ⟨k, o, none⟩) {k : Nat} {Q : List Value → X → Prop} {v : Value} {xs : List X} (h : SlOf w k Q v xs) (hn : ∀ k, v.ownBlock = some k → ¬ S k) : SlOf F k Q v xs := by
  obtain ⟨a, cap, rfl, hc⟩ := h
  refine ⟨a, cap, rfl, fun j x hj => ?_⟩
  obtain ⟨b, off, rfl, cs, hl, hQ, h1⟩ := hc j x hj
  exact ⟨b, off, rfl, cs, hl, hQ, fun i c hi => by rw [hF b _ (hn b rfl)]; exact h1 i c hi⟩
end Go.Proofs.YtfooiggedgcjcaaGreatDoor.T
