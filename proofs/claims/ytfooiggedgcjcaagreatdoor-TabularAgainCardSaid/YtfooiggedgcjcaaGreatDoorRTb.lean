/-
  Layer 5: the law's own table, read; what is known of it.
-/
import Derived.Test.YtfooiggedgcjcaaGreatDoorRTa
namespace Go.Proofs.YtfooiggedgcjcaaGreatDoor.R
open Go Go.RowKit Go.Proofs.YtfooiggedgcjcaaGreatDoor.B Go.Proofs.YtfooiggedgcjcaaGreatDoor.K Go.Proofs.YtfooiggedgcjcaaGreatDoor.E
set_option linter.unusedVariables false

/-- The law's own table; fr: the states that the second rule is for. -/
def sampleT (fr : List Int) : Tb := ⟨[[100, 114, 97, 102, 116], [111, 112, 101, 110], [100, 111, 110, 101]], [[116, 111, 116, 97, 108], [109, 97, 110, 121]], [0, 0], [
  ⟨[97, 100, 100], 1, [0, 1], [⟨16, [(1, 0), (3, 0), (11, 0)]⟩, ⟨17, [(2, 1), (1, 5), (11, 0)]⟩], [⟨[⟨0, [(2, 0), (3, 0), (6, 0)]⟩, ⟨1, [(2, 1), (1, 1), (6, 0)]⟩], 1⟩]⟩,
  ⟨[100, 111, 117, 98, 108, 101], 0, fr, [], [⟨[⟨0, [(2, 0), (1, 2), (8, 0)]⟩], -1⟩, ⟨[⟨1, [(2, 0), (1, 9), (9, 0)]⟩], -1⟩]⟩,
  ⟨[99, 108, 111, 115, 101], 0, [1], [⟨20, [(1, 3), (2, 0), (12, 0)]⟩], [⟨[], 2⟩]⟩,
  ⟨[97, 103, 97, 105, 110], 2, [], [], [⟨[⟨0, [(3, 0), (3, 1), (7, 0)]⟩], 0⟩]⟩]⟩

theorem code_row3 {W : World} {g : Nat} {a0 b0 a1 b1 a2 b2 : Int} {T : TypeId} {f : Nat × Nat} (h : W.heap[g]? = some (.cells #[.int .i64 a0, .int .i64 b0, .int .i64 a1, .int .i64 b1, .int .i64 a2, .int .i64 b2] T f)) :
    SlI W (.slice (some ⟨g, 0, none⟩) 3 3) [(a0, b0), (a1, b1), (a2, b2)] := by
  refine ⟨_, 3, rfl, fun j i hj => ⟨g, 0, rfl, ?_⟩⟩
  match j, hj with
  | 0, hj => cases hj; exact ⟨by unfold World.cell?; rw [h]; rfl, by unfold World.cell?; rw [h]; rfl⟩
  | 1, hj => cases hj; exact ⟨by unfold World.cell?; rw [h]; rfl, by unfold World.cell?; rw [h]; rfl⟩
  | 2, hj => cases hj; exact ⟨by unfold World.cell?; rw [h]; rfl, by unfold World.cell?; rw [h]; rfl⟩
  | j + 3, hj => cases hj

/-- A slice whose block is known, of structs. -/
theorem slof_heap {X : Type} {W : World} {g : Nat} {arr : Array Value} {T : TypeId} {f : Nat × Nat} (h : W.heap[g]? = some (.cells arr T f)) (k : Nat) (Q : List Value → X → Prop) (xs : List X) (rows : List (List Value)) (cap : Nat) (ha : arr.toList = rows.flatten) (h1 : rows.length = xs.length)
    (h2 : ∀ (j : Nat) x cs, xs[j]? = some x → rows[j]? = some cs → cs.length = k ∧ Q cs x) : SlOf W k Q (.slice (some ⟨g, 0, none⟩) xs.length cap) xs := by
  have hl : ∀ r ∈ rows, r.length = k := by
    intro r hr
    obtain ⟨j, hj, rfl⟩ := List.getElem_of_mem hr
    exact (h2 j (xs[j]'(by omega)) _ (List.getElem?_eq_getElem (by omega)) (List.getElem?_eq_getElem hj)).1
  refine ⟨_, cap, rfl, fun j x hj => ?_⟩
  have hjx := (List.getElem?_eq_some_iff.1 hj).1
  obtain ⟨cs, hcs⟩ : ∃ cs, rows[j]? = some cs := ⟨_, List.getElem?_eq_getElem (by omega)⟩
  obtain ⟨e1, e2⟩ := h2 j x cs hj hcs
  refine ⟨_, 0, rfl, cs, e1, e2, fun i c hi => ?_⟩
  have hik : i < k := by rw [← e1]; exact (List.getElem?_eq_some_iff.1 hi).1
  have := flatten_at k rows hl j cs hcs i hik
  unfold World.cell?
  rw [h]
  show arr[0 + j * k + i]? = some c
  rw [Nat.zero_add, ← Array.getElem?_toList, ha, this]
  exact hi

theorem two_of {X : Type} {Q : List Value → X → Prop} {k : Nat} {x y : X} {a b : List Value} (h1 : a.length = k ∧ Q a x) (h2 : b.length = k ∧ Q b y) : ∀ (j : Nat) z cs, [x, y][j]? = some z → [a, b][j]? = some cs → cs.length = k ∧ Q cs z := by
  intro j z cs hz hcs
  match j, hz, hcs with
  | 0, hz, hcs => cases hz; cases hcs; exact h1
  | 1, hz, hcs => cases hz; cases hcs; exact h2
  | j + 2, hz, hcs => cases hz
theorem one_of {X : Type} {Q : List Value → X → Prop} {k : Nat} {x : X} {a : List Value} (h1 : a.length = k ∧ Q a x) : ∀ (j : Nat) z cs, [x][j]? = some z → [a][j]? = some cs → cs.length = k ∧ Q cs z := by
  intro j z cs hz hcs
  match j, hz, hcs with
  | 0, hz, hcs => cases hz; cases hcs; exact h1
  | j + 1, hz, hcs => cases hz
theorem four_of {X : Type} {Q : List Value → X → Prop} {k : Nat} {x y z u : X} {a b c d : List Value} (h1 : a.length = k ∧ Q a x) (h2 : b.length = k ∧ Q b y) (h3 : c.length = k ∧ Q c z) (h4 : d.length = k ∧ Q d u) : ∀ (j : Nat) w cs, [x, y, z, u][j]? = some w → [a, b, c, d][j]? = some cs → cs.length = k ∧ Q cs w := by
  intro j w cs hz hcs
  match j, hz, hcs with
  | 0, hz, hcs => cases hz; cases hcs; exact h1
  | 1, hz, hcs => cases hz; cases hcs; exact h2
  | 2, hz, hcs => cases hz; cases hcs; exact h3
  | 3, hz, hcs => cases hz; cases hcs; exact h4
  | j + 4, hz, hcs => cases hz

theorem samp_tb {W : World} {G : Nat → Nat} {vF : Value} {fr : List Int} (h : SampAt W G vF) (hF : SlN W vF fr) :
    TbIs W [.slice (some ⟨G 1, 0, none⟩) 3 3, .slice (some ⟨G 2, 0, none⟩) 2 2, .slice (some ⟨G 3, 0, none⟩) 2 2, .slice (some ⟨G 66, 0, none⟩) 4 4] (sampleT fr) := by
  obtain ⟨h1, h2, h3, h4, h8, h13, h15, h19, h24, h26, h28, h30, h34, h36, h41, h43, h45, h47, h51, h53, h55, h60, h62, h64, h66⟩ := h
  have c8 := code_row3 h8
  have c13 := code_row3 h13
  have c19 := code_row3 h19
  have c24 := code_row3 h24
  have c34 := code_row3 h34
  have c41 := code_row3 h41
  have c51 := code_row3 h51
  have c60 := code_row3 h60
  have s15 : SlOf W 2 (GdIs W) (.slice (some ⟨G 15, 0, none⟩) 2 2) [⟨16, [(1, 0), (3, 0), (11, 0)]⟩, ⟨17, [(2, 1), (1, 5), (11, 0)]⟩] :=
    slof_heap h15 2 (GdIs W) _ [[.int .i64 16, .slice (some ⟨G 8, 0, none⟩) 3 3], [.int .i64 17, .slice (some ⟨G 13, 0, none⟩) 3 3]] 2 rfl rfl (two_of ⟨rfl, _, rfl, c8⟩ ⟨rfl, _, rfl, c13⟩)
  have s26 : SlOf W 2 (SeIs W) (.slice (some ⟨G 26, 0, none⟩) 2 2) [⟨0, [(2, 0), (3, 0), (6, 0)]⟩, ⟨1, [(2, 1), (1, 1), (6, 0)]⟩] :=
    slof_heap h26 2 (SeIs W) _ [[.int .i64 0, .slice (some ⟨G 19, 0, none⟩) 3 3], [.int .i64 1, .slice (some ⟨G 24, 0, none⟩) 3 3]] 2 rfl rfl (two_of ⟨rfl, _, rfl, c19⟩ ⟨rfl, _, rfl, c24⟩)
  have s28 : SlOf W 2 (SpIs W) (.slice (some ⟨G 28, 0, none⟩) 1 1) [⟨[⟨0, [(2, 0), (3, 0), (6, 0)]⟩, ⟨1, [(2, 1), (1, 1), (6, 0)]⟩], 1⟩] :=
    slof_heap h28 2 (SpIs W) _ [[.slice (some ⟨G 26, 0, none⟩) 2 2, .int .i64 1]] 1 rfl rfl (one_of ⟨rfl, _, rfl, s26⟩)
  have s36 : SlOf W 2 (SeIs W) (.slice (some ⟨G 36, 0, none⟩) 1 1) [⟨0, [(2, 0), (1, 2), (8, 0)]⟩] :=
    slof_heap h36 2 (SeIs W) _ [[.int .i64 0, .slice (some ⟨G 34, 0, none⟩) 3 3]] 1 rfl rfl (one_of ⟨rfl, _, rfl, c34⟩)
  have s43 : SlOf W 2 (SeIs W) (.slice (some ⟨G 43, 0, none⟩) 1 1) [⟨1, [(2, 0), (1, 9), (9, 0)]⟩] :=
    slof_heap h43 2 (SeIs W) _ [[.int .i64 1, .slice (some ⟨G 41, 0, none⟩) 3 3]] 1 rfl rfl (one_of ⟨rfl, _, rfl, c41⟩)
  have s45 : SlOf W 2 (SpIs W) (.slice (some ⟨G 45, 0, none⟩) 2 2) [⟨[⟨0, [(2, 0), (1, 2), (8, 0)]⟩], -1⟩, ⟨[⟨1, [(2, 0), (1, 9), (9, 0)]⟩], -1⟩] :=
    slof_heap h45 2 (SpIs W) _ [[.slice (some ⟨G 36, 0, none⟩) 1 1, .int .i64 (-1)], [.slice (some ⟨G 43, 0, none⟩) 1 1, .int .i64 (-1)]] 2 rfl rfl (two_of ⟨rfl, _, rfl, s36⟩ ⟨rfl, _, rfl, s43⟩)
  have s53 : SlOf W 2 (GdIs W) (.slice (some ⟨G 53, 0, none⟩) 1 1) [⟨20, [(1, 3), (2, 0), (12, 0)]⟩] :=
    slof_heap h53 2 (GdIs W) _ [[.int .i64 20, .slice (some ⟨G 51, 0, none⟩) 3 3]] 1 rfl rfl (one_of ⟨rfl, _, rfl, c51⟩)
  have s55 : SlOf W 2 (SpIs W) (.slice (some ⟨G 55, 0, none⟩) 1 1) [⟨[], 2⟩] :=
    slof_heap h55 2 (SpIs W) _ [[.slice none 0 0, .int .i64 2]] 1 rfl rfl (one_of ⟨rfl, _, rfl, SlOf.nil W 2 _⟩)
  have s62 : SlOf W 2 (SeIs W) (.slice (some ⟨G 62, 0, none⟩) 1 1) [⟨0, [(3, 0), (3, 1), (7, 0)]⟩] :=
    slof_heap h62 2 (SeIs W) _ [[.int .i64 0, .slice (some ⟨G 60, 0, none⟩) 3 3]] 1 rfl rfl (one_of ⟨rfl, _, rfl, c60⟩)
  have s64 : SlOf W 2 (SpIs W) (.slice (some ⟨G 64, 0, none⟩) 1 1) [⟨[⟨0, [(3, 0), (3, 1), (7, 0)]⟩], 0⟩] :=
    slof_heap h64 2 (SpIs W) _ [[.slice (some ⟨G 62, 0, none⟩) 1 1, .int .i64 0]] 1 rfl rfl (one_of ⟨rfl, _, rfl, s62⟩)
  have n4 : SlN W (.slice (some ⟨G 4, 0, none⟩) 2 2) [0, 1] := Sl.row (xs := [.int .i64 0, .int .i64 1]) h4 rfl
  have n47 : SlN W (.slice (some ⟨G 47, 0, none⟩) 1 1) [1] := Sl.row (xs := [.int .i64 1]) h47 rfl
  refine ⟨_, _, _, _, rfl, Sl.row (xs := (sampleT fr).states.map sv) h1 rfl, Sl.row (xs := (sampleT fr).vars.map sv) h2 rfl, Sl.row (xs := [.int .i64 0, .int .i64 0]) h3 rfl, ?_⟩
  exact slof_heap h66 5 (RlIs W) (sampleT fr).rules [[sv [97, 100, 100], .int .i64 1, .slice (some ⟨G 4, 0, none⟩) 2 2, .slice (some ⟨G 15, 0, none⟩) 2 2, .slice (some ⟨G 28, 0, none⟩) 1 1],
    [sv [100, 111, 117, 98, 108, 101], .int .i64 0, vF, .slice none 0 0, .slice (some ⟨G 45, 0, none⟩) 2 2],
    [sv [99, 108, 111, 115, 101], .int .i64 0, .slice (some ⟨G 47, 0, none⟩) 1 1, .slice (some ⟨G 53, 0, none⟩) 1 1, .slice (some ⟨G 55, 0, none⟩) 1 1],
    [sv [97, 103, 97, 105, 110], .int .i64 2, .slice none 0 0, .slice none 0 0, .slice (some ⟨G 64, 0, none⟩) 1 1]] 4 rfl rfl
    (four_of ⟨rfl, _, _, _, rfl, n4, s15, s28⟩ ⟨rfl, _, _, _, rfl, hF, SlOf.nil W 2 _, s45⟩ ⟨rfl, _, _, _, rfl, n47, s53, s55⟩ ⟨rfl, _, _, _, rfl, Sl.nil W, SlOf.nil W 2 _, s64⟩)

theorem samp_set {W : World} {G : Nat → Nat} {vF : Value} (h : SampAt W G vF) (hG : ∀ i ∈ sampSlots, i ≠ 66 → G i < G 66) (x : Value) : SampAt (W.setCell ⟨G 66, 7, none⟩ x) G x := by
  have hne : ∀ (i : Nat) o, i ∈ sampSlots → i ≠ 66 → W.heap[G i]? = some o → (W.setCell ⟨G 66, 7, none⟩ x).heap[G i]? = some o := by
    intro i o hi h6 ho
    rw [heap_setCell_other _ ⟨G 66, 7, none⟩ _ _ (by have := hG i hi h6; show G i ≠ G 66; omega)]; exact ho
  obtain ⟨h1, h2, h3, h4, h8, h13, h15, h19, h24, h26, h28, h30, h34, h36, h41, h43, h45, h47, h51, h53, h55, h60, h62, h64, h66⟩ := h
  refine ⟨hne 1 _ (by decide) (by decide) h1, hne 2 _ (by decide) (by decide) h2, hne 3 _ (by decide) (by decide) h3, hne 4 _ (by decide) (by decide) h4, hne 8 _ (by decide) (by decide) h8, hne 13 _ (by decide) (by decide) h13, hne 15 _ (by decide) (by decide) h15, hne 19 _ (by decide) (by decide) h19, hne 24 _ (by decide) (by decide) h24, hne 26 _ (by decide) (by decide) h26, hne 28 _ (by decide) (by decide) h28, hne 30 _ (by decide) (by decide) h30, hne 34 _ (by decide) (by decide) h34, hne 36 _ (by decide) (by decide) h36, hne 41 _ (by decide) (by decide) h41, hne 43 _ (by decide) (by decide) h43, hne 45 _ (by decide) (by decide) h45, hne 47 _ (by decide) (by decide) h47, hne 51 _ (by decide) (by decide) h51, hne 53 _ (by decide) (by decide) h53, hne 55 _ (by decide) (by decide) h55, hne 60 _ (by decide) (by decide) h60, hne 62 _ (by decide) (by decide) h62, hne 64 _ (by decide) (by decide) h64, ?_⟩
  exact heap_setCell_same _ (G 66) 7 _ 58 x h66

theorem sample_chk : chk5 (sampleT [1]) = (0, 0, 0, 0) := by decide
theorem sample_bad : chk5 (sampleT [3]) = (3, 1, 7, 0) := by decide
theorem sample_find : idxP (fun r => r.name == [99, 108, 111, 115, 101]) (sampleT [1]).rules = 2 := by decide
theorem sample_wf (fr : List Int) (h : (∀ x ∈ fr, I64 x) ∧ fr.length ≤ 9223372036854775807) : TbWf (sampleT fr) := by
  obtain ⟨h1, h2⟩ := h
  simp only [TbWf, RlWf, SpWf, SeWf, GdWf, CodeWf, I64, sampleT, List.forall_mem_cons, List.length_cons, List.length_nil] at h1 ⊢
  simp
  exact ⟨h1, h2⟩
end Go.Proofs.YtfooiggedgcjcaaGreatDoor.R
