/-
  Layer 5: the law's own table, read; what is known of it.
  Layer 5: what must come at any rate, of the law.
-/
import Derived.Test.YtfcdkjhabdpijaaDoorRTa
import Derived.Test.YtfcdkjhabdpijaaDoorRMf
import Derived.Test.YtfcdkjhabdpijaaDoorKLaw
namespace Go.Proofs.YtfcdkjhabdpijaaDoor.R
open Go Go.RowKit Go.Proofs.YtfcdkjhabdpijaaDoor.B Go.Proofs.YtfcdkjhabdpijaaDoor.K Go.Proofs.YtfcdkjhabdpijaaDoor.E
set_option linter.unusedVariables false

/-- The law's own table; fr: the states that the second rule is for. -/
def sampleT (fr : List Int) : Tb := ⟨[[100, 114, 97, 102, 116], [111, 112, 101, 110], [100, 111, 110, 101]], [[116, 111, 116, 97, 108], [109, 97, 110, 121]], [0, 0], [
  ⟨[97, 100, 100], 1, [0, 1], [⟨16, [(1, 0), (3, 0), (11, 0)]⟩, ⟨17, [(2, 1), (1, 5), (11, 0)]⟩], [⟨[⟨0, [(2, 0), (3, 0), (6, 0)]⟩, ⟨1, [(2, 1), (1, 1), (6, 0)]⟩], 1⟩]⟩,
  ⟨[100, 111, 117, 98, 108, 101], 0, fr, [], [⟨[⟨0, [(2, 0), (1, 2), (8, 0)]⟩], -1⟩, ⟨[⟨1, [(2, 0), (1, 9), (9, 0)]⟩], -1⟩]⟩,
  ⟨[99, 108, 111, 115, 101], 0, [1], [⟨20, [(1, 3), (2, 0), (12, 0)]⟩], [⟨[], 2⟩]⟩,
  ⟨[97, 103, 97, 105, 110], 2, [], [], [⟨[⟨0, [(3, 0), (3, 1), (7, 0)]⟩], 0⟩]⟩]⟩

theorem code_row3 {W : World} {g : Nat} {a0 b0 a1 b1 a2 b2 : Int} {T : TypeId} {f : Nat × Nat} (h : W.heap[g]? = some (.cells #[.int .i64 a0, .int .i64 b0, .int .i64 a1, .int .i64 b1, .int .i64 a2, .int .i64 b2] T f)) :
    SlI W (.slice (some ⟨g, 0, none⟩) 3 3) [(a0, b0), (a1, b1), (a2, b2)] := by
  refine ⟨_, 3, rfl, fun j i hj => ⟨g, 0, rfl, ?_⟩⟩
  match j, hj with
  | 0, hj => cases hj; exact ⟨by unfold World.cell?; rw [h]; rfl, by unfold World.cell?; rw [h]; rfl⟩
  | 1, hj => cases hj; exact ⟨by unfold World.cell?; rw [h]; rfl, by unfold World.cell?; rw [h]; rfl⟩
  | 2, hj => cases hj; exact ⟨by unfold World.cell?; rw [h]; rfl, by unfold World.cell?; rw [h]; rfl⟩
  | j + 3, hj => cases hj

/-- A slice whose block is known, of structs. -/
theorem slof_heap {X : Type} {W : World} {g : Nat} {arr : Array Value} {T : TypeId} {f : Nat × Nat} (h : W.heap[g]? = some (.cells arr T f)) (k : Nat) (Q : List Value → X → Prop) (xs : List X) (rows : List (List Value)) (cap : Nat) (ha : arr.toList = rows.flatten) (h1 : rows.length = xs.length)
    (h2 : ∀ (j : Nat) x cs, xs[j]? = some x → rows[j]? = some cs → cs.length = k ∧ Q cs x) : SlOf W k Q (.slice (some ⟨g, 0, none⟩) xs.length cap) xs := by
  have hl : ∀ r ∈ rows, r.length = k := by
    intro r hr
    obtain ⟨j, hj, rfl⟩ := List.getElem_of_mem hr
    exact (h2 j (xs[j]'(by omega)) _ (List.getElem?_eq_getElem (by omega)) (List.getElem?_eq_getElem hj)).1
  refine ⟨_, cap, rfl, fun j x hj => ?_⟩
  have hjx := (List.getElem?_eq_some_iff.1 hj).1
  obtain ⟨cs, hcs⟩ : ∃ cs, rows[j]? = some cs := ⟨_, List.getElem?_eq_getElem (by omega)⟩
  obtain ⟨e1, e2⟩ := h2 j x cs hj hcs
  refine ⟨_, 0, rfl, cs, e1, e2, fun i c hi => ?_⟩
  have hik : i < k := by rw [← e1]; exact (List.getElem?_eq_some_iff.1 hi).1
  have := flatten_at k rows hl j cs hcs i hik
  unfold World.cell?
  rw [h]
  show arr[0 + j * k + i]? = some c
  rw [Nat.zero_add, ← Array.getElem?_toList, ha, this]
  exact hi

theorem two_of {X : Type} {Q : List Value → X → Prop} {k : Nat} {x y : X} {a b : List Value} (h1 : a.length = k ∧ Q a x) (h2 : b.length = k ∧ Q b y) : ∀ (j : Nat) z cs, [x, y][j]? = some z → [a, b][j]? = some cs → cs.length = k ∧ Q cs z := by
  intro j z cs hz hcs
  match j, hz, hcs with
  | 0, hz, hcs => cases hz; cases hcs; exact h1
  | 1, hz, hcs => cases hz; cases hcs; exact h2
  | j + 2, hz, hcs => cases hz
theorem one_of {X : Type} {Q : List Value → X → Prop} {k : Nat} {x : X} {a : List Value} (h1 : a.length = k ∧ Q a x) : ∀ (j : Nat) z cs, [x][j]? = some z → [a][j]? = some cs → cs.length = k ∧ Q cs z := by
  intro j z cs hz hcs
  match j, hz, hcs with
  | 0, hz, hcs => cases hz; cases hcs; exact h1
  | j + 1, hz, hcs => cases hz
theorem four_of {X : Type} {Q : List Value → X → Prop} {k : Nat} {x y z u : X} {a b c d : List Value} (h1 : a.length = k ∧ Q a x) (h2 : b.length = k ∧ Q b y) (h3 : c.length = k ∧ Q c z) (h4 : d.length = k ∧ Q d u) : ∀ (j : Nat) w cs, [x, y, z, u][j]? = some w → [a, b, c, d][j]? = some cs → cs.length = k ∧ Q cs w := by
  intro j w cs hz hcs
  match j, hz, hcs with
  | 0, hz, hcs => cases hz; cases hcs; exact h1
  | 1, hz, hcs => cases hz; cases hcs; exact h2
  | 2, hz, hcs => cases hz; cases hcs; exact h3
  | 3, hz, hcs => cases hz; cases hcs; exact h4
  | j + 4, hz, hcs => cases hz

theorem samp_tb {W : World} {G : Nat → Nat} {vF : Value} {fr : List Int} (h : SampAt W G vF) (hF : SlN W vF fr) :
    TbIs W [.slice (some ⟨G 1, 0, none⟩) 3 3, .slice (some ⟨G 2, 0, none⟩) 2 2, .slice (some ⟨G 3, 0, none⟩) 2 2, .slice (some ⟨G 66, 0, none⟩) 4 4] (sampleT fr) := by
  obtain ⟨h1, h2, h3, h4, h8, h13, h15, h19, h24, h26, h28, h30, h34, h36, h41, h43, h45, h47, h51, h53, h55, h60, h62, h64, h66⟩ := h
  have c8 := code_row3 h8
  have c13 := code_row3 h13
  have c19 := code_row3 h19
  have c24 := code_row3 h24
  have c34 := code_row3 h34
  have c41 := code_row3 h41
  have c51 := code_row3 h51
  have c60 := code_row3 h60
  have s15 : SlOf W 2 (GdIs W) (.slice (some ⟨G 15, 0, none⟩) 2 2) [⟨16, [(1, 0), (3, 0), (11, 0)]⟩, ⟨17, [(2, 1), (1, 5), (11, 0)]⟩] :=
    slof_heap h15 2 (GdIs W) _ [[.int .i64 16, .slice (some ⟨G 8, 0, none⟩) 3 3], [.int .i64 17, .slice (some ⟨G 13, 0, none⟩) 3 3]] 2 rfl rfl (two_of ⟨rfl, _, rfl, c8⟩ ⟨rfl, _, rfl, c13⟩)
  have s26 : SlOf W 2 (SeIs W) (.slice (some ⟨G 26, 0, none⟩) 2 2) [⟨0, [(2, 0), (3, 0), (6, 0)]⟩, ⟨1, [(2, 1), (1, 1), (6, 0)]⟩] :=
    slof_heap h26 2 (SeIs W) _ [[.int .i64 0, .slice (some ⟨G 19, 0, none⟩) 3 3], [.int .i64 1, .slice (some ⟨G 24, 0, none⟩) 3 3]] 2 rfl rfl (two_of ⟨rfl, _, rfl, c19⟩ ⟨rfl, _, rfl, c24⟩)
  have s28 : SlOf W 2 (SpIs W) (.slice (some ⟨G 28, 0, none⟩) 1 1) [⟨[⟨0, [(2, 0), (3, 0), (6, 0)]⟩, ⟨1, [(2, 1), (1, 1), (6, 0)]⟩], 1⟩] :=
    slof_heap h28 2 (SpIs W) _ [[.slice (some ⟨G 26, 0, none⟩) 2 2, .int .i64 1]] 1 rfl rfl (one_of ⟨rfl, _, rfl, s26⟩)
  have s36 : SlOf W 2 (SeIs W) (.slice (some ⟨G 36, 0, none⟩) 1 1) [⟨0, [(2, 0), (1, 2), (8, 0)]⟩] :=
    slof_heap h36 2 (SeIs W) _ [[.int .i64 0, .slice (some ⟨G 34, 0, none⟩) 3 3]] 1 rfl rfl (one_of ⟨rfl, _, rfl, c34⟩)
  have s43 : SlOf W 2 (SeIs W) (.slice (some ⟨G 43, 0, none⟩) 1 1) [⟨1, [(2, 0), (1, 9), (9, 0)]⟩] :=
    slof_heap h43 2 (SeIs W) _ [[.int .i64 1, .slice (some ⟨G 41, 0, none⟩) 3 3]] 1 rfl rfl (one_of ⟨rfl, _, rfl, c41⟩)
  have s45 : SlOf W 2 (SpIs W) (.slice (some ⟨G 45, 0, none⟩) 2 2) [⟨[⟨0, [(2, 0), (1, 2), (8, 0)]⟩], -1⟩, ⟨[⟨1, [(2, 0), (1, 9), (9, 0)]⟩], -1⟩] :=
    slof_heap h45 2 (SpIs W) _ [[.slice (some ⟨G 36, 0, none⟩) 1 1, .int .i64 (-1)], [.slice (some ⟨G 43, 0, none⟩) 1 1, .int .i64 (-1)]] 2 rfl rfl (two_of ⟨rfl, _, rfl, s36⟩ ⟨rfl, _, rfl, s43⟩)
  have s53 : SlOf W 2 (GdIs W) (.slice (some ⟨G 53, 0, none⟩) 1 1) [⟨20, [(1, 3), (2, 0), (12, 0)]⟩] :=
    slof_heap h53 2 (GdIs W) _ [[.int .i64 20, .slice (some ⟨G 51, 0, none⟩) 3 3]] 1 rfl rfl (one_of ⟨rfl, _, rfl, c51⟩)
  have s55 : SlOf W 2 (SpIs W) (.slice (some ⟨G 55, 0, none⟩) 1 1) [⟨[], 2⟩] :=
    slof_heap h55 2 (SpIs W) _ [[.slice none 0 0, .int .i64 2]] 1 rfl rfl (one_of ⟨rfl, _, rfl, SlOf.nil W 2 _⟩)
  have s62 : SlOf W 2 (SeIs W) (.slice (some ⟨G 62, 0, none⟩) 1 1) [⟨0, [(3, 0), (3, 1), (7, 0)]⟩] :=
    slof_heap h62 2 (SeIs W) _ [[.int .i64 0, .slice (some ⟨G 60, 0, none⟩) 3 3]] 1 rfl rfl (one_of ⟨rfl, _, rfl, c60⟩)
  have s64 : SlOf W 2 (SpIs W) (.slice (some ⟨G 64, 0, none⟩) 1 1) [⟨[⟨0, [(3, 0), (3, 1), (7, 0)]⟩], 0⟩] :=
    slof_heap h64 2 (SpIs W) _ [[.slice (some ⟨G 62, 0, none⟩) 1 1, .int .i64 0]] 1 rfl rfl (one_of ⟨rfl, _, rfl, s62⟩)
  have n4 : SlN W (.slice (some ⟨G 4, 0, none⟩) 2 2) [0, 1] := Sl.row (xs := [.int .i64 0, .int .i64 1]) h4 rfl
  have n47 : SlN W (.slice (some ⟨G 47, 0, none⟩) 1 1) [1] := Sl.row (xs := [.int .i64 1]) h47 rfl
  refine ⟨_, _, _, _, rfl, Sl.row (xs := (sampleT fr).states.map sv) h1 rfl, Sl.row (xs := (sampleT fr).vars.map sv) h2 rfl, Sl.row (xs := [.int .i64 0, .int .i64 0]) h3 rfl, ?_⟩
  exact slof_heap h66 5 (RlIs W) (sampleT fr).rules [[sv [97, 100, 100], .int .i64 1, .slice (some ⟨G 4, 0, none⟩) 2 2, .slice (some ⟨G 15, 0, none⟩) 2 2, .slice (some ⟨G 28, 0, none⟩) 1 1],
    [sv [100, 111, 117, 98, 108, 101], .int .i64 0, vF, .slice none 0 0, .slice (some ⟨G 45, 0, none⟩) 2 2],
    [sv [99, 108, 111, 115, 101], .int .i64 0, .slice (some ⟨G 47, 0, none⟩) 1 1, .slice (some ⟨G 53, 0, none⟩) 1 1, .slice (some ⟨G 55, 0, none⟩) 1 1],
    [sv [97, 103, 97, 105, 110], .int .i64 2, .slice none 0 0, .slice none 0 0, .slice (some ⟨G 64, 0, none⟩) 1 1]] 4 rfl rfl
    (four_of ⟨rfl, _, _, _, rfl, n4, s15, s28⟩ ⟨rfl, _, _, _, rfl, hF, SlOf.nil W 2 _, s45⟩ ⟨rfl, _, _, _, rfl, n47, s53, s55⟩ ⟨rfl, _, _, _, rfl, Sl.nil W, SlOf.nil W 2 _, s64⟩)

theorem samp_set {W : World} {G : Nat → Nat} {vF : Value} (h : SampAt W G vF) (hG : ∀ i ∈ sampSlots, i ≠ 66 → G i < G 66) (x : Value) : SampAt (W.setCell ⟨G 66, 7, none⟩ x) G x := by
  have hne : ∀ (i : Nat) o, i ∈ sampSlots → i ≠ 66 → W.heap[G i]? = some o → (W.setCell ⟨G 66, 7, none⟩ x).heap[G i]? = some o := by
    intro i o hi h6 ho
    rw [heap_setCell_other _ ⟨G 66, 7, none⟩ _ _ (by have := hG i hi h6; show G i ≠ G 66; omega)]; exact ho
  obtain ⟨h1, h2, h3, h4, h8, h13, h15, h19, h24, h26, h28, h30, h34, h36, h41, h43, h45, h47, h51, h53, h55, h60, h62, h64, h66⟩ := h
  refine ⟨hne 1 _ (by decide) (by decide) h1, hne 2 _ (by decide) (by decide) h2, hne 3 _ (by decide) (by decide) h3, hne 4 _ (by decide) (by decide) h4, hne 8 _ (by decide) (by decide) h8, hne 13 _ (by decide) (by decide) h13, hne 15 _ (by decide) (by decide) h15, hne 19 _ (by decide) (by decide) h19, hne 24 _ (by decide) (by decide) h24, hne 26 _ (by decide) (by decide) h26, hne 28 _ (by decide) (by decide) h28, hne 30 _ (by decide) (by decide) h30, hne 34 _ (by decide) (by decide) h34, hne 36 _ (by decide) (by decide) h36, hne 41 _ (by decide) (by decide) h41, hne 43 _ (by decide) (by decide) h43, hne 45 _ (by decide) (by decide) h45, hne 47 _ (by decide) (by decide) h47, hne 51 _ (by decide) (by decide) h51, hne 53 _ (by decide) (by decide) h53, hne 55 _ (by decide) (by decide) h55, hne 60 _ (by decide) (by decide) h60, hne 62 _ (by decide) (by decide) h62, hne 64 _ (by decide) (by decide) h64, ?_⟩
  exact heap_setCell_same _ (G 66) 7 _ 38 x h66

theorem sample_chk : chk5 (sampleT [1]) = (0, 0, 0, 0) := by decide
theorem sample_bad : chk5 (sampleT [3]) = (3, 1, 7, 0) := by decide
theorem sample_for1 : isFor (sampleT [1]) 3 2 = true := by decide
theorem sample_for2 : isFor (sampleT [1]) 0 2 = false := by decide
theorem sample_find : idxP (fun r => r.name == [99, 108, 111, 115, 101]) (sampleT [1]).rules = 2 := by decide
theorem sample_wf (fr : List Int) (h : (∀ x ∈ fr, I64 x) ∧ fr.length ≤ 9223372036854775807) : TbWf (sampleT fr) := by
  obtain ⟨h1, h2⟩ := h
  simp only [TbWf, RlWf, SpWf, SeWf, GdWf, CodeWf, I64, sampleT, List.forall_mem_cons, List.length_cons, List.length_nil] at h1 ⊢
  simp
  exact ⟨h1, h2⟩
theorem sample_reach : Reached (sampleT [1]) 2 := by
  have h1 : Reached (sampleT [1]) 1 := Reached.go 0 _ .first (show _ ∈ (sampleT [1]).rules from List.mem_cons_self) (by decide)
  exact Reached.go 1 _ h1 (show _ ∈ (sampleT [1]).rules from List.mem_cons_of_mem _ (List.mem_cons_of_mem _ List.mem_cons_self)) (by decide)
end Go.Proofs.YtfcdkjhabdpijaaDoor.R

namespace Go.Proofs.YtfcdkjhabdpijaaDoor.R
open Go Go.RowKit Go.Proofs.YtfcdkjhabdpijaaDoor.B Go.Proofs.YtfcdkjhabdpijaaDoor.K Go.Proofs.YtfcdkjhabdpijaaDoor.E
set_option linter.unusedVariables false

theorem samp_below {w w' : World} {G : Nat → Nat} {vF : Value} (h : SampAt w G vF) (hb : Below w.heap.size w w') : SampAt w' G vF := by
  have e : ∀ (i : Nat) o, w.heap[i]? = some o → w'.heap[i]? = some o := fun i o ho => (hb.block _ (Array.getElem?_eq_some_iff.1 ho).1).trans ho
  obtain ⟨h1, h2, h3, h4, h8, h13, h15, h19, h24, h26, h28, h30, h34, h36, h41, h43, h45, h47, h51, h53, h55, h60, h62, h64, h66⟩ := h
  exact ⟨e _ _ h1, e _ _ h2, e _ _ h3, e _ _ h4, e _ _ h8, e _ _ h13, e _ _ h15, e _ _ h19, e _ _ h24, e _ _ h26, e _ _ h28, e _ _ h30, e _ _ h34, e _ _ h36, e _ _ h41, e _ _ h43, e _ _ h45, e _ _ h47, e _ _ h51, e _ _ h53, e _ _ h55, e _ _ h60, e _ _ h62, e _ _ h64, e _ _ h66⟩

theorem mayB_of {t : Tb} (h : chk5 t = (0, 0, 0, 0)) : mayB t = true := by unfold mayB; rw [h]; rfl

set_option maxHeartbeats 8000000 in
set_option maxRecDepth 100000 in
theorem awake_any (w : World) (hG : I.Glob w) : Calls Tryd.prog 9 #[] w fun z w' => z = .returned (.bool true) ∧ Below w.heap.size w w' := by
  have HGL := Lib.hid hG
  clear hG
  go_enter Tryd.func9, Tryd.ntmps9
  go_wp2_with fail
  refine (sample_any w).mono ?_
  rintro _ w1 ⟨⟨G, rfl, ha, hge, hsz⟩, hb1⟩
  unfold sampVal
  have hn1 : SlN w1 (.slice (some ⟨G 30, 0, none⟩) 1 1) [1] := Sl.row (xs := [.int .i64 1]) ha.2.2.2.2.2.2.2.2.2.2.2.1 rfl
  have HT1 := Lib.hid (samp_tb ha hn1)
  have HWF1 := Lib.hid (sample_wf [1] ⟨(by intro x hx; rcases List.mem_singleton.1 hx with rfl; exact ⟨by decide, by decide⟩), by decide⟩)
  have HB1 := Lib.hid hb1
  obtain ⟨v1, hv1⟩ : ∃ v, G 1 = v := ⟨_, rfl⟩
  obtain ⟨v2, hv2⟩ : ∃ v, G 2 = v := ⟨_, rfl⟩
  obtain ⟨v3, hv3⟩ : ∃ v, G 3 = v := ⟨_, rfl⟩
  obtain ⟨v4, hv4⟩ : ∃ v, G 66 = v := ⟨_, rfl⟩
  rw [hv1, hv2, hv3, hv4] at HT1 ⊢
  obtain ⟨b1, hbe1⟩ : ∃ b, w1.heap.size = b := ⟨_, rfl⟩
  obtain ⟨W2, hW2⟩ : ∃ W2, w1.alloc (.cells #[.slice (some ⟨v1, 0, none⟩) 3 3, .slice (some ⟨v2, 0, none⟩) 2 2, .slice (some ⟨v3, 0, none⟩) 2 2, .slice (some ⟨v4, 0, none⟩) 4 4] 26) = W2 := ⟨_, rfl⟩
  have hB2 : Below w1.heap.size w1 W2 := by rw [← hW2]; exact below_alloc _ _
  have k0 : W2.cell? ⟨b1, 0, none⟩ = some (.slice (some ⟨v1, 0, none⟩) 3 3) := by rw [← hW2, ← hbe1]; exact box_cell _ _ _ _ _ rfl
  have k1 : W2.cell? ⟨b1, 1, none⟩ = some (.slice (some ⟨v2, 0, none⟩) 2 2) := by rw [← hW2, ← hbe1]; exact box_cell _ _ _ _ _ rfl
  have k2 : W2.cell? ⟨b1, 2, none⟩ = some (.slice (some ⟨v3, 0, none⟩) 2 2) := by rw [← hW2, ← hbe1]; exact box_cell _ _ _ _ _ rfl
  have k3 : W2.cell? ⟨b1, 3, none⟩ = some (.slice (some ⟨v4, 0, none⟩) 4 4) := by rw [← hW2, ← hbe1]; exact box_cell _ _ _ _ _ rfl
  have HB2 := Lib.hid hB2
  have HBW2 := Lib.hid (hb1.trans (hB2.mono hb1.size))
  have HR := Lib.hid (reach_any (sampleT [1]) _ _ _ _ W2 (HT1.out.below hB2) HWF1.out (HGL.out.below HBW2.out))
  clear ha hn1 hge hsz hb1 hB2 hv1 hv2 hv3 hv4
  go_wp2_with fail
  refine HR.out.mono ?_
  rintro e w3 ⟨hro, hb3⟩
  rcases hro with ⟨hx, -⟩ | ⟨-, v, l, rfl, hsl, hll, hrl⟩
  · rw [mayB_of sample_chk] at hx; cases hx
  have hl3 : l.length = 3 := hll
  have hl2 : l[2]? = some true := by
    have h2 := (hrl 2).2 sample_reach
    rw [List.getD_eq_getElem?_getD] at h2
    cases he : l[2]? with
    | none => rw [he] at h2; cases h2
    | some b => rw [he] at h2; exact congrArg some h2
  obtain ⟨av, capv, rfl⟩ := sl_len hsl
  have hm : (l.map Value.bool)[2]? = some (.bool true) := by rw [List.getElem?_map, hl2]; rfl
  obtain ⟨br, or_, ea, hcr⟩ := hsl.at hm
  subst ea
  rw [List.length_map, hl3]
  have HB3 := Lib.hid (HBW2.out.trans (hb3.mono HBW2.out.size))
  have HB13 := Lib.hid (HB2.out.trans (hb3.mono HB2.out.size))
  have HK0 := Lib.hid (kept_cell hb3 k0)
  have HK1 := Lib.hid (kept_cell hb3 k1)
  have HK2 := Lib.hid (kept_cell hb3 k2)
  have HK3 := Lib.hid (kept_cell hb3 k3)
  have HKR := Lib.hid hcr
  clear hsl hll hrl hl3 hl2 hm hb3 hcr HR k0 k1 k2 k3 hW2 hbe1
  go_wp2_with fail
  refine (sample_any w3).mono ?_
  rintro _ w4 ⟨⟨G, rfl, ha, hge, hsz⟩, hb4⟩
  unfold sampVal
  have hb34 : Below w3.heap.size w3 w4 := hb4
  obtain ⟨b4, hbe4⟩ : ∃ b, w4.heap.size = b := ⟨_, rfl⟩
  obtain ⟨W5, hW5⟩ : ∃ W5, w4.alloc (.cells #[.slice (some ⟨G 1, 0, none⟩) 3 3, .slice (some ⟨G 2, 0, none⟩) 2 2, .slice (some ⟨G 3, 0, none⟩) 2 2, .slice (some ⟨G 66, 0, none⟩) 4 4] 26) = W5 := ⟨_, rfl⟩
  have hB5 : Below w4.heap.size w4 W5 := by rw [← hW5]; exact below_alloc _ _
  have hk5 : W5.heap[b4]? = some (.cells #[.slice (some ⟨G 1, 0, none⟩) 3 3, .slice (some ⟨G 2, 0, none⟩) 2 2, .slice (some ⟨G 3, 0, none⟩) 2 2, .slice (some ⟨G 66, 0, none⟩) 4 4] 26 (0, 0)) := by rw [← hW5, ← hbe4]; exact heap_alloc_at _ _
  have y3 : W5.cell? ⟨b4, 3, none⟩ = some (.slice (some ⟨G 66, 0, none⟩) 4 4) := by unfold World.cell?; rw [hk5]; rfl
  obtain ⟨b5, hbe5⟩ : ∃ b, W5.heap.size = b := ⟨_, rfl⟩
  obtain ⟨W6, hW6⟩ : ∃ W6, W5.alloc (.cells #[.int .i64 3] 3) = W6 := ⟨_, rfl⟩
  have hB6 : Below W5.heap.size W5 W6 := by rw [← hW6]; exact below_alloc _ _
  have hk6 : W6.heap[b5]? = some (.cells #[.int .i64 3] 3 (0, 0)) := by rw [← hW6, ← hbe5]; exact heap_alloc_at _ _
  have hB46 := hB5.trans (hB6.mono hB5.size)
  have ha6 := samp_below ha hB46
  have hx66 := ha6.2.2.2.2.2.2.2.2.2.2.2.2.2.2.2.2.2.2.2.2.2.2.2.2
  have z7 : ∃ u, W6.cell? ⟨G 66, 7, none⟩ = some u := ⟨_, by unfold World.cell?; rw [hx66]; rfl⟩
  obtain ⟨u7, z7⟩ := z7
  have f7 : W6.frozen? ⟨G 66, 7, none⟩ = false := by unfold World.frozen?; rw [hx66]; rfl
  obtain ⟨W7, hW7⟩ : ∃ W7, W6.setCell ⟨G 66, 7, none⟩ (.slice (some ⟨b5, 0, none⟩) 1 1) = W7 := ⟨_, rfl⟩
  have hb6665 : G 66 < b5 := by rw [← hbe5]; have := hB5.size; omega
  have hg664 : G 66 < b4 := by rw [← hbe4]; exact hsz
  have hw3G : w3.heap.size ≤ G 66 := (hge 66 (by decide)).1
  have ha7 : SampAt W7 G (.slice (some ⟨b5, 0, none⟩) 1 1) := by rw [← hW7]; exact samp_set ha6 (fun i hi h => (hge i hi).2 h) _
  have hn7 : SlN W7 (.slice (some ⟨b5, 0, none⟩) 1 1) [3] := by
    have : W7.heap[b5]? = some (.cells #[.int .i64 3] 3 (0, 0)) := by
      rw [← hW7, heap_setCell_other _ ⟨G 66, 7, none⟩ _ _ (by show b5 ≠ G 66; omega)]; exact hk6
    exact Sl.row (xs := [.int .i64 3]) this rfl
  have HT7 := Lib.hid (samp_tb ha7 hn7)
  have HWF7 := Lib.hid (sample_wf [3] ⟨(by intro x hx; rcases List.mem_singleton.1 hx with rfl; exact ⟨by decide, by decide⟩), by decide⟩)
  have hB37 : Below w3.heap.size w3 W7 := by rw [← hW7]; exact (hb34.trans (hB46.mono hb34.size)).setCell (p := ⟨G 66, 7, none⟩) hw3G _
  have hk7 : W7.heap[b4]? = some (.cells #[.slice (some ⟨G 1, 0, none⟩) 3 3, .slice (some ⟨G 2, 0, none⟩) 2 2, .slice (some ⟨G 3, 0, none⟩) 2 2, .slice (some ⟨G 66, 0, none⟩) 4 4] 26 (0, 0)) := by
    rw [← hW7, heap_setCell_other _ ⟨G 66, 7, none⟩ _ _ (by show b4 ≠ G 66; omega)]
    exact (hB6.block _ (Array.getElem?_eq_some_iff.1 hk5).1).trans hk5
  have m0 : W7.cell? ⟨b4, 0, none⟩ = some (.slice (some ⟨G 1, 0, none⟩) 3 3) := by unfold World.cell?; rw [hk7]; rfl
  have m1 : W7.cell? ⟨b4, 1, none⟩ = some (.slice (some ⟨G 2, 0, none⟩) 2 2) := by unfold World.cell?; rw [hk7]; rfl
  have m2 : W7.cell? ⟨b4, 2, none⟩ = some (.slice (some ⟨G 3, 0, none⟩) 2 2) := by unfold World.cell?; rw [hk7]; rfl
  have m3 : W7.cell? ⟨b4, 3, none⟩ = some (.slice (some ⟨G 66, 0, none⟩) 4 4) := by unfold World.cell?; rw [hk7]; rfl
  have k0 := kept_cell hB37 HK0.out
  have k1 := kept_cell hB37 HK1.out
  have k2 := kept_cell hB37 HK2.out
  have k3 := kept_cell hB37 HK3.out
  have kr := kept_cell hB37 HKR.out
  have HB7 := Lib.hid (HB3.out.trans (hB37.mono HB3.out.size))
  have HB17 := Lib.hid (HB13.out.trans (hB37.mono HB13.out.size))
  have HC1 := Lib.hid (fun (W : World) (hb : Below W7.heap.size W7 W) => check_any (sampleT [1]) _ _ _ _ W (HT1.out.below (HB17.out.trans (hb.mono HB17.out.size))) HWF1.out (HGL.out.below (HB7.out.trans (hb.mono HB7.out.size))))
  have HC2 := Lib.hid (fun (W : World) (hb : Below W7.heap.size W7 W) => check_any (sampleT [3]) _ _ _ _ W (HT7.out.below hb) HWF7.out (HGL.out.below (HB7.out.trans (hb.mono HB7.out.size))))
  have HFI := Lib.hid (fun (W : World) (hb : Below W7.heap.size W7 W) => find_any (sampleT [1]) _ _ _ _ [99, 108, 111, 115, 101] W (HT1.out.below (HB17.out.trans (hb.mono HB17.out.size))) HWF1.out)
  have HF1 := Lib.hid (fun (W : World) (hb : Below W7.heap.size W7 W) => for_any (sampleT [1]) _ _ _ _ 3 2 W (HT1.out.below (HB17.out.trans (hb.mono HB17.out.size))) HWF1.out)
  have HF2 := Lib.hid (fun (W : World) (hb : Below W7.heap.size W7 W) => for_any (sampleT [1]) _ _ _ _ 0 2 W (HT1.out.below (HB17.out.trans (hb.mono HB17.out.size))) HWF1.out)
  rw [sample_chk, show Ft.v (0, 0, 0, 0) = .agg #[.int .i64 0, .int .i64 0, .int .i64 0, .int .i64 0] from rfl] at HC1
  rw [sample_bad, show Ft.v (3, 1, 7, 0) = .agg #[.int .i64 3, .int .i64 1, .int .i64 7, .int .i64 0] from rfl] at HC2
  rw [sample_find] at HFI
  rw [sample_for1] at HF1
  rw [sample_for2] at HF2
  obtain ⟨x1, hx1⟩ : ∃ x, G 1 = x := ⟨_, rfl⟩
  obtain ⟨x2, hx2⟩ : ∃ x, G 2 = x := ⟨_, rfl⟩
  obtain ⟨x3, hx3⟩ : ∃ x, G 3 = x := ⟨_, rfl⟩
  obtain ⟨x4, hx4⟩ : ∃ x, G 66 = x := ⟨_, rfl⟩
  rw [hx1, hx2, hx3, hx4] at HC2 hW5
  rw [hx1] at m0
  rw [hx2] at m1
  rw [hx3] at m2
  rw [hx4] at m3 y3 z7 f7 hW7
  rw [hx1, hx2, hx3, hx4]
  clear ha hge hsz hb4 hb34 hB5 hk5 hB6 hk6 hB46 ha6 hx66 hb6665 hg664 hw3G ha7 hn7 hB37 hk7 HT1 HT7 HWF1 HWF7 HK0 HK1 HK2 HK3 HKR hx1 hx2 hx3 hx4 HB2 HBW2 HB13 HB17
  go_wp2_with fail
  refine (HC1.out _ (Below.refl W7.heap.size W7)).mono ?_
  rintro _ q1 ⟨rfl, hb⟩
  have HQ1 := Lib.hid ((Below.refl W7.heap.size W7).trans (hb.mono (Below.refl W7.heap.size W7).size))
  have k0 := kept_cell hb k0
  have k1 := kept_cell hb k1
  have k2 := kept_cell hb k2
  have k3 := kept_cell hb k3
  have kr := kept_cell hb kr
  have m0 := kept_cell hb m0
  have m1 := kept_cell hb m1
  have m2 := kept_cell hb m2
  have m3 := kept_cell hb m3
  clear hb
  go_wp2_with fail
  refine (HFI.out _ HQ1.out).mono ?_
  rintro _ q2 ⟨rfl, hb⟩
  have HQ2 := Lib.hid (HQ1.out.trans (hb.mono (HQ1.out).size))
  have k0 := kept_cell hb k0
  have k1 := kept_cell hb k1
  have k2 := kept_cell hb k2
  have k3 := kept_cell hb k3
  have kr := kept_cell hb kr
  have m0 := kept_cell hb m0
  have m1 := kept_cell hb m1
  have m2 := kept_cell hb m2
  have m3 := kept_cell hb m3
  clear hb
  go_wp2_with fail
  refine (HF1.out _ HQ2.out).mono ?_
  rintro _ q3 ⟨rfl, hb⟩
  have HQ3 := Lib.hid (HQ2.out.trans (hb.mono (HQ2.out).size))
  have k0 := kept_cell hb k0
  have k1 := kept_cell hb k1
  have k2 := kept_cell hb k2
  have k3 := kept_cell hb k3
  have kr := kept_cell hb kr
  have m0 := kept_cell hb m0
  have m1 := kept_cell hb m1
  have m2 := kept_cell hb m2
  have m3 := kept_cell hb m3
  clear hb
  go_wp2_with fail
  refine (HF2.out _ HQ3.out).mono ?_
  rintro _ q4 ⟨rfl, hb⟩
  have HQ4 := Lib.hid (HQ3.out.trans (hb.mono (HQ3.out).size))
  have k0 := kept_cell hb k0
  have k1 := kept_cell hb k1
  have k2 := kept_cell hb k2
  have k3 := kept_cell hb k3
  have kr := kept_cell hb kr
  have m0 := kept_cell hb m0
  have m1 := kept_cell hb m1
  have m2 := kept_cell hb m2
  have m3 := kept_cell hb m3
  clear hb
  go_wp2_with fail
  refine (HC2.out _ HQ4.out).mono ?_
  rintro _ q5 ⟨rfl, hb⟩
  have HQ5 := Lib.hid (HQ4.out.trans (hb.mono (HQ4.out).size))
  clear hb
  go_wp2_with fail
  go_ret
  exact ⟨rfl, HB7.out.trans (HQ5.out.mono HB7.out.size)⟩
end Go.Proofs.YtfcdkjhabdpijaaDoor.R
