/-
  Layer 5: the law's own table, read; what is known of it.
  Contracts: the reference's comparisons of lists, where the two are the same.
  Layer 7: what must come at any rate, of the law.
-/
import Derived.Test.YtgkniocjlkfhmaaDoorRTa
import Derived.Test.YtgkniocjlkfhmaaDoorSVb
import Derived.Deep.QuietTactic
import Derived.BigQuiet
import Derived.Test.YtgkniocjlkfhmaaDoorSVl
namespace Go.Proofs.YtgkniocjlkfhmaaDoor.R
open Go Go.RowKit Go.Proofs.YtgkniocjlkfhmaaDoor.B Go.Proofs.YtgkniocjlkfhmaaDoor.K Go.Proofs.YtgkniocjlkfhmaaDoor.E
set_option linter.unusedVariables false

/-- The law's own table; fr: the states that the second rule is for. -/
def sampleT (fr : List Int) : Tb := ⟨[[100, 114, 97, 102, 116], [111, 112, 101, 110], [100, 111, 110, 101]], [[116, 111, 116, 97, 108], [109, 97, 110, 121]], [0, 0], [
  ⟨[97, 100, 100], 1, [0, 1], [⟨16, [(1, 0), (3, 0), (11, 0)]⟩, ⟨17, [(2, 1), (1, 5), (11, 0)]⟩], [⟨[⟨0, [(2, 0), (3, 0), (6, 0)]⟩, ⟨1, [(2, 1), (1, 1), (6, 0)]⟩], 1⟩]⟩,
  ⟨[100, 111, 117, 98, 108, 101], 0, fr, [], [⟨[⟨0, [(2, 0), (1, 2), (8, 0)]⟩], -1⟩, ⟨[⟨1, [(2, 0), (1, 9), (9, 0)]⟩], -1⟩]⟩,
  ⟨[99, 108, 111, 115, 101], 0, [1], [⟨20, [(1, 3), (2, 0), (12, 0)]⟩], [⟨[], 2⟩]⟩,
  ⟨[97, 103, 97, 105, 110], 2, [], [], [⟨[⟨0, [(3, 0), (3, 1), (7, 0)]⟩], 0⟩]⟩]⟩

theorem code_row3 {W : World} {g : Nat} {a0 b0 a1 b1 a2 b2 : Int} {T : TypeId} {f : Nat × Nat} (h : W.heap[g]? = some (.cells #[.int .i64 a0, .int .i64 b0, .int .i64 a1, .int .i64 b1, .int .i64 a2, .int .i64 b2] T f)) :
    SlI W (.slice (some ⟨g, 0, none⟩) 3 3) [(a0, b0), (a1, b1), (a2, b2)] := by
  refine ⟨_, 3, rfl, fun j i hj => ⟨g, 0, rfl, ?_⟩⟩
  match j, hj with
  | 0, hj => cases hj; exact ⟨by unfold World.cell?; rw [h]; rfl, by unfold World.cell?; rw [h]; rfl⟩
  | 1, hj => cases hj; exact ⟨by unfold World.cell?; rw [h]; rfl, by unfold World.cell?; rw [h]; rfl⟩
  | 2, hj => cases hj; exact ⟨by unfold World.cell?; rw [h]; rfl, by unfold World.cell?; rw [h]; rfl⟩
  | j + 3, hj => cases hj

/-- A slice whose block is known, of structs. -/
theorem slof_heap {X : Type} {W : World} {g : Nat} {arr : Array Value} {T : TypeId} {f : Nat × Nat} (h : W.heap[g]? = some (.cells arr T f)) (k : Nat) (Q : List Value → X → Prop) (xs : List X) (rows : List (List Value)) (cap : Nat) (ha : arr.toList = rows.flatten) (h1 : rows.length = xs.length)
    (h2 : ∀ (j : Nat) x cs, xs[j]? = some x → rows[j]? = some cs → cs.length = k ∧ Q cs x) : SlOf W k Q (.slice (some ⟨g, 0, none⟩) xs.length cap) xs := by
  have hl : ∀ r ∈ rows, r.length = k := by
    intro r hr
    obtain ⟨j, hj, rfl⟩ := List.getElem_of_mem hr
    exact (h2 j (xs[j]'(by omega)) _ (List.getElem?_eq_getElem (by omega)) (List.getElem?_eq_getElem hj)).1
  refine ⟨_, cap, rfl, fun j x hj => ?_⟩
  have hjx := (List.getElem?_eq_some_iff.1 hj).1
  obtain ⟨cs, hcs⟩ : ∃ cs, rows[j]? = some cs := ⟨_, List.getElem?_eq_getElem (by omega)⟩
  obtain ⟨e1, e2⟩ := h2 j x cs hj hcs
  refine ⟨_, 0, rfl, cs, e1, e2, fun i c hi => ?_⟩
  have hik : i < k := by rw [← e1]; exact (List.getElem?_eq_some_iff.1 hi).1
  have := flatten_at k rows hl j cs hcs i hik
  unfold World.cell?
  rw [h]
  show arr[0 + j * k + i]? = some c
  rw [Nat.zero_add, ← Array.getElem?_toList, ha, this]
  exact hi

theorem two_of {X : Type} {Q : List Value → X → Prop} {k : Nat} {x y : X} {a b : List Value} (h1 : a.length = k ∧ Q a x) (h2 : b.length = k ∧ Q b y) : ∀ (j : Nat) z cs, [x, y][j]? = some z → [a, b][j]? = some cs → cs.length = k ∧ Q cs z := by
  intro j z cs hz hcs
  match j, hz, hcs with
  | 0, hz, hcs => cases hz; cases hcs; exact h1
  | 1, hz, hcs => cases hz; cases hcs; exact h2
  | j + 2, hz, hcs => cases hz
theorem one_of {X : Type} {Q : List Value → X → Prop} {k : Nat} {x : X} {a : List Value} (h1 : a.length = k ∧ Q a x) : ∀ (j : Nat) z cs, [x][j]? = some z → [a][j]? = some cs → cs.length = k ∧ Q cs z := by
  intro j z cs hz hcs
  match j, hz, hcs with
  | 0, hz, hcs => cases hz; cases hcs; exact h1
  | j + 1, hz, hcs => cases hz
theorem four_of {X : Type} {Q : List Value → X → Prop} {k : Nat} {x y z u : X} {a b c d : List Value} (h1 : a.length = k ∧ Q a x) (h2 : b.length = k ∧ Q b y) (h3 : c.length = k ∧ Q c z) (h4 : d.length = k ∧ Q d u) : ∀ (j : Nat) w cs, [x, y, z, u][j]? = some w → [a, b, c, d][j]? = some cs → cs.length = k ∧ Q cs w := by
  intro j w cs hz hcs
  match j, hz, hcs with
  | 0, hz, hcs => cases hz; cases hcs; exact h1
  | 1, hz, hcs => cases hz; cases hcs; exact h2
  | 2, hz, hcs => cases hz; cases hcs; exact h3
  | 3, hz, hcs => cases hz; cases hcs; exact h4
  | j + 4, hz, hcs => cases hz

theorem samp_tb {W : World} {G : Nat → Nat} {vF : Value} {fr : List Int} (h : SampAt W G vF) (hF : SlN W vF fr) :
    TbIs W [.slice (some ⟨G 1, 0, none⟩) 3 3, .slice (some ⟨G 2, 0, none⟩) 2 2, .slice (some ⟨G 3, 0, none⟩) 2 2, .slice (some ⟨G 66, 0, none⟩) 4 4] (sampleT fr) := by
  obtain ⟨h1, h2, h3, h4, h8, h13, h15, h19, h24, h26, h28, h30, h34, h36, h41, h43, h45, h47, h51, h53, h55, h60, h62, h64, h66⟩ := h
  have c8 := code_row3 h8
  have c13 := code_row3 h13
  have c19 := code_row3 h19
  have c24 := code_row3 h24
  have c34 := code_row3 h34
  have c41 := code_row3 h41
  have c51 := code_row3 h51
  have c60 := code_row3 h60
  have s15 : SlOf W 2 (GdIs W) (.slice (some ⟨G 15, 0, none⟩) 2 2) [⟨16, [(1, 0), (3, 0), (11, 0)]⟩, ⟨17, [(2, 1), (1, 5), (11, 0)]⟩] :=
    slof_heap h15 2 (GdIs W) _ [[.int .i64 16, .slice (some ⟨G 8, 0, none⟩) 3 3], [.int .i64 17, .slice (some ⟨G 13, 0, none⟩) 3 3]] 2 rfl rfl (two_of ⟨rfl, _, rfl, c8⟩ ⟨rfl, _, rfl, c13⟩)
  have s26 : SlOf W 2 (SeIs W) (.slice (some ⟨G 26, 0, none⟩) 2 2) [⟨0, [(2, 0), (3, 0), (6, 0)]⟩, ⟨1, [(2, 1), (1, 1), (6, 0)]⟩] :=
    slof_heap h26 2 (SeIs W) _ [[.int .i64 0, .slice (some ⟨G 19, 0, none⟩) 3 3], [.int .i64 1, .slice (some ⟨G 24, 0, none⟩) 3 3]] 2 rfl rfl (two_of ⟨rfl, _, rfl, c19⟩ ⟨rfl, _, rfl, c24⟩)
  have s28 : SlOf W 2 (SpIs W) (.slice (some ⟨G 28, 0, none⟩) 1 1) [⟨[⟨0, [(2, 0), (3, 0), (6, 0)]⟩, ⟨1, [(2, 1), (1, 1), (6, 0)]⟩], 1⟩] :=
    slof_heap h28 2 (SpIs W) _ [[.slice (some ⟨G 26, 0, none⟩) 2 2, .int .i64 1]] 1 rfl rfl (one_of ⟨rfl, _, rfl, s26⟩)
  have s36 : SlOf W 2 (SeIs W) (.slice (some ⟨G 36, 0, none⟩) 1 1) [⟨0, [(2, 0), (1, 2), (8, 0)]⟩] :=
    slof_heap h36 2 (SeIs W) _ [[.int .i64 0, .slice (some ⟨G 34, 0, none⟩) 3 3]] 1 rfl rfl (one_of ⟨rfl, _, rfl, c34⟩)
  have s43 : SlOf W 2 (SeIs W) (.slice (some ⟨G 43, 0, none⟩) 1 1) [⟨1, [(2, 0), (1, 9), (9, 0)]⟩] :=
    slof_heap h43 2 (SeIs W) _ [[.int .i64 1, .slice (some ⟨G 41, 0, none⟩) 3 3]] 1 rfl rfl (one_of ⟨rfl, _, rfl, c41⟩)
  have s45 : SlOf W 2 (SpIs W) (.slice (some ⟨G 45, 0, none⟩) 2 2) [⟨[⟨0, [(2, 0), (1, 2), (8, 0)]⟩], -1⟩, ⟨[⟨1, [(2, 0), (1, 9), (9, 0)]⟩], -1⟩] :=
    slof_heap h45 2 (SpIs W) _ [[.slice (some ⟨G 36, 0, none⟩) 1 1, .int .i64 (-1)], [.slice (some ⟨G 43, 0, none⟩) 1 1, .int .i64 (-1)]] 2 rfl rfl (two_of ⟨rfl, _, rfl, s36⟩ ⟨rfl, _, rfl, s43⟩)
  have s53 : SlOf W 2 (GdIs W) (.slice (some ⟨G 53, 0, none⟩) 1 1) [⟨20, [(1, 3), (2, 0), (12, 0)]⟩] :=
    slof_heap h53 2 (GdIs W) _ [[.int .i64 20, .slice (some ⟨G 51, 0, none⟩) 3 3]] 1 rfl rfl (one_of ⟨rfl, _, rfl, c51⟩)
  have s55 : SlOf W 2 (SpIs W) (.slice (some ⟨G 55, 0, none⟩) 1 1) [⟨[], 2⟩] :=
    slof_heap h55 2 (SpIs W) _ [[.slice none 0 0, .int .i64 2]] 1 rfl rfl (one_of ⟨rfl, _, rfl, SlOf.nil W 2 _⟩)
  have s62 : SlOf W 2 (SeIs W) (.slice (some ⟨G 62, 0, none⟩) 1 1) [⟨0, [(3, 0), (3, 1), (7, 0)]⟩] :=
    slof_heap h62 2 (SeIs W) _ [[.int .i64 0, .slice (some ⟨G 60, 0, none⟩) 3 3]] 1 rfl rfl (one_of ⟨rfl, _, rfl, c60⟩)
  have s64 : SlOf W 2 (SpIs W) (.slice (some ⟨G 64, 0, none⟩) 1 1) [⟨[⟨0, [(3, 0), (3, 1), (7, 0)]⟩], 0⟩] :=
    slof_heap h64 2 (SpIs W) _ [[.slice (some ⟨G 62, 0, none⟩) 1 1, .int .i64 0]] 1 rfl rfl (one_of ⟨rfl, _, rfl, s62⟩)
  have n4 : SlN W (.slice (some ⟨G 4, 0, none⟩) 2 2) [0, 1] := Sl.row (xs := [.int .i64 0, .int .i64 1]) h4 rfl
  have n47 : SlN W (.slice (some ⟨G 47, 0, none⟩) 1 1) [1] := Sl.row (xs := [.int .i64 1]) h47 rfl
  refine ⟨_, _, _, _, rfl, Sl.row (xs := (sampleT fr).states.map sv) h1 rfl, Sl.row (xs := (sampleT fr).vars.map sv) h2 rfl, Sl.row (xs := [.int .i64 0, .int .i64 0]) h3 rfl, ?_⟩
  exact slof_heap h66 5 (RlIs W) (sampleT fr).rules [[sv [97, 100, 100], .int .i64 1, .slice (some ⟨G 4, 0, none⟩) 2 2, .slice (some ⟨G 15, 0, none⟩) 2 2, .slice (some ⟨G 28, 0, none⟩) 1 1],
    [sv [100, 111, 117, 98, 108, 101], .int .i64 0, vF, .slice none 0 0, .slice (some ⟨G 45, 0, none⟩) 2 2],
    [sv [99, 108, 111, 115, 101], .int .i64 0, .slice (some ⟨G 47, 0, none⟩) 1 1, .slice (some ⟨G 53, 0, none⟩) 1 1, .slice (some ⟨G 55, 0, none⟩) 1 1],
    [sv [97, 103, 97, 105, 110], .int .i64 2, .slice none 0 0, .slice none 0 0, .slice (some ⟨G 64, 0, none⟩) 1 1]] 4 rfl rfl
    (four_of ⟨rfl, _, _, _, rfl, n4, s15, s28⟩ ⟨rfl, _, _, _, rfl, hF, SlOf.nil W 2 _, s45⟩ ⟨rfl, _, _, _, rfl, n47, s53, s55⟩ ⟨rfl, _, _, _, rfl, Sl.nil W, SlOf.nil W 2 _, s64⟩)

theorem samp_set {W : World} {G : Nat → Nat} {vF : Value} (h : SampAt W G vF) (hG : ∀ i ∈ sampSlots, i ≠ 66 → G i < G 66) (x : Value) : SampAt (W.setCell ⟨G 66, 7, none⟩ x) G x := by
  have hne : ∀ (i : Nat) o, i ∈ sampSlots → i ≠ 66 → W.heap[G i]? = some o → (W.setCell ⟨G 66, 7, none⟩ x).heap[G i]? = some o := by
    intro i o hi h6 ho
    rw [heap_setCell_other _ ⟨G 66, 7, none⟩ _ _ (by have := hG i hi h6; show G i ≠ G 66; omega)]; exact ho
  obtain ⟨h1, h2, h3, h4, h8, h13, h15, h19, h24, h26, h28, h30, h34, h36, h41, h43, h45, h47, h51, h53, h55, h60, h62, h64, h66⟩ := h
  refine ⟨hne 1 _ (by decide) (by decide) h1, hne 2 _ (by decide) (by decide) h2, hne 3 _ (by decide) (by decide) h3, hne 4 _ (by decide) (by decide) h4, hne 8 _ (by decide) (by decide) h8, hne 13 _ (by decide) (by decide) h13, hne 15 _ (by decide) (by decide) h15, hne 19 _ (by decide) (by decide) h19, hne 24 _ (by decide) (by decide) h24, hne 26 _ (by decide) (by decide) h26, hne 28 _ (by decide) (by decide) h28, hne 30 _ (by decide) (by decide) h30, hne 34 _ (by decide) (by decide) h34, hne 36 _ (by decide) (by decide) h36, hne 41 _ (by decide) (by decide) h41, hne 43 _ (by decide) (by decide) h43, hne 45 _ (by decide) (by decide) h45, hne 47 _ (by decide) (by decide) h47, hne 51 _ (by decide) (by decide) h51, hne 53 _ (by decide) (by decide) h53, hne 55 _ (by decide) (by decide) h55, hne 60 _ (by decide) (by decide) h60, hne 62 _ (by decide) (by decide) h62, hne 64 _ (by decide) (by decide) h64, ?_⟩
  exact heap_setCell_same _ (G 66) 7 _ 60 x h66

theorem sample_chk : chk5 (sampleT [1]) = (0, 0, 0, 0) := by decide
theorem sample_bad : chk5 (sampleT [3]) = (3, 1, 7, 0) := by decide
theorem sample_for1 : isFor (sampleT [1]) 3 2 = true := by decide
theorem sample_for2 : isFor (sampleT [1]) 0 2 = false := by decide
theorem sample_find : idxP (fun r => r.name == [99, 108, 111, 115, 101]) (sampleT [1]).rules = 2 := by decide
theorem sample_wf (fr : List Int) (h : (∀ x ∈ fr, I64 x) ∧ fr.length ≤ 9223372036854775807) : TbWf (sampleT fr) := by
  obtain ⟨h1, h2⟩ := h
  simp only [TbWf, RlWf, SpWf, SeWf, GdWf, CodeWf, I64, sampleT, List.forall_mem_cons, List.length_cons, List.length_nil] at h1 ⊢
  simp
  exact ⟨h1, h2⟩
theorem sample_reach : Reached (sampleT [1]) 2 := by
  have h1 : Reached (sampleT [1]) 1 := Reached.go 0 _ .first (show _ ∈ (sampleT [1]).rules from List.mem_cons_self) (by decide)
  exact Reached.go 1 _ h1 (show _ ∈ (sampleT [1]).rules from List.mem_cons_of_mem _ (List.mem_cons_of_mem _ List.mem_cons_self)) (by decide)
end Go.Proofs.YtgkniocjlkfhmaaDoor.R

namespace Go.Proofs.YtgkniocjlkfhmaaDoor.V
open Go Go.RowKit Go.Proofs.YtgkniocjlkfhmaaDoor.B Go.Proofs.YtgkniocjlkfhmaaDoor.K Go.Proofs.YtgkniocjlkfhmaaDoor.E

set_option maxHeartbeats 1000000 in
theorem ints_same (v v' : Value) (xs : List Int) (w : World) (hn : xs.length ≤ 4611686018427387904) (h : Sl w v (xs.map (Value.int .i64))) (h' : Sl w v' (xs.map (Value.int .i64))) :
    Calls Tryd.prog 14 #[v, v'] w fun e w' => e = .returned (.bool true) ∧ Below w.heap.size w w' := by
  obtain ⟨a, cap, rfl, hc⟩ := h
  obtain ⟨a', cap', rfl, hc'⟩ := h'
  rw [List.length_map]
  have hnn : ((xs.length : Int) != (xs.length : Int)) = false := by simp
  have HC := Lib.hid hc; clear hc
  have HC' := Lib.hid hc'; clear hc'
  obtain ⟨n, hN⟩ : ∃ n, xs.length = n := ⟨_, rfl⟩
  rw [hN] at hn hnn ⊢
  have HN := Lib.hid hN; clear hN
  go_enter Tryd.func14, Tryd.ntmps14
  go_wp2_with fail
  go_loopw [5] (fun i wr => ∃ k : Nat, k ≤ n ∧ i = .int .i64 (k : Int) ∧ Below w.heap.size w wr) (fun i _ => n - (intOf i).toNat)
  case atStart => exact ⟨0, Nat.zero_le _, rfl, Below.refl _ _⟩
  case round =>
    obtain ⟨k, hk, rfl, hbel⟩ := hrel
    by_cases hlt : k < n
    · obtain ⟨x, hx⟩ : ∃ x, xs[k]? = some x := ⟨_, List.getElem?_eq_getElem (by rw [HN.out]; exact hlt)⟩
      obtain ⟨b, off, rfl, hcell⟩ := HC.out k (.int .i64 x) (by rw [List.getElem?_map, hx]; rfl)
      obtain ⟨b', off', rfl, hcell'⟩ := HC'.out k (.int .i64 x) (by rw [List.getElem?_map, hx]; rfl)
      have hc1 : wr.cell? ⟨b, off + k, none⟩ = some (.int .i64 x) := (hbel.cell (World.block_lt_of_cell? w _ hcell)).trans hcell
      have hc2 : wr.cell? ⟨b', off' + k, none⟩ = some (.int .i64 x) := (hbel.cell (World.block_lt_of_cell? w _ hcell')).trans hcell'
      have hltI : (k : Int) < (n : Int) := by omega
      have hk0 : 0 ≤ (k : Int) := by omega
      have hxx : (x != x) = false := by simp
      clear hcell hcell' hx
      go_wp2_with fail
      go_quiet (fail)
      go_wp2_with fail
      go_roundw
      case rel => exact ⟨k + 1, by omega, by go_num, below_drewN hbel _⟩
      case measure => simp [intOf]; omega
    · have hltI : ¬ (k : Int) < (n : Int) := by omega
      go_wp2_with fail
      go_ret
      exact ⟨rfl, hbel⟩

end Go.Proofs.YtgkniocjlkfhmaaDoor.V

namespace Go.Proofs.YtgkniocjlkfhmaaDoor.D
open Go Go.RowKit Go.Proofs.YtgkniocjlkfhmaaDoor.B Go.Proofs.YtgkniocjlkfhmaaDoor.K Go.Proofs.YtgkniocjlkfhmaaDoor.E Go.Proofs.YtgkniocjlkfhmaaDoor.R
set_option linter.unusedVariables false
set_option maxRecDepth 100000

def sampleS : Stt := ⟨0, 0, [0, 0]⟩
def sampleC (n : Int) : Cm := ⟨0, 0, [], 0, [n], -1⟩
theorem samp_begins : begins (sampleT [1]) = sampleS := by kernel_rfl
theorem samp_yes : decide7 (sampleT [1]) sampleS (sampleC 5) = ([⟨1, [5, 1]⟩], 0) := by kernel_rfl
theorem samp_no : decide7 (sampleT [1]) sampleS (sampleC 0) = ([], 16) := by kernel_rfl
theorem samp_right : right7 (sampleT [1]) sampleS = true := by kernel_rfl
theorem samp_wf : TbWf (sampleT [1]) := sample_wf [1] ⟨(by intro x hx; rcases List.mem_singleton.1 hx with rfl; exact ⟨by decide, by decide⟩), by decide⟩
theorem i64_0 : I64 0 := ⟨by decide, by decide⟩
theorem sampC_wf (n : Int) (h : I64 n) : CmWf (sampleC n) := ⟨i64_0, i64_0, Nat.zero_le _, i64_0, ⟨(by intro x hx; rcases List.mem_singleton.1 hx with rfl; exact h), by show 1 ≤ 9223372036854775807; decide⟩, show I64 (-1) from ⟨by decide, by decide⟩⟩

theorem one_num (w : World) (n : Int) : SlN (w.alloc (.cells #[.int .i64 n] 3)) (.slice (some ⟨w.heap.size, 0, none⟩) 1 1) [n] :=
  Sl.row (xs := [.int .i64 n]) (heap_alloc_at w (.cells #[.int .i64 n] 3)) rfl

theorem samp_decide (n : Int) (c0 c1 c2 c3 v u : Value) (w : World) (h : TbIs w [c0, c1, c2, c3] (sampleT [1])) (hs : SlN w v [0, 0]) (hc : SlN w u [n]) (hn : I64 n) (hG : I.Glob w) :
    Calls Tryd.prog 13 #[.agg #[c0, c1, c2, c3], .agg #[.int .i64 0, .int .i64 0, v], .agg #[.int .i64 0, .int .i64 0, .string ⟨#[]⟩, .int .i64 0, u, .int .i64 (-1)]] w (DecOut (decide7 (sampleT [1]) sampleS (sampleC n)) w) :=
  decide_any (sampleT [1]) sampleS (sampleC n) c0 c1 c2 c3 v u w h samp_wf hs (by show 2 ≤ 9223372036854775807; decide) hc (sampC_wf n hn) hG

set_option maxHeartbeats 8000000 in
theorem awake_any (w : World) (hG : I.Glob w) : Calls Tryd.prog 5 #[] w fun z w' => z = .returned (.bool true) ∧ Below w.heap.size w w' := by
  have HGL := Lib.hid hG
  clear hG
  go_enter Tryd.func5, Tryd.ntmps5
  go_wp2_with fail
  refine (sample_any w).mono ?_
  rintro _ w1 ⟨⟨G, rfl, ha, hge, hsz⟩, hb1⟩
  unfold sampVal
  have hn1 : SlN w1 (.slice (some ⟨G 30, 0, none⟩) 1 1) [1] := Sl.row (xs := [.int .i64 1]) ha.2.2.2.2.2.2.2.2.2.2.2.1 rfl
  have HT1 := Lib.hid (samp_tb ha hn1)
  have HB1 := Lib.hid hb1
  obtain ⟨v1, hv1⟩ : ∃ v, G 1 = v := ⟨_, rfl⟩
  obtain ⟨v2, hv2⟩ : ∃ v, G 2 = v := ⟨_, rfl⟩
  obtain ⟨v3, hv3⟩ : ∃ v, G 3 = v := ⟨_, rfl⟩
  obtain ⟨v4, hv4⟩ : ∃ v, G 66 = v := ⟨_, rfl⟩
  rw [hv1, hv2, hv3, hv4] at HT1 ⊢
  obtain ⟨b1, hbe1⟩ : ∃ b, w1.heap.size = b := ⟨_, rfl⟩
  obtain ⟨W2, hW2⟩ : ∃ W2, w1.alloc (.cells #[.slice (some ⟨v1, 0, none⟩) 3 3, .slice (some ⟨v2, 0, none⟩) 2 2, .slice (some ⟨v3, 0, none⟩) 2 2, .slice (some ⟨v4, 0, none⟩) 4 4] 37) = W2 := ⟨_, rfl⟩
  have hB2 : Below w1.heap.size w1 W2 := by rw [← hW2]; exact below_alloc _ _
  have k0 : W2.cell? ⟨b1, 0, none⟩ = some (.slice (some ⟨v1, 0, none⟩) 3 3) := by rw [← hW2, ← hbe1]; exact box_cell _ _ _ _ _ rfl
  have k1 : W2.cell? ⟨b1, 1, none⟩ = some (.slice (some ⟨v2, 0, none⟩) 2 2) := by rw [← hW2, ← hbe1]; exact box_cell _ _ _ _ _ rfl
  have k2 : W2.cell? ⟨b1, 2, none⟩ = some (.slice (some ⟨v3, 0, none⟩) 2 2) := by rw [← hW2, ← hbe1]; exact box_cell _ _ _ _ _ rfl
  have k3 : W2.cell? ⟨b1, 3, none⟩ = some (.slice (some ⟨v4, 0, none⟩) 4 4) := by rw [← hW2, ← hbe1]; exact box_cell _ _ _ _ _ rfl
  have HT2 := Lib.hid (HT1.out.below hB2)
  have HB2 := Lib.hid (hb1.trans (hB2.mono hb1.size))
  have hnew := new_any (sampleT [1]) _ _ _ _ W2 HT2.out samp_wf (HGL.out.below HB2.out)
  rw [samp_begins] at hnew
  have HNW := Lib.hid hnew
  have HK2 := Lib.hid (And.intro k0 (And.intro k1 (And.intro k2 k3)))
  clear ha hn1 hge hsz hb1 hB2 hv1 hv2 hv3 hv4 hnew
  go_wp2_with fail
  refine HNW.out.mono ?_
  rintro _ w3 ⟨vv, rfl, hvv, hb3⟩
  have HV3 := Lib.hid hvv
  obtain ⟨av, cv, rfl⟩ := sl_len hvv
  rw [show (List.map (fun n => Value.int IntKind.i64 n) sampleS.vars).length = 2 from rfl] at HV3 ⊢
  rw [show sampleS.pos = 0 from rfl, show sampleS.ver = 0 from rfl]
  obtain ⟨b2, hbe2⟩ : ∃ b, w3.heap.size = b := ⟨_, rfl⟩
  obtain ⟨W4, hW4⟩ : ∃ W4, w3.alloc (.cells #[.int .i64 0, .int .i64 0, .slice av 2 cv] 24) = W4 := ⟨_, rfl⟩
  have hB4 : Below w3.heap.size w3 W4 := by rw [← hW4]; exact below_alloc _ _
  have s0 : W4.cell? ⟨b2, 0, none⟩ = some (.int .i64 0) := by rw [← hW4, ← hbe2]; exact box_cell _ _ _ _ _ rfl
  have s1 : W4.cell? ⟨b2, 1, none⟩ = some (.int .i64 0) := by rw [← hW4, ← hbe2]; exact box_cell _ _ _ _ _ rfl
  have s2 : W4.cell? ⟨b2, 2, none⟩ = some (.slice av 2 cv) := by rw [← hW4, ← hbe2]; exact box_cell _ _ _ _ _ rfl
  have hb34 := hb3.trans (hB4.mono hb3.size)
  have k04 := kept_cell hb34 k0
  have k14 := kept_cell hb34 k1
  have k24 := kept_cell hb34 k2
  have k34 := kept_cell hb34 k3
  have HB4 := Lib.hid (HB2.out.trans (hb34.mono HB2.out.size))
  have HT4 := Lib.hid (HT2.out.below hb34)
  have HV4 := Lib.hid (show SlN W4 (.slice av 2 cv) [0, 0] from Sl.below HV3.out hB4)
  have HD4 := Lib.hid (fun (W : World) (hb : Below W4.heap.size W4 W) (n : Int) (u : Value) (hn : I64 n) (hu : SlN W u [n]) => samp_decide n _ _ _ _ _ u W (HT4.out.below hb) (Sl.below HV4.out hb) hu hn (HGL.out.below (HB4.out.trans (hb.mono HB4.out.size))))
  have HC4 := Lib.hid (And.intro k04 (And.intro k14 (And.intro k24 (And.intro k34 (And.intro s0 (And.intro s1 s2))))))
  have hb45 := below_alloc W4 (.cells #[.int .i64 5] 3)
  have HDY := Lib.hid (HD4.out _ hb45 5 _ ⟨by decide, by decide⟩ (one_num W4 5))
  rw [samp_yes] at HDY
  clear hvv hb3 hB4 hb34 k0 k1 k2 k3 hW2 hbe1
  go_wp2_with fail
  refine HDY.out.mono ?_
  rintro _ w5 ⟨ve, rfl, hev, hb5⟩
  have hev : EvsIs w5 ve [⟨1, [5, 1]⟩] := hev.1
  rw [show (([⟨1, [5, 1]⟩] : List Ev), (0 : Int)).2 = 0 from rfl]
  have HEV := Lib.hid hev
  obtain ⟨ae, ce, rfl, -⟩ := hev.open
  rw [show ([⟨1, [5, 1]⟩] : List Ev).length = 1 from rfl] at HEV ⊢
  obtain ⟨be, oe, ea, cs, -, ⟨v5, rfl, hv5⟩, hce⟩ := HEV.out.at (show ([⟨1, [5, 1]⟩] : List Ev)[0]? = some ⟨1, [5, 1]⟩ from rfl)
  subst ea
  have l0 := hce 0 _ rfl
  have l1 := hce 1 _ rfl
  have l0 : w5.cell? ⟨be, oe, none⟩ = some (.int .i64 1) := by have := l0; simpa using this
  have l1 : w5.cell? ⟨be, oe + 1, none⟩ = some v5 := by have := l1; simpa using this
  have HV5 := Lib.hid hv5
  have hb4 := hb45.trans (hb5.mono hb45.size)
  have HC5 := Lib.hid (And.intro (kept_cell hb4 HC4.out.1) (And.intro (kept_cell hb4 HC4.out.2.1) (And.intro (kept_cell hb4 HC4.out.2.2.1) (And.intro (kept_cell hb4 HC4.out.2.2.2.1) (And.intro (kept_cell hb4 HC4.out.2.2.2.2.1) (And.intro (kept_cell hb4 HC4.out.2.2.2.2.2.1) (kept_cell hb4 HC4.out.2.2.2.2.2.2)))))))
  have HB5 := Lib.hid hb4
  have HL5 := Lib.hid (And.intro l0 l1)
  have hb56 := below_alloc w5 (.cells #[.int .i64 0] 3)
  have HDN := Lib.hid (HD4.out _ (hb4.trans (hb56.mono hb4.size)) 0 _ i64_0 (one_num w5 0))
  rw [samp_no] at HDN
  have HB56 := Lib.hid hb56
  obtain ⟨r0, r1, r2, r3, r4, r5, r6⟩ := HC5.out
  clear hev hce hv5 hb4 hb5 hb45 hb56 l0 l1 k04 k14 k24 k34 s0 s1 s2 hW4 hbe2 HDY HD4
  go_wp2_with fail
  refine HDN.out.mono ?_
  rintro _ w6 ⟨vn, rfl, -, hb6⟩
  have hb56 := HB56.out.trans (hb6.mono HB56.out.size)
  have l0 := kept_cell hb56 HL5.out.1
  have l1 := kept_cell hb56 HL5.out.2
  have hb46 := HB5.out.trans (hb56.mono HB5.out.size)
  have HC6 := Lib.hid (And.intro (kept_cell hb56 r0) (And.intro (kept_cell hb56 r1) (And.intro (kept_cell hb56 r2) (And.intro (kept_cell hb56 r3) (And.intro (kept_cell hb56 r4) (And.intro (kept_cell hb56 r5) (kept_cell hb56 r6)))))))
  have HB6 := Lib.hid hb46
  have HE6 := Lib.hid (show EvsIs w6 (.slice (some ⟨be, oe, none⟩) 1 ce) [⟨1, [5, 1]⟩] from EvsIs.below HEV.out hb56)
  have HV6 := Lib.hid (Sl.below HV5.out hb56)
  clear hb6 hb56 hb46 r0 r1 r2 r3 r4 r5 r6 HDN
  have hb67 := below_alloc w6 (.cells #[.int .i64 5, .int .i64 1] 3)
  have HIN := Lib.hid (V.ints_same v5 (.slice (some ⟨w6.heap.size, 0, none⟩) 2 2) [5, 1] (w6.alloc (.cells #[.int .i64 5, .int .i64 1] 3)) (by decide) (Sl.below HV6.out hb67) (Sl.row (xs := [.int .i64 5, .int .i64 1]) (heap_alloc_at w6 (.cells #[.int .i64 5, .int .i64 1] 3)) rfl))
  have HB67 := Lib.hid hb67
  clear hb67
  go_wp2_with fail
  refine HIN.out.mono ?_
  rintro _ w7 ⟨rfl, hb7⟩
  have hb67 := HB67.out.trans (hb7.mono HB67.out.size)
  have hb47 := HB6.out.trans (hb67.mono HB6.out.size)
  obtain ⟨r0, r1, r2, r3, r4, r5, r6⟩ := HC6.out
  have HC7 := Lib.hid (And.intro (kept_cell hb67 r0) (And.intro (kept_cell hb67 r1) (And.intro (kept_cell hb67 r2) (And.intro (kept_cell hb67 r3) (And.intro (kept_cell hb67 r4) (And.intro (kept_cell hb67 r5) (kept_cell hb67 r6)))))))
  have HB7 := Lib.hid hb47
  have hfo := fold_any sampleS [⟨1, [5, 1]⟩] (.slice av 2 cv) (.slice (some ⟨be, oe, none⟩) 1 ce) w7 i64_0 (Sl.below HV4.out hb47) (by decide) (EvsIs.below HE6.out hb67) (by decide) (by intro e he; rcases List.mem_singleton.1 he with rfl; decide)
  have hfo : Calls Tryd.prog 4 #[.agg #[.int .i64 0, .int .i64 0, .slice av 2 cv], .slice (some ⟨be, oe, none⟩) 1 ce] w7 (StOut ⟨1, 1, [5, 1]⟩ w7) := hfo
  have HFO := Lib.hid hfo
  clear l0 l1 r0 r1 r2 r3 r4 r5 r6 hb7 hb67 hb47 hfo HIN
  obtain ⟨r0, r1, r2, r3, r4, r5, r6⟩ := HC7.out
  go_wp2_with fail
  refine HFO.out.mono ?_
  rintro _ w8 ⟨vf, rfl, hvf, hb8⟩
  have hfd : ∀ (W : World) (v : Value), (Instr.field 24 (.agg #[.int .i64 1, .int .i64 1, v]) 1).run Tryd.prog W = .ok (.int .i64 1) W := fun _ _ => by kernel_rfl
  have HB8 := Lib.hid (HB7.out.trans (hb8.mono HB7.out.size))
  have HC8 := Lib.hid (And.intro (kept_cell hb8 r0) (And.intro (kept_cell hb8 r1) (And.intro (kept_cell hb8 r2) (And.intro (kept_cell hb8 r3) (And.intro (kept_cell hb8 r4) (And.intro (kept_cell hb8 r5) (kept_cell hb8 r6)))))))
  have hrt := right_any (sampleT [1]) sampleS _ _ _ _ (.slice av 2 cv) w8 (HT4.out.below HB8.out) samp_wf (Sl.below HV4.out HB8.out) (by decide) (HGL.out.below (HB4.out.trans (HB8.out.mono HB4.out.size)))
  rw [samp_right] at hrt
  have HRT := Lib.hid hrt
  rw [show sampleS.pos = 0 from rfl, show sampleS.ver = 0 from rfl] at HRT
  clear hb8 hvf r0 r1 r2 r3 r4 r5 r6 HFO hrt
  obtain ⟨r0, r1, r2, r3, r4, r5, r6⟩ := HC8.out
  go_wp2_with fail
  refine HRT.out.mono ?_
  rintro _ w9 ⟨rfl, hb9⟩
  have HB9 := Lib.hid (HB8.out.trans (hb9.mono HB8.out.size))
  clear hb9 r0 r1 r2 r3 r4 r5 r6
  go_wp2_with fail
  go_ret
  exact ⟨rfl, HB4.out.trans (HB9.out.mono HB4.out.size)⟩
end Go.Proofs.YtgkniocjlkfhmaaDoor.D
