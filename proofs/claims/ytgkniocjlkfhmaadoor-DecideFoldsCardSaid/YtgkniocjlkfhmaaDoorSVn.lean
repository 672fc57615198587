/-
  Layer 7, the reference: all, Right, Same, Events.
-/
import Derived.Test.YtgkniocjlkfhmaaDoorSVk
import Derived.Test.YtgkniocjlkfhmaaDoorSVm
import Derived.Test.YtgkniocjlkfhmaaDoorSVe
import Derived.Test.YtgkniocjlkfhmaaDoorSVh
import Derived.BigQuiet
namespace Go.Proofs.YtgkniocjlkfhmaaDoor.D
open Go Go.RowKit Go.Proofs.YtgkniocjlkfhmaaDoor.B Go.Proofs.YtgkniocjlkfhmaaDoor.K Go.Proofs.YtgkniocjlkfhmaaDoor.E Go.Proofs.YtgkniocjlkfhmaaDoor.R
set_option linter.unusedVariables false
set_option maxRecDepth 100000

set_option maxHeartbeats 1000000 in
theorem sameS_any (s : Stt) (v v' : Value) (w : World) (h : SlN w v s.vars) (h' : SlN w v' s.vars) (hl : s.vars.length ≤ 4611686018427387904) :
    Calls Tryd.prog 6 #[.agg #[.int .i64 s.pos, .int .i64 s.ver, v], .agg #[.int .i64 s.pos, .int .i64 s.ver, v']] w fun z w' => z = .returned (.bool true) ∧ Below w.heap.size w w' := by
  have HI := Lib.hid (fun (W : World) (hb : Below w.heap.size w W) => V.ints_same v v' s.vars W hl (Sl.below h hb) (Sl.below h' hb))
  obtain ⟨p, hp⟩ : ∃ N, s.pos = N := ⟨_, rfl⟩
  obtain ⟨r, hr⟩ : ∃ N, s.ver = N := ⟨_, rfl⟩
  rw [hp, hr]
  obtain ⟨W0, hW0⟩ : ∃ W0, w.alloc (.cells #[.int .i64 p, .int .i64 r, v] 24) = W0 := ⟨_, rfl⟩
  obtain ⟨g, hg⟩ : ∃ g, W0.heap.size = g := ⟨_, rfl⟩
  obtain ⟨W1, hW1⟩ : ∃ W1, W0.alloc (.cells #[.int .i64 p, .int .i64 r, v'] 24) = W1 := ⟨_, rfl⟩
  have hB0 : Below w.heap.size w W0 := by rw [← hW0]; exact below_alloc _ _
  have hB1 : Below W0.heap.size W0 W1 := by rw [← hW1]; exact below_alloc _ _
  have q0 : W0.cell? ⟨w.heap.size, 0, none⟩ = some (.int .i64 p) := by rw [← hW0]; exact (box3 _ _ _ _ _).1
  have q1 : W0.cell? ⟨w.heap.size, 1, none⟩ = some (.int .i64 r) := by rw [← hW0]; exact (box3 _ _ _ _ _).2.1
  have q2 : W0.cell? ⟨w.heap.size, 2, none⟩ = some v := by rw [← hW0]; exact (box3 _ _ _ _ _).2.2
  have q0 := kept_cell hB1 q0
  have q1 := kept_cell hB1 q1
  have q2 := kept_cell hB1 q2
  have k0 : W1.cell? ⟨g, 0, none⟩ = some (.int .i64 p) := by rw [← hW1, ← hg]; exact (box3 _ _ _ _ _).1
  have k1 : W1.cell? ⟨g, 1, none⟩ = some (.int .i64 r) := by rw [← hW1, ← hg]; exact (box3 _ _ _ _ _).2.1
  have k2 : W1.cell? ⟨g, 2, none⟩ = some v' := by rw [← hW1, ← hg]; exact (box3 _ _ _ _ _).2.2
  have hb := hB0.trans (hB1.mono hB0.size)
  have HB := Lib.hid hb
  have H := Lib.hid (HI.out W1 hb)
  clear hB0 hB1 hb HI h h' hp hr
  go_enter Tryd.func6, Tryd.ntmps6
  go_wp2_with fail
  refine H.out.mono ?_
  rintro _ w2 ⟨rfl, hb2⟩
  have HB2 := Lib.hid (HB.out.trans (hb2.mono HB.out.size))
  clear hb2
  go_wp2_with fail
  go_ret
  exact ⟨rfl, HB2.out⟩

end Go.Proofs.YtgkniocjlkfhmaaDoor.D
