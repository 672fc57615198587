/-
  Layer 13, the program: Parse.
-/
import Derived.Test.YtelcemfaijjcbaaGreatDoorHP13Lc
namespace Go.Proofs.YtelcemfaijjcbaaGreatDoor.C13
open Go Go.RowKit Go.Proofs Go.Proofs.YtelcemfaijjcbaaGreatDoor.B Go.Proofs.YtelcemfaijjcbaaGreatDoor.K Go.Proofs.YtelcemfaijjcbaaGreatDoor.P8 Go.Proofs.YtelcemfaijjcbaaGreatDoor.C12
set_option linter.unusedVariables false
set_option maxRecDepth 100000

set_option maxHeartbeats 1000000 in
theorem through_mk (s : ByteArray) (first : Int) (w : World) : Calls Tryz.prog 26 #[.string s, .int .i64 first] w fun e w' => ∃ bs bf, e = .returned (.func (.func 46) #[] #[.pointer (some ⟨bf, 0, none⟩), .pointer (some ⟨bs, 0, none⟩)]) ∧ w'.cell? ⟨bs, 0, none⟩ = some (.string s) ∧ w'.cell? ⟨bf, 0, none⟩ = some (.int .i64 first) ∧ w.heap.size ≤ bs ∧ Below w.heap.size w w' := by
  have h1 := alloc_cell w [.string s] 9 0 (.string s) rfl
  have hb1 := below_alloc w (.cells #[.string s] 9)
  have h2 := alloc_cell (w.alloc (.cells #[.string s] 9)) [.int .i64 first] 3 0 (.int .i64 first) rfl
  have hb2 := below_alloc (w.alloc (.cells #[.string s] 9)) (.cells #[.int .i64 first] 3)
  have H1 := Lib.hid (kept_cell hb2 h1)
  have H2 := Lib.hid h2
  have HB := Lib.hid (hb1.trans (hb2.mono hb1.size))
  clear h1 h2 hb1 hb2
  go_enter Tryz.func26, Tryz.ntmps26
  go_wp2_with fail
  go_ret
  exact ⟨_, _, rfl, H1.out, by simp, Nat.le_refl _, HB.out⟩
set_option maxHeartbeats 2000000 in
theorem parse_prog (s : List UInt8) (first : Int) (w : World) (hs : s.length ≤ 1000000) (hf : -9223372036854775808 ≤ first ∧ first ≤ 1099511627776) :
    Calls Tryz.prog 9 #[.string (str s), .int .i64 first] w fun e w' => ∃ v, e = .returned (.tuple #[v, .int .i64 ((parseL s first).2 : Int)]) ∧ Sl w' v ((parseL s first).1.map sv) ∧ Below w.heap.size w w' := by
  by_cases h0 : first < 0
  · have hp : parseL s first = ([], 0) := by unfold parseL; rw [if_pos h0]
    rw [hp]
    clear hp hf hs
    go_enter Tryz.func9, Tryz.ntmps9
    go_wp2_with fail
    go_ret2
    exact ⟨_, rfl, Sl.nil _, Below.refl _ _⟩
  have HTM := Lib.hid (fun W => through_mk (str s) first W)
  have hb0 := below_alloc w (.cells #[.slice none 0 0] 54)
  have hc0 : (w.alloc (.cells #[.slice none 0 0] 54)).heap[w.heap.size]? = some (.cells #[.slice none 0 0] 54 (0, 0)) := heap_alloc_at _ _
  have hlt0 : w.heap.size < (w.alloc (.cells #[.slice none 0 0] 54)).heap.size := (Array.getElem?_eq_some_iff.1 hc0).1
  have HL0 := Lib.hid hlt0
  have HTM := Lib.hid (show Calls Tryz.prog 26 #[.string (str s), .int .i64 first] (w.alloc (.cells #[.slice none 0 0] 54)) fun e w' => ∃ bs bf, e = .returned (.func (.func 46) #[] #[.pointer (some ⟨bf, 0, none⟩), .pointer (some ⟨bs, 0, none⟩)]) ∧ (w'.heap[w.heap.size]? = some (.cells #[.slice none 0 0] 54 (0, 0)) ∧ w'.cell? ⟨bs, 0, none⟩ = some (.string (str s)) ∧ w'.cell? ⟨bf, 0, none⟩ = some (.int .i64 first) ∧ bs ≠ w.heap.size) ∧ Below w.heap.size w w' from
    (through_mk (str s) first _).mono fun e w' ⟨bs, bf, h0, h1, h2, h3, h4⟩ => ⟨bs, bf, h0, ⟨(h4.block _ hlt0).trans hc0, h1, h2, by omega⟩, hb0.trans (h4.mono hb0.size)⟩)
  have HTH := Lib.hid (show ∀ bs bf w1, w1.heap[w.heap.size]? = some (.cells #[.slice none 0 0] 54 (0, 0)) ∧ w1.cell? ⟨bs, 0, none⟩ = some (.string (str s)) ∧ w1.cell? ⟨bf, 0, none⟩ = some (.int .i64 first) ∧ bs ≠ w.heap.size → Below w.heap.size w w1 →
      Calls Tryz.prog 46 #[.func (.func 27) #[.pointer (some ⟨w.heap.size, 0, none⟩)] #[], .pointer (some ⟨bf, 0, none⟩), .pointer (some ⟨bs, 0, none⟩)] w1 fun e w' => e = .returned (.int .i64 ((parseL s first).2 : Int)) ∧ ∃ rv, (w'.cell? ⟨w.heap.size, 0, none⟩ = some rv ∧ Sl w' rv ((parseL s first).1.map sv)) ∧ Below w.heap.size w w' from fun bs bf w1 ⟨k1, k2, k3, k4⟩ hb => by
    refine (thro_any s first w.heap.size 0 bs bf _ _ (.slice none 0 0) [] w1 (by omega) (Nat.zero_le _) ⟨by omega, by omega⟩ k1 (by decide) rfl (World.ownsRow_nil _ _ _ _) k2 k3 ⟨k4, by simp [Value.ownBlock]⟩).mono ?_
    rintro e w2 ⟨he, rv, m1, m2, m3, m4⟩
    refine ⟨he, rv, ⟨(row_at m1 0 rv rfl).1, ?_⟩, ?_⟩
    · have := Sl.owns m2
      rwa [List.nil_append] at this
    · refine m3.onto hb (Nat.le_refl _) fun i hi => ?_
      rcases hi with rfl | hi
      · exact Nat.le_refl _
      · simp [Value.ownBlock] at hi)
  have hnn : ¬ first < 0 := h0
  clear hb0 hc0 hlt0 hs hf h0
  go_enter Tryz.func9, Tryz.ntmps9
  go_wp2_with (first
    | (go_at_call 26; (with_reducible refine HTM.out.mono ?_); rintro _ w1 ⟨bs, bf, rfl, h1, h4⟩; have H1 := Lib.hid h1; have H4 := Lib.hid h4; clear h1 h4)
    | (go_at_call 46; (with_reducible refine (HTH.out bs bf _ H1.out H4.out).mono ?_); rintro _ w2 ⟨rfl, rv, ⟨k1, k2⟩, k3⟩; have K2 := Lib.hid k2; have K3 := Lib.hid k3; clear k2 k3))
  go_ret2
  exact ⟨_, rfl, K2.out, K3.out⟩
end Go.Proofs.YtelcemfaijjcbaaGreatDoor.C13
