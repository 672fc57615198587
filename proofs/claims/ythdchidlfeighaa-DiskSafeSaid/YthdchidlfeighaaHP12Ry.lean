/-
  Layer 12, the document's answers: New, Names.
-/
import Derived.Test.YthdchidlfeighaaHP12Rx
namespace Go.Proofs.Ythdchidlfeighaa.C12
open Go Go.RowKit Go.Proofs Go.Proofs.Ythdchidlfeighaa.B Go.Proofs.Ythdchidlfeighaa.K Go.Proofs.Ythdchidlfeighaa.P8
set_option linter.unusedVariables false
set_option maxRecDepth 100000

theorem new_bad (room : Int) (w : World) (h : room < 0 ∨ 1048576 < room) :
    Calls Try.prog 23 #[.int .i64 room] w fun e w' => e = .returned (.tuple #[.pointer none, .int .i64 2]) ∧ w = w' := by
  by_cases h0 : room < 0
  · have d0 : decide (room < 0) = true := decide_eq_true h0
    go_enter Try.func23, Try.ntmps23
    go_wp2_with fail
    go_ret2
    exact ⟨rfl, rfl⟩
  · have h1 : 1048576 < room := by omega
    have d0 : decide (room < 0) = false := decide_eq_false h0
    have d1 : decide (1048576 < room) = true := decide_eq_true h1
    go_enter Try.func23, Try.ntmps23
    go_wp2_with fail
    go_ret2
    exact ⟨rfl, rfl⟩
theorem new_good (room : Int) (w : World) (h : 0 ≤ room ∧ room ≤ 1048576) :
    Calls Try.prog 23 #[.int .i64 room] w fun e w' => e = .returned (.tuple #[.pointer (some ⟨w.heap.size, 0, none⟩), .int .i64 0]) ∧ RAt w' (fun i => i = w.heap.size) w.heap.size ⟨room, [], 0, false⟩ ∧ Below w.heap.size w w' := by
  have h0 : ¬ room < 0 := by omega
  have h1 : ¬ 1048576 < room := by omega
  have d0 : decide (room < 0) = false := decide_eq_false h0
  have d1 : decide (1048576 < room) = false := decide_eq_false h1
  have HH := Lib.hid h
  clear h
  go_enter Try.func23, Try.ntmps23
  go_wp2_with fail
  go_ret2
  refine ⟨rfl, ⟨⟨.slice none 0 0, heap_alloc_at _ _, FlsIs.nil _, fun a n c e => by cases e⟩, rfl, fun i hi => ?_, ⟨HH.out, ⟨by show (0 : Int) ≤ 0; omega, by show (0 : Int) ≤ _; omega⟩, Nat.zero_le _, fun f hf => by cases hf⟩⟩, below_alloc _ _⟩
  rw [hi]
  exact (Array.getElem?_eq_some_iff.1 (heap_alloc_at w _)).1

theorem str_info : ∃ i, Try.prog.info? 9 = some i ∧ i.zero = some (.string ⟨#[]⟩) ∧ i.size = 1 ∧ i.bytes = 16 := by
  have h : (Try.prog.info? 9).map (fun i => (i.zero, i.size, i.bytes)) = some (some (.string ⟨#[]⟩), 1, 16) := by kernel_rfl
  obtain ⟨i, hi, e⟩ := Option.map_eq_some_iff.1 h
  simp only [Prod.mk.injEq] at e
  exact ⟨i, hi, e.1, e.2.1, e.2.2⟩
theorem new_one (w : World) (v : Value) (e : TypeId) : ∀ (j : Nat) (u : Value), [v][j]? = some u → (w.alloc (.cells #[v] e)).cell? ((⟨w.heap.size, 0, none⟩ : Addr).add j) = some u := by
  intro j u hj
  rw [show (⟨w.heap.size, 0, none⟩ : Addr).add j = ⟨w.heap.size, j, none⟩ by unfold Addr.add; split <;> simp_all]
  exact alloc_cell w [v] e j u hj
def namesOf (l : List Fl) : List (List UInt8) := l.map fun y => y.name
set_option maxHeartbeats 4000000 in
theorem names_any (b : Nat) (G : Nat → Prop) (D : Dst) (w : World) (h : RAt w G b D) :
    Calls Try.prog 30 #[.pointer (some ⟨b, 0, none⟩)] w fun e w' => ∃ v, e = .returned v ∧ Sl w' v ((namesOf D.files).map sv) ∧ Below w.heap.size w w' := by
  obtain ⟨v, hrow, hfl, -⟩ := h.cell
  obtain ⟨i0, hi, hz0, hz1, hz2⟩ := str_info
  have hn := h.ok.count
  obtain ⟨a, cap, rfl, hc⟩ := hfl.open
  obtain ⟨N, hN⟩ : ∃ N, D.files.length = N := ⟨_, rfl⟩
  rw [hN] at hrow hn
  obtain ⟨c1, f1⟩ := row_at hrow 1 _ rfl
  have HC := Lib.hid hc
  have HN := Lib.hid hN
  clear hc hN hfl hrow h
  go_enter Try.func30, Try.ntmps30
  go_wp2_with fail
  go_loopw [3, 4] (fun o i wr => ∃ K : Nat, i = .int .i64 (K : Int) ∧ K ≤ N ∧ wr.ownsRow w.heap.size 9 1 o K ((namesOf (D.files.take K)).map sv) ∧ Hid (Below w.heap.size w wr)) (fun _ i _ => N - (intOf i).toNat)
  case atStart => exact ⟨0, rfl, Nat.zero_le _, World.ownsRow_nil _ _ _ _, Lib.hid (Below.refl _ _)⟩
  case round =>
    obtain ⟨K, rfl, hK, hown, HB⟩ := hrel
    have c1' := kept_cell HB.out c1
    by_cases hlt : K < N
    · have hltI : (K : Int) < (N : Int) := by omega
      have hk0 : 0 ≤ (K : Int) := by omega
      have hw1 : IntKind.i64.wrap ((K : Int) + 1) = (K : Int) + 1 := IntWalk.i64_in _ (by omega)
      obtain ⟨y, hy⟩ : ∃ y, D.files[K]? = some y := ⟨_, List.getElem?_eq_getElem (by rw [HN.out]; exact hlt)⟩
      obtain ⟨b', off, rfl, k0, -, -⟩ := HC.out K y hy
      have k0' := kept_cell HB.out k0
      have HD := Lib.hid (show (namesOf (D.files.take (K + 1))).map sv = (namesOf (D.files.take K)).map sv ++ [.string (str y.name)] by
        unfold namesOf
        rw [List.take_add_one, hy]
        simp [sv])
      have HC4 := Lib.hid (show (K + 1) * 16 ≤ 140737488355328 by omega)
      have HC5 := Lib.hid (show w.heap.size ≤ (wr.alloc (.cells #[.string (str y.name)] 9)).heap.size from Nat.le_trans HB.out.size (below_alloc _ _).size)
      have HO := Lib.hid (hown.alloc (.cells #[.string (str y.name)] 9))
      clear k0 hy hown
      go_wp2_with (at_builtin; refine wpList_append_own _ rfl _ _ 36 rfl w.heap.size 9 i0 (.string ⟨#[]⟩) 1 16 Try.underlying36 hi hz0 hz1 hz2 rfl (by decide) _ _ _ rfl HO.out ⟨wr.heap.size, 0, none⟩ 1 1 [.string (str y.name)] rfl rfl (new_one _ _ _) (by intro u hu; simp at hu; subst hu; rfl) (by unfold maxLen; omega) HC4.out HC5.out ?_; intro v' w5 hown' hgrow hnn; have HB5 := Lib.hid ((HB.out.alloc HB.out.size _).grown hgrow HC5.out (owns_blk HO.out)); have HOW := Lib.hid hown'; clear hnn hown' hgrow)
      go_roundw
      case rel => exact ⟨K + 1, by go_num, by omega, by rw [HD.out]; exact HOW.out, HB5⟩
      case measure => simp [intOf]; omega
    · have hltI : ¬ (K : Int) < (N : Int) := by omega
      have hKN : K = N := by omega
      rw [List.take_of_length_le (i := K) (by rw [HN.out]; omega)] at hown
      rw [hKN] at hown
      clear hKN
      have HO := Lib.hid (Sl.owns hown)
      obtain ⟨av, cv, rfl⟩ := shape_own hown
      clear hown
      go_wp2_with fail
      go_ret
      exact ⟨_, rfl, HO.out, HB.out⟩
end Go.Proofs.Ythdchidlfeighaa.C12
