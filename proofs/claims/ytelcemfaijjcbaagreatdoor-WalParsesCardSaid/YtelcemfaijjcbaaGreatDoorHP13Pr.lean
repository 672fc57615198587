/-
  Layer 12, the laws: both disks behind some calls.
  Layer 12: the same texts are the same.
  Layer 12, the laws: do both say the same of all files?
  Layer 12, plainly: what an Append that is refused, or done, makes of how many bytes there are.
  Layer 12, plainly: what a crash leaves of each file; is a text a beginning of another one?
  Layer 12, plainly: what a call does to other files.
  Layer 13, plainly: segments on a disk, under each write and a crash.
  Layer 13, plainly: what a crash leaves of segments, and what an Open makes of it.
-/
import Derived.Test.YtelcemfaijjcbaaGreatDoorHP10Arg
import Derived.Test.YtelcemfaijjcbaaGreatDoorHP12Lb
import Derived.Handy
import Derived.Test.YtelcemfaijjcbaaGreatDoorHP12Pd
import Derived.BigQuiet
import Derived.Test.YtelcemfaijjcbaaGreatDoorHP13Lb
namespace Go.Proofs.YtelcemfaijjcbaaGreatDoor.C12
open Go Go.RowKit Go.Proofs Go.Proofs.YtelcemfaijjcbaaGreatDoor.B Go.Proofs.YtelcemfaijjcbaaGreatDoor.K Go.Proofs.YtelcemfaijjcbaaGreatDoor.P8
set_option linter.unusedVariables false
set_option maxRecDepth 100000

/-- One call as it lies in memory. -/
def ActIs (w : World) (B : Nat) (cs : List Value) (a : ActL) : Prop := ∃ kv, cs = [.int .i64 a.kind, .string (str a.name), .string (str a.s), .string (str a.tox), .int .i64 a.n, kv] ∧ Kp0 w B kv a.keep ∧ ActWf a
/-- Calls in a slice that was there ahead. -/
def ActsIs (w : World) (B : Nat) (v : Value) (l : List ActL) : Prop :=
  ∃ a cap, v = .slice a l.length cap ∧ ∀ (j : Nat) (y : ActL), l[j]? = some y → ∃ b off cs, a = some ⟨b, off, none⟩ ∧ b < B ∧ ActIs w B cs y ∧ ∀ i u, cs[i]? = some u → w.cell? ⟨b, off + j * 6 + i, none⟩ = some u
theorem ActIs.below {w w' : World} {B : Nat} {cs : List Value} {a : ActL} (h : ActIs w B cs a) (hb : Below B w w') : ActIs w' B cs a := by
  obtain ⟨kv, e, h1, h2⟩ := h
  exact ⟨kv, e, h1.below hb, h2⟩
theorem ActsIs.below {w w' : World} {B : Nat} {v : Value} {l : List ActL} (h : ActsIs w B v l) (hb : Below B w w') : ActsIs w' B v l := by
  obtain ⟨a, cap, rfl, h1⟩ := h
  refine ⟨a, cap, rfl, fun j y hj => ?_⟩
  obtain ⟨b, off, cs, rfl, hlt, h2, h3⟩ := h1 j y hj
  exact ⟨b, off, cs, rfl, hlt, h2.below hb, fun i u hi => cell_same (hb.block b hlt) (h3 i u hi)⟩
def runD : Dst → List ActL → Dst
  | D, [] => D
  | D, a :: l => runD (stepD D a).1 l
theorem runD_snoc (a : ActL) : ∀ (l : List ActL) (D : Dst), runD D (l ++ [a]) = (stepD (runD D l) a).1
  | [], D => rfl
  | b :: l, D => runD_snoc a l _

end Go.Proofs.YtelcemfaijjcbaaGreatDoor.C12

namespace Go.Proofs.YtelcemfaijjcbaaGreatDoor.C12
open Go Go.RowKit Go.Proofs Go.Proofs.YtelcemfaijjcbaaGreatDoor.B Go.Proofs.YtelcemfaijjcbaaGreatDoor.K Go.Proofs.YtelcemfaijjcbaaGreatDoor.P8
set_option linter.unusedVariables false
set_option maxRecDepth 100000

set_option maxHeartbeats 1000000 in
theorem same_same (v v' : Value) (xs : List (List UInt8)) (w : World) (hn : xs.length ≤ 4611686018427387904) (h : Sl w v (xs.map sv)) (h' : Sl w v' (xs.map sv)) :
    Calls Tryz.prog 11 #[v, v'] w fun e w' => e = .returned (.bool true) ∧ Below w.heap.size w w' := by
  obtain ⟨a, cap, rfl, hc⟩ := h
  obtain ⟨a', cap', rfl, hc'⟩ := h'
  rw [List.length_map]
  have hnn : ((xs.length : Int) != (xs.length : Int)) = false := by simp
  have HC := Lib.hid hc; clear hc
  have HC' := Lib.hid hc'; clear hc'
  obtain ⟨n, hN⟩ : ∃ n, xs.length = n := ⟨_, rfl⟩
  rw [hN] at hn hnn ⊢
  have HN := Lib.hid hN; clear hN
  go_enter Tryz.func11, Tryz.ntmps11
  go_wp2_with fail
  go_loopw [5] (fun i wr => ∃ k : Nat, k ≤ n ∧ i = .int .i64 (k : Int) ∧ Below w.heap.size w wr) (fun i _ => n - (intOf i).toNat)
  case atStart => exact ⟨0, Nat.zero_le _, rfl, Below.refl _ _⟩
  case round =>
    obtain ⟨k, hk, rfl, hbel⟩ := hrel
    by_cases hlt : k < n
    · obtain ⟨x, hx⟩ : ∃ x, xs[k]? = some x := ⟨_, List.getElem?_eq_getElem (by rw [HN.out]; exact hlt)⟩
      obtain ⟨b, off, rfl, hcell⟩ := HC.out k (.string (str x)) (by rw [List.getElem?_map, hx]; rfl)
      obtain ⟨b', off', rfl, hcell'⟩ := HC'.out k (.string (str x)) (by rw [List.getElem?_map, hx]; rfl)
      have hc1 : wr.cell? ⟨b, off + k, none⟩ = some (.string (str x)) := (hbel.cell (World.block_lt_of_cell? w _ hcell)).trans hcell
      have hc2 : wr.cell? ⟨b', off' + k, none⟩ = some (.string (str x)) := (hbel.cell (World.block_lt_of_cell? w _ hcell')).trans hcell'
      have hltI : (k : Int) < (n : Int) := by omega
      have hk0 : 0 ≤ (k : Int) := by omega
      clear hcell hcell' hx
      go_wp2_with fail
      go_quiet (fail)
      go_wp2_with fail
      go_roundw
      case rel => exact ⟨k + 1, by omega, by go_num, hbel.trans ((Go.Proofs.YtelcemfaijjcbaaGreatDoor.P8.below_drewN wr _).mono hbel.size)⟩
      case measure => simp [intOf]; omega
    · have hltI : ¬ (k : Int) < (n : Int) := by omega
      go_wp2_with fail
      go_ret
      exact ⟨rfl, hbel⟩
end Go.Proofs.YtelcemfaijjcbaaGreatDoor.C12

namespace Go.Proofs.YtelcemfaijjcbaaGreatDoor.C12
open Go Go.RowKit Go.Proofs Go.Proofs.YtelcemfaijjcbaaGreatDoor.B Go.Proofs.YtelcemfaijjcbaaGreatDoor.K Go.Proofs.YtelcemfaijjcbaaGreatDoor.P8
set_option linter.unusedVariables false
set_option maxRecDepth 100000

section
variable {B : Nat} {w : World} {d x : Nat} {D E : Dst}
end

end Go.Proofs.YtelcemfaijjcbaaGreatDoor.C12

namespace Go.Proofs.YtelcemfaijjcbaaGreatDoor.C12
open Go Go.RowKit Go.Proofs Go.Proofs.YtelcemfaijjcbaaGreatDoor.B Go.Proofs.YtelcemfaijjcbaaGreatDoor.K Go.Proofs.YtelcemfaijjcbaaGreatDoor.P8
set_option linter.unusedVariables false
set_option maxRecDepth 100000

theorem goes_room (D : Dst) : (goesD D).1.room = D.room := by unfold goesD; split <;> rfl
theorem goD_room {D : Dst} {k : Dst → Dst} (hk : ∀ E : Dst, (k E).room = E.room) : (goD D k).1.room = D.room := by
  unfold goD
  split
  · exact goes_room D
  · show (k _).room = _; rw [hk, goes_room]
theorem someD_room {D : Dst} {t : List UInt8} {k : Fl → Dst × Int} (hk : ∀ f, (k f).1.room = D.room) : (someD D t k).1.room = D.room := by
  unfold someD
  split
  · rfl
  · split
    · rfl
    · exact hk _
theorem append_room (D : Dst) (s t : List UInt8) : (appendD D s t).1.room = D.room := by
  unfold appendD
  split
  · rfl
  · split
    · rfl
    · split
      · rfl
      · exact goes_room _
theorem step_room (D : Dst) (a : ActL) : (stepD D a).1.room = D.room := by
  unfold stepD
  split
  · exact append_room _ _ _
  split
  · exact someD_room fun f => goD_room fun E => rfl
  split
  · refine someD_room fun f => ?_
    split
    · rfl
    · refine goD_room fun E => ?_
      split <;> rfl
  split
  · unfold renameD
    split
    · rfl
    split
    · rfl
    refine someD_room fun f => ?_
    split
    · rfl
    · exact goD_room fun E => rfl
  split
  · exact someD_room fun f => goD_room fun E => rfl
  split
  · unfold armD
    split
    · rfl
    · split <;> rfl
  · rfl
/-- Refused: nothing has changed. -/
theorem append_full {D : Dst} {s t : List UInt8} (h : (appendD D s t).2 = 10) : (appendD D s t).1 = D := by
  unfold appendD at h ⊢
  split
  · rfl
  · rename_i h1
    rw [if_neg h1] at h
    split
    · rfl
    · rename_i h2
      rw [if_neg h2] at h
      split
      · rfl
      · rename_i h3
        rw [if_neg h3] at h
        dsimp only at h
        split at h <;> cases h
/-- Done: so many bytes more. -/
theorem append_more {D : Dst} (hR : Rise D.files) {s t : List UInt8} (h : (appendD D s t).2 = 0) : usedF (appendD D s t).1.files = usedF D.files + t.length := by
  unfold appendD at h ⊢
  split
  · rename_i h1; rw [if_pos h1] at h; cases h
  · rename_i h1
    rw [if_neg h1] at h
    split
    · rename_i h2; rw [if_pos h2] at h; cases h
    · rename_i h2
      rw [if_neg h2] at h
      split
      · rename_i h3; rw [if_pos h3] at h; cases h
      · show usedF (goesD _).1.files = _
        rw [goes_files]
        show usedF (setF D.files _) = _
        rw [used_set]
        cases e : findF D.files s with
        | none =>
          simp only [Option.getD_none, szF, List.length_nil, List.nil_append]
          rw [drop_none (find_no.1 e)]
          omega
        | some f =>
          obtain ⟨hm, hn⟩ := find_facts e
          simp only [Option.getD_some, szF, List.length_append]
          have := used_drop hR hm
          unfold szF at this
          omega
theorem Own.fine {B : Nat} {w : World} {d : Nat} {D : Dst} (h : Own B w d D) : Fine D := by obtain ⟨F, hp, _⟩ := h; exact hp.fine
theorem Own.base {B : Nat} {w : World} {d : Nat} {D : Dst} (h : Own B w d D) : B ≤ w.heap.size := by obtain ⟨F, hp, _, hB⟩ := h; exact hB
theorem o_used {B : Nat} {w : World} {d : Nat} {D : Dst} (h : Own B w d D) : Calls Tryz.prog 21 #[.pointer (some ⟨d, 0, none⟩)] w fun e w' => e = .returned (.int .i64 (usedF D.files : Int)) ∧ Below w.heap.size w w' := by
  obtain ⟨F, ⟨M, n, Dm, g, bv, hp⟩, _⟩ := h
  exact pused_any hp
theorem o_list {B : Nat} {w : World} {d : Nat} {D : Dst} (h : Own B w d D) : Calls Tryz.prog 31 #[.pointer (some ⟨d, 0, none⟩)] w fun e w' => ∃ a c, e = .returned (.slice a D.files.length c) ∧ Below w.heap.size w w' := by
  obtain ⟨F, ⟨M, n, Dm, g, bv, hp⟩, _⟩ := h
  refine (plist_any hp).mono ?_
  rintro e w' ⟨v, he, ⟨a, c, rfl, _⟩, _, hb⟩
  rw [List.length_map, show (namesOf D.files).length = D.files.length from by unfold namesOf; rw [List.length_map]] at he
  exact ⟨a, c, he, hb⟩
theorem o_append {B : Nat} {w : World} {d : Nat} {D : Dst} (h : Own B w d D) (s t : List UInt8) (hs : s.length ≤ 140737488355328) (ht : t.length ≤ 140737488355328) : Calls Tryz.prog 43 #[.pointer (some ⟨d, 0, none⟩), .string (str s), .string (str t)] w fun e w' => e = .returned (.int .i64 (appendD D s t).2) ∧ Own B w' d (appendD D s t).1 ∧ Below B w w' :=
  h.wrote fun F hp => pappend_any hp s t hs ht
end Go.Proofs.YtelcemfaijjcbaaGreatDoor.C12

namespace Go.Proofs.YtelcemfaijjcbaaGreatDoor.C12
open Go Go.RowKit Go.Proofs Go.Proofs.YtelcemfaijjcbaaGreatDoor.B Go.Proofs.YtelcemfaijjcbaaGreatDoor.K Go.Proofs.YtelcemfaijjcbaaGreatDoor.P8
set_option linter.unusedVariables false
set_option maxRecDepth 100000

theorem crash_one (y : Fl) (l : List Fl) (keep : List Int) : ∃ k r, crashGo (y :: l) keep = kept y k :: crashGo l r := by
  by_cases hm : y.more = []
  · exact ⟨0, keep, crash_nil hm⟩
  · cases keep with
    | nil => exact ⟨0, [], crash_none hm⟩
    | cons k r =>
      by_cases hk : 0 < k
      · exact ⟨_, r, crash_some hm hk⟩
      · exact ⟨0, r, crash_low hm hk⟩
theorem crash_at : ∀ (l : List Fl) (keep : List Int) (i : Nat) (y : Fl), l[i]? = some y → ∃ k, (crashGo l keep)[i]? = some (kept y k)
  | [], _, i, y, h => by simp at h
  | z :: l, keep, i, y, h => by
    obtain ⟨k, r, e⟩ := crash_one z l keep
    rw [e]
    cases i with
    | zero => simp at h; subst h; exact ⟨k, rfl⟩
    | succ i => simpa using crash_at l r i y (by simpa using h)
theorem crash_names : ∀ (l : List Fl) (keep : List Int), namesOf (crashGo l keep) = namesOf l
  | [], _ => rfl
  | y :: l, keep => by
    obtain ⟨k, r, e⟩ := crash_one y l keep
    rw [e]
    show (kept y k).name :: namesOf (crashGo l r) = y.name :: namesOf l
    rw [crash_names l r]
    rfl
theorem crash_len (l : List Fl) (keep : List Int) : (crashGo l keep).length = l.length := by
  have := congrArg List.length (crash_names l keep)
  unfold namesOf at this
  simpa using this
theorem crash_safe : ∀ (l : List Fl) (keep : List Int), ∀ f ∈ crashGo l keep, f.more = []
  | [], _, f, h => by cases h
  | y :: l, keep, f, h => by
    obtain ⟨k, r, e⟩ := crash_one y l keep
    rw [e] at h
    rcases List.mem_cons.1 h with rfl | h
    · rfl
    · exact crash_safe l r f h
theorem crash_idle : ∀ (l : List Fl) (keep : List Int), (∀ f ∈ l, f.more = []) → crashGo l keep = l
  | [], _, _ => rfl
  | y :: l, keep, h => by
    have hm := h y (List.mem_cons_self ..)
    rw [crash_nil hm, crash_idle l keep fun f hf => h f (List.mem_cons_of_mem _ hf)]
    unfold kept
    rw [hm]
    congr 1
    obtain ⟨n, s, m⟩ := y
    cases hm
    simp
/-- What is told of a file behind a crash. -/
theorem crash_tells {D : Dst} (h : Rise D.files) (keep : List Int) {i : Nat} {y : Fl} (hy : D.files[i]? = some y) : ∃ k, readD (crashD D keep) y.name = (y.safe ++ y.more.take k, 0) ∧ safeD (crashD D keep) y.name = ((y.safe ++ y.more.take k).length : Int) := by
  obtain ⟨k, hk⟩ := crash_at D.files keep i y hy
  have hr : Rise (crashGo D.files keep) := rise_names h (crash_names _ _)
  have hf : findF (crashD D keep).files y.name = some (kept y k) := rise_find hr (f := kept y k) (List.mem_of_getElem? hk)
  refine ⟨k, ?_, ?_⟩
  · unfold readD
    rw [show (crashD D keep).down = false from rfl, if_neg (by simp), hf]
    show ((y.safe ++ y.more.take k) ++ [], (0 : Int)) = _
    rw [List.append_nil]
  · unfold safeD
    rw [hf]
    rfl
theorem o_read {B : Nat} {w : World} {d : Nat} {D : Dst} (h : Own B w d D) (s : List UInt8) (hs : s.length ≤ maxLen) : Calls Tryz.prog 56 #[.pointer (some ⟨d, 0, none⟩), .string (str s)] w fun e w' => e = .returned (.tuple #[.string (str (readD D s).1), .int .i64 (readD D s).2]) ∧ Below w.heap.size w w' := by
  obtain ⟨F, hp, _⟩ := h
  exact pread_any hp s hs
theorem o_safe {B : Nat} {w : World} {d : Nat} {D : Dst} (h : Own B w d D) (s : List UInt8) (hs : s.length ≤ maxLen) : Calls Tryz.prog 84 #[.pointer (some ⟨d, 0, none⟩), .string (str s)] w fun e w' => e = .returned (.int .i64 (safeD D s)) ∧ Below w.heap.size w w' := by
  obtain ⟨F, hp, _⟩ := h
  exact psafe_any hp s hs
theorem o_down {B : Nat} {w : World} {d : Nat} {D : Dst} (h : Own B w d D) : Calls Tryz.prog 34 #[.pointer (some ⟨d, 0, none⟩)] w fun e w' => e = .returned (.bool D.down) ∧ Below w.heap.size w w' := by
  obtain ⟨F, hp, _⟩ := h
  exact pdown_any hp
theorem o_crash {B : Nat} {w : World} {d : Nat} {D : Dst} (h : Own B w d D) (keep : List Int) (kv : Value) (hk : Kp0 w B kv keep) (hki : ∀ n ∈ keep, -9223372036854775808 ≤ n ∧ n ≤ 9223372036854775807) : Calls Tryz.prog 15 #[.pointer (some ⟨d, 0, none⟩), kv] w fun e w' => e = .returned (.int .i64 0) ∧ Own B w' d (crashD D keep) ∧ Below B w w' := by
  obtain ⟨F, hp, hF, hB⟩ := h
  refine (pcrash_any hp keep kv (hk.kp hF) hki).mono ?_
  rintro e w' ⟨he, F', hp', hch⟩
  obtain ⟨h1, h2⟩ := chg_base hch hF hB
  exact ⟨he, ⟨F', hp', h2, Nat.le_trans hB hch.turn.size⟩, h1⟩
end Go.Proofs.YtelcemfaijjcbaaGreatDoor.C12

namespace Go.Proofs.YtelcemfaijjcbaaGreatDoor.C12
open Go Go.RowKit Go.Proofs Go.Proofs.YtelcemfaijjcbaaGreatDoor.B Go.Proofs.YtelcemfaijjcbaaGreatDoor.K Go.Proofs.YtelcemfaijjcbaaGreatDoor.P8
set_option linter.unusedVariables false

theorem find_set_other {l : List Fl} (h : Rise l) {f : Fl} {s : List UInt8} (hn : f.name ≠ s) : findF (setF l f) s = findF l s := by
  cases e : findF l s with
  | none =>
    rw [find_no] at e ⊢
    intro x hx
    rcases mem_set.1 hx with ⟨h1, _⟩ | rfl
    · exact e x h1
    · exact hn
  | some y =>
    obtain ⟨hy, rfl⟩ := find_facts e
    exact rise_find (rise_set h f) (mem_set.2 (Or.inl ⟨hy, Ne.symm hn⟩))
theorem find_drop_other {l : List Fl} (h : Rise l) {t s : List UInt8} (hn : t ≠ s) : findF (dropF l t) s = findF l s := by
  cases e : findF l s with
  | none =>
    rw [find_no] at e ⊢
    intro x hx
    exact e x (mem_drop.1 hx).1
  | some y =>
    obtain ⟨hy, rfl⟩ := find_facts e
    exact rise_find (rise_drop h t) (mem_drop.2 ⟨hy, Ne.symm hn⟩)
theorem goD_find {D : Dst} {k : Dst → Dst} {s : List UInt8} (hk : ∀ E : Dst, E.files = D.files → findF (k E).files s = findF D.files s) : findF (goD D k).1.files s = findF D.files s := by
  unfold goD
  split
  · show findF (goesD D).1.files s = _
    rw [goes_files]
  · exact hk _ (goes_files D)
theorem someD_find {D : Dst} {t s : List UInt8} {k : Fl → Dst × Int} (hk : ∀ f, findF D.files t = some f → findF (k f).1.files s = findF D.files s) : findF (someD D t k).1.files s = findF D.files s := by
  unfold someD
  split
  · rfl
  · cases e : findF D.files t with
    | none => rfl
    | some f => exact hk f e
theorem step_apart {D : Dst} (h : Rise D.files) {a : ActL} {s : List UInt8} (hk : 0 ≤ a.kind ∧ a.kind ≤ 7) (hn : a.name ≠ s) (ht : a.tox ≠ s) : findF (stepD D a).1.files s = findF D.files s := by
  have hput : ∀ (E : Dst) (f : Fl), E.files = D.files → f.name = a.name → findF (putF E f).files s = findF D.files s := fun E f he hf => by
    unfold putF
    dsimp only
    rw [he]
    exact find_set_other h (by rw [hf]; exact hn)
  unfold stepD
  by_cases h0 : a.kind = 0 ∨ a.kind = 1 ∨ a.kind = 2
  · rw [if_pos h0]
    unfold appendD
    split
    · rfl
    · split
      · rfl
      · split
        · rfl
        · show findF (goesD _).1.files s = _
          rw [goes_files]
          refine hput D _ rfl ?_
          cases e : findF D.files a.name with
          | none => rfl
          | some f => exact (find_facts e).2
  rw [if_neg h0]
  by_cases h3 : a.kind = 3
  · rw [if_pos h3]; exact someD_find fun f _ => goD_find fun E he => hput E _ he rfl
  rw [if_neg h3]
  by_cases h4 : a.kind = 4
  · rw [if_pos h4]
    refine someD_find fun f _ => ?_
    split
    · rfl
    · refine goD_find fun E he => ?_
      split
      · exact hput E _ he rfl
      · exact hput E _ he rfl
  rw [if_neg h4]
  by_cases h5 : a.kind = 5
  · rw [if_pos h5]
    unfold renameD
    split
    · rfl
    · split
      · rfl
      · refine someD_find fun f hf => ?_
        split
        · rfl
        · refine goD_find fun E he => ?_
          unfold putF
          dsimp only
          rw [he, find_set_other (rise_drop h _) ht, find_drop_other h hn]
  rw [if_neg h5]
  by_cases h6 : a.kind = 6
  · rw [if_pos h6]
    refine someD_find fun f hf => goD_find fun E he => ?_
    dsimp only
    rw [he, find_drop_other h hn]
  rw [if_neg h6, if_pos (by omega)]
  unfold armD
  split
  · rfl
  · split <;> rfl
theorem ActIs.wide {w : World} {B B' : Nat} {cs : List Value} {a : ActL} (h : ActIs w B cs a) (hb : B ≤ B') : ActIs w B' cs a := by
  obtain ⟨kv, e, ⟨k, cap, hv, h1, h2⟩, h3⟩ := h
  exact ⟨kv, e, ⟨k, cap, hv, h1, fun j u hj => by obtain ⟨b, off, e1, e2, e3⟩ := h2 j u hj; exact ⟨b, off, e1, Nat.lt_of_lt_of_le e2 hb, e3⟩⟩, h3⟩
theorem Kp0.wide {w : World} {B B' : Nat} {v : Value} {l : List Int} (h : Kp0 w B v l) (hb : B ≤ B') : Kp0 w B' v l := by
  obtain ⟨k, cap, hv, h1, h2⟩ := h
  exact ⟨k, cap, hv, h1, fun j u hj => by obtain ⟨b, off, e1, e2, e3⟩ := h2 j u hj; exact ⟨b, off, e1, Nat.lt_of_lt_of_le e2 hb, e3⟩⟩
theorem ActsIs.wide {w : World} {B B' : Nat} {v : Value} {l : List ActL} (h : ActsIs w B v l) (hb : B ≤ B') : ActsIs w B' v l := by
  obtain ⟨k, cap, hv, h2⟩ := h
  exact ⟨k, cap, hv, fun j u hj => by obtain ⟨b, off, cs, e1, e2, e3, e4⟩ := h2 j u hj; exact ⟨b, off, cs, e1, Nat.lt_of_lt_of_le e2 hb, e3.wide hb, e4⟩⟩
end Go.Proofs.YtelcemfaijjcbaaGreatDoor.C12

namespace Go.Proofs.YtelcemfaijjcbaaGreatDoor.C13
open Go Go.RowKit Go.Proofs Go.Proofs.YtelcemfaijjcbaaGreatDoor.B Go.Proofs.YtelcemfaijjcbaaGreatDoor.K Go.Proofs.YtelcemfaijjcbaaGreatDoor.C12
set_option linter.unusedVariables false

structure Seg where
  n : Int
  rs : List (List UInt8)

/-- One stands behind the other; none is empty but the last. -/
def Linked : List Seg → Prop
  | [] => True
  | [_] => True
  | s :: t :: l => s.rs ≠ [] ∧ t.n = s.n + s.rs.length ∧ Linked (t :: l)
def nextS : List Seg → Int
  | [] => 0
  | [s] => s.n + s.rs.length
  | _ :: t :: l => nextS (t :: l)
theorem linked_tail {s : Seg} {l : List Seg} (h : Linked (s :: l)) : Linked l := by
  cases l with
  | nil => trivial
  | cons t l => exact h.2.2
theorem linked_lt : ∀ {l : List Seg} {s : Seg}, Linked (s :: l) → ∀ t ∈ l, s.n < t.n
  | [], s, h, t, ht => by cases ht
  | a :: l, s, h, t, ht => by
    have h1 : s.n < a.n := by
      have := h.2.1
      have h2 : 1 ≤ s.rs.length := by cases e : s.rs with
        | nil => exact absurd e h.1
        | cons => simp
      omega
    rcases List.mem_cons.1 ht with rfl | ht'
    · exact h1
    · exact Int.lt_trans h1 (linked_lt h.2.2 t ht')
theorem linked_apart : ∀ {l : List Seg}, Linked l → l.Pairwise fun a b => a.n < b.n
  | [], _ => List.Pairwise.nil
  | s :: l, h => List.pairwise_cons.2 ⟨linked_lt h, linked_apart (linked_tail h)⟩

section
variable (nm : Int → List UInt8)
/-- What a file of a segment has. -/
def SegAt (fs : List Fl) (s : Seg) (f : Fl) : Prop := findF fs (nm s.n) = some f ∧ f.safe ++ f.more = encL s.n s.rs
/-- The disk has just these segments; all but the last are safe. -/
structure Holds (fs : List Fl) (l : List Seg) : Prop where
  rise : Rise fs
  link : Linked l
  each : ∀ s ∈ l, ∃ f, SegAt nm fs s f
  only : ∀ f ∈ fs, ∃ s ∈ l, f.name = nm s.n
  firm : ∀ s ∈ l.dropLast, ∀ f, findF fs (nm s.n) = some f → f.more = []
  inj : ∀ a ∈ l, ∀ b ∈ l, nm a.n = nm b.n → a.n = b.n
theorem find_set_self {l : List Fl} (h : Rise l) (f : Fl) : findF (setF l f) f.name = some f := rise_find (rise_set h f) (mem_set.2 (Or.inr rfl))
variable {nm}
theorem Holds.eq {fs : List Fl} {l : List Seg} (h : Holds nm fs l) {a b : Seg} (ha : a ∈ l) (hb : b ∈ l) (e : nm a.n = nm b.n) : a = b := by
  have hn := h.inj a ha b hb e
  have hp := linked_apart h.link
  have hne : ∀ {l : List Seg}, l.Pairwise (fun a b => a.n < b.n) → ∀ {a b : Seg}, a ∈ l → b ∈ l → a.n = b.n → a = b := by
    intro l hp
    induction l with
    | nil => intro a b ha; cases ha
    | cons s l ih =>
      obtain ⟨h1, h2⟩ := List.pairwise_cons.1 hp
      intro a b ha hb e
      rcases List.mem_cons.1 ha with rfl | ha' <;> rcases List.mem_cons.1 hb with rfl | hb'
      · rfl
      · have := h1 b hb'; omega
      · have := h1 a ha'; omega
      · exact ih h2 ha' hb' e
  exact hne hp ha hb hn
theorem linked_put : ∀ {i : List Seg} {s s' : Seg}, Linked (i ++ [s]) → s'.n = s.n → Linked (i ++ [s'])
  | [], s, s', _, _ => trivial
  | [a], s, s', h, e => ⟨h.1, by rw [e]; exact h.2.1, trivial⟩
  | a :: b :: i, s, s', h, e => ⟨h.1, h.2.1, linked_put (i := b :: i) h.2.2 e⟩
/-- The last segment's file in another state. -/
theorem Holds.last {fs : List Fl} {i : List Seg} {s : Seg} (h : Holds nm fs (i ++ [s])) (f' : Fl) (s' : Seg) (hn : s'.n = s.n) (hf : f'.name = nm s.n) (hb : f'.safe ++ f'.more = encL s'.n s'.rs) : Holds nm (setF fs f') (i ++ [s']) := by
  have hm : ∀ a ∈ i, a ∈ i ++ [s] := fun a ha => List.mem_append_left _ ha
  have hs : s ∈ i ++ [s] := List.mem_append_right _ (List.mem_singleton.2 rfl)
  have hlt : ∀ a ∈ i, nm a.n ≠ nm s.n := fun a ha e => by
    have hp := linked_apart h.link
    rw [List.pairwise_append] at hp
    have h1 := hp.2.2 a ha s (List.mem_singleton.2 rfl)
    have h2 := h.inj a (hm a ha) s hs e
    omega
  refine ⟨rise_set h.rise f', linked_put h.link hn, fun a ha => ?_, fun f hf' => ?_, fun a ha f hf' => ?_, fun a ha b hb' e => ?_⟩
  · rcases List.mem_append.1 ha with h1 | h1
    · obtain ⟨g, hg, hg2⟩ := h.each a (hm a h1)
      exact ⟨g, by rw [SegAt, find_set_other h.rise (by rw [hf]; exact (hlt a h1).symm)]; exact ⟨hg, hg2⟩⟩
    · obtain rfl := List.mem_singleton.1 h1
      exact ⟨f', by rw [hn, ← hf]; exact find_set_self h.rise f', hb⟩
  · rcases mem_set.1 hf' with ⟨h1, _⟩ | rfl
    · obtain ⟨a, ha, e⟩ := h.only f h1
      rcases List.mem_append.1 ha with h2 | h2
      · exact ⟨a, List.mem_append_left _ h2, e⟩
      · obtain rfl := List.mem_singleton.1 h2
        exact ⟨s', List.mem_append_right _ (List.mem_singleton.2 rfl), by rw [hn]; exact e⟩
    · exact ⟨s', List.mem_append_right _ (List.mem_singleton.2 rfl), by rw [hn]; exact hf⟩
  · rw [List.dropLast_concat] at ha
    rw [find_set_other h.rise (by rw [hf]; exact (hlt a ha).symm)] at hf'
    exact h.firm a (by rw [List.dropLast_concat]; exact ha) f hf'
  · have hz : ∀ {c : Seg}, c ∈ i ++ [s'] → ∃ c' ∈ i ++ [s], c'.n = c.n := fun {c} hc => by
      rcases List.mem_append.1 hc with h1 | h1
      · exact ⟨c, hm c h1, rfl⟩
      · obtain rfl := List.mem_singleton.1 h1
        exact ⟨s, hs, hn.symm⟩
    obtain ⟨a', ha', ea⟩ := hz ha
    obtain ⟨b', hb'', eb⟩ := hz hb'
    rw [← ea, ← eb]
    rw [← ea, ← eb] at e
    exact h.inj a' ha' b' hb'' e
/-- The first segment gone. -/
theorem Holds.gone {fs : List Fl} {s : Seg} {l : List Seg} (h : Holds nm fs (s :: l)) (hl : l ≠ []) : Holds nm (dropF fs (nm s.n)) l := by
  have hlt : ∀ a ∈ l, nm s.n ≠ nm a.n := fun a ha e => by
    have h1 := linked_lt h.link a ha
    have h2 := h.inj s (List.mem_cons_self ..) a (List.mem_cons_of_mem _ ha) e
    omega
  refine ⟨rise_drop h.rise _, linked_tail h.link, fun a ha => ?_, fun f hf => ?_, fun a ha f hf => ?_, fun a ha b hb e => h.inj a (List.mem_cons_of_mem _ ha) b (List.mem_cons_of_mem _ hb) e⟩
  · obtain ⟨g, hg, hg2⟩ := h.each a (List.mem_cons_of_mem _ ha)
    exact ⟨g, by rw [SegAt, find_drop_other h.rise (hlt a ha)]; exact ⟨hg, hg2⟩⟩
  · obtain ⟨h1, h2⟩ := mem_drop.1 hf
    obtain ⟨a, ha, e⟩ := h.only f h1
    rcases List.mem_cons.1 ha with rfl | ha'
    · exact absurd e h2
    · exact ⟨a, ha', e⟩
  · have hm : a ∈ l := List.dropLast_subset _ ha
    rw [find_drop_other h.rise (hlt a hm)] at hf
    refine h.firm a ?_ f hf
    cases l with
    | nil => exact absurd rfl hl
    | cons b l => exact List.mem_cons_of_mem _ ha
theorem linked_snoc : ∀ {i : List Seg} {s t : Seg}, Linked (i ++ [s]) → s.rs ≠ [] → t.n = s.n + s.rs.length → Linked (i ++ [s] ++ [t])
  | [], s, t, _, h1, h2 => ⟨h1, h2, trivial⟩
  | [a], s, t, h, h1, h2 => ⟨h.1, h.2.1, h1, h2, trivial⟩
  | a :: b :: i, s, t, h, h1, h2 => ⟨h.1, h.2.1, linked_snoc (i := b :: i) h.2.2 h1 h2⟩
/-- One more segment, behind a last one that is safe. -/
theorem Holds.more {fs : List Fl} {i : List Seg} {s t : Seg} (h : Holds nm fs (i ++ [s])) (hne : s.rs ≠ []) (ht : t.n = s.n + s.rs.length) (hsafe : ∀ f, findF fs (nm s.n) = some f → f.more = []) (f' : Fl) (hf : f'.name = nm t.n) (hb : f'.safe ++ f'.more = encL t.n t.rs) (hinj : ∀ a ∈ i ++ [s], nm a.n ≠ nm t.n) : Holds nm (setF fs f') (i ++ [s] ++ [t]) := by
  refine ⟨rise_set h.rise f', linked_snoc h.link hne ht, fun a ha => ?_, fun f hf' => ?_, fun a ha f hf' => ?_, fun a ha b hb' e => ?_⟩
  · rcases List.mem_append.1 ha with h1 | h1
    · obtain ⟨g, hg, hg2⟩ := h.each a h1
      exact ⟨g, by rw [SegAt, find_set_other h.rise (by rw [hf]; exact (hinj a h1).symm)]; exact ⟨hg, hg2⟩⟩
    · obtain rfl := List.mem_singleton.1 h1
      exact ⟨f', by rw [← hf]; exact find_set_self h.rise f', hb⟩
  · rcases mem_set.1 hf' with ⟨h1, _⟩ | rfl
    · obtain ⟨a, ha, e⟩ := h.only f h1
      exact ⟨a, List.mem_append_left _ ha, e⟩
    · exact ⟨t, List.mem_append_right _ (List.mem_singleton.2 rfl), hf⟩
  · rw [List.dropLast_concat] at ha
    rw [find_set_other h.rise (by rw [hf]; exact (hinj a ha).symm)] at hf'
    rcases List.mem_append.1 ha with h1 | h1
    · exact h.firm a (by rw [List.dropLast_concat]; exact h1) f hf'
    · obtain rfl := List.mem_singleton.1 h1
      exact hsafe f hf'
  · rcases List.mem_append.1 ha with h1 | h1 <;> rcases List.mem_append.1 hb' with h2 | h2
    · exact h.inj a h1 b h2 e
    · obtain rfl := List.mem_singleton.1 h2
      exact absurd e (hinj a h1)
    · obtain rfl := List.mem_singleton.1 h1
      exact absurd e.symm (hinj b h2)
    · rw [List.mem_singleton.1 h1, List.mem_singleton.1 h2]
end
end Go.Proofs.YtelcemfaijjcbaaGreatDoor.C13

namespace Go.Proofs.YtelcemfaijjcbaaGreatDoor.C13
open Go Go.RowKit Go.Proofs Go.Proofs.YtelcemfaijjcbaaGreatDoor.B Go.Proofs.YtelcemfaijjcbaaGreatDoor.K Go.Proofs.YtelcemfaijjcbaaGreatDoor.C12
set_option linter.unusedVariables false

theorem enc_split : ∀ (a b : List (List UInt8)) (n : Int), encL n (a ++ b) = encL n a ++ encL (n + a.length) b
  | [], b, n => by simp [encL]
  | r :: a, b, n => by
    simp only [List.cons_append, encL, enc_split a b (n + 1), List.append_assoc, List.length_cons]
    rw [show n + 1 + (a.length : Int) = n + ((a.length + 1 : Nat) : Int) from by omega]
theorem enc_take (n : Int) (rs : List (List UInt8)) (m : Nat) : encL n (rs.take m) = (encL n rs).take (encL n (rs.take m)).length ∧ (encL n (rs.take m)).length ≤ (encL n rs).length := by
  have h := enc_split (rs.take m) (rs.drop m) n
  rw [List.take_append_drop] at h
  rw [h]
  exact ⟨by rw [List.take_left], by rw [List.length_append]; omega⟩
theorem enc_count : ∀ (rs : List (List UInt8)) (n : Int), rs.length ≤ (encL n rs).length
  | [], n => Nat.zero_le _
  | r :: rs, n => by
    have := enc_count rs (n + 1)
    have := rec_pos n r
    simp only [encL, List.length_append, List.length_cons]
    omega
/-- A segment that is whole. -/
theorem parse_whole {rs : List (List UInt8)} {n : Int} (h0 : 0 ≤ n) (h1 : n + rs.length ≤ 4611686018427387904) (hr : ∀ r ∈ rs, r.length ≤ 1024) : parseL (encL n rs) n = (rs, (encL n rs).length) := by
  have hc := enc_count rs n
  obtain ⟨m, hm, hp, h2, h3⟩ := parse_torn rs n [] (encL n rs).length ((encL n rs).length + 1) h0 h1 hr (Nat.le_refl _) (by omega)
  have he : m = rs.length := by
    rcases Nat.lt_or_ge m rs.length with h | h
    · have := h3 h
      have := (enc_take n rs (m + 1)).2
      omega
    · omega
  subst he
  rw [List.take_length, List.nil_append, List.take_of_length_le (Nat.le_refl _)] at hp
  unfold parseL
  rw [if_neg (by omega)]
  simpa using hp
/-- A segment that is torn anywhere: some of its records, up to at least those that lie before. -/
theorem parse_some_of {rs : List (List UInt8)} {n : Int} (h0 : 0 ≤ n) (h1 : n + rs.length ≤ 4611686018427387904) (hr : ∀ r ∈ rs, r.length ≤ 1024) {p : Nat} (hp : p ≤ (encL n rs).length) : ∃ m, m ≤ rs.length ∧ parseL ((encL n rs).take p) n = (rs.take m, (encL n (rs.take m)).length) ∧ (encL n (rs.take m)).length ≤ p ∧ ∀ k, k ≤ rs.length → (encL n (rs.take k)).length ≤ p → k ≤ m := by
  have hc : ∀ m, m < rs.length → (encL n (rs.take m)).length < (encL n (rs.take (m + 1))).length := fun m hm => by
    rw [List.take_add_one, List.getElem?_eq_getElem hm]
    show _ < (encL n (rs.take m ++ [_])).length
    rw [enc_app, List.length_append]
    have := rec_pos (n + ((rs.take m).length : Int)) rs[m]
    omega
  have hfull : rs.length < (encL n rs).length + 1 := by have := enc_count rs n; omega
  by_cases hpl : rs.length < p + 1
  · obtain ⟨m, hm, h2, h3, h4⟩ := parse_torn rs n [] p (p + 1) h0 h1 hr hp hpl
    refine ⟨m, hm, ?_, h3, fun k hk hkp => ?_⟩
    · unfold parseL
      rw [if_neg (by omega), show ((encL n rs).take p).length = p from by rw [List.length_take]; omega]
      simpa using h2
    · rcases Nat.lt_or_ge m k with h | h
      · have h5 := h4 (by omega)
        have h6 := (enc_take n (rs.take k) (m + 1)).2
        rw [List.take_take, Nat.min_eq_left (by omega)] at h6
        omega
      · exact h
  · obtain ⟨m, hm, h2, h3, h4⟩ := parse_torn rs n [] p (rs.length + 1) h0 h1 hr hp (by omega)
    have hmp : m ≤ p := by
      have := enc_count (rs.take m) n
      rw [List.length_take] at this
      omega
    refine ⟨m, hm, ?_, h3, fun k hk hkp => ?_⟩
    · have hless : m < rs.length := by omega
      have h5 := h4 hless
      have hst : ∀ (j N N' : Nat) (q : Nat), j ≤ N → j ≤ N' → ∀ F, (parseGo ((encL n rs).take p) N F q).1.length < j → parseGo ((encL n rs).take p) N F q = parseGo ((encL n rs).take p) N' F q := by
        intro j
        induction j with
        | zero => intro N N' q _ _ F h; omega
        | succ j ih =>
          intro N N' q hN hN' F h
          obtain ⟨N, rfl⟩ : ∃ k, N = k + 1 := ⟨N - 1, by omega⟩
          obtain ⟨N', rfl⟩ : ∃ k, N' = k + 1 := ⟨N' - 1, by omega⟩
          cases e : recAt ((encL n rs).take p) F q with
          | none => rw [parse_none e, parse_none e]
          | some x =>
            obtain ⟨r, q'⟩ := x
            rw [parse_some e] at h ⊢
            rw [parse_some e]
            simp only [List.length_cons] at h
            rw [ih N N' q' (by omega) (by omega) (F + 1) (by omega)]
      unfold parseL
      rw [if_neg (by omega), show ((encL n rs).take p).length = p from by rw [List.length_take]; omega]
      rw [List.nil_append] at h2
      simp only [List.length_nil, Nat.zero_add] at h2
      have h7 := hst (m + 1) (rs.length + 1) (p + 1) 0 (by omega) (by omega) n (by rw [h2]; simp only [List.length_take]; omega)
      rw [← h7, h2]
    · rcases Nat.lt_or_ge m k with h | h
      · have h5 := h4 (by omega)
        have h6 := (enc_take n (rs.take k) (m + 1)).2
        rw [List.take_take, Nat.min_eq_left (by omega)] at h6
        omega
      · exact h
section
variable {nm : Int → List UInt8}
/-- Segments, and a last one whose file has anything. -/
structure But (nm : Int → List UInt8) (fs : List Fl) (i : List Seg) (s : Seg) : Prop where
  rise : Rise fs
  link : Linked (i ++ [s])
  each : ∀ a ∈ i, findF fs (nm a.n) = some ⟨nm a.n, encL a.n a.rs, []⟩
  only : ∀ f ∈ fs, ∃ a ∈ i ++ [s], f.name = nm a.n
  inj : ∀ a ∈ i ++ [s], ∀ b ∈ i ++ [s], nm a.n = nm b.n → a.n = b.n
theorem Holds.but {fs : List Fl} {i : List Seg} {s : Seg} (h : Holds nm fs (i ++ [s])) : But nm fs i s := by
  refine ⟨h.rise, h.link, fun a ha => ?_, h.only, h.inj⟩
  obtain ⟨f, hf, he⟩ := h.each a (List.mem_append_left _ ha)
  have hm := h.firm a (by rw [List.dropLast_concat]; exact ha) f hf
  have hn := (find_facts hf).2
  rw [hf]
  rw [hm, List.append_nil] at he
  obtain ⟨x, y, z⟩ := f
  simp only at hn hm he
  rw [hn, hm, he]
theorem But.put {fs : List Fl} {i : List Seg} {s : Seg} (h : But nm fs i s) (f' : Fl) (s' : Seg) (hn : s'.n = s.n) (hf : f'.name = nm s.n) (hb : f'.safe ++ f'.more = encL s'.n s'.rs) : Holds nm (setF fs f') (i ++ [s']) := by
  have hm : ∀ a ∈ i, a ∈ i ++ [s] := fun a ha => List.mem_append_left _ ha
  have hs : s ∈ i ++ [s] := List.mem_append_right _ (List.mem_singleton.2 rfl)
  have hlt : ∀ a ∈ i, nm a.n ≠ nm s.n := fun a ha e => by
    have hp := linked_apart h.link
    rw [List.pairwise_append] at hp
    have h1 := hp.2.2 a ha s (List.mem_singleton.2 rfl)
    have h2 := h.inj a (hm a ha) s hs e
    omega
  refine ⟨rise_set h.rise f', linked_put h.link hn, fun a ha => ?_, fun f hf' => ?_, fun a ha f hf' => ?_, fun a ha b hb' e => ?_⟩
  · rcases List.mem_append.1 ha with h1 | h1
    · exact ⟨⟨nm a.n, encL a.n a.rs, []⟩, by rw [SegAt, find_set_other h.rise (by rw [hf]; exact (hlt a h1).symm)]; exact ⟨h.each a h1, by simp⟩⟩
    · obtain rfl := List.mem_singleton.1 h1
      exact ⟨f', by rw [hn, ← hf]; exact find_set_self h.rise f', hb⟩
  · rcases mem_set.1 hf' with ⟨h1, _⟩ | rfl
    · obtain ⟨a, ha, e⟩ := h.only f h1
      rcases List.mem_append.1 ha with h2 | h2
      · exact ⟨a, List.mem_append_left _ h2, e⟩
      · obtain rfl := List.mem_singleton.1 h2
        exact ⟨s', List.mem_append_right _ (List.mem_singleton.2 rfl), by rw [hn]; exact e⟩
    · exact ⟨s', List.mem_append_right _ (List.mem_singleton.2 rfl), by rw [hn]; exact hf⟩
  · rw [List.dropLast_concat] at ha
    rw [find_set_other h.rise (by rw [hf]; exact (hlt a ha).symm), h.each a ha] at hf'
    cases hf'
    rfl
  · have hz : ∀ {c : Seg}, c ∈ i ++ [s'] → ∃ c' ∈ i ++ [s], c'.n = c.n := fun {c} hc => by
      rcases List.mem_append.1 hc with h1 | h1
      · exact ⟨c, hm c h1, rfl⟩
      · obtain rfl := List.mem_singleton.1 h1
        exact ⟨s, hs, hn.symm⟩
    obtain ⟨a', ha', ea⟩ := hz ha
    obtain ⟨b', hb'', eb⟩ := hz hb'
    rw [← ea, ← eb]
    rw [← ea, ← eb] at e
    exact h.inj a' ha' b' hb'' e
theorem crash_find {fs : List Fl} (h : Rise fs) (keep : List Int) {y : Fl} (hy : y ∈ fs) : ∃ k, findF (crashGo fs keep) y.name = some (kept y k) := by
  obtain ⟨j, hj, rfl⟩ := List.getElem_of_mem hy
  obtain ⟨k, hk⟩ := crash_at fs keep j fs[j] (List.getElem?_eq_getElem hj)
  exact ⟨k, rise_find (rise_names h (crash_names _ _)) (f := kept fs[j] k) (List.mem_of_getElem? hk)⟩
/-- What a crash leaves: all but the last as they are; of the last a beginning, at least what was safe. -/
theorem Holds.crash {fs : List Fl} {i : List Seg} {s : Seg} (h : Holds nm fs (i ++ [s])) (keep : List Int) : But nm (crashGo fs keep) i s ∧ ∃ f p, findF fs (nm s.n) = some f ∧ f.safe.length ≤ p ∧ p ≤ (encL s.n s.rs).length ∧ findF (crashGo fs keep) (nm s.n) = some ⟨nm s.n, (encL s.n s.rs).take p, []⟩ := by
  have hb := h.but
  refine ⟨⟨rise_names h.rise (crash_names _ _), h.link, fun a ha => ?_, fun f hf => ?_, h.inj⟩, ?_⟩
  · obtain ⟨hm, hn⟩ := find_facts (hb.each a ha)
    obtain ⟨k, hk⟩ := crash_find h.rise keep hm
    rw [hk]
    unfold kept
    simp
  · have hn : f.name ∈ namesOf (crashGo fs keep) := List.mem_map.2 ⟨f, hf, rfl⟩
    rw [crash_names] at hn
    obtain ⟨g, hg, e⟩ := List.mem_map.1 hn
    obtain ⟨a, ha, e2⟩ := h.only g hg
    exact ⟨a, ha, by rw [← e2]; exact e.symm⟩
  · obtain ⟨f, hf, he⟩ := h.each s (List.mem_append_right _ (List.mem_singleton.2 rfl))
    obtain ⟨hm, hn⟩ := find_facts hf
    obtain ⟨k, hk⟩ := crash_find h.rise keep hm
    have hl : (f.more.take k).length ≤ f.more.length := by rw [List.length_take]; omega
    refine ⟨f, f.safe.length + (f.more.take k).length, hf, by omega, by rw [← he, List.length_append]; omega, ?_⟩
    have e : (f.safe ++ f.more).take (f.safe.length + (f.more.take k).length) = f.safe ++ f.more.take k := by
      rw [List.take_append, List.take_of_length_le (Nat.le_add_right _ _), Nat.add_sub_cancel_left, List.length_take]
      congr 1
      rcases Nat.le_total k f.more.length with h1 | h1
      · rw [Nat.min_eq_left h1]
      · rw [Nat.min_eq_right h1, List.take_of_length_le h1, List.take_of_length_le (Nat.le_refl _)]
    rw [← he, e, ← hn, hk]
    rfl
end
end Go.Proofs.YtelcemfaijjcbaaGreatDoor.C13
