/-
  Layer 12, the document's answers: Truncate.
  Layer 12, the document's answers: Append.
  Layer 12, the document's answers: New, Names.
  Layer 12, the program: the names.
  Layer 12, the document's answers: Crash.
-/
import Derived.Test.YtelcemfaijjcbaaGreatDoorHP12Rv
import Derived.Deep.RegionHeldLaw
import Derived.Test.YtelcemfaijjcbaaGreatDoorHP12Pd
import Derived.Test.YtelcemfaijjcbaaGreatDoorHP12Sh
import Derived.Deep.AppendLies
namespace Go.Proofs.YtelcemfaijjcbaaGreatDoor.C12
open Go Go.RowKit Go.Proofs Go.Proofs.YtelcemfaijjcbaaGreatDoor.B Go.Proofs.YtelcemfaijjcbaaGreatDoor.K Go.Proofs.YtelcemfaijjcbaaGreatDoor.P8
set_option linter.unusedVariables false
set_option maxRecDepth 100000

theorem str_take (l : List UInt8) (n : Nat) : (str l).extract 0 n = str (l.take n) := by
  unfold str
  rw [Lib.extract_eq]
  simp

end Go.Proofs.YtelcemfaijjcbaaGreatDoor.C12

namespace Go.Proofs.YtelcemfaijjcbaaGreatDoor.C12
open Go Go.RowKit Go.Proofs Go.Proofs.YtelcemfaijjcbaaGreatDoor.B Go.Proofs.YtelcemfaijjcbaaGreatDoor.K Go.Proofs.YtelcemfaijjcbaaGreatDoor.P8
set_option linter.unusedVariables false
set_option maxRecDepth 100000


end Go.Proofs.YtelcemfaijjcbaaGreatDoor.C12

namespace Go.Proofs.YtelcemfaijjcbaaGreatDoor.C12
open Go Go.RowKit Go.Proofs Go.Proofs.YtelcemfaijjcbaaGreatDoor.B Go.Proofs.YtelcemfaijjcbaaGreatDoor.K Go.Proofs.YtelcemfaijjcbaaGreatDoor.P8
set_option linter.unusedVariables false
set_option maxRecDepth 100000

theorem str_info : ∃ i, Tryz.prog.info? 9 = some i ∧ i.zero = some (.string ⟨#[]⟩) ∧ i.size = 1 ∧ i.bytes = 16 := by
  have h : (Tryz.prog.info? 9).map (fun i => (i.zero, i.size, i.bytes)) = some (some (.string ⟨#[]⟩), 1, 16) := by kernel_rfl
  obtain ⟨i, hi, e⟩ := Option.map_eq_some_iff.1 h
  simp only [Prod.mk.injEq] at e
  exact ⟨i, hi, e.1, e.2.1, e.2.2⟩
theorem new_one (w : World) (v : Value) (e : TypeId) : ∀ (j : Nat) (u : Value), [v][j]? = some u → (w.alloc (.cells #[v] e)).cell? ((⟨w.heap.size, 0, none⟩ : Addr).add j) = some u := by
  intro j u hj
  rw [show (⟨w.heap.size, 0, none⟩ : Addr).add j = ⟨w.heap.size, j, none⟩ by unfold Addr.add; split <;> simp_all]
  exact alloc_cell w [v] e j u hj
def namesOf (l : List Fl) : List (List UInt8) := l.map fun y => y.name
end Go.Proofs.YtelcemfaijjcbaaGreatDoor.C12

namespace Go.Proofs.YtelcemfaijjcbaaGreatDoor.C12
open Go Go.RowKit Go.Proofs Go.Proofs.YtelcemfaijjcbaaGreatDoor.B Go.Proofs.YtelcemfaijjcbaaGreatDoor.K Go.Proofs.YtelcemfaijjcbaaGreatDoor.P8
set_option linter.unusedVariables false
set_option maxRecDepth 100000

theorem less_le : ∀ a b : List UInt8, lessL a b = true → a ≤ b
  | [], b, _ => List.nil_le b
  | x :: a, [], h => by cases h
  | x :: a, y :: b, h => by
    unfold lessL at h
    by_cases e : x = y
    · subst e
      rw [if_pos rfl] at h
      exact List.cons_le_cons_iff.2 (Or.inr ⟨rfl, less_le a b h⟩)
    · rw [if_neg e] at h
      have hlt : x < y := by simpa [UInt8.lt_iff_toNat_lt] using h
      exact List.cons_le_cons_iff.2 (Or.inl hlt)
theorem sorted_names {l : List Fl} (h : Rise l) : (namesOf l).mergeSort (fun x y => decide (x ≤ y)) = namesOf l := by
  refine List.mergeSort_of_pairwise ?_
  unfold namesOf
  exact List.pairwise_map.2 (h.imp fun hab => decide_eq_true (less_le _ _ hab))

theorem plist_nil (w : World) : Calls Tryz.prog 31 #[.pointer none] w fun e w' => ∃ v, e = .returned v ∧ Sl w' v [] ∧ Below w.heap.size w w' := by
  go_enter Tryz.func31, Tryz.ntmps31
  go_wp2_with fail
  go_ret
  exact ⟨_, rfl, Sl.nil _, Below.refl _ _⟩

section
variable {w : World} {F : Nat → Prop} {d M n : Nat} {Dm : DataW Nat} {g : List UInt8 → Nat} {bv : List UInt8 → Value} {D : Dst}
/-- List: in memory of its own. -/
theorem plist_any (h : PIn w F d M n Dm g bv D) : Calls Tryz.prog 31 #[.pointer (some ⟨d, 0, none⟩)] w fun e w' => ∃ v, e = .returned v ∧ Sl w' v ((namesOf D.files).map sv) ∧ (∀ a k c, v = .slice (some a) k c → w.heap.size ≤ a.block) ∧ Below w.heap.size w w' := by
  have cd := (row_at h.disk 1 _ rfl).1
  have hsz := h.size
  have hc := h.fine.ok.count
  have HK := Lib.hid (callsIn_wide.1 (S12.maps_Keys_35 (some M) w))
  have HS := Lib.hid (callsIn_wide.1 (S12.slices_Sorted_keys_34_35 M n Dm fileE w h.map (by rw [hsz]; unfold maxLen; omega) (by rw [hsz]; omega)))
  have HN := Lib.hid h.names
  have HR := Lib.hid h.fine.rise
  clear h hsz hc
  go_enter Tryz.func31, Tryz.ntmps31
  go_wp2_with (first
    | (go_at_call 50; refine HK.out.mono ?_; rintro _ w1 ⟨rfl, rfl⟩)
    | (go_at_call 49; refine HS.out.mono ?_; rintro _ w2 ⟨v, ss, rfl, hp, ho, hn, hb⟩; have HPM := Lib.hid hp; have HO := Lib.hid ho; have HB := Lib.hid hb; clear hp ho hn hb))
  go_ret
  have e1 : ss.mergeSort (fun x y => decide (x ≤ y)) = namesOf D.files := by
    rw [← sorted_names HR.out]
    exact mergeSort_of_perm (HPM.out.trans HN.out.symm)
  have hrow := HO.out
  rw [e1] at hrow
  refine ⟨v, rfl, Sl.owns hrow, fun a k c e => ?_, (below_alloc _ _).trans (HB.out.mono (below_alloc _ _).size)⟩
  have := (hrow.lt a.block (by rw [e]; rfl)).1
  have h2 := (below_alloc w (.cells #[.map (some M)] 61)).size
  omega
end
end Go.Proofs.YtelcemfaijjcbaaGreatDoor.C12

namespace Go.Proofs.YtelcemfaijjcbaaGreatDoor.C12
open Go Go.RowKit Go.Proofs Go.Proofs.YtelcemfaijjcbaaGreatDoor.B Go.Proofs.YtelcemfaijjcbaaGreatDoor.K Go.Proofs.YtelcemfaijjcbaaGreatDoor.P8
set_option linter.unusedVariables false
set_option maxRecDepth 100000


def kept (y : Fl) (k : Nat) : Fl := ⟨y.name, y.safe ++ y.more.take k, []⟩
theorem crash_eq (y : Fl) (l : List Fl) (keep : List Int) : crashGo (y :: l) keep = if y.more = [] then ⟨y.name, y.safe, []⟩ :: crashGo l keep else
    ⟨y.name, y.safe ++ y.more.take (match keep with | [] => 0 | k :: _ => if 0 < k then (k % ((y.more.length : Int) + 1)).toNat else 0), []⟩ :: crashGo l keep.tail := rfl
theorem crash_nil {y : Fl} {l : List Fl} {keep : List Int} (h : y.more = []) : crashGo (y :: l) keep = kept y 0 :: crashGo l keep := by
  rw [crash_eq, if_pos h]
  unfold kept
  rw [h]; simp
theorem crash_none {y : Fl} {l : List Fl} (h : y.more ≠ []) : crashGo (y :: l) [] = kept y 0 :: crashGo l [] := by
  rw [crash_eq, if_neg h]; rfl
theorem crash_low {y : Fl} {l : List Fl} {k : Int} {r : List Int} (h : y.more ≠ []) (hk : ¬ 0 < k) : crashGo (y :: l) (k :: r) = kept y 0 :: crashGo l r := by
  rw [crash_eq, if_neg h]
  simp only [List.tail_cons]
  rw [if_neg hk]; rfl
theorem crash_some {y : Fl} {l : List Fl} {k : Int} {r : List Int} (h : y.more ≠ []) (hk : 0 < k) : crashGo (y :: l) (k :: r) = kept y (k % ((y.more.length : Int) + 1)).toNat :: crashGo l r := by
  rw [crash_eq, if_neg h]
  simp only [List.tail_cons]
  rw [if_pos hk]; rfl
theorem crash_next {l : List Fl} {K : Nat} {y : Fl} (keep : List Int) (h : l[K]? = some y) : l.drop K = y :: l.drop (K + 1) := by
  obtain ⟨hlt, rfl⟩ := List.getElem?_eq_some_iff.1 h
  exact List.drop_eq_getElem_cons hlt
theorem crash_each : ∀ (l : List Fl) (keep : List Int), (∀ f ∈ l, f.name.length ≤ 24 ∧ f.safe.length + f.more.length ≤ 65536) → (crashGo l keep).length = l.length ∧ ∀ f ∈ crashGo l keep, f.name.length ≤ 24 ∧ f.safe.length + f.more.length ≤ 65536
  | [], keep, h => ⟨rfl, fun f hf => by cases hf⟩
  | y :: l, keep, h => by
    have hy := h y (List.mem_cons_self ..)
    have hr : ∀ f ∈ l, f.name.length ≤ 24 ∧ f.safe.length + f.more.length ≤ 65536 := fun f hf => h f (List.mem_cons_of_mem _ hf)
    have hk : ∀ k, (kept y k).name.length ≤ 24 ∧ (kept y k).safe.length + (kept y k).more.length ≤ 65536 := fun k => ⟨hy.1, by
      unfold kept
      simp only [List.length_append, List.length_take, List.length_nil]
      omega⟩
    obtain ⟨k, kp, e⟩ : ∃ k kp, crashGo (y :: l) keep = kept y k :: crashGo l kp := by
      by_cases hm : y.more = []
      · exact ⟨0, keep, crash_nil hm⟩
      · cases keep with
        | nil => exact ⟨0, [], crash_none hm⟩
        | cons k r =>
          by_cases h0 : 0 < k
          · exact ⟨_, r, crash_some hm h0⟩
          · exact ⟨0, r, crash_low hm h0⟩
    obtain ⟨h1, h2⟩ := crash_each l kp hr
    rw [e]
    refine ⟨by rw [List.length_cons, List.length_cons, h1], fun f hf => ?_⟩
    rcases List.mem_cons.1 hf with rfl | hf
    · exact hk k
    · exact h2 f hf

theorem owns_lt {w : World} {base : Nat} {e : TypeId} {size : Nat} {v : Value} {n : Nat} {xs : List Value} (h : w.ownsRow base e size v n xs) : ∀ k, v.ownBlock = some k → k < w.heap.size := by
  intro k hk
  rcases h.2 with ⟨rfl, _⟩ | ⟨g, cap, cur, rfl, hg, hh, _⟩
  · cases hk
  · simp only [Value.ownBlock, Option.some.injEq] at hk
    rw [← hk]
    exact (Array.getElem?_eq_some_iff.1 hh).1
theorem drop_at {l : List Int} {U : Nat} {k : Int} (h : l[U]? = some k) : l.drop U = k :: l.drop (U + 1) := by
  obtain ⟨hlt, rfl⟩ := List.getElem?_eq_some_iff.1 h
  exact List.drop_eq_getElem_cons hlt

end Go.Proofs.YtelcemfaijjcbaaGreatDoor.C12
