/-
  Contract of the program's reader of layer 4: among.
-/
import Derived.Test.YtbeidmkhpcnbbaaGreatDoorIPAdv
namespace Go.Proofs.YtbeidmkhpcnbbaaGreatDoor.I
open Go Go.RowKit Go.Proofs.YtbeidmkhpcnbbaaGreatDoor.B Go.Proofs.YtbeidmkhpcnbbaaGreatDoor.K Go.Proofs.YtbeidmkhpcnbbaaGreatDoor.E
set_option linter.unusedVariables false

/-- The sign of an instruction. -/
def sg (o : Nat) : Bs := signL.getD o []
/-- The first of the instructions whose sign a word is; 0: none. -/
def amongOf (ops : List Nat) (s : Bs) : Nat := match ops.find? (fun o => decide (s = sg o)) with | some o => o | none => 0

theorem sg_get (o : Nat) (h : o < 17) : signL[o]? = some (sg o) := by
  unfold sg
  rw [List.getD_eq_getElem?_getD, List.getElem?_eq_getElem (show o < signL.length from h)]; rfl

set_option maxHeartbeats 1000000 in
set_option maxRecDepth 100000 in
theorem among1_any (w : World) (o bx B : Nat) (s : Bs) (hg : Glob w) (ho : o < 17) (hb : w.cell? ⟨bx, 0, none⟩ = some (.pointer (some ⟨B, 0, none⟩))) (h4 : w.cell? ⟨B, 4, none⟩ = some (sv s)) :
    Calls Tryz.prog 57 #[.int .i64 (o : Int), .pointer (some ⟨bx, 0, none⟩)] w fun z w' => z = .returned (.bool (decide (s = sg o))) ∧ Below w.heap.size w w' := by
  have co := hg.cell o (sg o) (sg_get o ho)
  have hoI : (o : Int) < 17 := by omega
  have he : ((str s).toList == (str (sg o)).toList) = decide (s = sg o) := by rw [str_toList, str_toList, Bool.eq_iff_iff]; simp
  unfold sv at co h4
  clear hg
  go_enter Tryz.func57, Tryz.ntmps57
  go_wp2_with fail
  go_quiet (fail)
  go_wp2_with fail
  go_ret
  exact ⟨rfl, below_drewN (Below.refl _ _) _⟩

/-- Where the first of them is. -/
def idxOf (ops : List Nat) (s : Bs) : Int := match ops.findIdx? (fun o => decide (s = sg o)) with | some i => (i : Int) | none => -1

set_option maxHeartbeats 1000000 in
set_option maxRecDepth 100000 in
theorem indexFunc_any (w : World) (ops : List Nat) (k cap bx B : Nat) (s : Bs) (hg : Glob w) (ho : ∀ o ∈ ops, o < 17) (hl : ops.length ≤ 1000) (hS : Sl w (.slice (some ⟨k, 0, none⟩) ops.length cap) (ops.map fun (o : Nat) => Value.int .i64 (o : Int)))
    (hb : w.cell? ⟨bx, 0, none⟩ = some (.pointer (some ⟨B, 0, none⟩))) (h4 : w.cell? ⟨B, 4, none⟩ = some (sv s)) :
    Calls Tryz.prog 56 #[.slice (some ⟨k, 0, none⟩) ops.length cap, .func (.func 57) #[] #[.pointer (some ⟨bx, 0, none⟩)]] w fun z w' => z = .returned (.int .i64 (idxOf ops s)) ∧ Below w.heap.size w w' := by
  obtain ⟨n, hn⟩ : ∃ n, ops.length = n := ⟨_, rfl⟩
  have HN := Lib.hid hn
  have HL := Lib.hid hl
  have HS := Lib.hid hS
  have HO := Lib.hid ho
  have HG := Lib.hid hg
  have HB := Lib.hid hb
  have H4 := Lib.hid h4
  rw [hn] at HS ⊢
  clear hn hl hS ho hg hb h4
  go_enter Tryz.func56, Tryz.ntmps56
  go_wp2_with fail
  go_loopw [8] (fun i wr => ∃ K : Nat, i = .int .i64 (K : Int) ∧ K ≤ n ∧ Hid (Below w.heap.size w wr) ∧ Hid (∀ j o, j < K → ops[j]? = some o → s ≠ sg o)) (fun i _ => n - (intOf i).toNat)
  case atStart => exact ⟨0, rfl, Nat.zero_le _, Lib.hid (Below.refl _ _), Lib.hid (fun j o h => absurd h (Nat.not_lt_zero _))⟩
  case round =>
    obtain ⟨K, rfl, hK, HBE, HP⟩ := hrel
    by_cases hlt : K < n
    · obtain ⟨o, ho⟩ : ∃ o, ops[K]? = some o := ⟨_, List.getElem?_eq_getElem (by rw [HN.out]; exact hlt)⟩
      have hm : (ops.map fun (o : Nat) => Value.int .i64 (o : Int))[K]? = some (.int .i64 (o : Int)) := by rw [List.getElem?_map, ho]; rfl
      obtain ⟨b, off, ea, h1⟩ := (HS.out.below HBE.out).at hm
      cases ea
      have hltI : (K : Int) < (n : Int) := by omega
      have hwK : IntKind.i64.wrap ((K : Int) + 1) = (K : Int) + 1 := IntWalk.i64_in _ (by have := HL.out; have := HN.out; omega)
      have HC := Lib.hid (fun W hW1 hW2 hW3 => among1_any W o bx B s hW1 (HO.out o (List.mem_of_getElem? ho)) hW2 hW3)
      have HGW := Lib.hid (HG.out.below HBE.out)
      have HBW := Lib.hid (cell_kept HBE.out HB.out)
      have H4W := Lib.hid (cell_kept HBE.out H4.out)
      have HOK := Lib.hid ho
      clear hm ho
      rw [Nat.zero_add] at h1
      obtain ⟨x, hx⟩ : ∃ x, decide (s = sg o) = x := ⟨_, rfl⟩
      rw [hx] at HC
      have HX := Lib.hid hx
      clear hx
      cases x with
      | true =>
        go_wp2_with (go_at_call 57; refine (HC.out _ HGW.out HBW.out H4W.out).mono ?_; rintro _ w1 ⟨rfl, hb1⟩; have HB1 := Lib.hid (HBE.out.trans (hb1.mono HBE.out.size)); clear hb1)
        go_ret
        refine ⟨?_, HB1.out⟩
        have e : idxOf ops s = (K : Int) := by
          unfold idxOf
          have : ops.findIdx? (fun o => decide (s = sg o)) = some K := by
            rw [List.findIdx?_eq_some_iff_getElem]
            obtain ⟨h5, h6⟩ := List.getElem?_eq_some_iff.1 HOK.out
            refine ⟨h5, by rw [h6]; exact HX.out, fun j hj => ?_⟩
            simp only [decide_eq_true_eq]
            exact HP.out j _ hj (List.getElem?_eq_getElem (by omega))
          rw [this]
        rw [e]; rfl
      | false =>
        go_wp2_with (go_at_call 57; refine (HC.out _ HGW.out HBW.out H4W.out).mono ?_; rintro _ w1 ⟨rfl, hb1⟩; have HB1 := Lib.hid (HBE.out.trans (hb1.mono HBE.out.size)); clear hb1)
        go_roundw
        case rel =>
          refine ⟨K + 1, by go_num, by omega, HB1, Lib.hid (fun j o' hj ho' => ?_)⟩
          rcases Nat.lt_succ_iff_lt_or_eq.1 hj with h | rfl
          · exact HP.out j o' h ho'
          · rw [HOK.out] at ho'; cases ho'; exact of_decide_eq_false HX.out
        case measure => simp [intOf]; omega
    · have hltI : ¬ (K : Int) < (n : Int) := by omega
      obtain rfl : K = n := by omega
      go_wp2_with fail
      go_ret
      refine ⟨?_, HBE.out⟩
      have e : idxOf ops s = -1 := by
        unfold idxOf
        have : ops.findIdx? (fun o => decide (s = sg o)) = none := by
          rw [List.findIdx?_eq_none_iff]
          intro o ho
          obtain ⟨j, hj, rfl⟩ := List.mem_iff_getElem.1 ho
          exact decide_eq_false (HP.out j _ (by rw [← HN.out]; exact hj) (List.getElem?_eq_getElem hj))
        rw [this]
      rw [e]; rfl

theorem idx_some {ops : List Nat} {s : Bs} {i : Nat} (h : ops.findIdx? (fun o => decide (s = sg o)) = some i) : idxOf ops s = (i : Int) ∧ ∃ o, ops[i]? = some o ∧ amongOf ops s = o := by
  refine ⟨by unfold idxOf; rw [h], ?_⟩
  obtain ⟨h1, h2, h3⟩ := List.findIdx?_eq_some_iff_getElem.1 h
  refine ⟨ops[i], List.getElem?_eq_getElem h1, ?_⟩
  have hf : ops.find? (fun o => decide (s = sg o)) = some ops[i] := by
    rw [List.find?_eq_some_iff_getElem]
    exact ⟨h2, i, h1, rfl, fun j hj => by have := h3 j hj; simpa using this⟩
  unfold amongOf
  rw [hf]
theorem idx_none {ops : List Nat} {s : Bs} (h : ops.findIdx? (fun o => decide (s = sg o)) = none) : idxOf ops s = -1 ∧ amongOf ops s = 0 := by
  refine ⟨by unfold idxOf; rw [h], ?_⟩
  have hf : ops.find? (fun o => decide (s = sg o)) = none := by
    rw [List.find?_eq_none]
    intro o ho
    have := List.findIdx?_eq_none_iff.1 h o ho
    simpa using this
  unfold amongOf
  rw [hf]

section
variable {f : Nat → Option Obj} {W0 : World} {B a : Nat} {t s : Bs} {v1 : Value} {na e : Int} {c : List In}

set_option maxHeartbeats 1000000 in
set_option maxRecDepth 100000 in
theorem among_any (w : World) (hg : Glob W0) (h : Rd f W0 B t v1 na a s c e w) (ops : List Nat) (k cap : Nat) (ho : ∀ o ∈ ops, o < 17) (hl : ops.length ≤ 1000) (hS : Sl w (.slice (some ⟨k, 0, none⟩) ops.length cap) (ops.map fun (o : Nat) => Value.int .i64 (o : Int))) :
    Calls Tryz.prog 49 #[.pointer (some ⟨B, 0, none⟩), .slice (some ⟨k, 0, none⟩) ops.length cap] w fun z w' => z = .returned (.int .i64 ((amongOf ops s : Nat) : Int)) ∧ Rd f W0 B t v1 na a s c e w' := by
  obtain ⟨X, hX⟩ : ∃ X, (Obj.cells #[.pointer (some ⟨B, 0, none⟩)] 63 (0, 0)) = X := ⟨_, rfl⟩
  have hal := (Below.refl w.heap.size w).alloc (Nat.le_refl _) X
  have h2 := h.grow hal
  obtain ⟨v, ⟨_, _, _, _, c4, _, _⟩, _, _⟩ := h2.cells
  have hbx : (w.alloc X).cell? ⟨w.heap.size, 0, none⟩ = some (.pointer (some ⟨B, 0, none⟩)) := by
    rw [cell_of_row _ _ _ _ _ _ (show (w.alloc X).heap[w.heap.size]? = some (.cells #[.pointer (some ⟨B, 0, none⟩)] 63 (0, 0)) by rw [hX]; exact heap_alloc_at _ _)]
    rfl
  have HI := Lib.hid (indexFunc_any (w.alloc X) ops k cap w.heap.size B s (h2.glob hg) ho hl (hS.below hal) hbx c4)
  have H2 := Lib.hid h2
  have HS := Lib.hid (hS.below hal)
  have HL := Lib.hid hl
  subst hX
  obtain ⟨n, hn⟩ : ∃ n, ops.length = n := ⟨_, rfl⟩
  have HN := Lib.hid hn
  rw [hn] at HI HS ⊢
  clear hal h2 c4 hbx hS hl ho hn h
  cases hf : ops.findIdx? (fun o => decide (s = sg o)) with
  | none =>
    obtain ⟨e1, e2⟩ := idx_none hf
    rw [e1] at HI
    rw [e2]
    clear hf e1 e2
    go_enter Tryz.func49, Tryz.ntmps49
    go_wp2_with (go_at_call 56; refine HI.out.mono ?_; rintro _ w1 ⟨rfl, hb1⟩; have HR := Lib.hid (H2.out.grow hb1); clear hb1)
    go_ret
    exact ⟨rfl, HR.out⟩
  | some i =>
    obtain ⟨e1, o, e2, e3⟩ := idx_some hf
    have hi : i < n := by rw [← HN.out]; exact (List.getElem?_eq_some_iff.1 e2).1
    have hm : (ops.map fun (o : Nat) => Value.int .i64 (o : Int))[i]? = some (.int .i64 (o : Int)) := by rw [List.getElem?_map, e2]; rfl
    have HM := Lib.hid hm
    rw [e1] at HI
    rw [e3]
    have hiI : (i : Int) < (n : Int) := by omega
    clear hf e1 e2 e3 hm
    go_enter Tryz.func49, Tryz.ntmps49
    go_wp2_with (go_at_call 56; refine HI.out.mono ?_; rintro _ w1 ⟨rfl, hb1⟩; obtain ⟨b, off, ea, h1⟩ := (HS.out.below hb1).at HM.out; cases ea; rw [Nat.zero_add] at h1; have HR := Lib.hid (H2.out.grow hb1); clear hb1)
    go_ret
    exact ⟨rfl, HR.out⟩
end
end Go.Proofs.YtbeidmkhpcnbbaaGreatDoor.I
