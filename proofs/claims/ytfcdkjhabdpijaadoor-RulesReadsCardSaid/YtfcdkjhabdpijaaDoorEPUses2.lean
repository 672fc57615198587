/-
  Contract of the program of layer 3: Uses.
-/
import Derived.Test.YtfcdkjhabdpijaaDoorEPUses
namespace Go.Proofs.YtfcdkjhabdpijaaDoor.E
open Go Go.RowKit Go.Proofs.YtfcdkjhabdpijaaDoor.B Go.Proofs.YtfcdkjhabdpijaaDoor.K
set_option linter.unusedVariables false

/-- A list of marks in a row of the call's own. -/
def Marks (w : World) (base : Nat) (v : Value) (ys : List Bool) : Prop := w.ownsRow base 4 1 v ys.length (ys.map Value.bool)

/-- Two lists in one world, apart. -/
def Two (w : World) (base : Nat) (v1 v2 : Value) (y1 y2 : List Bool) : Prop := Marks w base v1 y1 ∧ Marks w base v2 y2 ∧ (v1.ownBlock = none ∨ v1.ownBlock ≠ v2.ownBlock) ∧ (v2.ownBlock = none ∨ v2.ownBlock ≠ v1.ownBlock)

theorem Two.alloc {w : World} {base : Nat} {v1 v2 : Value} {y1 y2 : List Bool} (h : Two w base v1 v2 y1 y2) (o : Obj) : Two (w.alloc o) base v1 v2 y1 y2 :=
  ⟨h.1.alloc o, h.2.1.alloc o, h.2.2⟩

theorem Two.swap {w : World} {base : Nat} {v1 v2 : Value} {y1 y2 : List Bool} (h : Two w base v1 v2 y1 y2) : Two w base v2 v1 y2 y1 := ⟨h.2.1, h.1, h.2.2.2, h.2.2.1⟩

theorem Two.one {w w' : World} {base : Nat} {v1 v2 v' : Value} {y1 y2 z : List Bool} (h : Two w base v1 v2 y1 y2) (h1 : Marks w' base v' z) (hb : v'.ownBlock = v1.ownBlock ∨ ∃ g, v'.ownBlock = some g ∧ w.heap.size ≤ g) (hg : w.grownBy w' v1.ownBlock) :
    Two w' base v' v2 z y2 := by
  obtain ⟨m1, m2, a1, a2⟩ := h
  have hlt := owns_lt m2
  refine ⟨h1, m2.kept hg a2, ?_, ?_⟩
  · rcases hb with e | ⟨g, e, hg'⟩
    · rw [e]; exact a1
    · right; rw [e]; intro e2; have := hlt g e2.symm; omega
  · rcases hb with e | ⟨g, e, hg'⟩
    · rw [e]; exact a2
    · right; rw [e]; intro e2; have := hlt g e2; omega

theorem uses_small (o most : Int) (p : List In) (h0 : 0 ≤ most) (h1 : most ≤ 100) : (uses o most p).length ≤ 100 := by
  rw [uses_length]
  have := usesTop_lt o most p (-1) (by omega)
  omega

theorem take_snoc (code : List In) (K : Nat) (i : In) (h : code[K]? = some i) : code.take (K + 1) = code.take K ++ [i] := by
  rw [List.take_add_one, h]; rfl

set_option maxHeartbeats 1000000 in
theorem uses_own (code : List In) (v : Value) (w : World) (hs : SlI w v code) (hl : code.length ≤ 9223372036854775807) :
    Calls Tryd.prog 43 #[v] w fun e w' => (∃ u1 u2, e = .returned (.tuple #[u1, u2]) ∧ Marks w' w.heap.size u1 (uses 2 6 code) ∧ Marks w' w.heap.size u2 (uses 3 4 code)) ∧ Below w.heap.size w w' := by
  have HS := Lib.hid hs
  obtain ⟨a, cap, rfl, -⟩ := hs
  have HL := Lib.hid hl
  obtain ⟨n, hN⟩ : ∃ n, code.length = n := ⟨_, rfl⟩
  rw [hN] at HL hl
  have HN := Lib.hid hN
  rw [hN] at HS ⊢
  clear hN hl
  go_enter Tryd.func43, Tryd.ntmps43
  go_wp2_with fail
  go_loopw [4, 5, 7, 10] (fun v1 v2 _ k wr => ∃ (K : Nat), k = .int .i64 (K : Int) ∧ K ≤ n ∧ Hid (Two wr w.heap.size v1 v2 (uses 2 6 (code.take K)) (uses 3 4 (code.take K))) ∧ Hid (Below w.heap.size w wr)) (fun _ _ _ k _ => n - (intOf k).toNat)
  case atStart => exact ⟨0, rfl, Nat.zero_le _, ⟨World.ownsRow_nil _ _ _ _, World.ownsRow_nil _ _ _ _, Or.inl rfl, Or.inl rfl⟩, Below.refl _ _⟩
  case round =>
    obtain ⟨K, rfl, hK, HT, HBE⟩ := hrel
    by_cases hlt : K < n
    · obtain ⟨i, hi⟩ : ∃ i, code[K]? = some i := ⟨_, List.getElem?_eq_getElem (by rw [HN.out]; exact hlt)⟩
      obtain ⟨b, off, rfl, h1, h2⟩ := (HS.out.below HBE.out).at hi
      have HTA := Lib.hid (HT.out.alloc (.cells #[.int .i64 i.1, .int .i64 i.2] 80))
      have HBA := Lib.hid (HBE.out.alloc HBE.out.size (.cells #[.int .i64 i.1, .int .i64 i.2] 80))
      have HU1 := Lib.hid (uses_snoc 2 6 (code.take K) i (by decide))
      have HU2 := Lib.hid (uses_snoc 3 4 (code.take K) i (by decide))
      have HTS := Lib.hid (take_snoc code K i hi)
      have hwK : IntKind.i64.wrap ((K : Int) + 1) = (K : Int) + 1 := IntWalk.i64_in _ (by have := HL.out; omega)
      have hltI : (K : Int) < (n : Int) := by omega
      obtain ⟨o, x⟩ := i
      clear hi
      by_cases o2 : o = 2
      · subst o2
        have H1 := Lib.hid (fun vv W hm hb => named_any (uses 2 6 (code.take K)) vv x 6 w.heap.size W hm hb (uses_small 2 6 _ (by decide) (by decide)) (by decide))
        go_wp2_with fail
        refine (H1.out _ _ HTA.out.1 HBA.out.size).mono ?_
        rintro _ w1 ⟨v', rfl, hm1, hb1, hg1⟩
        have HT2 := Lib.hid (HTA.out.one hm1 hb1 hg1)
        have HBE2 := Lib.hid (HBA.out.grown hg1 HBA.out.size (owns_block HTA.out.1))
        clear hm1 hb1 hg1
        go_wp2_with fail
        go_roundw
        case rel => exact ⟨K + 1, by go_num, by omega, by rw [HTS.out, HU1.out, if_pos trivial, HU2.out, if_neg (by show ¬ (2 : Int) = 3; decide)]; exact HT2.out, HBE2.out⟩
        case measure => simp [intOf]; omega
      by_cases o3 : o = 3
      · subst o3
        have H1 := Lib.hid (fun vv W hm hb => named_any (uses 3 4 (code.take K)) vv x 4 w.heap.size W hm hb (uses_small 3 4 _ (by decide) (by decide)) (by decide))
        go_wp2_with fail
        refine (H1.out _ _ HTA.out.2.1 HBA.out.size).mono ?_
        rintro _ w1 ⟨v', rfl, hm1, hb1, hg1⟩
        have HT2 := Lib.hid (HTA.out.swap.one hm1 hb1 hg1).swap
        have HBE2 := Lib.hid (HBA.out.grown hg1 HBA.out.size (owns_block HTA.out.2.1))
        clear hm1 hb1 hg1
        go_wp2_with fail
        go_roundw
        case rel => exact ⟨K + 1, by go_num, by omega, by rw [HTS.out, HU1.out, if_neg (by show ¬ (3 : Int) = 2; decide), HU2.out, if_pos trivial]; exact HT2.out, HBE2.out⟩
        case measure => simp [intOf]; omega
      · have b2 : (o == 2) = false := by simp [o2]
        have b3 : (o == 3) = false := by simp [o3]
        have HO2 := Lib.hid o2
        have HO3 := Lib.hid o3
        clear o2 o3
        go_wp2_with fail
        go_roundw
        case rel => exact ⟨K + 1, by go_num, by omega, by rw [HTS.out, HU1.out, if_neg HO2.out, HU2.out, if_neg HO3.out]; exact HTA.out, HBA.out⟩
        case measure => simp [intOf]; omega
    · have hfull : code.take K = code := List.take_of_length_le (by rw [HN.out]; omega)
      have HF := Lib.hid hfull
      have hltI : ¬ (K : Int) < (n : Int) := by omega
      clear hfull
      go_wp2_with fail
      go_ret2
      exact ⟨⟨_, _, rfl, by have h := HT.out.1; rw [HF.out] at h; exact h, by have h := HT.out.2.1; rw [HF.out] at h; exact h⟩, HBE.out⟩

theorem uses_any (code : List In) (v : Value) (w : World) (hs : SlI w v code) (hl : code.length ≤ 9223372036854775807) :
    Calls Tryd.prog 43 #[v] w fun e w' => (∃ u1 u2, e = .returned (.tuple #[u1, u2]) ∧ Sl w' u1 ((uses 2 6 code).map Value.bool) ∧ Sl w' u2 ((uses 3 4 code).map Value.bool)) ∧ Below w.heap.size w w' := by
  refine (uses_own code v w hs hl).mono ?_
  rintro _ w' ⟨⟨u1, u2, rfl, h1, h2⟩, hb⟩
  exact ⟨⟨u1, u2, rfl, Sl.owns h1, Sl.owns h2⟩, hb⟩
end Go.Proofs.YtfcdkjhabdpijaaDoor.E
