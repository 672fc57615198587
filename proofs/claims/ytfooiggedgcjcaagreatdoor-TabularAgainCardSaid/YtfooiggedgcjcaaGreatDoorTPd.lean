/-
  Layer 6: one word or more, read by a function that is handed over.
-/
import Derived.Test.YtfooiggedgcjcaaGreatDoorTDt
import Derived.Test.YtfooiggedgcjcaaGreatDoorIPSec
import Derived.Deep.LoopGhost
namespace Go.Proofs.YtfooiggedgcjcaaGreatDoor.T
open Go Go.RowKit Go.Proofs.YtfooiggedgcjcaaGreatDoor.B Go.Proofs.YtfooiggedgcjcaaGreatDoor.K Go.Proofs.YtfooiggedgcjcaaGreatDoor.E Go.Proofs.YtfooiggedgcjcaaGreatDoor.R
set_option linter.unusedVariables false

/-- The first error of words. -/
def firstE (er : Bs → Int) : List Bs → Int
  | [] => 0
  | w :: r => if er w ≠ 0 then er w else firstE er r

theorem words_cons (s : Bs) : words s = wd s :: (if nx s = [] then [] else words (nx s)) := by
  conv => lhs; unfold words
  by_cases h : nx s = []
  · rw [dif_pos h, if_pos h]
  · rw [dif_neg h, if_neg h]
theorem wd_le (s : Bs) : (wd s).length ≤ s.length := by unfold wd upTo; exact (List.takeWhile_prefix _).length_le
theorem nx_le (s : Bs) : (nx s).length ≤ s.length := by
  by_cases h : s = []
  · subst h; simp [nx_nil]
  · exact Nat.le_of_lt (nx_lt s h)

/-- A line's rest, in its cell. -/
structure LnAt (w : World) (LB : Nat) (s : Bs) : Prop where
  cell : w.cell? ⟨LB, 0, none⟩ = some (sv s)
  frozen : w.frozen? ⟨LB, 0, none⟩ = false
theorem LnAt.lt {w : World} {LB : Nat} {s : Bs} (h : LnAt w LB s) : LB < w.heap.size := World.block_lt_of_cell? w _ h.cell
theorem LnAt.chg {w w' : World} {LB : Nat} {s : Bs} {S : Nat → Prop} (h : LnAt w LB s) (hc : Chg S w w') (hn : ¬ S LB) : LnAt w' LB s := ⟨hc.cell h.cell hn, (hc.frozens h.lt hn 0).trans h.frozen⟩
theorem LnAt.set {w : World} {LB : Nat} {s : Bs} (h : LnAt w LB s) (n : Nat) (s' : Bs) : LnAt ((w.drewN n).setCell ⟨LB, 0, none⟩ (sv s')) LB s' := by
  have h1 : (w.drewN n).cell? ⟨LB, 0, none⟩ = some (sv s) := h.cell
  have h2 : (w.drewN n).frozen? ⟨LB, 0, none⟩ = false := h.frozen
  exact ⟨World.cell?_setCell_same _ _ _ h1, by rw [World.frozen?_setCell]; exact h2⟩

/-- What a function does with a word. -/
structure Rdr (N : Nat) (caps : Array Value) (LB : Nat) (er : Bs → Int) (J : List Bs → World → Prop) (M : Nat) : Prop where
  ent : I.Ent N
  call : ∀ done word w, J done w → word.length ≤ M → done.length ≤ M → Calls Tryz.prog N (#[sv word] ++ caps) w fun e w' => e = .returned (.int .i64 (er word)) ∧ J (done ++ [word]) w' ∧ ∀ s, LnAt w LB s → LnAt w' LB s
  line : ∀ done w n s, J done w → J done ((w.drewN n).setCell ⟨LB, 0, none⟩ (sv s))

def OneMore (LB : Nat) (er : Bs → Int) (J : List Bs → World → Prop) (s : Bs) (z : Ending) (w' : World) : Prop :=
  z = .returned (.int .i64 (firstE er (words s))) ∧ ∃ done, J done w' ∧ done.length ≤ s.length + 1 ∧ (∀ x ∈ done, x.length ≤ s.length) ∧ (firstE er (words s) = 0 → done = words s)

set_option maxHeartbeats 2000000 in
theorem oneOrMore_any {N : Nat} {caps : Array Value} {LB : Nat} {er : Bs → Int} {J : List Bs → World → Prop} {M : Nat} (hr : Rdr N caps LB er J M) (s : Bs) (hs : s.length + 1 ≤ M) (hM : M ≤ 100000) (w : World) (hl : LnAt w LB s) (hJ : J [] w) :
    Calls Tryz.prog 67 #[.pointer (some ⟨LB, 0, none⟩), .func (.func N) #[] caps] w (OneMore LB er J s) := by
  have hW := word_any LB s (by omega) w hl.cell hl.frozen
  have HW := Lib.hid hW
  have HR := Lib.hid hr
  have HL := Lib.hid hl
  have HJ := Lib.hid hJ
  have HS := Lib.hid (And.intro hs hM)
  have hN' : ∀ args w, (callFunc N args).run Tryz.prog w = .ok (.enter N args) w := hr.ent
  have hwl := wd_le s
  have HWL := Lib.hid hwl
  clear hW hr hl hJ hs hM hwl
  go_enter Tryz.func67, Tryz.ntmps67
  go_wp2_with (go_at_call 13; refine HW.out.mono ?_; rintro _ w1 ⟨rfl, n1, rfl⟩)
  have h1 := HR.out.call [] (wd s) _ (HR.out.line [] _ n1 (nx s) HJ.out) (by have := HS.out; have := HWL.out; omega) (by simp)
  refine h1.mono ?_
  rintro _ w2 ⟨rfl, hJ2, hl2⟩
  have HJ2 := Lib.hid hJ2
  have HL2 := Lib.hid (hl2 (nx s) (HL.out.set n1 (nx s)))
  have HNL := Lib.hid (nx_le s)
  have HWC := Lib.hid (words_cons s)
  clear hJ2 hl2 h1 HJ HL HW
  go_wp2_with fail
  go_loopg [5] (s.length) (fun g e wr => ∃ (done : List Bs) (last s1 : Bs), e = .int .i64 (er last) ∧ Hid (J (done ++ [last]) wr ∧ LnAt wr LB s1) ∧ s1.length ≤ g ∧ Hid (g + done.length ≤ s.length ∧ (∀ x ∈ done ++ [last], x.length ≤ s.length)) ∧ Hid ((er last ≠ 0 → firstE er (words s) = er last) ∧ (er last = 0 → words s = done ++ [last] ++ (if s1 = [] then [] else words s1) ∧ firstE er (words s) = if s1 = [] then 0 else firstE er (words s1))))
  case atStart =>
    refine ⟨[], wd s, nx s, rfl, Lib.hid ⟨HJ2.out, HL2.out⟩, HNL.out, Lib.hid ⟨by simp, by simpa using HWL.out⟩, Lib.hid ⟨fun h => ?_, fun h => ⟨HWC.out, ?_⟩⟩⟩
    · rw [HWC.out, firstE, if_pos h]
    · rw [HWC.out, firstE, if_neg (fun h1 => h1 h)]
      split
      · rfl
      · rfl
  case round =>
    obtain ⟨done, last, s1, rfl, HI, hs1, HB, HE⟩ := hrel
    by_cases he : er last = 0
    · obtain ⟨E1, E2⟩ := HE.out.2 he
      have HE1 := Lib.hid E1
      have HE2 := Lib.hid E2
      have HER := Lib.hid he
      have hbe : (er last == 0) = true := beq_iff_eq.2 he
      rw [he]
      clear E1 E2 he hbe HE
      by_cases h0 : s1 = []
      · subst h0
        have HN := Lib.hid (ended_yes LB wr HI.out.2.cell)
        go_wp2_with (go_at_call 11; refine HN.out.mono ?_; rintro _ w3 ⟨rfl, rfl⟩)
        go_ret
        refine ⟨?_, done ++ [last], HI.out.1, by have := HB.out.1; simp; omega, HB.out.2, fun _ => ?_⟩
        · exact ret_int (by rw [HE2.out]; simp)
        · rw [HE1.out]; simp
      · have HN := Lib.hid (ended_no LB s1 h0 wr HI.out.2.cell)
        have HW1 := Lib.hid (word_any LB s1 (by have := HB.out.1; have := HS.out; omega) wr HI.out.2.cell HI.out.2.frozen)
        have HLT := Lib.hid (nx_lt s1 h0)
        have HW2 := Lib.hid (wd_le s1)
        have HC1 := Lib.hid (words_cons s1)
        have H0 := Lib.hid h0
        clear h0
        go_wp2_with (first | (go_at_call 11; refine HN.out.mono ?_; rintro _ w3 ⟨rfl, rfl⟩) | (go_at_call 13; refine HW1.out.mono ?_; rintro _ w3 ⟨rfl, n3, rfl⟩))
        have h1 := HR.out.call (done ++ [last]) (wd s1) _ (HR.out.line _ _ n3 (nx s1) HI.out.1) (by have := HB.out.1; have := HS.out; have := HW2.out; omega) (by have := HB.out.1; have := HS.out; simp; omega)
        refine h1.mono ?_
        rintro _ w4 ⟨rfl, hJ4, hl4⟩
        have HJ4 := Lib.hid hJ4
        have HL4 := Lib.hid (hl4 (nx s1) (HI.out.2.set n3 (nx s1)))
        clear hJ4 hl4 h1
        go_wp2_with fail
        go_roundg ((nx s1).length)
        case measure => have := HLT.out; omega
        case rel =>
          refine ⟨done ++ [last], wd s1, nx s1, rfl, Lib.hid ⟨HJ4.out, HL4.out⟩, Nat.le_refl _, Lib.hid ⟨by have := HB.out.1; have := HLT.out; simp; omega, fun x hx => ?_⟩, Lib.hid ⟨fun h => ?_, fun h => ⟨?_, ?_⟩⟩⟩
          · rcases List.mem_append.1 hx with hx | hx
            · exact HB.out.2 x hx
            · simp at hx; subst hx; have := HB.out.1; have := HW2.out; omega
          · rw [HE2.out, if_neg H0.out, HC1.out, firstE, if_pos h]
          · rw [HE1.out, if_neg H0.out, HC1.out]; simp
          · rw [HE2.out, if_neg H0.out, HC1.out, firstE, if_neg (fun h1 => h1 h)]
            split
            · rfl
            · rfl
    · have hbe : (er last == 0) = false := beq_eq_false_iff_ne.2 he
      have HER := Lib.hid he
      clear he
      go_wp2_with fail
      go_ret
      refine ⟨?_, done ++ [last], HI.out.1, by have := HB.out.1; simp; omega, HB.out.2, fun h => ?_⟩
      · exact ret_int (HE.out.1 HER.out).symm
      · rw [HE.out.1 HER.out] at h; exact absurd h HER.out
end Go.Proofs.YtfooiggedgcjcaaGreatDoor.T
