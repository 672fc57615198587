/-
  Contract of the program's reader of layer 4: advance.
-/
import Derived.Test.YtbeidmkhpcnbbaaGreatDoorIPStep
import Derived.Test.YtbeidmkhpcnbbaaGreatDoorIPLx
import Derived.Deep.RegionHeld3
import Derived.Deep.DeepCutAuto
import Derived.Deep.LoopGhost
import Derived.BigQuiet
namespace Go.Proofs.YtbeidmkhpcnbbaaGreatDoor.I
open Go Go.RowKit Go.Proofs.YtbeidmkhpcnbbaaGreatDoor.B Go.Proofs.YtbeidmkhpcnbbaaGreatDoor.K Go.Proofs.YtbeidmkhpcnbbaaGreatDoor.E
set_option linter.unusedVariables false

section
variable {f : Nat → Option Obj} {W0 : World} {B a p : Nat} {t s s' : Bs} {v1 : Value} {na e : Int} {c : List In} {r : List Tk}

theorem Glob.drewN {w : World} (h : Glob w) (n : Nat) : Glob (w.drewN n) := h.below (below_drewN (Below.refl _ _) n)

theorem str_at (t : Bs) (q : Nat) (d : UInt8) (h : t[q]? = some d) : ∃ (hq : q < (str t).size), (str t)[q]'hq = d := by
  obtain ⟨hq, he⟩ := List.getElem?_eq_some_iff.1 h
  exact ⟨by rw [str_size]; exact hq, by rw [str_get]; exact he⟩

set_option maxHeartbeats 2000000 in
set_option maxRecDepth 100000 in
theorem advance_any (w : World) (hg : Glob W0) (h : Rd f W0 B t v1 na a s c e w) (hle : a + s.length ≤ t.length) (hL : Lx (a + s.length) (t.drop (a + s.length)) ((p, s') :: r)) (hl : t.length ≤ 2048) :
    Calls Tryz.prog 15 #[.pointer (some ⟨B, 0, none⟩)] w fun z w' => z = .returned (.tuple #[]) ∧ Rd f W0 B t v1 na p (cutw s') c e w' ∧ At t p s' r := by
  obtain ⟨wc, hwc⟩ : ∃ x, cutw s' = x := ⟨_, rfl⟩
  rw [hwc]
  have HWC := Lib.hid hwc
  clear hwc
  obtain ⟨v, ⟨c0, _, _, c3, c4, _, _⟩, _, hfz⟩ := h.cells
  have f3 := hfz 3 (by decide)
  have hszt : (str t).size = t.length := str_size t
  have hszs : (str s).size = s.length := str_size s
  have hsum : IntKind.i64.wrap ((a : Int) + (s.length : Int)) = ((a + s.length : Nat) : Int) := by rw [show ((a + s.length : Nat) : Int) = (a : Int) + (s.length : Int) by omega]; exact IntWalk.i64_in _ (by omega)
  have hset := Lib.hid (h.set (a' := a + s.length) (s' := s) (e' := e) 3 (.int .i64 ((a + s.length : Nat) : Int)) (fun v => rfl))
  have HLX := Lib.hid hL
  have HLE := Lib.hid hle
  have HL := Lib.hid hl
  have HGL := Lib.hid hg
  clear hfz h hL hle hl hg
  unfold sv at c0 c4
  go_enter Tryz.func15, Tryz.ntmps15
  go_wp2_with fail
  go_still_tail 12, (by kernel_rfl)
  change wpList _ _ _ _ _ w.drew
  go_wp2_with fail
  go_loopg [] (t.length - (a + s.length)) (fun g wr => ∃ q, q + g = t.length ∧ Hid (Lx q (t.drop q) ((p, s') :: r)) ∧ Hid (Rd f W0 B t v1 na q s c e wr))
  case atStart => exact ⟨a + s.length, by have := HLE.out; omega, HLX, Lib.hid (hset.out.drewN 1)⟩
  case round =>
    obtain ⟨q, hq, HQ, HRQ⟩ := hrel
    clear c0 c3 c4 f3 hset
    have hqt : q ≤ t.length := by omega
    obtain ⟨v2, ⟨c0, _, _, c3, _, _, _⟩, _, hfz⟩ := HRQ.out.cells
    have f3 := hfz 3 (by decide)
    clear hfz
    unfold sv at c0
    rcases lx_step hqt HQ.out with ⟨h32, hnx⟩ | ⟨h32, hpq, hat⟩
    · have hqlt : q < t.length := by
        have := (List.getElem?_eq_some_iff.1 h32).1
        exact this
      obtain ⟨hqs, hqe⟩ := str_at t q 32 h32
      have hqI : (q : Int) < (t.length : Int) := by omega
      have hw1 : IntKind.i64.wrap ((q : Int) + 1) = ((q + 1 : Nat) : Int) := by rw [show ((q + 1 : Nat) : Int) = (q : Int) + 1 by omega]; exact IntWalk.i64_in _ (by have := HL.out; omega)
      have hset := Lib.hid (HRQ.out.set (a' := q + 1) (s' := s) (e' := e) 3 (.int .i64 ((q + 1 : Nat) : Int)) (fun v => rfl))
      have HNX := Lib.hid hnx
      clear h32 hnx
      go_wp2_with fail
      go_quiet (fail)
      go_wp2_with fail
      go_roundg (gk - 1)
      case measure => omega
      case rel => exact ⟨q + 1, by omega, HNX, Lib.hid ((HRQ.out.drewN nq).set (a' := q + 1) (s' := s) (e' := e) 3 (.int .i64 ((q : Int) + 1)) (fun v => rfl))⟩
    · subst hpq
      have HAT := Lib.hid hat
      have hwd := Lib.hid (fun W hW => wordAt_any t (t.drop p) p W hW hqt rfl (by have := HL.out; omega))
      rw [hat.wd, HWC.out] at hwd
      unfold sv at hwd
      replace hwd := Lib.hid hwd
      by_cases hend : p < t.length
      · obtain ⟨d, hd⟩ : ∃ d, t[p]? = some d := ⟨_, List.getElem?_eq_getElem hend⟩
        obtain ⟨hqs, hqe⟩ := str_at t p d hd
        have hqI : (p : Int) < (t.length : Int) := by omega
        have hne : ((d.toNat : Int) == 32) = false := by
          rw [beq_eq_false_iff_ne]; intro h; exact h32 (by rw [hd, (byte_eq d 32 (by decide)).2 (by omega)]; rfl)
        clear h32 hd hat
        have HGW := Lib.hid (HRQ.out.glob HGL.out)
        obtain ⟨_, ⟨_, _, _, _, c4, _, _⟩, _, hfz⟩ := HRQ.out.cells
        have f4 := hfz 4 (by decide)
        clear hfz
        go_wp2_with fail
        go_quiet (fail)
        go_wp2_with fail
        have hR2 := HRQ.out.drewN nq
        clear HRQ HGW c0 c3 c4 f3 f4
        generalize wr.drewN nq = wq at hR2 ⊢
        have HR2 := Lib.hid hR2
        have HGW := Lib.hid (hR2.glob HGL.out)
        obtain ⟨_, ⟨c0, _, _, c3, c4, _, _⟩, _, hfz⟩ := hR2.cells
        have f4 := hfz 4 (by decide)
        clear hfz hR2
        unfold sv at c0
        refine wp_region_still_tail 12 (by kernel_rfl) (by kernel_rfl) ?_
        simp only [List.take_succ_cons, List.take_zero, List.drop_succ_cons, List.drop_zero]
        repeat still_step
        still_call ((hwd.out _ (HGW.out.drewN 1)).mono fun e w' h => ⟨h.1, h.2.symm⟩)
        repeat still_step
        try refine wpStill_nil ?_
        change wpList _ _ _ _ _ wq.drew
        go_wp2_with fail
        go_end0
        exact ⟨rfl, (HR2.out.drewN 1).set (a' := p) (s' := wc) (e' := e) 4 (.string (str wc)) (fun v => rfl), HAT.out⟩
      · have hqI : decide ((p : Int) < (t.length : Int)) = false := decide_eq_false (by omega)
        clear h32 hat
        have HGW := Lib.hid (HRQ.out.glob HGL.out)
        obtain ⟨_, ⟨_, _, _, _, c4, _, _⟩, _, hfz⟩ := HRQ.out.cells
        have f4 := hfz 4 (by decide)
        clear hfz
        go_wp2_with fail
        go_quiet (fail)
        go_wp2_with fail
        have hR2 := HRQ.out.drewN nq
        clear HRQ HGW c0 c3 c4 f3 f4
        generalize wr.drewN nq = wq at hR2 ⊢
        have HR2 := Lib.hid hR2
        have HGW := Lib.hid (hR2.glob HGL.out)
        obtain ⟨_, ⟨c0, _, _, c3, c4, _, _⟩, _, hfz⟩ := hR2.cells
        have f4 := hfz 4 (by decide)
        clear hfz hR2
        unfold sv at c0
        refine wp_region_still_tail 12 (by kernel_rfl) (by kernel_rfl) ?_
        simp only [List.take_succ_cons, List.take_zero, List.drop_succ_cons, List.drop_zero]
        repeat still_step
        still_call ((hwd.out _ (HGW.out.drewN 1)).mono fun e w' h => ⟨h.1, h.2.symm⟩)
        repeat still_step
        try refine wpStill_nil ?_
        change wpList _ _ _ _ _ wq.drew
        go_wp2_with fail
        go_end0
        exact ⟨rfl, (HR2.out.drewN 1).set (a' := p) (s' := wc) (e' := e) 4 (.string (str wc)) (fun v => rfl), HAT.out⟩
end
end Go.Proofs.YtbeidmkhpcnbbaaGreatDoor.I
