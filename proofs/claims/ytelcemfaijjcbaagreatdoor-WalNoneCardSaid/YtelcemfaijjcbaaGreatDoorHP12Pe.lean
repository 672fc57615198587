/-
  Layer 12, the program: is there room; a file's bytes told, cut, and more.
-/
import Derived.Test.YtelcemfaijjcbaaGreatDoorHP12Pd
import Derived.Test.YtelcemfaijjcbaaGreatDoorHP12Rv
import Derived.Laws.IdiomStrings
import Derived.Lib.ConvBytes
namespace Go.Proofs.YtelcemfaijjcbaaGreatDoor.C12
open Go Go.RowKit Go.Proofs Go.Proofs.YtelcemfaijjcbaaGreatDoor.B Go.Proofs.YtelcemfaijjcbaaGreatDoor.K Go.Proofs.YtelcemfaijjcbaaGreatDoor.P8
set_option linter.unusedVariables false
set_option maxRecDepth 100000

/-- Would there be more than may be? -/
def fullC (D : Dst) (s : List UInt8) (N : Nat) : Prop := ((findF D.files s = none) ∧ 128 ≤ D.files.length) ∨ (65536 - (((findF D.files s).getD ⟨s, [], []⟩).safe.length : Int) - (((findF D.files s).getD ⟨s, [], []⟩).more.length : Int) < (N : Int)) ∨ (D.room - (usedF D.files : Int) < (N : Int))
noncomputable def roomB (D : Dst) (s : List UInt8) (N : Nat) : Bool := @decide (¬ fullC D s N) (Classical.propDecidable _)
theorem roomB_true {D : Dst} {s : List UInt8} {N : Nat} (h : ¬ fullC D s N) : roomB D s N = true := by unfold roomB; exact @decide_eq_true _ (Classical.propDecidable _) h
theorem roomB_false {D : Dst} {s : List UInt8} {N : Nat} (h : fullC D s N) : roomB D s N = false := by unfold roomB; exact @decide_eq_false _ (Classical.propDecidable _) (fun h' => h' h)

section
variable {w : World} {F : Nat → Prop} {d M n : Nat} {Dm : DataW Nat} {g : List UInt8 → Nat} {bv : List UInt8 → Value} {D : Dst}

set_option maxHeartbeats 4000000 in
theorem proom_any (h : PIn w F d M n Dm g bv D) (s : List UInt8) (N : Nat) (hs : s.length ≤ maxLen) : Calls Tryz.prog 68 #[.pointer (some ⟨d, 0, none⟩), .string (str s), .int .i64 (N : Int)] w fun e w' => e = .returned (.bool (roomB D s N)) ∧ Below w.heap.size w w' := by
  have H := Lib.hid h
  have c0 := (row_at h.disk 0 _ rfl).1
  have c1 := (row_at h.disk 1 _ rfl).1
  obtain ⟨v, hrun, hv⟩ := h.look s hs
  obtain ⟨U, hU⟩ : ∃ U, usedF D.files = U := ⟨_, rfl⟩
  obtain ⟨R, hR⟩ : ∃ R, D.room = R := ⟨_, rfl⟩
  have hU2 : U ≤ 8388608 := by rw [← hU]; exact h.fine.ok.used
  have hR2 : 0 ≤ R ∧ R ≤ 1048576 := by rw [← hR]; exact h.fine.ok.room
  have a1 : IntKind.i64.wrap (R - (U : Int)) = R - (U : Int) := IntWalk.i64_in _ (by omega)
  obtain ⟨K, hK⟩ : ∃ K, D.files.length = K := ⟨_, rfl⟩
  have QG1 := wdq_call (S := fun W => Below w.heap.size w W) (f := 21) (args := #[.pointer (some ⟨d, 0, none⟩)]) (v := .int .i64 (U : Int)) (fun W hS => (pused_any (H.out.below hS)).mono fun e w2 hh => ⟨by rw [← hU]; exact hh.1, hS.trans (hh.2.mono hS.size)⟩)
  have hS0 : Below w.heap.size w w.drew := (Below.refl _ _).drew
  have q0 := fun z : WdQ (fun W => Below w.heap.size w W) => kept_cell z.ok c0
  have q1 := fun z : WdQ (fun W => Below w.heap.size w W) => kept_cell z.ok c1
  have q2 := fun (z : WdQ (fun W => Below w.heap.size w W)) (ty : TypeId) => (H.out.below z.ok).map.len (t := 61) Tryz.underlying61 ty
  have hsz := h.size
  rw [hK] at hsz
  simp only [hsz] at q2
  haveI hne : Nonempty (WdQ (fun W => Below w.heap.size w W)) := ⟨⟨_, hS0⟩⟩
  rcases hv with ⟨hf, rfl⟩ | ⟨f, hf, hm, hn, rfl⟩
  · have hfull : fullC D s N ↔ (128 ≤ K ∨ (65536 : Int) < N ∨ R - (U : Int) < N) := by
      unfold fullC
      rw [hf, hK, hU, hR]
      simp
    by_cases hk : K < 128
    · have hkI : (K : Int) < 128 := by omega
      obtain ⟨c, hc⟩ : ∃ c, roomB D s N = c := ⟨_, rfl⟩
      have hcc : (decide ((N : Int) ≤ if R - (U : Int) < 65536 then R - (U : Int) else 65536)) = c := by
        rw [← hc]
        by_cases hq : fullC D s N
        · rw [roomB_false hq]
          have := hfull.1 hq
          exact decide_eq_false (by split <;> omega)
        · rw [roomB_true hq]
          have : ¬ (128 ≤ K ∨ (65536 : Int) < N ∨ R - (U : Int) < N) := fun q => hq (hfull.2 q)
          exact decide_eq_true (by split <;> omega)
      rw [hc]
      rw [hR] at c0 q0
      try dsimp only at q0 q1 q2
      rw [hR] at q1
      clear hfull hc hf hU hK hsz hU2 hR2 h hs
      rcases Classical.em (R - (U : Int) < 65536) with hq | hq
      · rw [if_pos hq] at hcc
        go_enter Tryz.func68, Tryz.ntmps68
        go_upto_region 3 with fail
        refine region_quiet_q (S := fun W => Below w.heap.size w W) (by kernel_rfl) (by kernel_rfl) hS0 ?_
        repeat (go_big_quiet_step (first | (with_reducible exact QG1 _)))
        refine wpQuiet_nil ?_
        intro _ hw'
        obtain ⟨z, rfl⟩ := hw'
        obtain ⟨X, hSq⟩ := z
        try dsimp only
        clear hne q0 q1 q2 hS0 QG1
        go_wp2_with fail
        go_ret
        exact ⟨by simp, hSq⟩
      · rw [if_neg hq] at hcc
        go_enter Tryz.func68, Tryz.ntmps68
        go_upto_region 3 with fail
        refine region_quiet_q (S := fun W => Below w.heap.size w W) (by kernel_rfl) (by kernel_rfl) hS0 ?_
        repeat (go_big_quiet_step (first | (with_reducible exact QG1 _)))
        refine wpQuiet_nil ?_
        intro _ hw'
        obtain ⟨z, rfl⟩ := hw'
        obtain ⟨X, hSq⟩ := z
        try dsimp only
        clear hne q0 q1 q2 hS0 QG1
        go_wp2_with fail
        go_ret
        exact ⟨by simp, hSq⟩
    · have hkI : ¬ (K : Int) < 128 := by omega
      rw [roomB_false (hfull.2 (Or.inl (by omega)))]
      rw [hR] at c0 q0
      try dsimp only at q0 q1 q2
      rw [hR] at q1
      clear hfull hf hU hK hsz hU2 hR2 h hs
      go_enter Tryz.func68, Tryz.ntmps68
      go_upto_region 3 with fail
      refine region_quiet_q (S := fun W => Below w.heap.size w W) (by kernel_rfl) (by kernel_rfl) hS0 ?_
      repeat (go_big_quiet_step (first | (with_reducible exact QG1 _)))
      refine wpQuiet_nil ?_
      intro _ hw'
      obtain ⟨z, rfl⟩ := hw'
      obtain ⟨X, hSq⟩ := z
      try dsimp only
      clear hne q0 q1 q2 hS0 QG1
      go_wp2_with fail
      go_ret
      exact ⟨rfl, hSq⟩
  · have hfull : fullC D s N ↔ (65536 - (f.safe.length : Int) - (f.more.length : Int) < N ∨ R - (U : Int) < N) := by
      unfold fullC
      rw [hf, hU, hR]
      simp
    have fat := h.each f hm
    rw [hn] at fat
    obtain ⟨av, cap, hbv, hl1, hl2⟩ := fat.buf.at_
    have k0 := (row_at fat.cell 0 _ rfl).1
    rw [hbv, List.length_append] at k0
    have hfe := h.fine.ok.each f hm
    obtain ⟨S, hS⟩ : ∃ S, f.safe.length + f.more.length = S := ⟨_, rfl⟩
    rw [hS] at k0 hfe
    have hSI : (f.safe.length : Int) + (f.more.length : Int) = (S : Int) := by omega
    have a2 : IntKind.i64.wrap (65536 - (S : Int)) = 65536 - (S : Int) := IntWalk.i64_in _ (by omega)
    have q3 := fun z : WdQ (fun W => Below w.heap.size w W) => kept_cell z.ok k0
    obtain ⟨c, hc⟩ : ∃ c, roomB D s N = c := ⟨_, rfl⟩
    have hcc : (decide ((N : Int) ≤ if R - (U : Int) < 65536 - (S : Int) then R - (U : Int) else 65536 - (S : Int))) = c := by
      rw [← hc]
      by_cases hq : fullC D s N
      · rw [roomB_false hq]
        have := hfull.1 hq
        exact decide_eq_false (by split <;> omega)
      · rw [roomB_true hq]
        have : ¬ (65536 - (f.safe.length : Int) - (f.more.length : Int) < N ∨ R - (U : Int) < N) := fun q => hq (hfull.2 q)
        exact decide_eq_true (by split <;> omega)
    rw [hc]
    rw [hR] at c0 q0
    try dsimp only at q0 q1 q2 q3
    rw [hR] at q1
    clear hfull hc hf hU hK hsz hU2 hR2 h hs fat hbv hl1 hl2 hfe hS hSI hm hn
    rcases Classical.em (R - (U : Int) < 65536 - (S : Int)) with hq | hq
    · rw [if_pos hq] at hcc
      go_enter Tryz.func68, Tryz.ntmps68
      go_upto_region 4 with fail
      refine region_quiet_q (S := fun W => Below w.heap.size w W) (by kernel_rfl) (by kernel_rfl) hS0 ?_
      repeat (go_big_quiet_step (first | (with_reducible exact QG1 _)))
      refine wpQuiet_nil ?_
      intro _ hw'
      obtain ⟨z, rfl⟩ := hw'
      obtain ⟨X, hSq⟩ := z
      try dsimp only
      clear hne q0 q1 q2 q3 hS0 QG1
      go_wp2_with fail
      go_ret
      exact ⟨by simp, hSq⟩
    · rw [if_neg hq] at hcc
      go_enter Tryz.func68, Tryz.ntmps68
      go_upto_region 4 with fail
      refine region_quiet_q (S := fun W => Below w.heap.size w W) (by kernel_rfl) (by kernel_rfl) hS0 ?_
      repeat (go_big_quiet_step (first | (with_reducible exact QG1 _)))
      refine wpQuiet_nil ?_
      intro _ hw'
      obtain ⟨z, rfl⟩ := hw'
      obtain ⟨X, hSq⟩ := z
      try dsimp only
      clear hne q0 q1 q2 q3 hS0 QG1
      go_wp2_with fail
      go_ret
      exact ⟨by simp, hSq⟩
end
end Go.Proofs.YtelcemfaijjcbaaGreatDoor.C12
