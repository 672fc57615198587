/-
  Layer 12, the laws: do both say the same of all files?
-/
import Derived.Test.YthdchidlfeighaaHP12Lc
import Derived.Test.YthdchidlfeighaaHP12Sm
namespace Go.Proofs.Ythdchidlfeighaa.C12
open Go Go.RowKit Go.Proofs Go.Proofs.Ythdchidlfeighaa.B Go.Proofs.Ythdchidlfeighaa.K Go.Proofs.Ythdchidlfeighaa.P8
set_option linter.unusedVariables false
set_option maxRecDepth 100000

section
variable {B : Nat} {w : World} {d x : Nat} {D E : Dst}
theorem t_list (h : Two B w d x D E) : Calls Try.prog 13 #[.pointer (some ⟨d, 0, none⟩)] w fun e w' => ∃ a c, e = .returned (.slice a D.files.length c) ∧ Sl w' (.slice a D.files.length c) ((namesOf D.files).map sv) ∧ Below w.heap.size w w' := by
  obtain ⟨F, G, h⟩ := h
  obtain ⟨M, n, Dm, g, bv, hp⟩ := h.prog
  refine (plist_any hp).mono ?_
  rintro e w' ⟨v, he, hs, _, hb⟩
  obtain ⟨a, c, rfl, hc⟩ := id hs
  have e1 : ((namesOf D.files).map sv).length = D.files.length := by unfold namesOf; rw [List.length_map, List.length_map]
  rw [e1] at he hs
  exact ⟨a, c, he, hs, hb⟩
theorem t_names (h : Two B w d x D E) : Calls Try.prog 30 #[.pointer (some ⟨x, 0, none⟩)] w fun e w' => ∃ a c, e = .returned (.slice a E.files.length c) ∧ Sl w' (.slice a E.files.length c) ((namesOf E.files).map sv) ∧ Below w.heap.size w w' := by
  obtain ⟨F, G, h⟩ := h
  refine (names_any x G E w h.ref).mono ?_
  rintro e w' ⟨v, he, hs, hb⟩
  obtain ⟨a, c, rfl, hc⟩ := id hs
  have e1 : ((namesOf E.files).map sv).length = E.files.length := by unfold namesOf; rw [List.length_map, List.length_map]
  rw [e1] at he hs
  exact ⟨a, c, he, hs, hb⟩
theorem t_used (h : Two B w d x D E) : Calls Try.prog 17 #[.pointer (some ⟨d, 0, none⟩)] w fun e w' => e = .returned (.int .i64 (usedF D.files : Int)) ∧ Below w.heap.size w w' := by
  obtain ⟨F, G, h⟩ := h
  obtain ⟨M, n, Dm, g, bv, hp⟩ := h.prog
  exact pused_any hp
theorem t_down (h : Two B w d x D E) : Calls Try.prog 18 #[.pointer (some ⟨d, 0, none⟩)] w fun e w' => e = .returned (.bool D.down) ∧ Below w.heap.size w w' := by
  obtain ⟨F, G, h⟩ := h
  exact pdown_any h.prog
theorem t_read (h : Two B w d x D E) (s : List UInt8) (hs : s.length ≤ maxLen) : Calls Try.prog 14 #[.pointer (some ⟨d, 0, none⟩), .string (str s)] w fun e w' => e = .returned (.tuple #[.string (str (readD D s).1), .int .i64 (readD D s).2]) ∧ Below w.heap.size w w' := by
  obtain ⟨F, G, h⟩ := h
  exact pread_any h.prog s hs
theorem t_safe (h : Two B w d x D E) (s : List UInt8) (hs : s.length ≤ maxLen) : Calls Try.prog 16 #[.pointer (some ⟨d, 0, none⟩), .string (str s)] w fun e w' => e = .returned (.int .i64 (safeD D s)) ∧ Below w.heap.size w w' := by
  obtain ⟨F, G, h⟩ := h
  exact psafe_any h.prog s hs
theorem t_usedR (h : Two B w d x D E) : Calls Try.prog 31 #[.pointer (some ⟨x, 0, none⟩)] w fun e w' => e = .returned (.int .i64 (usedF E.files : Int)) ∧ Below w.heap.size w w' := by
  obtain ⟨F, G, h⟩ := h
  exact used_any x G E w h.ref
theorem t_readR (h : Two B w d x D E) (s : List UInt8) : Calls Try.prog 32 #[.pointer (some ⟨x, 0, none⟩), .string (str s)] w fun e w' => e = .returned (.tuple #[.string (str (readD E s).1), .int .i64 (readD E s).2]) ∧ Below w.heap.size w w' := by
  obtain ⟨F, G, h⟩ := h
  exact read_any s x G E w h.ref
theorem t_atR (h : Two B w d x D E) (s : List UInt8) : Calls Try.prog 25 #[.pointer (some ⟨x, 0, none⟩), .string (str s)] w fun e w' => e = .returned (.int .i64 (place E.files s)) ∧ w = w' := by
  obtain ⟨F, G, h⟩ := h
  exact at_any s x G E w h.ref
/-- The document's disk's own cells. -/
theorem t_cells (h : Two B w d x D E) : w.cell? ⟨x, 3, none⟩ = some (.bool E.down) ∧ ∃ a c, w.cell? ⟨x, 1, none⟩ = some (.slice a E.files.length c) ∧ ∀ j f, E.files[j]? = some f → ∃ b off, a = some ⟨b, off, none⟩ ∧ w.cell? ⟨b, off + j * 3, none⟩ = some (.string (str f.name)) ∧ w.cell? ⟨b, off + j * 3 + 1, none⟩ = some (.string (str f.safe)) ∧ w.cell? ⟨b, off + j * 3 + 2, none⟩ = some (.string (str f.more)) := by
  obtain ⟨F, G, h⟩ := h
  obtain ⟨v, hrow, ⟨a, c, rfl, hc⟩, -⟩ := h.ref.cell
  exact ⟨(row_at hrow 3 _ rfl).1, a, c, (row_at hrow 1 _ rfl).1, hc⟩
theorem Two.fine (h : Two B w d x D E) : Fine D := by obtain ⟨F, G, h⟩ := h; exact h.prog.fine
theorem Two.okR (h : Two B w d x D E) : OkD E := by obtain ⟨F, G, h⟩ := h; exact h.ref.ok
theorem Two.base (h : Two B w d x D E) : B ≤ w.heap.size := by obtain ⟨F, G, h⟩ := h; exact h.base
end

set_option maxHeartbeats 16000000 in
theorem same_any (B : Nat) (w : World) (d x : Nat) (D : Dst) (s : List UInt8) (h : Two B w d x D D) (hs : s.length ≤ 140737488355328) :
    Calls Try.prog 11 #[.pointer (some ⟨d, 0, none⟩), .pointer (some ⟨x, 0, none⟩), .string (str s)] w fun e w' => e = .returned (.bool true) ∧ Below w.heap.size w w' := by
  have H := Lib.hid h
  have HF := Lib.hid h.fine
  have HS := Lib.hid (show s.length ≤ maxLen from by unfold maxLen; omega)
  obtain ⟨c3, xa, xc, c1, hc⟩ := t_cells h
  have HC := Lib.hid hc
  have HNL := Lib.hid (show (namesOf D.files).length ≤ 4611686018427387904 from by unfold namesOf; rw [List.length_map]; have := h.fine.ok.count; omega)
  obtain ⟨N, hN⟩ : ∃ N, D.files.length = N := ⟨_, rfl⟩
  have hNc : N ≤ 128 := by rw [← hN]; exact h.fine.ok.count
  have HT1 := Lib.hid (fun W (hb : Below w.heap.size w W) => t_list (h.below hb))
  have HT2 := Lib.hid (fun W (hb : Below w.heap.size w W) => t_names (h.below hb))
  rw [hN] at c1 HT1 HT2
  have HN := Lib.hid hN
  have hS0 : (w.drew.cell? ⟨x, 3, none⟩ = some (.bool D.down) ∧ Below w.heap.size w w.drew) := ⟨c3, (Below.refl _ _).drew⟩
  have hne : ((usedF D.files : Int) != (usedF D.files : Int)) = false := by simp
  obtain ⟨U, hU⟩ : ∃ U, usedF D.files = U := ⟨_, rfl⟩
  have HTU := Lib.hid (fun W (hb : Below w.heap.size w W) => t_used (h.below hb))
  have HTV := Lib.hid (fun W (hb : Below w.heap.size w W) => t_usedR (h.below hb))
  have HTD := Lib.hid (fun W (hb : Below w.heap.size w W) => t_down (h.below hb))
  rw [hU] at HTU HTV
  obtain ⟨dn, hdn⟩ : ∃ dn, D.down = dn := ⟨_, rfl⟩
  rw [hdn] at HTD hS0
  clear hc hN h hs hU hne c3 hdn
  go_enter Try.func11, Try.ntmps11
  go_upto_region 1 with fail
  go_region_held_law (fun W => (W.cell? ⟨x, 3, none⟩ = some (.bool dn) ∧ Below w.heap.size w W)) (first | exact hS0 | assumption) (first
    | (go_simp; go_at_call 13; refine (HT1.out _ hS0.2).mono ?_; rintro _ w1 ⟨a1, k1, rfl, hs1, hb1⟩; have HS1 := Lib.hid hs1; have hS1 : (w1.cell? ⟨x, 3, none⟩ = some (.bool dn) ∧ Below w.heap.size w w1) := ⟨kept_cell hb1 hS0.1, hS0.2.trans (hb1.mono hS0.2.size)⟩; clear hs1 hb1)
    | (go_simp; go_at_call 30; refine (HT2.out _ hS1.2).mono ?_; rintro _ w2 ⟨a2, k2, rfl, hs2, hb2⟩; have HS2 := Lib.hid hs2; have HS12 := Lib.hid (HS1.out.below hb2); have hS2 : (w2.cell? ⟨x, 3, none⟩ = some (.bool dn) ∧ Below w.heap.size w w2) := ⟨kept_cell hb2 hS1.1, hS1.2.trans (hb2.mono hS1.2.size)⟩; clear hs2 hb2)
    | (go_simp; go_at_call 29; refine (same_same _ _ _ _ HNL.out HS12.out HS2.out).mono ?_; rintro _ w3 ⟨rfl, hb3⟩; have hS3 : (w3.cell? ⟨x, 3, none⟩ = some (.bool dn) ∧ Below w.heap.size w w3) := ⟨kept_cell hb3 hS2.1, hS2.2.trans (hb3.mono hS2.2.size)⟩; clear hb3)
    | (go_simp; go_at_call 17; refine (HTU.out _ hS3.2).mono ?_; rintro _ w4 ⟨rfl, hb4⟩; have hS4 : (w4.cell? ⟨x, 3, none⟩ = some (.bool dn) ∧ Below w.heap.size w w4) := ⟨kept_cell hb4 hS3.1, hS3.2.trans (hb4.mono hS3.2.size)⟩; clear hb4)
    | (go_simp; go_at_call 31; refine (HTV.out _ hS4.2).mono ?_; rintro _ w5 ⟨rfl, hb5⟩; have hS5 : (w5.cell? ⟨x, 3, none⟩ = some (.bool dn) ∧ Below w.heap.size w w5) := ⟨kept_cell hb5 hS4.1, hS4.2.trans (hb5.mono hS4.2.size)⟩; clear hb5)
    | (go_simp; go_at_call 18; refine (HTD.out _ hS5.2).mono ?_; rintro _ w6 ⟨rfl, hb6⟩; have hS6 : (w6.cell? ⟨x, 3, none⟩ = some (.bool dn) ∧ Below w.heap.size w w6) := ⟨kept_cell hb6 hS5.1, hS5.2.trans (hb6.mono hS5.2.size)⟩; clear hb6))
  have HB6 := Lib.hid hS6.2
  clear hS0 hS1 hS2 hS3 hS4 hS5 hS6 HS1 HS2 HS12 HT1 HT2 HTU HTV HTD HNL
  go_wp2_with fail
  go_loopw [7] (fun i wr => ∃ K : Nat, i = .int .i64 (K : Int) ∧ K ≤ N ∧ Hid (Below w.heap.size w wr)) (fun i _ => N - (intOf i).toNat)
  case atStart => exact ⟨0, rfl, Nat.zero_le _, HB6⟩
  case round =>
    obtain ⟨K, rfl, hK, HB⟩ := hrel
    have hk0 : 0 ≤ (K : Int) := by omega
    have hw1 : IntKind.i64.wrap ((K : Int) + 1) = (K : Int) + 1 := IntWalk.i64_in _ (by omega)
    have c1' := kept_cell HB.out c1
    by_cases hlt : K < N
    · have hltI : (K : Int) < (N : Int) := by omega
      obtain ⟨y, hy⟩ : ∃ y, D.files[K]? = some y := ⟨_, List.getElem?_eq_getElem (by rw [HN.out]; exact hlt)⟩
      obtain ⟨fb, off, rfl, m0, m1, -⟩ := HC.out K y hy
      have hyf := List.mem_of_getElem? hy
      have hyl : y.name.length ≤ maxLen := by have := (HF.out.ok.each y hyf).1; unfold maxLen; omega
      have HR1 := Lib.hid (fun W (hb : Below w.heap.size w W) => t_read (H.out.below hb) y.name hyl)
      have HR2 := Lib.hid (fun W (hb : Below w.heap.size w W) => t_readR (H.out.below hb) y.name)
      have hsf : safeD D y.name = (y.safe.length : Int) := by unfold safeD; rw [rise_find HF.out.rise hyf]
      obtain ⟨rs, hrs⟩ : ∃ r, readD D y.name = r := ⟨_, rfl⟩
      rw [hrs] at HR1 HR2
      obtain ⟨r1, r2⟩ := rs
      dsimp only at HR1 HR2
      obtain ⟨Z, hZ⟩ : ∃ Z, y.safe.length = Z := ⟨_, rfl⟩
      have hzs : (str y.safe).size = Z := by rw [str_size, hZ]
      have hzz : ((Z : Int) != (Z : Int)) = false := by simp
      have HSF := Lib.hid (fun W (hb : Below w.heap.size w W) => by
        have := t_safe (H.out.below hb) y.name hyl
        rw [hsf, hZ] at this
        exact this)
      have n0 := kept_cell HB.out m0
      have t1 : (!(str r1).toList == (str r1).toList) = false := by simp
      have t2 : (r2 != r2) = false := by simp
      have HM := Lib.hid (show w.cell? ⟨fb, off + K * 3, none⟩ = some (.string (str y.name)) ∧ w.cell? ⟨fb, off + K * 3 + 1, none⟩ = some (.string (str y.safe)) from ⟨m0, m1⟩)
      have HC1 := Lib.hid c1
      clear hy hyf hyl hsf hrs hZ m0 m1
      go_upto_region 8 with (first
        | (go_at_call 14; refine (HR1.out _ HB.out).mono ?_; rintro _ w7 ⟨rfl, hb7⟩; have HB7 := Lib.hid (HB.out.trans (hb7.mono HB.out.size)); have n0' := kept_cell HB7.out HM.out.1; have c1'' := kept_cell HB7.out HC1.out; clear hb7)
        | (go_at_call 32; refine (HR2.out _ HB7.out).mono ?_; rintro _ w8 ⟨rfl, hb8⟩; have HB8 := Lib.hid (HB7.out.trans (hb8.mono HB7.out.size)); clear hb8))
      have QG1 := wdq_call (S := fun W => Below w.heap.size w W) (f := 16) (args := #[.pointer (some ⟨d, 0, none⟩), .string (str y.name)]) (v := .int .i64 (Z : Int)) (fun W hS => (HSF.out W hS).mono fun e w2 hh => ⟨hh.1, hS.trans (hh.2.mono hS.size)⟩)
      have hSq : Below w.heap.size w w8.drew := HB8.out.trans ((Below.refl _ _).drew.mono HB8.out.size)
      have q0 := fun z : WdQ (fun W => Below w.heap.size w W) => kept_cell z.ok HC1.out
      have q1 := fun z : WdQ (fun W => Below w.heap.size w W) => kept_cell z.ok HM.out.1
      have q2 := fun z : WdQ (fun W => Below w.heap.size w W) => kept_cell z.ok HM.out.2
      haveI hne : Nonempty (WdQ (fun W => Below w.heap.size w W)) := ⟨⟨_, hSq⟩⟩
      try dsimp only at q0 q1 q2
      refine region_quiet_q (S := fun W => Below w.heap.size w W) (by kernel_rfl) (by kernel_rfl) hSq ?_
      repeat (go_big_quiet_step (first | (with_reducible exact QG1 _)))
      refine wpQuiet_nil ?_
      intro _ hw'
      obtain ⟨z, rfl⟩ := hw'
      obtain ⟨X, hSX⟩ := z
      try dsimp only
      clear hne q0 q1 q2 hSq QG1
      have HBX := Lib.hid hSX
      clear hSX
      go_wp2_with fail
      go_roundw
      case rel => exact ⟨K + 1, by go_num, by omega, HBX⟩
      case measure => simp [intOf]; omega
    · have hltI : ¬ (K : Int) < (N : Int) := by omega
      have HR1 := Lib.hid (fun W (hb : Below w.heap.size w W) => t_read (H.out.below hb) s HS.out)
      have HR2 := Lib.hid (fun W (hb : Below w.heap.size w W) => t_readR (H.out.below hb) s)
      obtain ⟨rs, hrs⟩ : ∃ r, readD D s = r := ⟨_, rfl⟩
      rw [hrs] at HR1 HR2
      obtain ⟨r1, r2⟩ := rs
      dsimp only at HR1 HR2
      have HAT := Lib.hid (fun W (hb : Below w.heap.size w W) => t_atR (H.out.below hb) s)
      have HSF := Lib.hid (fun W (hb : Below w.heap.size w W) => t_safe (H.out.below hb) s HS.out)
      have t1 : ((str r1).toList == (str r1).toList) = true := by simp
      have t2 : (r2 == r2) = true := by simp
      clear hrs
      rcases place_find D.files s with ⟨hp, hf⟩ | ⟨j, f, hp, hj, hf, hn⟩
      · rw [hp] at HAT
        have hsf : safeD D s = 0 := by unfold safeD; rw [hf]
        rw [hsf] at HSF
        clear hp hf hsf
        go_wp2_with (first
          | (go_at_call 14; refine (HR1.out _ HB.out).mono ?_; rintro _ w7 ⟨rfl, hb7⟩; have HB7 := Lib.hid (HB.out.trans (hb7.mono HB.out.size)); clear hb7)
          | (go_at_call 32; refine (HR2.out _ HB7.out).mono ?_; rintro _ w8 ⟨rfl, hb8⟩; have HB8 := Lib.hid (HB7.out.trans (hb8.mono HB7.out.size)); clear hb8)
          | (go_at_call 25; refine (HAT.out _ HB8.out).mono ?_; rintro _ w9 ⟨rfl, rfl⟩)
          | (go_at_call 16; refine (HSF.out _ HB8.out).mono ?_; rintro _ wa ⟨rfl, hb9⟩; have HB9 := Lib.hid (HB8.out.trans (hb9.mono HB8.out.size)); clear hb9))
        go_ret
        exact ⟨by simp, HB9.out⟩
      · rw [hp] at HAT
        have hj0 : (0 : Int) ≤ (j : Int) := by omega
        clear hp hf hj hn
        go_wp2_with (first
          | (go_at_call 14; refine (HR1.out _ HB.out).mono ?_; rintro _ w7 ⟨rfl, hb7⟩; have HB7 := Lib.hid (HB.out.trans (hb7.mono HB.out.size)); clear hb7)
          | (go_at_call 32; refine (HR2.out _ HB7.out).mono ?_; rintro _ w8 ⟨rfl, hb8⟩; have HB8 := Lib.hid (HB7.out.trans (hb8.mono HB7.out.size)); clear hb8)
          | (go_at_call 25; refine (HAT.out _ HB8.out).mono ?_; rintro _ w9 ⟨rfl, rfl⟩))
        go_ret
        exact ⟨by simp, HB8.out⟩
end Go.Proofs.Ythdchidlfeighaa.C12
