/-
  Layer 12, the program: Append.
-/
import Derived.Test.YtelcemfaijjcbaaGreatDoorHP12Pl
namespace Go.Proofs.YtelcemfaijjcbaaGreatDoor.C12
open Go Go.RowKit Go.Proofs Go.Proofs.YtelcemfaijjcbaaGreatDoor.B Go.Proofs.YtelcemfaijjcbaaGreatDoor.K Go.Proofs.YtelcemfaijjcbaaGreatDoor.P8
set_option linter.unusedVariables false
set_option maxRecDepth 100000

theorem goes_put (D : Dst) (f : Fl) : goesD (putF D f) = (putF (goesD D).1 f, (goesD D).2) := by
  unfold goesD putF
  dsimp only
  split <;> rfl
theorem below3 (w : World) (a b c : Obj) : Below w.heap.size w (((w.alloc a).alloc b).alloc c) := (below_alloc w a).trans (((below_alloc _ b).trans ((below_alloc _ c).mono (below_alloc _ b).size)).mono (below_alloc w a).size)
theorem cells3 (w : World) (a b c : Value) (A B C : TypeId) : (((w.alloc (.cells #[a] A)).alloc (.cells #[b] B)).alloc (.cells #[c] C)).cell? ⟨w.heap.size, 0, none⟩ = some a ∧ (((w.alloc (.cells #[a] A)).alloc (.cells #[b] B)).alloc (.cells #[c] C)).cell? ⟨w.heap.size + 1, 0, none⟩ = some b ∧ (((w.alloc (.cells #[a] A)).alloc (.cells #[b] B)).alloc (.cells #[c] C)).cell? ⟨w.heap.size + 2, 0, none⟩ = some c := by
  refine ⟨?_, ?_, ?_⟩
  · exact kept_cell (below_alloc _ _) (kept_cell (below_alloc _ _) (alloc_cell w [a] A 0 _ rfl))
  · have := alloc_cell (w.alloc (.cells #[a] A)) [b] B 0 _ rfl
    exact kept_cell (below_alloc _ _) (by simp)
  · have := alloc_cell ((w.alloc (.cells #[a] A)).alloc (.cells #[b] B)) [c] C 0 _ rfl
    simpa using this

theorem pappend_nil (s t : List UInt8) (w : World) : Calls Tryz.prog 43 #[.pointer none, .string (str s), .string (str t)] w fun e w' => e = .returned (.int .i64 1) ∧ Below w.heap.size w w' := by
  have HU := Lib.hid (fun W => pup_nil W)
  go_enter Tryz.func43, Tryz.ntmps43
  go_wp2_with (go_at_call 30; refine (HU.out _).mono ?_; rintro _ w1 ⟨rfl, rfl⟩)
  go_ret
  exact ⟨rfl, below3 _ _ _ _⟩

section
variable {w : World} {F : Nat → Prop} {d : Nat} {D : Dst}
set_option maxHeartbeats 2000000 in
theorem pappend_any (h : PAt w F d D) (s t : List UInt8) (hs : s.length ≤ 140737488355328) (ht : t.length ≤ 140737488355328) : Calls Tryz.prog 43 #[.pointer (some ⟨d, 0, none⟩), .string (str s), .string (str t)] w (PWrote F d (appendD D s t) w) := by
  have HP := Lib.hid h
  have HB3 := Lib.hid (below3 w)
  obtain ⟨q0, q1, q2⟩ := cells3 w (.pointer (some ⟨d, 0, none⟩)) (.string (str s)) (.string (str t)) 30 9 9
  obtain ⟨M, n, Dm, g, bv, h⟩ := h
  obtain ⟨W3, hW3⟩ : ∃ W3, ((w.alloc (.cells #[.pointer (some ⟨d, 0, none⟩)] 30)).alloc (.cells #[.string (str s)] 9)).alloc (.cells #[.string (str t)] 9) = W3 := ⟨_, rfl⟩
  have HB := Lib.hid (show Below w.heap.size w W3 from by rw [← hW3]; exact HB3.out _ _ _)
  rw [hW3] at q0 q1 q2
  have HU := Lib.hid (pup_any (h.below HB.out))
  have HN := Lib.hid (fun W => pname_any s W hs)
  have HR := Lib.hid (fun W (hb : Below W3.heap.size W3 W) (hsl : s.length ≤ maxLen) => proom_any (h.below (HB.out.trans (hb.mono HB.out.size))) s t.length hsl)
  have HZ : (str t).size = t.length := str_size t
  have HK := Lib.hid (show ∀ W, Below W3.heap.size W3 W → W.cell? ⟨w.heap.size, 0, none⟩ = some (.pointer (some ⟨d, 0, none⟩)) ∧ W.cell? ⟨w.heap.size + 1, 0, none⟩ = some (.string (str s)) ∧ W.cell? ⟨w.heap.size + 2, 0, none⟩ = some (.string (str t)) from fun W hb => ⟨kept_cell hb q0, kept_cell hb q1, kept_cell hb q2⟩)
  unfold appendD
  cases hd : D.down with
  | true =>
    rw [hd, if_pos rfl] at HU
    rw [if_pos rfl]
    clear hd h HN HR
    go_enter Tryz.func43, Tryz.ntmps43
    go_wp2_with (go_at_call 30; (try rw [hW3]); refine HU.out.mono ?_; rintro _ w1 ⟨rfl, rfl⟩)
    go_ret
    exact PWrote.bad HP.out HB.out
  | false =>
    rw [hd, if_neg (by simp)] at HU
    rw [if_neg (by simp)]
    cases hnm : nameOk s with
    | false =>
      rw [hnm] at HN
      rw [if_pos rfl]
      clear hd h HR hnm
      go_enter Tryz.func43, Tryz.ntmps43
      go_wp2_with (first
        | (go_at_call 30; (try rw [hW3]); refine HU.out.mono ?_; rintro _ w1 ⟨rfl, rfl⟩)
        | (go_at_call 67; refine (HN.out _).mono ?_; rintro _ w1 ⟨rfl, hb1⟩; have HB1 := Lib.hid hb1; clear hb1))
      go_ret
      exact PWrote.bad HP.out (HB.out.trans (HB1.out.mono HB.out.size))
    | true =>
      rw [hnm] at HN
      rw [if_neg (by simp)]
      have hs24 : s.length ≤ 24 := by
        unfold nameOk at hnm
        simp only [Bool.and_eq_true, decide_eq_true_eq] at hnm
        exact hnm.2.2
      have HR2 := Lib.hid (fun W hb => HR.out W hb (by unfold maxLen; omega))
      clear HR
      by_cases hfull : fullC D s t.length
      · rw [roomB_false hfull] at HR2
        have hfull' := hfull
        unfold fullC at hfull'
        rw [if_pos hfull']
        clear hd h hnm hfull hfull'
        go_enter Tryz.func43, Tryz.ntmps43
        go_wp2_with (first
          | (go_at_call 30; (try rw [hW3]); refine HU.out.mono ?_; rintro _ w1 ⟨rfl, rfl⟩)
          | (go_at_call 67; refine (HN.out _).mono ?_; rintro _ w1 ⟨rfl, hb1⟩; have HB1 := Lib.hid hb1; obtain ⟨r0, r1, r2⟩ := HK.out _ hb1; clear hb1)
          | (go_at_call 68; refine (HR2.out _ HB1.out).mono ?_; rintro _ w2 ⟨rfl, hb2⟩; have HB2 := Lib.hid hb2; clear hb2))
        go_ret
        exact PWrote.bad HP.out (HB.out.trans ((HB1.out.trans (HB2.out.mono HB1.out.size)).mono HB.out.size))
      · rw [roomB_true hfull] at HR2
        have hfull' := hfull
        unfold fullC at hfull'
        rw [if_neg hfull']
        have hfi := h.fine.more hnm hfull'
        have htl : t.length ≤ 65536 := by omega
        obtain ⟨f', hf'⟩ : ∃ f', ({ ((findF D.files s).getD ⟨s, [], []⟩) with more := ((findF D.files s).getD ⟨s, [], []⟩).more ++ t } : Fl) = f' := ⟨_, rfl⟩
        rw [hf'] at hfi ⊢
        have hg := goes_put D f'
        have hfi2 : Fine (putF (goesD D).1 f') := by have := hfi.goes; rw [hg] at this; exact this
        rw [hg]
        have HW := Lib.hid (fun (W : World) (hb : Below W3.heap.size W3 W) => by
          have hbw := HB.out.trans (hb.mono HB.out.size)
          have key : ∀ w1, PIn w1 F d M n Dm g bv (goesD D).1 → Chg F F W w1 → Calls Tryz.prog 69 #[.pointer (some ⟨w.heap.size, 0, none⟩), .pointer (some ⟨w.heap.size + 1, 0, none⟩), .pointer (some ⟨w.heap.size + 2, 0, none⟩)] w1 (PDone F d (putF (goesD D).1 f') w1) := fun w1 hp1 hc1 => by
            obtain ⟨r0, r1, r2⟩ := HK.out W hb
            have n0 : ¬ F w.heap.size := fun e => by have := h.lt _ e; omega
            have n1 : ¬ F (w.heap.size + 1) := fun e => by have := h.lt _ e; omega
            have n2 : ¬ F (w.heap.size + 2) := fun e => by have := h.lt _ e; omega
            have s0 := box_keep hc1 n0 r0
            have s1 := box_keep hc1 n1 r1
            have s2 := box_keep hc1 n2 r2
            cases hf : findF D.files s with
            | none =>
              rw [hf] at hf'
              simp only [Option.getD_none, List.nil_append] at hf'
              rw [← hf'] at hfi2 ⊢
              have hz : Fine (putF D ⟨s, [], []⟩) := by
                have := h.fine.more (t := []) hnm (by
                  rw [hf] at hfull' ⊢
                  have hu := h.fine.used
                  simp only [Option.getD_none, List.length_nil, true_and] at hfull' ⊢
                  omega)
                rw [hf] at this
                exact this
              have hz2 : Fine (putF (goesD D).1 ⟨s, [], []⟩) := by have := hz.goes; rw [goes_put] at this; exact this
              exact pappend_new hp1 _ _ _ s t (by rw [goes_files]; exact hf) hs24 htl hz2 hfi2 s0 s1 s2 ⟨n0, n1, n2⟩
            | some f =>
              obtain ⟨hm, hn⟩ := find_facts hf
              rw [hf] at hf'
              simp only [Option.getD_some] at hf'
              rw [← hf'] at hfi2 ⊢
              exact pappend_old hp1 _ _ _ f t (by rw [goes_files]; exact hm) (by rw [hn]; unfold maxLen; omega) htl hfi2 s0 (by rw [hn]; exact s1) s2 n2
          exact pwrite_any (h.below hbw) hd 69 69 #[.pointer (some ⟨w.heap.size, 0, none⟩), .pointer (some ⟨w.heap.size + 1, 0, none⟩), .pointer (some ⟨w.heap.size + 2, 0, none⟩)] #[.pointer (some ⟨w.heap.size, 0, none⟩), .pointer (some ⟨w.heap.size + 1, 0, none⟩), .pointer (some ⟨w.heap.size + 2, 0, none⟩)] (enters_of Tryz.func69 (by kernel_rfl) rfl) (enters_of Tryz.func69 (by kernel_rfl) rfl) (putF (goesD D).1 f') (putF (goesD D).1 f') (fun _ => key) (fun _ => key))
        obtain ⟨R, hR⟩ : ∃ R : Dst × Int, (if (goesD D).2 then (putF (goesD D).1 f', 11) else (putF (goesD D).1 f', 0)) = R := ⟨_, rfl⟩
        have hR2 : (putF (goesD D).1 f', if (goesD D).2 then (11 : Int) else 0) = R := by rw [← hR]; split <;> rfl
        rw [hR] at HW
        dsimp only
        rw [hR2]
        clear hd h hnm hfull hfull' hfi hfi2 hg hf' hR hR2
        go_enter Tryz.func43, Tryz.ntmps43
        go_wp2_with (first
          | (go_at_call 30; (try rw [hW3]); refine HU.out.mono ?_; rintro _ w1 ⟨rfl, rfl⟩)
          | (go_at_call 67; refine (HN.out _).mono ?_; rintro _ w1 ⟨rfl, hb1⟩; have HB1 := Lib.hid hb1; obtain ⟨r0, r1, r2⟩ := HK.out _ hb1; clear hb1)
          | (go_at_call 68; refine (HR2.out _ HB1.out).mono ?_; rintro _ w2 ⟨rfl, hb2⟩; have HB2 := Lib.hid (HB1.out.trans (hb2.mono HB1.out.size)); obtain ⟨r3, r4, r5⟩ := HK.out _ HB2.out; clear hb2)
          | (go_at_call 60; refine (HW.out _ HB2.out).mono ?_; rintro _ w3 ⟨rfl, hp⟩; have HD := Lib.hid hp; clear hp))
        go_ret
        exact PWrote.good (HB.out.trans (HB2.out.mono HB.out.size)) ⟨rfl, HD.out⟩
end
end Go.Proofs.YtelcemfaijjcbaaGreatDoor.C12
