/-
  Layer 7, the document's answer: Apply, Fold.
-/
import Derived.Test.YtgkniocjlkfhmaaDoorSVl
namespace Go.Proofs.YtgkniocjlkfhmaaDoor.D
open Go Go.RowKit Go.Proofs.YtgkniocjlkfhmaaDoor.B Go.Proofs.YtgkniocjlkfhmaaDoor.K Go.Proofs.YtgkniocjlkfhmaaDoor.E Go.Proofs.YtgkniocjlkfhmaaDoor.R
set_option linter.unusedVariables false
set_option maxRecDepth 100000

set_option maxHeartbeats 4000000 in
theorem refApply_any (p r : Int) (a0 : Option Addr) (n0 k0 : Nat) (ep : Int) (av : Option Addr) (n kv : Nat) (w : World) (hr : I64 r) :
    Calls Tryd.prog 9 #[.agg #[.int .i64 p, .int .i64 r, .slice a0 n0 k0], .agg #[.int .i64 ep, .slice av n kv]] w fun z w' => z = .returned (.agg #[.int .i64 ep, .int .i64 (next r), .slice av n kv]) ∧ Below w.heap.size w w' := by
  obtain ⟨nr, hnr⟩ : ∃ nr, next r = nr := ⟨_, rfl⟩
  rw [hnr]
  have HNR := Lib.hid hnr
  obtain ⟨W0, hW0⟩ : ∃ W0, w.alloc (.cells #[.int .i64 p, .int .i64 r, .slice a0 n0 k0] 24) = W0 := ⟨_, rfl⟩
  obtain ⟨g1, hg1⟩ : ∃ g, W0.heap.size = g := ⟨_, rfl⟩
  obtain ⟨W1, hW1⟩ : ∃ W1, W0.alloc (.cells #[.int .i64 ep, .slice av n kv] 31) = W1 := ⟨_, rfl⟩
  obtain ⟨g2, hg2⟩ : ∃ g, W1.heap.size = g := ⟨_, rfl⟩
  obtain ⟨W2, hW2⟩ : ∃ W2, W1.alloc (.cells #[.int .i64 0, .int .i64 0, .slice none 0 0] 24) = W2 := ⟨_, rfl⟩
  have hap := Ap.new w p r (.slice a0 n0 k0) ep (.slice av n kv) _ _ _ rfl rfl rfl
  rw [hW0, hg1, hW1, hg2, hW2] at hap
  have HA := Lib.hid hap
  obtain ⟨-, ⟨k1, f1⟩, -⟩ := hap.st.cells
  obtain ⟨e0, e1⟩ := hap.ev.cells'
  obtain ⟨⟨r0, q0⟩, ⟨r1, q1⟩, ⟨r2, q2⟩⟩ := hap.res.cells
  have HRR := Lib.hid hr
  clear hap hr hnr
  go_enter Tryd.func9, Tryd.ntmps9
  by_cases x : r < 1099511627776
  · have b : decide (r < 1099511627776) = true := decide_eq_true x
    have hnx : nr = r + 1 := by rw [← HNR.out]; unfold next; rw [if_pos x]
    have hw1 : IntKind.i64.wrap (r + 1) = r + 1 := IntWalk.i64_in _ (by have h1 := HRR.out; unfold I64 at h1; omega)
    have HNX := Lib.hid hnx
    clear hnx
    go_wp2_with fail
    rw [HNX.out]
    have hlo := HA.out.lo
    exact s3_end _ _ _ rfl rfl rfl (HA.out.res.set _ _ _) ⟨rfl, below_set3 HA.out.bel (by omega) _ _ _⟩
  · have b : decide (r < 1099511627776) = false := decide_eq_false x
    have hnx : nr = r := by rw [← HNR.out]; unfold next; rw [if_neg x]
    have HNX := Lib.hid hnx
    clear hnx
    go_wp2_with fail
    rw [HNX.out]
    have hlo := HA.out.lo
    exact s3_end _ _ _ rfl rfl rfl (HA.out.res.set _ _ _) ⟨rfl, below_set3 HA.out.bel (by omega) _ _ _⟩

/-- The state's box, the result's cells; the variables in a slice that was there. -/
structure Rf (w : World) (g g2 : Nat) (a : Option Addr) (n k : Nat) (s : Stt) (wx : World) : Prop where
  bel : Below w.heap.size w wx
  st : S3 wx g (.int .i64 s.pos) (.int .i64 s.ver) (.slice a n k)
  res : S3 wx g2 (.int .i64 0) (.int .i64 0) (.slice none 0 0)
  vars : SlN w (.slice a n k) s.vars
  ver : I64 s.ver
  lo : w.heap.size ≤ g ∧ g < g2

section
variable {w wx wy : World} {g g2 n k : Nat} {a : Option Addr} {s : Stt}
theorem Rf.below (h : Rf w g g2 a n k s wx) (hb : Below wx.heap.size wx wy) : Rf w g g2 a n k s wy :=
  ⟨h.bel.trans (hb.mono h.bel.size), h.st.below hb, h.res.below hb, h.vars, h.ver, h.lo⟩
theorem Rf.set (h : Rf w g g2 a n k s wx) {a' : Option Addr} {n' k' : Nat} {s' : Stt} (hn : SlN w (.slice a' n' k') s'.vars) (hv : I64 s'.ver) :
    Rf w g g2 a' n' k' s' (((wx.setCell ⟨g, 0, none⟩ (.int .i64 s'.pos)).setCell ⟨g, 1, none⟩ (.int .i64 s'.ver)).setCell ⟨g, 2, none⟩ (.slice a' n' k')) := by
  obtain ⟨l0, l1⟩ := h.lo
  refine ⟨below_set3 h.bel l0 _ _ _, h.st.set _ _ _, ?_, hn, hv, l0, l1⟩
  unfold S3; rw [heap_set3 (by omega)]; exact h.res
end

set_option maxHeartbeats 4000000 in
theorem refFold_any (s : Stt) (l : List Ev) (v u : Value) (w : World) (hr : I64 s.ver) (hs : SlN w v s.vars) (hu : EvsIs w u l) (hl : l.length ≤ 9223372036854775807) :
    Calls Tryd.prog 7 #[.agg #[.int .i64 s.pos, .int .i64 s.ver, v], u] w (StOut (fold7 s l) w) := by
  obtain ⟨a, cap, rfl, hu⟩ := hu.open
  have HU := Lib.hid hu
  have HL := Lib.hid hl
  obtain ⟨N, hN⟩ : ∃ N, l.length = N := ⟨_, rfl⟩
  rw [hN] at HU HL ⊢
  have HN := Lib.hid hN
  have hs0 := hs
  obtain ⟨av, kv, rfl⟩ := sl_len hs
  obtain ⟨nv, hnv⟩ : ∃ n, (s.vars.map fun n => Value.int .i64 n).length = n := ⟨_, rfl⟩
  rw [hnv] at hs0 ⊢
  have hrf : Rf w w.heap.size (w.alloc (.cells #[.int .i64 s.pos, .int .i64 s.ver, .slice av nv kv] 24)).heap.size av nv kv s ((w.alloc (.cells #[.int .i64 s.pos, .int .i64 s.ver, .slice av nv kv] 24)).alloc (.cells #[.int .i64 0, .int .i64 0, .slice none 0 0] 24)) :=
    ⟨(below_alloc _ _).trans ((below_alloc _ _).mono (below_alloc w _).size), (S3.new w _ _ _).below (below_alloc _ _), S3.new _ _ _ _, hs0, hr, Nat.le_refl _, heap_alloc_lt _ _⟩
  obtain ⟨W0, hW0⟩ : ∃ W0, w.alloc (.cells #[.int .i64 s.pos, .int .i64 s.ver, .slice av nv kv] 24) = W0 := ⟨_, rfl⟩
  obtain ⟨g2, hg2⟩ : ∃ g, W0.heap.size = g := ⟨_, rfl⟩
  obtain ⟨W1, hW1⟩ : ∃ W1, W0.alloc (.cells #[.int .i64 0, .int .i64 0, .slice none 0 0] 24) = W1 := ⟨_, rfl⟩
  rw [hW0, hg2, hW1] at hrf
  have HF0 := Lib.hid hrf
  obtain ⟨p, hp⟩ : ∃ N, s.pos = N := ⟨_, rfl⟩
  obtain ⟨r, hre⟩ : ∃ N, s.ver = N := ⟨_, rfl⟩
  rw [hp, hre] at hW0
  rw [hp, hre]
  clear hu hl hN hr hs hs0 hnv hrf hp hre
  go_enter Tryd.func7, Tryd.ntmps7
  go_wp2_with fail
  clear hW0 hW1 hg2
  go_loopw [5] (fun i wr => ∃ (K : Nat) (s' : Stt) (a' : Option Addr) (n' k' : Nat), i = .int .i64 (K : Int) ∧ K ≤ N ∧ Hid (Rf w w.heap.size g2 a' n' k' s' wr) ∧ Hid (fold7 s' (l.drop K) = fold7 s l)) (fun i _ => N - (intOf i).toNat)
  case atStart => exact ⟨0, s, av, nv, kv, rfl, Nat.zero_le _, HF0, Lib.hid rfl⟩
  case round =>
    obtain ⟨K, s', a', n', k', rfl, hK, HF, HI⟩ := hrel
    by_cases hlt : K < N
    · have hltI : (K : Int) < (N : Int) := by omega
      obtain ⟨e, he⟩ : ∃ e, l[K]? = some e := ⟨_, List.getElem?_eq_getElem (by rw [HN.out]; exact hlt)⟩
      obtain ⟨b, off, ea, cs, -, ⟨ev, rfl, hev⟩, hc⟩ := HU.out.at he
      subst ea
      have hev0 := hev
      obtain ⟨ae, ke, rfl⟩ := sl_len hev
      obtain ⟨m, hm⟩ : ∃ m, (e.vars.map fun n => Value.int .i64 n).length = m := ⟨_, rfl⟩
      rw [hm] at hc hev0
      have k0 : wr.cell? ⟨b, off + K * 2, none⟩ = some (.int .i64 e.pos) := (HF.out.bel.cell (p := ⟨b, off + K * 2, none⟩) (World.block_lt_of_cell? w _ (hc 0 _ rfl))).trans (hc 0 _ rfl)
      have k1 : wr.cell? ⟨b, off + K * 2 + 1, none⟩ = some (.slice ae m ke) := (HF.out.bel.cell (p := ⟨b, off + K * 2 + 1, none⟩) (World.block_lt_of_cell? w _ (hc 1 _ rfl))).trans (hc 1 _ rfl)
      have hfs : fold7 s' (l.drop K) = fold7 (apply7 s' e) (l.drop (K + 1)) := by
        obtain ⟨hk, e'⟩ := List.getElem?_eq_some_iff.1 he
        rw [List.drop_eq_getElem_cons hk, e']; rfl
      have HFS := Lib.hid hfs
      obtain ⟨⟨s0, f0⟩, ⟨s1, f1⟩, ⟨s2, f2⟩⟩ := HF.out.st.cells
      have HAP := Lib.hid (fun (W : World) => refApply_any s'.pos s'.ver a' n' k' e.pos ae m ke W HF.out.ver)
      obtain ⟨ep, hep⟩ : ∃ ep, e.pos = ep := ⟨_, rfl⟩
      obtain ⟨nx, hnx⟩ : ∃ nv, next s'.ver = nv := ⟨_, rfl⟩
      obtain ⟨sp, hsp⟩ : ∃ sp, s'.pos = sp := ⟨_, rfl⟩
      obtain ⟨sr, hsr⟩ : ∃ sv', s'.ver = sv' := ⟨_, rfl⟩
      rw [hep, hnx, hsp, hsr] at HAP
      rw [hep] at k0
      rw [hsp] at s0
      rw [hsr] at s1
      have HEQ := Lib.hid (And.intro hep hnx)
      have HEV := Lib.hid hev0
      have hwK := wrap_next K (Nat.lt_of_lt_of_le hlt HL.out)
      clear he hev hev0 hc hfs hep hnx hsp hsr hm
      go_wp2_with fail
      go_region_with (go_at_call 9; refine (HAP.out _).mono ?_; rintro _ w2 ⟨rfl, hb2'⟩; have hb2 : Below wr.heap.size wr w2 := (below_drewN (Below.refl wr.heap.size wr) _).trans hb2'; clear hb2'; have HF2 := Lib.hid (HF.out.below hb2); have s02 := kept_cell hb2 s0; have s12 := kept_cell hb2 s1; have s22 := kept_cell hb2 s2; have f02 := (HF2.out.st.cells).1.2; have f12 := (HF2.out.st.cells).2.1.2; have f22 := (HF2.out.st.cells).2.2.2; clear hb2)
      all_goals
        have hset := HF2.out.set (s' := apply7 s' e) (a' := ae) (n' := m) (k' := ke) HEV.out (by
          show I64 (next s'.ver)
          have := HF2.out.ver
          unfold I64 next at *
          split <;> omega)
        rw [show (apply7 s' e).pos = ep from HEQ.out.1, show (apply7 s' e).ver = nx from HEQ.out.2] at hset
        have HSET := Lib.hid hset
        have HJ := Lib.hid (show fold7 (apply7 s' e) (l.drop (K + 1)) = fold7 s l by rw [← HI.out, HFS.out])
        clear hset
        go_wp2_with fail
        go_roundw
        case rel => exact ⟨K + 1, apply7 s' e, ae, m, ke, by go_num, by omega, HSET, HJ⟩
        case measure => simp [intOf]; omega
    · have hltI : ¬ (K : Int) < (N : Int) := by omega
      have hfin : s' = fold7 s l := by rw [← HI.out, List.drop_of_length_le (by have := HN.out; omega)]; rfl
      have HFIN := Lib.hid hfin
      obtain ⟨⟨s0, -⟩, ⟨s1, -⟩, ⟨s2, -⟩⟩ := HF.out.st.cells
      obtain ⟨⟨r0, f0⟩, ⟨r1, f1⟩, ⟨r2, f2⟩⟩ := HF.out.res.cells
      clear hfin
      go_wp2_with fail
      have hlo := HF.out.lo
      have hbe := below_set3 (g := g2) HF.out.bel (by omega) (.int .i64 s'.pos) (.int .i64 s'.ver) (.slice a' n' k')
      exact s3_end _ _ _ rfl rfl rfl (HF.out.res.set _ _ _) ⟨_, by rw [← HFIN.out], by rw [← HFIN.out]; exact Sl.below HF.out.vars hbe, hbe⟩
end Go.Proofs.YtgkniocjlkfhmaaDoor.D
