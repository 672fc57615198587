/-
  Layer 12, the program: Sync, Truncate, Remove.
-/
import Derived.Test.YtelcemfaijjcbaaGreatDoorHP12Ph
namespace Go.Proofs.YtelcemfaijjcbaaGreatDoor.C12
open Go Go.RowKit Go.Proofs Go.Proofs.YtelcemfaijjcbaaGreatDoor.B Go.Proofs.YtelcemfaijjcbaaGreatDoor.K Go.Proofs.YtelcemfaijjcbaaGreatDoor.P8
set_option linter.unusedVariables false
set_option maxRecDepth 100000

theorem PWrote.bad {F : Nat → Prop} {d : Nat} {D : Dst} {w w' : World} {c : Int} (h : PAt w F d D) (hb : Below w.heap.size w w') : PWrote F d (D, c) w (.returned (.int .i64 c)) w' :=
  ⟨rfl, F, h.below hb, Chg.of_below hb⟩
theorem PWrote.good {F : Nat → Prop} {d : Nat} {r : Dst × Int} {w W w' : World} {e : Ending} (hb : Below w.heap.size w W) (h : PWrote F d r W e w') : PWrote F d r w e w' := by
  obtain ⟨he, F', hp, hc⟩ := h
  exact ⟨he, F', hp, (Chg.of_below hb).trans hc⟩
theorem below_one (w : World) (o : Obj) (u : Value) : Below w.heap.size w ((w.alloc o).setCell ⟨w.heap.size, 0, none⟩ u) := (below_alloc w o).setCell (p := ⟨w.heap.size, 0, none⟩) (Nat.le_refl _) u
theorem psync_nil (s : List UInt8) (w : World) : Calls Tryz.prog 45 #[.pointer none, .string (str s)] w fun e w' => e = .returned (.int .i64 1) ∧ Below w.heap.size w w' := by
  have HU := Lib.hid (pfind_nil s w)
  go_enter Tryz.func45, Tryz.ntmps45
  go_wp2_with (go_at_call 59; refine HU.out.mono ?_; rintro _ w1 ⟨rfl, rfl⟩)
  go_ret
  exact ⟨rfl, below_alloc _ _⟩

section
variable {w : World} {F : Nat → Prop} {d : Nat} {D : Dst}
set_option maxHeartbeats 1000000 in
theorem psync_any (h : PAt w F d D) (s : List UInt8) (hs : s.length ≤ maxLen) : Calls Tryz.prog 45 #[.pointer (some ⟨d, 0, none⟩), .string (str s)] w (PWrote F d (syncD D s) w) := by
  have HP := Lib.hid h
  obtain ⟨M, n, Dm, g, bv, h⟩ := h
  have HF := Lib.hid (pfind_any h s hs)
  unfold findR at HF
  unfold syncD someD
  cases hd : D.down with
  | true =>
    rw [hd, if_pos rfl] at HF
    rw [if_pos rfl]
    clear hd h
    go_enter Tryz.func45, Tryz.ntmps45
    go_wp2_with (go_at_call 59; refine HF.out.mono ?_; rintro _ w1 ⟨rfl, rfl⟩)
    go_ret
    exact PWrote.bad HP.out (below_alloc _ _)
  | false =>
    rw [hd, if_neg (by simp)] at HF
    rw [if_neg (by simp)]
    cases hf : findF D.files s with
    | none =>
      rw [hf] at HF
      clear hf h hd
      go_enter Tryz.func45, Tryz.ntmps45
      go_wp2_with (go_at_call 59; refine HF.out.mono ?_; rintro _ w1 ⟨rfl, rfl⟩)
      go_ret
      exact PWrote.bad HP.out (below_alloc _ _)
    | some f =>
      rw [hf] at HF
      obtain ⟨hm, hn⟩ := find_facts hf
      have HW := Lib.hid (fun (W : World) (hb : Below w.heap.size w W) (hc : W.cell? ⟨w.heap.size, 0, none⟩ = some (.pointer (some ⟨g s, 0, none⟩))) =>
        pwrite_go (h.below hb) hd 70 #[.pointer (some ⟨w.heap.size, 0, none⟩)] (enters_of Tryz.func70 (by kernel_rfl) rfl) (fun E => putF E ⟨s, f.safe ++ f.more, []⟩) (fun hz w1 hp1 hc1 => by
          have hcx := box_keep hc1 (fun e => by have := h.lt _ e; omega) hc
          have hm1 : f ∈ (goesD D).1.files := by rw [goes_files]; exact hm
          have fat := hp1.each f hm1
          rw [hn] at fat
          refine (psync1 w.heap.size (g s) (bv s) f w1 hcx fat (h.fine.ok.each f hm).2).mono fun e w' ⟨he, h1, h2⟩ => ⟨he, ?_⟩
          rw [hn] at h1
          refine file_end hp1 (f' := ⟨s, f.safe ++ f.more, []⟩) hm1 hn.symm (hp1.fine.put hm1 hn (by unfold szF; simp)) (v' := bv f.name) ?_ (fun q hq => Or.inl hq) ⟨h2.os, h2.tape, h2.output, h2.size, fun i hi hne => h2.block i hi (fun e => hne (Or.inl (by rw [hn]; exact e)))⟩
          rw [hn]; exact h1))
      clear hf h hd hm hn
      go_enter Tryz.func45, Tryz.ntmps45
      go_wp2_with (first
        | (go_at_call 59; refine HF.out.mono ?_; rintro _ w1 ⟨rfl, rfl⟩)
        | (go_at_call 60; refine (HW.out _ (by first | exact below_alloc _ _ | exact below_one _ _ _) (by first | exact alloc_cell _ [_] _ 0 _ rfl)).mono ?_; rintro _ w2 ⟨rfl, hp⟩; have HD := Lib.hid hp; clear hp))
      go_ret
      exact PWrote.good (below_alloc _ _) ⟨rfl, HD.out⟩

/-- A cut, through the two captured cells. -/
theorem ptrunc1 (c1 c2 b : Nat) (v : Value) (f : Fl) (k : Nat) (w : World) (hc1 : w.cell? ⟨c1, 0, none⟩ = some (.pointer (some ⟨b, 0, none⟩))) (hc2 : w.cell? ⟨c2, 0, none⟩ = some (.int .i64 (k : Int))) (hat : FAt w b v f) (hl : f.safe.length + f.more.length ≤ 65536) (hk : k ≤ (f.safe ++ f.more).length) :
    Calls Tryz.prog 101 #[.pointer (some ⟨c1, 0, none⟩), .pointer (some ⟨c2, 0, none⟩)] w fun e w' => e = .returned (.tuple #[]) ∧ ∃ v', FAt w' b v' (cutF f k) ∧ (∀ q, bufB v' = some q → w.heap.size ≤ q ∧ q < w'.heap.size) ∧ Tn (fun i => i = b) w w' := by
  have HC := Lib.hid (pcut_any b v f k w hat hl hk)
  clear hat hl hk
  go_enter Tryz.func101, Tryz.ntmps101
  go_wp2_with (go_at_call 32; refine HC.out.mono ?_; rintro _ w1 ⟨v1, rfl, h1, h2, h3⟩; have H1 := Lib.hid h1; have H2 := Lib.hid h2; have H3 := Lib.hid h3; clear h1 h2 h3)
  go_end0
  exact ⟨rfl, v1, H1.out, H2.out, H3.out⟩
theorem trunc_eq (E : Dst) (f : Fl) (s : List UInt8) (hn : f.name = s) (m : Int) (h0 : 0 ≤ m) : (if m ≤ (f.safe.length : Int) then putF E ⟨s, f.safe.take m.toNat, []⟩ else putF E ⟨s, f.safe, f.more.take (m.toNat - f.safe.length)⟩) = putF E (cutF f m.toNat) := by
  unfold cutF
  rw [hn]
  by_cases h : m ≤ (f.safe.length : Int)
  · rw [if_pos h, if_pos (by omega)]
  · rw [if_neg h, if_neg (by omega)]
theorem cutF_size (f : Fl) (k : Nat) : szF (cutF f k) ≤ szF f := by
  have := congrArg List.length (cutF_all f k)
  rw [List.length_append, List.length_take, List.length_append] at this
  unfold szF
  omega

theorem ptrunc_nil (s : List UInt8) (m : Int) (w : World) : Calls Tryz.prog 83 #[.pointer none, .string (str s), .int .i64 m] w fun e w' => e = .returned (.int .i64 1) ∧ Below w.heap.size w w' := by
  have HU := Lib.hid (fun W => pfind_nil s W)
  go_enter Tryz.func83, Tryz.ntmps83
  go_wp2_with (go_at_call 59; refine (HU.out _).mono ?_; rintro _ w1 ⟨rfl, rfl⟩)
  go_ret
  exact ⟨rfl, (below_alloc _ _).trans ((below_alloc _ _).mono (below_alloc _ _).size)⟩
set_option maxHeartbeats 2000000 in
theorem ptrunc_any (h : PAt w F d D) (s : List UInt8) (m : Int) (hs : s.length ≤ maxLen) : Calls Tryz.prog 83 #[.pointer (some ⟨d, 0, none⟩), .string (str s), .int .i64 m] w (PWrote F d (truncD D s m) w) := by
  have HP := Lib.hid h
  have HB2 := Lib.hid (fun (o o' : Obj) => (below_alloc w o).trans ((below_alloc (w.alloc o) o').mono (below_alloc w o).size))
  obtain ⟨M, n, Dm, g, bv, h⟩ := h
  have HF := Lib.hid (fun W (hb : Below w.heap.size w W) => pfind_any (h.below hb) s hs)
  unfold findR at HF
  unfold truncD someD
  cases hd : D.down with
  | true =>
    rw [hd] at HF
    simp only [if_true] at HF
    rw [if_pos rfl]
    clear hd h
    go_enter Tryz.func83, Tryz.ntmps83
    go_wp2_with (go_at_call 59; refine (HF.out _ (below_alloc _ _)).mono ?_; rintro _ w1 ⟨rfl, rfl⟩)
    go_ret
    exact PWrote.bad HP.out (HB2.out _ _)
  | false =>
    rw [hd] at HF
    simp only [Bool.false_eq_true, if_false] at HF
    rw [if_neg (by simp)]
    cases hf : findF D.files s with
    | none =>
      rw [hf] at HF
      dsimp only at HF
      clear hf h hd
      go_enter Tryz.func83, Tryz.ntmps83
      go_wp2_with (go_at_call 59; refine (HF.out _ (below_alloc _ _)).mono ?_; rintro _ w1 ⟨rfl, rfl⟩)
      go_ret
      exact PWrote.bad HP.out (HB2.out _ _)
    | some f =>
      rw [hf] at HF
      dsimp only at HF ⊢
      obtain ⟨hm, hn⟩ := find_facts hf
      have fat0 := h.each f hm
      rw [hn] at fat0
      obtain ⟨av, cap, hbv, _, _⟩ := fat0.buf.at_
      have k0 := (row_at fat0.cell 0 _ rfl).1
      rw [hbv] at k0
      obtain ⟨L, hL⟩ : ∃ L, (f.safe ++ f.more).length = L := ⟨_, rfl⟩
      rw [hL] at k0
      have hLI : (f.safe.length : Int) + (f.more.length : Int) = (L : Int) := by rw [← hL, List.length_append]; omega
      rw [hLI]
      by_cases hbad : m < 0 ∨ (L : Int) < m
      · rw [if_pos hbad]
        clear h hd hf hm hn fat0 hbv hL hLI
        rcases Classical.em (m < 0) with hm0 | hm0
        · clear hbad
          go_enter Tryz.func83, Tryz.ntmps83
          go_wp2_with (go_at_call 59; refine (HF.out _ (below_alloc _ _)).mono ?_; rintro _ w1 ⟨rfl, rfl⟩)
          go_quiet (fail)
          go_wp2_with fail
          go_ret
          exact PWrote.bad HP.out ((HB2.out _ _).trans ((drewN_below _ _).mono (HB2.out _ _).size))
        · have hm1 : (L : Int) < m := hbad.resolve_left hm0
          clear hbad
          have k0' := kept_cell (HB2.out (.cells #[.int .i64 m] 3) (.cells #[.pointer (some ⟨g s, 0, none⟩)] 65)) k0
          go_enter Tryz.func83, Tryz.ntmps83
          go_wp2_with (go_at_call 59; refine (HF.out _ (below_alloc _ _)).mono ?_; rintro _ w1 ⟨rfl, rfl⟩)
          go_quiet (fail)
          go_wp2_with fail
          go_ret
          exact PWrote.bad HP.out ((HB2.out _ _).trans ((drewN_below _ _).mono (HB2.out _ _).size))
      · rw [if_neg hbad]
        have hm0 : ¬ m < 0 := fun e => hbad (Or.inl e)
        have hm1 : ¬ (L : Int) < m := fun e => hbad (Or.inr e)
        have hk : m.toNat ≤ (f.safe ++ f.more).length := by rw [hL]; omega
        have hmk : ((m.toNat : Nat) : Int) = m := by omega
        obtain ⟨R, hR⟩ : ∃ R, goD D (fun E => if m ≤ (f.safe.length : Int) then putF E ⟨s, f.safe.take m.toNat, []⟩ else putF E ⟨s, f.safe, f.more.take (m.toNat - f.safe.length)⟩) = R := ⟨_, rfl⟩
        rw [hR]
        have HW := Lib.hid (fun (W : World) (hb : Below w.heap.size w W) (hc1 : W.cell? ⟨w.heap.size + 1, 0, none⟩ = some (.pointer (some ⟨g s, 0, none⟩))) (hc2 : W.cell? ⟨w.heap.size, 0, none⟩ = some (.int .i64 m)) => hR ▸
          pwrite_go (h.below hb) hd 101 #[.pointer (some ⟨w.heap.size + 1, 0, none⟩), .pointer (some ⟨w.heap.size, 0, none⟩)] (enters_of Tryz.func101 (by kernel_rfl) rfl) (fun E => if m ≤ (f.safe.length : Int) then putF E ⟨s, f.safe.take m.toNat, []⟩ else putF E ⟨s, f.safe, f.more.take (m.toNat - f.safe.length)⟩) (fun hz w1 hp1 hc1' => by
            have hcx := box_keep hc1' (fun e => by have := h.lt _ e; omega) hc1
            have hcy := box_keep hc1' (fun e => by have := h.lt _ e; omega) hc2
            have hm2 : f ∈ (goesD D).1.files := by rw [goes_files]; exact hm
            have fat := hp1.each f hm2
            rw [hn] at fat
            rw [trunc_eq _ f s hn m (by omega)]
            refine (ptrunc1 (w.heap.size + 1) w.heap.size (g s) (bv s) f m.toNat w1 hcx (by rw [hmk]; exact hcy) fat (h.fine.ok.each f hm).2 hk).mono fun e w' ⟨he, v', h1, h2, h3⟩ => ⟨he, ?_⟩
            refine file_end hp1 hm2 (cutF_name f m.toNat) (hp1.fine.put hm2 (cutF_name f m.toNat).symm (cutF_size f m.toNat)) (v' := v') ?_ (fun q hq => Or.inr (h2 q hq)) ⟨h3.os, h3.tape, h3.output, h3.size, fun i hi hne => h3.block i hi (fun e => hne (Or.inl (by rw [hn]; exact e)))⟩
            rw [hn]; exact h1))
        have k0' := kept_cell (HB2.out (.cells #[.int .i64 m] 3) (.cells #[.pointer (some ⟨g s, 0, none⟩)] 65)) k0
        have HZ1 := Lib.hid (show ((w.alloc (.cells #[.int .i64 m] 3)).alloc (.cells #[.pointer (some ⟨g s, 0, none⟩)] 65)).cell? ⟨w.heap.size + 1, 0, none⟩ = some (.pointer (some ⟨g s, 0, none⟩)) from by
          have := alloc_cell (w.alloc (.cells #[.int .i64 m] 3)) [.pointer (some ⟨g s, 0, none⟩)] 65 0 _ rfl
          simp)
        have HZ2 := Lib.hid (kept_cell (below_alloc (w.alloc (.cells #[.int .i64 m] 3)) (.cells #[.pointer (some ⟨g s, 0, none⟩)] 65)) (alloc_cell w [.int .i64 m] 3 0 _ rfl))
        clear h hd hf hm hn fat0 hbv hL hLI hbad hk hmk hR
        go_enter Tryz.func83, Tryz.ntmps83
        go_wp2_with (go_at_call 59; refine (HF.out _ (below_alloc _ _)).mono ?_; rintro _ w1 ⟨rfl, rfl⟩)
        go_quiet (fail)
        go_wp2_with (go_at_call 60; refine (HW.out _ ((HB2.out _ _).trans ((drewN_below _ _).mono (HB2.out _ _).size)) (kept_cell (drewN_below _ _) HZ1.out) (kept_cell (drewN_below _ _) HZ2.out)).mono ?_; rintro _ w2 ⟨rfl, hp⟩; have HD := Lib.hid hp; clear hp)
        go_ret
        exact PWrote.good ((HB2.out _ _).trans ((drewN_below _ _).mono (HB2.out _ _).size)) ⟨rfl, HD.out⟩
end
end Go.Proofs.YtelcemfaijjcbaaGreatDoor.C12
