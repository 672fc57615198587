/-
  Layer 13, the program: settle: what is torn is cut off, all is safe.
-/
import Derived.Test.YtelcemfaijjcbaaGreatDoorHP13Lp
import Derived.Deep.RegionHeldLaw
namespace Go.Proofs.YtelcemfaijjcbaaGreatDoor.C13
open Go Go.RowKit Go.Proofs Go.Proofs.YtelcemfaijjcbaaGreatDoor.B Go.Proofs.YtelcemfaijjcbaaGreatDoor.K Go.Proofs.YtelcemfaijjcbaaGreatDoor.P8 Go.Proofs.YtelcemfaijjcbaaGreatDoor.C12
set_option linter.unusedVariables false
set_option maxRecDepth 100000
/-- The log stands as it was, its disk may have turned. -/
def LAs (F G : Nat → Prop) (lp d : Nat) (M : Int) (sg rv : Value) (gs : List (Int × Int)) (rs : List (List UInt8)) (u : Int) (D : Dst) (w W : World) : Prop :=
  ∃ F', PAt W F' d D ∧ LIn W G lp d M sg rv gs rs u ∧ (∀ i, G i → ¬ F' i) ∧ Chg (fun i => F i ∨ G i) (fun i => F' i ∨ G i) w W
section
variable {w W w' : World} {F G : Nat → Prop} {lp d : Nat} {M u : Int} {sg rv : Value} {gs : List (Int × Int)} {rs : List (List UInt8)} {D D1 : Dst}
theorem LAs.did (h : LAs F G lp d M sg rv gs rs u D w W) : LDid F G lp d M D gs rs u w W := by
  obtain ⟨F', h1, h2, h3, h4⟩ := h
  exact ⟨F', G, sg, rv, h1, h2, h3, h4⟩
theorem LAs.below (h : LAs F G lp d M sg rv gs rs u D w W) (hb : Below W.heap.size W w') : LAs F G lp d M sg rv gs rs u D w w' := by
  obtain ⟨F', h1, h2, h3, h4⟩ := h
  exact ⟨F', h1.below hb, h2.below hb, h3, h4.below hb⟩
theorem LAs.drew (h : LAs F G lp d M sg rv gs rs u D w W) : LAs F G lp d M sg rv gs rs u D w W.drew := h.below (Below.refl _ _).drew
theorem LAs.cells (h : LAs F G lp d M sg rv gs rs u D w W) : W.cell? ⟨lp, 0, none⟩ = some (.pointer (some ⟨d, 0, none⟩)) ∧ W.cell? ⟨lp, 3, none⟩ = some sg := by
  obtain ⟨F', h1, h2, h3, h4⟩ := h
  exact ⟨(row_at h2.cell 0 _ rfl).1, (row_at h2.cell 3 _ rfl).1⟩
theorem LAs.seg (h : LAs F G lp d M sg rv gs rs u D w W) {b n c : Nat} (hs : sg = .slice (some ⟨b, 0, none⟩) n c) (k : Nat) (g : Int × Int) (hk : gs[k]? = some g) : W.cell? ⟨b, k * 2, none⟩ = some (.int .i64 g.1) ∧ W.cell? ⟨b, k * 2 + 1, none⟩ = some (.int .i64 g.2) := by
  obtain ⟨F', h1, h2, h3, h4⟩ := h
  obtain ⟨b', c', e, -, -, -, hc⟩ := h2.seg (fun e => by rw [e] at hk; simp at hk)
  rw [hs] at e
  simp only [Value.slice.injEq, Option.some.injEq, Addr.mk.injEq] at e
  rw [e.1.1]
  exact hc k g hk
theorem as_file (n : Nat) (hn : n < 100) (h : LAs F G lp d M sg rv gs rs u D w W) : Calls Tryz.prog 38 #[.pointer (some ⟨lp, 0, none⟩), .int .i64 (n : Int)] W fun e w' => e = .returned (.string (str (nmW n))) ∧ LAs F G lp d M sg rv gs rs u D w w' ∧ Below W.heap.size W w' := by
  have h' := h
  obtain ⟨F', h1, h2, h3, h4⟩ := h
  exact (file_any h2 n hn).mono fun e w' ⟨he, hb⟩ => ⟨he, h'.below hb, hb⟩
theorem as_last {b c N : Nat} (hl : gs.length ≤ 1000) (hs : sg = .slice (some ⟨b, 0, none⟩) (N + 1) c) (h : LAs F G lp d M sg rv gs rs u D w W) : Calls Tryz.prog 44 #[.pointer (some ⟨lp, 0, none⟩)] W fun e w' => e = .returned (.pointer (some ⟨b, N * 2, none⟩)) ∧ LAs F G lp d M sg rv gs rs u D w w' := by
  have h' := h
  obtain ⟨F', h1, h2, h3, h4⟩ := h
  exact (last_any h2 hl hs).mono fun e w' ⟨he, hb⟩ => ⟨he, h'.below hb⟩
theorem as_safe (s : List UInt8) (hs : s.length ≤ 1000000) (h : LAs F G lp d M sg rv gs rs u D w W) : Calls Tryz.prog 84 #[.pointer (some ⟨d, 0, none⟩), .string (str s)] W fun e w' => e = .returned (.int .i64 (safeD D s)) ∧ LAs F G lp d M sg rv gs rs u D w w' ∧ Below W.heap.size W w' := by
  have h' := h
  obtain ⟨F', h1, h2, h3, h4⟩ := h
  exact (psafe_any h1 s (by unfold maxLen; omega)).mono fun e w' ⟨he, hb⟩ => ⟨he, h'.below hb, hb⟩
theorem as_wrote {r : Dst × Int} {f : FuncId} {args : Array Value} (h : LAs F G lp d M sg rv gs rs u D w W) (hc : ∀ F', PAt W F' d D → Calls Tryz.prog f args W (PWrote F' d r W)) : Calls Tryz.prog f args W fun e w' => e = .returned (.int .i64 r.2) ∧ LAs F G lp d M sg rv gs rs u r.1 w w' := by
  obtain ⟨F', h1, h2, h3, h4⟩ := h
  refine (hc F' h1).mono ?_
  rintro e w' ⟨he, F2, hp, hch⟩
  refine ⟨he, F2, hp, h2.tn hch.turn h3, fun i hi hf => ?_, h4.trans ⟨tn_mono hch.turn fun i hi => Or.inl hi, fun i hi => ?_⟩⟩
  · rcases hch.new i hf with h | h
    · exact h3 i hi h
    · have := h2.lt i hi; omega
  · rcases hi with hi | hi
    · rcases hch.new i hi with h | h
      · exact Or.inl (Or.inl h)
      · exact Or.inr h
    · exact Or.inl (Or.inr hi)
/-- The file is cut, if it is torn. -/
def cutD (D : Dst) (T : Bool) (n z : Int) : Dst × Int := if T then truncD D (nmW n) z else (D, 0)
set_option maxHeartbeats 1500000 in
theorem settle_any {pre : List (Int × Int)} {n : Nat} {z : Int} (hgs : gs = pre ++ [((n : Int), z)]) (hn : n < 100) (hp : pre.length ≤ 800) (T : Bool) (h0 : LAs F G lp d M sg rv gs rs u D w w) (hc : cutD D T n z = (D1, 0)) (hs : (syncD D1 (nmW n)).2 = 0)
    (hpre : ∀ a ∈ pre, 0 ≤ a.1 ∧ a.1 < 100 ∧ safeD (syncD D1 (nmW n)).1 (nmW a.1) = a.2) :
    Calls Tryz.prog 58 #[.pointer (some ⟨lp, 0, none⟩), .bool T] w fun e w' => e = .returned (.int .i64 0) ∧ LAs F G lp d M sg rv gs rs u (syncD D1 (nmW n)).1 w w' := by
  obtain ⟨P, hP⟩ : ∃ P, pre.length = P := ⟨_, rfl⟩
  have hgl : gs.length = P + 1 := by rw [hgs, List.length_append, hP]; rfl
  obtain ⟨b, c, hsg, hPc⟩ : ∃ b c, sg = .slice (some ⟨b, 0, none⟩) (P + 1) c ∧ P + 1 ≤ c := by
    obtain ⟨F', h1, h2, h3, h4⟩ := h0
    obtain ⟨b, c, e, h5, -, -, -⟩ := h2.seg (fun e => by rw [e] at hgl; simp at hgl)
    exact ⟨b, c, by rw [e, hgl], by omega⟩
  have hnl := nmW_len (n := (n : Int)) (by omega)
  have HL := Lib.hid (fun W (h : LAs F G lp d M sg rv gs rs u D w W) => as_last (by omega) hsg h)
  have HF := Lib.hid (fun W (h : LAs F G lp d M sg rv gs rs u D w W) => as_file n hn h)
  have HF1 := Lib.hid (fun W (h : LAs F G lp d M sg rv gs rs u D1 w W) => as_file n hn h)
  have HT := Lib.hid (fun W (h : LAs F G lp d M sg rv gs rs u D w W) => as_wrote h (fun F' hp => ptrunc_any hp (nmW n) z (by unfold maxLen; omega)))
  have HS := Lib.hid (fun W (h : LAs F G lp d M sg rv gs rs u D1 w W) => as_wrote h (fun F' hp => psync_any hp (nmW n) (by unfold maxLen; omega)))
  rw [hs] at HS
  obtain ⟨D2, hD2⟩ : ∃ D2, (syncD D1 (nmW n)).1 = D2 := ⟨_, rfl⟩
  rw [hD2] at HS hpre ⊢
  have HX := Lib.hid (show ∀ D W, LAs F G lp d M sg rv gs rs u D w W → W.cell? ⟨b, P * 2, none⟩ = some (.int .i64 (n : Int)) ∧ W.cell? ⟨b, P * 2 + 1, none⟩ = some (.int .i64 z) from fun D W h => h.seg hsg P ((n : Int), z) (by rw [hgs, ← hP]; simp))
  have HY := Lib.hid (show ∀ D W, LAs F G lp d M sg rv gs rs u D w W → ∀ K y, pre[K]? = some y → W.cell? ⟨b, K * 2, none⟩ = some (.int .i64 y.1) ∧ W.cell? ⟨b, K * 2 + 1, none⟩ = some (.int .i64 y.2) from fun D W h K y hy => h.seg hsg K y (by rw [hgs, List.getElem?_append_left (List.getElem?_eq_some_iff.1 hy).1]; exact hy))
  have HC := Lib.hid (show ∀ D W, LAs F G lp d M sg rv gs rs u D w W → W.cell? ⟨lp, 0, none⟩ = some (.pointer (some ⟨d, 0, none⟩)) ∧ W.cell? ⟨lp, 3, none⟩ = some (.slice (some ⟨b, 0, none⟩) (P + 1) c) from fun D W h => by rw [← hsg]; exact h.cells)
  have HP := Lib.hid hP
  rw [hP] at hp
  have HPRE := Lib.hid hpre
  have H0 := Lib.hid h0
  clear h0 hs hD2 hP hpre hn hnl hgs hgl hsg
  cases T with
  | false =>
    have e : D1 = D := by simpa [cutD] using hc.symm
    subst e
    have H2 := Lib.hid H0.out
    obtain ⟨x0, x1⟩ := HX.out _ _ H2.out
    obtain ⟨y0, y1⟩ := HC.out _ _ H2.out
    clear hc HF HT
    go_enter Tryz.func58, Tryz.ntmps58
    go_wp2_with (go_at_call 44; (with_reducible refine (HL.out _ H0.out).mono ?_); rintro _ w2 ⟨rfl, hd⟩; have H2 := Lib.hid hd; obtain ⟨x0, x1⟩ := HX.out _ _ hd; obtain ⟨y0, y1⟩ := HC.out _ _ hd; clear hd)
    go_cut [7] from 33 to 43 (fun v wx => v = .int .i64 0 ∧ Hid (LAs F G lp d M sg rv gs rs u D2 w wx))
    case first =>
      go_region_with (first
        | (go_at_call 38; (with_reducible refine (HF1.out _ H2.out.drew).mono ?_); rintro _ w3 ⟨rfl, hd, hb⟩; have H3 := Lib.hid hd; obtain ⟨x0, x1⟩ := HX.out _ _ hd; obtain ⟨y0, y1⟩ := HC.out _ _ hd; clear hd hb)
        | (go_at_call 45; (with_reducible refine (HS.out _ H3.out).mono ?_); rintro _ w4 ⟨rfl, hd⟩; have H4 := Lib.hid hd; clear hd))
      all_goals go_wp2_with fail
      all_goals go_meet
      all_goals exact ⟨rfl, H4⟩
    case rest =>
    obtain ⟨w4, rfl⟩ : ∃ W : World, W = wc := ⟨_, rfl⟩
    obtain ⟨rfl, H4⟩ := hcut
    obtain ⟨y0, y1⟩ := HC.out _ _ H4.out
    have hw0 : IntKind.i64.wrap (((P + 1 : Nat) : Int) - 1) = (P : Int) := by rw [show ((P + 1 : Nat) : Int) - 1 = (P : Int) from by omega]; exact IntWalk.i64_in _ (by omega)
    have hw00 : IntKind.i64.wrap ((P : Int) + 1 - 1) = (P : Int) := by rw [show (P : Int) + 1 - 1 = (P : Int) from by omega]; exact IntWalk.i64_in _ (by omega)
    have hPcI : (P : Int) ≤ (c : Int) := by omega
    have hPc2 : P ≤ c := by omega
    go_wp2_with fail
    go_region
    go_wp2_with fail
    go_loopw [59] (fun i wr => ∃ K : Nat, i = .int .i64 (K : Int) ∧ K ≤ P ∧ Hid (LAs F G lp d M sg rv gs rs u D2 w wr)) (fun i _ => P - (intOf i).toNat)
    case atStart => exact ⟨0, rfl, Nat.zero_le _, H4.out.drew⟩
    case round =>
      obtain ⟨K, rfl, hK, HD⟩ := hrel
      by_cases hlt : K < P
      · have hltI : (K : Int) < (P : Int) := by omega
        have hK0 : (0 : Int) ≤ (K : Int) := by omega
        have hw1 : IntKind.i64.wrap ((K : Int) + 1) = (K : Int) + 1 := IntWalk.i64_in _ (by omega)
        obtain ⟨y, hy⟩ : ∃ y, pre[K]? = some y := ⟨_, List.getElem?_eq_getElem (by rw [HP.out]; exact hlt)⟩
        obtain ⟨k1, k2⟩ := HY.out _ _ HD.out K y hy
        obtain ⟨r1, r2, r3⟩ := HPRE.out y (List.mem_of_getElem? hy)
        obtain ⟨y1, y2⟩ := y
        dsimp only at k1 k2 r1 r2 r3
        obtain ⟨Y, rfl⟩ : ∃ Y : Nat, y1 = (Y : Int) := ⟨y1.toNat, by omega⟩
        have HFK := Lib.hid (fun W (h : LAs F G lp d M sg rv gs rs u D2 w W) => as_file Y (by omega) h)
        have HSF := Lib.hid (fun W (h : LAs F G lp d M sg rv gs rs u D2 w W) => as_safe (nmW Y) (by have := nmW_len (n := (Y : Int)) (by omega); omega) h)
        rw [r3] at HSF
        obtain ⟨y3, y4⟩ := HC.out _ _ HD.out
        have HNC := Lib.hid (alloc_cell wr [.int .i64 (Y : Int), .int .i64 y2] 76 1 _ rfl)
        have HDB := Lib.hid (HD.out.below (below_alloc wr (.cells #[.int .i64 (Y : Int), .int .i64 y2] 76)))
        have hyy : (y2 == y2) = true := by simp
        clear hy r1 r2 r3
        go_wp2_with (go_at_call 38; (refine (HFK.out _ HDB.out).mono ?_); rintro _ w5 ⟨rfl, hd, hb⟩; have H5 := Lib.hid hd; obtain ⟨z0, z1⟩ := HC.out _ _ hd; have zc := kept_cell hb HNC.out; have ZC := Lib.hid zc; clear hd hb)
        go_region_with (go_at_call 84; (with_reducible refine (HSF.out _ H5.out.drew).mono ?_); rintro _ w6 ⟨rfl, hd, hb⟩; have H6 := Lib.hid hd; have zc6 := kept_cell hb (show w5.drew.cell? _ = _ from ZC.out); clear hd hb)
        all_goals go_wp2_with fail
        all_goals
          go_roundw
          case rel => exact ⟨K + 1, by go_num, by omega, H6⟩
          case measure => simp [intOf]; omega
      · have hltI : ¬ (K : Int) < (P : Int) := by omega
        go_wp2_with fail
        go_ret
        exact ⟨rfl, HD.out⟩
  | true =>
    have e : truncD D (nmW n) z = (D1, 0) := by simpa [cutD] using hc
    rw [e] at HT
    dsimp only at HT
    clear hc e
    go_enter Tryz.func58, Tryz.ntmps58
    go_wp2_with (go_at_call 44; (with_reducible refine (HL.out _ H0.out).mono ?_); rintro _ w1 ⟨rfl, hd⟩; have H1 := Lib.hid hd; obtain ⟨x0, x1⟩ := HX.out _ _ hd; obtain ⟨y0, y1⟩ := HC.out _ _ hd; clear hd)
    have hS0 : (w1.drew.cell? ⟨lp, 0, none⟩ = some (.pointer (some ⟨d, 0, none⟩)) ∧ w1.drew.cell? ⟨b, P * 2, none⟩ = some (.int .i64 (n : Int)) ∧ w1.drew.cell? ⟨b, P * 2 + 1, none⟩ = some (.int .i64 z)) := ⟨y0, x0, x1⟩
    clear x0 x1 y0 y1
    go_cut [6] from 15 to 29 (fun v wx => v = .int .i64 0 ∧ Hid (LAs F G lp d M sg rv gs rs u D1 w wx))
    case first =>
      go_region_held_law (fun W => (W.cell? ⟨lp, 0, none⟩ = some (.pointer (some ⟨d, 0, none⟩)) ∧ W.cell? ⟨b, P * 2, none⟩ = some (.int .i64 (n : Int)) ∧ W.cell? ⟨b, P * 2 + 1, none⟩ = some (.int .i64 z))) (first | exact hS0 | assumption) (first
        | (go_simp; go_at_call 38; refine (HF.out _ H1.out.drew).mono ?_; rintro _ w3 ⟨rfl, hd, hb⟩; have H3 := Lib.hid hd; have hS3 : (w3.cell? ⟨lp, 0, none⟩ = some (.pointer (some ⟨d, 0, none⟩)) ∧ w3.cell? ⟨b, P * 2, none⟩ = some (.int .i64 (n : Int)) ∧ w3.cell? ⟨b, P * 2 + 1, none⟩ = some (.int .i64 z)) := ⟨(HC.out _ _ hd).1, (HX.out _ _ hd).1, (HX.out _ _ hd).2⟩; clear hd hb)
        | (go_simp; go_at_call 83; refine (HT.out _ H3.out).mono ?_; rintro _ w4 ⟨rfl, hd⟩; have H4 := Lib.hid hd; have hS4 : (w4.cell? ⟨lp, 0, none⟩ = some (.pointer (some ⟨d, 0, none⟩)) ∧ w4.cell? ⟨b, P * 2, none⟩ = some (.int .i64 (n : Int)) ∧ w4.cell? ⟨b, P * 2 + 1, none⟩ = some (.int .i64 z)) := ⟨(HC.out _ _ hd).1, (HX.out _ _ hd).1, (HX.out _ _ hd).2⟩; clear hd))
      all_goals go_wp2_with fail
      all_goals go_meet
      all_goals exact ⟨rfl, H4⟩
    case rest =>
    obtain ⟨w2, rfl⟩ : ∃ W : World, W = wc := ⟨_, rfl⟩
    obtain ⟨rfl, H2⟩ := hcut
    obtain ⟨x5, x6⟩ := HX.out _ _ H2.out
    obtain ⟨y5, y6⟩ := HC.out _ _ H2.out
    go_wp2_with fail
    go_cut [7] from 33 to 43 (fun v wx => v = .int .i64 0 ∧ Hid (LAs F G lp d M sg rv gs rs u D2 w wx))
    case first =>
      go_region_with (first
        | (go_at_call 38; (with_reducible refine (HF1.out _ H2.out.drew).mono ?_); rintro _ w3 ⟨rfl, hd, hb⟩; have H3 := Lib.hid hd; obtain ⟨x0, x1⟩ := HX.out _ _ hd; obtain ⟨y0, y1⟩ := HC.out _ _ hd; clear hd hb)
        | (go_at_call 45; (with_reducible refine (HS.out _ H3.out).mono ?_); rintro _ w4 ⟨rfl, hd⟩; have H4 := Lib.hid hd; clear hd))
      all_goals go_wp2_with fail
      all_goals go_meet
      all_goals exact ⟨rfl, H4⟩
    case rest =>
    obtain ⟨w4, rfl⟩ : ∃ W : World, W = wc := ⟨_, rfl⟩
    obtain ⟨rfl, H4⟩ := hcut
    obtain ⟨y0, y1⟩ := HC.out _ _ H4.out
    have hw0 : IntKind.i64.wrap (((P + 1 : Nat) : Int) - 1) = (P : Int) := by rw [show ((P + 1 : Nat) : Int) - 1 = (P : Int) from by omega]; exact IntWalk.i64_in _ (by omega)
    have hw00 : IntKind.i64.wrap ((P : Int) + 1 - 1) = (P : Int) := by rw [show (P : Int) + 1 - 1 = (P : Int) from by omega]; exact IntWalk.i64_in _ (by omega)
    have hPcI : (P : Int) ≤ (c : Int) := by omega
    have hPc2 : P ≤ c := by omega
    go_wp2_with fail
    go_region
    go_wp2_with fail
    go_loopw [59] (fun i wr => ∃ K : Nat, i = .int .i64 (K : Int) ∧ K ≤ P ∧ Hid (LAs F G lp d M sg rv gs rs u D2 w wr)) (fun i _ => P - (intOf i).toNat)
    case atStart => exact ⟨0, rfl, Nat.zero_le _, H4.out.drew⟩
    case round =>
      obtain ⟨K, rfl, hK, HD⟩ := hrel
      by_cases hlt : K < P
      · have hltI : (K : Int) < (P : Int) := by omega
        have hK0 : (0 : Int) ≤ (K : Int) := by omega
        have hw1 : IntKind.i64.wrap ((K : Int) + 1) = (K : Int) + 1 := IntWalk.i64_in _ (by omega)
        obtain ⟨y, hy⟩ : ∃ y, pre[K]? = some y := ⟨_, List.getElem?_eq_getElem (by rw [HP.out]; exact hlt)⟩
        obtain ⟨k1, k2⟩ := HY.out _ _ HD.out K y hy
        obtain ⟨r1, r2, r3⟩ := HPRE.out y (List.mem_of_getElem? hy)
        obtain ⟨y1, y2⟩ := y
        dsimp only at k1 k2 r1 r2 r3
        obtain ⟨Y, rfl⟩ : ∃ Y : Nat, y1 = (Y : Int) := ⟨y1.toNat, by omega⟩
        have HFK := Lib.hid (fun W (h : LAs F G lp d M sg rv gs rs u D2 w W) => as_file Y (by omega) h)
        have HSF := Lib.hid (fun W (h : LAs F G lp d M sg rv gs rs u D2 w W) => as_safe (nmW Y) (by have := nmW_len (n := (Y : Int)) (by omega); omega) h)
        rw [r3] at HSF
        obtain ⟨y3, y4⟩ := HC.out _ _ HD.out
        have HNC := Lib.hid (alloc_cell wr [.int .i64 (Y : Int), .int .i64 y2] 76 1 _ rfl)
        have HDB := Lib.hid (HD.out.below (below_alloc wr (.cells #[.int .i64 (Y : Int), .int .i64 y2] 76)))
        have hyy : (y2 == y2) = true := by simp
        clear hy r1 r2 r3
        go_wp2_with (go_at_call 38; (refine (HFK.out _ HDB.out).mono ?_); rintro _ w5 ⟨rfl, hd, hb⟩; have H5 := Lib.hid hd; obtain ⟨z0, z1⟩ := HC.out _ _ hd; have zc := kept_cell hb HNC.out; have ZC := Lib.hid zc; clear hd hb)
        go_region_with (go_at_call 84; (with_reducible refine (HSF.out _ H5.out.drew).mono ?_); rintro _ w6 ⟨rfl, hd, hb⟩; have H6 := Lib.hid hd; have zc6 := kept_cell hb (show w5.drew.cell? _ = _ from ZC.out); clear hd hb)
        all_goals go_wp2_with fail
        all_goals
          go_roundw
          case rel => exact ⟨K + 1, by go_num, by omega, H6⟩
          case measure => simp [intOf]; omega
      · have hltI : ¬ (K : Int) < (P : Int) := by omega
        go_wp2_with fail
        go_ret
        exact ⟨rfl, HD.out⟩
end
end Go.Proofs.YtelcemfaijjcbaaGreatDoor.C13
