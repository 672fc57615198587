/-
  Contract of the program of layer 3: Fold, of what may be.
-/
import Derived.Test.YtaiogcmbpalbpaaEPFold
import Derived.Test.YtaiogcmbpalbpaaEPUses
namespace Go.Proofs.Ytaiogcmbpalbpaa.E
open Go Go.RowKit Go.Proofs.Ytaiogcmbpalbpaa.B Go.Proofs.Ytaiogcmbpalbpaa.K
set_option linter.unusedVariables false

/-- What has been folded, in a row of the call's own. -/
def Fd (w : World) (base : Nat) (v : Value) (out : List In) : Prop := w.ownsRow base 47 2 v out.length (pairCells out.reverse)

theorem pair_push (i : In) (out : List In) : pairCells out.reverse ++ [.int .i64 i.1, .int .i64 i.2] = pairCells (i :: out).reverse := by
  rw [List.reverse_cons, pairCells_append]; rfl

theorem two_new (W : World) (A : Obj) (o x : Int) : ∀ j u, [Value.int .i64 o, .int .i64 x][j]? = some u → ((W.alloc A).alloc (.cells #[.int .i64 o, .int .i64 x] 47)).cell? ((⟨W.heap.size + 1, 0, none⟩ : Addr).add j) = some u :=
  World.news_of_block (cs := #[.int .i64 o, .int .i64 x]) (by have h := heap_alloc_at (W.alloc A) (.cells #[.int .i64 o, .int .i64 x] 47); simpa using h)
theorem two_cell (o x : Int) : ∀ u ∈ [Value.int .i64 o, .int .i64 x], u.oneCell' = true := by
  intro u hu; simp at hu; rcases hu with rfl | rfl <;> rfl

/-- Behind the append of an instruction: what is folded, the instruction's own box, and that all below is left alone. -/
theorem fd_push {w wr w3 : World} {v : Value} {out : List In} {o x : Int} {g cap : Nat} (hb : Below w.heap.size w wr) (hf : Fd wr w.heap.size v out)
    (ho : w3.ownsRow w.heap.size 47 2 (.slice (some ⟨g, 0, none⟩) (out.length + 1) cap) (out.length + 1) (pairCells out.reverse ++ [.int .i64 o, .int .i64 x]))
    (hg : ((wr.alloc (.cells #[.int .i64 o, .int .i64 x] 47)).alloc (.cells #[.int .i64 o, .int .i64 x] 47)).grownBy w3 v.ownBlock)
    (hblk : v.ownBlock = some g ∨ g = ((wr.alloc (.cells #[.int .i64 o, .int .i64 x] 47)).alloc (.cells #[.int .i64 o, .int .i64 x] 47)).heap.size) (hlt : g < w3.heap.size) :
    Fd w3 w.heap.size (.slice (some ⟨g, 0, none⟩) (out.length + 1) cap) ((o, x) :: out) ∧ Below w.heap.size w w3 ∧ w3.cell? ⟨wr.heap.size, 0, none⟩ = some (.int .i64 o) ∧ w3.cell? ⟨wr.heap.size, 1, none⟩ = some (.int .i64 x) ∧ wr.heap.size < w3.heap.size ∧ g ≠ wr.heap.size ∧ w.heap.size ≤ wr.heap.size := by
  have hvb : ∀ k, v.ownBlock = some k → k < wr.heap.size := owns_lt hf
  have hsz := hb.size
  have hb2 : Below w.heap.size w ((wr.alloc (.cells #[.int .i64 o, .int .i64 x] 47)).alloc (.cells #[.int .i64 o, .int .i64 x] 47)) := (hb.alloc hsz _).alloc (hb.alloc hsz _).size _
  have hne : some wr.heap.size ≠ v.ownBlock := fun e => by have := hvb _ e.symm; omega
  have hc : ∀ (k : Nat) u, (#[Value.int .i64 o, .int .i64 x] : Array Value)[k]? = some u → w3.cell? ⟨wr.heap.size, k, none⟩ = some u := by
    intro k u hu
    refine World.grownBy.cell hg ?_ hne
    rw [((Below.refl (wr.heap.size + 1) _).alloc (by simp) _).cell (p := ⟨wr.heap.size, k, none⟩) (by show wr.heap.size < wr.heap.size + 1; omega), cell_of_row _ _ _ _ 47 (0, 0) (heap_alloc_at _ _)]
    exact hu
  refine ⟨?_, hb2.grown hg hb2.size (owns_block hf), hc 0 _ rfl, hc 1 _ rfl, ?_, ?_, hsz⟩
  · unfold Fd
    rw [← pair_push]
    exact ho
  · have := hg.size; simp at this; omega
  · rcases hblk with h | h
    · have := hvb _ h; omega
    · simp at h; omega

/-- The row's shape, and its cells. -/
theorem fd_form {w : World} {base g n cap : Nat} {out : List In} (h : Fd w base (.slice (some ⟨g, 0, none⟩) n cap) out) (hn : out.length = n) :
    n ≤ cap ∧ cap ≤ maxLen ∧ base ≤ g ∧ (∀ (j : Nat) (c : In), out.reverse[j]? = some c → w.cell? ⟨g, j * 2, none⟩ = some (.int .i64 c.1) ∧ w.cell? ⟨g, j * 2 + 1, none⟩ = some (.int .i64 c.2)) := by
  have hs := SlI.owns h
  obtain ⟨hl, h⟩ := h
  rcases h with ⟨h0, _⟩ | ⟨g', cap', cur, hv, hb, hg, hc, hm, _, _⟩
  · cases h0
  · obtain ⟨e1, e2, e3⟩ := Value.slice.inj hv
    cases e1
    subst e3
    refine ⟨by omega, hm, hb, fun j c hj => ?_⟩
    obtain ⟨b, off, e, h1, h2⟩ := hs.at hj
    cases e
    rw [Nat.zero_add] at h1 h2
    exact ⟨h1, h2⟩

/-- A beginning of the row. -/
theorem fd_head {w : World} {base g n cap : Nat} {out : List In} (h : Fd w base (.slice (some ⟨g, 0, none⟩) n cap) out) (hn : out.length = n) (k : Nat) (hk : k ≤ n) :
    Fd w base (.slice (some ⟨g, 0, none⟩) (n - k) cap) (out.drop k) := by
  obtain ⟨hl, h⟩ := h
  rcases h with ⟨h0, _⟩ | ⟨g', cap', cur, hv, hb, hg, hc, hm, hsz, ht⟩
  · cases h0
  · obtain ⟨e1, e2, e3⟩ := Value.slice.inj hv
    cases e1
    subst e3
    have hlen : (out.drop k).length = n - k := by rw [List.length_drop]; omega
    have hsplit : pairCells out.reverse = pairCells (out.drop k).reverse ++ pairCells (out.take k).reverse := by
      rw [← pairCells_append, ← List.reverse_append, List.take_append_drop]
    refine ⟨by rw [pairCells_length, List.length_reverse], Or.inr ⟨g, cap, cur, by rw [hlen], hb, hg, by omega, hm, hsz, ?_⟩⟩
    rw [hn] at ht
    have h2 : cur.toList.take ((n - k) * 2) = (cur.toList.take (n * 2)).take ((n - k) * 2) := by rw [List.take_take]; congr 1; omega
    rw [hlen, h2, ht, hsplit]
    exact List.take_left' (by rw [pairCells_length, List.length_reverse, hlen])

theorem Fd.below {w w' : World} {base : Nat} {v : Value} {out : List In} (h : Fd w base v out) (hb : Below w.heap.size w w') : Fd w' base v out := own_kept h hb
theorem Fd.tch {w w' : World} {base g n cap R : Nat} {out : List In} (h : Fd w base (.slice (some ⟨g, 0, none⟩) n cap) out) (ht : Tch R w w') (hne : g ≠ R) : Fd w' base (.slice (some ⟨g, 0, none⟩) n cap) out :=
  World.ownsRow.kept h ht (Or.inr (by simp [Value.ownBlock]; exact hne))

theorem fd_join {w : World} {base g F cap : Nat} {out : List In} {y : Int} (hF : out.length = F)
    (h : w.ownsRow base 47 2 (.slice (some ⟨g, 0, none⟩) (F + 1) cap) (F + 1) (pairCells out.reverse ++ [.int .i64 1, .int .i64 y])) : Fd w base (.slice (some ⟨g, 0, none⟩) (F + 1) cap) (con y :: out) := by
  unfold Fd
  rw [← pair_push, List.length_cons, hF]
  exact h

theorem fd_cut {w : World} {base g L cap t F : Nat} {out : List In} {a : In} (h : Fd w base (.slice (some ⟨g, 0, none⟩) (L + 1) cap) (a :: out)) (hL : out.length = L) (ht : t ≤ L) (hF : L - t = F) :
    w.ownsRow base 47 2 (.slice (some ⟨g, 0, none⟩) F cap) F (pairCells (out.drop t).reverse) := by
  have h1 := fd_head h (by rw [List.length_cons, hL]) (t + 1) (by omega)
  rw [List.drop_succ_cons, show L + 1 - (t + 1) = F by omega] at h1
  unfold Fd at h1
  rw [List.length_drop, hL, hF] at h1
  exact h1

theorem fold_next (out pre : List In) (c a : In) (st : List Int) (t F : Nat) (h : (pre ++ [c]) ++ st.map con = out.take t) (htl : t ≤ out.length) (hF : out.length - t = F) :
    pre.length + 1 + st.length = t ∧ out[pre.length]? = some c ∧ (a :: out).reverse[F + st.length]? = some c := by
  have hlen : pre.length + 1 + st.length = t := by
    have h1 := congrArg List.length h
    rw [List.length_append, List.length_append, List.length_map, List.length_take] at h1
    simp only [List.length_cons, List.length_nil] at h1
    omega
  have hat : out[pre.length]? = some c := by
    have h1 : (out.take t)[pre.length]? = some c := by rw [← h, List.append_assoc, List.getElem?_append_right (Nat.le_refl _), Nat.sub_self]; rfl
    rw [List.getElem?_take] at h1
    split at h1
    · exact h1
    · cases h1
  refine ⟨hlen, hat, ?_⟩
  rw [List.getElem?_reverse (by rw [List.length_cons]; omega), List.length_cons, show out.length + 1 - 1 - (F + st.length) = pre.length + 1 by omega, List.getElem?_cons_succ]
  exact hat

theorem fold_full (out : List In) (st : List Int) (t : Nat) (h : st.map con = out.take t) (htl : t ≤ out.length) : st.length = t ∧ st.map con ++ out.drop t = out ∧ (∀ c ∈ st, con c ∈ out) := by
  refine ⟨?_, by rw [h, List.take_append_drop], fun c hc => ?_⟩
  · have h1 := congrArg List.length h
    rw [List.length_map, List.length_take] at h1
    omega
  · have h1 : con c ∈ out.take t := by rw [← h]; exact List.mem_map_of_mem hc
    exact List.mem_of_mem_take h1

/-- What stands in the round of the inner loop. -/
structure Inn (w wy : World) (R I g n cap : Nat) (o x : Int) (out : List In) (st : List Int) : Prop where
  row : RowAt wy R st
  fd : Fd wy w.heap.size (.slice (some ⟨g, 0, none⟩) n cap) ((o, x) :: out)
  c0 : wy.cell? ⟨I, 0, none⟩ = some (.int .i64 o)
  bel : Below w.heap.size w wy
  nR : g ≠ R
  nI : I ≠ R
  bR : w.heap.size ≤ R

theorem Inn.alloc {w wy : World} {R I g n cap : Nat} {o x : Int} {out : List In} {st : List Int} (h : Inn w wy R I g n cap o x out st) (b : Obj) : Inn w (wy.alloc b) R I g n cap o x out st :=
  have hb := (Below.refl wy.heap.size wy).alloc (Nat.le_refl _) b
  ⟨h.row.below hb, h.fd.below hb, cell_kept hb h.c0, h.bel.alloc h.bel.size b, h.nR, h.nI, h.bR⟩
theorem Inn.tch {w wy wz : World} {R I g n cap : Nat} {o x : Int} {out : List In} {st st' : List Int} (h : Inn w wy R I g n cap o x out st) (hr : RowAt wz R st') (ht : Tch R wy wz) : Inn w wz R I g n cap o x out st' :=
  ⟨hr, h.fd.tch ht h.nR, ht.cell h.c0 h.nI, ht.below h.bel h.bel.size h.bR, h.nR, h.nI, h.bR⟩

/-- 'folded[F:F+t]'. -/
theorem cut_mid (W : World) (g L F t cap : Nat) (ht : 0 < t) (hF : F + t ≤ cap) :
    (Instr.sliceAt 22 (.slice (some ⟨g, 0, none⟩) L cap) (some (.int .i64 (F : Int))) (some (.int .i64 ((F : Int) + (t : Int)))) none).run Try.prog W = .ok (.slice (some ⟨g, F * 2, none⟩) t (cap - F)) W := by
  have he : Try.prog.underlying 22 = some (.slice (Try.prog.elem 22)) := by kernel_rfl
  have hs : (sizeOf (Try.prog.elem 22)).run Try.prog W = .ok 2 W := by kernel_rfl
  rw [run_sliceAt_slice W 22 _ _ _ _ he, run_slice_lh W 22 _ _ _ he .i64 .i64 (F : Int) ((F : Int) + (t : Int)) (by omega) (by omega) (by omega), hs]
  simp only [Result.andThen, sliced, Int.toNat_natCast]
  rw [if_neg (by omega), show ((F : Int) + (t : Int)).toNat = F + t by omega, Nat.add_sub_cancel_left]
  simp only [Option.map, Go.WideShapes.add_plain, Nat.zero_add]

theorem mid_nums (L t F : Nat) (ht : t ≤ L) (hL : L ≤ 31) (hF : L - t = F) : wrap64 (L : Int) = (L : Int) ∧ wrap64 ((L : Int) - (t : Int)) = (F : Int) ∧ wrap64 ((F : Int) + (t : Int)) = (F : Int) + (t : Int) ∧
    IntKind.i64.wrap ((L : Int) + 1 - 1) = (L : Int) ∧ IntKind.i64.wrap ((L : Int) - (t : Int)) = (F : Int) ∧ IntKind.i64.wrap ((F : Int) + (t : Int)) = (F : Int) + (t : Int) := by
  have e : (L : Int) - (t : Int) = (F : Int) := by omega
  have e2 : (L : Int) + 1 - 1 = (L : Int) := by omega
  rw [e, e2]
  exact ⟨IntWalk.wrap64_in _ (by omega), IntWalk.wrap64_in _ (by omega), IntWalk.wrap64_in _ (by omega), IntWalk.i64_in _ (by omega), IntWalk.i64_in _ (by omega), IntWalk.i64_in _ (by omega)⟩

/-- 'folded[:F]'. -/
theorem cut_head (W : World) (g L F cap : Nat) (hF : F ≤ cap) :
    (Instr.sliceAt 22 (.slice (some ⟨g, 0, none⟩) L cap) none (some (.int .i64 (F : Int))) none).run Try.prog W = .ok (.slice (some ⟨g, 0, none⟩) F cap) W := by
  have he : Try.prog.underlying 22 = some (.slice (Try.prog.elem 22)) := by kernel_rfl
  have hs : (sizeOf (Try.prog.elem 22)).run Try.prog W = .ok 2 W := by kernel_rfl
  rw [run_sliceAt_slice W 22 _ _ _ _ he, run_slice_h W 22 _ _ _ he .i64 (F : Int) (by omega) (by omega), hs]
  simp only [Result.andThen, sliced, Int.toNat_natCast, Option.map, Go.WideShapes.add_plain, Nat.zero_mul, Nat.add_zero, Nat.sub_zero]
  split <;> rfl

set_option maxHeartbeats 4000000 in
set_option maxRecDepth 100000 in
theorem fold_good (code : List In) (v : Value) (w : World) (hs : SlI w v code) (he : (check code most most).2 = 0) :
    Calls Try.prog 13 #[v] w fun e w' => (∃ v', e = .returned v' ∧ SlI w' v' (outOf code code.length).reverse) ∧ Below w.heap.size w w' := by
  obtain ⟨i0, hi, hz0, hz1, hz2⟩ := info_parts Try.info47
  have HS := Lib.hid hs
  obtain ⟨a, cap, rfl, -⟩ := hs
  have hok := check_ok code _ _ he
  have HOK := Lib.hid hok.2.2.2
  have hl := hok.2.2.1
  have hck := fun W (h : Below w.heap.size w W) => check_any code (.slice a code.length cap) most most W (HS.out.below h) (by omega)
  obtain ⟨⟨p, er⟩, hE⟩ : ∃ t, check code most most = t := ⟨_, rfl⟩
  rw [hE] at hck he
  simp only at he hck
  subst he
  have HCK := Lib.hid (show ∀ W, Below w.heap.size w W → Calls Try.prog 8 #[.slice a code.length cap, .int .i64 9223372036854775807, .int .i64 9223372036854775807] W fun e w' => e = .returned (.tuple #[.int .i64 p, .int .i64 0]) ∧ Below W.heap.size W w' from hck)
  obtain ⟨n, hN⟩ : ∃ n, code.length = n := ⟨_, rfl⟩
  rw [hN] at HS HCK hl ⊢
  have HN := Lib.hid hN
  have HL := Lib.hid hl
  have hmk := run_make_own (P := Try.prog) (w := w) w.heap.size 22 47 i0 (.agg #[.int .i64 0, .int .i64 0]) 2 Try.underlying22 hi hz0 hz1 .i64 .i64 n (by rw [hz2]; omega) (by unfold maxLen; omega) (Nat.le_refl _)
  obtain ⟨w1, hmk, hown0, hg0⟩ := hmk
  have HO := Lib.hid hown0
  have HB1 := Lib.hid ((Below.refl w.heap.size w).grown hg0 (Nat.le_refl _) (by simp))
  clear hE hck hN hown0 hg0 hok hl
  go_enter Try.func13, Try.ntmps13
  go_wp2_with fail
  go_step3
  go_wp2_with fail
  refine (HCK.out _ HB1.out).mono ?_
  rintro _ w2 ⟨rfl, hb2⟩
  have HB2 := Lib.hid (HB1.out.trans (hb2.mono HB1.out.size))
  have HO2 := Lib.hid (own_kept HO.out hb2)
  clear hb2 hmk HO HB1 HCK
  go_wp2_with fail
  go_step3
  go_wp2_with fail
  go_loopg [3, 29] n (fun g s3 s29 wx => ∃ K : Nat, K + g = n ∧ s29 = .int .i64 (K : Int) ∧ Hid (Fd wx w.heap.size s3 (outOf code K)) ∧ Hid (Below w.heap.size w wx))
  case atStart => exact ⟨0, by omega, rfl, by show Fd _ _ _ _; rw [outOf_zero]; exact HO2.out, HB2.out⟩
  case round =>
    obtain ⟨K, hKg, rfl, HF, HBE⟩ := hrel
    cases gk with
    | zero =>
      obtain rfl : K = n := by omega
      have hltI : ¬ (K : Int) < (K : Int) := by omega
      clear hKg
      go_wp2_with fail
      try rw [Exit.noGoto_ret]
      go_ret
      exact ⟨⟨_, rfl, SlI.owns (by have h := HF.out; unfold Fd at h; exact h)⟩, HBE.out⟩
    | succ g =>
      obtain ⟨i, hi'⟩ : ∃ i, code[K]? = some i := ⟨_, List.getElem?_eq_getElem (by rw [HN.out]; omega)⟩
      obtain ⟨b, off, rfl, h1, h2⟩ := (HS.out.below HBE.out).at hi'
      have hst := out_state most code HOK.out K i hi'
      have HNX := Lib.hid (outOf_succ code K i hi')
      have hltI : (K : Int) < (n : Int) := by omega
      obtain ⟨out, hout⟩ : ∃ out, outOf code K = out := ⟨_, rfl⟩
      rw [hout] at HF hst HNX
      obtain ⟨o, x⟩ := i
      obtain ⟨T, hT⟩ : ∃ T, takes o = T := ⟨_, rfl⟩
      simp only at hst
      rw [hT] at hst
      have HT := Lib.hid hT
      have HST := Lib.hid hst
      have HK := Lib.hid hKg
      have HOUT := Lib.hid hout
      have HTK := Lib.hid (fun W => (show Calls Try.prog 21 #[.int .i64 o] W fun e w' => e = .returned (.tuple #[.int .i64 T, .bool true]) ∧ W = w' by
        have h := takes_any o W
        have e1 : tk o = T := by unfold tk; rw [hT, if_pos hst.1]
        have e2 : kn o = true := by unfold kn; rw [hT]; exact decide_eq_true hst.1
        rw [e1, e2] at h
        exact h))
      have hwK : IntKind.i64.wrap ((K : Int) + 1) = (K : Int) + 1 := IntWalk.i64_in _ (by have := HL.out; omega)
      have HR1 := Lib.hid (show out.length + 1 ≤ maxLen by have h1 := hst.2.2.1; have h2 := HL.out; unfold maxLen; omega)
      have HR2 := Lib.hid (show (out.length + 1) * 16 ≤ 140737488355328 by have h1 := hst.2.2.1; have h2 := HL.out; omega)
      have HR3 := Lib.hid (show w.heap.size ≤ ((wr.alloc (.cells #[.int .i64 o, .int .i64 x] 47)).alloc (.cells #[.int .i64 o, .int .i64 x] 47)).heap.size by have := HBE.out.size; simp; omega)
      clear hi' hst hT hKg hout
      go_wp2_with (at_builtin; go_must (refine wpList_append_lies _ rfl _ _ 22 rfl w.heap.size 47 i0 (.agg #[.int .i64 0, .int .i64 0]) 2 16 Try.underlying22 hi hz0 hz1 hz2 rfl (by decide) _ _ _ rfl ((World.ownsRow.alloc (World.ownsRow.alloc HF.out _) _)) ⟨wr.heap.size + 1, 0, none⟩ 1 1 [.int .i64 o, .int .i64 x] rfl rfl (two_new _ _ _ _) (two_cell _ _) (by decide) HR1.out HR2.out HR3.out _ rfl ?_); intro g' cap' w3 hown3 hgrow3 hblk3 hlt3; obtain ⟨hf3, hb3, hc0, hc1, hI3, hgI, hwI⟩ := fd_push HBE.out HF.out hown3 hgrow3 hblk3 hlt3; have HF3 := Lib.hid hf3; have HB3 := Lib.hid hb3; clear hf3 hb3 hown3 hgrow3 hblk3)
      refine (HTK.out _).mono ?_
      rintro _ wt ⟨rfl, rfl⟩
      by_cases h0 : T = 0
      · subst h0
        have hfs := fstep_zero out (o, x) HT.out
        have HNX2 := Lib.hid (HNX.out.trans hfs)
        clear hfs HR1 HR2 HR3 HTK hc0 hc1
        go_wp2_with fail
        go_roundg g
        case measure => omega
        case rel => exact ⟨K + 1, by have := HK.out; omega, by go_num, by rw [HNX2.out]; exact HF3.out, HB3.out⟩
      · obtain ⟨t, rfl⟩ := Int.eq_ofNat_of_zero_le HST.out.1
        have ht0 : 0 < t := by omega
        have htL : t ≤ out.length := by have := HST.out.2.1; omega
        have hL31 : out.length ≤ 31 := by have h1 := HST.out.2.2.1; have h2 := HK.out; have h3 := HL.out; omega
        have bt : ((t : Int) == 0) = false := by simp; omega
        obtain ⟨F, hF⟩ : ∃ F, out.length - t = F := ⟨_, rfl⟩
        have hfm := fd_form HF3.out (by simp)
        have hsl := fun W => cut_mid W g' (out.length + 1) F t cap' ht0 (by omega)
        obtain ⟨hq1, hq2, hq3, hw1, hw2, hw3⟩ := mid_nums out.length t F htL hL31 hF
        have HFM := Lib.hid hfm
        have HFL := Lib.hid hF
        have HT0 := Lib.hid ht0
        have HTL := Lib.hid htL
        have HL31 := Lib.hid hL31
        clear hF hfm ht0 htL hL31 HR1 HR2 HR3 HTK h0
        go_upto_region 14 with fail
        clear hq1 hq2 hq3 hw1 hw2 hw3 hsl
        obtain ⟨wo, rfl⟩ : ∃ wo : World, wo = wr := ⟨_, rfl⟩
        have HINN := Lib.hid (show Inn w (w3.alloc (.cells #[.int .i64 0, .int .i64 0, .int .i64 0, .int .i64 0, .int .i64 0, .int .i64 0, .int .i64 0, .int .i64 0, .int .i64 0, .int .i64 0, .int .i64 0, .int .i64 0, .int .i64 0, .int .i64 0, .int .i64 0, .int .i64 0, .int .i64 0, .int .i64 0, .int .i64 0, .int .i64 0, .int .i64 0, .int .i64 0, .int .i64 0, .int .i64 0, .int .i64 0, .int .i64 0, .int .i64 0, .int .i64 0, .int .i64 0, .int .i64 0, .int .i64 0, .int .i64 0] 54)) w3.heap.size wo.heap.size g' (out.length + 1) cap' o x out [] from
          ⟨row_new w3 _ rfl rfl, HF3.out.below ((Below.refl _ _).alloc (Nat.le_refl _) _), cell_kept ((Below.refl _ _).alloc (Nat.le_refl _) _) hc0, HB3.out.alloc HB3.out.size _, by omega, by omega, HB3.out.size⟩)
        clear hc0 hc1 h1 h2
        go_loopg [57] t (fun g2 s57 wy => ∃ (st : List Int) (pre : List In), s57 = .int .i64 ((st.length : Nat) : Int) ∧ pre.length = g2 ∧ Hid (pre ++ st.map con = out.take t) ∧ Hid (Inn w wy w3.heap.size wo.heap.size g' (out.length + 1) cap' o x out st))
        case atStart => exact ⟨[], out.take t, rfl, by rw [List.length_take]; have := HTL.out; omega, by show _ = _; simp, HINN.out⟩
        case round =>
          obtain ⟨st, pre, rfl, hpre, HPRE, HI⟩ := hrel
          clear HINN
          cases gk with
          | succ g2 =>
            obtain ⟨pre, c, rfl⟩ : ∃ pre' c, pre = pre' ++ [c] := by
              rcases List.eq_nil_or_concat pre with rfl | ⟨pre', c, rfl⟩
              · simp at hpre
              · exact ⟨pre', c, by simp⟩
            have hpl : pre.length = g2 := by simpa using hpre
            obtain ⟨hlen, hat, hin⟩ := fold_next out pre c (o, x) st t F HPRE.out HTL.out HFL.out
            obtain ⟨hc0, hc1⟩ := (fd_form HI.out.fd (by simp)).2.2.2 _ _ hin
            have ha0 : (F + st.length) * 2 = F * 2 + st.length * 2 := Nat.add_mul _ _ _
            rw [ha0] at hc0 hc1
            obtain ⟨oc, xc⟩ := c
            have hcl : (st.length : Int) < (t : Int) := by omega
            have hwj : IntKind.i64.wrap ((st.length : Int) + 1) = (st.length : Int) + 1 := IntWalk.i64_in _ (by have h1 := HTL.out; have h2 := HL31.out; omega)
            have HIA := Lib.hid (HI.out.alloc (.cells #[.int .i64 oc, .int .i64 xc] 47))
            have HAT := Lib.hid hat
            have HLEN := Lib.hid hlen
            have HPL := Lib.hid hpl
            clear ha0 hin hat hlen hpl hpre HF HF3 HB3 HFM HO2 HB2
            by_cases h1c : oc = 1
            · subst h1c
              have HRM := Lib.hid (show st.length < 31 by have h1 := HTL.out; have h2 := HL31.out; have h3 := HLEN.out; omega)
              go_wp2_with fail
              refine (put_any w3.heap.size st xc _ HIA.out.row HRM.out).mono ?_
              rintro _ wz ⟨rfl, hrz, htz⟩
              have HIZ := Lib.hid (HIA.out.tch hrz htz)
              clear hrz htz
              go_wp2_with fail
              go_roundg g2
              case measure => omega
              case rel => exact ⟨xc :: st, pre, by go_num, HPL.out, by show _ = _; rw [← HPRE.out, List.append_assoc]; rfl, HIZ.out⟩
            · have bne : (oc != 1) = true := by simp [h1c]
              have hfs := fstep_not out (o, x) (by show 0 < takes o; have h1 := HT.out; have h2 := HT0.out; omega) pre.length (oc, xc) HAT.out (by show _ < takes o; have h1 := HT.out; have h2 := HLEN.out; omega) h1c
              have HNX2 := Lib.hid (HNX.out.trans hfs)
              clear hfs h1c
              go_wp2_with fail
              go_roundg g
              case measure => omega
              case rel => exact ⟨K + 1, by have := HK.out; omega, by go_num, by rw [HNX2.out]; exact HIA.out.fd, HIA.out.bel⟩
          | zero =>
            obtain rfl : pre = [] := List.length_eq_zero_iff.1 hpre
            have hP := HPRE.out
            rw [List.nil_append] at hP
            obtain ⟨hst, hsp, hmem⟩ := fold_full out st t hP HTL.out
            have hv : ∀ z ∈ st, isVal z = true := fun z hz => HST.out.2.2.2.1 (con z) (hmem z hz) rfl
            obtain ⟨m, r, hstep, hlen, hmv, hmr, hcall⟩ := do_step [] [] w3.heap.size o x st wr HI.out.row (by have h1 := HT.out; have h2 := HT0.out; omega) (by have h1 := HT.out; omega) hv
            have hr0 : r.length = 0 := by have h1 := HT.out; omega
            have hfs := fstep_yes [] [] st (out.drop t) (o, x) m r (by show 0 < takes o; have h1 := HT.out; have h2 := HT0.out; omega) (by show takes o = _; have h1 := HT.out; omega) hr0 hstep
            rw [hsp] at hfs
            have HFS := Lib.hid (HNX.out.trans hfs)
            have HCALL := Lib.hid hcall
            have hcI := HI.out.c0
            have hcl : ¬ (st.length : Int) < (t : Int) := by omega
            have HR0 := Lib.hid (List.length_eq_zero_iff.1 hr0)
            clear hP hst hsp hmem hv hstep hlen hmv hmr hcall hr0 hfs hpre HF HF3 HB3 HFM HO2 HB2
            cases m with
            | none =>
              go_wp2_with fail
              refine HCALL.out.mono ?_
              rintro _ wz ⟨⟨rfl, -⟩, htz⟩
              have HFZ := Lib.hid (HI.out.fd.tch htz HI.out.nR)
              have HBZ := Lib.hid (htz.below HI.out.bel HI.out.bel.size HI.out.bR)
              clear htz HCALL
              go_wp2_with fail
              go_roundg g
              case measure => omega
              case rel => exact ⟨K + 1, by have := HK.out; omega, by go_num, by rw [HFS.out]; exact HFZ.out, HBZ.out⟩
            | some y =>
              go_wp2_with fail
              refine HCALL.out.mono ?_
              rintro _ wz ⟨⟨rfl, hry⟩, htz⟩
              have HRY := Lib.hid (hry y rfl)
              have HFZ := Lib.hid (HI.out.fd.tch htz HI.out.nR)
              have HBZ := Lib.hid (htz.below HI.out.bel HI.out.bel.size HI.out.bR)
              clear htz HCALL hry
              go_upto_region 20 with fail
              obtain ⟨hFc, hcm, hbg, -⟩ := fd_form HFZ.out (by simp)
              have hsl := fun W => cut_head W g' (out.length + 1) F cap' (by have h1 := HFL.out; omega)
              have HRD := Lib.hid (show RowAt wz.drew w3.heap.size (y :: r) from HRY.out.below ((Below.refl _ _).drew))
              have HBD := Lib.hid HBZ.out.drew
              have HOD := Lib.hid (show Fd wz.drew w.heap.size (.slice (some ⟨g', 0, none⟩) (out.length + 1) cap') ((o, x) :: out) from HFZ.out.below ((Below.refl _ _).drew))
              have HLD := Lib.hid (show (out.drop t).length = F by rw [List.length_drop]; exact HFL.out)
              have HR1 := Lib.hid (show F + 1 ≤ maxLen by have h1 := HFL.out; have h2 := HL31.out; unfold maxLen; omega)
              have HR2 := Lib.hid (show (F + 1) * 16 ≤ 140737488355328 by have h1 := HFL.out; have h2 := HL31.out; omega)
              have HBG := Lib.hid hbg
              clear hcm hbg hFc hcI HPRE
              go_region_law (first | (refine step_append_lies _ rfl _ _ 22 rfl w.heap.size 47 i0 (.agg #[.int .i64 0, .int .i64 0]) 2 16 Try.underlying22 hi hz0 hz1 hz2 rfl (by decide) (.slice (some ⟨g', 0, none⟩) F cap') F (pairCells (out.drop t).reverse) rfl (World.ownsRow.alloc HO5.out _) ⟨w5.heap.size, 0, none⟩ 1 1 [.int .i64 1, .int .i64 y] rfl rfl (World.news_of_block (cs := #[.int .i64 1, .int .i64 y]) (heap_alloc_at _ _)) (two_cell _ _) (by decide) HR1.out HR2.out HB5.out _ rfl ?_; intro g6 cap6 w6 hown6 hgrow6 hblk6 hlt6) | (go_simp; go_at_call 28; refine (take_any w3.heap.size r y _ HRD.out).mono ?_; rintro _ w5 ⟨rfl, hr5, ht5⟩; have HO5 := Lib.hid (fd_cut (HOD.out.tch ht5 HI.out.nR) rfl HTL.out HFL.out); have HB5' := Lib.hid (ht5.below HBD.out HBD.out.size HI.out.bR); have HB5 := Lib.hid ((HB5'.out.alloc HB5'.out.size (.cells #[.int .i64 1, .int .i64 y] 47)).size); clear hr5 ht5))
              all_goals
                have HF6 := Lib.hid (fd_join HLD.out hown6)
                have HB6 := Lib.hid ((HB5'.out.alloc HB5'.out.size (.cells #[.int .i64 1, .int .i64 y] 47)).grown hgrow6 HB5.out (fun k hk => by cases hk; exact HBG.out))
                clear hown6 hgrow6 hblk6 hsl
                go_wp2_with fail
                go_roundg g
                case measure => omega
                case rel => exact ⟨K + 1, by have := HK.out; omega, by go_num, by rw [HFS.out]; exact HF6.out, HB6.out⟩

set_option maxHeartbeats 400000 in
theorem fold_any (code : List In) (v : Value) (w : World) (hs : SlI w v code) (hreach : code.length * 16 ≤ 140737488351232) :
    Calls Try.prog 13 #[v] w fun e w' => (∃ v', e = .returned v' ∧ SlI w' v' (fold most code)) ∧ Below w.heap.size w w' := by
  by_cases he : (check code most most).2 = 0
  · have hf : fold most code = (outOf code code.length).reverse := by
      unfold fold
      rw [if_neg (by omega), outOf_all code code.length (Nat.le_refl _)]
    rw [hf]
    exact fold_good code v w hs he
  · have hf : fold most code = code := by unfold fold; rw [if_pos he]
    rw [hf]
    exact fold_bad code v w hs hreach he
end Go.Proofs.Ytaiogcmbpalbpaa.E
