/-
  Layer 12, the document's answers: Crash.
-/
import Derived.Test.YthdchidlfeighaaHP12Ry
import Derived.Deep.RegionHeldLaw
import Derived.Deep.AppendLies
namespace Go.Proofs.Ythdchidlfeighaa.C12
open Go Go.RowKit Go.Proofs Go.Proofs.Ythdchidlfeighaa.B Go.Proofs.Ythdchidlfeighaa.K Go.Proofs.Ythdchidlfeighaa.P8
set_option linter.unusedVariables false
set_option maxRecDepth 100000


def kept (y : Fl) (k : Nat) : Fl := ⟨y.name, y.safe ++ y.more.take k, []⟩
theorem crash_eq (y : Fl) (l : List Fl) (keep : List Int) : crashGo (y :: l) keep = if y.more = [] then ⟨y.name, y.safe, []⟩ :: crashGo l keep else
    ⟨y.name, y.safe ++ y.more.take (match keep with | [] => 0 | k :: _ => if 0 < k then (k % ((y.more.length : Int) + 1)).toNat else 0), []⟩ :: crashGo l keep.tail := rfl
theorem crash_nil {y : Fl} {l : List Fl} {keep : List Int} (h : y.more = []) : crashGo (y :: l) keep = kept y 0 :: crashGo l keep := by
  rw [crash_eq, if_pos h]
  unfold kept
  rw [h]; simp
theorem crash_none {y : Fl} {l : List Fl} (h : y.more ≠ []) : crashGo (y :: l) [] = kept y 0 :: crashGo l [] := by
  rw [crash_eq, if_neg h]; rfl
theorem crash_low {y : Fl} {l : List Fl} {k : Int} {r : List Int} (h : y.more ≠ []) (hk : ¬ 0 < k) : crashGo (y :: l) (k :: r) = kept y 0 :: crashGo l r := by
  rw [crash_eq, if_neg h]
  simp only [List.tail_cons]
  rw [if_neg hk]; rfl
theorem crash_some {y : Fl} {l : List Fl} {k : Int} {r : List Int} (h : y.more ≠ []) (hk : 0 < k) : crashGo (y :: l) (k :: r) = kept y (k % ((y.more.length : Int) + 1)).toNat :: crashGo l r := by
  rw [crash_eq, if_neg h]
  simp only [List.tail_cons]
  rw [if_pos hk]; rfl
theorem crash_next {l : List Fl} {K : Nat} {y : Fl} (keep : List Int) (h : l[K]? = some y) : l.drop K = y :: l.drop (K + 1) := by
  obtain ⟨hlt, rfl⟩ := List.getElem?_eq_some_iff.1 h
  exact List.drop_eq_getElem_cons hlt
theorem crash_each : ∀ (l : List Fl) (keep : List Int), (∀ f ∈ l, f.name.length ≤ 24 ∧ f.safe.length + f.more.length ≤ 65536) → (crashGo l keep).length = l.length ∧ ∀ f ∈ crashGo l keep, f.name.length ≤ 24 ∧ f.safe.length + f.more.length ≤ 65536
  | [], keep, h => ⟨rfl, fun f hf => by cases hf⟩
  | y :: l, keep, h => by
    have hy := h y (List.mem_cons_self ..)
    have hr : ∀ f ∈ l, f.name.length ≤ 24 ∧ f.safe.length + f.more.length ≤ 65536 := fun f hf => h f (List.mem_cons_of_mem _ hf)
    have hk : ∀ k, (kept y k).name.length ≤ 24 ∧ (kept y k).safe.length + (kept y k).more.length ≤ 65536 := fun k => ⟨hy.1, by
      unfold kept
      simp only [List.length_append, List.length_take, List.length_nil]
      omega⟩
    obtain ⟨k, kp, e⟩ : ∃ k kp, crashGo (y :: l) keep = kept y k :: crashGo l kp := by
      by_cases hm : y.more = []
      · exact ⟨0, keep, crash_nil hm⟩
      · cases keep with
        | nil => exact ⟨0, [], crash_none hm⟩
        | cons k r =>
          by_cases h0 : 0 < k
          · exact ⟨_, r, crash_some hm h0⟩
          · exact ⟨0, r, crash_low hm h0⟩
    obtain ⟨h1, h2⟩ := crash_each l kp hr
    rw [e]
    refine ⟨by rw [List.length_cons, List.length_cons, h1], fun f hf => ?_⟩
    rcases List.mem_cons.1 hf with rfl | hf
    · exact hk k
    · exact h2 f hf

theorem owns_lt {w : World} {base : Nat} {e : TypeId} {size : Nat} {v : Value} {n : Nat} {xs : List Value} (h : w.ownsRow base e size v n xs) : ∀ k, v.ownBlock = some k → k < w.heap.size := by
  intro k hk
  rcases h.2 with ⟨rfl, _⟩ | ⟨g, cap, cur, rfl, hg, hh, _⟩
  · cases hk
  · simp only [Value.ownBlock, Option.some.injEq] at hk
    rw [← hk]
    exact (Array.getElem?_eq_some_iff.1 hh).1
theorem drop_at {l : List Int} {U : Nat} {k : Int} (h : l[U]? = some k) : l.drop U = k :: l.drop (U + 1) := by
  obtain ⟨hlt, rfl⟩ := List.getElem?_eq_some_iff.1 h
  exact List.drop_eq_getElem_cons hlt

/-- The two stores that end a crash. -/
theorem RAt.calm {w w' : World} {G G' : Nat → Prop} {b : Nat} {D : Dst} (h : RAt w' G' b D) (hc : Chg G G' w w') (hG : G b) :
    RAt ((w'.setCell ⟨b, 3, none⟩ (.bool false)).setCell ⟨b, 2, none⟩ (.int .i64 0)) G' b { D with armed := 0, down := false } ∧ Chg G G' w ((w'.setCell ⟨b, 3, none⟩ (.bool false)).setCell ⟨b, 2, none⟩ (.int .i64 0)) := by
  obtain ⟨v, hrow, hfl, hg⟩ := h.cell
  have hrow2 := heap_setCell_same _ b 2 _ _ (.int .i64 0) (heap_setCell_same w' b 3 _ _ (.bool false) hrow)
  have hsz : w'.heap.size ≤ ((w'.setCell ⟨b, 3, none⟩ (.bool false)).setCell ⟨b, 2, none⟩ (.int .i64 0)).heap.size := Nat.le_trans (size_set _ _ _ _) (size_set _ _ _ _)
  have hoth : ∀ i, i ≠ b → ((w'.setCell ⟨b, 3, none⟩ (.bool false)).setCell ⟨b, 2, none⟩ (.int .i64 0)).heap[i]? = w'.heap[i]? := fun i hi => by
    rw [heap_setCell_other _ ⟨b, 2, none⟩ i _ hi, heap_setCell_other _ ⟨b, 3, none⟩ i _ hi]
  refine ⟨⟨⟨v, hrow2, hfl.same fun a n c e => hoth _ (hg a n c e).2, hg⟩, h.own, fun i hi => Nat.lt_of_lt_of_le (h.lt i hi) hsz, ⟨h.ok.room, ⟨show (0 : Int) ≤ 0 by decide, show (0 : Int) ≤ 9223372036854775807 by decide⟩, h.ok.count, h.ok.each⟩⟩, ⟨hc.turn.os, hc.turn.tape, hc.turn.output, Nat.le_trans hc.turn.size hsz, fun i hi hne => ?_⟩, hc.new⟩
  rw [hoth i (fun e => hne (e ▸ hG))]
  exact hc.turn.block i hi hne

set_option maxHeartbeats 16000000 in
theorem crash_any (keep : List Int) (kv : Value) (b : Nat) (G : Nat → Prop) (D : Dst) (w : World) (h : RAt w G b D) (hkv : Sl w kv (keep.map fun n => .int .i64 n)) (hki : ∀ n ∈ keep, n ≤ 9223372036854775807) :
    Calls Try.prog 51 #[.pointer (some ⟨b, 0, none⟩), kv] w fun e w' => ∃ G', e = .returned (.tuple #[]) ∧ RAt w' G' b (crashD D keep) ∧ Chg G G' w w' := by
  obtain ⟨v, hrow, hfl, -⟩ := h.cell
  obtain ⟨i0, z0, hi, hz0, hz1, hz2, hzc⟩ := file_info
  have hn := h.ok.count
  obtain ⟨a, cap, rfl, hc⟩ := hfl.open
  obtain ⟨ka, kcap, rfl, hkc⟩ := hkv
  rw [List.length_map]
  obtain ⟨KL, hKL⟩ : ∃ N, keep.length = N := ⟨_, rfl⟩
  obtain ⟨N, hN⟩ : ∃ N, D.files.length = N := ⟨_, rfl⟩
  rw [hN] at hrow hn
  rw [hKL]
  obtain ⟨c1, f1⟩ := row_at hrow 1 _ rfl
  have H := Lib.hid h
  have HC := Lib.hid hc
  have HN := Lib.hid hN
  have HKL := Lib.hid hKL
  have HKC := Lib.hid hkc
  have HKI := Lib.hid hki
  clear hc hN hfl hrow h hKL hkc hki
  go_enter Try.func51, Try.ntmps51
  go_wp2_with fail
  go_loopw [4, 5, 6] (fun o u i wr => ∃ (K U : Nat) (xs : List Fl), i = .int .i64 (K : Int) ∧ u = .int .i64 (U : Int) ∧ K ≤ N ∧ U ≤ K ∧ wr.ownsRow w.heap.size 41 3 o xs.length (xs.flatMap flC) ∧ Hid (crashGo D.files keep = xs ++ crashGo (D.files.drop K) (keep.drop U)) ∧ Hid (xs.length = K) ∧ Hid (Below w.heap.size w wr)) (fun _ _ i _ => N - (intOf i).toNat)
  case atStart => exact ⟨0, 0, [], rfl, rfl, Nat.zero_le _, Nat.le_refl _, World.ownsRow_nil _ _ _ _, Lib.hid rfl, Lib.hid rfl, Lib.hid (Below.refl _ _)⟩
  case round =>
    obtain ⟨K, U, xs, rfl, rfl, hK, hUK, hown, HJ, HX, HB⟩ := hrel
    obtain ⟨ov, oc, rfl⟩ := shape_own hown
    rw [HX.out] at hown ⊢
    by_cases hlt : K < N
    · have hltI : (K : Int) < (N : Int) := by omega
      have hk0 : 0 ≤ (K : Int) := by omega
      have hU0 : 0 ≤ (U : Int) := by omega
      have hw1 : IntKind.i64.wrap ((K : Int) + 1) = (K : Int) + 1 := IntWalk.i64_in _ (by omega)
      have hw2 : IntKind.i64.wrap ((U : Int) + 1) = (U : Int) + 1 := IntWalk.i64_in _ (by omega)
      obtain ⟨y, hy⟩ : ∃ y, D.files[K]? = some y := ⟨_, List.getElem?_eq_getElem (by rw [HN.out]; exact hlt)⟩
      obtain ⟨b', off, rfl, k0, k1, k2⟩ := HC.out K y hy
      have hye := H.out.ok.each y (List.mem_of_getElem? hy)
      have hd := HJ.out
      rw [crash_next keep hy] at hd
      have k0' := kept_cell HB.out k0
      have k1' := kept_cell HB.out k1
      have k2' := kept_cell HB.out k2
      have c1' := kept_cell HB.out c1
      obtain ⟨X, hX⟩ : ∃ X, wr.alloc (.cells #[.string (str y.name), .string (str y.safe), .string (str y.more)] 41) = X := ⟨_, rfl⟩
      obtain ⟨g1, hg1⟩ : ∃ g, wr.heap.size = g := ⟨_, rfl⟩
      have hBX : Below wr.heap.size wr X := by rw [← hX]; exact below_alloc _ _
      have m0 : X.cell? ⟨g1, 0, none⟩ = some (.string (str y.name)) := by rw [← hX, ← hg1]; exact alloc_cell wr [_, _, _] _ 0 _ rfl
      have m1 : X.cell? ⟨g1, 1, none⟩ = some (.string (str y.safe)) := by rw [← hX, ← hg1]; exact alloc_cell wr [_, _, _] _ 1 _ rfl
      have m2 : X.cell? ⟨g1, 2, none⟩ = some (.string (str y.more)) := by rw [← hX, ← hg1]; exact alloc_cell wr [_, _, _] _ 2 _ rfl
      have HOX := Lib.hid (own_kept hown hBX)
      have HNE := Lib.hid (show some g1 ≠ (Value.slice ov K oc).ownBlock from fun e => by have := owns_lt hown g1 e.symm; omega)
      have HBX := Lib.hid (HB.out.trans (hBX.mono HB.out.size))
      obtain ⟨M, hM⟩ : ∃ M, y.more.length = M := ⟨_, rfl⟩
      have zm : (str y.more).size = M := by rw [str_size]; exact hM
      rw [hM] at hye
      have HMM := Lib.hid hM
      clear k0 k1 k2 hy hown hBX hM
      by_cases hm : y.more = []
      · rw [crash_nil hm] at hd
        have HD := Lib.hid hd
        have t1 : (str y.more).toList = [] := by rw [str_toList]; exact hm
        have t2 : (str y.more).toList.isEmpty = true := by rw [str_toList, hm]; rfl
        have t3 : ((str y.more).toList == []) = true := by rw [str_toList, hm]; rfl
        clear hd hm
        go_upto_region 11 with fail
        have HBY := HBX
        have HOY := HOX
        have s0 := m0
        have s1 := m1
        have s2 := m2
        have hkz : 0 ≤ (0 : Int) := by decide
        have hcut := str_take y.more (0)
        have e1 := add_str12 y.safe (y.more.take (0)) (by rw [List.length_take]; have := HMM.out; omega)
        obtain ⟨P, hP⟩ : ∃ P, y.safe ++ y.more.take (0) = P := ⟨_, rfl⟩
        obtain ⟨Q0, hQ0⟩ : ∃ P, y.more.take (0) = P := ⟨_, rfl⟩
        rw [hP] at e1
        rw [hQ0] at e1 hcut
        have e2 : ∀ W, (Op.stringOp .add (str y.safe) ⟨#[]⟩).run Try.prog W = .ok (.string (str P)) W := by rw [← hP, List.take_zero]; exact add_str12 y.safe [] (by simp only [List.length_nil]; omega)
        have e3 : ∀ W, (Op.stringOp .add (str y.safe) ByteArray.empty).run Try.prog W = .ok (.string (str P)) W := e2
        have HP := Lib.hid hP
        have HC4 := Lib.hid (show (K + 1) * 48 ≤ 140737488355328 by omega)
        have HC5 := Lib.hid (show w.heap.size ≤ (X.drew.alloc (.cells #[.string (str y.name), .string (str P), .string ⟨#[]⟩] 41)).heap.size from Nat.le_trans HBY.out.size (below_alloc X.drew _).size)
        have HOA := Lib.hid (show (X.drew.alloc (.cells #[.string (str y.name), .string (str P), .string ⟨#[]⟩] 41)).ownsRow w.heap.size 41 3 (.slice ov K oc) K (xs.flatMap flC) from World.ownsRow.alloc (w := X.drew) (own_kept HOY.out (Below.refl _ _).drew) _)
        have hS0 : (X.drew.cell? ⟨g1, 0, none⟩ = some (Value.string (str y.name)) ∧ X.drew.cell? ⟨g1, 1, none⟩ = some (Value.string (str y.safe)) ∧ X.drew.cell? ⟨g1, 2, none⟩ = some (Value.string (str y.more))) := ⟨s0, s1, s2⟩
        have hS1 : ((X.drew.alloc (.cells #[.string (str y.name), .string (str P), .string ⟨#[]⟩] 41)).cell? ⟨g1, 0, none⟩ = some (Value.string (str y.name)) ∧ (X.drew.alloc (.cells #[.string (str y.name), .string (str P), .string ⟨#[]⟩] 41)).cell? ⟨g1, 1, none⟩ = some (Value.string (str y.safe)) ∧ (X.drew.alloc (.cells #[.string (str y.name), .string (str P), .string ⟨#[]⟩] 41)).cell? ⟨g1, 2, none⟩ = some (Value.string (str y.more))) := ⟨kept_cell (below_alloc _ _) hS0.1, kept_cell (below_alloc _ _) hS0.2.1, kept_cell (below_alloc _ _) hS0.2.2⟩
        have HBA := Lib.hid (show Below w.heap.size w (X.drew.alloc (.cells #[.string (str y.name), .string (str P), .string ⟨#[]⟩] 41)) from (HBY.out.drew).alloc HBY.out.size _)
        have HG1 := Lib.hid (World.block_lt_of_cell? _ _ hS1.1)
        clear hP hQ0
        go_region_held_law (fun W => (W.cell? ⟨g1, 0, none⟩ = some (Value.string (str y.name)) ∧ W.cell? ⟨g1, 1, none⟩ = some (Value.string (str y.safe)) ∧ W.cell? ⟨g1, 2, none⟩ = some (Value.string (str y.more)))) (first | exact hS0 | exact hS1 | assumption) (first | (refine step_append_lies _ rfl _ _ 31 rfl w.heap.size 41 i0 z0 3 48 Try.underlying31 hi hz0 hz1 hz2 hzc (by decide) (.slice ov K oc) K (xs.flatMap flC) rfl HOA.out ⟨X.heap.size, 0, none⟩ 1 1 [.string (str y.name), .string (str P), .string ⟨#[]⟩] rfl rfl (World.news_of_block (cs := #[.string (str y.name), .string (str P), .string ⟨#[]⟩]) (heap_alloc_at X.drew _)) (three_one _ _ _) (by decide) (by unfold maxLen; omega) HC4.out HC5.out _ rfl ?_; intro g5 cap5 w5 hown5 hgr5 hat5 hlt5; have HB5 := Lib.hid (HBA.out.grown hgr5 HC5.out (owns_blk HOA.out)); have HO5 := Lib.hid hown5; have hS5 : (w5.cell? ⟨g1, 0, none⟩ = some (Value.string (str y.name)) ∧ w5.cell? ⟨g1, 1, none⟩ = some (Value.string (str y.safe)) ∧ w5.cell? ⟨g1, 2, none⟩ = some (Value.string (str y.more))) := ⟨(hgr5.cell_far ⟨g1, 0, none⟩ HG1.out HNE.out).trans hS1.1, (hgr5.cell_far ⟨g1, 1, none⟩ HG1.out HNE.out).trans hS1.2.1, (hgr5.cell_far ⟨g1, 2, none⟩ HG1.out HNE.out).trans hS1.2.2⟩; clear hown5 hgr5 hat5 hlt5))
        go_wp2_with fail
        go_roundw
        case rel => exact ⟨K + 1, U, xs ++ [kept y (0)], by go_num, rfl, by omega, by omega, (by have := own_snoc2 (kept y (0)) (n := K) (xs := xs) (by have := HO5.out; rw [← HP.out] at this; exact this); rw [List.length_append, HX.out]; exact this), Lib.hid (by rw [HD.out]; simp), Lib.hid (by rw [List.length_append, HX.out]; rfl), HB5⟩
        case measure => simp [intOf]; omega
      · have t1 : ¬ (str y.more).toList = [] := by rw [str_toList]; exact hm
        have t2 : (str y.more).toList.isEmpty = false := by rw [str_toList]; simpa using hm
        have t3 : ((str y.more).toList == []) = false := by rw [str_toList]; simpa using hm
        by_cases hUK : U < KL
        · have hUI : (U : Int) < (KL : Int) := by omega
          obtain ⟨kn, hkn⟩ : ∃ k, keep[U]? = some k := ⟨_, List.getElem?_eq_getElem (by rw [HKL.out]; exact hUK)⟩
          obtain ⟨kb, ko, rfl, hkc⟩ := HKC.out U (.int .i64 kn) (by rw [List.getElem?_map, hkn]; rfl)
          have hkc' := kept_cell HBX.out hkc
          rw [drop_at hkn] at hd
          have hkm := HKI.out kn (List.mem_of_getElem? hkn)
          clear hkc hkn
          by_cases hk0' : 0 < kn
          · rw [crash_some hm hk0', HMM.out] at hd
            obtain ⟨kk, hkk⟩ : ∃ kk : Nat, (kn % ((M : Int) + 1)).toNat = kk := ⟨_, rfl⟩
            have hmn := Int.emod_nonneg kn (show (M : Int) + 1 ≠ 0 by omega)
            have hml := Int.emod_lt_of_pos kn (show (0 : Int) < (M : Int) + 1 by omega)
            have hkI : kn % ((M : Int) + 1) = (kk : Int) := by omega
            have hkM : (kk : Int) ≤ (M : Int) := by omega
            have hkz : 0 ≤ (kk : Int) := by omega
            have hq1 : Int.tmod kn ((M : Int) + 1) = (kk : Int) := by rw [Int.tmod_eq_emod_of_nonneg (by omega)]; exact hkI
            have hq2 : IntKind.i64.wrap (kk : Int) = (kk : Int) := IntWalk.i64_in _ (by omega)
            have hq3 : IntKind.i64.wrap ((M : Int) + 1) = (M : Int) + 1 := IntWalk.i64_in _ (by omega)
            have hq4 : ¬ (M : Int) + 1 = 0 := by omega
            have hq5 : ((M : Int) + 1 == 0) = false := beq_eq_false_iff_ne.2 hq4
            have hq6 : (kk : Int).toNat = kk := by omega
            rw [hkk] at hd
            have HD := Lib.hid hd
            clear hd hm hkk hkI hmn hml
            go_wp2_with fail
            go_quiet (fail)
            have HBY := Lib.hid (HBX.out.trans ((drewN_below X nq).mono HBX.out.size))
            have HOY := Lib.hid (own_kept HOX.out (drewN_below X nq))
            have s0 := kept_cell (drewN_below X nq) m0
            have s1 := kept_cell (drewN_below X nq) m1
            have s2 := kept_cell (drewN_below X nq) m2
            obtain ⟨Y, hY⟩ : ∃ Y, X.drewN nq = Y := ⟨_, rfl⟩
            rw [hY] at HBY HOY s0 s1 s2 ⊢
            clear hY m0 m1 m2 hX
            go_upto_region 11 with fail
            have hcut := str_take y.more (kk)
            have e1 := add_str12 y.safe (y.more.take (kk)) (by rw [List.length_take]; have := HMM.out; omega)
            obtain ⟨P, hP⟩ : ∃ P, y.safe ++ y.more.take (kk) = P := ⟨_, rfl⟩
            obtain ⟨Q0, hQ0⟩ : ∃ P, y.more.take (kk) = P := ⟨_, rfl⟩
            rw [hP] at e1
            rw [hQ0] at e1 hcut
            have HP := Lib.hid hP
            have HC4 := Lib.hid (show (K + 1) * 48 ≤ 140737488355328 by omega)
            have HC5 := Lib.hid (show w.heap.size ≤ (Y.drew.alloc (.cells #[.string (str y.name), .string (str P), .string ⟨#[]⟩] 41)).heap.size from Nat.le_trans HBY.out.size (below_alloc Y.drew _).size)
            have HOA := Lib.hid (show (Y.drew.alloc (.cells #[.string (str y.name), .string (str P), .string ⟨#[]⟩] 41)).ownsRow w.heap.size 41 3 (.slice ov K oc) K (xs.flatMap flC) from World.ownsRow.alloc (w := Y.drew) (own_kept HOY.out (Below.refl _ _).drew) _)
            have hS0 : (Y.drew.cell? ⟨g1, 0, none⟩ = some (Value.string (str y.name)) ∧ Y.drew.cell? ⟨g1, 1, none⟩ = some (Value.string (str y.safe)) ∧ Y.drew.cell? ⟨g1, 2, none⟩ = some (Value.string (str y.more))) := ⟨s0, s1, s2⟩
            have hS1 : ((Y.drew.alloc (.cells #[.string (str y.name), .string (str P), .string ⟨#[]⟩] 41)).cell? ⟨g1, 0, none⟩ = some (Value.string (str y.name)) ∧ (Y.drew.alloc (.cells #[.string (str y.name), .string (str P), .string ⟨#[]⟩] 41)).cell? ⟨g1, 1, none⟩ = some (Value.string (str y.safe)) ∧ (Y.drew.alloc (.cells #[.string (str y.name), .string (str P), .string ⟨#[]⟩] 41)).cell? ⟨g1, 2, none⟩ = some (Value.string (str y.more))) := ⟨kept_cell (below_alloc _ _) hS0.1, kept_cell (below_alloc _ _) hS0.2.1, kept_cell (below_alloc _ _) hS0.2.2⟩
            have HBA := Lib.hid (show Below w.heap.size w (Y.drew.alloc (.cells #[.string (str y.name), .string (str P), .string ⟨#[]⟩] 41)) from (HBY.out.drew).alloc HBY.out.size _)
            have HG1 := Lib.hid (World.block_lt_of_cell? _ _ hS1.1)
            clear hP hQ0
            go_region_held_law (fun W => (W.cell? ⟨g1, 0, none⟩ = some (Value.string (str y.name)) ∧ W.cell? ⟨g1, 1, none⟩ = some (Value.string (str y.safe)) ∧ W.cell? ⟨g1, 2, none⟩ = some (Value.string (str y.more)))) (first | exact hS0 | exact hS1 | assumption) (first | (refine step_append_lies _ rfl _ _ 31 rfl w.heap.size 41 i0 z0 3 48 Try.underlying31 hi hz0 hz1 hz2 hzc (by decide) (.slice ov K oc) K (xs.flatMap flC) rfl HOA.out ⟨Y.heap.size, 0, none⟩ 1 1 [.string (str y.name), .string (str P), .string ⟨#[]⟩] rfl rfl (World.news_of_block (cs := #[.string (str y.name), .string (str P), .string ⟨#[]⟩]) (heap_alloc_at Y.drew _)) (three_one _ _ _) (by decide) (by unfold maxLen; omega) HC4.out HC5.out _ rfl ?_; intro g5 cap5 w5 hown5 hgr5 hat5 hlt5; have HB5 := Lib.hid (HBA.out.grown hgr5 HC5.out (owns_blk HOA.out)); have HO5 := Lib.hid hown5; have hS5 : (w5.cell? ⟨g1, 0, none⟩ = some (Value.string (str y.name)) ∧ w5.cell? ⟨g1, 1, none⟩ = some (Value.string (str y.safe)) ∧ w5.cell? ⟨g1, 2, none⟩ = some (Value.string (str y.more))) := ⟨(hgr5.cell_far ⟨g1, 0, none⟩ HG1.out HNE.out).trans hS1.1, (hgr5.cell_far ⟨g1, 1, none⟩ HG1.out HNE.out).trans hS1.2.1, (hgr5.cell_far ⟨g1, 2, none⟩ HG1.out HNE.out).trans hS1.2.2⟩; clear hown5 hgr5 hat5 hlt5))
            go_wp2_with fail
            go_roundw
            case rel => exact ⟨K + 1, U + 1, xs ++ [kept y (kk)], by go_num, rfl, by omega, by omega, (by have := own_snoc2 (kept y (kk)) (n := K) (xs := xs) (by have := HO5.out; rw [← HP.out] at this; exact this); rw [List.length_append, HX.out]; exact this), Lib.hid (by rw [HD.out]; simp), Lib.hid (by rw [List.length_append, HX.out]; rfl), HB5⟩
            case measure => simp [intOf]; omega
          · rw [crash_low hm hk0'] at hd
            have HD := Lib.hid hd
            have hk1' : decide (0 < kn) = false := decide_eq_false hk0'
            clear hd hm
            go_upto_region 11 with fail
            have HBY := HBX
            have HOY := HOX
            have s0 := m0
            have s1 := m1
            have s2 := m2
            have hkz : 0 ≤ (0 : Int) := by decide
            have hcut := str_take y.more (0)
            have e1 := add_str12 y.safe (y.more.take (0)) (by rw [List.length_take]; have := HMM.out; omega)
            obtain ⟨P, hP⟩ : ∃ P, y.safe ++ y.more.take (0) = P := ⟨_, rfl⟩
            obtain ⟨Q0, hQ0⟩ : ∃ P, y.more.take (0) = P := ⟨_, rfl⟩
            rw [hP] at e1
            rw [hQ0] at e1 hcut
            have e2 : ∀ W, (Op.stringOp .add (str y.safe) ⟨#[]⟩).run Try.prog W = .ok (.string (str P)) W := by rw [← hP, List.take_zero]; exact add_str12 y.safe [] (by simp only [List.length_nil]; omega)
            have e3 : ∀ W, (Op.stringOp .add (str y.safe) ByteArray.empty).run Try.prog W = .ok (.string (str P)) W := e2
            have HP := Lib.hid hP
            have HC4 := Lib.hid (show (K + 1) * 48 ≤ 140737488355328 by omega)
            have HC5 := Lib.hid (show w.heap.size ≤ (X.drew.alloc (.cells #[.string (str y.name), .string (str P), .string ⟨#[]⟩] 41)).heap.size from Nat.le_trans HBY.out.size (below_alloc X.drew _).size)
            have HOA := Lib.hid (show (X.drew.alloc (.cells #[.string (str y.name), .string (str P), .string ⟨#[]⟩] 41)).ownsRow w.heap.size 41 3 (.slice ov K oc) K (xs.flatMap flC) from World.ownsRow.alloc (w := X.drew) (own_kept HOY.out (Below.refl _ _).drew) _)
            have hS0 : (X.drew.cell? ⟨g1, 0, none⟩ = some (Value.string (str y.name)) ∧ X.drew.cell? ⟨g1, 1, none⟩ = some (Value.string (str y.safe)) ∧ X.drew.cell? ⟨g1, 2, none⟩ = some (Value.string (str y.more))) := ⟨s0, s1, s2⟩
            have hS1 : ((X.drew.alloc (.cells #[.string (str y.name), .string (str P), .string ⟨#[]⟩] 41)).cell? ⟨g1, 0, none⟩ = some (Value.string (str y.name)) ∧ (X.drew.alloc (.cells #[.string (str y.name), .string (str P), .string ⟨#[]⟩] 41)).cell? ⟨g1, 1, none⟩ = some (Value.string (str y.safe)) ∧ (X.drew.alloc (.cells #[.string (str y.name), .string (str P), .string ⟨#[]⟩] 41)).cell? ⟨g1, 2, none⟩ = some (Value.string (str y.more))) := ⟨kept_cell (below_alloc _ _) hS0.1, kept_cell (below_alloc _ _) hS0.2.1, kept_cell (below_alloc _ _) hS0.2.2⟩
            have HBA := Lib.hid (show Below w.heap.size w (X.drew.alloc (.cells #[.string (str y.name), .string (str P), .string ⟨#[]⟩] 41)) from (HBY.out.drew).alloc HBY.out.size _)
            have HG1 := Lib.hid (World.block_lt_of_cell? _ _ hS1.1)
            clear hP hQ0
            go_region_held_law (fun W => (W.cell? ⟨g1, 0, none⟩ = some (Value.string (str y.name)) ∧ W.cell? ⟨g1, 1, none⟩ = some (Value.string (str y.safe)) ∧ W.cell? ⟨g1, 2, none⟩ = some (Value.string (str y.more)))) (first | exact hS0 | exact hS1 | assumption) (first | (refine step_append_lies _ rfl _ _ 31 rfl w.heap.size 41 i0 z0 3 48 Try.underlying31 hi hz0 hz1 hz2 hzc (by decide) (.slice ov K oc) K (xs.flatMap flC) rfl HOA.out ⟨X.heap.size, 0, none⟩ 1 1 [.string (str y.name), .string (str P), .string ⟨#[]⟩] rfl rfl (World.news_of_block (cs := #[.string (str y.name), .string (str P), .string ⟨#[]⟩]) (heap_alloc_at X.drew _)) (three_one _ _ _) (by decide) (by unfold maxLen; omega) HC4.out HC5.out _ rfl ?_; intro g5 cap5 w5 hown5 hgr5 hat5 hlt5; have HB5 := Lib.hid (HBA.out.grown hgr5 HC5.out (owns_blk HOA.out)); have HO5 := Lib.hid hown5; have hS5 : (w5.cell? ⟨g1, 0, none⟩ = some (Value.string (str y.name)) ∧ w5.cell? ⟨g1, 1, none⟩ = some (Value.string (str y.safe)) ∧ w5.cell? ⟨g1, 2, none⟩ = some (Value.string (str y.more))) := ⟨(hgr5.cell_far ⟨g1, 0, none⟩ HG1.out HNE.out).trans hS1.1, (hgr5.cell_far ⟨g1, 1, none⟩ HG1.out HNE.out).trans hS1.2.1, (hgr5.cell_far ⟨g1, 2, none⟩ HG1.out HNE.out).trans hS1.2.2⟩; clear hown5 hgr5 hat5 hlt5))
            go_wp2_with fail
            go_roundw
            case rel => exact ⟨K + 1, U + 1, xs ++ [kept y (0)], by go_num, rfl, by omega, by omega, (by have := own_snoc2 (kept y (0)) (n := K) (xs := xs) (by have := HO5.out; rw [← HP.out] at this; exact this); rw [List.length_append, HX.out]; exact this), Lib.hid (by rw [HD.out]; simp), Lib.hid (by rw [List.length_append, HX.out]; rfl), HB5⟩
            case measure => simp [intOf]; omega
        · have hUI : ¬ (U : Int) < (KL : Int) := by omega
          have hUD : decide ((U : Int) < (KL : Int)) = false := decide_eq_false hUI
          rw [List.drop_of_length_le (i := U) (by rw [HKL.out]; omega), crash_none hm, show ([] : List Int) = keep.drop (U + 1) by rw [List.drop_of_length_le (by rw [HKL.out]; omega)]] at hd
          have HD := Lib.hid hd
          clear hd hm
          go_upto_region 11 with fail
          have HBY := HBX
          have HOY := HOX
          have s0 := m0
          have s1 := m1
          have s2 := m2
          have hkz : 0 ≤ (0 : Int) := by decide
          have hcut := str_take y.more (0)
          have e1 := add_str12 y.safe (y.more.take (0)) (by rw [List.length_take]; have := HMM.out; omega)
          obtain ⟨P, hP⟩ : ∃ P, y.safe ++ y.more.take (0) = P := ⟨_, rfl⟩
          obtain ⟨Q0, hQ0⟩ : ∃ P, y.more.take (0) = P := ⟨_, rfl⟩
          rw [hP] at e1
          rw [hQ0] at e1 hcut
          have e2 : ∀ W, (Op.stringOp .add (str y.safe) ⟨#[]⟩).run Try.prog W = .ok (.string (str P)) W := by rw [← hP, List.take_zero]; exact add_str12 y.safe [] (by simp only [List.length_nil]; omega)
          have e3 : ∀ W, (Op.stringOp .add (str y.safe) ByteArray.empty).run Try.prog W = .ok (.string (str P)) W := e2
          have HP := Lib.hid hP
          have HC4 := Lib.hid (show (K + 1) * 48 ≤ 140737488355328 by omega)
          have HC5 := Lib.hid (show w.heap.size ≤ (X.drew.alloc (.cells #[.string (str y.name), .string (str P), .string ⟨#[]⟩] 41)).heap.size from Nat.le_trans HBY.out.size (below_alloc X.drew _).size)
          have HOA := Lib.hid (show (X.drew.alloc (.cells #[.string (str y.name), .string (str P), .string ⟨#[]⟩] 41)).ownsRow w.heap.size 41 3 (.slice ov K oc) K (xs.flatMap flC) from World.ownsRow.alloc (w := X.drew) (own_kept HOY.out (Below.refl _ _).drew) _)
          have hS0 : (X.drew.cell? ⟨g1, 0, none⟩ = some (Value.string (str y.name)) ∧ X.drew.cell? ⟨g1, 1, none⟩ = some (Value.string (str y.safe)) ∧ X.drew.cell? ⟨g1, 2, none⟩ = some (Value.string (str y.more))) := ⟨s0, s1, s2⟩
          have hS1 : ((X.drew.alloc (.cells #[.string (str y.name), .string (str P), .string ⟨#[]⟩] 41)).cell? ⟨g1, 0, none⟩ = some (Value.string (str y.name)) ∧ (X.drew.alloc (.cells #[.string (str y.name), .string (str P), .string ⟨#[]⟩] 41)).cell? ⟨g1, 1, none⟩ = some (Value.string (str y.safe)) ∧ (X.drew.alloc (.cells #[.string (str y.name), .string (str P), .string ⟨#[]⟩] 41)).cell? ⟨g1, 2, none⟩ = some (Value.string (str y.more))) := ⟨kept_cell (below_alloc _ _) hS0.1, kept_cell (below_alloc _ _) hS0.2.1, kept_cell (below_alloc _ _) hS0.2.2⟩
          have HBA := Lib.hid (show Below w.heap.size w (X.drew.alloc (.cells #[.string (str y.name), .string (str P), .string ⟨#[]⟩] 41)) from (HBY.out.drew).alloc HBY.out.size _)
          have HG1 := Lib.hid (World.block_lt_of_cell? _ _ hS1.1)
          clear hP hQ0
          go_region_held_law (fun W => (W.cell? ⟨g1, 0, none⟩ = some (Value.string (str y.name)) ∧ W.cell? ⟨g1, 1, none⟩ = some (Value.string (str y.safe)) ∧ W.cell? ⟨g1, 2, none⟩ = some (Value.string (str y.more)))) (first | exact hS0 | exact hS1 | assumption) (first | (refine step_append_lies _ rfl _ _ 31 rfl w.heap.size 41 i0 z0 3 48 Try.underlying31 hi hz0 hz1 hz2 hzc (by decide) (.slice ov K oc) K (xs.flatMap flC) rfl HOA.out ⟨X.heap.size, 0, none⟩ 1 1 [.string (str y.name), .string (str P), .string ⟨#[]⟩] rfl rfl (World.news_of_block (cs := #[.string (str y.name), .string (str P), .string ⟨#[]⟩]) (heap_alloc_at X.drew _)) (three_one _ _ _) (by decide) (by unfold maxLen; omega) HC4.out HC5.out _ rfl ?_; intro g5 cap5 w5 hown5 hgr5 hat5 hlt5; have HB5 := Lib.hid (HBA.out.grown hgr5 HC5.out (owns_blk HOA.out)); have HO5 := Lib.hid hown5; have hS5 : (w5.cell? ⟨g1, 0, none⟩ = some (Value.string (str y.name)) ∧ w5.cell? ⟨g1, 1, none⟩ = some (Value.string (str y.safe)) ∧ w5.cell? ⟨g1, 2, none⟩ = some (Value.string (str y.more))) := ⟨(hgr5.cell_far ⟨g1, 0, none⟩ HG1.out HNE.out).trans hS1.1, (hgr5.cell_far ⟨g1, 1, none⟩ HG1.out HNE.out).trans hS1.2.1, (hgr5.cell_far ⟨g1, 2, none⟩ HG1.out HNE.out).trans hS1.2.2⟩; clear hown5 hgr5 hat5 hlt5))
          go_wp2_with fail
          go_roundw
          case rel => exact ⟨K + 1, U + 1, xs ++ [kept y (0)], by go_num, rfl, by omega, by omega, (by have := own_snoc2 (kept y (0)) (n := K) (xs := xs) (by have := HO5.out; rw [← HP.out] at this; exact this); rw [List.length_append, HX.out]; exact this), Lib.hid (by rw [HD.out]; simp), Lib.hid (by rw [List.length_append, HX.out]; rfl), HB5⟩
          case measure => simp [intOf]; omega
    · have hltI : ¬ (K : Int) < (N : Int) := by omega
      have hd := HJ.out
      rw [List.drop_of_length_le (i := K) (by rw [HN.out]; omega)] at hd
      have hd2 : crashGo D.files keep = xs := by rw [hd]; simp [crashGo]
      have HD := Lib.hid hd2
      have c1' := kept_cell HB.out c1
      obtain ⟨f0', f1', f2', f3'⟩ : (wr.frozen? ⟨b, 0, none⟩ = false) ∧ (wr.frozen? ⟨b, 1, none⟩ = false) ∧ (wr.frozen? ⟨b, 2, none⟩ = false) ∧ (wr.frozen? ⟨b, 3, none⟩ = false) := by
        obtain ⟨v9, hr9, -⟩ := (H.out.below HB.out).cell
        exact ⟨(row_at hr9 0 _ rfl).2, (row_at hr9 1 _ rfl).2, (row_at hr9 2 _ rfl).2, (row_at hr9 3 _ rfl).2⟩
      obtain ⟨c2', c3'⟩ : (wr.cell? ⟨b, 2, none⟩ = some (.int .i64 D.armed)) ∧ (wr.cell? ⟨b, 3, none⟩ = some (.bool D.down)) := by
        obtain ⟨v9, hr9, -⟩ := (H.out.below HB.out).cell
        exact ⟨(row_at hr9 2 _ rfl).1, (row_at hr9 3 _ rfl).1⟩
      have HO := Lib.hid hown
      clear hd hd2 hown c1
      go_wp2_with fail
      go_end0
      have hcr := crash_each D.files keep H.out.ok.each
      obtain ⟨hr, hcg⟩ := H.out.files (l := xs) HB.out (Nat.le_refl _) (by rw [HX.out]; exact HO.out) (by rw [← HD.out, hcr.1, HN.out]; exact hn) (fun f hf => hcr.2 f (by rw [HD.out]; exact hf))
      obtain ⟨hr2, hcg2⟩ := hr.calm hcg H.out.own
      refine ⟨rfl, _, ?_, hcg2⟩
      unfold crashD
      rw [HD.out]
      exact hr2
end Go.Proofs.Ythdchidlfeighaa.C12
