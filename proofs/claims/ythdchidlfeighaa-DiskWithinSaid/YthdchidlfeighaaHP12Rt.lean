/-
  Layer 12, the document's answers: a file in its place.
-/
import Derived.Test.YthdchidlfeighaaHP8RefB
import Derived.Test.YthdchidlfeighaaHP8RefE
import Derived.Deep.RegionHeld3
import Derived.Deep.DeepCutAuto
namespace Go.Proofs.Ythdchidlfeighaa.C12
open Go Go.RowKit Go.Proofs Go.Proofs.Ythdchidlfeighaa.B Go.Proofs.Ythdchidlfeighaa.K Go.Proofs.Ythdchidlfeighaa.P8
set_option linter.unusedVariables false
set_option maxRecDepth 100000

/-- A world of a class. -/
structure WdQ (S : World → Prop) where
  val : World
  ok : S val
theorem region_quiet_q {P : Program} {S : World → Prop} {id : Nat} {Q : Exit → Act → World → Prop} {a : Act} {w : World} {l : List Oper} (hm : P.follows .mixedOrders = true) (hB : Region.lexB .any l.toArray = true) (hS : S w.drew)
    (h : wpQuiet P l.toArray (fun w' => ∃ x : WdQ S, w' = x.val) (fun a' => ∀ w', (∃ x : WdQ S, w' = x.val) → Q .normal a' w') l a) : (Code.region id l.toArray true).wp P Q a w :=
  wp_region_quiet (C := fun w' => ∃ x : WdQ S, w' = x.val) hm hB ⟨⟨_, hS⟩, rfl⟩ (by simpa using h)
theorem wdq_call {P : Program} {S : World → Prop} {f : FuncId} {args : Array Value} {v : Value} (h : ∀ W, S W → Calls P f args W fun e w' => e = .returned v ∧ S w') (x : WdQ S) : Calls P f args x.val fun e w' => e = .returned v ∧ ∃ y : WdQ S, w' = y.val :=
  (h x.val x.ok).mono fun _ w' ⟨h1, h2⟩ => ⟨h1, ⟨w', h2⟩, rfl⟩
theorem own_kept {w w' : World} {B : Nat} {e : TypeId} {k : Nat} {v : Value} {n : Nat} {xs : List Value} (h : w.ownsRow B e k v n xs) (hb : Below w.heap.size w w') : w'.ownsRow B e k v n xs :=
  h.kept (row := none) ⟨hb.os, hb.tape, hb.output, hb.size, fun j hj _ => hb.block j hj⟩ (by cases hv : v.ownBlock <;> simp)
theorem own_snoc2 {w : World} {q n : Nat} {v : Value} {xs : List Fl} (y : Fl) (h : w.ownsRow q 41 3 v (n + 1) (xs.flatMap flC ++ [.string (str y.name), .string (str y.safe), .string (str y.more)])) : w.ownsRow q 41 3 v (n + 1) ((xs ++ [y]).flatMap flC) := by
  rw [List.flatMap_append]
  simpa [flC] using h
theorem set_next {l : List Fl} {K : Nat} {y : Fl} (f : Fl) (d : Bool) (h : l[K]? = some y) : setGo f (l.drop K) d = (if !d && !lessL y.name f.name then [f] else []) ++ ((if y.name = f.name then [] else [y]) ++ setGo f (l.drop (K + 1)) (d || !lessL y.name f.name)) := by
  obtain ⟨hlt, rfl⟩ := List.getElem?_eq_some_iff.1 h
  rw [List.drop_eq_getElem_cons hlt, setGo]
theorem set_mem (f : Fl) : ∀ (l : List Fl) (d : Bool) (x : Fl), x ∈ setGo f l d → x = f ∨ x ∈ l
  | [], d, x, h => by
    unfold setGo at h
    split at h
    · cases h
    · left; simpa using h
  | y :: l, d, x, h => by
    unfold setGo at h
    rcases List.mem_append.1 h with h | h
    · split at h
      · left; simpa using h
      · cases h
    · rcases List.mem_append.1 h with h | h
      · split at h
        · cases h
        · right; rw [List.mem_singleton.1 h]; exact List.mem_cons_self ..
      · rcases set_mem f l _ x h with h | h
        · exact Or.inl h
        · exact Or.inr (List.mem_cons_of_mem _ h)

set_option maxHeartbeats 16000000 in
theorem set_any (f : Fl) (b : Nat) (G : Nat → Prop) (D : Dst) (w : World) (h : RAt w G b D) (hl : (setF D.files f).length ≤ 128) (hf : f.name.length ≤ 24 ∧ f.safe.length + f.more.length ≤ 65536) :
    Calls Try.prog 65 #[.pointer (some ⟨b, 0, none⟩), .agg #[.string (str f.name), .string (str f.safe), .string (str f.more)]] w fun e w' => ∃ G', e = .returned (.tuple #[]) ∧ RAt w' G' b (putF D f) ∧ Chg G G' w w' := by
  obtain ⟨W0, hW0⟩ : ∃ W0, w.alloc (.cells #[.string (str f.name), .string (str f.safe), .string (str f.more)] 41) = W0 := ⟨_, rfl⟩
  obtain ⟨g0, hg0⟩ : ∃ g, w.heap.size = g := ⟨_, rfl⟩
  have hB0 : Below w.heap.size w W0 := by rw [← hW0]; exact below_alloc _ _
  have m0 : W0.cell? ⟨g0, 0, none⟩ = some (.string (str f.name)) := by rw [← hW0, ← hg0]; exact alloc_cell w [_, _, _] _ 0 _ rfl
  have m1 : W0.cell? ⟨g0, 1, none⟩ = some (.string (str f.safe)) := by rw [← hW0, ← hg0]; exact alloc_cell w [_, _, _] _ 1 _ rfl
  have m2 : W0.cell? ⟨g0, 2, none⟩ = some (.string (str f.more)) := by rw [← hW0, ← hg0]; exact alloc_cell w [_, _, _] _ 2 _ rfl
  have h0 := h.below hB0
  obtain ⟨v, hrow, hfl, -⟩ := h0.cell
  obtain ⟨i0, z0, hi, hz0, hz1, hz2, hzc⟩ := file_info
  have hn := h.ok.count
  obtain ⟨a, cap, rfl, hc⟩ := hfl.open
  obtain ⟨N, hN⟩ : ∃ N, D.files.length = N := ⟨_, rfl⟩
  rw [hN] at hrow hn
  obtain ⟨c1, f1⟩ := row_at hrow 1 _ rfl
  have H := Lib.hid h0
  have HW := Lib.hid (Chg.of_below (F := G) hB0)
  have HC := Lib.hid hc
  have HN := Lib.hid hN
  have HL := Lib.hid hl
  have HF := Lib.hid hf
  have HE := Lib.hid (fun y (hy : y ∈ D.files) => (h.ok.each y hy).1)
  unfold putF
  clear hc hN hfl hrow h h0 hB0 hl hf
  go_enter Try.func65, Try.ntmps65
  go_wp2_with fail
  clear hW0
  go_loopw [4, 5, 6] (fun o d i wr => ∃ (K : Nat) (xs : List Fl) (dn : Bool), i = .int .i64 (K : Int) ∧ d = .bool dn ∧ K ≤ N ∧ wr.ownsRow W0.heap.size 41 3 o xs.length (xs.flatMap flC) ∧ Hid (setF D.files f = xs ++ setGo f (D.files.drop K) dn) ∧ Hid (xs.length ≤ K + 1 ∧ (dn = false → xs.length ≤ K)) ∧ Hid (Below W0.heap.size W0 wr)) (fun _ _ i _ => N - (intOf i).toNat)
  case atStart => exact ⟨0, [], false, rfl, rfl, Nat.zero_le _, World.ownsRow_nil _ _ _ _, Lib.hid rfl, Lib.hid ⟨Nat.zero_le _, fun _ => Nat.zero_le _⟩, Lib.hid (Below.refl _ _)⟩
  case round =>
    obtain ⟨K, xs, dn, rfl, rfl, hK, hown, HJ, HX, HB⟩ := hrel
    obtain ⟨ov, oc, rfl⟩ := shape_own hown
    have HO := Lib.hid hown
    have hX := HX.out.1
    clear hown
    by_cases hlt : K < N
    · have hltI : (K : Int) < (N : Int) := by omega
      have hk0 : 0 ≤ (K : Int) := by omega
      have hw1 : IntKind.i64.wrap ((K : Int) + 1) = (K : Int) + 1 := IntWalk.i64_in _ (by omega)
      obtain ⟨y, hy⟩ : ∃ y, D.files[K]? = some y := ⟨_, List.getElem?_eq_getElem (by rw [HN.out]; exact hlt)⟩
      obtain ⟨b', off, rfl, k0, k1, k2⟩ := HC.out K y hy
      have hye := HE.out y (List.mem_of_getElem? hy)
      have hd := HJ.out
      rw [set_next f dn hy] at hd
      have HFA := Lib.hid (show ∀ W : World, Below W0.heap.size W0 W → W.cell? ⟨b, 1, none⟩ = some (.slice (some ⟨b', off, none⟩) N cap) ∧ W.cell? ⟨b', off + K * 3, none⟩ = some (.string (str y.name)) ∧ W.cell? ⟨b', off + K * 3 + 1, none⟩ = some (.string (str y.safe)) ∧ W.cell? ⟨b', off + K * 3 + 2, none⟩ = some (.string (str y.more)) ∧ W.cell? ⟨g0, 0, none⟩ = some (.string (str f.name)) ∧ W.cell? ⟨g0, 1, none⟩ = some (.string (str f.safe)) ∧ W.cell? ⟨g0, 2, none⟩ = some (.string (str f.more)) from fun W hb => ⟨kept_cell hb c1, kept_cell hb k0, kept_cell hb k1, kept_cell hb k2, kept_cell hb m0, kept_cell hb m1, kept_cell hb m2⟩)
      have HLS := Lib.hid (fun W => less_any y.name f.name (by omega) (by have := HF.out.1; omega) W)
      have HYS := Lib.hid (show y.name = f.name ∨ ¬ y.name = f.name from Classical.em _)
      clear c1 k0 k1 k2 m0 m1 m2 hy
      cases dn with
      | true =>
        simp only [Bool.not_true, Bool.false_and, Bool.false_eq_true, if_false, List.nil_append, Bool.true_or] at hd
        have HDX := Lib.hid hd
        clear hd HLS
        obtain ⟨p0, p1, p2, p3, p4, p5, p6⟩ := HFA.out wr HB.out
        go_wp2_with fail
        go_quiet (fail)
        have HBX := Lib.hid (HB.out.trans ((drewN_below wr nq).mono HB.out.size))
        have HOX := Lib.hid (own_kept HO.out (drewN_below wr nq))
        obtain ⟨X, hX0⟩ : ∃ X, wr.drewN nq = X := ⟨_, rfl⟩
        rw [hX0] at HBX HOX ⊢
        clear hX0 p0 p1 p2 p3 p4 p5 p6
        rcases HYS.out with hs | hs
        · have t1 : (!(str y.name).toList == (str f.name).toList) = false := by rw [hs]; simp
          have hd := HDX.out
          rw [if_pos hs] at hd
          have HDD := Lib.hid hd
          clear hd hs
          obtain ⟨r0, r1, r2, r3, r4, r5, r6⟩ := HFA.out X HBX.out
          go_wp2_with fail
          go_quiet (fail)
          have HBY := Lib.hid (HBX.out.trans ((drewN_below X nq).mono HBX.out.size))
          have HOY := Lib.hid (own_kept HOX.out (drewN_below X nq))
          obtain ⟨Y, hY⟩ : ∃ Y, X.drewN nq = Y := ⟨_, rfl⟩
          rw [hY] at HBY HOY ⊢
          clear hY r0 r1 r2 r3 r4 r5 r6
          obtain ⟨s0, s1, s2, s3, s4, s5, s6⟩ := HFA.out Y HBY.out
          go_wp2_with fail
          go_roundw
          case rel => exact ⟨K + 1, xs, true, by go_num, rfl, by omega, by simpa only [List.length_append, List.length_cons, List.length_nil, Nat.zero_add] using HOY.out, Lib.hid (by rw [HDD.out]; simp), Lib.hid ⟨by (try simp only [List.length_append, List.length_cons, List.length_nil]); omega, fun hh => Bool.noConfusion hh⟩, HBY⟩
          case measure => simp [intOf]; omega
        · have t1 : (!(str y.name).toList == (str f.name).toList) = true := by rw [str_toList, str_toList]; simpa using hs
          have hd := HDX.out
          rw [if_neg hs] at hd
          have HDD := Lib.hid hd
          clear hd hs
          obtain ⟨r0, r1, r2, r3, r4, r5, r6⟩ := HFA.out X HBX.out
          go_wp2_with fail
          go_quiet (fail)
          have HBY := Lib.hid (HBX.out.trans ((drewN_below X nq).mono HBX.out.size))
          have HOY := Lib.hid (own_kept HOX.out (drewN_below X nq))
          obtain ⟨Y, hY⟩ : ∃ Y, X.drewN nq = Y := ⟨_, rfl⟩
          rw [hY] at HBY HOY ⊢
          clear hY r0 r1 r2 r3 r4 r5 r6
          obtain ⟨s0, s1, s2, s3, s4, s5, s6⟩ := HFA.out Y HBY.out
          have HC4z := Lib.hid (show (xs.length + 1) * 48 ≤ 140737488355328 by (try simp only [List.length_append, List.length_cons, List.length_nil]); omega)
          have HC5z := Lib.hid (show W0.heap.size ≤ (Y.alloc (.cells #[.string (str y.name), .string (str y.safe), .string (str y.more)] 41)).heap.size from Nat.le_trans HBY.out.size (below_alloc _ _).size)
          have HOAz := Lib.hid (HOY.out.alloc (.cells #[.string (str y.name), .string (str y.safe), .string (str y.more)] 41))
          go_wp2_with (at_builtin; refine wpList_append_own _ rfl _ _ 31 rfl W0.heap.size 41 i0 z0 3 48 Try.underlying31 hi hz0 hz1 hz2 hzc (by decide) _ _ _ rfl HOAz.out ⟨Y.heap.size, 0, none⟩ 1 1 [.string (str y.name), .string (str y.safe), .string (str y.more)] rfl rfl (new_three _ _ _ _ _) (three_one _ _ _) (by unfold maxLen; omega) HC4z.out HC5z.out ?_; intro vz wz hown' hgrow hnn; have HBAz := Lib.hid ((HBY.out.alloc HBY.out.size _).grown hgrow HC5z.out (owns_blk HOAz.out)); have HOWz := Lib.hid (own_snoc2 y hown'); (obtain ⟨avz, acz, rfl⟩ := shape_own HOWz.out); clear hnn hown' hgrow)
          go_roundw
          case rel => exact ⟨K + 1, xs ++ [y], true, by go_num, rfl, by omega, by simpa only [List.length_append, List.length_cons, List.length_nil, Nat.zero_add] using HOWz.out, Lib.hid (by rw [HDD.out]; simp), Lib.hid ⟨by (try simp only [List.length_append, List.length_cons, List.length_nil]); omega, fun hh => Bool.noConfusion hh⟩, HBAz⟩
          case measure => simp [intOf]; omega
      | false =>
        simp only [Bool.not_false, Bool.true_and, Bool.false_or] at hd
        have hX0 := HX.out.2 rfl
        obtain ⟨p0, p1, p2, p3, p4, p5, p6⟩ := HFA.out wr HB.out
        have hS0 : (wr.drew.cell? ⟨b, 1, none⟩ = some (.slice (some ⟨b', off, none⟩) N cap) ∧ wr.drew.cell? ⟨b', off + K * 3, none⟩ = some (Value.string (str y.name)) ∧ wr.drew.cell? ⟨g0, 0, none⟩ = some (Value.string (str f.name)) ∧ Below wr.heap.size wr wr.drew) := ⟨p0, p1, p4, (Below.refl _ _).drew⟩
        obtain ⟨c, hcv⟩ : ∃ c, lessL y.name f.name = c := ⟨_, rfl⟩
        rw [hcv] at HLS hd
        have QG1 := wdq_call (S := fun W => (W.cell? ⟨b, 1, none⟩ = some (.slice (some ⟨b', off, none⟩) N cap) ∧ W.cell? ⟨b', off + K * 3, none⟩ = some (Value.string (str y.name)) ∧ W.cell? ⟨g0, 0, none⟩ = some (Value.string (str f.name)) ∧ Below wr.heap.size wr W)) (f := 72) (args := #[.string (str y.name), .string (str f.name)]) (v := .bool c) (fun W hS => (HLS.out W).mono fun e w2 hh => ⟨hh.1, (⟨kept_cell hh.2 hS.1, kept_cell hh.2 hS.2.1, kept_cell hh.2 hS.2.2.1, hS.2.2.2.trans (hh.2.mono hS.2.2.2.size)⟩ : (w2.cell? ⟨b, 1, none⟩ = some (.slice (some ⟨b', off, none⟩) N cap) ∧ w2.cell? ⟨b', off + K * 3, none⟩ = some (Value.string (str y.name)) ∧ w2.cell? ⟨g0, 0, none⟩ = some (Value.string (str f.name)) ∧ Below wr.heap.size wr w2))⟩)
        have q0 := fun z : WdQ (fun W => (W.cell? ⟨b, 1, none⟩ = some (.slice (some ⟨b', off, none⟩) N cap) ∧ W.cell? ⟨b', off + K * 3, none⟩ = some (Value.string (str y.name)) ∧ W.cell? ⟨g0, 0, none⟩ = some (Value.string (str f.name)) ∧ Below wr.heap.size wr W)) => z.ok.1
        have q1 := fun z : WdQ (fun W => (W.cell? ⟨b, 1, none⟩ = some (.slice (some ⟨b', off, none⟩) N cap) ∧ W.cell? ⟨b', off + K * 3, none⟩ = some (Value.string (str y.name)) ∧ W.cell? ⟨g0, 0, none⟩ = some (Value.string (str f.name)) ∧ Below wr.heap.size wr W)) => z.ok.2.1
        have q2 := fun z : WdQ (fun W => (W.cell? ⟨b, 1, none⟩ = some (.slice (some ⟨b', off, none⟩) N cap) ∧ W.cell? ⟨b', off + K * 3, none⟩ = some (Value.string (str y.name)) ∧ W.cell? ⟨g0, 0, none⟩ = some (Value.string (str f.name)) ∧ Below wr.heap.size wr W)) => z.ok.2.2.1
        haveI hne : Nonempty (WdQ (fun W => (W.cell? ⟨b, 1, none⟩ = some (.slice (some ⟨b', off, none⟩) N cap) ∧ W.cell? ⟨b', off + K * 3, none⟩ = some (Value.string (str y.name)) ∧ W.cell? ⟨g0, 0, none⟩ = some (Value.string (str f.name)) ∧ Below wr.heap.size wr W))) := ⟨⟨_, hS0⟩⟩
        try dsimp only at q0 q1 q2
        have HDX := Lib.hid hd
        clear hd hcv
        cases c with
        | true =>
          go_upto_region 6 with fail
          refine region_quiet_q (S := fun W => (W.cell? ⟨b, 1, none⟩ = some (.slice (some ⟨b', off, none⟩) N cap) ∧ W.cell? ⟨b', off + K * 3, none⟩ = some (Value.string (str y.name)) ∧ W.cell? ⟨g0, 0, none⟩ = some (Value.string (str f.name)) ∧ Below wr.heap.size wr W)) (by kernel_rfl) (by kernel_rfl) hS0 ?_
          repeat (go_big_quiet_step (first | (with_reducible exact QG1 _)))
          refine wpQuiet_nil ?_
          intro _ hw'
          obtain ⟨z, rfl⟩ := hw'
          obtain ⟨X, hSq⟩ := z
          try dsimp only
          have HBX := Lib.hid (HB.out.trans (hSq.2.2.2.mono HB.out.size))
          have HOX := Lib.hid (own_kept HO.out hSq.2.2.2)
          clear hne q0 q1 q2 hS0 QG1 hSq HLS p0 p1 p2 p3 p4 p5 p6
          have hd := HDX.out
          simp only [Bool.not_true, Bool.false_eq_true, if_false, List.nil_append] at hd
          have HDY := Lib.hid hd
          clear hd
          rcases HYS.out with hs | hs
          · have t1 : (!(str y.name).toList == (str f.name).toList) = false := by rw [hs]; simp
            have hd := HDY.out
            rw [if_pos hs] at hd
            have HDD := Lib.hid hd
            clear hd hs
            obtain ⟨r0, r1, r2, r3, r4, r5, r6⟩ := HFA.out X HBX.out
            go_wp2_with fail
            go_quiet (fail)
            have HBY := Lib.hid (HBX.out.trans ((drewN_below X nq).mono HBX.out.size))
            have HOY := Lib.hid (own_kept HOX.out (drewN_below X nq))
            obtain ⟨Y, hY⟩ : ∃ Y, X.drewN nq = Y := ⟨_, rfl⟩
            rw [hY] at HBY HOY ⊢
            clear hY r0 r1 r2 r3 r4 r5 r6
            obtain ⟨s0, s1, s2, s3, s4, s5, s6⟩ := HFA.out Y HBY.out
            go_wp2_with fail
            go_roundw
            case rel => exact ⟨K + 1, xs, false, by go_num, rfl, by omega, by simpa only [List.length_append, List.length_cons, List.length_nil, Nat.zero_add] using HOY.out, Lib.hid (by rw [HDD.out]; simp), Lib.hid ⟨by (try simp only [List.length_append, List.length_cons, List.length_nil]); omega, fun _ => by (try simp only [List.length_append, List.length_cons, List.length_nil]); omega⟩, HBY⟩
            case measure => simp [intOf]; omega
          · have t1 : (!(str y.name).toList == (str f.name).toList) = true := by rw [str_toList, str_toList]; simpa using hs
            have hd := HDY.out
            rw [if_neg hs] at hd
            have HDD := Lib.hid hd
            clear hd hs
            obtain ⟨r0, r1, r2, r3, r4, r5, r6⟩ := HFA.out X HBX.out
            go_wp2_with fail
            go_quiet (fail)
            have HBY := Lib.hid (HBX.out.trans ((drewN_below X nq).mono HBX.out.size))
            have HOY := Lib.hid (own_kept HOX.out (drewN_below X nq))
            obtain ⟨Y, hY⟩ : ∃ Y, X.drewN nq = Y := ⟨_, rfl⟩
            rw [hY] at HBY HOY ⊢
            clear hY r0 r1 r2 r3 r4 r5 r6
            obtain ⟨s0, s1, s2, s3, s4, s5, s6⟩ := HFA.out Y HBY.out
            have HC4z := Lib.hid (show (xs.length + 1) * 48 ≤ 140737488355328 by (try simp only [List.length_append, List.length_cons, List.length_nil]); omega)
            have HC5z := Lib.hid (show W0.heap.size ≤ (Y.alloc (.cells #[.string (str y.name), .string (str y.safe), .string (str y.more)] 41)).heap.size from Nat.le_trans HBY.out.size (below_alloc _ _).size)
            have HOAz := Lib.hid (HOY.out.alloc (.cells #[.string (str y.name), .string (str y.safe), .string (str y.more)] 41))
            go_wp2_with (at_builtin; refine wpList_append_own _ rfl _ _ 31 rfl W0.heap.size 41 i0 z0 3 48 Try.underlying31 hi hz0 hz1 hz2 hzc (by decide) _ _ _ rfl HOAz.out ⟨Y.heap.size, 0, none⟩ 1 1 [.string (str y.name), .string (str y.safe), .string (str y.more)] rfl rfl (new_three _ _ _ _ _) (three_one _ _ _) (by unfold maxLen; omega) HC4z.out HC5z.out ?_; intro vz wz hown' hgrow hnn; have HBAz := Lib.hid ((HBY.out.alloc HBY.out.size _).grown hgrow HC5z.out (owns_blk HOAz.out)); have HOWz := Lib.hid (own_snoc2 y hown'); (obtain ⟨avz, acz, rfl⟩ := shape_own HOWz.out); clear hnn hown' hgrow)
            go_roundw
            case rel => exact ⟨K + 1, xs ++ [y], false, by go_num, rfl, by omega, by simpa only [List.length_append, List.length_cons, List.length_nil, Nat.zero_add] using HOWz.out, Lib.hid (by rw [HDD.out]; simp), Lib.hid ⟨by (try simp only [List.length_append, List.length_cons, List.length_nil]); omega, fun _ => by (try simp only [List.length_append, List.length_cons, List.length_nil]); omega⟩, HBAz⟩
            case measure => simp [intOf]; omega
        | false =>
          go_upto_region 6 with fail
          refine region_quiet_q (S := fun W => (W.cell? ⟨b, 1, none⟩ = some (.slice (some ⟨b', off, none⟩) N cap) ∧ W.cell? ⟨b', off + K * 3, none⟩ = some (Value.string (str y.name)) ∧ W.cell? ⟨g0, 0, none⟩ = some (Value.string (str f.name)) ∧ Below wr.heap.size wr W)) (by kernel_rfl) (by kernel_rfl) hS0 ?_
          repeat (go_big_quiet_step (first | (with_reducible exact QG1 _)))
          refine wpQuiet_nil ?_
          intro _ hw'
          obtain ⟨z, rfl⟩ := hw'
          obtain ⟨X, hSq⟩ := z
          try dsimp only
          have HBX := Lib.hid (HB.out.trans (hSq.2.2.2.mono HB.out.size))
          have HOX := Lib.hid (own_kept HO.out hSq.2.2.2)
          clear hne q0 q1 q2 hS0 QG1 hSq HLS p0 p1 p2 p3 p4 p5 p6
          have hd := HDX.out
          simp only [Bool.not_false, if_true] at hd
          rw [← List.append_assoc] at hd
          have HDY2 := Lib.hid hd
          clear hd
          obtain ⟨p0, p1, p2, p3, p4, p5, p6⟩ := HFA.out X HBX.out
          have HC4x := Lib.hid (show (xs.length + 1) * 48 ≤ 140737488355328 by (try simp only [List.length_append, List.length_cons, List.length_nil]); omega)
          have HC5x := Lib.hid (show W0.heap.size ≤ (X.alloc (.cells #[.string (str f.name), .string (str f.safe), .string (str f.more)] 41)).heap.size from Nat.le_trans HBX.out.size (below_alloc _ _).size)
          have HOAx := Lib.hid (HOX.out.alloc (.cells #[.string (str f.name), .string (str f.safe), .string (str f.more)] 41))
          go_wp2_with (at_builtin; refine wpList_append_own _ rfl _ _ 31 rfl W0.heap.size 41 i0 z0 3 48 Try.underlying31 hi hz0 hz1 hz2 hzc (by decide) _ _ _ rfl HOAx.out ⟨X.heap.size, 0, none⟩ 1 1 [.string (str f.name), .string (str f.safe), .string (str f.more)] rfl rfl (new_three _ _ _ _ _) (three_one _ _ _) (by unfold maxLen; omega) HC4x.out HC5x.out ?_; intro vx wx hown' hgrow hnn; have HBAx := Lib.hid ((HBX.out.alloc HBX.out.size _).grown hgrow HC5x.out (owns_blk HOAx.out)); have HOWx := Lib.hid (own_snoc2 f hown'); (obtain ⟨avx, acx, rfl⟩ := shape_own HOWx.out); clear hnn hown' hgrow)
          clear p0 p1 p2 p3 p4 p5 p6
          have HOX2 := Lib.hid HOWx.out
          rcases HYS.out with hs | hs
          · have t1 : (!(str y.name).toList == (str f.name).toList) = false := by rw [hs]; simp
            have hd := HDY2.out
            rw [if_pos hs] at hd
            have HDD := Lib.hid hd
            clear hd hs
            obtain ⟨r0, r1, r2, r3, r4, r5, r6⟩ := HFA.out wx HBAx.out
            go_wp2_with fail
            go_quiet (fail)
            have HBY := Lib.hid (HBAx.out.trans ((drewN_below wx nq).mono HBAx.out.size))
            have HOY := Lib.hid (own_kept HOWx.out (drewN_below wx nq))
            obtain ⟨Y, hY⟩ : ∃ Y, wx.drewN nq = Y := ⟨_, rfl⟩
            rw [hY] at HBY HOY ⊢
            clear hY r0 r1 r2 r3 r4 r5 r6
            obtain ⟨s0, s1, s2, s3, s4, s5, s6⟩ := HFA.out Y HBY.out
            go_wp2_with fail
            go_roundw
            case rel => exact ⟨K + 1, (xs ++ [f]), true, by go_num, rfl, by omega, by simpa only [List.length_append, List.length_cons, List.length_nil, Nat.zero_add] using HOY.out, Lib.hid (by rw [HDD.out]; simp), Lib.hid ⟨by (try simp only [List.length_append, List.length_cons, List.length_nil]); omega, fun hh => Bool.noConfusion hh⟩, HBY⟩
            case measure => simp [intOf]; omega
          · have t1 : (!(str y.name).toList == (str f.name).toList) = true := by rw [str_toList, str_toList]; simpa using hs
            have hd := HDY2.out
            rw [if_neg hs] at hd
            have HDD := Lib.hid hd
            clear hd hs
            obtain ⟨r0, r1, r2, r3, r4, r5, r6⟩ := HFA.out wx HBAx.out
            go_wp2_with fail
            go_quiet (fail)
            have HBY := Lib.hid (HBAx.out.trans ((drewN_below wx nq).mono HBAx.out.size))
            have HOY := Lib.hid (own_kept HOWx.out (drewN_below wx nq))
            obtain ⟨Y, hY⟩ : ∃ Y, wx.drewN nq = Y := ⟨_, rfl⟩
            rw [hY] at HBY HOY ⊢
            clear hY r0 r1 r2 r3 r4 r5 r6
            obtain ⟨s0, s1, s2, s3, s4, s5, s6⟩ := HFA.out Y HBY.out
            have HC4z := Lib.hid (show ((xs.length + 1) + 1) * 48 ≤ 140737488355328 by (try simp only [List.length_append, List.length_cons, List.length_nil]); omega)
            have HC5z := Lib.hid (show W0.heap.size ≤ (Y.alloc (.cells #[.string (str y.name), .string (str y.safe), .string (str y.more)] 41)).heap.size from Nat.le_trans HBY.out.size (below_alloc _ _).size)
            have HOAz := Lib.hid (HOY.out.alloc (.cells #[.string (str y.name), .string (str y.safe), .string (str y.more)] 41))
            go_wp2_with (at_builtin; refine wpList_append_own _ rfl _ _ 31 rfl W0.heap.size 41 i0 z0 3 48 Try.underlying31 hi hz0 hz1 hz2 hzc (by decide) _ _ _ rfl HOAz.out ⟨Y.heap.size, 0, none⟩ 1 1 [.string (str y.name), .string (str y.safe), .string (str y.more)] rfl rfl (new_three _ _ _ _ _) (three_one _ _ _) (by unfold maxLen; omega) HC4z.out HC5z.out ?_; intro vz wz hown' hgrow hnn; have HBAz := Lib.hid ((HBY.out.alloc HBY.out.size _).grown hgrow HC5z.out (owns_blk HOAz.out)); have HOWz := Lib.hid (own_snoc2 y hown'); (obtain ⟨avz, acz, rfl⟩ := shape_own HOWz.out); clear hnn hown' hgrow)
            go_roundw
            case rel => exact ⟨K + 1, (xs ++ [f]) ++ [y], true, by go_num, rfl, by omega, by simpa only [List.length_append, List.length_cons, List.length_nil, Nat.zero_add] using HOWz.out, Lib.hid (by rw [HDD.out]; simp), Lib.hid ⟨by (try simp only [List.length_append, List.length_cons, List.length_nil]); omega, fun hh => Bool.noConfusion hh⟩, HBAz⟩
            case measure => simp [intOf]; omega
    · have hltI : ¬ (K : Int) < (N : Int) := by omega
      have hd := HJ.out
      rw [List.drop_of_length_le (i := K) (by rw [HN.out]; omega)] at hd
      have c1' := kept_cell HB.out c1
      have m0' := kept_cell HB.out m0
      have m1' := kept_cell HB.out m1
      have m2' := kept_cell HB.out m2
      have f1' : wr.frozen? ⟨b, 1, none⟩ = false := (row_at (H.out.below HB.out).cell.choose_spec.1 1 _ rfl).2
      cases dn with
      | true =>
        have hd2 : setF D.files f = xs := by rw [hd]; simp [setGo]
        have HD := Lib.hid hd2
        clear hd hd2 m0 m1 m2 c1
        go_wp2_with fail
        go_end0
        rw [HD.out]
        obtain ⟨hr, hc⟩ := H.out.files HB.out (Nat.le_refl _) HO.out (by have := HL.out; rw [HD.out] at this; exact this) (fun x hx => by
          rw [← HD.out] at hx
          rcases set_mem f D.files false x hx with rfl | hx
          · exact HF.out
          · exact H.out.ok.each x hx)
        exact ⟨rfl, _, hr, HW.out.trans hc⟩
      | false =>
        have hd2 : setF D.files f = xs ++ [f] := by rw [hd]; simp [setGo]
        have HD := Lib.hid hd2
        have c1s := c1
        clear hd hd2 m0 m1 m2 c1
        have HC4x := Lib.hid (show (xs.length + 1) * 48 ≤ 140737488355328 by (try simp only [List.length_append, List.length_cons, List.length_nil]); omega)
        have HC5x := Lib.hid (show W0.heap.size ≤ (wr.alloc (.cells #[.string (str f.name), .string (str f.safe), .string (str f.more)] 41)).heap.size from Nat.le_trans HB.out.size (below_alloc _ _).size)
        have HOAx := Lib.hid (HO.out.alloc (.cells #[.string (str f.name), .string (str f.safe), .string (str f.more)] 41))
        go_wp2_with (at_builtin; refine wpList_append_own _ rfl _ _ 31 rfl W0.heap.size 41 i0 z0 3 48 Try.underlying31 hi hz0 hz1 hz2 hzc (by decide) _ _ _ rfl HOAx.out ⟨wr.heap.size, 0, none⟩ 1 1 [.string (str f.name), .string (str f.safe), .string (str f.more)] rfl rfl (new_three _ _ _ _ _) (three_one _ _ _) (by unfold maxLen; omega) HC4x.out HC5x.out ?_; intro vx wx hown' hgrow hnn; have HBAx := Lib.hid ((HB.out.alloc HB.out.size _).grown hgrow HC5x.out (owns_blk HOAx.out)); have HOWx := Lib.hid (own_snoc2 f hown'); (obtain ⟨avx, acx, rfl⟩ := shape_own HOWx.out); have f1x : wx.frozen? ⟨b, 1, none⟩ = false := (row_at (H.out.below HBAx.out).cell.choose_spec.1 1 _ rfl).2; have c1x := kept_cell HBAx.out c1s; clear hnn hown' hgrow)
        go_end0
        rw [HD.out]
        obtain ⟨hr, hc⟩ := H.out.files (l := xs ++ [f]) HBAx.out (Nat.le_refl _) (by simpa only [List.length_append, List.length_cons, List.length_nil, Nat.zero_add] using HOWx.out) (by have := HL.out; rw [HD.out] at this; exact this) (fun x hx => by
          rw [← HD.out] at hx
          rcases set_mem f D.files false x hx with rfl | hx
          · exact HF.out
          · exact H.out.ok.each x hx)
        exact ⟨rfl, _, hr, HW.out.trans hc⟩
end Go.Proofs.Ythdchidlfeighaa.C12
