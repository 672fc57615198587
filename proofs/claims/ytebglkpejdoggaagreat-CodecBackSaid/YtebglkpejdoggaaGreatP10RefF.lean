/-
  Layer 10, the document's answers: which lists of items and of verdicts may be laid.
-/
import Derived.Test.YtebglkpejdoggaaGreatP10RefE
import Derived.BigQuiet
namespace Go.Proofs.YtebglkpejdoggaaGreat.C10
open Go Go.RowKit Go.Proofs Go.Proofs.YtebglkpejdoggaaGreat.B Go.Proofs.YtebglkpejdoggaaGreat.K Go.Proofs.YtebglkpejdoggaaGreat.P8
set_option linter.unusedVariables false
set_option maxRecDepth 100000

/-- A world of a class. -/
structure Wd (S : World → Prop) where
  val : World
  ok : S val
theorem wp_region_quiet_wd {P : Program} {S : World → Prop} {id : Nat} {Q : Exit → Act → World → Prop} {a : Act} {w : World} {l : List Oper} (hm : P.follows .mixedOrders = true) (hB : Region.lexB .any l.toArray = true) (hS : S w.drew)
    (h : wpQuiet P l.toArray (fun w' => ∃ x : Wd S, w' = x.val) (fun a' => ∀ w', (∃ x : Wd S, w' = x.val) → Q .normal a' w') l a) : (Code.region id l.toArray true).wp P Q a w :=
  wp_region_quiet (C := fun w' => ∃ x : Wd S, w' = x.val) hm hB ⟨⟨_, hS⟩, rfl⟩ (by simpa using h)
theorem wd_call {P : Program} {S : World → Prop} {f : FuncId} {args : Array Value} {v : Value} (h : ∀ W, S W → Calls P f args W fun e w' => e = .returned v ∧ S w') (x : Wd S) : Calls P f args x.val fun e w' => e = .returned v ∧ ∃ y : Wd S, w' = y.val :=
  (h x.val x.ok).mono fun _ w' ⟨h1, h2⟩ => ⟨h1, ⟨w', h2⟩, rfl⟩
theorem vdsGo_drop {l m : List Vd} {x : Vd} {K : Nat} (h : m[K]? = some x) : vdsGo l K (m.drop K) = (vdP l K x && vdsGo l (K + 1) (m.drop (K + 1))) := by
  obtain ⟨hlt, rfl⟩ := List.getElem?_eq_some_iff.1 h
  rw [List.drop_eq_getElem_cons hlt, vdsGo]
theorem itemsGo_drop {l m : List It} {x : It} {K : Nat} (h : m[K]? = some x) : itemsGo l K (m.drop K) = (itP l K x && itemsGo l (K + 1) (m.drop (K + 1))) := by
  obtain ⟨hlt, rfl⟩ := List.getElem?_eq_some_iff.1 h
  rw [List.drop_eq_getElem_cons hlt, itemsGo]

set_option maxHeartbeats 8000000 in
theorem verdicts_any (L : Low) (l : List Vd) (v : Value) (w : World) (h : VdsIs w v l) (hw : VdsWf l) :
    Calls Tryz.prog 13 #[v] w fun e w' => e = .returned (.bool (vdsP l)) ∧ Below w.heap.size w w' := by
  obtain ⟨a, cap, rfl, hc⟩ := h.open
  obtain ⟨N, hN⟩ : ∃ N, l.length = N := ⟨_, rfl⟩
  have hv : vdsP l = (vdsGo l 0 (l.drop 0) && decide (N ≤ 32)) := by unfold vdsP; rw [hN]; rfl
  have HC := Lib.hid hc
  have HN := Lib.hid hN
  have HW := Lib.hid hw
  have hn : N ≤ 17592186044416 := by rw [← hN]; exact hw.2
  rw [hN]
  obtain ⟨r, hr⟩ : ∃ r, vdsP l = r := ⟨_, rfl⟩
  rw [hr] at hv ⊢
  have HV := Lib.hid hv
  clear hc h hN hv hr hw
  go_enter Tryz.func13, Tryz.ntmps13
  go_wp2_with fail
  go_loopw [3] (fun i wr => ∃ K : Nat, i = .int .i64 (K : Int) ∧ K ≤ N ∧ Hid (r = (vdsGo l K (l.drop K) && decide (N ≤ 32))) ∧ Hid (Below w.heap.size w wr)) (fun i _ => N - (intOf i).toNat)
  case atStart => exact ⟨0, rfl, Nat.zero_le _, HV, Lib.hid (Below.refl _ _)⟩
  case round =>
    obtain ⟨K, rfl, hK, HJ, HB⟩ := hrel
    by_cases hlt : K < N
    · have hltI : (K : Int) < (N : Int) := by omega
      have hk0 : 0 ≤ (K : Int) := by omega
      have hw1 : IntKind.i64.wrap ((K : Int) + 1) = (K : Int) + 1 := IntWalk.i64_in _ (by omega)
      obtain ⟨x, hx⟩ : ∃ x, l[K]? = some x := ⟨_, List.getElem?_eq_getElem (by rw [HN.out]; exact hlt)⟩
      have hxw := HW.out.1 x (List.mem_of_getElem? hx)
      have hd := HJ.out
      rw [vdsGo_drop hx] at hd
      obtain ⟨b, off, ea, cs, -, rfl, hcell⟩ := HC.out K x hx
      subst ea
      obtain ⟨n0, n1⟩ := x
      have k0 : wr.cell? ⟨b, off + K * 2, none⟩ = some (.int .i64 n0) := kept_cell HB.out (hcell 0 _ rfl)
      have k1 : wr.cell? ⟨b, off + K * 2 + 1, none⟩ = some (.int .i64 n1) := kept_cell HB.out (hcell 1 _ rfl)
      have H1 := fun W => within_any n0 1 1099511627776 W
      have H2 := fun W => within_any n1 0 63 W
      unfold vdP at hd
      dsimp only at hd
      obtain ⟨p, hp⟩ : ∃ p, inn n0 1 1099511627776 = p := ⟨_, rfl⟩
      obtain ⟨q, hq⟩ : ∃ p, inn n1 0 63 = p := ⟨_, rfl⟩
      rw [hp] at H1 hd
      rw [hq] at H2 hd
      clear hp hq hcell
      have G1 := Lib.hid (fun (W : World) (hS : (W.cell? ⟨b, off + K * 2, none⟩ = some (Value.int .i64 n0) ∧ W.cell? ⟨b, off + K * 2 + 1, none⟩ = some (Value.int .i64 n1) ∧ Below w.heap.size w W)) => (H1 W).mono (fun e (w' : World) ⟨h1, h2⟩ => (⟨h1, h2 ▸ hS⟩ : e = Ending.returned (Value.bool p) ∧ (w'.cell? ⟨b, off + K * 2, none⟩ = some (Value.int .i64 n0) ∧ w'.cell? ⟨b, off + K * 2 + 1, none⟩ = some (Value.int .i64 n1) ∧ Below w.heap.size w w'))))
      have G2 := Lib.hid (fun (W : World) (hS : (W.cell? ⟨b, off + K * 2, none⟩ = some (Value.int .i64 n0) ∧ W.cell? ⟨b, off + K * 2 + 1, none⟩ = some (Value.int .i64 n1) ∧ Below w.heap.size w W)) => (H2 W).mono (fun e (w' : World) ⟨h1, h2⟩ => (⟨h1, h2 ▸ hS⟩ : e = Ending.returned (Value.bool q) ∧ (w'.cell? ⟨b, off + K * 2, none⟩ = some (Value.int .i64 n0) ∧ w'.cell? ⟨b, off + K * 2 + 1, none⟩ = some (Value.int .i64 n1) ∧ Below w.heap.size w w'))))
      cases p with
      | false =>
        have HD := Lib.hid hd
        clear hd hx
        have hS0 : (wr.drew.cell? ⟨b, off + K * 2, none⟩ = some (Value.int .i64 n0) ∧ wr.drew.cell? ⟨b, off + K * 2 + 1, none⟩ = some (Value.int .i64 n1) ∧ Below w.heap.size w wr.drew) := ⟨k0, k1, HB.out.drew⟩
        have q0 := fun x : Wd (fun W => (W.cell? ⟨b, off + K * 2, none⟩ = some (Value.int .i64 n0) ∧ W.cell? ⟨b, off + K * 2 + 1, none⟩ = some (Value.int .i64 n1) ∧ Below w.heap.size w W)) => x.ok.1
        have q1 := fun x : Wd (fun W => (W.cell? ⟨b, off + K * 2, none⟩ = some (Value.int .i64 n0) ∧ W.cell? ⟨b, off + K * 2 + 1, none⟩ = some (Value.int .i64 n1) ∧ Below w.heap.size w W)) => x.ok.2.1
        haveI hne : Nonempty (Wd (fun W => (W.cell? ⟨b, off + K * 2, none⟩ = some (Value.int .i64 n0) ∧ W.cell? ⟨b, off + K * 2 + 1, none⟩ = some (Value.int .i64 n1) ∧ Below w.heap.size w W))) := ⟨⟨_, hS0⟩⟩
        try dsimp only at q0 q1
        have QG1 := wd_call (S := fun W => (W.cell? ⟨b, off + K * 2, none⟩ = some (Value.int .i64 n0) ∧ W.cell? ⟨b, off + K * 2 + 1, none⟩ = some (Value.int .i64 n1) ∧ Below w.heap.size w W)) G1.out
        go_upto_region 4 with fail
        refine wp_region_quiet_wd (S := fun W => (W.cell? ⟨b, off + K * 2, none⟩ = some (Value.int .i64 n0) ∧ W.cell? ⟨b, off + K * 2 + 1, none⟩ = some (Value.int .i64 n1) ∧ Below w.heap.size w W)) (by kernel_rfl) (by kernel_rfl) hS0 ?_
        repeat (go_big_quiet_step (first | (with_reducible exact QG1 _)))
        refine wpQuiet_nil ?_
        intro _ hw'
        obtain ⟨⟨wq, hSq⟩, rfl⟩ := hw'
        try dsimp only
        clear hne q0 q1 hS0 QG1
        go_wp2_with fail
        go_ret
        exact ⟨by rw [HD.out]; rfl, hSq.2.2⟩
      | true =>
        cases q with
        | false =>
          have HD := Lib.hid hd
          clear hd hx
          have hS0 : (wr.drew.cell? ⟨b, off + K * 2, none⟩ = some (Value.int .i64 n0) ∧ wr.drew.cell? ⟨b, off + K * 2 + 1, none⟩ = some (Value.int .i64 n1) ∧ Below w.heap.size w wr.drew) := ⟨k0, k1, HB.out.drew⟩
          have q0 := fun x : Wd (fun W => (W.cell? ⟨b, off + K * 2, none⟩ = some (Value.int .i64 n0) ∧ W.cell? ⟨b, off + K * 2 + 1, none⟩ = some (Value.int .i64 n1) ∧ Below w.heap.size w W)) => x.ok.1
          have q1 := fun x : Wd (fun W => (W.cell? ⟨b, off + K * 2, none⟩ = some (Value.int .i64 n0) ∧ W.cell? ⟨b, off + K * 2 + 1, none⟩ = some (Value.int .i64 n1) ∧ Below w.heap.size w W)) => x.ok.2.1
          haveI hne : Nonempty (Wd (fun W => (W.cell? ⟨b, off + K * 2, none⟩ = some (Value.int .i64 n0) ∧ W.cell? ⟨b, off + K * 2 + 1, none⟩ = some (Value.int .i64 n1) ∧ Below w.heap.size w W))) := ⟨⟨_, hS0⟩⟩
          try dsimp only at q0 q1
          have QG1 := wd_call (S := fun W => (W.cell? ⟨b, off + K * 2, none⟩ = some (Value.int .i64 n0) ∧ W.cell? ⟨b, off + K * 2 + 1, none⟩ = some (Value.int .i64 n1) ∧ Below w.heap.size w W)) G1.out
          have QG2 := wd_call (S := fun W => (W.cell? ⟨b, off + K * 2, none⟩ = some (Value.int .i64 n0) ∧ W.cell? ⟨b, off + K * 2 + 1, none⟩ = some (Value.int .i64 n1) ∧ Below w.heap.size w W)) G2.out
          go_upto_region 4 with fail
          refine wp_region_quiet_wd (S := fun W => (W.cell? ⟨b, off + K * 2, none⟩ = some (Value.int .i64 n0) ∧ W.cell? ⟨b, off + K * 2 + 1, none⟩ = some (Value.int .i64 n1) ∧ Below w.heap.size w W)) (by kernel_rfl) (by kernel_rfl) hS0 ?_
          repeat (go_big_quiet_step (first | (with_reducible exact QG1 _) | (with_reducible exact QG2 _)))
          refine wpQuiet_nil ?_
          intro _ hw'
          obtain ⟨⟨wq, hSq⟩, rfl⟩ := hw'
          try dsimp only
          clear hne q0 q1 hS0 QG1 QG2
          go_wp2_with fail
          go_ret
          exact ⟨by rw [HD.out]; rfl, hSq.2.2⟩
        | true =>
          by_cases hK0 : K = 0
          · rw [decide_eq_true hK0] at hd
            have HD := Lib.hid (show r = (vdsGo l (K + 1) (l.drop (K + 1)) && decide (N ≤ 32)) from hd)
            have hg : ¬ (0 : Int) < (K : Int) := by omega
            have hg2 : decide ((0 : Int) < (K : Int)) = false := decide_eq_false hg
            have hg3 : ¬ 0 < K := by omega
            have hg4 : decide (0 < K) = false := decide_eq_false hg3
            clear hd hx hK0
            have hS0 : (wr.drew.cell? ⟨b, off + K * 2, none⟩ = some (Value.int .i64 n0) ∧ wr.drew.cell? ⟨b, off + K * 2 + 1, none⟩ = some (Value.int .i64 n1) ∧ Below w.heap.size w wr.drew) := ⟨k0, k1, HB.out.drew⟩
            have q0 := fun x : Wd (fun W => (W.cell? ⟨b, off + K * 2, none⟩ = some (Value.int .i64 n0) ∧ W.cell? ⟨b, off + K * 2 + 1, none⟩ = some (Value.int .i64 n1) ∧ Below w.heap.size w W)) => x.ok.1
            have q1 := fun x : Wd (fun W => (W.cell? ⟨b, off + K * 2, none⟩ = some (Value.int .i64 n0) ∧ W.cell? ⟨b, off + K * 2 + 1, none⟩ = some (Value.int .i64 n1) ∧ Below w.heap.size w W)) => x.ok.2.1
            haveI hne : Nonempty (Wd (fun W => (W.cell? ⟨b, off + K * 2, none⟩ = some (Value.int .i64 n0) ∧ W.cell? ⟨b, off + K * 2 + 1, none⟩ = some (Value.int .i64 n1) ∧ Below w.heap.size w W))) := ⟨⟨_, hS0⟩⟩
            try dsimp only at q0 q1
            have QG1 := wd_call (S := fun W => (W.cell? ⟨b, off + K * 2, none⟩ = some (Value.int .i64 n0) ∧ W.cell? ⟨b, off + K * 2 + 1, none⟩ = some (Value.int .i64 n1) ∧ Below w.heap.size w W)) G1.out
            have QG2 := wd_call (S := fun W => (W.cell? ⟨b, off + K * 2, none⟩ = some (Value.int .i64 n0) ∧ W.cell? ⟨b, off + K * 2 + 1, none⟩ = some (Value.int .i64 n1) ∧ Below w.heap.size w W)) G2.out
            go_upto_region 4 with fail
            refine wp_region_quiet_wd (S := fun W => (W.cell? ⟨b, off + K * 2, none⟩ = some (Value.int .i64 n0) ∧ W.cell? ⟨b, off + K * 2 + 1, none⟩ = some (Value.int .i64 n1) ∧ Below w.heap.size w W)) (by kernel_rfl) (by kernel_rfl) hS0 ?_
            repeat (go_big_quiet_step (first | (with_reducible exact QG1 _) | (with_reducible exact QG2 _)))
            refine wpQuiet_nil ?_
            intro _ hw'
            obtain ⟨⟨wq, hSq⟩, rfl⟩ := hw'
            try dsimp only
            clear hne q0 q1 hS0 QG1 QG2
            go_wp2_with fail
            go_roundw
            case rel => exact ⟨K + 1, by go_num, by omega, HD, Lib.hid hSq.2.2⟩
            case measure => simp [intOf]; omega
          · have hg : (0 : Int) < (K : Int) := by omega
            have hg2 : decide ((0 : Int) < (K : Int)) = true := decide_eq_true hg
            have hg3 : 0 < K := by omega
            have hg4 : decide (0 < K) = true := decide_eq_true hg3
            obtain ⟨J, hJ⟩ : ∃ J, K = J + 1 := ⟨K - 1, by omega⟩
            have hwm : IntKind.i64.wrap ((K : Int) - 1) = (J : Int) := by rw [hJ]; exact IntWalk.i64_in _ (by omega) |>.trans (by omega)
            have hJ0 : 0 ≤ (J : Int) := by omega
            have hJN : (J : Int) < (N : Int) := by omega
            obtain ⟨y, hy⟩ : ∃ y, l[J]? = some y := ⟨_, List.getElem?_eq_getElem (by rw [HN.out]; omega)⟩
            obtain ⟨b', off', ea', cs', -, rfl, hcell'⟩ := HC.out J y hy
            cases ea'
            rw [decide_eq_false hK0, show K - 1 = J by omega, hy] at hd
            obtain ⟨m0, m1⟩ := y
            dsimp only at hd
            have k2 : wr.cell? ⟨b, off + J * 2, none⟩ = some (.int .i64 m0) := kept_cell HB.out (hcell' 0 _ rfl)
            have G3 := Lib.hid (fun (W : World) (hS : (W.cell? ⟨b, off + K * 2, none⟩ = some (Value.int .i64 n0) ∧ W.cell? ⟨b, off + K * 2 + 1, none⟩ = some (Value.int .i64 n1) ∧ W.cell? ⟨b, off + J * 2, none⟩ = some (Value.int .i64 m0) ∧ Below w.heap.size w W)) => (H1 W).mono (fun e (w' : World) ⟨h1, h2⟩ => (⟨h1, h2 ▸ hS⟩ : e = Ending.returned (Value.bool true) ∧ (w'.cell? ⟨b, off + K * 2, none⟩ = some (Value.int .i64 n0) ∧ w'.cell? ⟨b, off + K * 2 + 1, none⟩ = some (Value.int .i64 n1) ∧ w'.cell? ⟨b, off + J * 2, none⟩ = some (Value.int .i64 m0) ∧ Below w.heap.size w w'))))
            have G4 := Lib.hid (fun (W : World) (hS : (W.cell? ⟨b, off + K * 2, none⟩ = some (Value.int .i64 n0) ∧ W.cell? ⟨b, off + K * 2 + 1, none⟩ = some (Value.int .i64 n1) ∧ W.cell? ⟨b, off + J * 2, none⟩ = some (Value.int .i64 m0) ∧ Below w.heap.size w W)) => (H2 W).mono (fun e (w' : World) ⟨h1, h2⟩ => (⟨h1, h2 ▸ hS⟩ : e = Ending.returned (Value.bool true) ∧ (w'.cell? ⟨b, off + K * 2, none⟩ = some (Value.int .i64 n0) ∧ w'.cell? ⟨b, off + K * 2 + 1, none⟩ = some (Value.int .i64 n1) ∧ w'.cell? ⟨b, off + J * 2, none⟩ = some (Value.int .i64 m0) ∧ Below w.heap.size w w'))))
            by_cases hlm : m0 < n0
            · have hle : ¬ n0 ≤ m0 := by omega
              have hle2 : decide (n0 ≤ m0) = false := decide_eq_false hle
              rw [decide_eq_true hlm] at hd
              have HD := Lib.hid (show r = (vdsGo l (K + 1) (l.drop (K + 1)) && decide (N ≤ 32)) from hd)
              clear hd hx hy hcell' hJ hK0 hlm
              have hS0 : (wr.drew.cell? ⟨b, off + K * 2, none⟩ = some (Value.int .i64 n0) ∧ wr.drew.cell? ⟨b, off + K * 2 + 1, none⟩ = some (Value.int .i64 n1) ∧ wr.drew.cell? ⟨b, off + J * 2, none⟩ = some (Value.int .i64 m0) ∧ Below w.heap.size w wr.drew) := ⟨k0, k1, k2, HB.out.drew⟩
              have q0 := fun x : Wd (fun W => (W.cell? ⟨b, off + K * 2, none⟩ = some (Value.int .i64 n0) ∧ W.cell? ⟨b, off + K * 2 + 1, none⟩ = some (Value.int .i64 n1) ∧ W.cell? ⟨b, off + J * 2, none⟩ = some (Value.int .i64 m0) ∧ Below w.heap.size w W)) => x.ok.1
              have q1 := fun x : Wd (fun W => (W.cell? ⟨b, off + K * 2, none⟩ = some (Value.int .i64 n0) ∧ W.cell? ⟨b, off + K * 2 + 1, none⟩ = some (Value.int .i64 n1) ∧ W.cell? ⟨b, off + J * 2, none⟩ = some (Value.int .i64 m0) ∧ Below w.heap.size w W)) => x.ok.2.1
              have q2 := fun x : Wd (fun W => (W.cell? ⟨b, off + K * 2, none⟩ = some (Value.int .i64 n0) ∧ W.cell? ⟨b, off + K * 2 + 1, none⟩ = some (Value.int .i64 n1) ∧ W.cell? ⟨b, off + J * 2, none⟩ = some (Value.int .i64 m0) ∧ Below w.heap.size w W)) => x.ok.2.2.1
              haveI hne : Nonempty (Wd (fun W => (W.cell? ⟨b, off + K * 2, none⟩ = some (Value.int .i64 n0) ∧ W.cell? ⟨b, off + K * 2 + 1, none⟩ = some (Value.int .i64 n1) ∧ W.cell? ⟨b, off + J * 2, none⟩ = some (Value.int .i64 m0) ∧ Below w.heap.size w W))) := ⟨⟨_, hS0⟩⟩
              try dsimp only at q0 q1 q2
              have QG3 := wd_call (S := fun W => (W.cell? ⟨b, off + K * 2, none⟩ = some (Value.int .i64 n0) ∧ W.cell? ⟨b, off + K * 2 + 1, none⟩ = some (Value.int .i64 n1) ∧ W.cell? ⟨b, off + J * 2, none⟩ = some (Value.int .i64 m0) ∧ Below w.heap.size w W)) G3.out
              have QG4 := wd_call (S := fun W => (W.cell? ⟨b, off + K * 2, none⟩ = some (Value.int .i64 n0) ∧ W.cell? ⟨b, off + K * 2 + 1, none⟩ = some (Value.int .i64 n1) ∧ W.cell? ⟨b, off + J * 2, none⟩ = some (Value.int .i64 m0) ∧ Below w.heap.size w W)) G4.out
              go_upto_region 4 with fail
              refine wp_region_quiet_wd (S := fun W => (W.cell? ⟨b, off + K * 2, none⟩ = some (Value.int .i64 n0) ∧ W.cell? ⟨b, off + K * 2 + 1, none⟩ = some (Value.int .i64 n1) ∧ W.cell? ⟨b, off + J * 2, none⟩ = some (Value.int .i64 m0) ∧ Below w.heap.size w W)) (by kernel_rfl) (by kernel_rfl) hS0 ?_
              repeat (go_big_quiet_step (first | (with_reducible exact QG3 _) | (with_reducible exact QG4 _)))
              refine wpQuiet_nil ?_
              intro _ hw'
              obtain ⟨⟨wq, hSq⟩, rfl⟩ := hw'
              try dsimp only
              clear hne q0 q1 q2 hS0 QG3 QG4
              go_wp2_with fail
              go_roundw
              case rel => exact ⟨K + 1, by go_num, by omega, HD, Lib.hid hSq.2.2.2⟩
              case measure => simp [intOf]; omega
            · have hle : n0 ≤ m0 := by omega
              have hle2 : decide (n0 ≤ m0) = true := decide_eq_true hle
              rw [decide_eq_false hlm] at hd
              have HD := Lib.hid hd
              clear hd hx hy hcell' hJ hK0 hlm
              have hS0 : (wr.drew.cell? ⟨b, off + K * 2, none⟩ = some (Value.int .i64 n0) ∧ wr.drew.cell? ⟨b, off + K * 2 + 1, none⟩ = some (Value.int .i64 n1) ∧ wr.drew.cell? ⟨b, off + J * 2, none⟩ = some (Value.int .i64 m0) ∧ Below w.heap.size w wr.drew) := ⟨k0, k1, k2, HB.out.drew⟩
              have q0 := fun x : Wd (fun W => (W.cell? ⟨b, off + K * 2, none⟩ = some (Value.int .i64 n0) ∧ W.cell? ⟨b, off + K * 2 + 1, none⟩ = some (Value.int .i64 n1) ∧ W.cell? ⟨b, off + J * 2, none⟩ = some (Value.int .i64 m0) ∧ Below w.heap.size w W)) => x.ok.1
              have q1 := fun x : Wd (fun W => (W.cell? ⟨b, off + K * 2, none⟩ = some (Value.int .i64 n0) ∧ W.cell? ⟨b, off + K * 2 + 1, none⟩ = some (Value.int .i64 n1) ∧ W.cell? ⟨b, off + J * 2, none⟩ = some (Value.int .i64 m0) ∧ Below w.heap.size w W)) => x.ok.2.1
              have q2 := fun x : Wd (fun W => (W.cell? ⟨b, off + K * 2, none⟩ = some (Value.int .i64 n0) ∧ W.cell? ⟨b, off + K * 2 + 1, none⟩ = some (Value.int .i64 n1) ∧ W.cell? ⟨b, off + J * 2, none⟩ = some (Value.int .i64 m0) ∧ Below w.heap.size w W)) => x.ok.2.2.1
              haveI hne : Nonempty (Wd (fun W => (W.cell? ⟨b, off + K * 2, none⟩ = some (Value.int .i64 n0) ∧ W.cell? ⟨b, off + K * 2 + 1, none⟩ = some (Value.int .i64 n1) ∧ W.cell? ⟨b, off + J * 2, none⟩ = some (Value.int .i64 m0) ∧ Below w.heap.size w W))) := ⟨⟨_, hS0⟩⟩
              try dsimp only at q0 q1 q2
              have QG3 := wd_call (S := fun W => (W.cell? ⟨b, off + K * 2, none⟩ = some (Value.int .i64 n0) ∧ W.cell? ⟨b, off + K * 2 + 1, none⟩ = some (Value.int .i64 n1) ∧ W.cell? ⟨b, off + J * 2, none⟩ = some (Value.int .i64 m0) ∧ Below w.heap.size w W)) G3.out
              have QG4 := wd_call (S := fun W => (W.cell? ⟨b, off + K * 2, none⟩ = some (Value.int .i64 n0) ∧ W.cell? ⟨b, off + K * 2 + 1, none⟩ = some (Value.int .i64 n1) ∧ W.cell? ⟨b, off + J * 2, none⟩ = some (Value.int .i64 m0) ∧ Below w.heap.size w W)) G4.out
              go_upto_region 4 with fail
              refine wp_region_quiet_wd (S := fun W => (W.cell? ⟨b, off + K * 2, none⟩ = some (Value.int .i64 n0) ∧ W.cell? ⟨b, off + K * 2 + 1, none⟩ = some (Value.int .i64 n1) ∧ W.cell? ⟨b, off + J * 2, none⟩ = some (Value.int .i64 m0) ∧ Below w.heap.size w W)) (by kernel_rfl) (by kernel_rfl) hS0 ?_
              repeat (go_big_quiet_step (first | (with_reducible exact QG3 _) | (with_reducible exact QG4 _)))
              refine wpQuiet_nil ?_
              intro _ hw'
              obtain ⟨⟨wq, hSq⟩, rfl⟩ := hw'
              try dsimp only
              clear hne q0 q1 q2 hS0 QG3 QG4
              go_wp2_with fail
              go_ret
              exact ⟨by rw [HD.out]; rfl, hSq.2.2.2⟩
    · have hltI : ¬ (K : Int) < (N : Int) := by omega
      have hd := HJ.out
      rw [List.drop_of_length_le (i := K) (by rw [HN.out]; omega)] at hd
      have HD := Lib.hid (show r = decide ((N : Int) ≤ 32) by rw [hd, vdsGo, Bool.true_and]; exact decide_eq_decide.2 (by omega))
      clear hd
      go_wp2_with fail
      go_ret
      exact ⟨by rw [HD.out]; rfl, HB.out⟩

set_option maxHeartbeats 8000000 in
theorem items_any (L : Low) (l : List It) (v : Value) (w : World) (h : ItsIs w v l) (hw : ItsWf l) :
    Calls Tryz.prog 11 #[v] w fun e w' => e = .returned (.bool (itemsP l)) ∧ Below w.heap.size w w' := by
  obtain ⟨a, cap, rfl, hc⟩ := h.open
  obtain ⟨N, hN⟩ : ∃ N, l.length = N := ⟨_, rfl⟩
  have hv : itemsP l = (itemsGo l 0 (l.drop 0) && decide (N ≤ 64)) := by unfold itemsP; rw [hN]; rfl
  have HC := Lib.hid hc
  have HN := Lib.hid hN
  have HW := Lib.hid hw
  have hn : N ≤ 17592186044416 := by rw [← hN]; exact hw.2
  rw [hN]
  obtain ⟨r, hr⟩ : ∃ r, itemsP l = r := ⟨_, rfl⟩
  rw [hr] at hv ⊢
  have HV := Lib.hid hv
  clear hc h hN hv hr hw
  go_enter Tryz.func11, Tryz.ntmps11
  go_wp2_with fail
  go_loopw [3] (fun i wr => ∃ K : Nat, i = .int .i64 (K : Int) ∧ K ≤ N ∧ Hid (r = (itemsGo l K (l.drop K) && decide (N ≤ 64))) ∧ Hid (Below w.heap.size w wr)) (fun i _ => N - (intOf i).toNat)
  case atStart => exact ⟨0, rfl, Nat.zero_le _, HV, Lib.hid (Below.refl _ _)⟩
  case round =>
    obtain ⟨K, rfl, hK, HJ, HB⟩ := hrel
    by_cases hlt : K < N
    · have hltI : (K : Int) < (N : Int) := by omega
      have hk0 : 0 ≤ (K : Int) := by omega
      have hw1 : IntKind.i64.wrap ((K : Int) + 1) = (K : Int) + 1 := IntWalk.i64_in _ (by omega)
      obtain ⟨x, hx⟩ : ∃ x, l[K]? = some x := ⟨_, List.getElem?_eq_getElem (by rw [HN.out]; exact hlt)⟩
      have hxw := HW.out.1 x (List.mem_of_getElem? hx)
      have hd := HJ.out
      rw [itemsGo_drop hx] at hd
      obtain ⟨b, off, ea, cs, -, ⟨u, rfl, hu⟩, hcell⟩ := HC.out K x hx
      subst ea
      obtain ⟨s, n0, n1, ar⟩ := x
      obtain ⟨hw2, hw0, hw3, hw4⟩ := hxw
      dsimp only at hw2 hw0 hw3 hw4 hu
      unfold TxWf at hw2
      have k0 : wr.cell? ⟨b, off + K * 4, none⟩ = some (.string (str s)) := kept_cell HB.out (hcell 0 _ rfl)
      have k1 : wr.cell? ⟨b, off + K * 4 + 1, none⟩ = some (.int .i64 n0) := kept_cell HB.out (hcell 1 _ rfl)
      have k2 : wr.cell? ⟨b, off + K * 4 + 2, none⟩ = some (.int .i64 n1) := kept_cell HB.out (hcell 2 _ rfl)
      have k3 : wr.cell? ⟨b, off + K * 4 + 3, none⟩ = some u := kept_cell HB.out (hcell 3 _ rfl)
      have H1 := fun W => L.stream s W (by omega)
      have H2 := fun W (hb : Below w.heap.size w W) => state_any L ⟨n0, n1, ar⟩ u W (hu.below hb) ⟨hw0, hw3, hw4⟩
      unfold itP at hd
      dsimp only at hd H2
      obtain ⟨p, hp⟩ : ∃ p, streamP s = p := ⟨_, rfl⟩
      obtain ⟨q, hq⟩ : ∃ p, stP ⟨n0, n1, ar⟩ = p := ⟨_, rfl⟩
      rw [hp] at H1 hd
      rw [hq] at H2 hd
      clear hp hq hcell hu
      have G1 := Lib.hid (fun (W : World) (hS : (W.cell? ⟨b, off + K * 4, none⟩ = some (Value.string (str s)) ∧ W.cell? ⟨b, off + K * 4 + 1, none⟩ = some (Value.int .i64 n0) ∧ W.cell? ⟨b, off + K * 4 + 2, none⟩ = some (Value.int .i64 n1) ∧ W.cell? ⟨b, off + K * 4 + 3, none⟩ = some u ∧ Below w.heap.size w W)) => (H1 W).mono (fun e (w' : World) ⟨h1, h2⟩ => (⟨h1, kept_cell h2 hS.1, kept_cell h2 hS.2.1, kept_cell h2 hS.2.2.1, kept_cell h2 hS.2.2.2.1, hS.2.2.2.2.trans (h2.mono hS.2.2.2.2.size)⟩ : e = Ending.returned (Value.bool p) ∧ (w'.cell? ⟨b, off + K * 4, none⟩ = some (Value.string (str s)) ∧ w'.cell? ⟨b, off + K * 4 + 1, none⟩ = some (Value.int .i64 n0) ∧ w'.cell? ⟨b, off + K * 4 + 2, none⟩ = some (Value.int .i64 n1) ∧ w'.cell? ⟨b, off + K * 4 + 3, none⟩ = some u ∧ Below w.heap.size w w'))))
      have G2 := Lib.hid (fun (W : World) (hS : (W.cell? ⟨b, off + K * 4, none⟩ = some (Value.string (str s)) ∧ W.cell? ⟨b, off + K * 4 + 1, none⟩ = some (Value.int .i64 n0) ∧ W.cell? ⟨b, off + K * 4 + 2, none⟩ = some (Value.int .i64 n1) ∧ W.cell? ⟨b, off + K * 4 + 3, none⟩ = some u ∧ Below w.heap.size w W)) => (H2 W hS.2.2.2.2).mono (fun e (w' : World) ⟨h1, h2⟩ => (⟨h1, kept_cell h2 hS.1, kept_cell h2 hS.2.1, kept_cell h2 hS.2.2.1, kept_cell h2 hS.2.2.2.1, hS.2.2.2.2.trans (h2.mono hS.2.2.2.2.size)⟩ : e = Ending.returned (Value.bool q) ∧ (w'.cell? ⟨b, off + K * 4, none⟩ = some (Value.string (str s)) ∧ w'.cell? ⟨b, off + K * 4 + 1, none⟩ = some (Value.int .i64 n0) ∧ w'.cell? ⟨b, off + K * 4 + 2, none⟩ = some (Value.int .i64 n1) ∧ w'.cell? ⟨b, off + K * 4 + 3, none⟩ = some u ∧ Below w.heap.size w w'))))
      cases p with
      | false =>
        have HD := Lib.hid hd
        clear hd hx
        have hS0 : (wr.drew.cell? ⟨b, off + K * 4, none⟩ = some (Value.string (str s)) ∧ wr.drew.cell? ⟨b, off + K * 4 + 1, none⟩ = some (Value.int .i64 n0) ∧ wr.drew.cell? ⟨b, off + K * 4 + 2, none⟩ = some (Value.int .i64 n1) ∧ wr.drew.cell? ⟨b, off + K * 4 + 3, none⟩ = some u ∧ Below w.heap.size w wr.drew) := ⟨k0, k1, k2, k3, HB.out.drew⟩
        have q0 := fun x : Wd (fun W => (W.cell? ⟨b, off + K * 4, none⟩ = some (Value.string (str s)) ∧ W.cell? ⟨b, off + K * 4 + 1, none⟩ = some (Value.int .i64 n0) ∧ W.cell? ⟨b, off + K * 4 + 2, none⟩ = some (Value.int .i64 n1) ∧ W.cell? ⟨b, off + K * 4 + 3, none⟩ = some u ∧ Below w.heap.size w W)) => x.ok.1
        have q1 := fun x : Wd (fun W => (W.cell? ⟨b, off + K * 4, none⟩ = some (Value.string (str s)) ∧ W.cell? ⟨b, off + K * 4 + 1, none⟩ = some (Value.int .i64 n0) ∧ W.cell? ⟨b, off + K * 4 + 2, none⟩ = some (Value.int .i64 n1) ∧ W.cell? ⟨b, off + K * 4 + 3, none⟩ = some u ∧ Below w.heap.size w W)) => x.ok.2.1
        have q2 := fun x : Wd (fun W => (W.cell? ⟨b, off + K * 4, none⟩ = some (Value.string (str s)) ∧ W.cell? ⟨b, off + K * 4 + 1, none⟩ = some (Value.int .i64 n0) ∧ W.cell? ⟨b, off + K * 4 + 2, none⟩ = some (Value.int .i64 n1) ∧ W.cell? ⟨b, off + K * 4 + 3, none⟩ = some u ∧ Below w.heap.size w W)) => x.ok.2.2.1
        have q3 := fun x : Wd (fun W => (W.cell? ⟨b, off + K * 4, none⟩ = some (Value.string (str s)) ∧ W.cell? ⟨b, off + K * 4 + 1, none⟩ = some (Value.int .i64 n0) ∧ W.cell? ⟨b, off + K * 4 + 2, none⟩ = some (Value.int .i64 n1) ∧ W.cell? ⟨b, off + K * 4 + 3, none⟩ = some u ∧ Below w.heap.size w W)) => x.ok.2.2.2.1
        haveI hne : Nonempty (Wd (fun W => (W.cell? ⟨b, off + K * 4, none⟩ = some (Value.string (str s)) ∧ W.cell? ⟨b, off + K * 4 + 1, none⟩ = some (Value.int .i64 n0) ∧ W.cell? ⟨b, off + K * 4 + 2, none⟩ = some (Value.int .i64 n1) ∧ W.cell? ⟨b, off + K * 4 + 3, none⟩ = some u ∧ Below w.heap.size w W))) := ⟨⟨_, hS0⟩⟩
        try dsimp only at q0 q1 q2 q3
        have QG1 := wd_call (S := fun W => (W.cell? ⟨b, off + K * 4, none⟩ = some (Value.string (str s)) ∧ W.cell? ⟨b, off + K * 4 + 1, none⟩ = some (Value.int .i64 n0) ∧ W.cell? ⟨b, off + K * 4 + 2, none⟩ = some (Value.int .i64 n1) ∧ W.cell? ⟨b, off + K * 4 + 3, none⟩ = some u ∧ Below w.heap.size w W)) G1.out
        go_upto_region 4 with fail
        refine wp_region_quiet_wd (S := fun W => (W.cell? ⟨b, off + K * 4, none⟩ = some (Value.string (str s)) ∧ W.cell? ⟨b, off + K * 4 + 1, none⟩ = some (Value.int .i64 n0) ∧ W.cell? ⟨b, off + K * 4 + 2, none⟩ = some (Value.int .i64 n1) ∧ W.cell? ⟨b, off + K * 4 + 3, none⟩ = some u ∧ Below w.heap.size w W)) (by kernel_rfl) (by kernel_rfl) hS0 ?_
        repeat (go_big_quiet_step (first | (with_reducible exact QG1 _)))
        refine wpQuiet_nil ?_
        intro _ hw'
        obtain ⟨⟨wq, hSq⟩, rfl⟩ := hw'
        try dsimp only
        clear hne q0 q1 q2 q3 hS0 QG1
        go_wp2_with fail
        go_ret
        exact ⟨by rw [HD.out]; rfl, hSq.2.2.2.2⟩
      | true =>
        cases q with
        | false =>
          have HD := Lib.hid hd
          clear hd hx
          have hS0 : (wr.drew.cell? ⟨b, off + K * 4, none⟩ = some (Value.string (str s)) ∧ wr.drew.cell? ⟨b, off + K * 4 + 1, none⟩ = some (Value.int .i64 n0) ∧ wr.drew.cell? ⟨b, off + K * 4 + 2, none⟩ = some (Value.int .i64 n1) ∧ wr.drew.cell? ⟨b, off + K * 4 + 3, none⟩ = some u ∧ Below w.heap.size w wr.drew) := ⟨k0, k1, k2, k3, HB.out.drew⟩
          have q0 := fun x : Wd (fun W => (W.cell? ⟨b, off + K * 4, none⟩ = some (Value.string (str s)) ∧ W.cell? ⟨b, off + K * 4 + 1, none⟩ = some (Value.int .i64 n0) ∧ W.cell? ⟨b, off + K * 4 + 2, none⟩ = some (Value.int .i64 n1) ∧ W.cell? ⟨b, off + K * 4 + 3, none⟩ = some u ∧ Below w.heap.size w W)) => x.ok.1
          have q1 := fun x : Wd (fun W => (W.cell? ⟨b, off + K * 4, none⟩ = some (Value.string (str s)) ∧ W.cell? ⟨b, off + K * 4 + 1, none⟩ = some (Value.int .i64 n0) ∧ W.cell? ⟨b, off + K * 4 + 2, none⟩ = some (Value.int .i64 n1) ∧ W.cell? ⟨b, off + K * 4 + 3, none⟩ = some u ∧ Below w.heap.size w W)) => x.ok.2.1
          have q2 := fun x : Wd (fun W => (W.cell? ⟨b, off + K * 4, none⟩ = some (Value.string (str s)) ∧ W.cell? ⟨b, off + K * 4 + 1, none⟩ = some (Value.int .i64 n0) ∧ W.cell? ⟨b, off + K * 4 + 2, none⟩ = some (Value.int .i64 n1) ∧ W.cell? ⟨b, off + K * 4 + 3, none⟩ = some u ∧ Below w.heap.size w W)) => x.ok.2.2.1
          have q3 := fun x : Wd (fun W => (W.cell? ⟨b, off + K * 4, none⟩ = some (Value.string (str s)) ∧ W.cell? ⟨b, off + K * 4 + 1, none⟩ = some (Value.int .i64 n0) ∧ W.cell? ⟨b, off + K * 4 + 2, none⟩ = some (Value.int .i64 n1) ∧ W.cell? ⟨b, off + K * 4 + 3, none⟩ = some u ∧ Below w.heap.size w W)) => x.ok.2.2.2.1
          haveI hne : Nonempty (Wd (fun W => (W.cell? ⟨b, off + K * 4, none⟩ = some (Value.string (str s)) ∧ W.cell? ⟨b, off + K * 4 + 1, none⟩ = some (Value.int .i64 n0) ∧ W.cell? ⟨b, off + K * 4 + 2, none⟩ = some (Value.int .i64 n1) ∧ W.cell? ⟨b, off + K * 4 + 3, none⟩ = some u ∧ Below w.heap.size w W))) := ⟨⟨_, hS0⟩⟩
          try dsimp only at q0 q1 q2 q3
          have QG1 := wd_call (S := fun W => (W.cell? ⟨b, off + K * 4, none⟩ = some (Value.string (str s)) ∧ W.cell? ⟨b, off + K * 4 + 1, none⟩ = some (Value.int .i64 n0) ∧ W.cell? ⟨b, off + K * 4 + 2, none⟩ = some (Value.int .i64 n1) ∧ W.cell? ⟨b, off + K * 4 + 3, none⟩ = some u ∧ Below w.heap.size w W)) G1.out
          have QG2 := wd_call (S := fun W => (W.cell? ⟨b, off + K * 4, none⟩ = some (Value.string (str s)) ∧ W.cell? ⟨b, off + K * 4 + 1, none⟩ = some (Value.int .i64 n0) ∧ W.cell? ⟨b, off + K * 4 + 2, none⟩ = some (Value.int .i64 n1) ∧ W.cell? ⟨b, off + K * 4 + 3, none⟩ = some u ∧ Below w.heap.size w W)) G2.out
          go_upto_region 4 with fail
          refine wp_region_quiet_wd (S := fun W => (W.cell? ⟨b, off + K * 4, none⟩ = some (Value.string (str s)) ∧ W.cell? ⟨b, off + K * 4 + 1, none⟩ = some (Value.int .i64 n0) ∧ W.cell? ⟨b, off + K * 4 + 2, none⟩ = some (Value.int .i64 n1) ∧ W.cell? ⟨b, off + K * 4 + 3, none⟩ = some u ∧ Below w.heap.size w W)) (by kernel_rfl) (by kernel_rfl) hS0 ?_
          repeat (go_big_quiet_step (first | (with_reducible exact QG1 _) | (with_reducible exact QG2 _)))
          refine wpQuiet_nil ?_
          intro _ hw'
          obtain ⟨⟨wq, hSq⟩, rfl⟩ := hw'
          try dsimp only
          clear hne q0 q1 q2 q3 hS0 QG1 QG2
          go_wp2_with fail
          go_ret
          exact ⟨by rw [HD.out]; rfl, hSq.2.2.2.2⟩
        | true =>
          by_cases hK0 : K = 0
          · rw [decide_eq_true hK0] at hd
            have HD := Lib.hid (show r = (itemsGo l (K + 1) (l.drop (K + 1)) && decide (N ≤ 64)) from hd)
            have hg : ¬ (0 : Int) < (K : Int) := by omega
            have hg2 : decide ((0 : Int) < (K : Int)) = false := decide_eq_false hg
            have hg3 : ¬ 0 < K := by omega
            have hg4 : decide (0 < K) = false := decide_eq_false hg3
            clear hd hx hK0
            have hS0 : (wr.drew.cell? ⟨b, off + K * 4, none⟩ = some (Value.string (str s)) ∧ wr.drew.cell? ⟨b, off + K * 4 + 1, none⟩ = some (Value.int .i64 n0) ∧ wr.drew.cell? ⟨b, off + K * 4 + 2, none⟩ = some (Value.int .i64 n1) ∧ wr.drew.cell? ⟨b, off + K * 4 + 3, none⟩ = some u ∧ Below w.heap.size w wr.drew) := ⟨k0, k1, k2, k3, HB.out.drew⟩
            have q0 := fun x : Wd (fun W => (W.cell? ⟨b, off + K * 4, none⟩ = some (Value.string (str s)) ∧ W.cell? ⟨b, off + K * 4 + 1, none⟩ = some (Value.int .i64 n0) ∧ W.cell? ⟨b, off + K * 4 + 2, none⟩ = some (Value.int .i64 n1) ∧ W.cell? ⟨b, off + K * 4 + 3, none⟩ = some u ∧ Below w.heap.size w W)) => x.ok.1
            have q1 := fun x : Wd (fun W => (W.cell? ⟨b, off + K * 4, none⟩ = some (Value.string (str s)) ∧ W.cell? ⟨b, off + K * 4 + 1, none⟩ = some (Value.int .i64 n0) ∧ W.cell? ⟨b, off + K * 4 + 2, none⟩ = some (Value.int .i64 n1) ∧ W.cell? ⟨b, off + K * 4 + 3, none⟩ = some u ∧ Below w.heap.size w W)) => x.ok.2.1
            have q2 := fun x : Wd (fun W => (W.cell? ⟨b, off + K * 4, none⟩ = some (Value.string (str s)) ∧ W.cell? ⟨b, off + K * 4 + 1, none⟩ = some (Value.int .i64 n0) ∧ W.cell? ⟨b, off + K * 4 + 2, none⟩ = some (Value.int .i64 n1) ∧ W.cell? ⟨b, off + K * 4 + 3, none⟩ = some u ∧ Below w.heap.size w W)) => x.ok.2.2.1
            have q3 := fun x : Wd (fun W => (W.cell? ⟨b, off + K * 4, none⟩ = some (Value.string (str s)) ∧ W.cell? ⟨b, off + K * 4 + 1, none⟩ = some (Value.int .i64 n0) ∧ W.cell? ⟨b, off + K * 4 + 2, none⟩ = some (Value.int .i64 n1) ∧ W.cell? ⟨b, off + K * 4 + 3, none⟩ = some u ∧ Below w.heap.size w W)) => x.ok.2.2.2.1
            haveI hne : Nonempty (Wd (fun W => (W.cell? ⟨b, off + K * 4, none⟩ = some (Value.string (str s)) ∧ W.cell? ⟨b, off + K * 4 + 1, none⟩ = some (Value.int .i64 n0) ∧ W.cell? ⟨b, off + K * 4 + 2, none⟩ = some (Value.int .i64 n1) ∧ W.cell? ⟨b, off + K * 4 + 3, none⟩ = some u ∧ Below w.heap.size w W))) := ⟨⟨_, hS0⟩⟩
            try dsimp only at q0 q1 q2 q3
            have QG1 := wd_call (S := fun W => (W.cell? ⟨b, off + K * 4, none⟩ = some (Value.string (str s)) ∧ W.cell? ⟨b, off + K * 4 + 1, none⟩ = some (Value.int .i64 n0) ∧ W.cell? ⟨b, off + K * 4 + 2, none⟩ = some (Value.int .i64 n1) ∧ W.cell? ⟨b, off + K * 4 + 3, none⟩ = some u ∧ Below w.heap.size w W)) G1.out
            have QG2 := wd_call (S := fun W => (W.cell? ⟨b, off + K * 4, none⟩ = some (Value.string (str s)) ∧ W.cell? ⟨b, off + K * 4 + 1, none⟩ = some (Value.int .i64 n0) ∧ W.cell? ⟨b, off + K * 4 + 2, none⟩ = some (Value.int .i64 n1) ∧ W.cell? ⟨b, off + K * 4 + 3, none⟩ = some u ∧ Below w.heap.size w W)) G2.out
            go_upto_region 4 with fail
            refine wp_region_quiet_wd (S := fun W => (W.cell? ⟨b, off + K * 4, none⟩ = some (Value.string (str s)) ∧ W.cell? ⟨b, off + K * 4 + 1, none⟩ = some (Value.int .i64 n0) ∧ W.cell? ⟨b, off + K * 4 + 2, none⟩ = some (Value.int .i64 n1) ∧ W.cell? ⟨b, off + K * 4 + 3, none⟩ = some u ∧ Below w.heap.size w W)) (by kernel_rfl) (by kernel_rfl) hS0 ?_
            repeat (go_big_quiet_step (first | (with_reducible exact QG1 _) | (with_reducible exact QG2 _)))
            refine wpQuiet_nil ?_
            intro _ hw'
            obtain ⟨⟨wq, hSq⟩, rfl⟩ := hw'
            try dsimp only
            clear hne q0 q1 q2 q3 hS0 QG1 QG2
            go_wp2_with fail
            go_roundw
            case rel => exact ⟨K + 1, by go_num, by omega, HD, Lib.hid hSq.2.2.2.2⟩
            case measure => simp [intOf]; omega
          · have hg : (0 : Int) < (K : Int) := by omega
            have hg2 : decide ((0 : Int) < (K : Int)) = true := decide_eq_true hg
            have hg3 : 0 < K := by omega
            have hg4 : decide (0 < K) = true := decide_eq_true hg3
            obtain ⟨J, hJ⟩ : ∃ J, K = J + 1 := ⟨K - 1, by omega⟩
            have hwm : IntKind.i64.wrap ((K : Int) - 1) = (J : Int) := by rw [hJ]; exact IntWalk.i64_in _ (by omega) |>.trans (by omega)
            have hJ0 : 0 ≤ (J : Int) := by omega
            have hJN : (J : Int) < (N : Int) := by omega
            obtain ⟨y, hy⟩ : ∃ y, l[J]? = some y := ⟨_, List.getElem?_eq_getElem (by rw [HN.out]; omega)⟩
            obtain ⟨b', off', ea', cs', -, ⟨u', rfl, hu'⟩, hcell'⟩ := HC.out J y hy
            cases ea'
            rw [decide_eq_false hK0, show K - 1 = J by omega, hy] at hd
            have hyw := (HW.out.1 y (List.mem_of_getElem? hy)).1
            obtain ⟨t, yst⟩ := y
            dsimp only at hd hyw
            unfold TxWf at hyw
            have k4 : wr.cell? ⟨b, off + J * 4, none⟩ = some (.string (str t)) := kept_cell HB.out (hcell' 0 _ rfl)
            have H3 := fun W => L.less t s W (by omega) (by omega)
            obtain ⟨c, hc⟩ : ∃ c, lessL t s = c := ⟨_, rfl⟩
            rw [hc] at hd H3
            clear hc hcell' hu' hyw
            have G3 := Lib.hid (fun (W : World) (hS : (W.cell? ⟨b, off + K * 4, none⟩ = some (Value.string (str s)) ∧ W.cell? ⟨b, off + K * 4 + 1, none⟩ = some (Value.int .i64 n0) ∧ W.cell? ⟨b, off + K * 4 + 2, none⟩ = some (Value.int .i64 n1) ∧ W.cell? ⟨b, off + K * 4 + 3, none⟩ = some u ∧ W.cell? ⟨b, off + J * 4, none⟩ = some (Value.string (str t)) ∧ Below w.heap.size w W)) => (H1 W).mono (fun e (w' : World) ⟨h1, h2⟩ => (⟨h1, kept_cell h2 hS.1, kept_cell h2 hS.2.1, kept_cell h2 hS.2.2.1, kept_cell h2 hS.2.2.2.1, kept_cell h2 hS.2.2.2.2.1, hS.2.2.2.2.2.trans (h2.mono hS.2.2.2.2.2.size)⟩ : e = Ending.returned (Value.bool true) ∧ (w'.cell? ⟨b, off + K * 4, none⟩ = some (Value.string (str s)) ∧ w'.cell? ⟨b, off + K * 4 + 1, none⟩ = some (Value.int .i64 n0) ∧ w'.cell? ⟨b, off + K * 4 + 2, none⟩ = some (Value.int .i64 n1) ∧ w'.cell? ⟨b, off + K * 4 + 3, none⟩ = some u ∧ w'.cell? ⟨b, off + J * 4, none⟩ = some (Value.string (str t)) ∧ Below w.heap.size w w'))))
            have G4 := Lib.hid (fun (W : World) (hS : (W.cell? ⟨b, off + K * 4, none⟩ = some (Value.string (str s)) ∧ W.cell? ⟨b, off + K * 4 + 1, none⟩ = some (Value.int .i64 n0) ∧ W.cell? ⟨b, off + K * 4 + 2, none⟩ = some (Value.int .i64 n1) ∧ W.cell? ⟨b, off + K * 4 + 3, none⟩ = some u ∧ W.cell? ⟨b, off + J * 4, none⟩ = some (Value.string (str t)) ∧ Below w.heap.size w W)) => (H2 W hS.2.2.2.2.2).mono (fun e (w' : World) ⟨h1, h2⟩ => (⟨h1, kept_cell h2 hS.1, kept_cell h2 hS.2.1, kept_cell h2 hS.2.2.1, kept_cell h2 hS.2.2.2.1, kept_cell h2 hS.2.2.2.2.1, hS.2.2.2.2.2.trans (h2.mono hS.2.2.2.2.2.size)⟩ : e = Ending.returned (Value.bool true) ∧ (w'.cell? ⟨b, off + K * 4, none⟩ = some (Value.string (str s)) ∧ w'.cell? ⟨b, off + K * 4 + 1, none⟩ = some (Value.int .i64 n0) ∧ w'.cell? ⟨b, off + K * 4 + 2, none⟩ = some (Value.int .i64 n1) ∧ w'.cell? ⟨b, off + K * 4 + 3, none⟩ = some u ∧ w'.cell? ⟨b, off + J * 4, none⟩ = some (Value.string (str t)) ∧ Below w.heap.size w w'))))
            have G5 := Lib.hid (fun (W : World) (hS : (W.cell? ⟨b, off + K * 4, none⟩ = some (Value.string (str s)) ∧ W.cell? ⟨b, off + K * 4 + 1, none⟩ = some (Value.int .i64 n0) ∧ W.cell? ⟨b, off + K * 4 + 2, none⟩ = some (Value.int .i64 n1) ∧ W.cell? ⟨b, off + K * 4 + 3, none⟩ = some u ∧ W.cell? ⟨b, off + J * 4, none⟩ = some (Value.string (str t)) ∧ Below w.heap.size w W)) => (H3 W).mono (fun e (w' : World) ⟨h1, h2⟩ => (⟨h1, kept_cell h2 hS.1, kept_cell h2 hS.2.1, kept_cell h2 hS.2.2.1, kept_cell h2 hS.2.2.2.1, kept_cell h2 hS.2.2.2.2.1, hS.2.2.2.2.2.trans (h2.mono hS.2.2.2.2.2.size)⟩ : e = Ending.returned (Value.bool c) ∧ (w'.cell? ⟨b, off + K * 4, none⟩ = some (Value.string (str s)) ∧ w'.cell? ⟨b, off + K * 4 + 1, none⟩ = some (Value.int .i64 n0) ∧ w'.cell? ⟨b, off + K * 4 + 2, none⟩ = some (Value.int .i64 n1) ∧ w'.cell? ⟨b, off + K * 4 + 3, none⟩ = some u ∧ w'.cell? ⟨b, off + J * 4, none⟩ = some (Value.string (str t)) ∧ Below w.heap.size w w'))))
            cases c with
            | true =>
              have HD := Lib.hid (show r = (itemsGo l (K + 1) (l.drop (K + 1)) && decide (N ≤ 64)) from hd)
              clear hd hx hy hJ hK0
              have hS0 : (wr.drew.cell? ⟨b, off + K * 4, none⟩ = some (Value.string (str s)) ∧ wr.drew.cell? ⟨b, off + K * 4 + 1, none⟩ = some (Value.int .i64 n0) ∧ wr.drew.cell? ⟨b, off + K * 4 + 2, none⟩ = some (Value.int .i64 n1) ∧ wr.drew.cell? ⟨b, off + K * 4 + 3, none⟩ = some u ∧ wr.drew.cell? ⟨b, off + J * 4, none⟩ = some (Value.string (str t)) ∧ Below w.heap.size w wr.drew) := ⟨k0, k1, k2, k3, k4, HB.out.drew⟩
              have q0 := fun x : Wd (fun W => (W.cell? ⟨b, off + K * 4, none⟩ = some (Value.string (str s)) ∧ W.cell? ⟨b, off + K * 4 + 1, none⟩ = some (Value.int .i64 n0) ∧ W.cell? ⟨b, off + K * 4 + 2, none⟩ = some (Value.int .i64 n1) ∧ W.cell? ⟨b, off + K * 4 + 3, none⟩ = some u ∧ W.cell? ⟨b, off + J * 4, none⟩ = some (Value.string (str t)) ∧ Below w.heap.size w W)) => x.ok.1
              have q1 := fun x : Wd (fun W => (W.cell? ⟨b, off + K * 4, none⟩ = some (Value.string (str s)) ∧ W.cell? ⟨b, off + K * 4 + 1, none⟩ = some (Value.int .i64 n0) ∧ W.cell? ⟨b, off + K * 4 + 2, none⟩ = some (Value.int .i64 n1) ∧ W.cell? ⟨b, off + K * 4 + 3, none⟩ = some u ∧ W.cell? ⟨b, off + J * 4, none⟩ = some (Value.string (str t)) ∧ Below w.heap.size w W)) => x.ok.2.1
              have q2 := fun x : Wd (fun W => (W.cell? ⟨b, off + K * 4, none⟩ = some (Value.string (str s)) ∧ W.cell? ⟨b, off + K * 4 + 1, none⟩ = some (Value.int .i64 n0) ∧ W.cell? ⟨b, off + K * 4 + 2, none⟩ = some (Value.int .i64 n1) ∧ W.cell? ⟨b, off + K * 4 + 3, none⟩ = some u ∧ W.cell? ⟨b, off + J * 4, none⟩ = some (Value.string (str t)) ∧ Below w.heap.size w W)) => x.ok.2.2.1
              have q3 := fun x : Wd (fun W => (W.cell? ⟨b, off + K * 4, none⟩ = some (Value.string (str s)) ∧ W.cell? ⟨b, off + K * 4 + 1, none⟩ = some (Value.int .i64 n0) ∧ W.cell? ⟨b, off + K * 4 + 2, none⟩ = some (Value.int .i64 n1) ∧ W.cell? ⟨b, off + K * 4 + 3, none⟩ = some u ∧ W.cell? ⟨b, off + J * 4, none⟩ = some (Value.string (str t)) ∧ Below w.heap.size w W)) => x.ok.2.2.2.1
              have q4 := fun x : Wd (fun W => (W.cell? ⟨b, off + K * 4, none⟩ = some (Value.string (str s)) ∧ W.cell? ⟨b, off + K * 4 + 1, none⟩ = some (Value.int .i64 n0) ∧ W.cell? ⟨b, off + K * 4 + 2, none⟩ = some (Value.int .i64 n1) ∧ W.cell? ⟨b, off + K * 4 + 3, none⟩ = some u ∧ W.cell? ⟨b, off + J * 4, none⟩ = some (Value.string (str t)) ∧ Below w.heap.size w W)) => x.ok.2.2.2.2.1
              haveI hne : Nonempty (Wd (fun W => (W.cell? ⟨b, off + K * 4, none⟩ = some (Value.string (str s)) ∧ W.cell? ⟨b, off + K * 4 + 1, none⟩ = some (Value.int .i64 n0) ∧ W.cell? ⟨b, off + K * 4 + 2, none⟩ = some (Value.int .i64 n1) ∧ W.cell? ⟨b, off + K * 4 + 3, none⟩ = some u ∧ W.cell? ⟨b, off + J * 4, none⟩ = some (Value.string (str t)) ∧ Below w.heap.size w W))) := ⟨⟨_, hS0⟩⟩
              try dsimp only at q0 q1 q2 q3 q4
              have QG3 := wd_call (S := fun W => (W.cell? ⟨b, off + K * 4, none⟩ = some (Value.string (str s)) ∧ W.cell? ⟨b, off + K * 4 + 1, none⟩ = some (Value.int .i64 n0) ∧ W.cell? ⟨b, off + K * 4 + 2, none⟩ = some (Value.int .i64 n1) ∧ W.cell? ⟨b, off + K * 4 + 3, none⟩ = some u ∧ W.cell? ⟨b, off + J * 4, none⟩ = some (Value.string (str t)) ∧ Below w.heap.size w W)) G3.out
              have QG4 := wd_call (S := fun W => (W.cell? ⟨b, off + K * 4, none⟩ = some (Value.string (str s)) ∧ W.cell? ⟨b, off + K * 4 + 1, none⟩ = some (Value.int .i64 n0) ∧ W.cell? ⟨b, off + K * 4 + 2, none⟩ = some (Value.int .i64 n1) ∧ W.cell? ⟨b, off + K * 4 + 3, none⟩ = some u ∧ W.cell? ⟨b, off + J * 4, none⟩ = some (Value.string (str t)) ∧ Below w.heap.size w W)) G4.out
              have QG5 := wd_call (S := fun W => (W.cell? ⟨b, off + K * 4, none⟩ = some (Value.string (str s)) ∧ W.cell? ⟨b, off + K * 4 + 1, none⟩ = some (Value.int .i64 n0) ∧ W.cell? ⟨b, off + K * 4 + 2, none⟩ = some (Value.int .i64 n1) ∧ W.cell? ⟨b, off + K * 4 + 3, none⟩ = some u ∧ W.cell? ⟨b, off + J * 4, none⟩ = some (Value.string (str t)) ∧ Below w.heap.size w W)) G5.out
              go_upto_region 4 with fail
              refine wp_region_quiet_wd (S := fun W => (W.cell? ⟨b, off + K * 4, none⟩ = some (Value.string (str s)) ∧ W.cell? ⟨b, off + K * 4 + 1, none⟩ = some (Value.int .i64 n0) ∧ W.cell? ⟨b, off + K * 4 + 2, none⟩ = some (Value.int .i64 n1) ∧ W.cell? ⟨b, off + K * 4 + 3, none⟩ = some u ∧ W.cell? ⟨b, off + J * 4, none⟩ = some (Value.string (str t)) ∧ Below w.heap.size w W)) (by kernel_rfl) (by kernel_rfl) hS0 ?_
              repeat (go_big_quiet_step (first | (with_reducible exact QG3 _) | (with_reducible exact QG4 _) | (with_reducible exact QG5 _)))
              refine wpQuiet_nil ?_
              intro _ hw'
              obtain ⟨⟨wq, hSq⟩, rfl⟩ := hw'
              try dsimp only
              clear hne q0 q1 q2 q3 q4 hS0 QG3 QG4 QG5
              go_wp2_with fail
              go_roundw
              case rel => exact ⟨K + 1, by go_num, by omega, HD, Lib.hid hSq.2.2.2.2.2⟩
              case measure => simp [intOf]; omega
            | false =>
              have HD := Lib.hid hd
              clear hd hx hy hJ hK0
              have hS0 : (wr.drew.cell? ⟨b, off + K * 4, none⟩ = some (Value.string (str s)) ∧ wr.drew.cell? ⟨b, off + K * 4 + 1, none⟩ = some (Value.int .i64 n0) ∧ wr.drew.cell? ⟨b, off + K * 4 + 2, none⟩ = some (Value.int .i64 n1) ∧ wr.drew.cell? ⟨b, off + K * 4 + 3, none⟩ = some u ∧ wr.drew.cell? ⟨b, off + J * 4, none⟩ = some (Value.string (str t)) ∧ Below w.heap.size w wr.drew) := ⟨k0, k1, k2, k3, k4, HB.out.drew⟩
              have q0 := fun x : Wd (fun W => (W.cell? ⟨b, off + K * 4, none⟩ = some (Value.string (str s)) ∧ W.cell? ⟨b, off + K * 4 + 1, none⟩ = some (Value.int .i64 n0) ∧ W.cell? ⟨b, off + K * 4 + 2, none⟩ = some (Value.int .i64 n1) ∧ W.cell? ⟨b, off + K * 4 + 3, none⟩ = some u ∧ W.cell? ⟨b, off + J * 4, none⟩ = some (Value.string (str t)) ∧ Below w.heap.size w W)) => x.ok.1
              have q1 := fun x : Wd (fun W => (W.cell? ⟨b, off + K * 4, none⟩ = some (Value.string (str s)) ∧ W.cell? ⟨b, off + K * 4 + 1, none⟩ = some (Value.int .i64 n0) ∧ W.cell? ⟨b, off + K * 4 + 2, none⟩ = some (Value.int .i64 n1) ∧ W.cell? ⟨b, off + K * 4 + 3, none⟩ = some u ∧ W.cell? ⟨b, off + J * 4, none⟩ = some (Value.string (str t)) ∧ Below w.heap.size w W)) => x.ok.2.1
              have q2 := fun x : Wd (fun W => (W.cell? ⟨b, off + K * 4, none⟩ = some (Value.string (str s)) ∧ W.cell? ⟨b, off + K * 4 + 1, none⟩ = some (Value.int .i64 n0) ∧ W.cell? ⟨b, off + K * 4 + 2, none⟩ = some (Value.int .i64 n1) ∧ W.cell? ⟨b, off + K * 4 + 3, none⟩ = some u ∧ W.cell? ⟨b, off + J * 4, none⟩ = some (Value.string (str t)) ∧ Below w.heap.size w W)) => x.ok.2.2.1
              have q3 := fun x : Wd (fun W => (W.cell? ⟨b, off + K * 4, none⟩ = some (Value.string (str s)) ∧ W.cell? ⟨b, off + K * 4 + 1, none⟩ = some (Value.int .i64 n0) ∧ W.cell? ⟨b, off + K * 4 + 2, none⟩ = some (Value.int .i64 n1) ∧ W.cell? ⟨b, off + K * 4 + 3, none⟩ = some u ∧ W.cell? ⟨b, off + J * 4, none⟩ = some (Value.string (str t)) ∧ Below w.heap.size w W)) => x.ok.2.2.2.1
              have q4 := fun x : Wd (fun W => (W.cell? ⟨b, off + K * 4, none⟩ = some (Value.string (str s)) ∧ W.cell? ⟨b, off + K * 4 + 1, none⟩ = some (Value.int .i64 n0) ∧ W.cell? ⟨b, off + K * 4 + 2, none⟩ = some (Value.int .i64 n1) ∧ W.cell? ⟨b, off + K * 4 + 3, none⟩ = some u ∧ W.cell? ⟨b, off + J * 4, none⟩ = some (Value.string (str t)) ∧ Below w.heap.size w W)) => x.ok.2.2.2.2.1
              haveI hne : Nonempty (Wd (fun W => (W.cell? ⟨b, off + K * 4, none⟩ = some (Value.string (str s)) ∧ W.cell? ⟨b, off + K * 4 + 1, none⟩ = some (Value.int .i64 n0) ∧ W.cell? ⟨b, off + K * 4 + 2, none⟩ = some (Value.int .i64 n1) ∧ W.cell? ⟨b, off + K * 4 + 3, none⟩ = some u ∧ W.cell? ⟨b, off + J * 4, none⟩ = some (Value.string (str t)) ∧ Below w.heap.size w W))) := ⟨⟨_, hS0⟩⟩
              try dsimp only at q0 q1 q2 q3 q4
              have QG3 := wd_call (S := fun W => (W.cell? ⟨b, off + K * 4, none⟩ = some (Value.string (str s)) ∧ W.cell? ⟨b, off + K * 4 + 1, none⟩ = some (Value.int .i64 n0) ∧ W.cell? ⟨b, off + K * 4 + 2, none⟩ = some (Value.int .i64 n1) ∧ W.cell? ⟨b, off + K * 4 + 3, none⟩ = some u ∧ W.cell? ⟨b, off + J * 4, none⟩ = some (Value.string (str t)) ∧ Below w.heap.size w W)) G3.out
              have QG4 := wd_call (S := fun W => (W.cell? ⟨b, off + K * 4, none⟩ = some (Value.string (str s)) ∧ W.cell? ⟨b, off + K * 4 + 1, none⟩ = some (Value.int .i64 n0) ∧ W.cell? ⟨b, off + K * 4 + 2, none⟩ = some (Value.int .i64 n1) ∧ W.cell? ⟨b, off + K * 4 + 3, none⟩ = some u ∧ W.cell? ⟨b, off + J * 4, none⟩ = some (Value.string (str t)) ∧ Below w.heap.size w W)) G4.out
              have QG5 := wd_call (S := fun W => (W.cell? ⟨b, off + K * 4, none⟩ = some (Value.string (str s)) ∧ W.cell? ⟨b, off + K * 4 + 1, none⟩ = some (Value.int .i64 n0) ∧ W.cell? ⟨b, off + K * 4 + 2, none⟩ = some (Value.int .i64 n1) ∧ W.cell? ⟨b, off + K * 4 + 3, none⟩ = some u ∧ W.cell? ⟨b, off + J * 4, none⟩ = some (Value.string (str t)) ∧ Below w.heap.size w W)) G5.out
              go_upto_region 4 with fail
              refine wp_region_quiet_wd (S := fun W => (W.cell? ⟨b, off + K * 4, none⟩ = some (Value.string (str s)) ∧ W.cell? ⟨b, off + K * 4 + 1, none⟩ = some (Value.int .i64 n0) ∧ W.cell? ⟨b, off + K * 4 + 2, none⟩ = some (Value.int .i64 n1) ∧ W.cell? ⟨b, off + K * 4 + 3, none⟩ = some u ∧ W.cell? ⟨b, off + J * 4, none⟩ = some (Value.string (str t)) ∧ Below w.heap.size w W)) (by kernel_rfl) (by kernel_rfl) hS0 ?_
              repeat (go_big_quiet_step (first | (with_reducible exact QG3 _) | (with_reducible exact QG4 _) | (with_reducible exact QG5 _)))
              refine wpQuiet_nil ?_
              intro _ hw'
              obtain ⟨⟨wq, hSq⟩, rfl⟩ := hw'
              try dsimp only
              clear hne q0 q1 q2 q3 q4 hS0 QG3 QG4 QG5
              go_wp2_with fail
              go_ret
              exact ⟨by rw [HD.out]; rfl, hSq.2.2.2.2.2⟩
    · have hltI : ¬ (K : Int) < (N : Int) := by omega
      have hd := HJ.out
      rw [List.drop_of_length_le (i := K) (by rw [HN.out]; omega)] at hd
      have HD := Lib.hid (show r = decide ((N : Int) ≤ 64) by rw [hd, itemsGo, Bool.true_and]; exact decide_eq_decide.2 (by omega))
      clear hd
      go_wp2_with fail
      go_ret
      exact ⟨by rw [HD.out]; rfl, HB.out⟩
end Go.Proofs.YtebglkpejdoggaaGreat.C10
