/-
  Layer 9, the program: slices.Grow of none, slices.Concat.
-/
import Derived.Test.YtbpphghphfbogaaP9Pa
namespace Go.Proofs.Ytbpphghphfbogaa.P8
open Go Go.RowKit Go.Shelf Go.Proofs Go.Proofs.Ytbpphghphfbogaa.B Go.Proofs.Ytbpphghphfbogaa.K
set_option linter.unusedVariables false
set_option maxRecDepth 100000

theorem run_append_zeros (P : Program) (w : World) (t u ty e : TypeId) (i : TypeInfo) (z : Value) (ht : P.underlying t = some (.slice e)) (hu : P.underlying u = some (.int .i64)) (hi : P.info? e = some i) (hz : i.zero = some z)
    (hsize : i.size = 1) (hby : i.bytes = 16) (n : Nat) (h0 : 0 < n) (hn : n ≤ 1000000) :
    (Builtin.append_ #[t, u] ty #[.slice none 0 0, .int .i64 (n : Int)]).run P w =
      .ok (.slice (some ⟨w.heap.size, 0, none⟩) n (grownCap w n 0 e)) (w.drew.alloc (.cells (Builtin.zeroCells z.cells n ++ Builtin.zeroCells z.cells (grownCap w n 0 e - n)) e)) := by
  have hne : n ≠ 0 := by omega
  have hw : IntKind.i64.wrap (n : Int) = (n : Int) := IntWalk.i64_in _ (by omega)
  have h63' : ¬ (9223372036854775807 < (n : Int)) := by omega
  have h48' : ¬ (281474976710656 < Builtin.nextslicecap n 0 * 16) := by rw [nextslicecap_zero h0]; omega
  have h48'' : ¬ (281474976710656 < (n : Int) * 16) := by omega
  have hneg : ¬ ((n : Int) < 0) := by omega
  have hmax : max (n : Int) 0 = (n : Int) := by omega
  simp [asIntOf, hmax, Builtin.append_, run_underlying ht, run_underlying hu, sizeOf, typeInfo, zeroValue, hi, hz, hsize, hby, hne, hw, h63', h48', h48'', hneg, Question.forced, run_firstCells_none, newRow, grownCap, asInt]

theorem run_append_none_c {P : Program} {w : World} (base : Nat) (t ty e : TypeId) (i : TypeInfo) (ht : P.underlying t = some (.slice e)) (hi : P.info? e = some i)
    (v : Value) (n : Nat) (xs : List Value) (hown : w.ownsRow base e 1 v n xs) (c : Nat) : (Builtin.append_ #[t, t] ty #[v, .slice none 0 c]).run P w = .ok v w := by
  rcases hown.2 with ⟨rfl, rfl⟩ | ⟨g, cap, cur, rfl, hbg, hg, hnc, hcm, hcs, htake⟩
  · simp [Builtin.append_, run_underlying ht, sizeOf, typeInfo, hi, Builtin.lenOf, Builtin.firstCells]
  · simp [Builtin.append_, run_underlying ht, sizeOf, typeInfo, hi, Builtin.lenOf, Builtin.firstCells, hnc, storeCells]

/-- append(s, x...), x a list of texts that may be none. -/
theorem wpList_append_tn {P : Program} (w : World) {ops : Array Oper} {rest : List Oper} {o : Oper} {a : Act} {Q : Exit → Act → World → Prop} (hgd : o.guard = none) (s x : Operand) (t e : TypeId)
    (ho : o.op = .call { callee := .builtin .append, args := #[s, x], argTypes := #[t, t] }) (base : Nat) (i : TypeInfo) (ht : P.underlying t = some (.slice e)) (hi : P.info? e = some i) (hz : i.zero = some (.string ⟨#[]⟩)) (hsize : i.size = 1) (hby : i.bytes = 16)
    (v : Value) (n : Nat) (xs : List Value) (hs : a.eval s = v) (hown : w.ownsRow base e 1 v n xs) (l : List (List UInt8)) (u : Value) (hx : a.eval x = u) (hT : Ts w u l)
    (hl : n + l.length ≤ 1000000) (hbase : base ≤ w.heap.size)
    (h : ∀ v' w', w'.ownsRow base e 1 v' (n + l.length) (xs ++ l.map sv) → Below base w w' → wpList P ops Q rest (a.put o.dst v') w') : wpList P ops Q (o :: rest) a w := by
  obtain ⟨ax, c, rfl, hc⟩ := id hT.open
  cases ax with
  | none =>
    obtain rfl : l = [] := by
      cases l with
      | nil => rfl
      | cons y l =>
        obtain ⟨b, off, hb, _⟩ := hc 0 y rfl
        cases hb
    refine wpList_plain hgd fun K hK => ?_
    have hrun := run_append_none_c (P := P) (w := w) base t o.type e i ht hi v n xs hown c
    unfold Oper.wp
    simp only [List.length_nil] at hx
    simp [execOp, ho, resolve, invoke, builtin, hs, hx, hrun, Result.andThen]
    exact hK _ _ (h v w (by simpa using hown) (Below.refl _ _))
  | some ad => exact wpList_append_ts w hgd s x t e ho base i ht hi hz hsize hby v n xs hs hown l (some ad) l.length c hx hT (fun e => by cases e) hl hbase h

theorem wpList_append_zeros {P : Program} (w : World) {ops : Array Oper} {rest : List Oper} {o : Oper} {a : Act} {Q : Exit → Act → World → Prop} (hgd : o.guard = none) (s x : Operand) (t u e : TypeId)
    (ho : o.op = .call { callee := .builtin .append, args := #[s, x], argTypes := #[t, u] }) (i : TypeInfo) (ht : P.underlying t = some (.slice e)) (hu : P.underlying u = some (.int .i64)) (hi : P.info? e = some i) (hz : i.zero = some (.string ⟨#[]⟩)) (hsize : i.size = 1) (hby : i.bytes = 16)
    (hs : a.eval s = .slice none 0 0) (n : Nat) (hx : a.eval x = .int .i64 (n : Int)) (h0 : 0 < n) (hn : n ≤ 1000000)
    (h : ∀ cap w', n ≤ cap → w'.ownsRow w.heap.size e 1 (.slice (some ⟨w.heap.size, 0, none⟩) 0 cap) 0 [] → Below w.heap.size w w' → wpList P ops Q rest (a.put o.dst (.slice (some ⟨w.heap.size, 0, none⟩) n cap)) w') : wpList P ops Q (o :: rest) a w := by
  refine wpList_plain hgd fun K hK => ?_
  have hrun := run_append_zeros P w t u o.type e i _ ht hu hi hz hsize hby n h0 hn
  unfold Oper.wp
  simp [execOp, ho, resolve, invoke, builtin, hs, hx, hrun, Result.andThen]
  have hge := grownCap_ge w n 0 e
  have hcm : grownCap w n 0 e ≤ maxLen := grownCap_le_maxLen w n 0 e (by unfold maxLen; omega)
  refine hK _ _ (h _ _ hge ⟨rfl, .inr ⟨w.heap.size, _, _, rfl, Nat.le_refl _, heap_alloc_new w.drew _, Nat.zero_le _, hcm, ?_, ?_⟩⟩ ?_)
  · simp only [Array.size_append, size_zeroCells]
    rw [show (Value.cells (.string ⟨#[]⟩)).size = 1 from rfl]
    omega
  · simp
  · exact (Below.refl _ w).drew.alloc (Nat.le_refl _) _

set_option maxHeartbeats 1000000 in
theorem grow_any (n : Nat) (w : World) (hn : n ≤ 1000000) :
    Calls Try.prog 69 #[.slice none 0 0, .int .i64 (n : Int)] w fun e w' => ∃ v, e = .returned v ∧ w'.ownsRow w.heap.size 9 1 v 0 [] ∧ Below w.heap.size w w' := by
  obtain ⟨i0, hi, hz0, hz1, hz2⟩ := info_parts Try.info9
  have hw : IntKind.i64.wrap ((n : Int) - 0) = (n : Int) := by rw [Int.sub_zero]; exact IntWalk.i64_in _ (by omega)
  have hw2 : IntKind.i64.wrap ((0 : Int) - 0) = 0 := rfl
  have hw3 : IntKind.i64.wrap (n : Int) = (n : Int) := IntWalk.i64_in _ (by omega)
  have h1 : ¬ ((n : Int) < 0) := by omega
  by_cases h0 : 0 < n
  · have h0I : 0 < (n : Int) := by omega
    go_enter Try.func69, Try.ntmps69
    go_wp2_with (at_builtin; refine wpList_append_zeros _ rfl _ _ 22 3 9 rfl i0 Try.underlying22 Try.underlying3 hi hz0 hz1 hz2 rfl n rfl h0 hn ?_; intro cap w1 hcap hO hb; have HO := Lib.hid hO; have HB := Lib.hid hb; have hc0 : 0 ≤ cap := Nat.zero_le _; have hne : ¬ cap = 0 := (by omega); clear hO hb)
    go_ret
    exact ⟨_, rfl, HO.out, HB.out⟩
  · obtain rfl : n = 0 := by omega
    go_enter Try.func69, Try.ntmps69
    go_wp2_with fail
    go_ret
    exact ⟨_, rfl, World.ownsRow_nil _ _ _ _, Below.refl _ _⟩

/-- All of them, one behind the other. -/
def catL (ls : List (List (List UInt8))) : List (List UInt8) := ls.flatten
theorem sumLen_take {ls : List (List (List UInt8))} {K : Nat} {l : List (List UInt8)} (h : ls[K]? = some l) : catL (ls.take (K + 1)) = catL (ls.take K) ++ l := by
  unfold catL
  rw [List.take_add_one, h]; simp
theorem sumLen_le {ls : List (List (List UInt8))} (h : ∀ l ∈ ls, l.length ≤ 8) : (catL ls).length ≤ 8 * ls.length := by
  unfold catL
  induction ls with
  | nil => simp
  | cons l ls ih =>
    rw [List.flatten_cons, List.length_append, List.length_cons]
    have := h l List.mem_cons_self
    have := ih fun l hl => h l (List.mem_cons_of_mem _ hl)
    omega

set_option maxHeartbeats 1000000 in
theorem concat_any (ls : List (List (List UInt8))) (v : Value) (w : World) (h : Tss w v ls) (hn : ls.length ≤ 1000) (hl : ∀ l ∈ ls, l.length ≤ 8) :
    Calls Try.prog 58 #[v] w fun e w' => ∃ u, e = .returned u ∧ w'.ownsRow w.heap.size 9 1 u (catL ls).length ((catL ls).map sv) ∧ Below w.heap.size w w' := by
  obtain ⟨i0, hi, hz0, hz1, hz2⟩ := info_parts Try.info9
  obtain ⟨a, cap, rfl, hc⟩ := h.open
  obtain ⟨N, hN⟩ : ∃ N, ls.length = N := ⟨_, rfl⟩
  have HS := Lib.hid (fun K => show (catL (ls.take K)).length ≤ 8000 from Nat.le_trans (sumLen_le fun l hl' => hl l (List.mem_of_mem_take hl')) (by rw [List.length_take]; omega))
  have HC := Lib.hid hc
  have HN := Lib.hid hN
  have HL := Lib.hid hl
  rw [hN] at hn ⊢
  clear hc hl h hN
  go_enter Try.func58, Try.ntmps58
  go_wp2_with fail
  go_loopw [3, 11] (fun s i wr => ∃ (K S : Nat), s = .int .i64 (S : Int) ∧ i = .int .i64 (K : Int) ∧ K ≤ N ∧ S ≤ 8000 ∧ Hid ((catL (ls.take K)).length = S) ∧ w = wr) (fun _ i _ => N - (intOf i).toNat)
  case atStart => exact ⟨0, 0, rfl, rfl, Nat.zero_le _, Nat.zero_le _, Lib.hid rfl, rfl⟩
  case round =>
    obtain ⟨K, S, rfl, rfl, hK, hS, HJ, rfl⟩ := hrel
    by_cases hlt : K < N
    · have hltI : (K : Int) < (N : Int) := by omega
      have hk0 : 0 ≤ (K : Int) := by omega
      have hw1 : IntKind.i64.wrap ((K : Int) + 1) = (K : Int) + 1 := IntWalk.i64_in _ (by omega)
      obtain ⟨l, hx⟩ : ∃ x, ls[K]? = some x := ⟨_, List.getElem?_eq_getElem (by rw [HN.out]; exact hlt)⟩
      obtain ⟨b, off, u, rfl, hcell, hu⟩ := HC.out K l hx
      obtain ⟨au, cu, rfl, -⟩ := hu.open
      have hd := sumLen_take hx
      obtain ⟨M, hM⟩ : ∃ M, l.length = M := ⟨_, rfl⟩
      rw [hM] at hcell
      have hM8 : M ≤ 8 := by rw [← hM]; exact HL.out l (List.mem_of_getElem? hx)
      have hsum : (catL (ls.take (K + 1))).length = S + M := by rw [hd, List.length_append, HJ.out, hM]
      have hS2 : S + M ≤ 8000 := by rw [← hsum]; exact HS.out _
      have HD := Lib.hid hsum
      have hw2 : IntKind.i64.wrap ((S : Int) + (M : Int)) = (S : Int) + (M : Int) := IntWalk.i64_in _ (by omega)
      have hneg : ¬ ((S : Int) + (M : Int) < 0) := by omega
      have hneg2 : ¬ (((S + M : Nat) : Int) < 0) := by omega
      clear hd hx hM hsum hu
      go_wp2_with fail
      go_roundw
      case rel => exact ⟨K + 1, S + M, by go_num, by go_num, by omega, hS2, HD, by first | rfl | trivial⟩
      case measure => simp [intOf]; omega
    · have hltI : ¬ (K : Int) < (N : Int) := by omega
      have hd := HJ.out
      have HG := Lib.hid (grow_any S w (by omega))
      have HW := Lib.hid (show K = N by omega)
      go_wp2_with (go_at_call 69; refine HG.out.mono ?_; rintro _ w1 ⟨v1, rfl, hO, hb⟩; have HO := Lib.hid hO; have HB := Lib.hid hb; clear hO hb)
      go_loopw [6, 27] (fun s i wq => ∃ (J : Nat), i = .int .i64 (J : Int) ∧ J ≤ N ∧ Hid (wq.ownsRow w.heap.size 9 1 s (catL (ls.take J)).length ((catL (ls.take J)).map sv) ∧ Below w.heap.size w wq)) (fun _ i _ => N - (intOf i).toNat)
      case atStart => exact ⟨0, rfl, Nat.zero_le _, Lib.hid ⟨HO.out, HB.out⟩⟩
      case round =>
        obtain ⟨J, rfl, hJ, HI⟩ := hrel
        by_cases hlt : J < N
        · have hltI : (J : Int) < (N : Int) := by omega
          have hk0 : 0 ≤ (J : Int) := by omega
          have hw1 : IntKind.i64.wrap ((J : Int) + 1) = (J : Int) + 1 := IntWalk.i64_in _ (by omega)
          obtain ⟨l, hx⟩ : ∃ x, ls[J]? = some x := ⟨_, List.getElem?_eq_getElem (by rw [HN.out]; exact hlt)⟩
          obtain ⟨b, off, u, rfl, hcell, hu⟩ := HC.out J l hx
          have hc1 := cell_b HI.out.2 hcell
          have HU := Lib.hid (hu.below HI.out.2)
          have HD := Lib.hid (sumLen_take hx)
          have HQ := Lib.hid HI.out.1
          have HQB := Lib.hid HI.out.2
          have hle : (catL (ls.take J)).length + l.length ≤ 1000000 := by
            have h1 := HS.out (J + 1)
            rw [HD.out, List.length_append] at h1
            omega
          have HLE := Lib.hid hle
          clear hx hu hle hcell
          go_wp2_with (at_builtin; refine wpList_append_tn _ rfl _ _ 22 9 rfl w.heap.size i0 Try.underlying22 hi hz0 hz1 hz2 _ _ _ rfl HQ.out l _ rfl HU.out HLE.out HQB.out.size ?_; intro v3 w3 hO3 hb3; have HO3 := Lib.hid hO3; have HB3 := Lib.hid (HQB.out.trans hb3); clear hO3 hb3)
          go_roundw
          case rel => exact ⟨J + 1, by go_num, by omega, Lib.hid ⟨by rw [HD.out, List.length_append, List.map_append]; exact HO3.out, HB3.out⟩⟩
          case measure => simp [intOf]; omega
        · have hltI : ¬ (J : Int) < (N : Int) := by omega
          have hd := HI.out.1
          rw [show J = N by omega, ← HN.out, List.take_length] at hd
          have HD := Lib.hid hd
          clear hd
          go_wp2_with fail
          go_ret
          exact ⟨_, rfl, HD.out, HI.out.2⟩
end Go.Proofs.Ytbpphghphfbogaa.P8
