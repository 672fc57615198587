/-
  Layer 13, the program: load.
-/
import Derived.Test.YtelcemfaijjcbaaGreatDoorHP13Lp
namespace Go.Proofs.YtelcemfaijjcbaaGreatDoor.C13
open Go Go.RowKit Go.Proofs Go.Proofs.YtelcemfaijjcbaaGreatDoor.B Go.Proofs.YtelcemfaijjcbaaGreatDoor.K Go.Proofs.YtelcemfaijjcbaaGreatDoor.P8 Go.Proofs.YtelcemfaijjcbaaGreatDoor.C12
set_option linter.unusedVariables false
set_option maxRecDepth 100000
theorem link_next : ∀ {l : List Seg}, Linked l → ∀ (K : Nat) (y : Seg), l[K + 1]? = some y → nextS (l.take (K + 1)) = y.n ∧ Linked (l.take (K + 1))
  | [], _, K, y, h => by simp at h
  | [a], _, K, y, h => by simp at h
  | a :: b :: l, hl, 0, y, h => by
    have hy : b = y := by simpa using h
    exact ⟨by rw [← hy]; exact hl.2.1.symm, trivial⟩
  | a :: b :: l, hl, K + 1, y, h => by
    obtain ⟨h1, h2⟩ := link_next (l := b :: l) hl.2.2 K y (by simpa using h)
    exact ⟨h1, hl.1, hl.2.1, h2⟩
theorem gs_snoc {l : List Seg} {K : Nat} {y : Seg} (h : l[K]? = some y) : gsOf (l.take (K + 1)) = gsOf (l.take K) ++ [(y.n, ((encL y.n y.rs).length : Int))] ∧ flatS (l.take (K + 1)) = flatS (l.take K) ++ y.rs := by
  rw [List.take_add_one, h]
  unfold gsOf flatS
  simp
theorem flat_take (l : List Seg) (K : Nat) : (flatS (l.take K)).length ≤ (flatS l).length := by
  have : flatS l = flatS (l.take K) ++ flatS (l.drop K) := by
    unfold flatS
    rw [← List.flatMap_append, List.take_append_drop]
  rw [this, List.length_append]; omega
/-- What lies on a disk for a log: its segments, the last one perhaps torn. -/
structure OnDisk (D : Dst) (ns : List Nat) (l : List Seg) (by_ : Int → List UInt8) (T : Bool) : Prop where
  names : namesOf D.files = ns.map fun n : Nat => nmW (n : Int)
  small : ∀ n ∈ ns, n < 100
  sort : sortI (ns.map fun n : Nat => (n : Int)) = l.map Seg.n
  link : Linked l
  num : ∀ a ∈ l, 0 ≤ a.n ∧ a.n < 100
  read : ∀ a ∈ l, readD D (nmW a.n) = (by_ a.n, 0)
  parse : ∀ a ∈ l, parseL (by_ a.n) a.n = (a.rs, (encL a.n a.rs).length)
  len : ∀ a ∈ l, (by_ a.n).length ≤ 65536
  torn : ∀ K y, l[K]? = some y → decide (((encL y.n y.rs).length : Int) < ((by_ y.n).length : Int)) = (if K + 1 = l.length then T else false)
  flat : (flatS l).length ≤ 1000
theorem OnDisk.count {D : Dst} {ns : List Nat} {l : List Seg} {by_ : Int → List UInt8} {T : Bool} (h : OnDisk D ns l by_ T) (hf : D.files.length ≤ 128) : l.length = ns.length ∧ l.length ≤ 128 := by
  have h1 := congrArg List.length h.sort
  have h2 := congrArg List.length h.names
  have h3 : (namesOf D.files).length = D.files.length := by unfold namesOf; rw [List.length_map]
  have h4 : (sortI (ns.map fun n : Nat => (n : Int))).length = ns.length := by unfold sortI; rw [List.length_mergeSort, List.length_map]
  rw [List.length_map] at h1 h2
  omega
section
variable {w : World} {F G : Nat → Prop} {lp d : Nat} {M : Int} {sg rv : Value} {D : Dst}
set_option maxHeartbeats 4000000 in
theorem load_any (h : PAt w F d D) (k : LIn w G lp d M sg rv [] [] 0) (hFG : ∀ i, G i → ¬ F i) {ns : List Nat} {l : List Seg} {by_ : Int → List UInt8} {T : Bool} (hO : OnDisk D ns l by_ T) {D' : Dst} {E : Int} (hE0 : l = [] → D' = D ∧ E = 0)
    (hset : l ≠ [] → ∀ w1 W, LDid F G lp d M D (gsOf l) (flatS l) 0 w1 W → Calls Tryz.prog 58 #[.pointer (some ⟨lp, 0, none⟩), .bool T] W fun e w' => e = .returned (.int .i64 E) ∧ LDid F G lp d M D' (gsOf l) (flatS l) 0 w1 w') :
    Calls Tryz.prog 36 #[.pointer (some ⟨lp, 0, none⟩)] w fun e w' => e = .returned (.int .i64 E) ∧ LDid F G lp d M D' (gsOf l) (flatS l) 0 w w' := by
  obtain ⟨i0, hi0, hz0, hz1, hz2⟩ := seg_info
  have hcnt := hO.count h.fine.ok.count
  obtain ⟨N, hN⟩ : ∃ N, l.length = N := ⟨_, rfl⟩
  rw [hN] at hcnt
  have c0 := (row_at k.cell 0 _ rfl).1
  have c1 := (row_at k.cell 1 _ rfl).1
  have HSG := Lib.hid (segsOn_any (h.below (w' := w.drew) (Below.refl _ _).drew) ns hO.names hO.small)
  rw [hO.sort, ← hcnt.1] at HSG
  -- behind the numbers
  have HB := Lib.hid (show ∀ (w1 : World) (v : Value), w1.ownsRow w.heap.size 3 1 v N ((l.map Seg.n).map (Value.int .i64)) → Below w.heap.size w w1 → LDid F G lp d M D [] [] 0 w1 w1 ∧ ∃ a c, v = .slice a N c ∧ (N ≤ c ∧ ((a = Option.none ∧ c = 0) ∨ ∃ b, a = some ⟨b, 0, none⟩)) ∧ ∀ W gs rs u D2, LDid F G lp d M D2 gs rs u w1 W → ∀ K y, l[K]? = some y → ∃ b, a = some ⟨b, 0, none⟩ ∧ W.cell? ⟨b, K, none⟩ = some (.int .i64 y.n) from fun w1 v hv hb => by
    refine ⟨LDid.mk0 (h.below hb) (k.below hb) hFG, ?_⟩
    obtain ⟨a, c, rfl⟩ := shape_own hv
    refine ⟨a, c, rfl, ?_, fun W gs rs u D2 hd K y hy => ?_⟩
    · rcases hv.2 with ⟨e, h0⟩ | ⟨g, cap, cur, e, _, _, h1, _⟩
      · cases e; exact ⟨Nat.le_of_eq h0, Or.inl ⟨rfl, rfl⟩⟩
      · cases e; exact ⟨h1, Or.inr ⟨_, rfl⟩⟩
    obtain ⟨a', c', e, hc⟩ := Sl.owns hv
    cases e
    obtain ⟨b, off, rfl, hk⟩ := hc K (.int .i64 y.n) (by rw [List.getElem?_map, List.getElem?_map, hy]; rfl)
    have hoff : off = 0 := by
      rcases hv.2 with ⟨e, _⟩ | ⟨g, cap, cur, e, _⟩
      · cases e
      · simp only [Value.slice.injEq, Option.some.injEq, Addr.mk.injEq] at e
        exact e.1.2.1
    subst hoff
    rw [Nat.zero_add] at hk
    obtain ⟨F', G', sg', rv', x1, x2, x3, x4⟩ := hd.open
    have hbl := hv.lt b rfl
    refine ⟨b, rfl, cell_same (x4.turn.block b hbl.2 ?_) hk⟩
    rintro (hf | hg)
    · have := h.lt b hf; omega
    · have := k.lt b hg; omega)
  have HO := Lib.hid hO
  have HN := Lib.hid hN
  have HSET := Lib.hid hset
  have HE0 := Lib.hid hE0
  have hN128 : N ≤ 128 := hcnt.2
  have HEND := Lib.hid (show ∀ w1 W (gs : List (Int × Int)) rs D2, Below w.heap.size w w1 → LDid F G lp d M D2 gs rs 0 w1 W → LDid F G lp d M D2 gs rs 0 w W from fun w1 W gs rs D2 hb hd => hd.ahead hb)
  clear h k hFG hO hcnt hN hset hE0
  go_enter Tryz.func36, Tryz.ntmps36
  go_wp2_with fail
  go_cut [3] from 11 to 19 (fun v wx => ∃ a c, v = .slice a N c ∧ Hid (N ≤ c ∧ ((a = Option.none ∧ c = 0) ∨ ∃ b, a = some ⟨b, 0, none⟩)) ∧ Hid (LDid F G lp d M D [] [] 0 wx wx) ∧ Hid (Below w.heap.size w wx) ∧ Hid (∀ W gs rs u D2, LDid F G lp d M D2 gs rs u wx W → ∀ K y, l[K]? = some y → ∃ b, a = some ⟨b, 0, none⟩ ∧ W.cell? ⟨b, K, none⟩ = some (.int .i64 y.n)))
  case first =>
    go_region_with (go_at_call 55; (refine HSG.out.mono ?_); rintro _ w1 ⟨v1, rfl, ho, hb⟩; obtain ⟨hd0, a1, q1, rfl, hsh, hnum⟩ := HB.out w1 v1 ho ((Below.refl _ w).drew.trans hb); have H0 := Lib.hid hd0; have HNUM := Lib.hid hnum; have HSH := Lib.hid hsh; have HB1 := Lib.hid (show Below w.heap.size w w1 from (Below.refl _ w).drew.trans hb); clear hb ho hd0 hnum hsh)
    all_goals go_wp2_with fail
    all_goals go_meet
    all_goals exact ⟨_, _, rfl, HSH, H0, HB1, HNUM⟩
  case rest =>
  obtain ⟨w1, rfl⟩ : ∃ W : World, W = wc := ⟨_, rfl⟩
  obtain ⟨a1, q1, rfl, HSH, H0, HB1, HNUM⟩ := hcut
  clear HSG HB c0 c1
  go_wp2_with fail
  go_loopw [4, 22] (fun t i wr => ∃ K : Nat, i = .int .i64 (K : Int) ∧ K ≤ N ∧ t = .bool (if K = N ∧ 0 < K then T else false) ∧ Hid (LDid F G lp d M D (gsOf (l.take K)) (flatS (l.take K)) 0 w1 wr)) (fun _ i _ => N - (intOf i).toNat)
  case atStart => exact ⟨0, rfl, Nat.zero_le _, by simp, H0⟩
  case round =>
    obtain ⟨K, rfl, hK, rfl, HD⟩ := hrel
    have HGL := Lib.hid (show (gsOf (l.take K)).length = K from by rw [gs_len, List.length_take, HN.out]; omega)
    obtain ⟨a3, q3, c3⟩ := HD.out.slice
    rw [HGL.out] at c3
    have hflat := flat_take l K
    have hfl := HO.out.flat
    by_cases hlt : K < N
    · have hltI : (K : Int) < (N : Int) := by omega
      have hK0 : (0 : Int) ≤ (K : Int) := by omega
      have hw1 : IntKind.i64.wrap ((K : Int) + 1) = (K : Int) + 1 := IntWalk.i64_in _ (by omega)
      rw [if_neg (by omega)]
      obtain ⟨y, hy⟩ : ∃ y, l[K]? = some y := ⟨_, List.getElem?_eq_getElem (by rw [HN.out]; exact hlt)⟩
      have hym : y ∈ l := List.mem_of_getElem? hy
      obtain ⟨hy0, hy1⟩ := HO.out.num y hym
      obtain ⟨Y, hY⟩ : ∃ Y : Nat, y.n = (Y : Int) := ⟨y.n.toNat, by omega⟩
      obtain ⟨b1, rfl, k1⟩ := HNUM.out _ _ _ _ _ HD.out K y hy
      have HFI := Lib.hid (fun W (h : LDid F G lp d M D (gsOf (l.take K)) (flatS (l.take K)) 0 w1 W) => do_file Y (by omega) h)
      have HRD := Lib.hid (fun W (h : LDid F G lp d M D (gsOf (l.take K)) (flatS (l.take K)) 0 w1 W) => do_read (nmW Y) (by have := nmW_len (n := (Y : Int)) (by omega); omega) h)
      have hrd := HO.out.read y hym
      have hps := HO.out.parse y hym
      have htn := HO.out.torn K y hy
      have hbl := HO.out.len y hym
      have HSN := Lib.hid (gs_snoc hy)
      rw [HN.out] at htn
      rw [hY] at hrd hps htn hbl HSN
      rw [hrd] at HRD
      dsimp only at HRD
      have HMK := Lib.hid (fun W (h : LDid F G lp d M D (gsOf (l.take K) ++ [((Y : Int), 0)]) (flatS (l.take K)) 0 w1 W) => do_mk (by_ Y) Y (by omega) (by omega) ⟨by omega, by omega⟩ h)
      rw [hps] at HMK
      dsimp only at HMK
      have HLT := Lib.hid (fun W (h : LDid F G lp d M D (gsOf (l.take K) ++ [((Y : Int), 0)]) (flatS (l.take K) ++ y.rs) 0 w1 W) => do_last (by rw [HGL.out]; omega) h)
      rw [HGL.out] at HLT
      obtain ⟨BL, hBL⟩ : ∃ BL, (encL (Y : Int) y.rs).length = BL := ⟨_, rfl⟩
      rw [hBL] at HMK htn HSN
      obtain ⟨SL, hSL⟩ : ∃ SL, (by_ Y).length = SL := ⟨_, rfl⟩
      have hsz : (str (by_ Y)).size = SL := by rw [str_size, hSL]
      rw [hSL] at htn hbl
      obtain ⟨BY, hBY⟩ : ∃ BY, str (by_ Y) = BY := ⟨_, rfl⟩
      rw [hBY] at HMK hsz HRD
      have HB63 := Lib.hid (show K + 1 ≤ maxLen by unfold maxLen; omega)
      have HB47 := Lib.hid (show (K + 1) * 16 ≤ 140737488355328 by omega)
      obtain ⟨TT, hTT⟩ : ∃ TT, (if K + 1 = N then T else false) = TT := ⟨_, rfl⟩
      rw [hTT] at htn
      have HTT := Lib.hid hTT
      have HTN := Lib.hid (show decide (BL < SL) = TT from by rw [← htn]; simp)
      have hl : LSm (gsOf (l.take K)) (flatS (l.take K)) := ⟨by rw [HGL.out]; omega, by omega, by
        rw [gs_first]
        cases e : l.take K with
        | nil => exact ⟨Int.le_refl _, by show (0 : Int) ≤ _; omega⟩
        | cons a t =>
          have ha : a ∈ l := List.mem_of_mem_take (i := K) (by rw [e]; exact List.mem_cons_self ..)
          have := HO.out.num a ha
          show 0 ≤ a.n ∧ a.n ≤ _
          omega⟩
      rw [hY] at k1
      clear hrd hps hBL hSL hBY hTT hflat hfl hbl hK
      by_cases hKz : K = 0
      · have H2 := Lib.hid HD.out
        have c02 := HD.out.disk
        have hpI : ¬ (0 : Int) < (K : Int) := by omega
        clear hl hy hym hy0 hy1 hKz
        go_wp2_with fail
        go_cut [7, 8] from 23 to 83 (fun s7 s8 wx => s7 = .string BY ∧ s8 = .int .i64 0 ∧ Hid (LDid F G lp d M D (gsOf (l.take K)) (flatS (l.take K)) 0 w1 wx))
        case first =>
          go_region_with (first
            | (go_at_call 38; (with_reducible refine (HFI.out _ H2.out.drew).mono ?_); rintro _ w3 ⟨rfl, hd⟩; have H3 := Lib.hid hd; have c03 := hd.disk; clear hd)
            | (go_at_call 56; (with_reducible refine (HRD.out _ H3.out).mono ?_); rintro _ w4 ⟨rfl, hd⟩; have H4 := Lib.hid hd; clear hd))
          all_goals go_wp2_with fail
          all_goals go_meet
          all_goals exact ⟨rfl, rfl, H4⟩
        case rest =>
          obtain ⟨w4, rfl⟩ : ∃ W : World, W = wc := ⟨_, rfl⟩
          obtain ⟨rfl, rfl, H4⟩ := hcut
          obtain ⟨a4, q4, c4⟩ := H4.out.slice
          rw [HGL.out] at c4
          clear HFI HRD H2 c02 c3 k1
          go_wp2_with (at_builtin; obtain ⟨hrow, hpush⟩ := H4.out.push c4; rw [HGL.out] at hrow hpush; have HR6 := Lib.hid (hrow.alloc (.cells #[.int .i64 (Y : Int), .int .i64 0] 76)); have HP6 := Lib.hid hpush; clear hrow hpush; refine wpList_append_own_at _ rfl _ _ 72 rfl 0 76 i0 (.agg #[.int .i64 0, .int .i64 0]) 2 16 Tryz.underlying72 hi0 hz0 hz1 hz2 rfl (by decide) _ _ _ rfl HR6.out ⟨w4.heap.size, 0, none⟩ 1 1 [.int .i64 (Y : Int), .int .i64 0] rfl rfl (new_two _ _ _ _) (by intro u hu; simp at hu; rcases hu with rfl | rfl <;> rfl) HB63.out HB47.out (Nat.zero_le _) ?_; intro v7 w7 hown7 hgrow7 hnn7 hat7; obtain ⟨av7, cv7, rfl⟩ := shape_own hown7; obtain ⟨p1, p2, p3⟩ := HP6.out _ _ _ _ _ (below_alloc _ _) hown7 hgrow7 hat7; have HX7 := Lib.hid p3; clear hnn7 hown7 hgrow7 hat7 p3)
          go_cut [9] from 23 to 83 (fun s9 wx => s9 = .int .i64 (BL : Int) ∧ Hid (LDid F G lp d M D (gsOf (l.take K) ++ [((Y : Int), 0)]) (flatS (l.take K) ++ y.rs) 0 w1 wx))
          case first =>
            go_region_with (first
              | (go_at_call 26; (with_reducible refine (HMK.out _ HX7.out.drew).mono ?_); rintro _ w8 ⟨bs8, bf8, rfl, hd, hcl⟩; have H8 := Lib.hid hd; have HCL := Lib.hid hcl; clear hd hcl)
              | (go_at_call 46; (refine (HCL.out _ (by first | exact Below.refl _ _ | exact (Below.refl _ _).drew)).mono ?_); rintro _ w9 ⟨rfl, hd⟩; have H9 := Lib.hid hd; clear hd))
            all_goals go_wp2_with fail
            all_goals go_meet
            all_goals exact ⟨rfl, H9⟩
          case rest =>
            obtain ⟨w9, rfl⟩ : ∃ W : World, W = wc := ⟨_, rfl⟩
            obtain ⟨rfl, H9⟩ := hcut
            clear HMK HX7 H4 c4 p1 p2
            go_wp2_with (go_at_call 44; (with_reducible refine (HLT.out _ H9.out).mono ?_); rintro _ w10 ⟨b10, rfl, ⟨k10, k10b, k10c⟩, hd, hz⟩; have H10 := Lib.hid hd; have HZ := Lib.hid (hz (BL : Int)); clear hd hz)
            go_roundw
            case rel => exact ⟨K + 1, by go_num, by omega, by rw [HTN.out, ← HTT.out]; simp, Lib.hid (by rw [HSN.out.1, HSN.out.2]; exact HZ.out)⟩
            case measure => simp [intOf]; omega
      · have hpI : (0 : Int) < (K : Int) := by omega
        have hnx : nextG (gsOf (l.take K)) (flatS (l.take K)) = (Y : Int) := by
          obtain ⟨K', hK'⟩ : ∃ K', K = K' + 1 := ⟨K - 1, by omega⟩
          rw [hK'] at hy ⊢
          obtain ⟨x1, x2⟩ := link_next HO.out.link K' y hy
          rw [gs_next x2, x1, hY]
        have HNX := Lib.hid (fun W (h : LDid F G lp d M D (gsOf (l.take K)) (flatS (l.take K)) 0 w1 W) => do_next hl h)
        rw [hnx] at HNX
        clear hl hy hym hy0 hy1 hnx hKz
        go_wp2_with (go_at_call 19; (with_reducible refine (HNX.out _ HD.out).mono ?_); rintro _ w2 ⟨rfl, hd⟩; have H2 := Lib.hid hd; have c02 := hd.disk; clear hd)
        go_cut [7, 8] from 23 to 83 (fun s7 s8 wx => s7 = .string BY ∧ s8 = .int .i64 0 ∧ Hid (LDid F G lp d M D (gsOf (l.take K)) (flatS (l.take K)) 0 w1 wx))
        case first =>
          go_region_with (first
            | (go_at_call 38; (with_reducible refine (HFI.out _ H2.out.drew).mono ?_); rintro _ w3 ⟨rfl, hd⟩; have H3 := Lib.hid hd; have c03 := hd.disk; clear hd)
            | (go_at_call 56; (with_reducible refine (HRD.out _ H3.out).mono ?_); rintro _ w4 ⟨rfl, hd⟩; have H4 := Lib.hid hd; clear hd))
          all_goals go_wp2_with fail
          all_goals go_meet
          all_goals exact ⟨rfl, rfl, H4⟩
        case rest =>
          obtain ⟨w4, rfl⟩ : ∃ W : World, W = wc := ⟨_, rfl⟩
          obtain ⟨rfl, rfl, H4⟩ := hcut
          obtain ⟨a4, q4, c4⟩ := H4.out.slice
          rw [HGL.out] at c4
          clear HFI HRD H2 c02 c3 k1
          go_wp2_with (at_builtin; obtain ⟨hrow, hpush⟩ := H4.out.push c4; rw [HGL.out] at hrow hpush; have HR6 := Lib.hid (hrow.alloc (.cells #[.int .i64 (Y : Int), .int .i64 0] 76)); have HP6 := Lib.hid hpush; clear hrow hpush; refine wpList_append_own_at _ rfl _ _ 72 rfl 0 76 i0 (.agg #[.int .i64 0, .int .i64 0]) 2 16 Tryz.underlying72 hi0 hz0 hz1 hz2 rfl (by decide) _ _ _ rfl HR6.out ⟨w4.heap.size, 0, none⟩ 1 1 [.int .i64 (Y : Int), .int .i64 0] rfl rfl (new_two _ _ _ _) (by intro u hu; simp at hu; rcases hu with rfl | rfl <;> rfl) HB63.out HB47.out (Nat.zero_le _) ?_; intro v7 w7 hown7 hgrow7 hnn7 hat7; obtain ⟨av7, cv7, rfl⟩ := shape_own hown7; obtain ⟨p1, p2, p3⟩ := HP6.out _ _ _ _ _ (below_alloc _ _) hown7 hgrow7 hat7; have HX7 := Lib.hid p3; clear hnn7 hown7 hgrow7 hat7 p3)
          go_cut [9] from 23 to 83 (fun s9 wx => s9 = .int .i64 (BL : Int) ∧ Hid (LDid F G lp d M D (gsOf (l.take K) ++ [((Y : Int), 0)]) (flatS (l.take K) ++ y.rs) 0 w1 wx))
          case first =>
            go_region_with (first
              | (go_at_call 26; (with_reducible refine (HMK.out _ HX7.out.drew).mono ?_); rintro _ w8 ⟨bs8, bf8, rfl, hd, hcl⟩; have H8 := Lib.hid hd; have HCL := Lib.hid hcl; clear hd hcl)
              | (go_at_call 46; (refine (HCL.out _ (by first | exact Below.refl _ _ | exact (Below.refl _ _).drew)).mono ?_); rintro _ w9 ⟨rfl, hd⟩; have H9 := Lib.hid hd; clear hd))
            all_goals go_wp2_with fail
            all_goals go_meet
            all_goals exact ⟨rfl, H9⟩
          case rest =>
            obtain ⟨w9, rfl⟩ : ∃ W : World, W = wc := ⟨_, rfl⟩
            obtain ⟨rfl, H9⟩ := hcut
            clear HMK HX7 H4 c4 p1 p2
            go_wp2_with (go_at_call 44; (with_reducible refine (HLT.out _ H9.out).mono ?_); rintro _ w10 ⟨b10, rfl, ⟨k10, k10b, k10c⟩, hd, hz⟩; have H10 := Lib.hid hd; have HZ := Lib.hid (hz (BL : Int)); clear hd hz)
            go_roundw
            case rel => exact ⟨K + 1, by go_num, by omega, by rw [HTN.out, ← HTT.out]; simp, Lib.hid (by rw [HSN.out.1, HSN.out.2]; exact HZ.out)⟩
            case measure => simp [intOf]; omega
    · have hltI : ¬ (K : Int) < (N : Int) := by omega
      obtain rfl : K = N := by omega
      have htake : l.take K = l := List.take_of_length_le (by rw [HN.out]; exact Nat.le_refl _)
      rw [htake] at HD
      have HRB := Lib.hid (fun W a c (h : LDid F G lp d M D (gsOf l) (flatS l) 0 w1 W) => do_behind a c h)
      have hKc : K ≤ q1 := HSH.out.1
      have hKcI : (K : Int) ≤ (q1 : Int) := by omega
      by_cases hK0 : K = 0
      · subst hK0
        have hle : l = [] := List.length_eq_zero_iff.1 HN.out
        obtain ⟨e1, e2⟩ := HE0.out hle
        subst e1
        subst e2
        have hq : a1 = Option.none ∧ q1 = 0 ∨ ∃ b, a1 = some ⟨b, 0, none⟩ := HSH.out.2
        clear hflat hfl htake hle hlt hK HSET HE0 HNUM HO
        rcases hq with ⟨rfl, rfl⟩ | ⟨b, rfl⟩
        · go_wp2_with (go_at_call 57; (with_reducible refine (HRB.out _ _ _ HD.out).mono ?_); rintro _ w5 ⟨rfl, hd⟩; have H5 := Lib.hid hd; obtain ⟨a5, q5, c5⟩ := hd.slice; rw [gs_len, HN.out] at c5; clear hd)
          go_ret
          exact ⟨rfl, H5.out.ahead HB1.out⟩
        · go_wp2_with (go_at_call 57; (with_reducible refine (HRB.out _ _ _ HD.out).mono ?_); rintro _ w5 ⟨rfl, hd⟩; have H5 := Lib.hid hd; obtain ⟨a5, q5, c5⟩ := hd.slice; rw [gs_len, HN.out] at c5; clear hd)
          all_goals (go_ret; exact ⟨rfl, H5.out.ahead HB1.out⟩)
      · have hne : l ≠ [] := fun e => hK0 (by rw [← HN.out, e]; rfl)
        obtain ⟨y, hy⟩ : ∃ y, l[0]? = some y := ⟨_, List.getElem?_eq_getElem (by rw [HN.out]; omega)⟩
        obtain ⟨b1, rfl, -⟩ := HNUM.out _ _ _ _ _ HD.out 0 y hy
        rw [if_pos ⟨rfl, by omega⟩]
        have HS := Lib.hid (HSET.out hne)
        have hz : ((K : Int) == 0) = false := by
          have : (K : Int) ≠ 0 := by omega
          simpa using this
        clear hflat hfl htake hlt hK HSET HE0 HNUM HO hy hne hK0
        go_wp2_with (first
          | (go_at_call 57; (with_reducible refine (HRB.out _ _ _ HD.out).mono ?_); rintro _ w5 ⟨rfl, hd⟩; have H5 := Lib.hid hd; obtain ⟨a5, q5, c5⟩ := hd.slice; rw [gs_len, HN.out] at c5; clear hd)
          | (go_at_call 58; (with_reducible refine (HS.out _ _ H5.out).mono ?_); rintro _ w6 ⟨rfl, hd⟩; have H6 := Lib.hid hd; clear hd))
        all_goals (go_ret; exact ⟨rfl, H6.out.ahead HB1.out⟩)
end
end Go.Proofs.YtelcemfaijjcbaaGreatDoor.C13
