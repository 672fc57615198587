/-
  Layer 13, the program: Append.
-/
import Derived.Test.YtelcemfaijjcbaaGreatDoorHP13Li
namespace Go.Proofs.YtelcemfaijjcbaaGreatDoor.C13
open Go Go.RowKit Go.Proofs Go.Proofs.YtelcemfaijjcbaaGreatDoor.B Go.Proofs.YtelcemfaijjcbaaGreatDoor.K Go.Proofs.YtelcemfaijjcbaaGreatDoor.P8 Go.Proofs.YtelcemfaijjcbaaGreatDoor.C12
set_option linter.unusedVariables false
set_option maxRecDepth 100000
theorem seg_info : ∃ i, Tryz.prog.info? 76 = some i ∧ i.zero = some (.agg #[.int .i64 0, .int .i64 0]) ∧ i.size = 2 ∧ i.bytes = 16 := by
  have h : (Tryz.prog.info? 76).map (fun i => (i.zero, i.size, i.bytes)) = some (some (.agg #[.int .i64 0, .int .i64 0]), 2, 16) := by kernel_rfl
  obtain ⟨i, hi, e⟩ := Option.map_eq_some_iff.1 h
  simp only [Prod.mk.injEq] at e
  exact ⟨i, hi, e.1, e.2.1, e.2.2⟩
theorem new_two (w : World) (a b : Value) (e : TypeId) : ∀ (j : Nat) (u : Value), [a, b][j]? = some u → (w.alloc (.cells #[a, b] e)).cell? ((⟨w.heap.size, 0, none⟩ : Addr).add j) = some u := by
  intro j u hj
  rw [show (⟨w.heap.size, 0, none⟩ : Addr).add j = ⟨w.heap.size, j, none⟩ by unfold Addr.add; split <;> simp_all]
  exact alloc_cell w [a, b] e j u hj
section
variable {w : World} {F G : Nat → Prop} {lp d : Nat} {M u u1 : Int} {gs : List (Int × Int)} {rs : List (List UInt8)} {D D1 : Dst}
/-- Where no segment takes it. -/
theorem app_bad (hl : LSm gs rs) {q into E1 : Int} (hq : nextG gs rs = q) (r : List UInt8) (hr : r.length ≤ 1024) (h0 : LDid F G lp d M D gs rs u w w)
    (hs : ∀ W, LDid F G lp d M D gs rs u w W → Calls Tryz.prog 41 #[.pointer (some ⟨lp, 0, none⟩), .int .i64 q] W fun e w' => e = .returned (.tuple #[.int .i64 into, .int .i64 E1]) ∧ LDid F G lp d M D1 gs rs u1 w w') (hE : E1 ≠ 0) :
    Calls Tryz.prog 24 #[.pointer (some ⟨lp, 0, none⟩), .string (str r)] w fun e w' => e = .returned (.tuple #[.int .i64 0, .int .i64 E1]) ∧ LDid F G lp d M D1 gs rs u1 w w' := by
  have HN := Lib.hid (fun W (h : LDid F G lp d M D gs rs u w W) => do_next hl h)
  rw [hq] at HN
  have HS := Lib.hid hs
  have H0 := Lib.hid h0
  have hsz : (str r).size = r.length := str_size r
  obtain ⟨N, hN⟩ : ∃ N, r.length = N := ⟨_, rfl⟩
  rw [hN] at hsz hr
  have hrI : ¬ (1024 : Int) < (N : Int) := by omega
  have hb : (E1 != 0) = true := bne_iff_ne.2 hE
  clear hl hq hN hs h0 hE
  go_enter Tryz.func24, Tryz.ntmps24
  go_wp2_with (first
    | (go_at_call 19; (with_reducible refine (HN.out _ H0.out).mono ?_); rintro _ w1 ⟨rfl, hd⟩; have H1 := Lib.hid hd; clear hd)
    | (go_at_call 41; (with_reducible refine (HS.out _ H1.out).mono ?_); rintro _ w2 ⟨rfl, hd⟩; have H2 := Lib.hid hd; clear hd))
  go_ret2
  exact ⟨rfl, H2.out⟩
set_option maxHeartbeats 4000000 in
/-- Where the disk refuses. -/
theorem app_ref {q : Int} {into : Nat} (hl : LSm gs rs) (hi : into < 100) (hq : nextG gs rs = q) (hq1 : 0 ≤ q ∧ q ≤ 4611686018427387904) (r : List UInt8) (hr : r.length ≤ 1024) (h0 : LDid F G lp d M D gs rs u w w)
    (hs : ∀ W, LDid F G lp d M D gs rs u w W → Calls Tryz.prog 41 #[.pointer (some ⟨lp, 0, none⟩), .int .i64 q] W fun e w' => e = .returned (.tuple #[.int .i64 (into : Int), .int .i64 0]) ∧ LDid F G lp d M D1 gs rs u1 w w') (hE : (appendD D1 (nmW into) (recB q r)).2 ≠ 0) :
    Calls Tryz.prog 24 #[.pointer (some ⟨lp, 0, none⟩), .string (str r)] w fun e w' => e = .returned (.tuple #[.int .i64 0, .int .i64 (appendD D1 (nmW into) (recB q r)).2]) ∧ LDid F G lp d M (appendD D1 (nmW into) (recB q r)).1 gs rs u1 w w' := by
  have HN := Lib.hid (fun W (h : LDid F G lp d M D gs rs u w W) => do_next hl h)
  rw [hq] at HN
  have HS := Lib.hid hs
  have H0 := Lib.hid h0
  have hrb : (recB q r).length ≤ 1100 := by
    rw [rec_len]
    have := body_len q hq1.1 hq1.2 r hr
    have := V.num_len ((C.sealed (V.num q ++ r)).length : Int) (by omega) (by omega)
    omega
  have HY := Lib.hid (fun W (h : LDid F G lp d M D1 gs rs u1 w W) => do_lay q r hq1 hr h)
  have HF := Lib.hid (fun W (h : LDid F G lp d M D1 gs rs u1 w W) => do_file into hi h)
  have HA := Lib.hid (fun W (h : LDid F G lp d M D1 gs rs u1 w W) => do_app (nmW into) (recB q r) (by have := nmW_len (n := into) (by omega); omega) (by omega) h)
  obtain ⟨⟨D2, E⟩, ha⟩ : ∃ a, appendD D1 (nmW into) (recB q r) = a := ⟨_, rfl⟩
  rw [ha] at HA hE ⊢
  dsimp only at HA hE ⊢
  have hsz : (str r).size = r.length := str_size r
  have hszB : (str (recB q r)).size = (recB q r).length := str_size _
  obtain ⟨N, hN⟩ : ∃ N, r.length = N := ⟨_, rfl⟩
  rw [hN] at hsz
  have hrI : ¬ (1024 : Int) < (N : Int) := by omega
  have hb : (E != 0) = true := bne_iff_ne.2 hE
  clear hl hq hN hs h0 hE hi hq1 ha hr hrb hszB
  go_enter Tryz.func24, Tryz.ntmps24
  go_wp2_with (first
    | (go_at_call 19; (with_reducible refine (HN.out _ H0.out).mono ?_); rintro _ w1 ⟨rfl, hd⟩; have H1 := Lib.hid hd; clear hd)
    | (go_at_call 41; (with_reducible refine (HS.out _ H1.out).mono ?_); rintro _ w2 ⟨rfl, hd⟩; have H2 := Lib.hid hd; clear hd)
    | (go_at_call 42; (with_reducible refine (HY.out _ H2.out).mono ?_); rintro _ w3 ⟨rfl, hd⟩; have H3 := Lib.hid hd; have c0 := hd.disk; clear hd))
  go_region_with (first
    | (go_at_call 38; (with_reducible refine (HF.out _ H3.out.drew).mono ?_); rintro _ w4 ⟨rfl, hd⟩; have H4 := Lib.hid hd; have c04 := hd.disk; clear hd)
    | (go_at_call 43; (with_reducible refine (HA.out _ H4.out).mono ?_); rintro _ w5 ⟨rfl, hd⟩; have H5 := Lib.hid hd; obtain ⟨a5, q5, c5⟩ := hd.slice; clear hd))
  all_goals go_wp2_with fail
  all_goals (go_ret2; exact ⟨rfl, H5.out⟩)
set_option maxHeartbeats 8000000 in
/-- The first one of all. -/
theorem app_new0  {q : Int} {into : Nat} (hl : LSm [] rs) (hi : into < 100) (hq : nextG [] rs = q) (hq1 : 0 ≤ q ∧ q ≤ 4611686018427387904) (r : List UInt8) (hr : r.length ≤ 1024) (h0 : LDid F G lp d M D [] rs u w w)
    (hs : ∀ W, LDid F G lp d M D [] rs u w W → Calls Tryz.prog 41 #[.pointer (some ⟨lp, 0, none⟩), .int .i64 q] W fun e w' => e = .returned (.tuple #[.int .i64 (into : Int), .int .i64 0]) ∧ LDid F G lp d M D1 [] rs u1 w w') (hE : (appendD D1 (nmW into) (recB q r)).2 = 0) :
    Calls Tryz.prog 24 #[.pointer (some ⟨lp, 0, none⟩), .string (str r)] w fun e w' => e = .returned (.tuple #[.int .i64 q, .int .i64 0]) ∧ LDid F G lp d M (appendD D1 (nmW into) (recB q r)).1 [((into : Int), ((recB q r).length : Int))] (rs ++ [r]) u1 w w' := by
  have HN := Lib.hid (fun W (h : LDid F G lp d M D [] rs u w W) => do_next hl h)
  rw [hq] at HN
  have HS := Lib.hid hs
  have H0 := Lib.hid h0
  have hrb : (recB q r).length ≤ 1100 := by
    rw [rec_len]
    have := body_len q hq1.1 hq1.2 r hr
    have := V.num_len ((C.sealed (V.num q ++ r)).length : Int) (by omega) (by omega)
    omega
  have HY := Lib.hid (fun W (h : LDid F G lp d M D1 [] rs u1 w W) => do_lay q r hq1 hr h)
  have HF := Lib.hid (fun W (h : LDid F G lp d M D1 [] rs u1 w W) => do_file into hi h)
  have HA := Lib.hid (fun W (h : LDid F G lp d M D1 [] rs u1 w W) => do_app (nmW into) (recB q r) (by have := nmW_len (n := into) (by omega); omega) (by omega) h)
  obtain ⟨⟨D2, E⟩, ha⟩ : ∃ a, appendD D1 (nmW into) (recB q r) = a := ⟨_, rfl⟩
  rw [ha] at HA hE ⊢
  dsimp only at HA hE ⊢
  have hsz : (str r).size = r.length := str_size r
  have hszB : (str (recB q r)).size = (recB q r).length := str_size _
  obtain ⟨N, hN⟩ : ∃ N, r.length = N := ⟨_, rfl⟩
  rw [hN] at hsz
  have hrI : ¬ (1024 : Int) < (N : Int) := by omega
  subst hE
  have hl2 := hl.n2
  obtain ⟨i0, hi0, hz0, hz1, hz2⟩ := seg_info
  obtain ⟨BL, hBL⟩ : ∃ BL, (recB q r).length = BL := ⟨_, rfl⟩
  rw [hBL] at hszB hrb ⊢
  have hw0 : IntKind.i64.wrap (0 + (BL : Int)) = (BL : Int) := by rw [Int.zero_add]; exact IntWalk.i64_in _ (by omega)
  have hw1 : IntKind.i64.wrap (BL : Int) = (BL : Int) := IntWalk.i64_in _ (by omega)
  have HB63 := Lib.hid (show ([] : List (Int × Int)).length + 1 ≤ maxLen by unfold maxLen; simp)
  have HB47 := Lib.hid (show (([] : List (Int × Int)).length + 1) * 16 ≤ 140737488355328 by simp)
  have HL2 := Lib.hid (show ∀ W, LDid F G lp d M D2 ([] ++ [((into : Int), (0 : Int))]) rs u1 w W → Calls Tryz.prog 44 #[.pointer (some ⟨lp, 0, none⟩)] W fun e w' => ∃ b, e = .returned (.pointer (some ⟨b, 0, none⟩)) ∧
    (w'.cell? ⟨b, 0, none⟩ = some (.int .i64 (into : Int)) ∧ w'.cell? ⟨b, 1, none⟩ = some (.int .i64 0) ∧ w'.frozen? ⟨b, 1, none⟩ = false) ∧ LDid F G lp d M D2 [((into : Int), (0 : Int))] rs u1 w w' ∧ ∀ z', LDid F G lp d M D2 [((into : Int), z')] rs u1 w (w'.setCell ⟨b, 1, none⟩ (.int .i64 z')) from fun W h => do_last (pre := []) (Nat.zero_le _) h)
  clear hrb hBL
  have HC := Lib.hid (fun W (h : LDid F G lp d M D2 [((into : Int), (BL : Int))] rs u1 w W) => do_clone r (by omega) h)
  have HT := Lib.hid (fun W (h : LDid F G lp d M D2 [((into : Int), (BL : Int))] rs u1 w W) => do_take r hl2 h)
  clear hl hq hN hs h0 hi hq1 ha hr hl2
  go_enter Tryz.func24, Tryz.ntmps24
  go_wp2_with (first
    | (go_at_call 19; (with_reducible refine (HN.out _ H0.out).mono ?_); rintro _ w1 ⟨rfl, hd⟩; have H1 := Lib.hid hd; clear hd)
    | (go_at_call 41; (with_reducible refine (HS.out _ H1.out).mono ?_); rintro _ w2 ⟨rfl, hd⟩; have H2 := Lib.hid hd; clear hd)
    | (go_at_call 42; (with_reducible refine (HY.out _ H2.out).mono ?_); rintro _ w3 ⟨rfl, hd⟩; have H3 := Lib.hid hd; have c0 := hd.disk; clear hd))
  go_region_with (first
    | (go_at_call 38; (with_reducible refine (HF.out _ H3.out.drew).mono ?_); rintro _ w4 ⟨rfl, hd⟩; have H4 := Lib.hid hd; have c04 := hd.disk; clear hd)
    | (go_at_call 43; (with_reducible refine (HA.out _ H4.out).mono ?_); rintro _ w5 ⟨rfl, hd⟩; have H5 := Lib.hid hd; obtain ⟨a5, q5, c5⟩ := hd.slice; clear hd))
  all_goals go_wp2_with (first
    | (at_builtin; obtain ⟨hrow, hpush⟩ := H5.out.push c5; have HR6 := Lib.hid (hrow.alloc (.cells #[.int .i64 (into : Int), .int .i64 0] 76)); have HP6 := Lib.hid hpush; clear hrow hpush; refine wpList_append_own_at _ rfl _ _ 72 rfl 0 76 i0 (.agg #[.int .i64 0, .int .i64 0]) 2 16 Tryz.underlying72 hi0 hz0 hz1 hz2 rfl (by decide) _ _ _ rfl HR6.out ⟨w5.heap.size, 0, none⟩ 1 1 [.int .i64 (into : Int), .int .i64 0] rfl rfl (new_two _ _ _ _) (by intro u hu; simp at hu; rcases hu with rfl | rfl <;> rfl) HB63.out HB47.out (Nat.zero_le _) ?_; intro v7 w7 hown7 hgrow7 hnn7 hat7; obtain ⟨av7, cv7, rfl⟩ := shape_own hown7; obtain ⟨p1, p2, p3⟩ := HP6.out _ _ _ _ _ (below_alloc _ _) hown7 hgrow7 hat7; have HX7 := Lib.hid p3; clear hnn7 hown7 hgrow7 hat7 p3)
    | (go_at_call 44; (refine (HL2.out _ HX7.out).mono ?_); rintro _ w7 ⟨b7, rfl, ⟨k7, k7b, k7c⟩, hd, hz7⟩; have H7 := Lib.hid hd; have HZ7 := Lib.hid hz7; clear hd hz7))
  all_goals go_region_with (first
    | (go_at_call 35; (with_reducible refine (HC.out _ (HZ7.out _).drew).mono ?_); rintro _ w8 ⟨rfl, hd⟩; have H8 := Lib.hid hd; clear hd)
    | (go_at_call 27; (with_reducible refine (HT.out _ H8.out).mono ?_); rintro _ w9 ⟨rfl, hd⟩; have H9 := Lib.hid hd; clear hd))
  all_goals go_wp2_with fail
  all_goals (go_ret2; exact ⟨rfl, H9.out⟩)
set_option maxHeartbeats 8000000 in
/-- One behind a segment that is full. -/
theorem app_new  {pre : List (Int × Int)} {n : Nat} {z : Int} {q : Int} {into : Nat} (hl : LSm (pre ++ [((n : Int), z)]) rs) (hi : into < 100) (hq : nextG (pre ++ [((n : Int), z)]) rs = q) (hq1 : 0 ≤ q ∧ q ≤ 4611686018427387904) (r : List UInt8) (hr : r.length ≤ 1024) (h0 : LDid F G lp d M D (pre ++ [((n : Int), z)]) rs u w w)
    (hs : ∀ W, LDid F G lp d M D (pre ++ [((n : Int), z)]) rs u w W → Calls Tryz.prog 41 #[.pointer (some ⟨lp, 0, none⟩), .int .i64 q] W fun e w' => e = .returned (.tuple #[.int .i64 (into : Int), .int .i64 0]) ∧ LDid F G lp d M D1 (pre ++ [((n : Int), z)]) rs u1 w w') (hpl : pre.length ≤ 800) (hni : n ≠ into) (hE : (appendD D1 (nmW into) (recB q r)).2 = 0) :
    Calls Tryz.prog 24 #[.pointer (some ⟨lp, 0, none⟩), .string (str r)] w fun e w' => e = .returned (.tuple #[.int .i64 q, .int .i64 0]) ∧ LDid F G lp d M (appendD D1 (nmW into) (recB q r)).1 (pre ++ [((n : Int), z)] ++ [((into : Int), ((recB q r).length : Int))]) (rs ++ [r]) u1 w w' := by
  have HN := Lib.hid (fun W (h : LDid F G lp d M D (pre ++ [((n : Int), z)]) rs u w W) => do_next hl h)
  rw [hq] at HN
  have HS := Lib.hid hs
  have H0 := Lib.hid h0
  have hrb : (recB q r).length ≤ 1100 := by
    rw [rec_len]
    have := body_len q hq1.1 hq1.2 r hr
    have := V.num_len ((C.sealed (V.num q ++ r)).length : Int) (by omega) (by omega)
    omega
  have HY := Lib.hid (fun W (h : LDid F G lp d M D1 (pre ++ [((n : Int), z)]) rs u1 w W) => do_lay q r hq1 hr h)
  have HF := Lib.hid (fun W (h : LDid F G lp d M D1 (pre ++ [((n : Int), z)]) rs u1 w W) => do_file into hi h)
  have HA := Lib.hid (fun W (h : LDid F G lp d M D1 (pre ++ [((n : Int), z)]) rs u1 w W) => do_app (nmW into) (recB q r) (by have := nmW_len (n := into) (by omega); omega) (by omega) h)
  obtain ⟨⟨D2, E⟩, ha⟩ : ∃ a, appendD D1 (nmW into) (recB q r) = a := ⟨_, rfl⟩
  rw [ha] at HA hE ⊢
  dsimp only at HA hE ⊢
  have hsz : (str r).size = r.length := str_size r
  have hszB : (str (recB q r)).size = (recB q r).length := str_size _
  obtain ⟨N, hN⟩ : ∃ N, r.length = N := ⟨_, rfl⟩
  rw [hN] at hsz
  have hrI : ¬ (1024 : Int) < (N : Int) := by omega
  subst hE
  have hl2 := hl.n2
  obtain ⟨i0, hi0, hz0, hz1, hz2⟩ := seg_info
  obtain ⟨BL, hBL⟩ : ∃ BL, (recB q r).length = BL := ⟨_, rfl⟩
  rw [hBL] at hszB hrb ⊢
  have hw0 : IntKind.i64.wrap (0 + (BL : Int)) = (BL : Int) := by rw [Int.zero_add]; exact IntWalk.i64_in _ (by omega)
  have hw1 : IntKind.i64.wrap (BL : Int) = (BL : Int) := IntWalk.i64_in _ (by omega)
  have hGL : (pre ++ [((n : Int), z)]).length = pre.length + 1 := by simp
  have HL1 := Lib.hid (fun W (h : LDid F G lp d M D2 (pre ++ [((n : Int), z)]) rs u1 w W) => do_last (by omega) h)
  have HL2 := Lib.hid (fun W (h : LDid F G lp d M D2 ((pre ++ [((n : Int), z)]) ++ [((into : Int), (0 : Int))]) rs u1 w W) => do_last (pre := pre ++ [((n : Int), z)]) (by rw [hGL]; omega) h)
  obtain ⟨P, hP⟩ : ∃ P, pre.length = P := ⟨_, rfl⟩
  rw [hP] at HL1 hpl hGL
  rw [hGL] at HL2
  have HGL := Lib.hid hGL
  have HB63 := Lib.hid (show P + 1 + 1 ≤ maxLen by unfold maxLen; omega)
  have HB47 := Lib.hid (show (P + 1 + 1) * 16 ≤ 140737488355328 by omega)
  have hz : (((P + 1 : Nat) : Int) == 0) = false := by
    have : ((P + 1 : Nat) : Int) ≠ 0 := by omega
    simpa using this
  have hnI : ((n : Int) != (into : Int)) = true := bne_iff_ne.2 (by omega)
  clear hrb hBL hpl hP hGL hni
  have HC := Lib.hid (fun W (h : LDid F G lp d M D2 (pre ++ [((n : Int), z)] ++ [((into : Int), (BL : Int))]) rs u1 w W) => do_clone r (by omega) h)
  have HT := Lib.hid (fun W (h : LDid F G lp d M D2 (pre ++ [((n : Int), z)] ++ [((into : Int), (BL : Int))]) rs u1 w W) => do_take r hl2 h)
  clear hl hq hN hs h0 hi hq1 ha hr hl2
  go_enter Tryz.func24, Tryz.ntmps24
  go_wp2_with (first
    | (go_at_call 19; (with_reducible refine (HN.out _ H0.out).mono ?_); rintro _ w1 ⟨rfl, hd⟩; have H1 := Lib.hid hd; clear hd)
    | (go_at_call 41; (with_reducible refine (HS.out _ H1.out).mono ?_); rintro _ w2 ⟨rfl, hd⟩; have H2 := Lib.hid hd; clear hd)
    | (go_at_call 42; (with_reducible refine (HY.out _ H2.out).mono ?_); rintro _ w3 ⟨rfl, hd⟩; have H3 := Lib.hid hd; have c0 := hd.disk; clear hd))
  go_region_with (first
    | (go_at_call 38; (with_reducible refine (HF.out _ H3.out.drew).mono ?_); rintro _ w4 ⟨rfl, hd⟩; have H4 := Lib.hid hd; have c04 := hd.disk; clear hd)
    | (go_at_call 43; (with_reducible refine (HA.out _ H4.out).mono ?_); rintro _ w5 ⟨rfl, hd⟩; have H5 := Lib.hid hd; obtain ⟨a5, q5, c5⟩ := hd.slice; clear hd))
  all_goals rw [HGL.out] at c5
  all_goals go_wp2_with (first
    | (go_at_call 44; (with_reducible refine (HL1.out _ H5.out).mono ?_); rintro _ w6 ⟨b6, rfl, ⟨k6, k6b, k6c⟩, hd, hz6⟩; have H6 := Lib.hid hd; obtain ⟨a6, q6, c6⟩ := hd.slice; rw [HGL.out] at c6; clear hd hz6)
    | (at_builtin; obtain ⟨hrow, hpush⟩ := H6.out.push c6; rw [HGL.out] at hrow hpush; have HR6 := Lib.hid (hrow.alloc (.cells #[.int .i64 (into : Int), .int .i64 0] 76)); have HP6 := Lib.hid hpush; clear hrow hpush; refine wpList_append_own_at _ rfl _ _ 72 rfl 0 76 i0 (.agg #[.int .i64 0, .int .i64 0]) 2 16 Tryz.underlying72 hi0 hz0 hz1 hz2 rfl (by decide) _ _ _ rfl HR6.out ⟨w6.heap.size, 0, none⟩ 1 1 [.int .i64 (into : Int), .int .i64 0] rfl rfl (new_two _ _ _ _) (by intro u hu; simp at hu; rcases hu with rfl | rfl <;> rfl) HB63.out HB47.out (Nat.zero_le _) ?_; intro v7 w7 hown7 hgrow7 hnn7 hat7; obtain ⟨av7, cv7, rfl⟩ := shape_own hown7; obtain ⟨p1, p2, p3⟩ := HP6.out _ _ _ _ _ (below_alloc _ _) hown7 hgrow7 hat7; have HX7 := Lib.hid p3; clear hnn7 hown7 hgrow7 hat7 p3)
    | (go_at_call 44; (refine (HL2.out _ HX7.out).mono ?_); rintro _ w7 ⟨b7, rfl, ⟨k7, k7b, k7c⟩, hd, hz7⟩; have H7 := Lib.hid hd; have HZ7 := Lib.hid hz7; clear hd hz7))
  all_goals go_region_with (first
    | (go_at_call 35; (with_reducible refine (HC.out _ (HZ7.out _).drew).mono ?_); rintro _ w8 ⟨rfl, hd⟩; have H8 := Lib.hid hd; clear hd)
    | (go_at_call 27; (with_reducible refine (HT.out _ H8.out).mono ?_); rintro _ w9 ⟨rfl, hd⟩; have H9 := Lib.hid hd; clear hd))
  all_goals go_wp2_with fail
  all_goals (go_ret2; exact ⟨rfl, H9.out⟩)
set_option maxHeartbeats 8000000 in
/-- One in the last segment. -/
theorem app_old  {pre : List (Int × Int)} {z : Int} {q : Int} {into : Nat} (hl : LSm (pre ++ [((into : Int), z)]) rs) (hi : into < 100) (hq : nextG (pre ++ [((into : Int), z)]) rs = q) (hq1 : 0 ≤ q ∧ q ≤ 4611686018427387904) (r : List UInt8) (hr : r.length ≤ 1024) (h0 : LDid F G lp d M D (pre ++ [((into : Int), z)]) rs u w w)
    (hs : ∀ W, LDid F G lp d M D (pre ++ [((into : Int), z)]) rs u w W → Calls Tryz.prog 41 #[.pointer (some ⟨lp, 0, none⟩), .int .i64 q] W fun e w' => e = .returned (.tuple #[.int .i64 (into : Int), .int .i64 0]) ∧ LDid F G lp d M D1 (pre ++ [((into : Int), z)]) rs u1 w w') (hpl : pre.length ≤ 800) (hzz : 0 ≤ z ∧ z ≤ 1000000) (hE : (appendD D1 (nmW into) (recB q r)).2 = 0) :
    Calls Tryz.prog 24 #[.pointer (some ⟨lp, 0, none⟩), .string (str r)] w fun e w' => e = .returned (.tuple #[.int .i64 q, .int .i64 0]) ∧ LDid F G lp d M (appendD D1 (nmW into) (recB q r)).1 (pre ++ [((into : Int), z + ((recB q r).length : Int))]) (rs ++ [r]) u1 w w' := by
  have HN := Lib.hid (fun W (h : LDid F G lp d M D (pre ++ [((into : Int), z)]) rs u w W) => do_next hl h)
  rw [hq] at HN
  have HS := Lib.hid hs
  have H0 := Lib.hid h0
  have hrb : (recB q r).length ≤ 1100 := by
    rw [rec_len]
    have := body_len q hq1.1 hq1.2 r hr
    have := V.num_len ((C.sealed (V.num q ++ r)).length : Int) (by omega) (by omega)
    omega
  have HY := Lib.hid (fun W (h : LDid F G lp d M D1 (pre ++ [((into : Int), z)]) rs u1 w W) => do_lay q r hq1 hr h)
  have HF := Lib.hid (fun W (h : LDid F G lp d M D1 (pre ++ [((into : Int), z)]) rs u1 w W) => do_file into hi h)
  have HA := Lib.hid (fun W (h : LDid F G lp d M D1 (pre ++ [((into : Int), z)]) rs u1 w W) => do_app (nmW into) (recB q r) (by have := nmW_len (n := into) (by omega); omega) (by omega) h)
  obtain ⟨⟨D2, E⟩, ha⟩ : ∃ a, appendD D1 (nmW into) (recB q r) = a := ⟨_, rfl⟩
  rw [ha] at HA hE ⊢
  dsimp only at HA hE ⊢
  have hsz : (str r).size = r.length := str_size r
  have hszB : (str (recB q r)).size = (recB q r).length := str_size _
  obtain ⟨N, hN⟩ : ∃ N, r.length = N := ⟨_, rfl⟩
  rw [hN] at hsz
  have hrI : ¬ (1024 : Int) < (N : Int) := by omega
  subst hE
  have hl2 := hl.n2
  obtain ⟨i0, hi0, hz0, hz1, hz2⟩ := seg_info
  obtain ⟨BL, hBL⟩ : ∃ BL, (recB q r).length = BL := ⟨_, rfl⟩
  rw [hBL] at hszB hrb ⊢
  have hw0 : IntKind.i64.wrap (0 + (BL : Int)) = (BL : Int) := by rw [Int.zero_add]; exact IntWalk.i64_in _ (by omega)
  have hw1 : IntKind.i64.wrap (BL : Int) = (BL : Int) := IntWalk.i64_in _ (by omega)
  have hGL : (pre ++ [((into : Int), z)]).length = pre.length + 1 := by simp
  have HL1 := Lib.hid (fun W (h : LDid F G lp d M D2 (pre ++ [((into : Int), z)]) rs u1 w W) => do_last (by omega) h)
  obtain ⟨P, hP⟩ : ∃ P, pre.length = P := ⟨_, rfl⟩
  rw [hP] at HL1 hGL
  have HL2 := Lib.hid HL1.out
  have HGL := Lib.hid hGL
  have hz : (((P + 1 : Nat) : Int) == 0) = false := by
    have : ((P + 1 : Nat) : Int) ≠ 0 := by omega
    simpa using this
  have hnI : ((into : Int) != (into : Int)) = false := by simp
  have hw2 : IntKind.i64.wrap (z + (BL : Int)) = z + (BL : Int) := IntWalk.i64_in _ (by omega)
  clear hrb hBL hpl hP hGL hzz
  have HC := Lib.hid (fun W (h : LDid F G lp d M D2 (pre ++ [((into : Int), z + (BL : Int))]) rs u1 w W) => do_clone r (by omega) h)
  have HT := Lib.hid (fun W (h : LDid F G lp d M D2 (pre ++ [((into : Int), z + (BL : Int))]) rs u1 w W) => do_take r hl2 h)
  clear hl hq hN hs h0 hi hq1 ha hr hl2
  go_enter Tryz.func24, Tryz.ntmps24
  go_wp2_with (first
    | (go_at_call 19; (with_reducible refine (HN.out _ H0.out).mono ?_); rintro _ w1 ⟨rfl, hd⟩; have H1 := Lib.hid hd; clear hd)
    | (go_at_call 41; (with_reducible refine (HS.out _ H1.out).mono ?_); rintro _ w2 ⟨rfl, hd⟩; have H2 := Lib.hid hd; clear hd)
    | (go_at_call 42; (with_reducible refine (HY.out _ H2.out).mono ?_); rintro _ w3 ⟨rfl, hd⟩; have H3 := Lib.hid hd; have c0 := hd.disk; clear hd))
  go_region_with (first
    | (go_at_call 38; (with_reducible refine (HF.out _ H3.out.drew).mono ?_); rintro _ w4 ⟨rfl, hd⟩; have H4 := Lib.hid hd; have c04 := hd.disk; clear hd)
    | (go_at_call 43; (with_reducible refine (HA.out _ H4.out).mono ?_); rintro _ w5 ⟨rfl, hd⟩; have H5 := Lib.hid hd; obtain ⟨a5, q5, c5⟩ := hd.slice; clear hd))
  all_goals rw [HGL.out] at c5
  all_goals go_wp2_with (first
    | (go_at_call 44; (with_reducible refine (HL1.out _ H5.out).mono ?_); rintro _ w6 ⟨b6, rfl, ⟨k6, k6b, k6c⟩, hd, hz6⟩; have H6 := Lib.hid hd; obtain ⟨a6, q6, c6⟩ := hd.slice; clear hd hz6)
    | (go_at_call 44; (refine (HL2.out _ H6.out).mono ?_); rintro _ w7 ⟨b7, rfl, ⟨k7, k7b, k7c⟩, hd, hz7⟩; have H7 := Lib.hid hd; have HZ7 := Lib.hid hz7; clear hd hz7))
  all_goals go_region_with (first
    | (go_at_call 35; (with_reducible refine (HC.out _ (HZ7.out _).drew).mono ?_); rintro _ w8 ⟨rfl, hd⟩; have H8 := Lib.hid hd; clear hd)
    | (go_at_call 27; (with_reducible refine (HT.out _ H8.out).mono ?_); rintro _ w9 ⟨rfl, hd⟩; have H9 := Lib.hid hd; clear hd))
  all_goals go_wp2_with fail
  all_goals (go_ret2; exact ⟨rfl, H9.out⟩)
end
end Go.Proofs.YtelcemfaijjcbaaGreatDoor.C13
