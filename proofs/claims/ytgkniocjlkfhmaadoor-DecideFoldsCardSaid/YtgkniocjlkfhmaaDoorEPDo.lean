/-
  Contract of the program of layer 3: an instruction done to the row of numbers that wait.
-/
import Derived.Test.YtgkniocjlkfhmaaDoorEPRow
namespace Go.Proofs.YtgkniocjlkfhmaaDoor.E
open Go Go.RowKit Go.Proofs.YtgkniocjlkfhmaaDoor.B Go.Proofs.YtgkniocjlkfhmaaDoor.K
set_option linter.unusedVariables false
set_option maxRecDepth 100000

/-- What an instruction that comes to m leaves. -/
def Done (B : Nat) (r : List Int) (m : Option Int) (e : Ending) (w' : World) : Prop := e = .returned (.bool m.isSome) ∧ ∀ x, m = some x → RowAt w' B (x :: r)

theorem done_yes {B : Nat} {r : List Int} {m : Option Int} {n : Int} {w' : World} (h : gv n = m) (hv : isVal n = true) (hr : RowAt w' B (n :: r)) : Done B r m (.returned (.bool true)) w' := by
  rw [gv_is n hv] at h
  subst h
  exact ⟨rfl, fun x hx => by cases hx; exact hr⟩
theorem done_no {B : Nat} {r : List Int} {m : Option Int} {n : Int} {w' : World} (h : gv n = m) (hv : isVal n = false) : Done B r m (.returned (.bool false)) w' := by
  rw [gv_not n hv] at h
  subst h
  exact ⟨rfl, fun x hx => by cases hx⟩

theorem row_room {w : World} {B : Nat} {a : Int} {r : List Int} (h : RowAt w B (a :: r)) : r.length < 31 := by
  obtain ⟨cs, _, _, hl, _⟩ := h
  rw [List.length_cons] at hl
  omega

set_option maxHeartbeats 800000 in
theorem do4_any (B : Nat) (a : Int) (r : List Int) (w : World) (hr : RowAt w B (a :: r)) (ha : isVal a = true) :
    Calls Tryd.prog 42 #[.pointer (some ⟨B, 0, none⟩), .int .i64 4] w fun e w' => Done B r (made 4 a 0 0) e w' ∧ Tch B w w' := by
  have ha' := (isVal_iff a).1 ha
  have hneg : IntKind.i64.wrap (-a) = -a := IntWalk.i64_in _ (by omega)
  have hneg2 : wrap64 (-a) = -a := IntWalk.wrap64_in _ (by omega)
  have hg : gv (-a) = made 4 a 0 0 := gv_is _ ((isVal_iff _).2 (by omega))
  have HG := Lib.hid hg
  have HL := Lib.hid (row_room hr)
  have HR0 := Lib.hid hr
  clear hg ha' ha hr
  go_enter Tryd.func42, Tryd.ntmps42
  go_wp2_with fail
  refine (take_any B r a _ HR0.out).mono ?_
  rintro _ w1 ⟨rfl, hr1, ht1⟩
  have HR := Lib.hid hr1
  have HT := Lib.hid ht1
  clear hr1 ht1 HR0
  by_cases hv : isVal (-a) = true
  · have HV := Lib.hid (fun W => (show Calls Tryd.prog 56 #[.int .i64 (-a)] W fun e w' => e = .returned (.bool true) ∧ W = w' by rw [← hv]; exact isValue_any (-a) W))
    have HVV := Lib.hid hv
    clear hv
    go_wp2_with fail
    refine (HV.out _).mono ?_
    rintro _ wv ⟨rfl, rfl⟩
    go_wp2_with fail
    refine (put_any B r (-a) _ HR.out HL.out).mono ?_
    rintro _ wp ⟨rfl, hrp, htp⟩
    have HRP := Lib.hid hrp
    have HTP := Lib.hid (HT.out.trans htp)
    clear hrp htp
    go_wp2_with fail
    go_ret
    exact ⟨done_yes HG.out HVV.out HRP.out, HTP.out⟩
  · have hf : isVal (-a) = false := by simpa using hv
    have HV := Lib.hid (fun W => (show Calls Tryd.prog 56 #[.int .i64 (-a)] W fun e w' => e = .returned (.bool false) ∧ W = w' by rw [← hf]; exact isValue_any (-a) W))
    have HVV := Lib.hid hf
    clear hv hf
    go_wp2_with fail
    refine (HV.out _).mono ?_
    rintro _ wv ⟨rfl, rfl⟩
    go_wp2_with fail
    go_ret
    exact ⟨done_no HG.out HVV.out, HT.out⟩

set_option maxHeartbeats 800000 in
theorem do5_any (B : Nat) (a : Int) (r : List Int) (w : World) (hr : RowAt w B (a :: r)) :
    Calls Tryd.prog 42 #[.pointer (some ⟨B, 0, none⟩), .int .i64 5] w fun e w' => Done B r (made 5 a 0 0) e w' ∧ Tch B w w' := by
  have hg : gv (one (decide (a = 0))) = made 5 a 0 0 := gv_is _ (one_val _)
  have htr : (a == 0) = decide (a = 0) := by (rw [Bool.eq_iff_iff]; simp)
  obtain ⟨b, hb⟩ : ∃ b, decide (a = 0) = b := ⟨_, rfl⟩
  rw [hb] at hg htr
  have HG := Lib.hid hg
  have HL := Lib.hid (row_room hr)
  have HR0 := Lib.hid hr
  clear hg hr hb
  go_enter Tryd.func42, Tryd.ntmps42
  go_wp2_with fail
  refine (take_any B r a _ HR0.out).mono ?_
  rintro _ w1 ⟨rfl, hr1, ht1⟩
  have HR := Lib.hid hr1
  have HT := Lib.hid ht1
  clear hr1 ht1 HR0
  go_wp2_with fail
  refine (truth_any b _).mono ?_
  rintro _ wt ⟨rfl, rfl⟩
  by_cases hv : isVal (one b) = true
  · have HV := Lib.hid (fun W => (show Calls Tryd.prog 56 #[.int .i64 (one b)] W fun e w' => e = .returned (.bool true) ∧ W = w' by rw [← hv]; exact isValue_any (one b) W))
    have HVV := Lib.hid hv
    clear hv
    go_wp2_with fail
    refine (HV.out _).mono ?_
    rintro _ wv ⟨rfl, rfl⟩
    go_wp2_with fail
    refine (put_any B r (one b) _ HR.out HL.out).mono ?_
    rintro _ wp ⟨rfl, hrp, htp⟩
    have HRP := Lib.hid hrp
    have HTP := Lib.hid (HT.out.trans htp)
    clear hrp htp
    go_wp2_with fail
    go_ret
    exact ⟨done_yes HG.out HVV.out HRP.out, HTP.out⟩
  · have hf : isVal (one b) = false := by simpa using hv
    have HV := Lib.hid (fun W => (show Calls Tryd.prog 56 #[.int .i64 (one b)] W fun e w' => e = .returned (.bool false) ∧ W = w' by rw [← hf]; exact isValue_any (one b) W))
    have HVV := Lib.hid hf
    clear hv hf
    go_wp2_with fail
    refine (HV.out _).mono ?_
    rintro _ wv ⟨rfl, rfl⟩
    go_wp2_with fail
    go_ret
    exact ⟨done_no HG.out HVV.out, HT.out⟩

set_option maxHeartbeats 800000 in
theorem do16_any (B : Nat) (a b c : Int) (r : List Int) (w : World) (hr : RowAt w B (c :: b :: a :: r)) (ha : isVal a = true) (hb : isVal b = true) (hc : isVal c = true) :
    Calls Tryd.prog 42 #[.pointer (some ⟨B, 0, none⟩), .int .i64 16] w fun e w' => Done B r (made 16 a b c) e w' ∧ Tch B w w' := by
  have hg : gv (pickOf a b c) = made 16 a b c := by
    refine (gv_is _ ?_).trans rfl
    unfold pickOf; split
    · exact hb
    · exact hc
  have HG := Lib.hid hg
  have hl := row_room hr
  rw [List.length_cons, List.length_cons] at hl
  have HL := Lib.hid (show r.length < 31 by omega)
  have HR0 := Lib.hid hr
  clear hg hr ha hb hc hl
  go_enter Tryd.func42, Tryd.ntmps42
  go_wp2_with fail
  refine (take_any B _ c _ HR0.out).mono ?_
  rintro _ w1 ⟨rfl, hr1, ht1⟩
  have HR1 := Lib.hid hr1
  have HT1 := Lib.hid ht1
  clear hr1 ht1 HR0
  go_wp2_with fail
  refine (take_any B _ b _ HR1.out).mono ?_
  rintro _ w2 ⟨rfl, hr2, ht2⟩
  have HR2 := Lib.hid hr2
  have HT2 := Lib.hid (HT1.out.trans ht2)
  clear hr2 ht2 HR1 HT1
  go_wp2_with fail
  refine (take_any B _ a _ HR2.out).mono ?_
  rintro _ w3 ⟨rfl, hr3, ht3⟩
  have HR := Lib.hid hr3
  have HT := Lib.hid (HT2.out.trans ht3)
  clear hr3 ht3 HR2 HT2
  go_wp2_with fail
  refine (choice_any a b c _).mono ?_
  rintro _ wt ⟨rfl, rfl⟩
  by_cases hv : isVal (pickOf a b c) = true
  · have HV := Lib.hid (fun W => (show Calls Tryd.prog 56 #[.int .i64 (pickOf a b c)] W fun e w' => e = .returned (.bool true) ∧ W = w' by rw [← hv]; exact isValue_any (pickOf a b c) W))
    have HVV := Lib.hid hv
    clear hv
    go_wp2_with fail
    refine (HV.out _).mono ?_
    rintro _ wv ⟨rfl, rfl⟩
    go_wp2_with fail
    refine (put_any B r (pickOf a b c) _ HR.out HL.out).mono ?_
    rintro _ wp ⟨rfl, hrp, htp⟩
    have HRP := Lib.hid hrp
    have HTP := Lib.hid (HT.out.trans htp)
    clear hrp htp
    go_wp2_with fail
    go_ret
    exact ⟨done_yes HG.out HVV.out HRP.out, HTP.out⟩
  · have hf : isVal (pickOf a b c) = false := by simpa using hv
    have HV := Lib.hid (fun W => (show Calls Tryd.prog 56 #[.int .i64 (pickOf a b c)] W fun e w' => e = .returned (.bool false) ∧ W = w' by rw [← hf]; exact isValue_any (pickOf a b c) W))
    have HVV := Lib.hid hf
    clear hv hf
    go_wp2_with fail
    refine (HV.out _).mono ?_
    rintro _ wv ⟨rfl, rfl⟩
    go_wp2_with fail
    go_ret
    exact ⟨done_no HG.out HVV.out, HT.out⟩

set_option maxHeartbeats 800000 in
theorem do6_any (B : Nat) (a b : Int) (r : List Int) (w : World) (hr : RowAt w B (b :: a :: r)) (ha : isVal a = true) (hb : isVal b = true) :
    Calls Tryd.prog 42 #[.pointer (some ⟨B, 0, none⟩), .int .i64 6] w fun e w' => Done B r (made 6 a b 0) e w' ∧ Tch B w w' := by
  have HA := Lib.hid ha
  have HB := Lib.hid hb
  have hl := row_room hr
  rw [List.length_cons] at hl
  have HL := Lib.hid (show r.length < 31 by omega)
  have HR0 := Lib.hid hr
  have HTOLD := Lib.hid (fun W => (show Calls Tryd.prog 59 #[.agg #[.int .i64 a, .int .i64 b], .int .i64 6] W fun e w' => e = .returned (.func (.func 71) #[.agg #[.int .i64 a, .int .i64 b]] #[]) ∧ Below W.heap.size W w' from told_any a b 6 W (by omega)))
  clear hr ha hb hl
  go_enter Tryd.func42, Tryd.ntmps42
  go_wp2_with fail
  refine (take_any B _ b _ HR0.out).mono ?_
  rintro _ w1 ⟨rfl, hr1, ht1⟩
  have HR1 := Lib.hid hr1
  have HT1 := Lib.hid ht1
  clear hr1 ht1 HR0
  go_wp2_with fail
  refine (take_any B _ a _ HR1.out).mono ?_
  rintro _ w2 ⟨rfl, hr2, ht2⟩
  have HR2 := Lib.hid hr2
  have HT2 := Lib.hid (HT1.out.trans ht2)
  clear hr2 ht2 HR1 HT1
  go_wp2_with fail
  refine (HTOLD.out _).mono ?_
  rintro _ w3 ⟨rfl, hb3⟩
  have HR3 := Lib.hid (HR2.out.below hb3)
  have HT3 := Lib.hid (HT2.out.trans (Tch.of_below hb3))
  clear hb3 HR2 HT2
  go_wp2_with fail
  refine (sum_any a b _ HA.out HB.out).mono ?_
  rintro _ w4 ⟨⟨n, rfl, hg⟩, hb4⟩
  have HG := Lib.hid hg
  have HR := Lib.hid (HR3.out.below hb4)
  have HT := Lib.hid (HT3.out.trans (Tch.of_below hb4))
  clear hg hb4 HR3 HT3
  by_cases hv : isVal (n) = true
  · have HV := Lib.hid (fun W => (show Calls Tryd.prog 56 #[.int .i64 (n)] W fun e w' => e = .returned (.bool true) ∧ W = w' by rw [← hv]; exact isValue_any (n) W))
    have HVV := Lib.hid hv
    clear hv
    go_wp2_with fail
    refine (HV.out _).mono ?_
    rintro _ wv ⟨rfl, rfl⟩
    go_wp2_with fail
    refine (put_any B r (n) _ HR.out HL.out).mono ?_
    rintro _ wp ⟨rfl, hrp, htp⟩
    have HRP := Lib.hid hrp
    have HTP := Lib.hid (HT.out.trans htp)
    clear hrp htp
    go_wp2_with fail
    go_ret
    exact ⟨done_yes HG.out HVV.out HRP.out, HTP.out⟩
  · have hf : isVal (n) = false := by simpa using hv
    have HV := Lib.hid (fun W => (show Calls Tryd.prog 56 #[.int .i64 (n)] W fun e w' => e = .returned (.bool false) ∧ W = w' by rw [← hf]; exact isValue_any (n) W))
    have HVV := Lib.hid hf
    clear hv hf
    go_wp2_with fail
    refine (HV.out _).mono ?_
    rintro _ wv ⟨rfl, rfl⟩
    go_wp2_with fail
    go_ret
    exact ⟨done_no HG.out HVV.out, HT.out⟩

set_option maxHeartbeats 800000 in
theorem do7_any (B : Nat) (a b : Int) (r : List Int) (w : World) (hr : RowAt w B (b :: a :: r)) (ha : isVal a = true) (hb : isVal b = true) :
    Calls Tryd.prog 42 #[.pointer (some ⟨B, 0, none⟩), .int .i64 7] w fun e w' => Done B r (made 7 a b 0) e w' ∧ Tch B w w' := by
  have HA := Lib.hid ha
  have HB := Lib.hid hb
  have hl := row_room hr
  rw [List.length_cons] at hl
  have HL := Lib.hid (show r.length < 31 by omega)
  have HR0 := Lib.hid hr
  have HTOLD := Lib.hid (fun W => (show Calls Tryd.prog 59 #[.agg #[.int .i64 a, .int .i64 b], .int .i64 7] W fun e w' => e = .returned (.func (.func 72) #[.agg #[.int .i64 a, .int .i64 b]] #[]) ∧ Below W.heap.size W w' from told_any a b 7 W (by omega)))
  clear hr ha hb hl
  go_enter Tryd.func42, Tryd.ntmps42
  go_wp2_with fail
  refine (take_any B _ b _ HR0.out).mono ?_
  rintro _ w1 ⟨rfl, hr1, ht1⟩
  have HR1 := Lib.hid hr1
  have HT1 := Lib.hid ht1
  clear hr1 ht1 HR0
  go_wp2_with fail
  refine (take_any B _ a _ HR1.out).mono ?_
  rintro _ w2 ⟨rfl, hr2, ht2⟩
  have HR2 := Lib.hid hr2
  have HT2 := Lib.hid (HT1.out.trans ht2)
  clear hr2 ht2 HR1 HT1
  go_wp2_with fail
  refine (HTOLD.out _).mono ?_
  rintro _ w3 ⟨rfl, hb3⟩
  have HR3 := Lib.hid (HR2.out.below hb3)
  have HT3 := Lib.hid (HT2.out.trans (Tch.of_below hb3))
  clear hb3 HR2 HT2
  go_wp2_with fail
  refine (difference_any a b _ HA.out HB.out).mono ?_
  rintro _ w4 ⟨⟨n, rfl, hg⟩, hb4⟩
  have HG := Lib.hid hg
  have HR := Lib.hid (HR3.out.below hb4)
  have HT := Lib.hid (HT3.out.trans (Tch.of_below hb4))
  clear hg hb4 HR3 HT3
  by_cases hv : isVal (n) = true
  · have HV := Lib.hid (fun W => (show Calls Tryd.prog 56 #[.int .i64 (n)] W fun e w' => e = .returned (.bool true) ∧ W = w' by rw [← hv]; exact isValue_any (n) W))
    have HVV := Lib.hid hv
    clear hv
    go_wp2_with fail
    refine (HV.out _).mono ?_
    rintro _ wv ⟨rfl, rfl⟩
    go_wp2_with fail
    refine (put_any B r (n) _ HR.out HL.out).mono ?_
    rintro _ wp ⟨rfl, hrp, htp⟩
    have HRP := Lib.hid hrp
    have HTP := Lib.hid (HT.out.trans htp)
    clear hrp htp
    go_wp2_with fail
    go_ret
    exact ⟨done_yes HG.out HVV.out HRP.out, HTP.out⟩
  · have hf : isVal (n) = false := by simpa using hv
    have HV := Lib.hid (fun W => (show Calls Tryd.prog 56 #[.int .i64 (n)] W fun e w' => e = .returned (.bool false) ∧ W = w' by rw [← hf]; exact isValue_any (n) W))
    have HVV := Lib.hid hf
    clear hv hf
    go_wp2_with fail
    refine (HV.out _).mono ?_
    rintro _ wv ⟨rfl, rfl⟩
    go_wp2_with fail
    go_ret
    exact ⟨done_no HG.out HVV.out, HT.out⟩

set_option maxHeartbeats 800000 in
theorem do8_any (B : Nat) (a b : Int) (r : List Int) (w : World) (hr : RowAt w B (b :: a :: r)) (ha : isVal a = true) (hb : isVal b = true) :
    Calls Tryd.prog 42 #[.pointer (some ⟨B, 0, none⟩), .int .i64 8] w fun e w' => Done B r (made 8 a b 0) e w' ∧ Tch B w w' := by
  have HA := Lib.hid ha
  have HB := Lib.hid hb
  have hl := row_room hr
  rw [List.length_cons] at hl
  have HL := Lib.hid (show r.length < 31 by omega)
  have HR0 := Lib.hid hr
  have HTOLD := Lib.hid (fun W => (show Calls Tryd.prog 59 #[.agg #[.int .i64 a, .int .i64 b], .int .i64 8] W fun e w' => e = .returned (.func (.func 73) #[.agg #[.int .i64 a, .int .i64 b]] #[]) ∧ Below W.heap.size W w' from told_any a b 8 W (by omega)))
  clear hr ha hb hl
  go_enter Tryd.func42, Tryd.ntmps42
  go_wp2_with fail
  refine (take_any B _ b _ HR0.out).mono ?_
  rintro _ w1 ⟨rfl, hr1, ht1⟩
  have HR1 := Lib.hid hr1
  have HT1 := Lib.hid ht1
  clear hr1 ht1 HR0
  go_wp2_with fail
  refine (take_any B _ a _ HR1.out).mono ?_
  rintro _ w2 ⟨rfl, hr2, ht2⟩
  have HR2 := Lib.hid hr2
  have HT2 := Lib.hid (HT1.out.trans ht2)
  clear hr2 ht2 HR1 HT1
  go_wp2_with fail
  refine (HTOLD.out _).mono ?_
  rintro _ w3 ⟨rfl, hb3⟩
  have HR3 := Lib.hid (HR2.out.below hb3)
  have HT3 := Lib.hid (HT2.out.trans (Tch.of_below hb3))
  clear hb3 HR2 HT2
  go_wp2_with fail
  refine (product_any a b _ HA.out HB.out).mono ?_
  rintro _ w4 ⟨⟨n, rfl, hg⟩, hb4⟩
  have HG := Lib.hid hg
  have HR := Lib.hid (HR3.out.below hb4)
  have HT := Lib.hid (HT3.out.trans (Tch.of_below hb4))
  clear hg hb4 HR3 HT3
  by_cases hv : isVal (n) = true
  · have HV := Lib.hid (fun W => (show Calls Tryd.prog 56 #[.int .i64 (n)] W fun e w' => e = .returned (.bool true) ∧ W = w' by rw [← hv]; exact isValue_any (n) W))
    have HVV := Lib.hid hv
    clear hv
    go_wp2_with fail
    refine (HV.out _).mono ?_
    rintro _ wv ⟨rfl, rfl⟩
    go_wp2_with fail
    refine (put_any B r (n) _ HR.out HL.out).mono ?_
    rintro _ wp ⟨rfl, hrp, htp⟩
    have HRP := Lib.hid hrp
    have HTP := Lib.hid (HT.out.trans htp)
    clear hrp htp
    go_wp2_with fail
    go_ret
    exact ⟨done_yes HG.out HVV.out HRP.out, HTP.out⟩
  · have hf : isVal (n) = false := by simpa using hv
    have HV := Lib.hid (fun W => (show Calls Tryd.prog 56 #[.int .i64 (n)] W fun e w' => e = .returned (.bool false) ∧ W = w' by rw [← hf]; exact isValue_any (n) W))
    have HVV := Lib.hid hf
    clear hv hf
    go_wp2_with fail
    refine (HV.out _).mono ?_
    rintro _ wv ⟨rfl, rfl⟩
    go_wp2_with fail
    go_ret
    exact ⟨done_no HG.out HVV.out, HT.out⟩

set_option maxHeartbeats 800000 in
theorem do9_any (B : Nat) (a b : Int) (r : List Int) (w : World) (hr : RowAt w B (b :: a :: r)) (ha : isVal a = true) (hb : isVal b = true) :
    Calls Tryd.prog 42 #[.pointer (some ⟨B, 0, none⟩), .int .i64 9] w fun e w' => Done B r (made 9 a b 0) e w' ∧ Tch B w w' := by
  have HA := Lib.hid ha
  have HB := Lib.hid hb
  have hl := row_room hr
  rw [List.length_cons] at hl
  have HL := Lib.hid (show r.length < 31 by omega)
  have HR0 := Lib.hid hr
  have HTOLD := Lib.hid (fun W => (show Calls Tryd.prog 59 #[.agg #[.int .i64 a, .int .i64 b], .int .i64 9] W fun e w' => e = .returned (.func (.func 74) #[.agg #[.int .i64 a, .int .i64 b]] #[]) ∧ Below W.heap.size W w' from told_any a b 9 W (by omega)))
  clear hr ha hb hl
  go_enter Tryd.func42, Tryd.ntmps42
  go_wp2_with fail
  refine (take_any B _ b _ HR0.out).mono ?_
  rintro _ w1 ⟨rfl, hr1, ht1⟩
  have HR1 := Lib.hid hr1
  have HT1 := Lib.hid ht1
  clear hr1 ht1 HR0
  go_wp2_with fail
  refine (take_any B _ a _ HR1.out).mono ?_
  rintro _ w2 ⟨rfl, hr2, ht2⟩
  have HR2 := Lib.hid hr2
  have HT2 := Lib.hid (HT1.out.trans ht2)
  clear hr2 ht2 HR1 HT1
  go_wp2_with fail
  refine (HTOLD.out _).mono ?_
  rintro _ w3 ⟨rfl, hb3⟩
  have HR3 := Lib.hid (HR2.out.below hb3)
  have HT3 := Lib.hid (HT2.out.trans (Tch.of_below hb3))
  clear hb3 HR2 HT2
  go_wp2_with fail
  refine (least_any a b _ HA.out HB.out).mono ?_
  rintro _ w4 ⟨⟨n, rfl, hg⟩, hb4⟩
  have HG := Lib.hid hg
  have HR := Lib.hid (HR3.out.below hb4)
  have HT := Lib.hid (HT3.out.trans (Tch.of_below hb4))
  clear hg hb4 HR3 HT3
  by_cases hv : isVal (n) = true
  · have HV := Lib.hid (fun W => (show Calls Tryd.prog 56 #[.int .i64 (n)] W fun e w' => e = .returned (.bool true) ∧ W = w' by rw [← hv]; exact isValue_any (n) W))
    have HVV := Lib.hid hv
    clear hv
    go_wp2_with fail
    refine (HV.out _).mono ?_
    rintro _ wv ⟨rfl, rfl⟩
    go_wp2_with fail
    refine (put_any B r (n) _ HR.out HL.out).mono ?_
    rintro _ wp ⟨rfl, hrp, htp⟩
    have HRP := Lib.hid hrp
    have HTP := Lib.hid (HT.out.trans htp)
    clear hrp htp
    go_wp2_with fail
    go_ret
    exact ⟨done_yes HG.out HVV.out HRP.out, HTP.out⟩
  · have hf : isVal (n) = false := by simpa using hv
    have HV := Lib.hid (fun W => (show Calls Tryd.prog 56 #[.int .i64 (n)] W fun e w' => e = .returned (.bool false) ∧ W = w' by rw [← hf]; exact isValue_any (n) W))
    have HVV := Lib.hid hf
    clear hv hf
    go_wp2_with fail
    refine (HV.out _).mono ?_
    rintro _ wv ⟨rfl, rfl⟩
    go_wp2_with fail
    go_ret
    exact ⟨done_no HG.out HVV.out, HT.out⟩

set_option maxHeartbeats 800000 in
theorem do10_any (B : Nat) (a b : Int) (r : List Int) (w : World) (hr : RowAt w B (b :: a :: r)) (ha : isVal a = true) (hb : isVal b = true) :
    Calls Tryd.prog 42 #[.pointer (some ⟨B, 0, none⟩), .int .i64 10] w fun e w' => Done B r (made 10 a b 0) e w' ∧ Tch B w w' := by
  have HA := Lib.hid ha
  have HB := Lib.hid hb
  have hl := row_room hr
  rw [List.length_cons] at hl
  have HL := Lib.hid (show r.length < 31 by omega)
  have HR0 := Lib.hid hr
  have HTOLD := Lib.hid (fun W => (show Calls Tryd.prog 59 #[.agg #[.int .i64 a, .int .i64 b], .int .i64 10] W fun e w' => e = .returned (.func (.func 75) #[.agg #[.int .i64 a, .int .i64 b]] #[]) ∧ Below W.heap.size W w' from told_any a b 10 W (by omega)))
  clear hr ha hb hl
  go_enter Tryd.func42, Tryd.ntmps42
  go_wp2_with fail
  refine (take_any B _ b _ HR0.out).mono ?_
  rintro _ w1 ⟨rfl, hr1, ht1⟩
  have HR1 := Lib.hid hr1
  have HT1 := Lib.hid ht1
  clear hr1 ht1 HR0
  go_wp2_with fail
  refine (take_any B _ a _ HR1.out).mono ?_
  rintro _ w2 ⟨rfl, hr2, ht2⟩
  have HR2 := Lib.hid hr2
  have HT2 := Lib.hid (HT1.out.trans ht2)
  clear hr2 ht2 HR1 HT1
  go_wp2_with fail
  refine (HTOLD.out _).mono ?_
  rintro _ w3 ⟨rfl, hb3⟩
  have HR3 := Lib.hid (HR2.out.below hb3)
  have HT3 := Lib.hid (HT2.out.trans (Tch.of_below hb3))
  clear hb3 HR2 HT2
  go_wp2_with fail
  refine (greatest_any a b _ HA.out HB.out).mono ?_
  rintro _ w4 ⟨⟨n, rfl, hg⟩, hb4⟩
  have HG := Lib.hid hg
  have HR := Lib.hid (HR3.out.below hb4)
  have HT := Lib.hid (HT3.out.trans (Tch.of_below hb4))
  clear hg hb4 HR3 HT3
  by_cases hv : isVal (n) = true
  · have HV := Lib.hid (fun W => (show Calls Tryd.prog 56 #[.int .i64 (n)] W fun e w' => e = .returned (.bool true) ∧ W = w' by rw [← hv]; exact isValue_any (n) W))
    have HVV := Lib.hid hv
    clear hv
    go_wp2_with fail
    refine (HV.out _).mono ?_
    rintro _ wv ⟨rfl, rfl⟩
    go_wp2_with fail
    refine (put_any B r (n) _ HR.out HL.out).mono ?_
    rintro _ wp ⟨rfl, hrp, htp⟩
    have HRP := Lib.hid hrp
    have HTP := Lib.hid (HT.out.trans htp)
    clear hrp htp
    go_wp2_with fail
    go_ret
    exact ⟨done_yes HG.out HVV.out HRP.out, HTP.out⟩
  · have hf : isVal (n) = false := by simpa using hv
    have HV := Lib.hid (fun W => (show Calls Tryd.prog 56 #[.int .i64 (n)] W fun e w' => e = .returned (.bool false) ∧ W = w' by rw [← hf]; exact isValue_any (n) W))
    have HVV := Lib.hid hf
    clear hv hf
    go_wp2_with fail
    refine (HV.out _).mono ?_
    rintro _ wv ⟨rfl, rfl⟩
    go_wp2_with fail
    go_ret
    exact ⟨done_no HG.out HVV.out, HT.out⟩

set_option maxHeartbeats 800000 in
theorem do11_any (B : Nat) (a b : Int) (r : List Int) (w : World) (hr : RowAt w B (b :: a :: r)) (ha : isVal a = true) (hb : isVal b = true) :
    Calls Tryd.prog 42 #[.pointer (some ⟨B, 0, none⟩), .int .i64 11] w fun e w' => Done B r (made 11 a b 0) e w' ∧ Tch B w w' := by
  have HA := Lib.hid ha
  have HB := Lib.hid hb
  have hl := row_room hr
  rw [List.length_cons] at hl
  have HL := Lib.hid (show r.length < 31 by omega)
  have HR0 := Lib.hid hr
  have HTOLD := Lib.hid (fun W => (show Calls Tryd.prog 59 #[.agg #[.int .i64 a, .int .i64 b], .int .i64 11] W fun e w' => e = .returned (.func (.func 76) #[.agg #[.int .i64 a, .int .i64 b]] #[]) ∧ Below W.heap.size W w' from told_any a b 11 W (by omega)))
  clear hr ha hb hl
  go_enter Tryd.func42, Tryd.ntmps42
  go_wp2_with fail
  refine (take_any B _ b _ HR0.out).mono ?_
  rintro _ w1 ⟨rfl, hr1, ht1⟩
  have HR1 := Lib.hid hr1
  have HT1 := Lib.hid ht1
  clear hr1 ht1 HR0
  go_wp2_with fail
  refine (take_any B _ a _ HR1.out).mono ?_
  rintro _ w2 ⟨rfl, hr2, ht2⟩
  have HR2 := Lib.hid hr2
  have HT2 := Lib.hid (HT1.out.trans ht2)
  clear hr2 ht2 HR1 HT1
  go_wp2_with fail
  refine (HTOLD.out _).mono ?_
  rintro _ w3 ⟨rfl, hb3⟩
  have HR3 := Lib.hid (HR2.out.below hb3)
  have HT3 := Lib.hid (HT2.out.trans (Tch.of_below hb3))
  clear hb3 HR2 HT2
  go_wp2_with fail
  refine (less_any a b _ HA.out HB.out).mono ?_
  rintro _ w4 ⟨⟨n, rfl, hg⟩, hb4⟩
  have HG := Lib.hid hg
  have HR := Lib.hid (HR3.out.below hb4)
  have HT := Lib.hid (HT3.out.trans (Tch.of_below hb4))
  clear hg hb4 HR3 HT3
  by_cases hv : isVal (n) = true
  · have HV := Lib.hid (fun W => (show Calls Tryd.prog 56 #[.int .i64 (n)] W fun e w' => e = .returned (.bool true) ∧ W = w' by rw [← hv]; exact isValue_any (n) W))
    have HVV := Lib.hid hv
    clear hv
    go_wp2_with fail
    refine (HV.out _).mono ?_
    rintro _ wv ⟨rfl, rfl⟩
    go_wp2_with fail
    refine (put_any B r (n) _ HR.out HL.out).mono ?_
    rintro _ wp ⟨rfl, hrp, htp⟩
    have HRP := Lib.hid hrp
    have HTP := Lib.hid (HT.out.trans htp)
    clear hrp htp
    go_wp2_with fail
    go_ret
    exact ⟨done_yes HG.out HVV.out HRP.out, HTP.out⟩
  · have hf : isVal (n) = false := by simpa using hv
    have HV := Lib.hid (fun W => (show Calls Tryd.prog 56 #[.int .i64 (n)] W fun e w' => e = .returned (.bool false) ∧ W = w' by rw [← hf]; exact isValue_any (n) W))
    have HVV := Lib.hid hf
    clear hv hf
    go_wp2_with fail
    refine (HV.out _).mono ?_
    rintro _ wv ⟨rfl, rfl⟩
    go_wp2_with fail
    go_ret
    exact ⟨done_no HG.out HVV.out, HT.out⟩

set_option maxHeartbeats 800000 in
theorem do12_any (B : Nat) (a b : Int) (r : List Int) (w : World) (hr : RowAt w B (b :: a :: r)) (ha : isVal a = true) (hb : isVal b = true) :
    Calls Tryd.prog 42 #[.pointer (some ⟨B, 0, none⟩), .int .i64 12] w fun e w' => Done B r (made 12 a b 0) e w' ∧ Tch B w w' := by
  have HA := Lib.hid ha
  have HB := Lib.hid hb
  have hl := row_room hr
  rw [List.length_cons] at hl
  have HL := Lib.hid (show r.length < 31 by omega)
  have HR0 := Lib.hid hr
  have HTOLD := Lib.hid (fun W => (show Calls Tryd.prog 59 #[.agg #[.int .i64 a, .int .i64 b], .int .i64 12] W fun e w' => e = .returned (.func (.func 77) #[.agg #[.int .i64 a, .int .i64 b]] #[]) ∧ Below W.heap.size W w' from told_any a b 12 W (by omega)))
  clear hr ha hb hl
  go_enter Tryd.func42, Tryd.ntmps42
  go_wp2_with fail
  refine (take_any B _ b _ HR0.out).mono ?_
  rintro _ w1 ⟨rfl, hr1, ht1⟩
  have HR1 := Lib.hid hr1
  have HT1 := Lib.hid ht1
  clear hr1 ht1 HR0
  go_wp2_with fail
  refine (take_any B _ a _ HR1.out).mono ?_
  rintro _ w2 ⟨rfl, hr2, ht2⟩
  have HR2 := Lib.hid hr2
  have HT2 := Lib.hid (HT1.out.trans ht2)
  clear hr2 ht2 HR1 HT1
  go_wp2_with fail
  refine (HTOLD.out _).mono ?_
  rintro _ w3 ⟨rfl, hb3⟩
  have HR3 := Lib.hid (HR2.out.below hb3)
  have HT3 := Lib.hid (HT2.out.trans (Tch.of_below hb3))
  clear hb3 HR2 HT2
  go_wp2_with fail
  refine (most_any a b _ HA.out HB.out).mono ?_
  rintro _ w4 ⟨⟨n, rfl, hg⟩, hb4⟩
  have HG := Lib.hid hg
  have HR := Lib.hid (HR3.out.below hb4)
  have HT := Lib.hid (HT3.out.trans (Tch.of_below hb4))
  clear hg hb4 HR3 HT3
  by_cases hv : isVal (n) = true
  · have HV := Lib.hid (fun W => (show Calls Tryd.prog 56 #[.int .i64 (n)] W fun e w' => e = .returned (.bool true) ∧ W = w' by rw [← hv]; exact isValue_any (n) W))
    have HVV := Lib.hid hv
    clear hv
    go_wp2_with fail
    refine (HV.out _).mono ?_
    rintro _ wv ⟨rfl, rfl⟩
    go_wp2_with fail
    refine (put_any B r (n) _ HR.out HL.out).mono ?_
    rintro _ wp ⟨rfl, hrp, htp⟩
    have HRP := Lib.hid hrp
    have HTP := Lib.hid (HT.out.trans htp)
    clear hrp htp
    go_wp2_with fail
    go_ret
    exact ⟨done_yes HG.out HVV.out HRP.out, HTP.out⟩
  · have hf : isVal (n) = false := by simpa using hv
    have HV := Lib.hid (fun W => (show Calls Tryd.prog 56 #[.int .i64 (n)] W fun e w' => e = .returned (.bool false) ∧ W = w' by rw [← hf]; exact isValue_any (n) W))
    have HVV := Lib.hid hf
    clear hv hf
    go_wp2_with fail
    refine (HV.out _).mono ?_
    rintro _ wv ⟨rfl, rfl⟩
    go_wp2_with fail
    go_ret
    exact ⟨done_no HG.out HVV.out, HT.out⟩

set_option maxHeartbeats 800000 in
theorem do13_any (B : Nat) (a b : Int) (r : List Int) (w : World) (hr : RowAt w B (b :: a :: r)) (ha : isVal a = true) (hb : isVal b = true) :
    Calls Tryd.prog 42 #[.pointer (some ⟨B, 0, none⟩), .int .i64 13] w fun e w' => Done B r (made 13 a b 0) e w' ∧ Tch B w w' := by
  have HA := Lib.hid ha
  have HB := Lib.hid hb
  have hl := row_room hr
  rw [List.length_cons] at hl
  have HL := Lib.hid (show r.length < 31 by omega)
  have HR0 := Lib.hid hr
  have HTOLD := Lib.hid (fun W => (show Calls Tryd.prog 59 #[.agg #[.int .i64 a, .int .i64 b], .int .i64 13] W fun e w' => e = .returned (.func (.func 78) #[.agg #[.int .i64 a, .int .i64 b]] #[]) ∧ Below W.heap.size W w' from told_any a b 13 W (by omega)))
  clear hr ha hb hl
  go_enter Tryd.func42, Tryd.ntmps42
  go_wp2_with fail
  refine (take_any B _ b _ HR0.out).mono ?_
  rintro _ w1 ⟨rfl, hr1, ht1⟩
  have HR1 := Lib.hid hr1
  have HT1 := Lib.hid ht1
  clear hr1 ht1 HR0
  go_wp2_with fail
  refine (take_any B _ a _ HR1.out).mono ?_
  rintro _ w2 ⟨rfl, hr2, ht2⟩
  have HR2 := Lib.hid hr2
  have HT2 := Lib.hid (HT1.out.trans ht2)
  clear hr2 ht2 HR1 HT1
  go_wp2_with fail
  refine (HTOLD.out _).mono ?_
  rintro _ w3 ⟨rfl, hb3⟩
  have HR3 := Lib.hid (HR2.out.below hb3)
  have HT3 := Lib.hid (HT2.out.trans (Tch.of_below hb3))
  clear hb3 HR2 HT2
  go_wp2_with fail
  refine (same_any a b _ HA.out HB.out).mono ?_
  rintro _ w4 ⟨⟨n, rfl, hg⟩, hb4⟩
  have HG := Lib.hid hg
  have HR := Lib.hid (HR3.out.below hb4)
  have HT := Lib.hid (HT3.out.trans (Tch.of_below hb4))
  clear hg hb4 HR3 HT3
  by_cases hv : isVal (n) = true
  · have HV := Lib.hid (fun W => (show Calls Tryd.prog 56 #[.int .i64 (n)] W fun e w' => e = .returned (.bool true) ∧ W = w' by rw [← hv]; exact isValue_any (n) W))
    have HVV := Lib.hid hv
    clear hv
    go_wp2_with fail
    refine (HV.out _).mono ?_
    rintro _ wv ⟨rfl, rfl⟩
    go_wp2_with fail
    refine (put_any B r (n) _ HR.out HL.out).mono ?_
    rintro _ wp ⟨rfl, hrp, htp⟩
    have HRP := Lib.hid hrp
    have HTP := Lib.hid (HT.out.trans htp)
    clear hrp htp
    go_wp2_with fail
    go_ret
    exact ⟨done_yes HG.out HVV.out HRP.out, HTP.out⟩
  · have hf : isVal (n) = false := by simpa using hv
    have HV := Lib.hid (fun W => (show Calls Tryd.prog 56 #[.int .i64 (n)] W fun e w' => e = .returned (.bool false) ∧ W = w' by rw [← hf]; exact isValue_any (n) W))
    have HVV := Lib.hid hf
    clear hv hf
    go_wp2_with fail
    refine (HV.out _).mono ?_
    rintro _ wv ⟨rfl, rfl⟩
    go_wp2_with fail
    go_ret
    exact ⟨done_no HG.out HVV.out, HT.out⟩

set_option maxHeartbeats 800000 in
theorem do14_any (B : Nat) (a b : Int) (r : List Int) (w : World) (hr : RowAt w B (b :: a :: r)) (ha : isVal a = true) (hb : isVal b = true) :
    Calls Tryd.prog 42 #[.pointer (some ⟨B, 0, none⟩), .int .i64 14] w fun e w' => Done B r (made 14 a b 0) e w' ∧ Tch B w w' := by
  have HA := Lib.hid ha
  have HB := Lib.hid hb
  have hl := row_room hr
  rw [List.length_cons] at hl
  have HL := Lib.hid (show r.length < 31 by omega)
  have HR0 := Lib.hid hr
  have HTOLD := Lib.hid (fun W => (show Calls Tryd.prog 59 #[.agg #[.int .i64 a, .int .i64 b], .int .i64 14] W fun e w' => e = .returned (.func (.func 79) #[.agg #[.int .i64 a, .int .i64 b]] #[]) ∧ Below W.heap.size W w' from told_any a b 14 W (by omega)))
  clear hr ha hb hl
  go_enter Tryd.func42, Tryd.ntmps42
  go_wp2_with fail
  refine (take_any B _ b _ HR0.out).mono ?_
  rintro _ w1 ⟨rfl, hr1, ht1⟩
  have HR1 := Lib.hid hr1
  have HT1 := Lib.hid ht1
  clear hr1 ht1 HR0
  go_wp2_with fail
  refine (take_any B _ a _ HR1.out).mono ?_
  rintro _ w2 ⟨rfl, hr2, ht2⟩
  have HR2 := Lib.hid hr2
  have HT2 := Lib.hid (HT1.out.trans ht2)
  clear hr2 ht2 HR1 HT1
  go_wp2_with fail
  refine (HTOLD.out _).mono ?_
  rintro _ w3 ⟨rfl, hb3⟩
  have HR3 := Lib.hid (HR2.out.below hb3)
  have HT3 := Lib.hid (HT2.out.trans (Tch.of_below hb3))
  clear hb3 HR2 HT2
  go_wp2_with fail
  refine (both_any a b _ HA.out HB.out).mono ?_
  rintro _ w4 ⟨⟨n, rfl, hg⟩, hb4⟩
  have HG := Lib.hid hg
  have HR := Lib.hid (HR3.out.below hb4)
  have HT := Lib.hid (HT3.out.trans (Tch.of_below hb4))
  clear hg hb4 HR3 HT3
  by_cases hv : isVal (n) = true
  · have HV := Lib.hid (fun W => (show Calls Tryd.prog 56 #[.int .i64 (n)] W fun e w' => e = .returned (.bool true) ∧ W = w' by rw [← hv]; exact isValue_any (n) W))
    have HVV := Lib.hid hv
    clear hv
    go_wp2_with fail
    refine (HV.out _).mono ?_
    rintro _ wv ⟨rfl, rfl⟩
    go_wp2_with fail
    refine (put_any B r (n) _ HR.out HL.out).mono ?_
    rintro _ wp ⟨rfl, hrp, htp⟩
    have HRP := Lib.hid hrp
    have HTP := Lib.hid (HT.out.trans htp)
    clear hrp htp
    go_wp2_with fail
    go_ret
    exact ⟨done_yes HG.out HVV.out HRP.out, HTP.out⟩
  · have hf : isVal (n) = false := by simpa using hv
    have HV := Lib.hid (fun W => (show Calls Tryd.prog 56 #[.int .i64 (n)] W fun e w' => e = .returned (.bool false) ∧ W = w' by rw [← hf]; exact isValue_any (n) W))
    have HVV := Lib.hid hf
    clear hv hf
    go_wp2_with fail
    refine (HV.out _).mono ?_
    rintro _ wv ⟨rfl, rfl⟩
    go_wp2_with fail
    go_ret
    exact ⟨done_no HG.out HVV.out, HT.out⟩

set_option maxHeartbeats 800000 in
theorem do15_any (B : Nat) (a b : Int) (r : List Int) (w : World) (hr : RowAt w B (b :: a :: r)) (ha : isVal a = true) (hb : isVal b = true) :
    Calls Tryd.prog 42 #[.pointer (some ⟨B, 0, none⟩), .int .i64 15] w fun e w' => Done B r (made 15 a b 0) e w' ∧ Tch B w w' := by
  have HA := Lib.hid ha
  have HB := Lib.hid hb
  have hl := row_room hr
  rw [List.length_cons] at hl
  have HL := Lib.hid (show r.length < 31 by omega)
  have HR0 := Lib.hid hr
  have HTOLD := Lib.hid (fun W => (show Calls Tryd.prog 59 #[.agg #[.int .i64 a, .int .i64 b], .int .i64 15] W fun e w' => e = .returned (.func (.func 80) #[.agg #[.int .i64 a, .int .i64 b]] #[]) ∧ Below W.heap.size W w' from told_any a b 15 W (by omega)))
  clear hr ha hb hl
  go_enter Tryd.func42, Tryd.ntmps42
  go_wp2_with fail
  refine (take_any B _ b _ HR0.out).mono ?_
  rintro _ w1 ⟨rfl, hr1, ht1⟩
  have HR1 := Lib.hid hr1
  have HT1 := Lib.hid ht1
  clear hr1 ht1 HR0
  go_wp2_with fail
  refine (take_any B _ a _ HR1.out).mono ?_
  rintro _ w2 ⟨rfl, hr2, ht2⟩
  have HR2 := Lib.hid hr2
  have HT2 := Lib.hid (HT1.out.trans ht2)
  clear hr2 ht2 HR1 HT1
  go_wp2_with fail
  refine (HTOLD.out _).mono ?_
  rintro _ w3 ⟨rfl, hb3⟩
  have HR3 := Lib.hid (HR2.out.below hb3)
  have HT3 := Lib.hid (HT2.out.trans (Tch.of_below hb3))
  clear hb3 HR2 HT2
  go_wp2_with fail
  refine (either_any a b _ HA.out HB.out).mono ?_
  rintro _ w4 ⟨⟨n, rfl, hg⟩, hb4⟩
  have HG := Lib.hid hg
  have HR := Lib.hid (HR3.out.below hb4)
  have HT := Lib.hid (HT3.out.trans (Tch.of_below hb4))
  clear hg hb4 HR3 HT3
  by_cases hv : isVal (n) = true
  · have HV := Lib.hid (fun W => (show Calls Tryd.prog 56 #[.int .i64 (n)] W fun e w' => e = .returned (.bool true) ∧ W = w' by rw [← hv]; exact isValue_any (n) W))
    have HVV := Lib.hid hv
    clear hv
    go_wp2_with fail
    refine (HV.out _).mono ?_
    rintro _ wv ⟨rfl, rfl⟩
    go_wp2_with fail
    refine (put_any B r (n) _ HR.out HL.out).mono ?_
    rintro _ wp ⟨rfl, hrp, htp⟩
    have HRP := Lib.hid hrp
    have HTP := Lib.hid (HT.out.trans htp)
    clear hrp htp
    go_wp2_with fail
    go_ret
    exact ⟨done_yes HG.out HVV.out HRP.out, HTP.out⟩
  · have hf : isVal (n) = false := by simpa using hv
    have HV := Lib.hid (fun W => (show Calls Tryd.prog 56 #[.int .i64 (n)] W fun e w' => e = .returned (.bool false) ∧ W = w' by rw [← hf]; exact isValue_any (n) W))
    have HVV := Lib.hid hf
    clear hv hf
    go_wp2_with fail
    refine (HV.out _).mono ?_
    rintro _ wv ⟨rfl, rfl⟩
    go_wp2_with fail
    go_ret
    exact ⟨done_no HG.out HVV.out, HT.out⟩

theorem do1_any (B : Nat) (o a : Int) (r : List Int) (w : World) (hr : RowAt w B (a :: r)) (ht : takes o = 1) (ha : isVal a = true) :
    Calls Tryd.prog 42 #[.pointer (some ⟨B, 0, none⟩), .int .i64 o] w fun e w' => Done B r (made o a 0 0) e w' ∧ Tch B w w' := by
  rcases (takes_cases o).1 ht with rfl | rfl
  · exact do4_any B a r w hr ha
  · exact do5_any B a r w hr

theorem do2_any (B : Nat) (o a b : Int) (r : List Int) (w : World) (hr : RowAt w B (b :: a :: r)) (ht : takes o = 2) (ha : isVal a = true) (hb : isVal b = true) :
    Calls Tryd.prog 42 #[.pointer (some ⟨B, 0, none⟩), .int .i64 o] w fun e w' => Done B r (made o a b 0) e w' ∧ Tch B w w' := by
  rcases (takes_cases o).2.1 ht with rfl | rfl | rfl | rfl | rfl | rfl | rfl | rfl | rfl | rfl
  · exact do6_any B a b r w hr ha hb
  · exact do7_any B a b r w hr ha hb
  · exact do8_any B a b r w hr ha hb
  · exact do9_any B a b r w hr ha hb
  · exact do10_any B a b r w hr ha hb
  · exact do11_any B a b r w hr ha hb
  · exact do12_any B a b r w hr ha hb
  · exact do13_any B a b r w hr ha hb
  · exact do14_any B a b r w hr ha hb
  · exact do15_any B a b r w hr ha hb

theorem do3_any (B : Nat) (o a b c : Int) (r : List Int) (w : World) (hr : RowAt w B (c :: b :: a :: r)) (ht : takes o = 3) (ha : isVal a = true) (hb : isVal b = true) (hc : isVal c = true) :
    Calls Tryd.prog 42 #[.pointer (some ⟨B, 0, none⟩), .int .i64 o] w fun e w' => Done B r (made o a b c) e w' ∧ Tch B w w' := by
  obtain rfl := (takes_cases o).2.2 ht
  exact do16_any B a b c r w hr ha hb hc

end Go.Proofs.YtgkniocjlkfhmaaDoor.E
