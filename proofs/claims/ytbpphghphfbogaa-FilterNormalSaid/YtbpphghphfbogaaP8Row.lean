/-
  Layer 8: names and patterns, as the program tells them.
-/
import Derived.Test.YtbpphghphfbogaaP8Lib
import Derived.WalkMore
import Derived.Shelf.Abstract
import Derived.Deep.LoopGhost
namespace Go.Proofs.Ytbpphghphfbogaa.P8
open Go Go.RowKit Go.Shelf Go.Proofs Go.Proofs.Ytbpphghphfbogaa.B Go.Proofs.Ytbpphghphfbogaa.K
set_option linter.unusedVariables false

/-- How many bytes a text begins with that parts have. -/
def pre (l : List UInt8) : Nat := (l.takeWhile okB).length

theorem pre_le (l : List UInt8) : pre l ≤ l.length := by
  unfold pre
  induction l with
  | nil => simp
  | cons b l ih => rw [List.takeWhile_cons]; split <;> simp <;> omega

theorem pre_step {l : List UInt8} {k : Nat} {b : UInt8} (h : l[k]? = some b) : pre (l.drop k) = if okB b = true then 1 + pre (l.drop (k + 1)) else 0 := by
  obtain ⟨hk, rfl⟩ := List.getElem?_eq_some_iff.1 h
  rw [List.drop_eq_getElem_cons hk]
  unfold pre
  rw [List.takeWhile_cons]
  split
  · simp; omega
  · rfl

theorem plain_pre (l : List UInt8) : plainP l = (!l.isEmpty && decide (pre l = l.length)) := by
  unfold plainP
  congr 1
  unfold pre
  induction l with
  | nil => rfl
  | cons b l ih =>
    rw [List.takeWhile_cons, List.all_cons, ih]
    cases okB b <;> simp

theorem str_get8 {l : List UInt8} {k : Nat} {b : UInt8} (h : l[k]? = some b) (hk : k < (str l).size) : ((str l)[k]'hk) = b := by
  obtain ⟨hk', rfl⟩ := List.getElem?_eq_some_iff.1 h
  show (str l).data[k]'_ = _
  simp only [str, List.getElem_toArray]

theorem okN_iff (y : Nat) : okN y = true ↔ (97 ≤ y ∧ y ≤ 122) ∨ (48 ≤ y ∧ y ≤ 57) ∨ y = 45 ∨ y = 95 := by
  simp [okN]

theorem pre_on {l : List UInt8} {K y : Nat} (HP : pre l = K + pre (l.drop K)) (HS : pre (l.drop K) = if okN y = true then 1 + pre (l.drop (K + 1)) else 0)
    (h : (97 ≤ y ∧ y ≤ 122) ∨ (48 ≤ y ∧ y ≤ 57) ∨ y = 45 ∨ y = 95) : pre l = (K + 1) + pre (l.drop (K + 1)) := by
  rw [if_pos ((okN_iff y).2 h)] at HS; omega

theorem pre_off {l : List UInt8} {K y : Nat} (HP : pre l = K + pre (l.drop K)) (HS : pre (l.drop K) = if okN y = true then 1 + pre (l.drop (K + 1)) else 0)
    (h : ¬ ((97 ≤ y ∧ y ≤ 122) ∨ (48 ≤ y ∧ y ≤ 57) ∨ y = 45 ∨ y = 95)) : pre l = K := by
  rw [if_neg (fun h' => h ((okN_iff y).1 h'))] at HS; omega

theorem pre_end {l : List UInt8} {K : Nat} (HP : pre l = K + pre (l.drop K)) (h : l.length ≤ K) : pre l = K := by
  rw [List.drop_of_length_le h] at HP; exact HP

set_option maxHeartbeats 2000000 in
set_option maxRecDepth 100000 in
theorem plainBytes_any (l : List UInt8) (hl : l.length ≤ 1000) (w : World) :
    Calls Try.prog 63 #[.string (str l)] w fun e w' => e = .returned (.int .i64 (pre l)) ∧ w = w' := by
  have hsz : (str l).size = l.length := str_size l
  go_enter Try.func63, Try.ntmps63
  go_wp2_with fail
  go_step3
  go_wp2_with fail
  go_step3
  go_wp2_with fail
  go_loopw [3, 4] (fun n _ wr => ∃ K : Nat, n = .int .i64 (K : Int) ∧ K ≤ l.length ∧ Hid (pre l = K + pre (l.drop K)) ∧ wr = w) (fun n _ _ => l.length - (intOf n).toNat)
  case atStart => exact ⟨0, rfl, Nat.zero_le _, by show _ = _; rw [List.drop_zero]; omega, rfl⟩
  case round =>
    obtain ⟨K, rfl, hK, HP, rfl⟩ := hrel
    by_cases hlt : K < l.length
    · have hltI : (K : Int) < ((str l).size : Int) := by omega
      have hk' : K < (str l).size := by omega
      obtain ⟨b, hb⟩ : ∃ b, l[K]? = some b := ⟨_, List.getElem?_eq_getElem hlt⟩
      have hs := pre_step hb
      have hg : ((str l)[K]'hk') = b := str_get8 hb hk'
      unfold okB at hs
      obtain ⟨y, hy⟩ : ∃ y, b.toNat = y := ⟨_, rfl⟩
      rw [hy] at hs
      have HS := Lib.hid hs; clear hs
      have hw1 : IntKind.i64.wrap ((K : Int) + 1) = (K : Int) + 1 := IntWalk.i64_in _ (by omega)
      go_wp2_with fail
      all_goals (try simp only [beq_iff_eq, beq_eq_false_iff_ne, ne_eq] at *)
      all_goals first
        | (refine ⟨⟨K + 1, by go_num, by omega, pre_on HP.out HS.out (by omega), by first | trivial | rfl⟩, by simp [intOf]; omega⟩)
        | (have ho := pre_off HP.out HS.out (by omega)
           try rw [Exit.noGoto_ret]
           go_ret
           rw [ho]
           exact ⟨rfl, rfl⟩)
    · have hltI : ¬ (K : Int) < ((str l).size : Int) := by omega
      go_wp2_with fail
      try rw [Exit.noGoto_ret]
      go_ret
      rw [pre_end HP.out (by omega)]
      exact ⟨rfl, rfl⟩

set_option maxHeartbeats 1000000 in
set_option maxRecDepth 100000 in
theorem isPlain_any (l : List UInt8) (hl : l.length ≤ 1000) (w : World) :
    Calls Try.prog 41 #[.string (str l)] w fun e w' => e = .returned (.bool (plainP l)) ∧ w = w' := by
  have hsz : (str l).size = l.length := str_size l
  have hpl := plain_pre l
  have HC := fun W => plainBytes_any l hl W
  cases l with
  | nil =>
    have he : (str ([] : List UInt8)).toList.isEmpty = true := by rw [str_toList]; rfl
    go_enter Try.func41, Try.ntmps41
    go_wp2_with fail
    go_ret
    exact ⟨rfl, rfl⟩
  | cons b r =>
    have he : (str (b :: r)).toList.isEmpty = false := by rw [str_toList]; rfl
    obtain ⟨n, hn⟩ : ∃ n, (b :: r).length = n := ⟨_, rfl⟩
    rw [hn] at hsz hpl
    go_enter Try.func41, Try.ntmps41
    go_wp2_with fail
    refine (HC _).mono ?_
    rintro _ w1 ⟨rfl, rfl⟩
    go_wp2_with fail
    go_ret
    refine ⟨?_, rfl⟩
    rw [hpl]
    have e3 : (((pre (b :: r) : Nat) : Int) == (n : Int)) = decide (pre (b :: r) = n) := by
      rw [Bool.eq_iff_iff, beq_iff_eq, decide_eq_true_eq]; omega
    show Ending.returned (.bool (((pre (b :: r) : Nat) : Int) == (n : Int))) = _
    rw [e3]; rfl

theorem rowGo_succ (r : List UInt8 → Bool → Bool) (n : Nat) (l : List UInt8) : rowGo r (n + 1) l = (r (cutP l).1 (!(cutP l).2.2) && (!(cutP l).2.2 || rowGo r n (cutP l).2.1)) := rfl

/-- A call of function N begins. -/
def Ent (N : Nat) : Prop := ∀ args w, (callFunc N args).run Try.prog w = .ok (.enter N args) w

set_option maxHeartbeats 1000000 in
set_option maxRecDepth 100000 in
theorem stream1_any (x : List UInt8) (last : Bool) (hl : x.length ≤ 1000) (w : World) :
    Calls Try.prog 65 #[.string (str x), .bool last] w fun e w' => e = .returned (.bool (rS x last)) ∧ w = w' := by
  go_enter Try.func65, Try.ntmps65
  go_wp2_with fail
  refine (isPlain_any x hl _).mono ?_
  rintro _ w1 ⟨rfl, rfl⟩
  go_wp2_with fail
  go_ret
  exact ⟨rfl, rfl⟩

set_option maxHeartbeats 1000000 in
set_option maxRecDepth 100000 in
theorem pattern1_any (x : List UInt8) (last : Bool) (hl : x.length ≤ 1000) (w : World) :
    Calls Try.prog 40 #[.string (str x), .bool last] w fun e w' => e = .returned (.bool (rP x last)) ∧ w = w' := by
  have hr : rP x last = (plainP x || (x == [42] || (x == [42, 42] && last))) := rfl
  rw [hr]
  have e1 : ((str x).toList == [42]) = (x == [42]) := by rw [str_toList]
  have e2 : ((str x).toList == [42, 42]) = (x == [42, 42]) := by rw [str_toList]
  obtain ⟨b1, h1⟩ : ∃ b, (x == [42]) = b := ⟨_, rfl⟩
  obtain ⟨b2, h2⟩ : ∃ b, (x == [42, 42]) = b := ⟨_, rfl⟩
  have HC := fun W => isPlain_any x hl W
  obtain ⟨b0, h0⟩ : ∃ b, plainP x = b := ⟨_, rfl⟩
  rw [h1] at e1; rw [h2] at e2
  rw [h0] at HC ⊢
  rw [h1, h2]
  clear h0 h1 h2 hr
  go_enter Try.func40, Try.ntmps40
  go_wp2_with fail
  refine (HC _).mono ?_
  rintro _ w1 ⟨rfl, rfl⟩
  cases b0 <;> cases b1 <;> cases b2 <;> cases last <;> (go_wp2_with fail; go_ret; exact ⟨rfl, rfl⟩)

set_option maxHeartbeats 2000000 in
set_option maxRecDepth 100000 in
theorem isRow_any {N : Nat} (hN : Ent N) {r : List UInt8 → Bool → Bool} (hr : ∀ x last W, x.length ≤ 1000 → Calls Try.prog N #[.string (str x), .bool last] W fun e w' => e = .returned (.bool (r x last)) ∧ W = w')
    (l : List UInt8) (hl : l.length ≤ 9223372036854775807) (w : World) :
    Calls Try.prog 39 #[.string (str l), .func (.func N) #[] #[]] w fun e w' => e = .returned (.bool (rowOk r l)) ∧ Below w.heap.size w w' := by
  have hsz : (str l).size = l.length := str_size l
  unfold Ent at hN
  by_cases h32 : l.length ≤ 32
  · have hq : rowOk r l = rowGo r 4 l := by unfold rowOk; rw [rowGo_eq, decide_eq_true h32, Bool.true_and]
    rw [hq]
    have hI : ¬ (32 : Int) < (l.length : Int) := by omega
    go_enter Try.func39, Try.ntmps39
    go_wp2_with fail
    refine (walk_any l _).mono ?_
    rintro _ w1 ⟨rfl, hB, hb⟩
    obtain ⟨B, hBe⟩ : ∃ B, w.heap.size = B := ⟨_, rfl⟩
    rw [hBe] at hB
    rw [hBe] at hb ⊢
    have HB := Lib.hid hB
    have HBL := Lib.hid hb
    clear hB hb
    go_wp2_with fail
    go_loopw [6, 7, 13] (fun _ _ k wr => ∃ (K : Nat) (m : List UInt8), k = .int .i64 (K : Int) ∧ K ≤ 4 ∧ m.length ≤ 32 ∧ Hid (rowGo r 4 l = rowGo r (4 - K) m) ∧ Hid (Box wr B m) ∧ Hid (Below B w wr)) (fun _ _ k _ => 4 - (intOf k).toNat)
    case atStart => exact ⟨0, l, rfl, by omega, h32, rfl, HB.out, HBL.out⟩
    case round =>
      obtain ⟨K, m, rfl, hK, hm, HG, HX, HY⟩ := hrel
      by_cases hlt : K < 4
      · have hltI : (K : Int) < 4 := by omega
        have hw1 : IntKind.i64.wrap ((K : Int) + 1) = (K : Int) + 1 := IntWalk.i64_in _ (by omega)
        obtain ⟨⟨x, rest, more⟩, hc⟩ : ∃ t, cutP m = t := ⟨_, rfl⟩
        have hg := HG.out
        rw [show 4 - K = (4 - (K + 1)) + 1 by omega] at hg
        rw [rowGo_succ r (4 - (K + 1)) m] at hg
        have hC := next_any HX.out (by omega)
        have hlen := cut_len m
        rw [hc] at hg hC hlen
        simp only at hg hlen
        have HG2 := Lib.hid hg
        have HC := Lib.hid hC
        have hx : x.length ≤ 1000 := by omega
        have hr1 := fun W => hr x (!more) W hx
        obtain ⟨ok, hok⟩ : ∃ b, r x (!more) = b := ⟨_, rfl⟩
        rw [hok] at hr1
        have HR := Lib.hid hr1
        rw [hok] at hg
        have HG2 := Lib.hid hg
        clear hg hC hr1 hok hc
        go_wp2_with fail
        refine HC.out.mono ?_
        rintro _ w2 ⟨rfl, hX2, hT⟩
        have HX2 := Lib.hid hX2
        have HY2 := Lib.hid (Tg.onto HY.out (by omega) (Nat.le_refl _) hT)
        clear hX2 hT
        simp only [sv]
        go_wp2_with fail
        refine (HR.out _).mono ?_
        rintro _ w3 ⟨rfl, rfl⟩
        cases ok with
        | false =>
          go_wp2_with fail
          go_ret
          rw [HG2.out]
          exact ⟨rfl, by first | exact HY2.out | (rw [hBe]; exact HY2.out)⟩
        | true =>
          cases more with
          | false =>
            go_wp2_with fail
            go_ret
            rw [HG2.out]
            exact ⟨rfl, by first | exact HY2.out | (rw [hBe]; exact HY2.out)⟩
          | true =>
            go_wp2_with fail
            go_roundw
            case rel => exact ⟨K + 1, rest, by go_num, by omega, by omega, by show _ = _; rw [HG2.out]; rfl, HX2.out, HY2.out⟩
            case measure => simp [intOf]; omega
      · have hltI : ¬ (K : Int) < 4 := by omega
        have hg := HG.out
        rw [show 4 - K = 0 by omega] at hg
        have HG2 := Lib.hid hg; clear hg
        go_wp2_with fail
        go_ret
        rw [HG2.out]
        exact ⟨rfl, by first | exact HY.out | (rw [hBe]; exact HY.out)⟩
  · have hq : rowOk r l = false := by unfold rowOk; rw [decide_eq_false h32, Bool.false_and]
    rw [hq]
    have hI : (32 : Int) < (l.length : Int) := by omega
    go_enter Try.func39, Try.ntmps39
    go_wp2_with fail
    go_ret
    exact ⟨rfl, Below.refl _ _⟩

theorem ent_stream1 : Ent 65 := fun args w => enters_of Try.func65 (by kernel_rfl) rfl args w
theorem ent_pattern1 : Ent 40 := fun args w => enters_of Try.func40 (by kernel_rfl) rfl args w

set_option maxHeartbeats 1000000 in
set_option maxRecDepth 100000 in
theorem stream_any (l : List UInt8) (hl : l.length ≤ 9223372036854775807) (w : World) :
    Calls Try.prog 46 #[.string (str l)] w fun e w' => e = .returned (.bool (streamP l)) ∧ Below w.heap.size w w' := by
  have HC := fun W => isRow_any ent_stream1 (fun x last W hx => stream1_any x last hx W) l hl W
  rw [show rowOk rS l = streamP l from rfl] at HC
  go_enter Try.func46, Try.ntmps46
  go_wp2_with fail
  refine (HC _).mono ?_
  rintro _ w1 ⟨rfl, hb⟩
  go_wp2_with fail
  go_ret
  exact ⟨rfl, hb⟩

set_option maxHeartbeats 1000000 in
set_option maxRecDepth 100000 in
theorem pattern_any (l : List UInt8) (hl : l.length ≤ 9223372036854775807) (w : World) :
    Calls Try.prog 23 #[.string (str l)] w fun e w' => e = .returned (.bool (patP l)) ∧ Below w.heap.size w w' := by
  have HC := fun W => isRow_any ent_pattern1 (fun x last W hx => pattern1_any x last hx W) l hl W
  rw [show rowOk rP l = patP l from rfl] at HC
  go_enter Try.func23, Try.ntmps23
  go_wp2_with fail
  refine (HC _).mono ?_
  rintro _ w1 ⟨rfl, hb⟩
  go_wp2_with fail
  go_ret
  exact ⟨rfl, hb⟩

end Go.Proofs.Ytbpphghphfbogaa.P8
