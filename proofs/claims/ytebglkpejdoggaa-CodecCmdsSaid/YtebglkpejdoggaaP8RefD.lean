/-
  Layer 8: names and patterns, as the program tells them.
  Layer 8: two patterns side by side; what covers, matches and meets, as the program tells it.
  Layer 8: the program's functions.
  Layer 8, the document's answer: parts, names, patterns.
  Layer 8, the document's answer: what covers, matches and meets what.
  Layer 8, the document's answer: what covers and what meets what.
  Layer 8, the document's answer: Stream, Pattern, Match, Covers, Meets, Less.
-/
import Derived.Test.YtebglkpejdoggaaP8Lib
import Derived.WalkMore
import Derived.Shelf.Abstract
import Derived.Deep.LoopGhost
namespace Go.Proofs.Ytebglkpejdoggaa.P8
open Go Go.RowKit Go.Shelf Go.Proofs Go.Proofs.Ytebglkpejdoggaa.B Go.Proofs.Ytebglkpejdoggaa.K
set_option linter.unusedVariables false

/-- How many bytes a text begins with that parts have. -/
def pre (l : List UInt8) : Nat := (l.takeWhile okB).length

theorem pre_le (l : List UInt8) : pre l ≤ l.length := by
  unfold pre
  induction l with
  | nil => simp
  | cons b l ih => rw [List.takeWhile_cons]; split <;> simp <;> omega

theorem pre_step {l : List UInt8} {k : Nat} {b : UInt8} (h : l[k]? = some b) : pre (l.drop k) = if okB b = true then 1 + pre (l.drop (k + 1)) else 0 := by
  obtain ⟨hk, rfl⟩ := List.getElem?_eq_some_iff.1 h
  rw [List.drop_eq_getElem_cons hk]
  unfold pre
  rw [List.takeWhile_cons]
  split
  · simp; omega
  · rfl

theorem plain_pre (l : List UInt8) : plainP l = (!l.isEmpty && decide (pre l = l.length)) := by
  unfold plainP
  congr 1
  unfold pre
  induction l with
  | nil => rfl
  | cons b l ih =>
    rw [List.takeWhile_cons, List.all_cons, ih]
    cases okB b <;> simp

theorem str_get8 {l : List UInt8} {k : Nat} {b : UInt8} (h : l[k]? = some b) (hk : k < (str l).size) : ((str l)[k]'hk) = b := by
  obtain ⟨hk', rfl⟩ := List.getElem?_eq_some_iff.1 h
  show (str l).data[k]'_ = _
  simp only [str, List.getElem_toArray]

theorem okN_iff (y : Nat) : okN y = true ↔ (97 ≤ y ∧ y ≤ 122) ∨ (48 ≤ y ∧ y ≤ 57) ∨ y = 45 ∨ y = 95 := by
  simp [okN]

theorem pre_on {l : List UInt8} {K y : Nat} (HP : pre l = K + pre (l.drop K)) (HS : pre (l.drop K) = if okN y = true then 1 + pre (l.drop (K + 1)) else 0)
    (h : (97 ≤ y ∧ y ≤ 122) ∨ (48 ≤ y ∧ y ≤ 57) ∨ y = 45 ∨ y = 95) : pre l = (K + 1) + pre (l.drop (K + 1)) := by
  rw [if_pos ((okN_iff y).2 h)] at HS; omega

theorem pre_off {l : List UInt8} {K y : Nat} (HP : pre l = K + pre (l.drop K)) (HS : pre (l.drop K) = if okN y = true then 1 + pre (l.drop (K + 1)) else 0)
    (h : ¬ ((97 ≤ y ∧ y ≤ 122) ∨ (48 ≤ y ∧ y ≤ 57) ∨ y = 45 ∨ y = 95)) : pre l = K := by
  rw [if_neg (fun h' => h ((okN_iff y).1 h'))] at HS; omega

theorem pre_end {l : List UInt8} {K : Nat} (HP : pre l = K + pre (l.drop K)) (h : l.length ≤ K) : pre l = K := by
  rw [List.drop_of_length_le h] at HP; exact HP

set_option maxHeartbeats 2000000 in
set_option maxRecDepth 100000 in
theorem plainBytes_any (l : List UInt8) (hl : l.length ≤ 1000) (w : World) :
    Calls Try.prog 79 #[.string (str l)] w fun e w' => e = .returned (.int .i64 (pre l)) ∧ w = w' := by
  have hsz : (str l).size = l.length := str_size l
  go_enter Try.func79, Try.ntmps79
  go_wp2_with fail
  go_step3
  go_wp2_with fail
  go_step3
  go_wp2_with fail
  go_loopw [3, 4] (fun n _ wr => ∃ K : Nat, n = .int .i64 (K : Int) ∧ K ≤ l.length ∧ Hid (pre l = K + pre (l.drop K)) ∧ wr = w) (fun n _ _ => l.length - (intOf n).toNat)
  case atStart => exact ⟨0, rfl, Nat.zero_le _, by show _ = _; rw [List.drop_zero]; omega, rfl⟩
  case round =>
    obtain ⟨K, rfl, hK, HP, rfl⟩ := hrel
    by_cases hlt : K < l.length
    · have hltI : (K : Int) < ((str l).size : Int) := by omega
      have hk' : K < (str l).size := by omega
      obtain ⟨b, hb⟩ : ∃ b, l[K]? = some b := ⟨_, List.getElem?_eq_getElem hlt⟩
      have hs := pre_step hb
      have hg : ((str l)[K]'hk') = b := str_get8 hb hk'
      unfold okB at hs
      obtain ⟨y, hy⟩ : ∃ y, b.toNat = y := ⟨_, rfl⟩
      rw [hy] at hs
      have HS := Lib.hid hs; clear hs
      have hw1 : IntKind.i64.wrap ((K : Int) + 1) = (K : Int) + 1 := IntWalk.i64_in _ (by omega)
      go_wp2_with fail
      all_goals (try simp only [beq_iff_eq, beq_eq_false_iff_ne, ne_eq] at *)
      all_goals first
        | (refine ⟨⟨K + 1, by go_num, by omega, pre_on HP.out HS.out (by omega), by first | trivial | rfl⟩, by simp [intOf]; omega⟩)
        | (have ho := pre_off HP.out HS.out (by omega)
           try rw [Exit.noGoto_ret]
           go_ret
           rw [ho]
           exact ⟨rfl, rfl⟩)
    · have hltI : ¬ (K : Int) < ((str l).size : Int) := by omega
      go_wp2_with fail
      try rw [Exit.noGoto_ret]
      go_ret
      rw [pre_end HP.out (by omega)]
      exact ⟨rfl, rfl⟩

set_option maxHeartbeats 1000000 in
set_option maxRecDepth 100000 in
theorem isPlain_any (l : List UInt8) (hl : l.length ≤ 1000) (w : World) :
    Calls Try.prog 66 #[.string (str l)] w fun e w' => e = .returned (.bool (plainP l)) ∧ w = w' := by
  have hsz : (str l).size = l.length := str_size l
  have hpl := plain_pre l
  have HC := fun W => plainBytes_any l hl W
  cases l with
  | nil =>
    have he : (str ([] : List UInt8)).toList.isEmpty = true := by rw [str_toList]; rfl
    go_enter Try.func66, Try.ntmps66
    go_wp2_with fail
    go_ret
    exact ⟨rfl, rfl⟩
  | cons b r =>
    have he : (str (b :: r)).toList.isEmpty = false := by rw [str_toList]; rfl
    obtain ⟨n, hn⟩ : ∃ n, (b :: r).length = n := ⟨_, rfl⟩
    rw [hn] at hsz hpl
    go_enter Try.func66, Try.ntmps66
    go_wp2_with fail
    refine (HC _).mono ?_
    rintro _ w1 ⟨rfl, rfl⟩
    go_wp2_with fail
    go_ret
    refine ⟨?_, rfl⟩
    rw [hpl]
    have e3 : (((pre (b :: r) : Nat) : Int) == (n : Int)) = decide (pre (b :: r) = n) := by
      rw [Bool.eq_iff_iff, beq_iff_eq, decide_eq_true_eq]; omega
    show Ending.returned (.bool (((pre (b :: r) : Nat) : Int) == (n : Int))) = _
    rw [e3]; rfl

theorem rowGo_succ (r : List UInt8 → Bool → Bool) (n : Nat) (l : List UInt8) : rowGo r (n + 1) l = (r (cutP l).1 (!(cutP l).2.2) && (!(cutP l).2.2 || rowGo r n (cutP l).2.1)) := rfl

/-- A call of function N begins. -/
def Ent (N : Nat) : Prop := ∀ args w, (callFunc N args).run Try.prog w = .ok (.enter N args) w

set_option maxHeartbeats 1000000 in
set_option maxRecDepth 100000 in
theorem stream1_any (x : List UInt8) (last : Bool) (hl : x.length ≤ 1000) (w : World) :
    Calls Try.prog 65 #[.string (str x), .bool last] w fun e w' => e = .returned (.bool (rS x last)) ∧ w = w' := by
  go_enter Try.func65, Try.ntmps65
  go_wp2_with fail
  refine (isPlain_any x hl _).mono ?_
  rintro _ w1 ⟨rfl, rfl⟩
  go_wp2_with fail
  go_ret
  exact ⟨rfl, rfl⟩

set_option maxHeartbeats 2000000 in
set_option maxRecDepth 100000 in
theorem isRow_any {N : Nat} (hN : Ent N) {r : List UInt8 → Bool → Bool} (hr : ∀ x last W, x.length ≤ 1000 → Calls Try.prog N #[.string (str x), .bool last] W fun e w' => e = .returned (.bool (r x last)) ∧ W = w')
    (l : List UInt8) (hl : l.length ≤ 9223372036854775807) (w : World) :
    Calls Try.prog 64 #[.string (str l), .func (.func N) #[] #[]] w fun e w' => e = .returned (.bool (rowOk r l)) ∧ Below w.heap.size w w' := by
  have hsz : (str l).size = l.length := str_size l
  unfold Ent at hN
  by_cases h32 : l.length ≤ 32
  · have hq : rowOk r l = rowGo r 4 l := by unfold rowOk; rw [rowGo_eq, decide_eq_true h32, Bool.true_and]
    rw [hq]
    have hI : ¬ (32 : Int) < (l.length : Int) := by omega
    go_enter Try.func64, Try.ntmps64
    go_wp2_with fail
    refine (walk_any l _).mono ?_
    rintro _ w1 ⟨rfl, hB, hb⟩
    obtain ⟨B, hBe⟩ : ∃ B, w.heap.size = B := ⟨_, rfl⟩
    rw [hBe] at hB
    rw [hBe] at hb ⊢
    have HB := Lib.hid hB
    have HBL := Lib.hid hb
    clear hB hb
    go_wp2_with fail
    go_loopw [6, 7, 13] (fun _ _ k wr => ∃ (K : Nat) (m : List UInt8), k = .int .i64 (K : Int) ∧ K ≤ 4 ∧ m.length ≤ 32 ∧ Hid (rowGo r 4 l = rowGo r (4 - K) m) ∧ Hid (Box wr B m) ∧ Hid (Below B w wr)) (fun _ _ k _ => 4 - (intOf k).toNat)
    case atStart => exact ⟨0, l, rfl, by omega, h32, rfl, HB.out, HBL.out⟩
    case round =>
      obtain ⟨K, m, rfl, hK, hm, HG, HX, HY⟩ := hrel
      by_cases hlt : K < 4
      · have hltI : (K : Int) < 4 := by omega
        have hw1 : IntKind.i64.wrap ((K : Int) + 1) = (K : Int) + 1 := IntWalk.i64_in _ (by omega)
        obtain ⟨⟨x, rest, more⟩, hc⟩ : ∃ t, cutP m = t := ⟨_, rfl⟩
        have hg := HG.out
        rw [show 4 - K = (4 - (K + 1)) + 1 by omega] at hg
        rw [rowGo_succ r (4 - (K + 1)) m] at hg
        have hC := next_any HX.out (by omega)
        have hlen := cut_len m
        rw [hc] at hg hC hlen
        simp only at hg hlen
        have HG2 := Lib.hid hg
        have HC := Lib.hid hC
        have hx : x.length ≤ 1000 := by omega
        have hr1 := fun W => hr x (!more) W hx
        obtain ⟨ok, hok⟩ : ∃ b, r x (!more) = b := ⟨_, rfl⟩
        rw [hok] at hr1
        have HR := Lib.hid hr1
        rw [hok] at hg
        have HG2 := Lib.hid hg
        clear hg hC hr1 hok hc
        go_wp2_with fail
        refine HC.out.mono ?_
        rintro _ w2 ⟨rfl, hX2, hT⟩
        have HX2 := Lib.hid hX2
        have HY2 := Lib.hid (Tg.onto HY.out (by omega) (Nat.le_refl _) hT)
        clear hX2 hT
        simp only [sv]
        go_wp2_with fail
        refine (HR.out _).mono ?_
        rintro _ w3 ⟨rfl, rfl⟩
        cases ok with
        | false =>
          go_wp2_with fail
          go_ret
          rw [HG2.out]
          exact ⟨rfl, by first | exact HY2.out | (rw [hBe]; exact HY2.out)⟩
        | true =>
          cases more with
          | false =>
            go_wp2_with fail
            go_ret
            rw [HG2.out]
            exact ⟨rfl, by first | exact HY2.out | (rw [hBe]; exact HY2.out)⟩
          | true =>
            go_wp2_with fail
            go_roundw
            case rel => exact ⟨K + 1, rest, by go_num, by omega, by omega, by show _ = _; rw [HG2.out]; rfl, HX2.out, HY2.out⟩
            case measure => simp [intOf]; omega
      · have hltI : ¬ (K : Int) < 4 := by omega
        have hg := HG.out
        rw [show 4 - K = 0 by omega] at hg
        have HG2 := Lib.hid hg; clear hg
        go_wp2_with fail
        go_ret
        rw [HG2.out]
        exact ⟨rfl, by first | exact HY.out | (rw [hBe]; exact HY.out)⟩
  · have hq : rowOk r l = false := by unfold rowOk; rw [decide_eq_false h32, Bool.false_and]
    rw [hq]
    have hI : (32 : Int) < (l.length : Int) := by omega
    go_enter Try.func64, Try.ntmps64
    go_wp2_with fail
    go_ret
    exact ⟨rfl, Below.refl _ _⟩

theorem ent_stream1 : Ent 65 := fun args w => enters_of Try.func65 (by kernel_rfl) rfl args w
set_option maxHeartbeats 1000000 in
set_option maxRecDepth 100000 in
theorem stream_any (l : List UInt8) (hl : l.length ≤ 9223372036854775807) (w : World) :
    Calls Try.prog 49 #[.string (str l)] w fun e w' => e = .returned (.bool (streamP l)) ∧ Below w.heap.size w w' := by
  have HC := fun W => isRow_any ent_stream1 (fun x last W hx => stream1_any x last hx W) l hl W
  rw [show rowOk rS l = streamP l from rfl] at HC
  go_enter Try.func49, Try.ntmps49
  go_wp2_with fail
  refine (HC _).mono ?_
  rintro _ w1 ⟨rfl, hb⟩
  go_wp2_with fail
  go_ret
  exact ⟨rfl, hb⟩

end Go.Proofs.Ytebglkpejdoggaa.P8

namespace Go.Proofs.Ytebglkpejdoggaa.P8
open Go Go.RowKit Go.Shelf Go.Proofs Go.Proofs.Ytebglkpejdoggaa.B Go.Proofs.Ytebglkpejdoggaa.K
set_option linter.unusedVariables false

theorem eq_bool (a b : List UInt8) : ((str a).toList == (str b).toList) = (a == b) := by rw [str_toList, str_toList]
theorem eq_one (a : List UInt8) : ((str a).toList == [42]) = (a == one) := by rw [str_toList]; rfl
theorem eq_many (a : List UInt8) : ((str a).toList == [42, 42]) = (a == many) := by rw [str_toList]; rfl
theorem eq_none (a : List UInt8) : (str a).toList.isEmpty = a.isEmpty := by rw [str_toList]

theorem tog_succ (free right : List UInt8 → List UInt8 → Bool) (n : Nat) (l m : List UInt8) : tog free right (n + 1) l m = (free (cutP l).1 (cutP m).1 || (right (cutP l).1 (cutP m).1 && ((cutP l).1.isEmpty || tog free right n (cutP l).2.1 (cutP m).2.1))) := rfl

end Go.Proofs.Ytebglkpejdoggaa.P8

namespace Go.Proofs.Ytebglkpejdoggaa.P8
open Go Go.RowKit Go.Shelf Go.Proofs Go.Proofs.Ytebglkpejdoggaa.B Go.Proofs.Ytebglkpejdoggaa.K
set_option linter.unusedVariables false

/-- As the document says it, over texts. -/
def covT (p q : List UInt8) : Bool := patP p && (patP q && coversL (parts p) (parts q))
def metT (p q : List UInt8) : Bool := patP p && (patP q && meetsL (parts p) (parts q))
def matT (p s : List UInt8) : Bool := patP p && (streamP s && matchL (parts p) (parts s))

theorem pat_all {l : List UInt8} (h : patP l = true) : l.length ≤ 32 ∧ allL rP (parts l) = true ∧ (parts l).length ≤ 4 := rowOk_parts h
theorem stream_all {l : List UInt8} (h : streamP l = true) : l.length ≤ 32 ∧ allL rS (parts l) = true ∧ (parts l).length ≤ 4 := rowOk_parts h
theorem stream_isPat {l : List UInt8} (h : streamP l = true) : patP l = true := by
  obtain ⟨h1, h2, h3⟩ := stream_all h
  unfold patP rowOk
  rw [decide_eq_true h1, decide_eq_true h3, stream_pat _ h2]; rfl

theorem cov_tog {p q : List UInt8} (hp : patP p = true) (hq : patP q = true) : tog freeC takes 40 p q = coversL (parts p) (parts q) := by
  rw [tog_parts _ _ _ _ _ (by have := (pat_all hp).2.2; omega), covers_tog _ _ (pat_all hp).2.1 (pat_all hq).2.1]
theorem met_tog {p q : List UInt8} (hp : patP p = true) (hq : patP q = true) : tog freeM meet 40 p q = meetsL (parts p) (parts q) := by
  rw [tog_parts _ _ _ _ _ (by have := (pat_all hp).2.2; omega), meets_tog _ _ (pat_all hp).2.1 (pat_all hq).2.1]

theorem mat_cov (p s : List UInt8) : matT p s = (streamP s && covT p s) := by
  unfold matT covT
  cases hp : patP p
  · simp
  · cases hs : streamP s
    · simp
    · rw [stream_isPat hs, match_covers _ _ (pat_all hp).2.1 (stream_all hs).2.1]; simp

end Go.Proofs.Ytebglkpejdoggaa.P8

namespace Go.Proofs.Ytebglkpejdoggaa.P8
open Go Go.RowKit Go.Shelf Go.Proofs Go.Proofs.Ytebglkpejdoggaa.B Go.Proofs.Ytebglkpejdoggaa.K
set_option linter.unusedVariables false

theorem all_step {l : List UInt8} {k : Nat} {b : UInt8} (h : l[k]? = some b) : (l.drop k).all okB = (okB b && (l.drop (k + 1)).all okB) := by
  obtain ⟨hk, rfl⟩ := List.getElem?_eq_some_iff.1 h
  rw [List.drop_eq_getElem_cons hk, List.all_cons]

theorem all_on {l : List UInt8} {K y : Nat} (HP : l.all okB = (l.drop K).all okB) (HS : (l.drop K).all okB = (okN y && (l.drop (K + 1)).all okB))
    (h : (97 ≤ y ∧ y ≤ 122) ∨ (48 ≤ y ∧ y ≤ 57) ∨ y = 45 ∨ y = 95) : l.all okB = (l.drop (K + 1)).all okB := by
  rw [(okN_iff y).2 h, Bool.true_and] at HS; exact HP.trans HS

theorem all_off {l : List UInt8} {K y : Nat} (HP : l.all okB = (l.drop K).all okB) (HS : (l.drop K).all okB = (okN y && (l.drop (K + 1)).all okB))
    (h : ¬ ((97 ≤ y ∧ y ≤ 122) ∨ (48 ≤ y ∧ y ≤ 57) ∨ y = 45 ∨ y = 95)) : plainP l = false := by
  have : okN y = false := by
    cases ho : okN y with
    | false => rfl
    | true => exact absurd ((okN_iff y).1 ho) h
  rw [this, Bool.false_and] at HS
  unfold plainP
  rw [HP, HS, Bool.and_false]

theorem plain_end {l : List UInt8} {K : Nat} (HP : l.all okB = (l.drop K).all okB) (h : l.length ≤ K) : plainP l = decide (0 < l.length) := by
  rw [List.drop_of_length_le h] at HP
  unfold plainP
  rw [HP]
  cases l with
  | nil => rfl
  | cons b l =>
    have : 0 < (b :: l).length := by simp
    rw [decide_eq_true this]; rfl

set_option maxHeartbeats 2000000 in
set_option maxRecDepth 100000 in
theorem refPlain_any (l : List UInt8) (hl : l.length ≤ 1000) (w : World) :
    Calls Try.prog 63 #[.string (str l)] w fun e w' => e = .returned (.bool (plainP l)) ∧ w = w' := by
  have hsz : (str l).size = l.length := str_size l
  go_enter Try.func63, Try.ntmps63
  go_wp2_with fail
  go_loopw [3, 4] (fun n _ wr => ∃ K : Nat, n = .int .i64 (K : Int) ∧ K ≤ l.length ∧ Hid (l.all okB = (l.drop K).all okB) ∧ wr = w) (fun n _ _ => l.length - (intOf n).toNat)
  case atStart => exact ⟨0, rfl, Nat.zero_le _, rfl, rfl⟩
  case round =>
    obtain ⟨K, rfl, hK, HP, rfl⟩ := hrel
    by_cases hlt : K < l.length
    · have hltI : (K : Int) < ((str l).size : Int) := by omega
      have hk' : K < (str l).size := by omega
      obtain ⟨b, hb⟩ : ∃ b, l[K]? = some b := ⟨_, List.getElem?_eq_getElem hlt⟩
      have hs := all_step hb
      have hg : ((str l)[K]'hk') = b := str_get8 hb hk'
      unfold okB at hs
      obtain ⟨y, hy⟩ : ∃ y, b.toNat = y := ⟨_, rfl⟩
      rw [hy] at hs
      have HS := Lib.hid (show (l.drop K).all okB = (okN y && (l.drop (K + 1)).all okB) from hs); clear hs
      have hw1 : IntKind.i64.wrap ((K : Int) + 1) = (K : Int) + 1 := IntWalk.i64_in _ (by omega)
      by_cases hy0 : (97 ≤ y ∧ y ≤ 122) ∨ (48 ≤ y ∧ y ≤ 57) ∨ y = 45 ∨ y = 95
      · have HP2 := Lib.hid (all_on HP.out HS.out hy0)
        go_wp2_with fail
        all_goals (try simp only [bne_iff_ne, bne_eq_false_iff_eq, ne_eq] at *)
        all_goals first
          | (exfalso; omega)
          | (exact ⟨⟨K + 1, by go_num, by omega, HP2.out, by first | trivial | rfl⟩, by simp [intOf]; omega⟩)
      · have ho := all_off HP.out HS.out hy0
        go_wp2_with fail
        all_goals (try simp only [bne_iff_ne, bne_eq_false_iff_eq, ne_eq] at *)
        all_goals first
          | (exfalso; omega)
          | (go_ret; first | exact ⟨rfl, rfl⟩ | (rw [ho]; exact ⟨rfl, rfl⟩))
    · have hltI : ¬ (K : Int) < ((str l).size : Int) := by omega
      have hp := plain_end HP.out (by omega)
      go_wp2_with fail
      go_ret
      first | exact ⟨rfl, rfl⟩ | (rw [hp]; exact ⟨rfl, rfl⟩)

/-- A text ahead of the first part. -/
def glue (cur : List UInt8) (P : List (List UInt8)) : List (List UInt8) := (cur ++ hd P) :: P.tail

theorem glue_nil (l : List UInt8) : glue [] (parts l) = parts l := by
  have := parts_ne l
  cases h : parts l with
  | nil => exact absurd h this
  | cons x xs => rfl

theorem glue_slash {l : List UInt8} {k : Nat} (h : l[k]? = some 47) (cur : List UInt8) : glue cur (parts (l.drop k)) = cur :: glue [] (parts (l.drop (k + 1))) := by
  obtain ⟨hk, hb⟩ := List.getElem?_eq_some_iff.1 h
  rw [List.drop_eq_getElem_cons hk, hb, glue_nil]
  simp [parts, glue, hd]

theorem glue_byte {l : List UInt8} {k : Nat} {b : UInt8} (h : l[k]? = some b) (hb : b ≠ 47) (cur : List UInt8) : glue cur (parts (l.drop k)) = glue (cur ++ [b]) (parts (l.drop (k + 1))) := by
  obtain ⟨hk, rfl⟩ := List.getElem?_eq_some_iff.1 h
  rw [List.drop_eq_getElem_cons hk]
  have : (l[k] == 47) = false := beq_eq_false_iff_ne.2 hb
  have hne := parts_ne (l.drop (k + 1))
  rw [show parts (l[k] :: l.drop (k + 1)) = if l[k] == 47 then [] :: parts (l.drop (k + 1)) else onFirst l[k] (parts (l.drop (k + 1))) from rfl, this]
  simp only [Bool.false_eq_true, if_false]
  cases hp : parts (l.drop (k + 1)) with
  | nil => exact absurd hp hne
  | cons x xs => simp [onFirst, glue, hd]

theorem glue_end (cur l : List UInt8) {k : Nat} (h : l.length ≤ k) : glue cur (parts (l.drop k)) = [cur] := by
  rw [List.drop_of_length_le h]; simp [parts, glue, hd]

theorem Try.info9 : (Try.prog.info? 9).map (fun i => (i.zero, i.size, i.bytes)) = some (some (.string ⟨#[]⟩), 1, 16) := by kernel_rfl

theorem one_cell_str (s : ByteArray) : ∀ u ∈ [Value.string s], u.oneCell' = true := by intro u hu; simp at hu; subst hu; rfl

theorem str_one {l : List UInt8} {k : Nat} {b : UInt8} (h : l[k]? = some b) (cur : List UInt8) : str cur ++ (str l).extract k (k + 1) = str (cur ++ [b]) := by
  obtain ⟨hk, rfl⟩ := List.getElem?_eq_some_iff.1 h
  rw [str_extract, str_append, show k + 1 - k = 1 by omega, List.drop_eq_getElem_cons hk]
  rfl

/-- A slice of parts in memory. -/
def Pt (w : World) (v : Value) (P : List (List UInt8)) : Prop :=
  ∃ b off cap, v = .slice (some ⟨b, off, none⟩) P.length cap ∧ P.length ≤ cap ∧ ∀ j x, P[j]? = some x → w.cell? ⟨b, off + j, none⟩ = some (sv x)

theorem Pt.below {w w' : World} {v : Value} {P : List (List UInt8)} (h : Pt w v P) (hb : Below w.heap.size w w') : Pt w' v P := by
  obtain ⟨b, off, cap, rfl, hc, hx⟩ := h
  exact ⟨b, off, cap, rfl, hc, fun j x hj => (hb.cell (p := ⟨b, off + j, none⟩) (World.block_lt_of_cell? w _ (hx j x hj))).trans (hx j x hj)⟩

theorem pt_owns {w : World} {base n : Nat} {v : Value} {P : List (List UInt8)} (h : w.ownsRow base 9 1 v n (P.map sv)) (hn : P.length = n) (h0 : 0 < n) : Pt w v P := by
  obtain ⟨hl, h⟩ := h
  rcases h with ⟨rfl, h0'⟩ | ⟨g, cap, cur, rfl, _, hg, h1, h2, h3, ht⟩
  · omega
  · subst hn
    rw [Nat.mul_one] at ht
    refine ⟨g, 0, cap, rfl, by omega, fun j x hj => ?_⟩
    have := Lib.cells_of_row hg P.length j (sv x) (by rw [ht, List.getElem?_map, hj]; rfl)
    rw [Lib.addr_add] at this
    exact this

set_option maxHeartbeats 2000000 in
set_option maxRecDepth 100000 in
theorem split_any (l : List UInt8) (hl : l.length ≤ 1000) (w : World) :
    Calls Try.prog 77 #[.string (str l), .int .u8 47] w fun e w' => ∃ v, e = .returned v ∧ Pt w' v (parts l) ∧ Below w.heap.size w w' := by
  obtain ⟨i0, hi, hz0, hz1, hz2⟩ := info_parts Try.info9
  have hsz : (str l).size = l.length := str_size l
  go_enter Try.func77, Try.ntmps77
  go_wp2_with fail
  go_loopw [5, 6, 7] (fun out c k wr => ∃ (K : Nat) (n : Nat) (done : List (List UInt8)) (cur : List UInt8), k = .int .i64 (K : Int) ∧ c = .string (str cur) ∧ K ≤ l.length ∧ n ≤ K ∧ cur.length ≤ K ∧ Hid (done.length = n) ∧
      Hid (parts l = done ++ glue cur (parts (l.drop K))) ∧ wr.ownsRow w.heap.size 9 1 out n (done.map sv) ∧ Below w.heap.size w wr) (fun _ _ k _ => l.length - (intOf k).toNat)
  case atStart => exact ⟨0, 0, [], [], rfl, rfl, Nat.zero_le _, Nat.le_refl _, Nat.le_refl _, rfl, (glue_nil l).symm, World.ownsRow_nil _ _ _ _, Below.refl _ _⟩
  case round =>
    obtain ⟨K, n, done, cur, rfl, rfl, hK, hn, hcur, HD, HG, hown, hbel⟩ := hrel
    have hc4 : (n + 1) * 16 ≤ 140737488355328 := by omega
    have hc5 : w.heap.size ≤ (wr.alloc (.cells #[.string (str cur)] 9)).heap.size := by have := hbel.size; simp; omega
    have HC4 := Lib.hid hc4; clear hc4
    have HC5 := Lib.hid hc5; clear hc5
    by_cases hlt : K < l.length
    · have hltI : (K : Int) < ((str l).size : Int) := by omega
      have hk' : K < (str l).size := by omega
      obtain ⟨b, hb⟩ : ∃ b, l[K]? = some b := ⟨_, List.getElem?_eq_getElem hlt⟩
      have hg : ((str l)[K]'hk') = b := str_get8 hb hk'
      have hw1 : IntKind.i64.wrap ((K : Int) + 1) = (K : Int) + 1 := IntWalk.i64_in _ (by omega)
      by_cases h47 : b = 47
      · subst h47
        have HG2 := Lib.hid (HG.out.trans (congrArg (done ++ ·) (glue_slash hb cur)))
        go_wp2_with (at_builtin; refine wpList_append_own _ rfl _ _ 85 rfl w.heap.size 9 i0 (.string ⟨#[]⟩) 1 16 Try.underlying85 hi hz0 hz1 hz2 rfl (by decide) _ _ _ rfl (hown.alloc _) ⟨wr.heap.size, 0, none⟩ 1 1 [.string (str cur)] rfl rfl (one_new _ _ _) (one_cell_str _) (by unfold maxLen; omega) HC4.out HC5.out ?_; intro v' w1 hown' hgrow hnn; clear hnn)
        have hb1 : Below w.heap.size w w1 := (hbel.alloc hbel.size _).grown hgrow HC5.out (owns_block hown)
        clear hgrow hown
        go_wp2_with fail
        refine ⟨⟨K + 1, n + 1, done ++ [cur], [], by go_num, rfl, by omega, by omega, by simp, ?_, ?_, ?_, hb1⟩, by simp [intOf]; omega⟩
        · show _ = _
          rw [List.length_append, HD.out]; rfl
        · show _ = _
          rw [HG2.out]; simp
        · rw [List.map_append]; exact hown'
      · have HG2 := Lib.hid (HG.out.trans (congrArg (done ++ ·) (glue_byte hb h47 cur)))
        have hbI : ((b.toNat : Int) == 47) = false := by
          rw [beq_eq_false_iff_ne]; intro h
          exact h47 (UInt8.toNat_inj.1 (by show b.toNat = 47; omega))
        have hsum := str_one hb cur
        have hs1 : (str cur).size ≤ 1000 := by rw [str_size]; omega
        have hs2 : ((str l).extract K (K + 1)).size ≤ 1 := by rw [ByteArray.size_extract]; omega
        go_wp2_with fail
        exact ⟨⟨K + 1, n, done, cur ++ [b], by go_num, rfl, by omega, by omega, by simp; omega, HD.out, HG2.out, hown, hbel⟩, by simp [intOf]; omega⟩
    · have hltI : ¬ (K : Int) < ((str l).size : Int) := by omega
      have HG2 := Lib.hid (HG.out.trans (congrArg (done ++ ·) (glue_end cur l (by omega))))
      go_wp2_with (at_builtin; refine wpList_append_own _ rfl _ _ 85 rfl w.heap.size 9 i0 (.string ⟨#[]⟩) 1 16 Try.underlying85 hi hz0 hz1 hz2 rfl (by decide) _ _ _ rfl (hown.alloc _) ⟨wr.heap.size, 0, none⟩ 1 1 [.string (str cur)] rfl rfl (one_new _ _ _) (one_cell_str _) (by unfold maxLen; omega) HC4.out HC5.out ?_; intro v' w1 hown' hgrow hnn; clear hnn)
      have hb1 : Below w.heap.size w w1 := (hbel.alloc hbel.size _).grown hgrow HC5.out (owns_block hown)
      go_ret
      refine ⟨_, rfl, ?_, hb1⟩
      rw [HG2.out]
      exact pt_owns (by rw [List.map_append]; exact hown') (by rw [List.length_append, HD.out]; rfl) (by omega)

end Go.Proofs.Ytebglkpejdoggaa.P8

namespace Go.Proofs.Ytebglkpejdoggaa.P8
open Go Go.RowKit Go.Shelf Go.Proofs Go.Proofs.Ytebglkpejdoggaa.B Go.Proofs.Ytebglkpejdoggaa.K
set_option linter.unusedVariables false

set_option maxHeartbeats 1000000 in
set_option maxRecDepth 100000 in
theorem parts_any (l : List UInt8) (hl : l.length ≤ 1000) (w : World) :
    Calls Try.prog 62 #[.string (str l)] w fun e w' => ∃ v, e = .returned v ∧ Pt w' v (parts l) ∧ Below w.heap.size w w' := by
  go_enter Try.func62, Try.ntmps62
  go_wp2_with fail
  refine (split_any l hl _).mono ?_
  rintro _ w1 ⟨v, rfl, hp, hb⟩
  go_wp2_with fail
  go_ret
  exact ⟨v, rfl, hp, hb⟩

/-- 'p[1:]'. -/
theorem cut_first (b off L cap : Nat) (hL : L + 1 ≤ cap) :
    ∃ o2, (L ≠ 0 → o2 = off + 1) ∧ ∀ W : World, (Instr.sliceAt 85 (.slice (some ⟨b, off, none⟩) (L + 1) cap) (some (.int .i64 1)) none none).run Try.prog W = .ok (.slice (some ⟨b, o2, none⟩) L (cap - 1)) W := by
  by_cases h : cap = 1
  · refine ⟨off, fun h2 => by omega, fun W => ?_⟩
    have he : Try.prog.underlying 85 = some (.slice (Try.prog.elem 85)) := by kernel_rfl
    have hs : (sizeOf (Try.prog.elem 85)).run Try.prog W = .ok 1 W := by kernel_rfl
    rw [run_sliceAt_slice W 85 _ _ _ _ he, run_slice_l W 85 _ _ _ he .i64 (1 : Int) (by omega) (by omega), hs]
    simp only [Result.andThen, sliced]
    rw [if_pos (by simp; omega)]
    simp
  · refine ⟨off + 1, fun _ => rfl, fun W => ?_⟩
    have he : Try.prog.underlying 85 = some (.slice (Try.prog.elem 85)) := by kernel_rfl
    have hs : (sizeOf (Try.prog.elem 85)).run Try.prog W = .ok 1 W := by kernel_rfl
    rw [run_sliceAt_slice W 85 _ _ _ _ he, run_slice_l W 85 _ _ _ he .i64 (1 : Int) (by omega) (by omega), hs]
    simp only [Result.andThen, sliced]
    rw [if_neg (by simp; omega)]
    simp [Option.map, Go.WideShapes.add_plain]

theorem Pt.cons {w : World} {v : Value} {p : List UInt8} {P : List (List UInt8)} (h : Pt w v (p :: P)) :
    ∃ b off cap v2, v = .slice (some ⟨b, off, none⟩) (P.length + 1) cap ∧ w.cell? ⟨b, off, none⟩ = some (.string (str p)) ∧ Pt w v2 P ∧
      ∀ W : World, (Instr.sliceAt 85 (.slice (some ⟨b, off, none⟩) (P.length + 1) cap) (some (.int .i64 1)) none none).run Try.prog W = .ok v2 W := by
  obtain ⟨b, off, cap, rfl, hc, hx⟩ := h
  obtain ⟨o2, h2, h3⟩ := cut_first b off P.length cap hc
  refine ⟨b, off, cap, _, rfl, hx 0 p rfl, ⟨b, o2, cap - 1, rfl, by simp at hc; omega, fun j x hj => ?_⟩, h3⟩
  have hl : P.length ≠ 0 := by
    intro h0
    have := List.eq_nil_of_length_eq_zero h0
    subst this
    simp at hj
  rw [h2 hl, Nat.add_assoc, Nat.add_comm 1 j]
  exact hx (j + 1) x (by simpa using hj)

theorem Pt.nil {w : World} {v : Value} (h : Pt w v []) : ∃ b off cap, v = .slice (some ⟨b, off, none⟩) 0 cap := by
  obtain ⟨b, off, cap, rfl, _, _⟩ := h
  exact ⟨b, off, cap, rfl⟩

end Go.Proofs.Ytebglkpejdoggaa.P8

namespace Go.Proofs.Ytebglkpejdoggaa.P8
open Go Go.RowKit Go.Shelf Go.Proofs Go.Proofs.Ytebglkpejdoggaa.B Go.Proofs.Ytebglkpejdoggaa.K
set_option linter.unusedVariables false

theorem len_one (P : List (List UInt8)) (n : Nat) (h : P.length = n) : (((n : Int) + 1) == 1) = P.isEmpty ∧ (((n : Int) + 1) == 0) = false := by
  refine ⟨?_, by rw [beq_eq_false_iff_ne]; omega⟩
  cases P with
  | nil => simp at h; subst h; rfl
  | cons a b => simp at h; rw [List.isEmpty_cons, beq_eq_false_iff_ne]; omega

theorem many_alone (q : List UInt8) (Q : List (List UInt8)) : ((q :: Q) == [many]) = (Q.isEmpty && q == many) := by
  rw [Bool.eq_iff_iff]
  cases Q <;> simp

end Go.Proofs.Ytebglkpejdoggaa.P8

namespace Go.Proofs.Ytebglkpejdoggaa.P8
open Go Go.RowKit Go.Shelf Go.Proofs Go.Proofs.Ytebglkpejdoggaa.B Go.Proofs.Ytebglkpejdoggaa.K
set_option linter.unusedVariables false

theorem allL_step (r : List UInt8 → Bool → Bool) {P : List (List UInt8)} {K : Nat} {x : List UInt8} (h : P[K]? = some x) : allL r (P.drop K) = (r x (decide (P.length ≤ K + 1)) && allL r (P.drop (K + 1))) := by
  obtain ⟨hk, rfl⟩ := List.getElem?_eq_some_iff.1 h
  rw [List.drop_eq_getElem_cons hk]
  have : (P.drop (K + 1)).isEmpty = decide (P.length ≤ K + 1) := by
    rw [Bool.eq_iff_iff, List.isEmpty_iff, List.drop_eq_nil_iff, decide_eq_true_eq]
  show (r P[K] (P.drop (K + 1)).isEmpty && allL r (P.drop (K + 1))) = _
  rw [this]

theorem part_len {l : List UInt8} {x : List UInt8} (h : x ∈ parts l) : x.length ≤ l.length := by
  induction l generalizing x with
  | nil => simp [parts] at h; subst h; simp
  | cons b l ih =>
    unfold parts at h
    split at h
    · rcases List.mem_cons.1 h with rfl | h
      · simp
      · have := ih h; simp; omega
    · cases hp : parts l with
      | nil => exact absurd hp (parts_ne l)
      | cons y ys =>
        rw [hp] at h ih
        simp only [onFirst] at h
        rcases List.mem_cons.1 h with rfl | h
        · have := ih (x := y) (by simp); simp; omega
        · have := ih (x := x) (List.mem_cons_of_mem _ h); simp; omega

theorem parts_len (l : List UInt8) : (parts l).length ≤ l.length + 1 := by
  induction l with
  | nil => simp [parts]
  | cons b l ih =>
    unfold parts
    split
    · simp; omega
    · cases hp : parts l with
      | nil => simp [onFirst]
      | cons y ys => rw [hp] at ih; simp [onFirst] at ih ⊢; omega

theorem four (n : Nat) : decide ((n : Int) ≤ 4) = decide (n ≤ 4) := by
  rw [Bool.eq_iff_iff, decide_eq_true_eq, decide_eq_true_eq]; omega

set_option maxHeartbeats 2000000 in
set_option maxRecDepth 100000 in
theorem refStream_any (l : List UInt8) (hl : l.length ≤ 9223372036854775807) (w : World) :
    Calls Try.prog 46 #[.string (str l)] w fun e w' => e = .returned (.bool (streamP l)) ∧ Below w.heap.size w w' := by
  have hsz : (str l).size = l.length := str_size l
  by_cases h32 : l.length ≤ 32
  · have hq : streamP l = (allL rS (parts l) && decide ((parts l).length ≤ 4)) := by unfold streamP rowOk; rw [decide_eq_true h32, Bool.true_and]
    have hI : ¬ (32 : Int) < (l.length : Int) := by omega
    have hml : ∀ x ∈ parts l, x.length ≤ 1000 := fun x hx => by have := part_len hx; omega
    have hpl := parts_len l
    have HC := fun W => parts_any l (by omega) W
    obtain ⟨P, hP⟩ : ∃ P, parts l = P := ⟨_, rfl⟩
    rw [hP] at hq hml hpl HC
    rw [hq]
    obtain ⟨n, hn⟩ : ∃ n, P.length = n := ⟨_, rfl⟩
    rw [hn] at hpl ⊢
    have HML := Lib.hid hml
    have HN := Lib.hid hn
    clear hP hq hml hn
    go_enter Try.func46, Try.ntmps46
    go_wp2_with fail
    refine (HC _).mono ?_
    rintro _ w1 ⟨v, rfl, hp, hb⟩
    have HP := Lib.hid hp
    obtain ⟨b, off, cap, rfl, hcap, hx⟩ := hp
    rw [HN.out] at HP ⊢
    have HB := Lib.hid hb
    clear hx hb hcap
    go_wp2_with fail
    go_loopw [4] (fun k wr => ∃ K : Nat, k = .int .i64 (K : Int) ∧ K ≤ n ∧ Hid (allL rS P = allL rS (P.drop K)) ∧ wr = w1) (fun k _ => n - (intOf k).toNat)
    case atStart => exact ⟨0, rfl, Nat.zero_le _, rfl, rfl⟩
    case round =>
      obtain ⟨K, rfl, hK, HA, rfl⟩ := hrel
      by_cases hlt : K < n
      · have hltI : (K : Int) < (n : Int) := by omega
        have hw1 : IntKind.i64.wrap ((K : Int) + 1) = (K : Int) + 1 := IntWalk.i64_in _ (by omega)
        obtain ⟨x, hx⟩ : ∃ x, P[K]? = some x := ⟨_, List.getElem?_eq_getElem (by rw [HN.out]; exact hlt)⟩
        have hs := allL_step rS hx
        rw [show rS x (decide (P.length ≤ K + 1)) = plainP x from rfl] at hs
        have hcell : wr.cell? ⟨b, off + K, none⟩ = some (.string (str x)) := by
          obtain ⟨b', off', cap', hv, _, hx'⟩ := HP.out
          simp only [Value.slice.injEq, Option.some.injEq, Addr.mk.injEq] at hv
          obtain ⟨⟨rfl, rfl, _⟩, _⟩ := hv
          exact hx' K x hx
        have hC := fun W => refPlain_any x (HML.out x (List.mem_of_getElem? hx)) W
        obtain ⟨r, hr⟩ : ∃ r, plainP x = r := ⟨_, rfl⟩
        rw [hr] at hC hs
        have HS := Lib.hid hs
        clear hs hr hx
        go_wp2_with fail
        refine (hC _).mono ?_
        rintro _ w2 ⟨rfl, rfl⟩
        cases r with
        | false =>
          go_wp2_with fail
          go_ret
          rw [HA.out, HS.out]
          exact ⟨rfl, HB.out⟩
        | true =>
          go_wp2_with fail
          go_roundw
          case rel => exact ⟨K + 1, by go_num, by omega, by show _ = _; rw [HA.out, HS.out, Bool.true_and], by first | trivial | rfl⟩
          case measure => simp [intOf]; omega
      · have hltI : ¬ (K : Int) < (n : Int) := by omega
        have ha := HA.out
        rw [List.drop_of_length_le (by rw [HN.out]; omega)] at ha
        have HA2 := Lib.hid ha; clear ha
        go_wp2_with fail
        go_ret
        rw [HA2.out]
        first | exact ⟨rfl, HB.out⟩ | exact ⟨by simp [allL, four], HB.out⟩
  · have hq : streamP l = false := by unfold streamP rowOk; rw [decide_eq_false h32, Bool.false_and]
    rw [hq]
    have hI : (32 : Int) < (l.length : Int) := by omega
    go_enter Try.func46, Try.ntmps46
    go_wp2_with fail
    go_ret
    exact ⟨rfl, Below.refl _ _⟩

end Go.Proofs.Ytebglkpejdoggaa.P8
