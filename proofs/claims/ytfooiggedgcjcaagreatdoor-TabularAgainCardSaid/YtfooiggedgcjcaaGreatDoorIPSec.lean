/-
  Plain mathematics of layer 4: words as the program has them, and where they stand.
  Contract of the program's reader of layer 4: advance.
  Contract of the program's reader of layer 4: among.
  Contracts of the program's reader of layer 4: an operand more.
-/
import Derived.Test.YtfooiggedgcjcaaGreatDoorIPStep
import Derived.Deep.RegionHeld3
import Derived.Deep.DeepCutAuto
import Derived.Deep.LoopGhost
import Derived.BigQuiet
import Derived.BigCall
import Derived.BigGuard
namespace Go.Proofs.YtfooiggedgcjcaaGreatDoor.I
open Go Go.Proofs.YtfooiggedgcjcaaGreatDoor.E
set_option linter.unusedVariables false

/-- A word as the program has it: of a long one of letters the beginning. -/
def cutw (s : Bs) : Bs := match s with | c :: r => if letter c = true then (c :: r).take 24 else c :: r | [] => []

theorem take_takeWhile {p : UInt8 → Bool} (l : Bs) (n : Nat) : (l.take n).takeWhile p = (l.takeWhile p).take n := by
  induction l generalizing n with
  | nil => simp
  | cons c r ih =>
    cases n with
    | zero => simp
    | succ n =>
      rw [List.take_succ_cons, List.takeWhile_cons, List.takeWhile_cons]
      split
      · rw [List.take_succ_cons, ih]
      · simp

theorem takeWhile_len {p : UInt8 → Bool} (a b : Bs) (h : ((a ++ b).takeWhile p).length = a.length) : (a ++ b).takeWhile p = a := by
  have h1 : (a ++ b).takeWhile p <+: a ++ b := List.takeWhile_prefix p
  have h2 : a <+: a ++ b := List.prefix_append a b
  exact (List.prefix_of_prefix_length_le h1 h2 (by omega)).eq_of_length h

theorem sgn_le (r : Bs) : sgn (60 :: 61 :: r) = [60, 61] := by simp [sgn, signL, better, List.isPrefixOf, wmin, wmax, wif]
theorem sgn_lt (r : Bs) (h : r.head? ≠ some 61) : sgn (60 :: r) = [60] := by
  cases r with
  | nil => simp [sgn, signL, better, List.isPrefixOf, wmin, wmax, wif]
  | cons d r' =>
    have hd : ¬ (61 : UInt8) = d := fun e => h (by rw [← e]; rfl)
    simp [sgn, signL, better, List.isPrefixOf, wmin, wmax, wif, hd]
theorem sgn_one (c : UInt8) (r : Bs) (h : c = 43 ∨ c = 45 ∨ c = 42 ∨ c = 33 ∨ c = 38 ∨ c = 124 ∨ c = 61) : sgn (c :: r) = [c] := by
  rcases h with rfl | rfl | rfl | rfl | rfl | rfl | rfl <;> simp [sgn, signL, better, List.isPrefixOf, wmin, wmax, wif]
theorem sgn_blank (r : Bs) : sgn (32 :: r) = [] := by simp [sgn, signL, better, List.isPrefixOf, wmin, wmax, wif]

theorem wd_word (w r : Bs) (hw : w ≠ []) (hl : wordLen (w ++ r) = w.length) : wd (w ++ r) = cutw w := by
  match w, hw, hl with
  | c :: w', _, hl =>
    rw [List.cons_append] at hl ⊢
    rw [wd_cons]
    show _ = if letter c = true then (c :: w').take 24 else c :: w'
    simp only [wordLen] at hl
    by_cases h1 : letter c = true
    · rw [if_pos h1] at hl ⊢
      rw [if_pos h1]
      have h2 := takeWhile_len (p := idc) w' r (by simp only [List.length_cons] at hl; omega)
      have hc : idc c = true := by rw [idc_of, h1]; rfl
      rw [take_takeWhile, List.takeWhile_cons, if_pos hc, h2]
    · rw [if_neg h1] at hl ⊢
      rw [if_neg h1]
      by_cases h2 : digit c = true
      · rw [if_pos h2] at hl ⊢
        have h3 := takeWhile_len (p := digit) w' r (by simp only [List.length_cons] at hl; omega)
        rw [List.takeWhile_cons, if_pos h2, h3]
      · rw [if_neg h2] at hl ⊢
        by_cases h36 : c = 36
        · rw [if_pos h36] at hl
          cases hr : w' ++ r with
          | nil => rw [hr] at hl; simp at hl
          | cons d r' =>
            rw [hr] at hl
            by_cases hd : digit d = true
            · simp only [hd, if_true, List.length_cons] at hl
              have hwl : w'.length = 1 := by omega
              match w', hwl, hr with
              | [x], _, hr =>
                rw [List.singleton_append] at hr
                cases hr
                rw [if_pos ⟨h36, hd⟩]; rfl
            · simp only [if_neg hd, List.length_cons] at hl; omega
        · rw [if_neg h36] at hl
          rw [if_neg (fun h => h36 h.1)]
          by_cases h60 : c = 60 ∧ (w' ++ r).head? = some 61
          · rw [if_pos h60] at hl
            obtain ⟨rfl, h61⟩ := h60
            have hwl : w'.length = 1 := by simp only [List.length_cons] at hl; omega
            match w', hwl, h61 with
            | [x], _, h61 =>
              simp at h61; subst h61
              rw [if_neg (by decide), List.singleton_append, sgn_le]
          · rw [if_neg h60] at hl
            by_cases hs : c ∈ signs
            · rw [if_pos hs] at hl
              have hwl : w' = [] := List.eq_nil_of_length_eq_zero (by simp only [List.length_cons] at hl; omega)
              subst hwl
              rw [List.nil_append]
              simp only [signs, List.mem_cons, List.not_mem_nil, or_false] at hs
              by_cases h3 : c = 40 ∨ c = 41 ∨ c = 44
              · rw [if_pos h3]
              · rw [if_neg h3]
                by_cases hc60 : c = 60
                · subst hc60
                  exact sgn_lt r (fun h => h60 ⟨rfl, by simpa using h⟩)
                · exact sgn_one c r (by simp only [not_or] at h3; rcases hs with h | h | h | h | h | h | h | h | h | h | h <;> simp_all)
            · rw [if_neg hs] at hl
              simp only [List.length_cons] at hl; omega

theorem lx_pos {p : Nat} {u : Bs} {ts : List Tk} (h : Lx p u ts) : ∀ q s r, ts = (q, s) :: r → p ≤ q := by
  induction h with
  | nil p => intro q s r h; cases h; exact Nat.le_refl _
  | blank p r ts _ ih => intro q s r' h; have := ih q s r' h; omega
  | word p w r ts _ _ _ _ _ => intro q s r' h; cases h; exact Nat.le_refl _
  | bad p c r _ _ => intro q s r' h; cases h; exact Nat.le_refl _
  | long p w r ts _ _ _ _ _ => intro q s r' h; cases h; exact Nat.le_refl _

theorem lx_len {p : Nat} {u : Bs} {ts : List Tk} (h : Lx p u ts) : ts.length ≤ u.length + 1 := by
  induction h with
  | nil => simp
  | blank _ _ _ _ ih => simp only [List.length_cons]; omega
  | word p w r ts h1 _ _ _ ih =>
    have : 0 < w.length := List.length_pos_iff.2 h1
    simp only [List.length_cons, List.length_append]; omega
  | bad => simp
  | long p w r ts h1 _ _ _ ih => simp only [List.length_cons, List.length_append]; omega

theorem takeWhile_own {p : UInt8 → Bool} : ∀ l : Bs, (∀ x ∈ l, p x = true) → l.takeWhile p = l
  | [], _ => rfl
  | x :: l, h => by rw [List.takeWhile_cons, if_pos (h x List.mem_cons_self), takeWhile_own l fun y hy => h y (List.mem_cons_of_mem _ hy)]
theorem sgn_none (c : UInt8) (r : Bs) (h1 : letter c = false) (h2 : c ∉ signs) : sgn (c :: r) = [] := by
  have h3 : ∀ x : UInt8, letter x = true → (x == c) = false := fun x hx => beq_eq_false_iff_ne.2 (by rintro rfl; rw [hx] at h1; cases h1)
  have h4 : ∀ x : UInt8, x ∈ signs → (x == c) = false := fun x hx => beq_eq_false_iff_ne.2 (by rintro rfl; exact h2 hx)
  have e1 := h3 109 (by decide)
  have e2 := h3 105 (by decide)
  have f1 := h4 43 (by decide)
  have f2 := h4 45 (by decide)
  have f3 := h4 42 (by decide)
  have f4 := h4 33 (by decide)
  have f5 := h4 38 (by decide)
  have f6 := h4 124 (by decide)
  have f7 := h4 60 (by decide)
  have f8 := h4 61 (by decide)
  simp [sgn, signL, better, List.isPrefixOf, wmin, wmax, wif, e1, e2, f1, f2, f3, f4, f5, f6, f7, f8]
theorem wd_bad (c : UInt8) (r : Bs) (h : wordLen (c :: r) = 0) : wd (c :: r) = [] := by
  rw [wd_cons]
  simp only [wordLen] at h
  by_cases h1 : letter c = true
  · rw [if_pos h1] at h; omega
  · rw [if_neg h1] at h ⊢
    by_cases h2 : digit c = true
    · rw [if_pos h2] at h; omega
    · rw [if_neg h2] at h ⊢
      have hl : letter c = false := by simpa using h1
      by_cases h36 : c = 36
      · subst h36
        have hd : dh r = false := by
          cases r with
          | nil => rfl
          | cons d r' =>
            show digit d = false
            cases hd : digit d with
            | false => rfl
            | true => simp [hd] at h
        rw [if_neg (by rw [hd]; simp), if_neg (by decide)]
        exact sgn_none _ _ hl (by decide)
      · rw [if_neg h36] at h
        rw [if_neg (fun e => h36 e.1)]
        have hs : c ∉ signs := by
          intro hs
          rw [if_pos hs] at h
          split at h <;> cases h
        rw [if_neg (fun e => hs (by rcases e with rfl | rfl | rfl <;> decide))]
        exact sgn_none _ _ hl hs
theorem wd_long (w r : Bs) (h1 : w.length = 24) (h2 : w.all idc = true) (h3 : ∃ c x, w = c :: x ∧ letter c = true) : wd (w ++ r) = w ∧ cutw w = w := by
  obtain ⟨c, x, rfl, hc⟩ := h3
  constructor
  · rw [List.cons_append, wd_cons, if_pos hc, ← List.cons_append, List.take_append_of_le_length (by rw [h1]; exact Nat.le_refl _), List.take_of_length_le (by rw [h1]; exact Nat.le_refl _)]
    exact takeWhile_own _ (List.all_eq_true.1 h2)
  · show (if letter c = true then _ else _) = _
    rw [if_pos hc, List.take_of_length_le (by rw [h1]; exact Nat.le_refl _)]

/-- The word at p of a text is s, and r those behind it. -/
def At (t : Bs) (p : Nat) (s : Bs) (r : List Tk) : Prop := p ≤ t.length ∧ Lx p (t.drop p) ((p, s) :: r)

theorem drop_add {t u w : Bs} {p : Nat} (h : t.drop p = w ++ u) : t.drop (p + w.length) = u := by
  rw [← List.drop_drop, h, List.drop_left]

theorem At.next {t : Bs} {p : Nat} {s : Bs} {r : List Tk} (h : At t p s r) (hs : s ≠ []) : p + s.length ≤ t.length ∧ Lx (p + s.length) (t.drop (p + s.length)) r := by
  obtain ⟨hp, hl⟩ := h
  generalize hu : t.drop p = u at hl
  generalize hts : (p, s) :: r = ts at hl
  cases hl with
  | nil => cases hts; exact absurd rfl hs
  | blank _ r' _ h => subst hts; have := lx_pos h p s r rfl; omega
  | word _ w r' ts' h1 h2 h3 h4 =>
    cases hts
    rw [drop_add hu]
    have := congrArg List.length hu
    rw [List.length_drop, List.length_append] at this
    exact ⟨by omega, h4⟩
  | bad => cases hts; exact absurd rfl hs
  | long _ w r' ts' h1 h2 h3 h4 =>
    cases hts
    rw [drop_add hu]
    have := congrArg List.length hu
    rw [List.length_drop, List.length_append] at this
    exact ⟨by omega, h4⟩

theorem At.wd {t : Bs} {p : Nat} {s : Bs} {r : List Tk} (h : At t p s r) : wd (t.drop p) = cutw s := by
  obtain ⟨hp, hl⟩ := h
  generalize hu : t.drop p = u at hl ⊢
  generalize hts : (p, s) :: r = ts at hl
  cases hl with
  | nil => cases hts; rfl
  | blank _ r' _ h => subst hts; have := lx_pos h p s r rfl; omega
  | word _ w r' ts' h1 h2 h3 h4 => cases hts; exact wd_word s r' h1 h3
  | bad _ c r' h1 h2 => cases hts; exact wd_bad c r' h2
  | long _ w r' ts' h1 h2 h3 h4 => cases hts; rw [(wd_long s r' h1 h2 h3).1, (wd_long s r' h1 h2 h3).2]

theorem At.done {t : Bs} {p : Nat} {r : List Tk} (h : At t p [] r) : r = [] := by
  obtain ⟨hp, hl⟩ := h
  generalize hu : t.drop p = u at hl
  generalize hts : (p, ([] : Bs)) :: r = ts at hl
  cases hl with
  | nil => cases hts; rfl
  | blank _ r' _ h => subst hts; have := lx_pos h p [] r rfl; omega
  | word _ w r' ts' h1 h2 h3 h4 => cases hts; exact absurd rfl h1
  | bad => cases hts; rfl
  | long _ w r' ts' h1 h2 h3 h4 => cases hts; cases h1

/-- One blank less, or there. -/
theorem lx_step {t : Bs} {q p : Nat} {s : Bs} {r : List Tk} (hq : q ≤ t.length) (h : Lx q (t.drop q) ((p, s) :: r)) :
    (t[q]? = some 32 ∧ Lx (q + 1) (t.drop (q + 1)) ((p, s) :: r)) ∨ (t[q]? ≠ some 32 ∧ p = q ∧ At t p s r) := by
  have h0 := h
  generalize hu : t.drop q = u at h
  generalize hts : (p, s) :: r = ts at h
  cases h with
  | nil =>
    cases hts
    right
    have := congrArg List.length hu
    rw [List.length_drop] at this; simp at this
    exact ⟨by rw [List.getElem?_eq_none (by omega)]; simp, rfl, hq, h0⟩
  | blank _ r' _ h =>
    left
    subst hts
    have h1 : t[q]? = some 32 := by
      have := congrArg (·[0]?) hu
      simpa [List.getElem?_drop] using this
    refine ⟨h1, ?_⟩
    have : t.drop (q + 1) = r' := drop_add (w := [32]) hu
    rw [this]; exact h
  | word _ w r' ts' h1 h2 h3 h4 =>
    cases hts
    right
    refine ⟨fun h5 => h2 ?_, rfl, hq, h0⟩
    have := congrArg (·[0]?) hu
    rw [List.getElem?_drop, Nat.add_zero, h5] at this
    cases s with
    | nil => exact absurd rfl h1
    | cons c s' => simpa using this.symm
  | bad _ c r' h1 h2 =>
    cases hts
    right
    refine ⟨fun h5 => h1 ?_, rfl, hq, h0⟩
    have := congrArg (·[0]?) hu
    rw [List.getElem?_drop, Nat.add_zero, h5] at this
    simpa using this.symm
  | long _ w r' ts' h1 h2 h3 h4 =>
    cases hts
    right
    obtain ⟨c, x, rfl, hc⟩ := h3
    refine ⟨fun h5 => ?_, rfl, hq, h0⟩
    have := congrArg (·[0]?) hu
    rw [List.getElem?_drop, Nat.add_zero, h5] at this
    have e : c = 32 := by simpa using this.symm
    subst e
    cases hc
end Go.Proofs.YtfooiggedgcjcaaGreatDoor.I

namespace Go.Proofs.YtfooiggedgcjcaaGreatDoor.I
open Go Go.RowKit Go.Proofs.YtfooiggedgcjcaaGreatDoor.B Go.Proofs.YtfooiggedgcjcaaGreatDoor.K Go.Proofs.YtfooiggedgcjcaaGreatDoor.E
set_option linter.unusedVariables false

section
variable {f : Nat → Option Obj} {W0 : World} {B a p : Nat} {t s s' : Bs} {v1 : Value} {na e : Int} {c : List In} {r : List Tk}

theorem Glob.drewN {w : World} (h : Glob w) (n : Nat) : Glob (w.drewN n) := h.below (below_drewN (Below.refl _ _) n)

theorem str_at (t : Bs) (q : Nat) (d : UInt8) (h : t[q]? = some d) : ∃ (hq : q < (str t).size), (str t)[q]'hq = d := by
  obtain ⟨hq, he⟩ := List.getElem?_eq_some_iff.1 h
  exact ⟨by rw [str_size]; exact hq, by rw [str_get]; exact he⟩

set_option maxHeartbeats 2000000 in
set_option maxRecDepth 100000 in
theorem advance_any (w : World) (hg : Glob W0) (h : Rd f W0 B t v1 na a s c e w) (hle : a + s.length ≤ t.length) (hL : Lx (a + s.length) (t.drop (a + s.length)) ((p, s') :: r)) (hl : t.length ≤ 2048) :
    Calls Tryz.prog 141 #[.pointer (some ⟨B, 0, none⟩)] w fun z w' => z = .returned (.tuple #[]) ∧ Rd f W0 B t v1 na p (cutw s') c e w' ∧ At t p s' r := by
  obtain ⟨wc, hwc⟩ : ∃ x, cutw s' = x := ⟨_, rfl⟩
  rw [hwc]
  have HWC := Lib.hid hwc
  clear hwc
  obtain ⟨v, ⟨c0, _, _, c3, c4, _, _⟩, _, hfz⟩ := h.cells
  have f3 := hfz 3 (by decide)
  have hszt : (str t).size = t.length := str_size t
  have hszs : (str s).size = s.length := str_size s
  have hsum : IntKind.i64.wrap ((a : Int) + (s.length : Int)) = ((a + s.length : Nat) : Int) := by rw [show ((a + s.length : Nat) : Int) = (a : Int) + (s.length : Int) by omega]; exact IntWalk.i64_in _ (by omega)
  have hset := Lib.hid (h.set (a' := a + s.length) (s' := s) (e' := e) 3 (.int .i64 ((a + s.length : Nat) : Int)) (fun v => rfl))
  have HLX := Lib.hid hL
  have HLE := Lib.hid hle
  have HL := Lib.hid hl
  have HGL := Lib.hid hg
  clear hfz h hL hle hl hg
  unfold sv at c0 c4
  go_enter Tryz.func141, Tryz.ntmps141
  go_wp2_with fail
  go_still_tail 12, (by kernel_rfl)
  change wpList _ _ _ _ _ w.drew
  go_wp2_with fail
  go_loopg [] (t.length - (a + s.length)) (fun g wr => ∃ q, q + g = t.length ∧ Hid (Lx q (t.drop q) ((p, s') :: r)) ∧ Hid (Rd f W0 B t v1 na q s c e wr))
  case atStart => exact ⟨a + s.length, by have := HLE.out; omega, HLX, Lib.hid (hset.out.drewN 1)⟩
  case round =>
    obtain ⟨q, hq, HQ, HRQ⟩ := hrel
    clear c0 c3 c4 f3 hset
    have hqt : q ≤ t.length := by omega
    obtain ⟨v2, ⟨c0, _, _, c3, _, _, _⟩, _, hfz⟩ := HRQ.out.cells
    have f3 := hfz 3 (by decide)
    clear hfz
    unfold sv at c0
    rcases lx_step hqt HQ.out with ⟨h32, hnx⟩ | ⟨h32, hpq, hat⟩
    · have hqlt : q < t.length := by
        have := (List.getElem?_eq_some_iff.1 h32).1
        exact this
      obtain ⟨hqs, hqe⟩ := str_at t q 32 h32
      have hqI : (q : Int) < (t.length : Int) := by omega
      have hw1 : IntKind.i64.wrap ((q : Int) + 1) = ((q + 1 : Nat) : Int) := by rw [show ((q + 1 : Nat) : Int) = (q : Int) + 1 by omega]; exact IntWalk.i64_in _ (by have := HL.out; omega)
      have hset := Lib.hid (HRQ.out.set (a' := q + 1) (s' := s) (e' := e) 3 (.int .i64 ((q + 1 : Nat) : Int)) (fun v => rfl))
      have HNX := Lib.hid hnx
      clear h32 hnx
      go_wp2_with fail
      go_quiet (fail)
      go_wp2_with fail
      go_roundg (gk - 1)
      case measure => omega
      case rel => exact ⟨q + 1, by omega, HNX, Lib.hid ((HRQ.out.drewN nq).set (a' := q + 1) (s' := s) (e' := e) 3 (.int .i64 ((q : Int) + 1)) (fun v => rfl))⟩
    · subst hpq
      have HAT := Lib.hid hat
      have hwd := Lib.hid (fun W hW => wordAt_any t (t.drop p) p W hW hqt rfl (by have := HL.out; omega))
      rw [hat.wd, HWC.out] at hwd
      unfold sv at hwd
      replace hwd := Lib.hid hwd
      by_cases hend : p < t.length
      · obtain ⟨d, hd⟩ : ∃ d, t[p]? = some d := ⟨_, List.getElem?_eq_getElem hend⟩
        obtain ⟨hqs, hqe⟩ := str_at t p d hd
        have hqI : (p : Int) < (t.length : Int) := by omega
        have hne : ((d.toNat : Int) == 32) = false := by
          rw [beq_eq_false_iff_ne]; intro h; exact h32 (by rw [hd, (byte_eq d 32 (by decide)).2 (by omega)]; rfl)
        clear h32 hd hat
        have HGW := Lib.hid (HRQ.out.glob HGL.out)
        obtain ⟨_, ⟨_, _, _, _, c4, _, _⟩, _, hfz⟩ := HRQ.out.cells
        have f4 := hfz 4 (by decide)
        clear hfz
        go_wp2_with fail
        go_quiet (fail)
        go_wp2_with fail
        have hR2 := HRQ.out.drewN nq
        clear HRQ HGW c0 c3 c4 f3 f4
        generalize wr.drewN nq = wq at hR2 ⊢
        have HR2 := Lib.hid hR2
        have HGW := Lib.hid (hR2.glob HGL.out)
        obtain ⟨_, ⟨c0, _, _, c3, c4, _, _⟩, _, hfz⟩ := hR2.cells
        have f4 := hfz 4 (by decide)
        clear hfz hR2
        unfold sv at c0
        refine wp_region_still_tail 12 (by kernel_rfl) (by kernel_rfl) ?_
        simp only [List.take_succ_cons, List.take_zero, List.drop_succ_cons, List.drop_zero]
        repeat still_step
        still_call ((hwd.out _ (HGW.out.drewN 1)).mono fun e w' h => ⟨h.1, h.2.symm⟩)
        repeat still_step
        try refine wpStill_nil ?_
        change wpList _ _ _ _ _ wq.drew
        go_wp2_with fail
        go_end0
        exact ⟨rfl, (HR2.out.drewN 1).set (a' := p) (s' := wc) (e' := e) 4 (.string (str wc)) (fun v => rfl), HAT.out⟩
      · have hqI : decide ((p : Int) < (t.length : Int)) = false := decide_eq_false (by omega)
        clear h32 hat
        have HGW := Lib.hid (HRQ.out.glob HGL.out)
        obtain ⟨_, ⟨_, _, _, _, c4, _, _⟩, _, hfz⟩ := HRQ.out.cells
        have f4 := hfz 4 (by decide)
        clear hfz
        go_wp2_with fail
        go_quiet (fail)
        go_wp2_with fail
        have hR2 := HRQ.out.drewN nq
        clear HRQ HGW c0 c3 c4 f3 f4
        generalize wr.drewN nq = wq at hR2 ⊢
        have HR2 := Lib.hid hR2
        have HGW := Lib.hid (hR2.glob HGL.out)
        obtain ⟨_, ⟨c0, _, _, c3, c4, _, _⟩, _, hfz⟩ := hR2.cells
        have f4 := hfz 4 (by decide)
        clear hfz hR2
        unfold sv at c0
        refine wp_region_still_tail 12 (by kernel_rfl) (by kernel_rfl) ?_
        simp only [List.take_succ_cons, List.take_zero, List.drop_succ_cons, List.drop_zero]
        repeat still_step
        still_call ((hwd.out _ (HGW.out.drewN 1)).mono fun e w' h => ⟨h.1, h.2.symm⟩)
        repeat still_step
        try refine wpStill_nil ?_
        change wpList _ _ _ _ _ wq.drew
        go_wp2_with fail
        go_end0
        exact ⟨rfl, (HR2.out.drewN 1).set (a' := p) (s' := wc) (e' := e) 4 (.string (str wc)) (fun v => rfl), HAT.out⟩
end
end Go.Proofs.YtfooiggedgcjcaaGreatDoor.I

namespace Go.Proofs.YtfooiggedgcjcaaGreatDoor.I
open Go Go.RowKit Go.Proofs.YtfooiggedgcjcaaGreatDoor.B Go.Proofs.YtfooiggedgcjcaaGreatDoor.K Go.Proofs.YtfooiggedgcjcaaGreatDoor.E
set_option linter.unusedVariables false

/-- The sign of an instruction. -/
def sg (o : Nat) : Bs := signL.getD o []
/-- The first of the instructions whose sign a word is; 0: none. -/
def amongOf (ops : List Nat) (s : Bs) : Nat := match ops.find? (fun o => decide (s = sg o)) with | some o => o | none => 0

theorem sg_get (o : Nat) (h : o < 17) : signL[o]? = some (sg o) := by
  unfold sg
  rw [List.getD_eq_getElem?_getD, List.getElem?_eq_getElem (show o < signL.length from h)]; rfl

set_option maxHeartbeats 1000000 in
set_option maxRecDepth 100000 in
theorem among1_any (w : World) (o bx B : Nat) (s : Bs) (hg : Glob w) (ho : o < 17) (hb : w.cell? ⟨bx, 0, none⟩ = some (.pointer (some ⟨B, 0, none⟩))) (h4 : w.cell? ⟨B, 4, none⟩ = some (sv s)) :
    Calls Tryz.prog 188 #[.int .i64 (o : Int), .pointer (some ⟨bx, 0, none⟩)] w fun z w' => z = .returned (.bool (decide (s = sg o))) ∧ Below w.heap.size w w' := by
  have co := hg.cell o (sg o) (sg_get o ho)
  have hoI : (o : Int) < 17 := by omega
  have he : ((str s).toList == (str (sg o)).toList) = decide (s = sg o) := by rw [str_toList, str_toList, Bool.eq_iff_iff]; simp
  unfold sv at co h4
  clear hg
  go_enter Tryz.func188, Tryz.ntmps188
  go_wp2_with fail
  go_quiet (fail)
  go_wp2_with fail
  go_ret
  exact ⟨rfl, below_drewN (Below.refl _ _) _⟩

/-- Where the first of them is. -/
def idxOf (ops : List Nat) (s : Bs) : Int := match ops.findIdx? (fun o => decide (s = sg o)) with | some i => (i : Int) | none => -1

set_option maxHeartbeats 1000000 in
set_option maxRecDepth 100000 in
theorem indexFunc_any (w : World) (ops : List Nat) (k cap bx B : Nat) (s : Bs) (hg : Glob w) (ho : ∀ o ∈ ops, o < 17) (hl : ops.length ≤ 1000) (hS : Sl w (.slice (some ⟨k, 0, none⟩) ops.length cap) (ops.map fun (o : Nat) => Value.int .i64 (o : Int)))
    (hb : w.cell? ⟨bx, 0, none⟩ = some (.pointer (some ⟨B, 0, none⟩))) (h4 : w.cell? ⟨B, 4, none⟩ = some (sv s)) :
    Calls Tryz.prog 187 #[.slice (some ⟨k, 0, none⟩) ops.length cap, .func (.func 188) #[] #[.pointer (some ⟨bx, 0, none⟩)]] w fun z w' => z = .returned (.int .i64 (idxOf ops s)) ∧ Below w.heap.size w w' := by
  obtain ⟨n, hn⟩ : ∃ n, ops.length = n := ⟨_, rfl⟩
  have HN := Lib.hid hn
  have HL := Lib.hid hl
  have HS := Lib.hid hS
  have HO := Lib.hid ho
  have HG := Lib.hid hg
  have HB := Lib.hid hb
  have H4 := Lib.hid h4
  rw [hn] at HS ⊢
  clear hn hl hS ho hg hb h4
  go_enter Tryz.func187, Tryz.ntmps187
  go_wp2_with fail
  go_loopw [8] (fun i wr => ∃ K : Nat, i = .int .i64 (K : Int) ∧ K ≤ n ∧ Hid (Below w.heap.size w wr) ∧ Hid (∀ j o, j < K → ops[j]? = some o → s ≠ sg o)) (fun i _ => n - (intOf i).toNat)
  case atStart => exact ⟨0, rfl, Nat.zero_le _, Lib.hid (Below.refl _ _), Lib.hid (fun j o h => absurd h (Nat.not_lt_zero _))⟩
  case round =>
    obtain ⟨K, rfl, hK, HBE, HP⟩ := hrel
    by_cases hlt : K < n
    · obtain ⟨o, ho⟩ : ∃ o, ops[K]? = some o := ⟨_, List.getElem?_eq_getElem (by rw [HN.out]; exact hlt)⟩
      have hm : (ops.map fun (o : Nat) => Value.int .i64 (o : Int))[K]? = some (.int .i64 (o : Int)) := by rw [List.getElem?_map, ho]; rfl
      obtain ⟨b, off, ea, h1⟩ := (HS.out.below HBE.out).at hm
      cases ea
      have hltI : (K : Int) < (n : Int) := by omega
      have hwK : IntKind.i64.wrap ((K : Int) + 1) = (K : Int) + 1 := IntWalk.i64_in _ (by have := HL.out; have := HN.out; omega)
      have HC := Lib.hid (fun W hW1 hW2 hW3 => among1_any W o bx B s hW1 (HO.out o (List.mem_of_getElem? ho)) hW2 hW3)
      have HGW := Lib.hid (HG.out.below HBE.out)
      have HBW := Lib.hid (cell_kept HBE.out HB.out)
      have H4W := Lib.hid (cell_kept HBE.out H4.out)
      have HOK := Lib.hid ho
      clear hm ho
      rw [Nat.zero_add] at h1
      obtain ⟨x, hx⟩ : ∃ x, decide (s = sg o) = x := ⟨_, rfl⟩
      rw [hx] at HC
      have HX := Lib.hid hx
      clear hx
      cases x with
      | true =>
        go_wp2_with (go_at_call 188; refine (HC.out _ HGW.out HBW.out H4W.out).mono ?_; rintro _ w1 ⟨rfl, hb1⟩; have HB1 := Lib.hid (HBE.out.trans (hb1.mono HBE.out.size)); clear hb1)
        go_ret
        refine ⟨?_, HB1.out⟩
        have e : idxOf ops s = (K : Int) := by
          unfold idxOf
          have : ops.findIdx? (fun o => decide (s = sg o)) = some K := by
            rw [List.findIdx?_eq_some_iff_getElem]
            obtain ⟨h5, h6⟩ := List.getElem?_eq_some_iff.1 HOK.out
            refine ⟨h5, by rw [h6]; exact HX.out, fun j hj => ?_⟩
            simp only [decide_eq_true_eq]
            exact HP.out j _ hj (List.getElem?_eq_getElem (by omega))
          rw [this]
        rw [e]; rfl
      | false =>
        go_wp2_with (go_at_call 188; refine (HC.out _ HGW.out HBW.out H4W.out).mono ?_; rintro _ w1 ⟨rfl, hb1⟩; have HB1 := Lib.hid (HBE.out.trans (hb1.mono HBE.out.size)); clear hb1)
        go_roundw
        case rel =>
          refine ⟨K + 1, by go_num, by omega, HB1, Lib.hid (fun j o' hj ho' => ?_)⟩
          rcases Nat.lt_succ_iff_lt_or_eq.1 hj with h | rfl
          · exact HP.out j o' h ho'
          · rw [HOK.out] at ho'; cases ho'; exact of_decide_eq_false HX.out
        case measure => simp [intOf]; omega
    · have hltI : ¬ (K : Int) < (n : Int) := by omega
      obtain rfl : K = n := by omega
      go_wp2_with fail
      go_ret
      refine ⟨?_, HBE.out⟩
      have e : idxOf ops s = -1 := by
        unfold idxOf
        have : ops.findIdx? (fun o => decide (s = sg o)) = none := by
          rw [List.findIdx?_eq_none_iff]
          intro o ho
          obtain ⟨j, hj, rfl⟩ := List.mem_iff_getElem.1 ho
          exact decide_eq_false (HP.out j _ (by rw [← HN.out]; exact hj) (List.getElem?_eq_getElem hj))
        rw [this]
      rw [e]; rfl

theorem idx_some {ops : List Nat} {s : Bs} {i : Nat} (h : ops.findIdx? (fun o => decide (s = sg o)) = some i) : idxOf ops s = (i : Int) ∧ ∃ o, ops[i]? = some o ∧ amongOf ops s = o := by
  refine ⟨by unfold idxOf; rw [h], ?_⟩
  obtain ⟨h1, h2, h3⟩ := List.findIdx?_eq_some_iff_getElem.1 h
  refine ⟨ops[i], List.getElem?_eq_getElem h1, ?_⟩
  have hf : ops.find? (fun o => decide (s = sg o)) = some ops[i] := by
    rw [List.find?_eq_some_iff_getElem]
    exact ⟨h2, i, h1, rfl, fun j hj => by have := h3 j hj; simpa using this⟩
  unfold amongOf
  rw [hf]
theorem idx_none {ops : List Nat} {s : Bs} (h : ops.findIdx? (fun o => decide (s = sg o)) = none) : idxOf ops s = -1 ∧ amongOf ops s = 0 := by
  refine ⟨by unfold idxOf; rw [h], ?_⟩
  have hf : ops.find? (fun o => decide (s = sg o)) = none := by
    rw [List.find?_eq_none]
    intro o ho
    have := List.findIdx?_eq_none_iff.1 h o ho
    simpa using this
  unfold amongOf
  rw [hf]

section
variable {f : Nat → Option Obj} {W0 : World} {B a : Nat} {t s : Bs} {v1 : Value} {na e : Int} {c : List In}

set_option maxHeartbeats 1000000 in
set_option maxRecDepth 100000 in
theorem among_any (w : World) (hg : Glob W0) (h : Rd f W0 B t v1 na a s c e w) (ops : List Nat) (k cap : Nat) (ho : ∀ o ∈ ops, o < 17) (hl : ops.length ≤ 1000) (hS : Sl w (.slice (some ⟨k, 0, none⟩) ops.length cap) (ops.map fun (o : Nat) => Value.int .i64 (o : Int))) :
    Calls Tryz.prog 180 #[.pointer (some ⟨B, 0, none⟩), .slice (some ⟨k, 0, none⟩) ops.length cap] w fun z w' => z = .returned (.int .i64 ((amongOf ops s : Nat) : Int)) ∧ Rd f W0 B t v1 na a s c e w' := by
  obtain ⟨X, hX⟩ : ∃ X, (Obj.cells #[.pointer (some ⟨B, 0, none⟩)] 204 (0, 0)) = X := ⟨_, rfl⟩
  have hal := (Below.refl w.heap.size w).alloc (Nat.le_refl _) X
  have h2 := h.grow hal
  obtain ⟨v, ⟨_, _, _, _, c4, _, _⟩, _, _⟩ := h2.cells
  have hbx : (w.alloc X).cell? ⟨w.heap.size, 0, none⟩ = some (.pointer (some ⟨B, 0, none⟩)) := by
    rw [cell_of_row _ _ _ _ _ _ (show (w.alloc X).heap[w.heap.size]? = some (.cells #[.pointer (some ⟨B, 0, none⟩)] 204 (0, 0)) by rw [hX]; exact heap_alloc_at _ _)]
    rfl
  have HI := Lib.hid (indexFunc_any (w.alloc X) ops k cap w.heap.size B s (h2.glob hg) ho hl (hS.below hal) hbx c4)
  have H2 := Lib.hid h2
  have HS := Lib.hid (hS.below hal)
  have HL := Lib.hid hl
  subst hX
  obtain ⟨n, hn⟩ : ∃ n, ops.length = n := ⟨_, rfl⟩
  have HN := Lib.hid hn
  rw [hn] at HI HS ⊢
  clear hal h2 c4 hbx hS hl ho hn h
  cases hf : ops.findIdx? (fun o => decide (s = sg o)) with
  | none =>
    obtain ⟨e1, e2⟩ := idx_none hf
    rw [e1] at HI
    rw [e2]
    clear hf e1 e2
    go_enter Tryz.func180, Tryz.ntmps180
    go_wp2_with (go_at_call 187; refine HI.out.mono ?_; rintro _ w1 ⟨rfl, hb1⟩; have HR := Lib.hid (H2.out.grow hb1); clear hb1)
    go_ret
    exact ⟨rfl, HR.out⟩
  | some i =>
    obtain ⟨e1, o, e2, e3⟩ := idx_some hf
    have hi : i < n := by rw [← HN.out]; exact (List.getElem?_eq_some_iff.1 e2).1
    have hm : (ops.map fun (o : Nat) => Value.int .i64 (o : Int))[i]? = some (.int .i64 (o : Int)) := by rw [List.getElem?_map, e2]; rfl
    have HM := Lib.hid hm
    rw [e1] at HI
    rw [e3]
    have hiI : (i : Int) < (n : Int) := by omega
    clear hf e1 e2 e3 hm
    go_enter Tryz.func180, Tryz.ntmps180
    go_wp2_with (go_at_call 187; refine HI.out.mono ?_; rintro _ w1 ⟨rfl, hb1⟩; obtain ⟨b, off, ea, h1⟩ := (HS.out.below hb1).at HM.out; cases ea; rw [Nat.zero_add] at h1; have HR := Lib.hid (H2.out.grow hb1); clear hb1)
    go_ret
    exact ⟨rfl, HR.out⟩
end
end Go.Proofs.YtfooiggedgcjcaaGreatDoor.I

namespace Go.Proofs.YtfooiggedgcjcaaGreatDoor.I
open Go Go.RowKit Go.Proofs.YtfooiggedgcjcaaGreatDoor.B Go.Proofs.YtfooiggedgcjcaaGreatDoor.K Go.Proofs.YtfooiggedgcjcaaGreatDoor.E
set_option linter.unusedVariables false

theorem lx_cons {p : Nat} {u : Bs} {ts : List Tk} (h : Lx p u ts) : ∃ a b, ts = a :: b := by
  induction h with
  | nil => exact ⟨_, _, rfl⟩
  | blank _ _ _ _ ih => exact ih
  | word => exact ⟨_, _, rfl⟩
  | bad => exact ⟨_, _, rfl⟩
  | long => exact ⟨_, _, rfl⟩

/-- What reading comes to. -/
def Out (f : Nat → Option Obj) (W0 : World) (B : Nat) (t : Bs) (v1 : Value) (na : Int) (c0 : List In) (x : Rs) (z : Ending) (w' : World) : Prop := match x with
  | .ok c r => z = .returned (.bool true) ∧ ∃ p s r', r = (p, s) :: r' ∧ At t p s r' ∧ Rd f W0 B t v1 na p (cutw s) (c0 ++ c) 0 w'
  | .err p e => z = .returned (.bool false) ∧ ∃ s c, Rd f W0 B t v1 na p s c e w'

theorem out_ok {f : Nat → Option Obj} {W0 : World} {B : Nat} {t : Bs} {v1 : Value} {na : Int} {c0 c : List In} {r : List Tk} {w' : World} {p : Nat} {s : Bs} {r' : List Tk} (h1 : r = (p, s) :: r') (h2 : At t p s r') (h3 : Rd f W0 B t v1 na p (cutw s) (c0 ++ c) 0 w') :
    Out f W0 B t v1 na c0 (.ok c r) (.returned (.bool true)) w' := ⟨rfl, p, s, r', h1, h2, h3⟩
theorem out_err {f : Nat → Option Obj} {W0 : World} {B : Nat} {t : Bs} {v1 : Value} {na : Int} {c0 c : List In} {w' : World} {p : Nat} {s : Bs} {e : Int} (h3 : Rd f W0 B t v1 na p s c e w') :
    Out f W0 B t v1 na c0 (.err p e) (.returned (.bool false)) w' := ⟨rfl, s, c, h3⟩

/-- Function N reads, where those words stand, what x says. -/
def Opd (W0 : World) (B : Nat) (t : Bs) (v1 : Value) (na : Int) (N : Nat) (ts : List Tk) (x : Rs) : Prop :=
  ∀ (f : Nat → Option Obj) (c0 : List In) (w : World) (p : Nat) (s : Bs) (r : List Tk), ts = (p, s) :: r → At t p s r → Rd f W0 B t v1 na p (cutw s) c0 0 w → c0.length + ts.length ≤ 1000000 →
    Calls Tryz.prog N #[.pointer (some ⟨B, 0, none⟩)] w fun z w' => Out f W0 B t v1 na c0 x z w'

/-- An instruction more, if it went well. -/
def Rs.snoc (x : Rs) (i : In) : Rs := match x with | .ok c r => .ok (c ++ [i]) r | .err p e => .err p e

/-- Function N is entered as it is called. -/
def Ent (N : Nat) : Prop := ∀ args w, (callFunc N args).run Tryz.prog w = .ok (.enter N args) w

section
variable {f : Nat → Option Obj} {W0 : World} {B p : Nat} {t s : Bs} {v1 : Value} {na : Int} {c0 : List In} {r : List Tk}

set_option maxHeartbeats 1000000 in
set_option maxRecDepth 100000 in
theorem second_any (N : Nat) (hN : Ent N) (x : Rs) (hop : Opd W0 B t v1 na N r x) (w : World) (o : Int) (hg : Glob W0) (h : Rd f W0 B t v1 na p s c0 0 w) (hat : At t p s r) (hs : s ≠ []) (htl : t.length ≤ 2048)
    (hb : c0.length + r.length ≤ 1000000) (hx : ∀ d t', x = .ok d t' → d.length ≤ 1000000) :
    Calls Tryz.prog 181 #[.pointer (some ⟨B, 0, none⟩), .func (.func N) #[.pointer (some ⟨B, 0, none⟩)] #[], .int .i64 o] w fun z w' => Out f W0 B t v1 na c0 (x.snoc (o, 0)) z w' := by
  obtain ⟨h1, h2⟩ := hat.next hs
  obtain ⟨⟨p', s'⟩, r', hr⟩ := lx_cons h2
  have HA := Lib.hid (advance_any w hg h h1 (hr ▸ h2) htl)
  have HO := Lib.hid (fun W h3 h4 => hop f c0 W p' s' r' hr h3 h4 hb)
  have HX := Lib.hid hx
  have HB := Lib.hid hb
  have hN' : ∀ args w, (callFunc N args).run Tryz.prog w = .ok (.enter N args) w := hN
  clear hop h1 h2 h hat hx hN hs hg htl hb
  cases x with
  | err p1 e1 =>
    go_enter Tryz.func181, Tryz.ntmps181
    go_wp2_with (go_at_call 141; refine HA.out.mono ?_; rintro _ w1 ⟨rfl, hr1, ha1⟩; have HR1 := Lib.hid hr1; have HA1 := Lib.hid ha1; clear hr1 ha1)
    refine (HO.out _ HA1.out HR1.out).mono ?_
    rintro z w2 ⟨rfl, s2, c2, hr2⟩
    have HR2 := Lib.hid hr2
    clear hr2 HO HX
    go_wp2_with fail
    go_ret
    exact out_err HR2.out
  | ok d t' =>
    go_enter Tryz.func181, Tryz.ntmps181
    go_wp2_with (go_at_call 141; refine HA.out.mono ?_; rintro _ w1 ⟨rfl, hr1, ha1⟩; have HR1 := Lib.hid hr1; have HA1 := Lib.hid ha1; clear hr1 ha1)
    refine (HO.out _ HA1.out HR1.out).mono ?_
    rintro z w2 ⟨rfl, p2, s2, r2, ht2, ha2, hr2⟩
    have HP := Lib.hid (put_any w2 o 0 hr2 (by rw [List.length_append]; have := HX.out d t' rfl; have := HB.out; omega))
    have HA2 := Lib.hid (show t' = (p2, s2) :: r2 ∧ At t p2 s2 r2 from ⟨ht2, ha2⟩)
    clear hr2 ht2 ha2 HO HX
    go_wp2_with (go_at_call 189; refine HP.out.mono ?_; rintro _ w3 ⟨rfl, hr3⟩; have HR3 := Lib.hid hr3; clear hr3)
    go_ret
    exact out_ok HA2.out.1 HA2.out.2 (by rw [← List.append_assoc]; exact HR3.out)
end
end Go.Proofs.YtfooiggedgcjcaaGreatDoor.I
