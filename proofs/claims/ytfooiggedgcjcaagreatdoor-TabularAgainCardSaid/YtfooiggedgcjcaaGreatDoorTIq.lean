/-
  Contracts of the program of layer 4: Parse.
  Plain mathematics of layer 4: every text has words, and every row of words a derivation.
  What the program's package infix does, call by call.
  Layer 6: expressions' texts that were shown, read back.
  Layer 6: what infix.Parse answers of any text.
-/
import Derived.Test.YtfooiggedgcjcaaGreatDoorIPRead
import Derived.Test.YtfooiggedgcjcaaGreatDoorIPSec
import Derived.Test.YtfooiggedgcjcaaGreatDoorTSb
import Derived.Test.YtfooiggedgcjcaaGreatDoorTPh
import Derived.Test.YtfooiggedgcjcaaGreatDoorTSe
namespace Go.Proofs.YtfooiggedgcjcaaGreatDoor.I
open Go Go.RowKit Go.Proofs.YtfooiggedgcjcaaGreatDoor.B Go.Proofs.YtfooiggedgcjcaaGreatDoor.K Go.Proofs.YtfooiggedgcjcaaGreatDoor.E
set_option linter.unusedVariables false

section
variable {f : Nat → Option Obj} {W0 : World} {B a : Nat} {t s : Bs} {v1 : Value} {na e : Int} {c : List In}

set_option maxHeartbeats 1000000 in
set_option maxRecDepth 100000 in
theorem end_ok (w : World) (h : Rd f W0 B t v1 na t.length s c e w) :
    Calls Tryz.prog 143 #[.pointer (some ⟨B, 0, none⟩)] w fun z w' => z = .returned (.bool true) ∧ Rd f W0 B t v1 na t.length s c e w' := by
  obtain ⟨_, ⟨c0, _, _, c3, _, _, _⟩, _, _⟩ := h.cells
  have hsz : (str t).size = t.length := str_size t
  have heq : ((t.length : Int) == (t.length : Int)) = true := by simp
  have HH := Lib.hid h
  unfold sv at c0
  clear h
  go_enter Tryz.func143, Tryz.ntmps143
  go_wp2_with fail
  go_quiet (fail)
  go_wp2_with fail
  go_ret
  exact ⟨rfl, HH.out.drewN _⟩

set_option maxHeartbeats 1000000 in
set_option maxRecDepth 100000 in
theorem end_no (w : World) (ha : a < t.length) (h : Rd f W0 B t v1 na a s c e w) :
    Calls Tryz.prog 143 #[.pointer (some ⟨B, 0, none⟩)] w fun z w' => z = .returned (.bool false) ∧ Rd f W0 B t v1 na a s c 6 w' := by
  obtain ⟨_, ⟨c0, _, _, c3, _, _, _⟩, _, _⟩ := h.cells
  have hsz : (str t).size = t.length := str_size t
  obtain ⟨n, hn⟩ : ∃ n, t.length = n := ⟨_, rfl⟩
  rw [hn] at ha hsz
  have heq : ((a : Int) == (n : Int)) = false := by rw [beq_eq_false_iff_ne]; omega
  have HF := Lib.hid (fun W hW => fail_any (f := f) (W0 := W0) (B := B) (a := a) (t := t) (s := s) (v1 := v1) (na := na) (e := e) (c := c) W 6 hW)
  have HH := Lib.hid h
  unfold sv at c0
  clear h ha hn
  go_enter Tryz.func143, Tryz.ntmps143
  go_wp2_with fail
  go_region_with (go_at_call 167; refine (HF.out _ (by first | exact HH.out.drewN _ | exact HH.out)).mono ?_; rintro _ w1 ⟨rfl, hr1⟩; have HR1 := Lib.hid hr1; clear hr1)
  all_goals
    go_wp2_with fail
    go_ret
    exact ⟨rfl, by first | exact HR1.out | exact HR1.out.drewN _⟩
end

/-- A reader as it is made. -/
theorem rd_made (w : World) (t : Bs) (v1 : Value) (na : Int) : Rd (fun _ => none) w w.heap.size t v1 na 0 [] [] 0 (w.alloc (.cells (rdCells t v1 na 0 [] (.slice none 0 0) 0) 178 (0, 0))) :=
  ⟨(Below.refl _ _).alloc (Nat.le_refl _) _, Nat.le_refl _, fun i o h => (by cases h), .slice none 0 0, heap_alloc_at _ _, World.ownsRow_nil _ _ _ _, fun k h => (by cases h)⟩

theorem own_form {w : World} {B : Nat} {c : List In} {v : Value} (h : w.ownsRow B 83 2 v c.length (pairCells c)) : ∃ av cv, v = .slice av c.length cv := by
  rcases h.2 with ⟨rfl, h0⟩ | ⟨g, cap, cur, rfl, _⟩
  · rw [h0]; exact ⟨none, 0, rfl⟩
  · exact ⟨_, _, rfl⟩

set_option maxHeartbeats 2000000 in
set_option maxRecDepth 100000 in
theorem parse_err (t : Bs) (vs : List Bs) (na : Int) (ts : List Tk) (p : Nat) (e : Int) (v1 : Value) (w : World) (hG : T.Globs w) (hlx : Lx 0 t ts) (htl : t.length ≤ 2048) (hvs : Names w v1 vs) (hvl : vs.length ≤ 1000000)
    (hpa : Pa vs na (.lv 1) ts (.err p e)) (htsl : ts.length ≤ 1000000) :
    Calls Tryz.prog 114 #[sv t, v1, .int .i64 na] w fun x w' => x = .returned (.tuple #[.slice none 0 0, .int .i64 (p : Int), .int .i64 e]) ∧ Below w.heap.size w w' := by
  have hg := hG.glob
  obtain ⟨⟨p', s'⟩, r', hts⟩ := lx_cons hlx
  have HD := Lib.hid (does_any (B := w.heap.size) (t := t) hG hvs hvl htl hpa)
  have hmade := rd_made w t v1 na
  have HA := Lib.hid (advance_any _ hg hmade (Nat.zero_le _) (hts ▸ hlx) htl)
  have hsz : (str t).size = t.length := str_size t
  have hle : ¬ 2048 < (t.length : Int) := by omega
  have HTS := Lib.hid (show ts = (p', s') :: r' ∧ ts.length ≤ 1000000 from ⟨hts, htsl⟩)
  obtain ⟨ad, cap, hv1, hvs2⟩ := hvs
  obtain ⟨n, hn⟩ : ∃ n, (vs.map sv).length = n := ⟨_, rfl⟩
  rw [hn] at hv1
  subst hv1
  unfold sv
  unfold rdCells sv at HA
  clear hg hG hlx htl hvl hpa hts htsl hmade hn hvs2
  go_enter Tryz.func114, Tryz.ntmps114
  go_wp2_with (go_at_call 141; refine HA.out.mono ?_; rintro _ w1 ⟨rfl, hr1, ha1⟩; have HR1 := Lib.hid hr1; have HA1 := Lib.hid ha1; clear hr1 ha1)
  refine (HD.out (fun _ => none) [] w1 p' s' r' HTS.out.1 HA1.out HR1.out (by have := HTS.out.2; simp only [List.length_nil]; omega)).mono ?_
  rintro _ w2 ⟨rfl, s2, c2, hr2⟩
  obtain ⟨_, ⟨_, _, _, c3, _, _, c6⟩, _, _⟩ := hr2.cells
  have HB2 := Lib.hid hr2.below
  clear hr2 HD HTS HR1 HA1 HA
  go_wp2_with fail
  go_quiet (fail)
  go_wp2_with fail
  go_ret3
  exact ⟨rfl, below_drewN HB2.out _⟩

set_option maxHeartbeats 2000000 in
set_option maxRecDepth 100000 in
theorem parse_more (t : Bs) (vs : List Bs) (na : Int) (ts : List Tk) (c : List In) (q : Nat) (s : Bs) (r : List Tk) (hs0 : q < t.length) (v1 : Value) (w : World) (hG : T.Globs w) (hlx : Lx 0 t ts) (htl : t.length ≤ 2048) (hvs : Names w v1 vs) (hvl : vs.length ≤ 1000000)
    (hpa : Pa vs na (.lv 1) ts (.ok c ((q, s) :: r))) (htsl : ts.length ≤ 1000000) :
    Calls Tryz.prog 114 #[sv t, v1, .int .i64 na] w fun x w' => x = .returned (.tuple #[.slice none 0 0, .int .i64 (q : Int), .int .i64 6]) ∧ Below w.heap.size w w' := by
  have hg := hG.glob
  obtain ⟨⟨p', s'⟩, r', hts⟩ := lx_cons hlx
  have HD := Lib.hid (does_any (B := w.heap.size) (t := t) hG hvs hvl htl hpa)
  have hmade := rd_made w t v1 na
  have HA := Lib.hid (advance_any _ hg hmade (Nat.zero_le _) (hts ▸ hlx) htl)
  have hsz : (str t).size = t.length := str_size t
  have hle : ¬ 2048 < (t.length : Int) := by omega
  have HTS := Lib.hid (show ts = (p', s') :: r' ∧ ts.length ≤ 1000000 from ⟨hts, htsl⟩)
  obtain ⟨ad, cap, hv1, hvs2⟩ := hvs
  obtain ⟨n, hn⟩ : ∃ n, (vs.map sv).length = n := ⟨_, rfl⟩
  rw [hn] at hv1
  subst hv1
  unfold sv
  unfold rdCells sv at HA
  clear hg hG hlx htl hvl hpa hts htsl hmade hn hvs2
  go_enter Tryz.func114, Tryz.ntmps114
  go_wp2_with (go_at_call 141; refine HA.out.mono ?_; rintro _ w1 ⟨rfl, hr1, ha1⟩; have HR1 := Lib.hid hr1; have HA1 := Lib.hid ha1; clear hr1 ha1)
  refine (HD.out (fun _ => none) [] w1 p' s' r' HTS.out.1 HA1.out HR1.out (by have := HTS.out.2; simp only [List.length_nil]; omega)).mono ?_
  rintro _ w2 ⟨rfl, p2, s2, r2, e2, a2, hr2⟩
  cases e2
  have hq : q < t.length := hs0
  have HE := Lib.hid (end_no w2 hq hr2)
  clear hr2 HD HTS HR1 HA1 HA a2 hq hs0
  go_wp2_with (go_at_call 143; refine HE.out.mono ?_; rintro _ w3 ⟨rfl, hr3⟩; obtain ⟨_, ⟨_, _, _, c3, _, _, c6⟩, _, _⟩ := hr3.cells; have HB3 := Lib.hid hr3.below; clear hr3)
  go_quiet (fail)
  go_wp2_with fail
  go_ret3
  exact ⟨rfl, below_drewN HB3.out _⟩

end Go.Proofs.YtfooiggedgcjcaaGreatDoor.I

namespace Go.Proofs.YtfooiggedgcjcaaGreatDoor.I
open Go Go.Proofs.YtfooiggedgcjcaaGreatDoor.E
set_option linter.unusedVariables false

/-- What is known of a word. -/
def Wf (s : Bs) : Prop := (∀ y, s = 36 :: y → ∃ k, k < 10 ∧ s = [36] ++ dig k) ∧ ∀ d y, s = d :: y → letter d = true → s.length ≤ 24
/-- Words up to an empty one. -/
def Wt : List Tk → Prop
  | [] => False
  | (_, s) :: r => (s = [] ∧ r = []) ∨ (s ≠ [] ∧ Wf s ∧ Wt r)

theorem wordLen_le (u : Bs) : wordLen u ≤ u.length := by
  cases u with
  | nil => exact Nat.le_refl _
  | cons c r =>
    simp only [wordLen, List.length_cons]
    have h1 := (List.takeWhile_prefix (l := r) idc).length_le
    have h2 := (List.takeWhile_prefix (l := r) digit).length_le
    split
    · omega
    · split
      · omega
      · split
        · cases r with
          | nil => simp
          | cons d r' => simp only [List.length_cons]; split <;> omega
        · split
          · rename_i h
            cases r with
            | nil => simp at h
            | cons d r' => simp
          · split <;> omega
theorem all_take {p : UInt8 → Bool} : ∀ (l : Bs) (n : Nat), n ≤ (l.takeWhile p).length → ∀ x ∈ l.take n, p x = true
  | [], n, _, x, hx => by simp at hx
  | c :: l, 0, _, x, hx => by simp at hx
  | c :: l, n + 1, h, x, hx => by
    rw [List.takeWhile_cons] at h
    split at h
    · rename_i hc
      rw [List.take_succ_cons] at hx
      rcases List.mem_cons.1 hx with rfl | hx
      · exact hc
      · exact all_take l n (by simpa using h) x hx
    · simp at h

theorem lx_total : ∀ (N : Nat) (u : Bs) (p : Nat), u.length ≤ N → ∃ ts, Lx p u ts ∧ Wt ts
  | 0, u, p, h => by
    obtain rfl : u = [] := List.length_eq_zero_iff.1 (Nat.le_zero.1 h)
    exact ⟨_, Lx.nil p, Or.inl ⟨rfl, rfl⟩⟩
  | N + 1, [], p, h => ⟨_, Lx.nil p, Or.inl ⟨rfl, rfl⟩⟩
  | N + 1, c :: r, p, h => by
    simp only [List.length_cons] at h
    by_cases h32 : c = 32
    · subst h32
      obtain ⟨ts, h1, h2⟩ := lx_total N r (p + 1) (by omega)
      exact ⟨ts, Lx.blank p r ts h1, h2⟩
    by_cases h0 : wordLen (c :: r) = 0
    · exact ⟨_, Lx.bad p c r h32 h0, Or.inl ⟨rfl, rfl⟩⟩
    have hle := wordLen_le (c :: r)
    by_cases hlong : letter c = true ∧ 24 < wordLen (c :: r)
    · have hw : ((c :: r).take 24).length = 24 := by rw [List.length_take]; omega
      have hsp : (c :: r).take 24 ++ (c :: r).drop 24 = c :: r := List.take_append_drop _ _
      obtain ⟨ts, h1, h2⟩ := lx_total N ((c :: r).drop 24) (p + ((c :: r).take 24).length) (by rw [List.length_drop, List.length_cons]; omega)
      have hall : ((c :: r).take 24).all idc = true := List.all_eq_true.2 (all_take (c :: r) 24 (by
        have hc : idc c = true := by rw [idc_of, hlong.1]; rfl
        rw [List.takeWhile_cons, if_pos hc, List.length_cons]
        have := hlong.2
        simp only [wordLen, hlong.1, if_true] at this
        omega))
      have := Lx.long p _ _ ts hw hall ⟨c, r.take 23, rfl, hlong.1⟩ h1
      rw [hsp] at this
      refine ⟨_, this, Or.inr ⟨by rw [List.take_succ_cons]; simp, ⟨fun y hy => ?_, fun d y _ _ => by rw [hw]; exact Nat.le_refl _⟩, h2⟩⟩
      rw [List.take_succ_cons] at hy
      injection hy with e1 _
      rw [e1] at hlong
      exact absurd hlong.1 (by decide)
    · obtain ⟨n, hn⟩ : ∃ n, wordLen (c :: r) = n := ⟨_, rfl⟩
      rw [hn] at h0 hle hlong
      have hw : ((c :: r).take n).length = n := by rw [List.length_take]; omega
      have hsp : (c :: r).take n ++ (c :: r).drop n = c :: r := List.take_append_drop _ _
      obtain ⟨ts, h1, h2⟩ := lx_total N ((c :: r).drop n) (p + ((c :: r).take n).length) (by rw [List.length_drop, List.length_cons]; omega)
      obtain ⟨m, rfl⟩ : ∃ m, n = m + 1 := ⟨n - 1, by omega⟩
      have := Lx.word p _ _ ts (by rw [List.take_succ_cons]; simp) (by rw [List.take_succ_cons]; simp [h32]) (by rw [hsp, hw, hn]) h1
      rw [hsp] at this
      refine ⟨_, this, Or.inr ⟨by rw [List.take_succ_cons]; simp, ⟨fun y hy => ?_, fun d y hy hd => ?_⟩, h2⟩⟩
      · rw [List.take_succ_cons] at hy
        injection hy with e1 e2
        subst e1
        cases r with
        | nil => simp [wordLen, letter, digit] at hn
        | cons d r' =>
          have hd : digit d = true ∧ m = 1 := by
            cases hd : digit d with
            | false => rw [show wordLen (36 :: d :: r') = 0 by simp [wordLen, letter, hd, show digit 36 = false by decide]] at hn; omega
            | true => rw [show wordLen (36 :: d :: r') = 2 by simp [wordLen, letter, hd, show digit 36 = false by decide]] at hn; exact ⟨rfl, by omega⟩
          obtain ⟨hd, rfl⟩ := hd
          have hr : 48 ≤ d.toNat ∧ d.toNat ≤ 57 := of_decide_eq_true hd
          refine ⟨d.toNat - 48, by omega, ?_⟩
          rw [dig_small _ (by omega)]
          have : UInt8.ofNat (48 + (d.toNat - 48)) = d := by rw [show 48 + (d.toNat - 48) = d.toNat by omega]; simp
          rw [this]
          rfl
      · rw [List.take_succ_cons] at hy
        injection hy with e1 e2
        subst e1
        rw [hw]
        have : ¬ 24 < m + 1 := fun h => hlong ⟨hd, h⟩
        omega

def Gd (l : List Tk) : Rs → Prop | .ok _ r => Wt r ∧ r.length < l.length | .err _ _ => True
def Gl (l : List Tk) : Rs → Prop | .ok _ r => Wt r ∧ r.length ≤ l.length | .err _ _ => True
theorem gd_con (p : Nat) (s : Bs) (r l : List Tk) (h : Wt r) (hl : r.length < l.length) : Gd l (conR p s r) := by
  unfold conR
  split
  · split
    · exact ⟨h, hl⟩
    · trivial
  · trivial
theorem wt_cons {l : List Tk} (h : Wt l) : ∃ p s r, l = (p, s) :: r ∧ ((s = [] ∧ r = []) ∨ (s ≠ [] ∧ Wf s ∧ Wt r)) := by
  cases l with
  | nil => cases h
  | cons a r => exact ⟨a.1, a.2, r, rfl, h⟩

section
variable {vs : List Bs} {na : Int}

/-- Operands of a call, all of them there. -/
inductive ArOk (vs : List Bs) (na : Int) : Nat → Bs → List Tk → List In → List Tk → Prop
  | nil (ah : Bs) (q : Nat) (r : List Tk) : ArOk vs na 0 ah ((q, [41]) :: r) [] r
  | cons (n : Nat) (ah : Bs) (q : Nat) (l : List Tk) (c : List In) (r : List Tk) (c' : List In) (r' : List Tk) : Pa vs na (.lv 1) l (.ok c r) → ArOk vs na n [44] r c' r' → ArOk vs na (n + 1) ah ((q, ah) :: l) (c ++ c') r'
theorem arOk_zero {ah : Bs} {l r : List Tk} {c : List In} (h : ArOk vs na 0 ah l c r) : ∃ q, l = (q, [41]) :: r ∧ c = [] := by
  cases h with
  | nil => exact ⟨_, rfl, rfl⟩
theorem arOk_succ {n : Nat} {ah : Bs} {l r : List Tk} {c : List In} (h : ArOk vs na (n + 1) ah l c r) : ∃ q l1 c1 r1 c2, l = (q, ah) :: l1 ∧ Pa vs na (.lv 1) l1 (.ok c1 r1) ∧ ArOk vs na n [44] r1 c2 r ∧ c = c1 ++ c2 := by
  cases h with
  | cons n ah q l c r c' r' h1 h2 => exact ⟨_, _, _, _, _, rfl, h1, h2, rfl⟩

theorem args_total {N : Nat} (ih : ∀ l : List Tk, l.length ≤ N → Wt l → ∃ x, Pa vs na (.lv 1) l x ∧ Gd l x) : ∀ (n : Nat) (ah : Bs) (l : List Tk), ah ≠ [] → l.length ≤ N → Wt l → (∃ p e, Pa vs na (.ar n ah) l (.err p e)) ∨ ∃ c r, ArOk vs na n ah l c r ∧ Wt r ∧ r.length < l.length
  | 0, ah, l, ha, hl, hw => by
    obtain ⟨p, s, r, rfl, h⟩ := wt_cons hw
    by_cases hs : s = [41]
    · subst hs
      rcases h with h | h
      · cases h.1
      · exact Or.inr ⟨[], r, ArOk.nil ah p r, h.2.2, by simp⟩
    · exact Or.inl ⟨_, _, Pa.arEnd ah p s r hs⟩
  | n + 1, ah, l, ha, hl, hw => by
    obtain ⟨p, s, r, rfl, h⟩ := wt_cons hw
    by_cases hs : s = ah
    · subst hs
      rcases h with h | h
      · exact absurd h.1 ha
      · simp only [List.length_cons] at hl
        obtain ⟨x, hx, hg⟩ := ih r (by omega) h.2.2
        cases x with
        | err q e => exact Or.inl ⟨_, _, Pa.arErr n s p r q e hx⟩
        | ok c r2 =>
          have hr2 : r2.length < r.length := hg.2
          rcases args_total ih n [44] r2 (by decide) (by omega) hg.1 with ⟨q, e, h2⟩ | ⟨c', r3, h2, h3, h4⟩
          · exact Or.inl ⟨_, _, Pa.arGo n s p r c r2 q e hx h2⟩
          · exact Or.inr ⟨_, r3, ArOk.cons n s p r c r2 c' r3 hx h2, h3, by simp only [List.length_cons]; omega⟩
    · exact Or.inl ⟨_, _, Pa.arMis n ah p s r hs⟩

theorem first_at {X : Type} [DecidableEq X] : ∀ (l : List X) (s : X), s ∈ l → ∃ k : Nat, l[k]? = some s ∧ ∀ j, j < k → l[j]? ≠ some s
  | [], s, h => by cases h
  | x :: l, s, h => by
    by_cases e : x = s
    · exact ⟨0, by rw [e]; rfl, fun j hj => absurd hj (Nat.not_lt_zero _)⟩
    · obtain ⟨k, h1, h2⟩ := first_at l s ((List.mem_cons.1 h).resolve_left (Ne.symm e))
      refine ⟨k + 1, by simpa using h1, fun j hj => ?_⟩
      cases j with
      | zero => simp [e]
      | succ j => simpa using h2 j (by omega)

theorem opAt_nil (k : Nat) : opAt k [] = none := opAt_none k [] (by decide)

theorem atom_total {N : Nat} (ih : ∀ l : List Tk, l.length ≤ N → Wt l → ∃ x, Pa vs na (.lv 1) l x ∧ Gd l x) (l : List Tk) (hl : l.length ≤ N + 1) (hw : Wt l) : ∃ x, Pa vs na .atom l x ∧ Gd l x := by
  obtain ⟨p, s, r, rfl, h⟩ := wt_cons hw
  simp only [List.length_cons] at hl
  rcases h with ⟨rfl, rfl⟩ | ⟨hne, hf, hr⟩
  · exact ⟨_, Pa.aEnd p, trivial⟩
  obtain ⟨d, y, rfl⟩ : ∃ d y, s = d :: y := List.exists_cons_of_ne_nil hne
  by_cases hd : digit d = true
  · exact ⟨_, Pa.wNum p d y r hd, gd_con _ _ _ _ hr (by simp)⟩
  have hd' : digit d = false := by simpa using hd
  by_cases h36 : d = 36
  · subst h36
    obtain ⟨k, hk, hs⟩ := hf.1 y rfl
    rw [hs]
    by_cases hna : (k : Int) < na
    · exact ⟨_, Pa.aArg p k r hna hk, hr, by simp⟩
    · exact ⟨_, Pa.aOver p k r (by omega) hk, trivial⟩
  by_cases h40 : d :: y = [40]
  · rw [h40]
    obtain ⟨x, hx, hg⟩ := ih r (by omega) hr
    cases x with
    | err q e => exact ⟨_, Pa.aParErr p r q e hx, trivial⟩
    | ok c r2 =>
      obtain ⟨h1, h2⟩ := hg
      obtain ⟨q, u, r3, rfl, h3⟩ := wt_cons h1
      by_cases hu : u = [41]
      · subst hu
        rcases h3 with h3 | h3
        · cases h3.1
        · exact ⟨_, Pa.aPar p r c q r3 hx, h3.2.2, by simp only [List.length_cons] at h2 ⊢; omega⟩
      · exact ⟨_, Pa.aParMis p r c q u r3 hx hu, trivial⟩
  by_cases hnm : isName (d :: y) = true
  · by_cases hv : d :: y ∈ vs
    · obtain ⟨k, h1, h2⟩ := first_at vs _ hv
      exact ⟨_, Pa.aVar p k _ r h1 hnm h2, hr, by simp⟩
    · exact ⟨_, Pa.aNone p _ r hnm hv, trivial⟩
  have hnm' : isName (d :: y) = false := by simpa using hnm
  by_cases hc : ∃ o n, IsCall (d :: y) o n
  · obtain ⟨o, n, hc⟩ := hc
    rcases args_total ih n [40] r (by decide) (by omega) hr with ⟨q, e, h2⟩ | ⟨c, r2, h2, h3, h4⟩
    · exact ⟨_, Pa.aCallErr o n p _ r q e hc h2, trivial⟩
    · have hg : r2.length < ((p, d :: y) :: r).length := by simp only [List.length_cons]; omega
      have two : ∀ o : Int, (o = 9 ∨ o = 10) → ArOk vs na 2 [40] r c r2 → ∃ x, Pa vs na .atom ((p, if o = 9 then wmin else wmax) :: r) x ∧ Gd ((p, d :: y) :: r) x := by
        intro o ho h2
        obtain ⟨q, l1, c1, r1, c2, rfl, a1, a2, rfl⟩ := arOk_succ h2
        obtain ⟨q', l2, c3, r3, c4, rfl, a3, a4, rfl⟩ := arOk_succ a2
        obtain ⟨q'', rfl, rfl⟩ := arOk_zero a4
        exact ⟨_, Pa.aTwo o p q l1 c1 q' l2 c3 q'' r2 ho a1 a3, h3, hg⟩
      unfold IsCall at hc
      rcases hc with ⟨e, rfl, rfl⟩ | ⟨e, rfl, rfl⟩ | ⟨e, rfl, rfl⟩
      · have := two 9 (Or.inl rfl) h2
        rw [if_pos rfl] at this
        rw [e] at this ⊢
        exact this
      · have := two 10 (Or.inr rfl) h2
        rw [if_neg (by decide)] at this
        rw [e] at this ⊢
        exact this
      · obtain ⟨q, l1, c1, r1, c2, rfl, a1, a2, rfl⟩ := arOk_succ h2
        obtain ⟨q', l2, c3, r3, c4, rfl, a3, a4, rfl⟩ := arOk_succ a2
        obtain ⟨q'', l4, c5, r5, c6, rfl, a5, a6, rfl⟩ := arOk_succ a4
        obtain ⟨q4, rfl, rfl⟩ := arOk_zero a6
        rw [e] at hg ⊢
        exact ⟨_, Pa.aIf p q l1 c1 q' l2 c3 q'' l4 c5 q4 r2 a1 a3 a5, h3, hg⟩
  · refine ⟨_, Pa.aElse p d y r h40 hd' h36 ?_ hnm' (fun e => hc ⟨9, 2, Or.inl ⟨e, rfl, rfl⟩⟩) (fun e => hc ⟨10, 2, Or.inr (Or.inl ⟨e, rfl, rfl⟩)⟩) (fun e => hc ⟨16, 3, Or.inr (Or.inr ⟨e, rfl, rfl⟩)⟩), trivial⟩
    cases hq : letter d with
    | false => exact Or.inr rfl
    | true => exact Or.inl (hf.2 d y rfl hq)

/-- Of words of which shorter rows can be read: what follows an operand. -/
theorem lo_total {N : Nat} (ih : ∀ l : List Tk, l.length ≤ N → Wt l → ∀ k, 1 ≤ k → k ≤ 6 → ∃ x, Pa vs na (.lv k) l x ∧ Gd l x) : ∀ (M : Nat) (r : List Tk), r.length ≤ M → M ≤ N + 1 → Wt r → ∀ (k : Nat) (m : Bool) (c : List In), 1 ≤ k → k ≤ 5 → ∃ x, Pa vs na (.lo k m c) r x ∧ Gl r x
  | 0, r, hr, _, hw, _, _, _, _, _ => by
    obtain rfl : r = [] := List.length_eq_zero_iff.1 (Nat.le_zero.1 hr)
    cases hw
  | M + 1, r, hr, hM, hw, k, m, c, h1, h5 => by
    have hw0 := hw
    obtain ⟨q, s, r1, rfl, h⟩ := wt_cons hw
    simp only [List.length_cons] at hr
    by_cases hm : k = 3 ∧ m = true
    · exact ⟨_, Pa.loStop k m c _ (Or.inr hm), hw0, Nat.le_refl _⟩
    cases ho : opAt k s with
    | none => exact ⟨_, Pa.loStop k m c _ (Or.inl ho), hw0, Nat.le_refl _⟩
    | some o =>
      rcases h with ⟨rfl, rfl⟩ | ⟨hne, hf, hr1⟩
      · rw [opAt_nil] at ho; cases ho
      obtain ⟨x, hx, hg⟩ := ih r1 (by omega) hr1 (k + 1) (by omega) (by omega)
      cases x with
      | err p e => exact ⟨_, Pa.loErr k m c q s o r1 p e ho hm hx, trivial⟩
      | ok d t =>
        have ht : t.length < r1.length := hg.2
        obtain ⟨x, hx2, hg2⟩ := lo_total ih M t (by omega) (by omega) hg.1 k (decide (k = 3)) (c ++ d ++ [(o, 0)]) h1 h5
        refine ⟨x, Pa.loGo k m c q s o r1 d t x ho hm hx hx2, ?_⟩
        cases x with
        | err => trivial
        | ok c' r' =>
          have : r'.length ≤ t.length := hg2.2
          exact ⟨hg2.1, by simp only [List.length_cons]; omega⟩

theorem total : ∀ (N : Nat) (l : List Tk), l.length ≤ N → Wt l → (∃ x, Pa vs na .on l x ∧ Gd l x) ∧ ∀ k, 1 ≤ k → k ≤ 6 → ∃ x, Pa vs na (.lv k) l x ∧ Gd l x
  | 0, l, hl, hw => by
    obtain rfl : l = [] := List.length_eq_zero_iff.1 (Nat.le_zero.1 hl)
    cases hw
  | N + 1, l, hl, hw => by
    have ih := fun l hl hw => total N l hl hw
    have hon : ∃ x, Pa vs na .on l x ∧ Gd l x := by
      by_cases h45 : headB l = [45]
      · obtain ⟨p, s, r, rfl, h⟩ := wt_cons hw
        obtain rfl : s = [45] := h45
        simp only [List.length_cons] at hl
        obtain ⟨_, _, hr⟩ := h.resolve_left (fun h => by cases h.1)
        by_cases hnr : near p r
        · obtain ⟨c, s, r', rfl, hc⟩ := hnr
          obtain ⟨_, _, hr'⟩ := Or.resolve_left hr (fun h => by cases h.1)
          exact ⟨_, Pa.wNeg p c s r' hc, gd_con _ _ _ _ hr' (by simp only [List.length_cons]; omega)⟩
        · obtain ⟨x, hx, hg⟩ := (ih r (by omega) hr).1
          cases x with
          | err q e => exact ⟨_, Pa.negErr p r q e hnr hx, trivial⟩
          | ok c r2 => exact ⟨_, Pa.neg p r c r2 hnr hx, hg.1, by have : r2.length < r.length := hg.2; simp only [List.length_cons]; omega⟩
      · by_cases h33 : headB l = [33]
        · obtain ⟨p, s, r, rfl, h⟩ := wt_cons hw
          obtain rfl : s = [33] := h33
          simp only [List.length_cons] at hl
          obtain ⟨_, _, hr⟩ := h.resolve_left (fun h => by cases h.1)
          obtain ⟨x, hx, hg⟩ := (ih r (by omega) hr).1
          cases x with
          | err q e => exact ⟨_, Pa.nonErr p r q e hx, trivial⟩
          | ok c r2 => exact ⟨_, Pa.non p r c r2 hx, hg.1, by have : r2.length < r.length := hg.2; simp only [List.length_cons]; omega⟩
        · obtain ⟨x, hx, hg⟩ := atom_total (fun l hl hw => (ih l hl hw).2 1 (by omega) (by omega)) l hl hw
          exact ⟨x, Pa.atm l x h45 h33 hx, hg⟩
    refine ⟨hon, ?_⟩
    have down : ∀ d k, 1 ≤ k → k + d = 6 → ∃ x, Pa vs na (.lv k) l x ∧ Gd l x := by
      intro d
      induction d with
      | zero =>
        intro k h1 h6
        obtain rfl : k = 6 := by omega
        obtain ⟨x, hx, hg⟩ := hon
        exact ⟨x, Pa.six l x hx, hg⟩
      | succ d ihd =>
        intro k h1 h6
        obtain ⟨x, hx, hg⟩ := ihd (k + 1) (by omega) (by omega)
        cases x with
        | err p e => exact ⟨_, Pa.lvErr k l p e h1 (by omega) hx, trivial⟩
        | ok c r =>
          have hr : r.length < l.length := hg.2
          obtain ⟨x, hx2, hg2⟩ := lo_total (fun l hl hw => (ih l hl hw).2) r.length r (Nat.le_refl _) (by omega) hg.1 k false c h1 (by omega)
          refine ⟨x, Pa.lvGo k l c r x h1 (by omega) hx hx2, ?_⟩
          cases x with
          | err => trivial
          | ok c' r' =>
            have : r'.length ≤ r.length := hg2.2
            exact ⟨hg2.1, by omega⟩
    exact fun k h1 h6 => down (6 - k) k h1 (by omega)

/-- What a text comes to. -/
theorem text_total (vs : List Bs) (na : Int) (t : Bs) : ∃ ts x, Lx 0 t ts ∧ Pa vs na (.lv 1) ts x ∧ ∀ c r, x = .ok c r → ∃ q s r', r = (q, s) :: r' := by
  obtain ⟨ts, h1, h2⟩ := lx_total t.length t 0 (Nat.le_refl _)
  obtain ⟨x, hx, hg⟩ := (total (vs := vs) (na := na) ts.length ts (Nat.le_refl _) h2).2 1 (by omega) (by omega)
  refine ⟨ts, x, h1, hx, fun c r e => ?_⟩
  subst e
  obtain ⟨q, s, r', h, _⟩ := wt_cons hg.1
  exact ⟨q, s, r', h⟩
end
end Go.Proofs.YtfooiggedgcjcaaGreatDoor.I

namespace Go.Proofs.YtfooiggedgcjcaaGreatDoor.I
open Go Go.RowKit Go.Proofs.YtfooiggedgcjcaaGreatDoor.B Go.Proofs.YtfooiggedgcjcaaGreatDoor.K Go.Proofs.YtfooiggedgcjcaaGreatDoor.E
set_option linter.unusedVariables false

structure Contracts : Prop where
  name_ : ∀ (s : Bs) (w : World), Glob w → s.length ≤ 4611686018427387904 →
    Calls Tryz.prog 74 #[sv s] w fun e w' => e = .returned (.bool (isName s)) ∧ Below w.heap.size w w'
  show_ : ∀ (code : List In) (vs : List Bs) (na : Int) (v v1 : Value) (w : World), Glob w → SlI w v code → Names w v1 vs → (∀ i ∈ code, (-9223372036854775808 ≤ i.1 ∧ i.1 ≤ 9223372036854775807) ∧ -9223372036854775808 ≤ i.2 ∧ i.2 ≤ 9223372036854775807) →
    code.length ≤ 9223372036854775807 → vs.length ≤ 20 → (-9223372036854775808 ≤ na ∧ na ≤ 9223372036854775807) → (∀ s ∈ vs, s.length ≤ 1099511627776) →
    Calls Tryz.prog 96 #[v, v1, .int .i64 na] w fun e w' => e = .returned (.tuple #[sv (showOf vs na code).1, .int .i64 (showOf vs na code).2]) ∧ Below w.heap.size w w'

theorem contracts : Contracts where
  name_ s w hg hl := (name_any s w hg (by omega)).mono fun e w' h => ⟨h.1, h.2 ▸ Below.refl _ _⟩
  show_ code vs na v v1 w hg hs hn _ hl hv hna hV := show_any code vs na v v1 w hg hs hn hl (by omega) hna.2 hV
end Go.Proofs.YtfooiggedgcjcaaGreatDoor.I

namespace Go.Proofs.YtfooiggedgcjcaaGreatDoor.I
open Go Go.RowKit Go.Proofs.YtfooiggedgcjcaaGreatDoor.B Go.Proofs.YtfooiggedgcjcaaGreatDoor.K Go.Proofs.YtfooiggedgcjcaaGreatDoor.E
set_option linter.unusedVariables false

set_option maxHeartbeats 2000000 in
set_option maxRecDepth 100000 in
theorem parse_own (t : Bs) (vs : List Bs) (na : Int) (ts : List Tk) (c : List In) (z : Nat) (sz : Bs) (rz : List Tk) (hcl : (c.length : Int) ≤ 31) (v1 : Value) (w : World) (hG : T.Globs w) (hlx : Lx 0 t ts) (htl : t.length ≤ 2048) (hvs : Names w v1 vs) (hvl : vs.length ≤ 1000000)
    (hpa : Pa vs na (.lv 1) ts (.ok c ((z, sz) :: rz))) (hz : z = t.length) (htsl : ts.length ≤ 1000000) :
    Calls Tryz.prog 114 #[sv t, v1, .int .i64 na] w fun x w' => (∃ v, x = .returned (.tuple #[v, .int .i64 0, .int .i64 0]) ∧ w'.ownsRow (w.heap.size + 1) 83 2 v c.length (pairCells c)) ∧ Below w.heap.size w w' := by
  have hg := hG.glob
  obtain ⟨⟨p', s'⟩, r', hts⟩ := lx_cons hlx
  have HD := Lib.hid (does_any (B := w.heap.size) (t := t) hG hvs hvl htl hpa)
  have hmade := rd_made w t v1 na
  have HA := Lib.hid (advance_any _ hg hmade (Nat.zero_le _) (hts ▸ hlx) htl)
  have hsz : (str t).size = t.length := str_size t
  have hle : ¬ 2048 < (t.length : Int) := by omega
  have HTS := Lib.hid (show ts = (p', s') :: r' ∧ ts.length ≤ 1000000 from ⟨hts, htsl⟩)
  obtain ⟨ad, cap, hv1, hvs2⟩ := hvs
  obtain ⟨n, hn⟩ : ∃ n, (vs.map sv).length = n := ⟨_, rfl⟩
  rw [hn] at hv1
  subst hv1
  unfold sv
  unfold rdCells sv at HA
  clear hg hG hlx htl hvl hpa hts htsl hmade hn hvs2
  go_enter Tryz.func114, Tryz.ntmps114
  go_wp2_with (go_at_call 141; refine HA.out.mono ?_; rintro _ w1 ⟨rfl, hr1, ha1⟩; have HR1 := Lib.hid hr1; have HA1 := Lib.hid ha1; clear hr1 ha1)
  refine (HD.out (fun _ => none) [] w1 p' s' r' HTS.out.1 HA1.out HR1.out (by have := HTS.out.2; simp only [List.length_nil]; omega)).mono ?_
  rintro _ w2 ⟨rfl, p2, s2, r2, e2, a2, hr2⟩
  cases e2
  subst hz
  have HE := Lib.hid (end_ok w2 hr2)
  clear hr2 HD HTS HR1 HA1 HA a2
  go_wp2_with (go_at_call 143; refine HE.out.mono ?_; rintro _ w3 ⟨rfl, hr3⟩; obtain ⟨v, ⟨_, _, _, _, _, c5, _⟩, ho, _⟩ := hr3.cells; obtain ⟨av, cv, hv⟩ : ∃ av cv, v = .slice av c.length cv := own_form ho; subst hv; have HO := Lib.hid ho; have HB3 := Lib.hid hr3.below; clear hr3 ho)
  go_ret3
  exact ⟨⟨_, rfl, HO.out⟩, HB3.out⟩

end Go.Proofs.YtfooiggedgcjcaaGreatDoor.I
namespace Go.Proofs.YtfooiggedgcjcaaGreatDoor.T
open Go Go.RowKit Go.Proofs.YtfooiggedgcjcaaGreatDoor.B Go.Proofs.YtfooiggedgcjcaaGreatDoor.K Go.Proofs.YtfooiggedgcjcaaGreatDoor.E Go.Proofs.YtfooiggedgcjcaaGreatDoor.R
set_option linter.unusedVariables false

/-! ## One call, told twice -/

theorem runN_ended {P : Program} {m : Machine} {a b : Nat} {o : Outcome} {w : World} (h : runN P a m = .ended o w) : runN P (a + b) m = .ended o w := by
  rw [runN_add, h]
theorem steps_done {P : Program} {m : Machine} {fr : Frame} {w : World} {v : Value} (h : Steps P m (lone fr [] w)) (hl : fr.leaving P w (.returned v)) (hi : P.inits.idxOf? fr.fn = none) : ∃ n, runN P n m = .ended (.done v) w := by
  obtain ⟨n, hn⟩ := h
  refine ⟨n + 1, ?_⟩
  rw [runN_add, hn]
  show runN P 1 (lone fr [] w) = _
  simp only [runN]
  rw [step_leave_done hl hi]
theorem calls_same {P : Program} {f : FuncId} {args : Array Value} {w : World} {R1 R2 : Ending → World → Prop} (hi : P.inits.idxOf? f = none) (h1 : Calls P f args w R1) (h2 : Calls P f args w R2) (g1 : ∀ z w', R1 z w' → ∃ v, z = .returned v) (g2 : ∀ z w', R2 z w' → ∃ v, z = .returned v) :
    ∃ v w', R1 (.returned v) w' ∧ R2 (.returned v) w' := by
  obtain ⟨e1, w1, fr1, r1, c1, f1, l1⟩ := h1 []
  obtain ⟨e2, w2, fr2, r2, c2, f2, l2⟩ := h2 []
  obtain ⟨v1, rfl⟩ := g1 _ _ r1
  obtain ⟨v2, rfl⟩ := g2 _ _ r2
  obtain ⟨n1, e1⟩ := steps_done c1 l1 (by rw [f1]; exact hi)
  obtain ⟨n2, e2⟩ := steps_done c2 l2 (by rw [f2]; exact hi)
  have a1 := runN_ended (b := n2) e1
  have a2 := runN_ended (b := n1) e2
  rw [Nat.add_comm n2 n1, a1] at a2
  simp only [Stepped.ended.injEq, Outcome.done.injEq] at a2
  obtain ⟨rfl, rfl⟩ := a2
  exact ⟨v1, w1, r1, r2⟩

theorem sli_one {w : World} {v : Value} {c c' : List In} (h : SlI w v c) (h' : SlI w v c') : c = c' := by
  obtain ⟨a, cap, rfl, hc⟩ := h
  obtain ⟨a', cap', e, hc'⟩ := h'
  injection e with e1 e2 e3
  subst e1
  apply List.ext_getElem? 
  intro j
  by_cases hj : j < c.length
  · have hj' : j < c'.length := by omega
    obtain ⟨b, off, rfl, h1, h2⟩ := hc j c[j] (List.getElem?_eq_getElem hj)
    obtain ⟨b', off', e, h1', h2'⟩ := hc' j c'[j] (List.getElem?_eq_getElem hj')
    cases e
    rw [h1] at h1'
    rw [h2] at h2'
    injection h1' with h1'
    injection h2' with h2'
    injection h1' with _ h1'
    injection h2' with _ h2'
    rw [List.getElem?_eq_getElem hj, List.getElem?_eq_getElem hj']
    exact congrArg some (Prod.ext h1' h2')
  · rw [List.getElem?_eq_none (by omega), List.getElem?_eq_none (by omega)]

/-- What is asked of an expression that was shown. -/
structure Was (vs : List Bs) (na : Int) (s : Bs) (c : List In) : Prop where
  chk : (check c vs.length na).2 = 0
  txt : s = (I.showOf vs na c).1
  na10 : na ≤ 10
  apart : I.Apart vs
  names : ∀ x ∈ vs, I.isName x = true

theorem was_pa {vs : List Bs} {na : Int} {s : Bs} {c : List In} (h : Was vs na s c) : I.Lx 0 s (I.toks 0 (I.pieces vs (I.exOf c)) ++ [(s.length, [])]) ∧ I.Pa vs na (.lv 1) (I.toks 0 (I.pieces vs (I.exOf c)) ++ [(s.length, [])]) (.ok c [(s.length, [])]) ∧ s.length ≤ 2048 ∧ c.length ≤ 31 ∧ 0 ≤ na := by
  have h0 : (I.showOf vs na c).2 = 0 := by rw [I.showOf_good _ _ _ h.chk]
  obtain ⟨q0, q31, qt, q2048, qth, qnm, qcode⟩ := I.shown vs na c h0 h.na10 h.apart h.names
  have qt' : s = I.text vs (I.exOf c) := h.txt.trans qt
  refine ⟨?_, ?_, by rw [qt']; exact q2048, q31, q0⟩
  · have h := I.text_words vs (I.exOf c) qnm 0 [] (Or.inl rfl) [(s.length, [])] (by rw [← qt', Nat.zero_add]; exact I.Lx.nil _)
    rw [← qt', List.append_nil] at h
    exact h
  · have h := I.back vs na h.apart (I.exOf c) qth [(s.length, [])] (fun j _ _ => I.opAt_none j [] (by decide))
    rw [qcode] at h
    exact h

theorem was_calls {vs : List Bs} {na : Int} {s : Bs} {c : List In} (h : Was vs na s c) (hvl : vs.length ≤ 1000000) {v1 : Value} {w : World} (hg : Globs w) (hn : I.Names w v1 vs) :
    Calls Tryz.prog 114 #[sv s, v1, .int .i64 na] w fun x w' => (∃ v, x = .returned (.tuple #[v, .int .i64 0, .int .i64 0]) ∧ w'.ownsRow (w.heap.size + 1) 83 2 v c.length (pairCells c)) ∧ Below w.heap.size w w' := by
  obtain ⟨h1, h2, h3, h4, h5⟩ := was_pa h
  exact I.parse_own s vs na _ c s.length _ _ (by omega) v1 w hg h1 h3 hn hvl h2 rfl (by have := I.lx_len h1; omega)

theorem was_one {vs : List Bs} {na : Int} {s : Bs} {c c' : List In} (h : Was vs na s c) (h' : Was vs na s c') (hvl : vs.length ≤ 1000000) {v1 : Value} {w : World} (hg : Globs w) (hn : I.Names w v1 vs) : c = c' := by
  obtain ⟨v, w', ⟨⟨r, e, o⟩, -⟩, ⟨⟨r', e', o'⟩, -⟩⟩ := calls_same (by kernel_rfl) (was_calls h hvl hg hn) (was_calls h' hvl hg hn) (fun z w' ⟨⟨v, hz, _⟩, _⟩ => ⟨_, hz⟩) (fun z w' ⟨⟨v, hz, _⟩, _⟩ => ⟨_, hz⟩)
  rw [e] at e'
  injection e' with e'
  injection e' with e'
  have : r = r' := by simpa using e'
  subst this
  exact sli_one (SlI.owns o) (SlI.owns o')

open Classical in
/-- The expression that was shown so. -/
noncomputable def ipBack : Ip := fun s vs na => if h : ∃ c, Was vs na s c then some (h.choose, 0) else none
theorem ipBack_ok : IpOk ipBack where
  call := fun s vs na r v1 w hr hg hn hs hv hnm h0 ha => by
    unfold ipBack at hr
    by_cases h : ∃ c, Was vs na s c
    · rw [dif_pos h] at hr
      injection hr with hr
      subst hr
      refine (was_calls h.choose_spec (by omega) hg hn).mono fun z w' ⟨⟨v, hz, ho⟩, hb⟩ => ⟨v, 0, hz, ?_, fun _ => ?_, hb⟩
      · obtain ⟨a, c, hv⟩ := I.own_form ho
        exact ⟨_, _, _, hv⟩
      · rcases ho.2 with h5 | ⟨g, cap, cur, h5, h6, h7⟩
        · exact ⟨ho.1, Or.inl h5⟩
        · exact ⟨ho.1, Or.inr ⟨g, cap, cur, h5, by omega, h7⟩⟩
    · rw [dif_neg h] at hr; cases hr
theorem ipBack_is {vs : List Bs} {na : Int} {c : List In} (hvl : vs.length ≤ 1000000) {v1 : Value} {w : World} (hg : Globs w) (hn : I.Names w v1 vs) (hc : (check c vs.length na).2 = 0) (h10 : na ≤ 10) (hap : I.Apart vs) (hnm : ∀ x ∈ vs, I.isName x = true) : ipBack (I.showOf vs na c).1 vs na = some (c, 0) := by
  have hw : Was vs na (I.showOf vs na c).1 c := ⟨hc, rfl, h10, hap, hnm⟩
  have h : ∃ c', Was vs na (I.showOf vs na c).1 c' := ⟨c, hw⟩
  unfold ipBack
  rw [dif_pos h, was_one h.choose_spec hw hvl hg hn]
end Go.Proofs.YtfooiggedgcjcaaGreatDoor.T

namespace Go.Proofs.YtfooiggedgcjcaaGreatDoor.I
open Go Go.RowKit Go.Proofs.YtfooiggedgcjcaaGreatDoor.B Go.Proofs.YtfooiggedgcjcaaGreatDoor.K Go.Proofs.YtfooiggedgcjcaaGreatDoor.E
set_option linter.unusedVariables false

set_option maxHeartbeats 2000000 in
set_option maxRecDepth 100000 in
theorem parse_long (t : Bs) (vs : List Bs) (na : Int) (ts : List Tk) (c : List In) (z : Nat) (sz : Bs) (rz : List Tk) (hcl : (31 : Int) < (c.length : Int)) (v1 : Value) (w : World) (hG : T.Globs w) (hlx : Lx 0 t ts) (htl : t.length ≤ 2048) (hvs : Names w v1 vs) (hvl : vs.length ≤ 1000000)
    (hpa : Pa vs na (.lv 1) ts (.ok c ((z, sz) :: rz))) (hz : z = t.length) (htsl : ts.length ≤ 1000000) :
    Calls Tryz.prog 114 #[sv t, v1, .int .i64 na] w fun x w' => x = .returned (.tuple #[.slice none 0 0, .int .i64 (t.length : Int), .int .i64 4]) ∧ Below w.heap.size w w' := by
  have hg := hG.glob
  obtain ⟨⟨p', s'⟩, r', hts⟩ := lx_cons hlx
  have HD := Lib.hid (does_any (B := w.heap.size) (t := t) hG hvs hvl htl hpa)
  have hmade := rd_made w t v1 na
  have HA := Lib.hid (advance_any _ hg hmade (Nat.zero_le _) (hts ▸ hlx) htl)
  have hsz : (str t).size = t.length := str_size t
  have hle : ¬ 2048 < (t.length : Int) := by omega
  have HTS := Lib.hid (show ts = (p', s') :: r' ∧ ts.length ≤ 1000000 from ⟨hts, htsl⟩)
  obtain ⟨ad, cap, hv1, hvs2⟩ := hvs
  obtain ⟨n, hn⟩ : ∃ n, (vs.map sv).length = n := ⟨_, rfl⟩
  rw [hn] at hv1
  subst hv1
  unfold sv
  unfold rdCells sv at HA
  clear hg hG hlx htl hvl hpa hts htsl hmade hn hvs2
  go_enter Tryz.func114, Tryz.ntmps114
  go_wp2_with (go_at_call 141; refine HA.out.mono ?_; rintro _ w1 ⟨rfl, hr1, ha1⟩; have HR1 := Lib.hid hr1; have HA1 := Lib.hid ha1; clear hr1 ha1)
  refine (HD.out (fun _ => none) [] w1 p' s' r' HTS.out.1 HA1.out HR1.out (by have := HTS.out.2; simp only [List.length_nil]; omega)).mono ?_
  rintro _ w2 ⟨rfl, p2, s2, r2, e2, a2, hr2⟩
  cases e2
  subst hz
  have HE := Lib.hid (end_ok w2 hr2)
  clear hr2 HD HTS HR1 HA1 HA a2
  go_wp2_with (go_at_call 143; refine HE.out.mono ?_; rintro _ w3 ⟨rfl, hr3⟩; obtain ⟨v, ⟨_, _, _, _, _, c5, _⟩, ho, _⟩ := hr3.cells; obtain ⟨av, cv, hv⟩ : ∃ av cv, v = .slice av c.length cv := own_form ho; subst hv; have HO := Lib.hid ho; have HB3 := Lib.hid hr3.below; clear hr3 ho)
  go_ret3
  exact ⟨rfl, HB3.out⟩

set_option maxHeartbeats 1000000 in
theorem parse_big (t : Bs) (vs : List Bs) (na : Int) (v1 : Value) (w : World) (htl : 2048 < t.length) (hvs : Names w v1 vs) :
    Calls Tryz.prog 114 #[sv t, v1, .int .i64 na] w fun x w' => x = .returned (.tuple #[.slice none 0 0, .int .i64 0, .int .i64 4]) ∧ w = w' := by
  have hsz : (str t).size = t.length := str_size t
  have hle : 2048 < (t.length : Int) := by omega
  obtain ⟨ad, cap, hv1, hvs2⟩ := hvs
  subst hv1
  unfold sv
  clear htl hvs2
  go_enter Tryz.func114, Tryz.ntmps114
  go_wp2_with fail
  go_ret3
  exact ⟨rfl, rfl⟩

theorem pa_err {vs : List Bs} {na : Int} {kd : Kd} {ts : List Tk} {x : Rs} (h : Pa vs na kd ts x) : ∀ p e, x = .err p e → e ≠ 0 := by
  have con : ∀ q s r p e, conR q s r = .err p e → e ≠ 0 := by
    intro q s r p e h
    unfold conR at h
    split at h
    · split at h
      · cases h
      · cases h; decide
    · cases h; decide
  induction h with
  | six l x _ ih => exact ih
  | lvErr k l p e _ _ _ ih => exact ih
  | lvGo k l c r x _ _ _ _ _ ih => exact ih
  | loStop => intro p e h; cases h
  | loErr k m c q s o r p e _ _ _ ih => exact ih
  | loGo k m c q s o r d t x _ _ _ _ _ ih => exact ih
  | num => intro p e h; cases h
  | neg => intro p e h; cases h
  | non => intro p e h; cases h
  | atm l x _ _ _ ih => exact ih
  | aEnd => intro p e h; cases h; decide
  | aNum => intro p e h; cases h
  | aVar => intro p e h; cases h
  | aArg => intro p e h; cases h
  | aPar => intro p e h; cases h
  | aTwo => intro p e h; cases h
  | aIf => intro p e h; cases h
  | wNum p d y r _ => exact con _ _ _
  | wNeg p d y r _ => exact con _ _ _
  | negErr p l q e _ _ ih => exact ih
  | nonErr p l q e _ ih => exact ih
  | aNone => intro p e h; cases h; decide
  | aOver => intro p e h; cases h; decide
  | aElse => intro p e h; cases h; decide
  | aParErr p l q e _ ih => exact ih
  | aParMis => intro p e h; cases h; decide
  | aCallErr o n p s l q e _ _ ih => exact ih
  | arEnd => intro p e h; cases h; decide
  | arMis => intro p e h; cases h; decide
  | arErr n ah q l p e _ ih => exact ih
  | arGo n ah q l c r p e _ _ _ ih => exact ih

def Rs.sub (ts : List Tk) : Rs → Prop | .ok _ r => ∀ y ∈ r, y ∈ ts | .err _ _ => True
theorem con_sub (p : Nat) (s : Bs) (r ts : List Tk) (h : ∀ y ∈ r, y ∈ ts) : (conR p s r).sub ts := by
  unfold conR
  split
  · split
    · exact h
    · trivial
  · trivial
theorem pa_sub {vs : List Bs} {na : Int} {kd : Kd} {ts : List Tk} {x : Rs} (h : Pa vs na kd ts x) : x.sub ts := by
  induction h with
  | six l x _ ih => exact ih
  | lvErr => trivial
  | lvGo k l c r x _ _ _ _ ih1 ih2 =>
    cases x with
    | err => trivial
    | ok c' r' => exact fun y hy => ih1 y (ih2 y hy)
  | loStop => exact fun y hy => hy
  | loErr => trivial
  | loGo k m c q s o r d t x _ _ _ _ ih1 ih2 =>
    cases x with
    | err => trivial
    | ok c' r' => exact fun y hy => List.mem_cons_of_mem _ (ih1 y (ih2 y hy))
  | num => exact fun y hy => List.mem_cons_of_mem _ (List.mem_cons_of_mem _ hy)
  | neg p l c r _ _ ih => exact fun y hy => List.mem_cons_of_mem _ (ih y hy)
  | non p l c r _ ih => exact fun y hy => List.mem_cons_of_mem _ (ih y hy)
  | atm l x _ _ _ ih => exact ih
  | aEnd => trivial
  | aNum => exact fun y hy => List.mem_cons_of_mem _ hy
  | aVar => exact fun y hy => List.mem_cons_of_mem _ hy
  | aArg => exact fun y hy => List.mem_cons_of_mem _ hy
  | aPar p l c q r _ ih => exact fun y hy => List.mem_cons_of_mem _ (ih y (List.mem_cons_of_mem _ hy))
  | aTwo o p p' l c1 q r1 c2 q' r _ _ _ ih1 ih2 => exact fun y hy => List.mem_cons_of_mem _ (List.mem_cons_of_mem _ (ih1 y (List.mem_cons_of_mem _ (ih2 y (List.mem_cons_of_mem _ hy)))))
  | aIf p p' l c1 q r1 c2 q' r2 c3 q'' r _ _ _ ih1 ih2 ih3 => exact fun y hy => List.mem_cons_of_mem _ (List.mem_cons_of_mem _ (ih1 y (List.mem_cons_of_mem _ (ih2 y (List.mem_cons_of_mem _ (ih3 y (List.mem_cons_of_mem _ hy)))))))
  | wNum p d y r _ => exact con_sub _ _ _ _ fun z hz => List.mem_cons_of_mem _ hz
  | wNeg p d y r _ => exact con_sub _ _ _ _ fun z hz => List.mem_cons_of_mem _ (List.mem_cons_of_mem _ hz)
  | negErr => trivial
  | nonErr => trivial
  | aNone => trivial
  | aOver => trivial
  | aElse => trivial
  | aParErr => trivial
  | aParMis => trivial
  | aCallErr => trivial
  | arEnd => trivial
  | arMis => trivial
  | arErr => trivial
  | arGo => trivial
theorem lx_place {p : Nat} {u : Bs} {ts : List Tk} (h : Lx p u ts) : ∀ y ∈ ts, y.1 ≤ p + u.length := by
  induction h with
  | nil p => intro y hy; simp at hy; subst hy; exact Nat.le_add_right _ _
  | blank p r ts _ ih => intro y hy; have := ih y hy; simp only [List.length_cons]; omega
  | word p w r ts _ _ _ _ ih =>
    intro y hy
    rcases List.mem_cons.1 hy with rfl | hy
    · exact Nat.le_add_right _ _
    · have := ih y hy; rw [List.length_append]; omega
  | bad p c r => intro y hy; simp at hy; subst hy; exact Nat.le_add_right _ _
  | long p w r ts _ _ _ _ ih =>
    intro y hy
    rcases List.mem_cons.1 hy with rfl | hy
    · exact Nat.le_add_right _ _
    · have := ih y hy; rw [List.length_append]; omega
theorem pa_place {t : Bs} {vs : List Bs} {na : Int} {kd : Kd} {ts : List Tk} {c : List In} {q : Nat} {u : Bs} {r : List Tk} (h : Lx 0 t ts) (hp : Pa vs na kd ts (.ok c ((q, u) :: r))) : q ≤ t.length := by
  have := lx_place h (q, u) (pa_sub hp _ List.mem_cons_self)
  simpa using this
end Go.Proofs.YtfooiggedgcjcaaGreatDoor.I
namespace Go.Proofs.YtfooiggedgcjcaaGreatDoor.T
open Go Go.RowKit Go.Proofs.YtfooiggedgcjcaaGreatDoor.B Go.Proofs.YtfooiggedgcjcaaGreatDoor.K Go.Proofs.YtfooiggedgcjcaaGreatDoor.E Go.Proofs.YtfooiggedgcjcaaGreatDoor.R
set_option linter.unusedVariables false

/-- What a reading comes to. -/
def resOf (n : Nat) : I.Rs → List In × Int
  | .err _ e => ([], e)
  | .ok c ((q, _) :: _) => if q < n then ([], 6) else if 31 < c.length then ([], 4) else (c, 0)
  | .ok _ [] => ([], 6)

open Classical in
/-- What any text comes to. -/
noncomputable def ipT : Ip := fun s vs na => some (if 2048 < s.length then ([], 4) else resOf s.length (I.text_total vs na s).choose_spec.choose)

theorem own_less {w' : World} {B B' n : Nat} {v : Value} {xs : List Value} (h : w'.ownsRow B 83 2 v n xs) (hb : B' ≤ B) : w'.ownsRow B' 83 2 v n xs := by
  rcases h.2 with h5 | ⟨g, cap, cur, h5, h6, h7⟩
  · exact ⟨h.1, Or.inl h5⟩
  · exact ⟨h.1, Or.inr ⟨g, cap, cur, h5, by omega, h7⟩⟩

theorem ipT_ok : IpOk ipT where
  call := fun s vs na r v1 w hr hg hn hs hv hnm h0 ha => by
    unfold ipT at hr
    injection hr with hr
    subst hr
    by_cases hl : 2048 < s.length
    · rw [if_pos hl]
      exact (I.parse_big s vs na v1 w hl hn).mono fun z w' ⟨h1, h2⟩ => ⟨.slice none 0 0, 0, h1, ⟨_, _, _, rfl⟩, fun h => (by cases h), by rw [← h2]; exact Below.refl _ _⟩
    · rw [if_neg hl]
      obtain ⟨h1, h2, h3⟩ := (I.text_total vs na s).choose_spec.choose_spec
      obtain ⟨x, hx⟩ : ∃ x, (I.text_total vs na s).choose_spec.choose = x := ⟨_, rfl⟩
      rw [hx] at h2 h3 ⊢
      have hts := I.lx_len h1
      cases x with
      | err p e =>
        have he := I.pa_err h2 p e rfl
        exact (I.parse_err s vs na _ p e v1 w hg h1 (by omega) hn (by omega) h2 (by omega)).mono fun z w' ⟨h4, h5⟩ => ⟨.slice none 0 0, _, h4, ⟨_, _, _, rfl⟩, fun h => absurd h he, h5⟩
      | ok c r =>
        obtain ⟨q, u, r', rfl⟩ := h3 c r rfl
        show Calls _ _ _ _ fun z w' => ∃ v p, z = .returned (.tuple #[v, .int .i64 p, .int .i64 (if q < s.length then ([], 6) else if 31 < c.length then ([], 4) else (c, 0) : List In × Int).2]) ∧ _ ∧ ((if q < s.length then ([], 6) else if 31 < c.length then ([], 4) else (c, 0) : List In × Int).2 = 0 → w'.ownsRow w.heap.size 83 2 v (if q < s.length then ([], 6) else if 31 < c.length then ([], 4) else (c, 0) : List In × Int).1.length (pairCells (if q < s.length then ([], 6) else if 31 < c.length then ([], 4) else (c, 0) : List In × Int).1)) ∧ _
        by_cases hq : q < s.length
        · rw [if_pos hq]
          exact (I.parse_more s vs na _ c q u r' hq v1 w hg h1 (by omega) hn (by omega) h2 (by omega)).mono fun z w' ⟨h4, h5⟩ => ⟨.slice none 0 0, _, h4, ⟨_, _, _, rfl⟩, fun h => (by cases h), h5⟩
        · rw [if_neg hq]
          have hqe : q = s.length := by
            have := I.pa_place h1 h2
            omega
          by_cases hc : 31 < c.length
          · rw [if_pos hc]
            exact (I.parse_long s vs na _ c q u r' (by omega) v1 w hg h1 (by omega) hn (by omega) h2 hqe (by omega)).mono fun z w' ⟨h4, h5⟩ => ⟨.slice none 0 0, _, h4, ⟨_, _, _, rfl⟩, fun h => (by cases h), h5⟩
          · rw [if_neg hc]
            exact (I.parse_own s vs na _ c q u r' (by omega) v1 w hg h1 (by omega) hn (by omega) h2 hqe (by omega)).mono fun z w' ⟨⟨v, hz, ho⟩, hb⟩ => ⟨v, 0, hz, by
              obtain ⟨a, c, hv⟩ := I.own_form ho
              exact ⟨_, _, _, hv⟩, fun _ => own_less ho (by omega), hb⟩
end Go.Proofs.YtfooiggedgcjcaaGreatDoor.T
