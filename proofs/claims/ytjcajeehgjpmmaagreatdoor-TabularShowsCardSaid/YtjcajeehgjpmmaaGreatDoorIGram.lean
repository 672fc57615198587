/-
  Plain mathematics of layer 4: the grammar as derivations; the words of a shown text are derived back.
-/
import Derived.Test.YtjcajeehgjpmmaaGreatDoorEFold
namespace Go.Proofs.YtjcajeehgjpmmaaGreatDoor.I
open Go E
set_option linter.unusedVariables false
inductive Ex where
 | con (n : Int) | var (k : Nat) | arg (k : Nat) | un (o : Int) (a : Ex) | bin (o : Int) (a b : Ex) | ite (a b c : Ex)
def codeOf : Ex -> List In
 | .con n => [(1, n)] | .var k => [(2, (k : Int))] | .arg k => [(3, (k : Int))]
 | .un o a => codeOf a ++ [(o, 0)] | .bin o a b => codeOf a ++ codeOf b ++ [(o, 0)] | .ite a b c => codeOf a ++ codeOf b ++ codeOf c ++ [(16, 0)]
def WF (nv na : Int) : Ex -> Prop
 | .con n => isVal n = true | .var k => (k : Int) < nv | .arg k => (k : Int) < na
 | .un o a => (o = 4 \/ o = 5) /\ WF nv na a | .bin o a b => takes o = 2 /\ WF nv na a /\ WF nv na b | .ite a b c => WF nv na a /\ WF nv na b /\ WF nv na c
def flat (st : List Ex) : List In := (st.reverse.map codeOf).flatten
theorem flat_cons (e : Ex) (st : List Ex) : flat (e :: st) = flat st ++ codeOf e := by simp [flat]
theorem right_cases (i : In) (nv na : Int) (h : right i nv na = true) : (i.1 = 1 /\ isVal i.2 = true) \/ (i.1 = 2 /\ 0 <= i.2 /\ i.2 < nv) \/ (i.1 = 3 /\ 0 <= i.2 /\ i.2 < na) \/ (i.1 ≠ 1 /\ i.1 ≠ 2 /\ i.1 ≠ 3 /\ i.2 = 0) := by
 unfold right at h;split at h
 ·rename_i h1; exact Or.inl ⟨h1, h⟩
 ·split at h
  ·rename_i h1 h2; have := of_decide_eq_true h; exact Or.inr (Or.inl ⟨h2, this.1, this.2⟩)
  ·split at h
   ·rename_i h1 h2 h3; have := of_decide_eq_true h; exact Or.inr (Or.inr (Or.inl ⟨h3, this.1, this.2⟩))
   ·rename_i h1 h2 h3; exact Or.inr (Or.inr (Or.inr ⟨h1, h2, h3, of_decide_eq_true h⟩))
theorem takes_is (o : Int) : (o = 1 \/ o = 2 \/ o = 3) /\ takes o = 0 \/ (o = 4 \/ o = 5) /\ takes o = 1 \/ (6 <= o /\ o <= 15) /\ takes o = 2 \/ o = 16 /\ takes o = 3 \/ (o < 1 \/ 16 < o) /\ takes o = -1 := by
 unfold takes; repeat' split
 all_goals omega
theorem rows (nv na : Int) (code : List In) (h z : Int) (hc : crun nv na code h = .ok z) (st : List Ex) (hl : (st.length : Int) = h) (hw : ∀ e ∈ st, WF nv na e) :
 ∃ st', (st'.length : Int) = z /\ (∀ e ∈ st', WF nv na e) /\ flat st ++ code = flat st' := by
 induction code generalizing h st with
 | nil => simp only [crun] at hc; cases hc; exact ⟨st, hl, hw, by simp⟩
 | cons i r ih =>
  simp only [crun, cstep] at hc;split at hc
  ·cases hc
  ·split at hc
   ·cases hc
   ·split at hc
    ·cases hc
    ·rename_i t0 t1 t2
     have hr : right i nv na = true := by simpa using t1
     have hrc := right_cases i nv na hr;obtain ⟨o, x⟩ := i;simp only at t0 t2 hrc hc;have hti := takes_is o;have key : ∀ (e : Ex) (rest : List Ex), (st.length : Int) - takes o = rest.length -> WF nv na e -> (∀ e ∈ rest, WF nv na e) -> flat st ++ [(o, x)] = flat (e :: rest) ->
      ∃ st', (st'.length : Int) = z /\ (∀ e ∈ st', WF nv na e) /\ flat st ++ (o, x) :: r = flat st' := by
      intro e rest h1 h2 h3 h4;obtain ⟨st', k1, k2, k3⟩ := ih (h - takes o + 1) hc (e :: rest) (by rw [List.length_cons]; omega) (by intro e' he'; rcases List.mem_cons.1 he' with rfl | h'; exact h2; exact h3 e' h');exact ⟨st', k1, k2, by rw [<- k3, <- h4]; simp⟩
     rcases hrc with ⟨rfl, hv⟩ | ⟨rfl, hx0, hx1⟩ | ⟨rfl, hx0, hx1⟩ | ⟨n1, n2, n3, rfl⟩
     ·exact key (.con x) st (by omega) hv hw (by rw [flat_cons]; rfl)
     ·obtain ⟨k, rfl⟩ := Int.eq_ofNat_of_zero_le hx0
      exact key (.var k) st (by omega) hx1 hw (by rw [flat_cons]; rfl)
     ·obtain ⟨k, rfl⟩ := Int.eq_ofNat_of_zero_le hx0
      exact key (.arg k) st (by omega) hx1 hw (by rw [flat_cons]; rfl)
     ·rcases hti with ⟨h1, _⟩ | ⟨h1, h2⟩ | ⟨h1, h2⟩ | ⟨h1, h2⟩ | ⟨_, h2⟩
      ·omega
      ·cases st with
       | nil => simp at hl; omega
       | cons a rest =>
        exact key (.un o a) rest (by rw [List.length_cons]; omega) ⟨h1, hw a (by simp)⟩ (fun e he => hw e (by simp [he])) (by rw [flat_cons, flat_cons]; simp [codeOf])
      ·cases st with
       | nil => simp at hl; omega
       | cons b st2 =>
        cases st2 with
        | nil => simp at hl; omega
        | cons a rest =>
         exact key (.bin o a b) rest (by simp only [List.length_cons]; omega) ⟨h2, hw a (by simp), hw b (by simp)⟩ (fun e he => hw e (by simp [he])) (by rw [flat_cons, flat_cons, flat_cons]; simp [codeOf])
      ·subst h1
       cases st with
       | nil => simp at hl; omega
       | cons c st2 =>
        cases st2 with
        | nil => simp at hl; omega
        | cons b st3 =>
         cases st3 with
         | nil => simp at hl; omega
         | cons a rest =>
          exact key (.ite a b c) rest (by simp only [List.length_cons]; omega) ⟨hw a (by simp), hw b (by simp), hw c (by simp)⟩ (fun e he => hw e (by simp [he])) (by rw [flat_cons, flat_cons, flat_cons, flat_cons]; simp [codeOf])
      ·omega
theorem ex_of (code : List In) (nv na : Int) (h : (check code nv na).2 = 0) : ∃ e, WF nv na e /\ codeOf e = code := by
 obtain ⟨_, _, _, hc⟩ := check_ok code nv na h;obtain ⟨st, h1, h2, h3⟩ := rows nv na code 0 1 hc [] (by simp) (by simp);match st, h1, h2, h3 with
 | [e], _, h2, h3 => exact ⟨e, h2 e (by simp), by simpa [flat] using h3.symm⟩
 | [], h1, _, _ => simp at h1
 | _ :: _ :: _, h1, _, _ => simp at h1; omega
abbrev Bs := List UInt8
def dig (n : Nat) : Bs := if h : n < 10 then [UInt8.ofNat (48 + n)] else dig (n / 10) ++ [UInt8.ofNat (48 + n % 10)]
termination_by n
decreasing_by omega
def rank : Ex -> Nat
 | .con n => if n < 0 then 6 else 7 | .var _ => 7 | .arg _ => 7 | .un _ _ => 6 | .ite _ _ _ => 7
 | .bin o _ _ => if o = 15 then 1 else if o = 14 then 2 else if o = 11 \/ o = 12 \/ o = 13 then 3 else if o = 6 \/ o = 7 then 4 else if o = 8 then 5 else 7
def sign (o : Int) : Bs := if o = 6 then [43] else if o = 7 then [45] else if o = 8 then [42] else if o = 11 then [60] else if o = 12 then [60, 61] else if o = 13 then [61] else if o = 14 then [38] else [124]
def wmin : Bs := [109, 105, 110]
def wmax : Bs := [109, 97, 120]
def wif : Bs := [105, 102]
def wrap (r least : Nat) (p : List Bs) : List Bs := if r < least then [[40]] ++ p ++ [[41]] else p
def plainCon : Ex -> Bool | .con n => decide (0 <= n) | _ => false
def pieces (vs : List Bs) : Ex -> List Bs
 | .con n => if n < 0 then [[45], dig n.natAbs] else [dig n.natAbs]
 | .var k => [vs.getD k []]
 | .arg k => [[36] ++ dig k]
 | .un o a => if o = 4 then (if plainCon a = true then [[45], [40]] ++ pieces vs a ++ [[41]] else [[45]] ++ wrap (rank a) 6 (pieces vs a)) else [[33]] ++ wrap (rank a) 6 (pieces vs a)
 | .ite a b c => [wif, [40]] ++ pieces vs a ++ [[44], [32]] ++ pieces vs b ++ [[44], [32]] ++ pieces vs c ++ [[41]]
 | .bin o a b => if o = 9 \/ o = 10 then [if o = 9 then wmin else wmax, [40]] ++ pieces vs a ++ [[44], [32]] ++ pieces vs b ++ [[41]]
  else wrap (rank a) (if rank (.bin o a b) = 3 then 4 else rank (.bin o a b)) (pieces vs a) ++ [[32], sign o, [32]] ++ wrap (rank b) (rank (.bin o a b) + 1) (pieces vs b)
def text (vs : List Bs) (e : Ex) : Bs := (pieces vs e).flatten
def letter (c : UInt8) : Bool := decide (97 <= c.toNat /\ c.toNat <= 122)
def digit (c : UInt8) : Bool := decide (48 <= c.toNat /\ c.toNat <= 57)
def idc (c : UInt8) : Bool := letter c || digit c || decide (c = 95)
def isName (s : Bs) : Bool := match s with
 | [] => false
 | c :: r => decide (r.length < 24) && letter c && (c :: r).all idc && decide (c :: r ≠ wmin) && decide (c :: r ≠ wmax) && decide (c :: r ≠ wif)
def signs : Bs := [43, 45, 42, 33, 38, 124, 60, 61, 40, 41, 44]
def wordLen (s : Bs) : Nat := match s with
 | [] => 0
 | c :: r => if letter c = true then 1 + (r.takeWhile idc).length else if digit c = true then 1 + (r.takeWhile digit).length
  else if c = 36 then (match r with | d :: _ => if digit d = true then 2 else 0 | [] => 0)
  else if c = 60 /\ r.head? = some 61 then 2 else if c ∈ signs then 1 else 0
abbrev Tk := Nat × Bs
inductive Lx : Nat -> Bs -> List Tk -> Prop
 | nil (p : Nat) : Lx p [] [(p, [])]
 | blank (p : Nat) (r : Bs) (ts : List Tk) : Lx (p + 1) r ts -> Lx p (32 :: r) ts
 | word (p : Nat) (w r : Bs) (ts : List Tk) : w ≠ [] -> w.head? ≠ some 32 -> wordLen (w ++ r) = w.length -> Lx (p + w.length) r ts -> Lx p (w ++ r) ((p, w) :: ts)
def toks : Nat -> List Bs -> List Tk
 | _, [] => []
 | p, w :: r => if w = [32] then toks (p + 1) r else (p, w) :: toks (p + w.length) r
theorem toks_append (p : Nat) (a b : List Bs) : toks p (a ++ b) = toks p a ++ toks (p + a.flatten.length) b := by
 induction a generalizing p with
 | nil => simp [toks]
 | cons w r ih =>
  simp only [List.cons_append, toks];split
  ·rename_i h
   rw [ih, h];simp only [List.flatten_cons, List.length_append, List.length_cons, List.length_nil];congr 2; omega
  ·rw [ih]
   simp only [List.flatten_cons, List.length_append, List.cons_append];congr 3; omega
def IsWord (w r : Bs) : Prop := w ≠ [] /\ w.head? ≠ some 32 /\ wordLen (w ++ r) = w.length
def Good : List Bs -> Bs -> Prop
 | [], _ => True
 | w :: r, tail => (w = [32] \/ IsWord w (r.flatten ++ tail)) /\ Good r tail
theorem Good.append {a b : List Bs} {tail : Bs} (ha : Good a (b.flatten ++ tail)) (hb : Good b tail) : Good (a ++ b) tail := by
 induction a with
 | nil => exact hb
 | cons w r ih =>
  refine ⟨?_, ih ha.2⟩;have h := ha.1;show w = [32] \/ IsWord w ((r ++ b).flatten ++ tail)
  rw [List.flatten_append, List.append_assoc];exact h
theorem Lx.pieces {ps : List Bs} {p : Nat} {tail : Bs} {ts : List Tk} (hg : Good ps tail) (h : Lx (p + ps.flatten.length) tail ts) : Lx p (ps.flatten ++ tail) (toks p ps ++ ts) := by
 induction ps generalizing p with
 | nil => simpa [toks] using h
 | cons w r ih =>
  have h2 : Lx (p + w.length) (r.flatten ++ tail) (toks (p + w.length) r ++ ts) := by
   refine ih hg.2 ?_;rw [List.flatten_cons, List.length_append] at h;rw [Nat.add_assoc];exact h
  rw [List.flatten_cons, List.append_assoc];unfold toks;split
  ·rename_i hw
   subst hw;exact Lx.blank p _ _ h2
  ·rename_i hw
   obtain ⟨w1, w2, w3⟩ := hg.1.resolve_left hw;exact Lx.word p w _ _ w1 w2 w3 h2
def Brk (t : Bs) : Prop := t = [] \/ ∃ c r, t = c :: r /\ (c = 32 \/ c = 41 \/ c = 44)
theorem brk_idc {t : Bs} (h : Brk t) : t.takeWhile idc = [] /\ t.takeWhile digit = [] := by
 rcases h with rfl | ⟨c, r, rfl, h⟩
 ·exact ⟨rfl, rfl⟩
 ·rcases h with rfl | rfl | rfl <;> exact ⟨rfl, rfl⟩
theorem brk_cons (c : UInt8) (r : Bs) (h : c = 32 \/ c = 41 \/ c = 44) : Brk (c :: r) := Or.inr ⟨c, r, rfl, h⟩
theorem takeWhile_all {p : UInt8 -> Bool} {a b : Bs} (ha : ∀ c ∈ a, p c = true) (hb : b.takeWhile p = []) : (a ++ b).takeWhile p = a := by
 induction a with
 | nil => exact hb
 | cons c r ih =>
  rw [List.cons_append, List.takeWhile_cons, if_pos (ha c (by simp)), ih (fun d hd => ha d (by simp [hd]))]
theorem word_name (s t : Bs) (hs : isName s = true) (ht : Brk t) : IsWord s t := by
 match s, hs with
 | c :: r, hs =>
  simp only [isName, Bool.and_eq_true, decide_eq_true_eq, List.all_cons] at hs;obtain ⟨⟨⟨⟨⟨hl, hc⟩, ha⟩, _⟩, _⟩, _⟩ := hs;refine ⟨by simp, ?_, ?_⟩
  ·intro h
   cases h
   revert hc; decide
  ·simp only [List.cons_append, wordLen]
   rw [if_pos hc, takeWhile_all (fun d hd => List.all_eq_true.1 ha.2 d hd) (brk_idc ht).1];simp only [List.length_cons]; omega
theorem word_key (s t : Bs) (hs : s = wmin \/ s = wmax \/ s = wif) : IsWord s (40 :: t) := by
 rcases hs with rfl | rfl | rfl
 all_goals
  refine ⟨by decide, by decide, ?_⟩;rfl
theorem ofNat_digit (n : Nat) (h : n < 10) : digit (UInt8.ofNat (48 + n)) = true := by
 unfold digit;refine decide_eq_true ?_;rw [UInt8.toNat_ofNat'];omega
theorem dig_digits (n : Nat) : ∀ c ∈ dig n, digit c = true := by
 induction n using Nat.strongRecOn with
 | _ n ih =>
  intro c hc;unfold dig at hc;split at hc
  ·rename_i h
   obtain rfl := List.mem_singleton.1 hc;exact ofNat_digit n h
  ·rename_i h
   rcases List.mem_append.1 hc with hc | hc
   ·exact ih (n / 10) (by omega) c hc
   ·obtain rfl := List.mem_singleton.1 hc
    exact ofNat_digit _ (by omega)
theorem dig_ne (n : Nat) : dig n ≠ [] := by
 unfold dig;split
 ·simp
 ·simp
theorem not_letter {c : UInt8} (h : digit c = true) : letter c = false := by
 unfold digit at h;have := of_decide_eq_true h;unfold letter;exact decide_eq_false (by omega)
theorem word_dig (n : Nat) (t : Bs) (ht : Brk t) : IsWord (dig n) t := by
 have hd := dig_digits n;have hne := dig_ne n;obtain ⟨c, r, hcr⟩ := List.exists_cons_of_ne_nil hne;rw [hcr] at hd ⊢;have hc := hd c (by simp);refine ⟨by simp, ?_, ?_⟩
 ·intro h
  cases h
  revert hc; decide
 ·simp only [List.cons_append, wordLen]
  rw [if_neg (by rw [not_letter hc]; decide), if_pos hc, takeWhile_all (fun d hd' => hd d (by simp [hd'])) (brk_idc ht).2];simp only [List.length_cons]; omega
theorem word_one (c : UInt8) (t : Bs) (h : c = 43 \/ c = 45 \/ c = 42 \/ c = 33 \/ c = 38 \/ c = 124 \/ c = 61 \/ c = 40 \/ c = 41 \/ c = 44) : IsWord [c] t := by
 rcases h with rfl | rfl | rfl | rfl | rfl | rfl | rfl | rfl | rfl | rfl
 all_goals
  refine ⟨by simp, by decide, ?_⟩;rfl
theorem word_sign (o : Int) (t : Bs) : IsWord (sign o) (32 :: t) := by
 unfold sign;repeat' split
 all_goals
  refine ⟨by decide, by decide, ?_⟩;rfl
theorem word_arg (k : Nat) (t : Bs) (h : k < 10) : IsWord ([36] ++ dig k) t := by
 have hd : dig k = [UInt8.ofNat (48 + k)] := by unfold dig; rw [dif_pos h]
 rw [hd];refine ⟨by simp, by show some (36 : UInt8) ≠ some 32; decide, ?_⟩;have h1 : letter 36 = false := by decide
 have h2 : digit 36 = false := by decide
 simp only [List.cons_append, List.nil_append, wordLen, h1, h2, ofNat_digit k h];rfl
def Nm (vs : List Bs) : Ex -> Prop
 | .con _ => True | .var k => isName (vs.getD k []) = true | .arg k => k < 10
 | .un _ a => Nm vs a | .bin _ a b => Nm vs a /\ Nm vs b | .ite a b c => Nm vs a /\ Nm vs b /\ Nm vs c
theorem nm_of (vs : List Bs) (na : Int) (hna : na <= 10) (hv : ∀ s ∈ vs, isName s = true) (e : Ex) (hw : WF vs.length na e) : Nm vs e := by
 induction e with
 | con n => trivial
 | var k =>
  have hk : k < vs.length := by have h : (k : Int) < vs.length := hw; omega
  show isName (vs.getD k []) = true
  rw [List.getD_eq_getElem?_getD, List.getElem?_eq_getElem hk];exact hv _ (List.getElem_mem hk)
 | arg k => show k < 10; have h : (k : Int) < na := hw; omega
 | un o a ih => exact ih hw.2
 | bin o a b iha ihb => exact ⟨iha hw.2.1, ihb hw.2.2⟩
 | ite a b c iha ihb ihc => exact ⟨iha hw.1, ihb hw.2.1, ihc hw.2.2⟩
theorem good_wrap (r least : Nat) (p : List Bs) (t : Bs) (h : ∀ t, Brk t -> Good p t) (ht : Brk t) : Good (wrap r least p) t := by
 unfold wrap;split
 ·have h1 : Good p ([41] ++ t) := h _ (brk_cons 41 t (by simp))
  have h2 : Good (p ++ [[41]]) t := Good.append (by simpa using h1) ⟨Or.inr (word_one 41 _ (by simp)), trivial⟩;rw [List.append_assoc];exact ⟨Or.inr (word_one 40 _ (by simp)), h2⟩
 ·exact h t ht
theorem good_pieces (vs : List Bs) (e : Ex) (hn : Nm vs e) : ∀ t, Brk t -> Good (pieces vs e) t := by
 induction e with
 | con n =>
  intro t ht;unfold pieces;split
  ·exact ⟨Or.inr (word_one 45 _ (by simp)), Or.inr (word_dig _ _ (by simpa using ht)), trivial⟩
  ·exact ⟨Or.inr (word_dig _ _ (by simpa using ht)), trivial⟩
 | var k => intro t ht; exact ⟨Or.inr (word_name _ _ hn (by simpa using ht)), trivial⟩
 | arg k => intro t ht; exact ⟨Or.inr (word_arg k _ hn), trivial⟩
 | un o a ih =>
  intro t ht;have ih := ih hn;unfold pieces;split
  ·split
   ·have h2 : Good (pieces vs a ++ [[41]]) t := Good.append (by simpa using ih _ (brk_cons 41 t (by simp))) ⟨Or.inr (word_one 41 _ (by simp)), trivial⟩
    exact ⟨Or.inr (word_one 45 _ (by simp)), Or.inr (word_one 40 _ (by simp)), h2⟩
   ·exact ⟨Or.inr (word_one 45 _ (by simp)), good_wrap _ _ _ _ ih ht⟩
  ·exact ⟨Or.inr (word_one 33 _ (by simp)), good_wrap _ _ _ _ ih ht⟩
 | ite a b c iha ihb ihc =>
  intro t ht;have h3 : Good (pieces vs c ++ [[41]]) t := Good.append (by simpa using ihc hn.2.2 _ (brk_cons 41 t (by simp))) ⟨Or.inr (word_one 41 _ (by simp)), trivial⟩;have h2 : Good (pieces vs b ++ ([[44], [32]] ++ (pieces vs c ++ [[41]]))) t := Good.append (by simpa using ihb hn.2.1 _ (brk_cons 44 _ (by simp))) ⟨Or.inr (word_one 44 _ (by simp)), Or.inl rfl, h3⟩;have h1 : Good (pieces vs a ++ ([[44], [32]] ++ (pieces vs b ++ ([[44], [32]] ++ (pieces vs c ++ [[41]]))))) t := Good.append (by simpa using iha hn.1 _ (brk_cons 44 _ (by simp))) ⟨Or.inr (word_one 44 _ (by simp)), Or.inl rfl, h2⟩;have h0 : Good ([wif, [40]] ++ (pieces vs a ++ ([[44], [32]] ++ (pieces vs b ++ ([[44], [32]] ++ (pieces vs c ++ [[41]])))))) t := ⟨Or.inr (word_key wif _ (by simp)), Or.inr (word_one 40 _ (by simp)), h1⟩;simpa [pieces] using h0
 | bin o a b iha ihb =>
  intro t ht;unfold pieces;split
  ·rename_i ho
   have h2 : Good (pieces vs b ++ [[41]]) t := Good.append (by simpa using ihb hn.2 _ (brk_cons 41 t (by simp))) ⟨Or.inr (word_one 41 _ (by simp)), trivial⟩;have h1 : Good (pieces vs a ++ ([[44], [32]] ++ (pieces vs b ++ [[41]]))) t := Good.append (by simpa using iha hn.1 _ (brk_cons 44 _ (by simp))) ⟨Or.inr (word_one 44 _ (by simp)), Or.inl rfl, h2⟩;have hk : (if o = 9 then wmin else wmax) = wmin \/ (if o = 9 then wmin else wmax) = wmax \/ (if o = 9 then wmin else wmax) = wif := by
    split
    ·exact Or.inl rfl
    ·exact Or.inr (Or.inl rfl)
   have h0 : Good ([if o = 9 then wmin else wmax, [40]] ++ (pieces vs a ++ ([[44], [32]] ++ (pieces vs b ++ [[41]])))) t := ⟨Or.inr (word_key _ _ hk), Or.inr (word_one 40 _ (by simp)), h1⟩;simpa using h0
  ·have hb := good_wrap (rank b) (rank (.bin o a b) + 1) _ t (ihb hn.2) ht
   have h1 : Good ([[32], sign o, [32]] ++ wrap (rank b) (rank (.bin o a b) + 1) (pieces vs b)) t := ⟨Or.inl rfl, Or.inr (by simpa using word_sign o _), Or.inl rfl, hb⟩;have ha := good_wrap (rank a) (if rank (.bin o a b) = 3 then 4 else rank (.bin o a b)) _ (([[32], sign o, [32]] ++ wrap (rank b) (rank (.bin o a b) + 1) (pieces vs b)).flatten ++ t) (iha hn.1) (by simp only [List.cons_append, List.flatten_cons]; exact brk_cons 32 _ (by simp));rw [List.append_assoc];exact Good.append ha h1
theorem text_words (vs : List Bs) (e : Ex) (hn : Nm vs e) (p : Nat) (t : Bs) (ht : Brk t) (ts : List Tk) (h : Lx (p + (text vs e).length) t ts) : Lx p (text vs e ++ t) (toks p (pieces vs e) ++ ts) :=
 Lx.pieces (good_pieces vs e hn t ht) h
inductive Kd where
 | lv (k : Nat) | lo (k : Nat) (many : Bool) (c : List In) | on | atom
inductive Rs where
 | ok (c : List In) (r : List Tk) | err (p : Nat) (e : Int)
def opAt (k : Nat) (s : Bs) : Option Int :=
 if k = 1 then (if s = [124] then some 15 else none) else if k = 2 then (if s = [38] then some 14 else none)
 else if k = 3 then (if s = [60] then some 11 else if s = [60, 61] then some 12 else if s = [61] then some 13 else none)
 else if k = 4 then (if s = [43] then some 6 else if s = [45] then some 7 else none) else if k = 5 then (if s = [42] then some 8 else none) else none
def headB (l : List Tk) : Bs := match l with | (_, s) :: _ => s | [] => []
def near (p : Nat) (r : List Tk) : Prop := ∃ c s r', r = (p + 1, c :: s) :: r' /\ digit c = true
inductive Pa (vs : List Bs) (na : Int) : Kd -> List Tk -> Rs -> Prop
 | six (l : List Tk) (x : Rs) : Pa vs na .on l x -> Pa vs na (.lv 6) l x
 | lvErr (k : Nat) (l : List Tk) (p : Nat) (e : Int) : 1 <= k -> k <= 5 -> Pa vs na (.lv (k + 1)) l (.err p e) -> Pa vs na (.lv k) l (.err p e)
 | lvGo (k : Nat) (l : List Tk) (c : List In) (r : List Tk) (x : Rs) : 1 <= k -> k <= 5 -> Pa vs na (.lv (k + 1)) l (.ok c r) -> Pa vs na (.lo k false c) r x -> Pa vs na (.lv k) l x
 | loStop (k : Nat) (m : Bool) (c : List In) (r : List Tk) : (opAt k (headB r) = none \/ (k = 3 /\ m = true)) -> Pa vs na (.lo k m c) r (.ok c r)
 | loErr (k : Nat) (m : Bool) (c : List In) (q : Nat) (s : Bs) (o : Int) (r : List Tk) (p : Nat) (e : Int) : opAt k s = some o -> ¬ (k = 3 /\ m = true) -> Pa vs na (.lv (k + 1)) r (.err p e) -> Pa vs na (.lo k m c) ((q, s) :: r) (.err p e)
 | loGo (k : Nat) (m : Bool) (c : List In) (q : Nat) (s : Bs) (o : Int) (r : List Tk) (d : List In) (t : List Tk) (x : Rs) : opAt k s = some o -> ¬ (k = 3 /\ m = true) -> Pa vs na (.lv (k + 1)) r (.ok d t) -> Pa vs na (.lo k (decide (k = 3)) (c ++ d ++ [(o, 0)])) t x -> Pa vs na (.lo k m c) ((q, s) :: r) x
 | num (p v : Nat) (r : List Tk) : v <= 1099511627776 -> Pa vs na .on ((p, [45]) :: (p + 1, dig v) :: r) (.ok [(1, -(v : Int))] r)
 | neg (p : Nat) (l : List Tk) (c : List In) (r : List Tk) : ¬ near p l -> Pa vs na .on l (.ok c r) -> Pa vs na .on ((p, [45]) :: l) (.ok (c ++ [(4, 0)]) r)
 | non (p : Nat) (l : List Tk) (c : List In) (r : List Tk) : Pa vs na .on l (.ok c r) -> Pa vs na .on ((p, [33]) :: l) (.ok (c ++ [(5, 0)]) r)
 | atm (l : List Tk) (x : Rs) : headB l ≠ [45] -> headB l ≠ [33] -> Pa vs na .atom l x -> Pa vs na .on l x
 | aEnd (p : Nat) : Pa vs na .atom [(p, [])] (.err p 6)
 | aNum (p v : Nat) (r : List Tk) : v <= 1099511627776 -> Pa vs na .atom ((p, dig v) :: r) (.ok [(1, (v : Int))] r)
 | aVar (p k : Nat) (s : Bs) (r : List Tk) : vs[k]? = some s -> isName s = true -> (∀ j, j < k -> vs[j]? ≠ some s) -> Pa vs na .atom ((p, s) :: r) (.ok [(2, (k : Int))] r)
 | aArg (p k : Nat) (r : List Tk) : (k : Int) < na -> k < 10 -> Pa vs na .atom ((p, [36] ++ dig k) :: r) (.ok [(3, (k : Int))] r)
 | aPar (p : Nat) (l : List Tk) (c : List In) (q : Nat) (r : List Tk) : Pa vs na (.lv 1) l (.ok c ((q, [41]) :: r)) -> Pa vs na .atom ((p, [40]) :: l) (.ok c r)
 | aTwo (o : Int) (p p' : Nat) (l : List Tk) (c1 : List In) (q : Nat) (r1 : List Tk) (c2 : List In) (q' : Nat) (r : List Tk) : (o = 9 \/ o = 10) -> Pa vs na (.lv 1) l (.ok c1 ((q, [44]) :: r1)) -> Pa vs na (.lv 1) r1 (.ok c2 ((q', [41]) :: r)) ->
  Pa vs na .atom ((p, if o = 9 then wmin else wmax) :: (p', [40]) :: l) (.ok (c1 ++ c2 ++ [(o, 0)]) r)
 | aIf (p p' : Nat) (l : List Tk) (c1 : List In) (q : Nat) (r1 : List Tk) (c2 : List In) (q' : Nat) (r2 : List Tk) (c3 : List In) (q'' : Nat) (r : List Tk) : Pa vs na (.lv 1) l (.ok c1 ((q, [44]) :: r1)) -> Pa vs na (.lv 1) r1 (.ok c2 ((q', [44]) :: r2)) -> Pa vs na (.lv 1) r2 (.ok c3 ((q'', [41]) :: r)) ->
  Pa vs na .atom ((p, wif) :: (p', [40]) :: l) (.ok (c1 ++ c2 ++ c3 ++ [(16, 0)]) r)
def Stop (k : Nat) (r : List Tk) : Prop := ∀ j, k <= j -> j <= 5 -> opAt j (headB r) = none
theorem Stop.mono {k k' : Nat} {r : List Tk} (h : Stop k r) (hk : k <= k') : Stop k' r := fun j h1 h2 => h j (by omega) h2
theorem opAt_none (j : Nat) (s : Bs) (h : s ≠ [124] /\ s ≠ [38] /\ s ≠ [60] /\ s ≠ [60, 61] /\ s ≠ [61] /\ s ≠ [43] /\ s ≠ [45] /\ s ≠ [42]) : opAt j s = none := by
 obtain ⟨h1, h2, h3, h4, h5, h6, h7, h8⟩ := h;unfold opAt;simp only [h1, h2, h3, h4, h5, h6, h7, h8, if_false];repeat' split
 all_goals rfl
theorem stop_of (k q : Nat) (s : Bs) (r : List Tk) (h : s ≠ [124] /\ s ≠ [38] /\ s ≠ [60] /\ s ≠ [60, 61] /\ s ≠ [61] /\ s ≠ [43] /\ s ≠ [45] /\ s ≠ [42]) : Stop k ((q, s) :: r) := fun j _ _ => opAt_none j s h
section
variable {vs : List Bs} {na : Int}
theorem lo_stop {k : Nat} {m : Bool} {c : List In} {r : List Tk} (hk : k <= 5) (h : Stop k r) : Pa vs na (.lo k m c) r (.ok c r) := Pa.loStop k m c r (Or.inl (h k (Nat.le_refl _) hk))
theorem down (T : Nat -> List Tk) (c : List In) (m : Nat) (hm : m <= 6) (base : ∀ p rest, Stop m rest -> Pa vs na (.lv m) (T p ++ rest) (.ok c rest)) :
 ∀ d k, 1 <= k -> k + 1 + d = m -> ∀ p rest x, Stop (k + 1) rest -> Pa vs na (.lo k false c) rest x -> Pa vs na (.lv k) (T p ++ rest) x := by
 intro d;induction d with
 | zero =>
  intro k hk he p rest x hs hx;refine Pa.lvGo k _ c rest x hk (by omega) ?_ hx;have := base p rest (by rw [<- he]; exact hs);rw [show k + 1 = m by omega];exact this
 | succ d ih =>
  intro k hk he p rest x hs hx;refine Pa.lvGo k _ c rest x hk (by omega) ?_ hx;exact ih (k + 1) (by omega) (by omega) p rest _ (hs.mono (by omega)) (lo_stop (by omega) hs)
theorem from_one (T : Nat -> List Tk) (c : List In) (h : ∀ p rest, Pa vs na .on (T p ++ rest) (.ok c rest)) (k : Nat) (h1 : 1 <= k) (h2 : k <= 5) (p : Nat) (rest : List Tk) (x : Rs) (hs : Stop (k + 1) rest) (hx : Pa vs na (.lo k false c) rest x) :
 Pa vs na (.lv k) (T p ++ rest) x :=
 down T c 6 (Nat.le_refl _) (fun p rest _ => Pa.six _ _ (h p rest)) (5 - k) k h1 (by omega) p rest x hs hx
theorem in_par (T : Nat -> List Tk) (c : List In) (h : ∀ p rest, Stop 1 rest -> Pa vs na (.lv 1) (T p ++ rest) (.ok c rest)) (p p' q : Nat) (rest : List Tk) : Pa vs na .on ((p, [40]) :: (T p' ++ (q, [41]) :: rest)) (.ok c rest) := by
 refine Pa.atm _ _ (by show ([40] : Bs) ≠ [45]; decide) (by show ([40] : Bs) ≠ [33]; decide) ?_;exact Pa.aPar p _ c q rest (h p' _ (stop_of _ _ _ _ (by decide)))
end
theorem toks_one (p : Nat) (w : Bs) (r : List Bs) (h : w ≠ [32]) : toks p (w :: r) = (p, w) :: toks (p + w.length) r := by
 conv => lhs; unfold toks
 rw [if_neg h]
theorem toks_blank (p : Nat) (r : List Bs) : toks p ([32] :: r) = toks (p + 1) r := by
 conv => lhs; unfold toks
 rw [if_pos rfl]
theorem dig_head (n : Nat) : ∃ c r, dig n = c :: r /\ digit c = true := by
 obtain ⟨c, r, h⟩ := List.exists_cons_of_ne_nil (dig_ne n);exact ⟨c, r, h, dig_digits n c (by rw [h]; simp)⟩
theorem dig_not (n : Nat) (c : UInt8) (r : Bs) (hc : digit c = false) : dig n ≠ c :: r := by
 obtain ⟨d, r', h, hd⟩ := dig_head n;intro e;rw [h] at e;cases e
 rw [hd] at hc; cases hc
theorem name_not (s : Bs) (c : UInt8) (r : Bs) (hs : isName s = true) (hc : letter c = false) : s ≠ c :: r := by
 rintro rfl;simp only [isName, Bool.and_eq_true] at hs;rw [hs.1.1.1.1.2] at hc;cases hc
def Apart (vs : List Bs) : Prop := ∀ (i j : Nat) (s : Bs), vs[i]? = some s -> vs[j]? = some s -> i = j
def There (vs : List Bs) (na : Int) : Ex -> Prop
 | .con n => isVal n = true | .var k => ∃ s, vs[k]? = some s /\ isName s = true | .arg k => (k : Int) < na /\ k < 10
 | .un o a => (o = 4 \/ o = 5) /\ There vs na a | .bin o a b => takes o = 2 /\ There vs na a /\ There vs na b | .ite a b c => There vs na a /\ There vs na b /\ There vs na c
theorem there_of (vs : List Bs) (na : Int) (hna : na <= 10) (hv : ∀ s ∈ vs, isName s = true) (e : Ex) (hw : WF vs.length na e) : There vs na e := by
 induction e with
 | con n => exact hw
 | var k =>
  have hk : k < vs.length := by have h : (k : Int) < vs.length := hw; omega
  exact ⟨vs[k], List.getElem?_eq_getElem hk, hv _ (List.getElem_mem hk)⟩
 | arg k => have h : (k : Int) < na := hw; exact ⟨h, by omega⟩
 | un o a ih => exact ⟨hw.1, ih hw.2⟩
 | bin o a b iha ihb => exact ⟨hw.1, iha hw.2.1, ihb hw.2.2⟩
 | ite a b c iha ihb ihc => exact ⟨iha hw.1, ihb hw.2.1, ihc hw.2.2⟩
def wt (vs : List Bs) (e : Ex) (least p : Nat) : List Tk := toks p (wrap (rank e) least (pieces vs e))
def flag (e : Ex) (k : Nat) : Bool := decide (k = 3 /\ rank e = 3)
structure Der (vs : List Bs) (na : Int) (e : Ex) : Prop where
 lv : ∀ k p rest x, 1 <= k -> k <= 5 -> Stop (k + 1) rest -> Pa vs na (.lo k (flag e k) (codeOf e)) rest x -> Pa vs na (.lv k) (wt vs e k p ++ rest) x
 on : ∀ p rest, Pa vs na .on (wt vs e 6 p ++ rest) (.ok (codeOf e) rest)
theorem wrap_no (r least : Nat) (p : List Bs) (h : least <= r) : wrap r least p = p := by unfold wrap; rw [if_neg (by omega)]
theorem wrap_yes (r least : Nat) (p : List Bs) (h : r < least) : wrap r least p = [[40]] ++ p ++ [[41]] := by unfold wrap; rw [if_pos h]
theorem toks_par (p : Nat) (ps : List Bs) : toks p ([[40]] ++ ps ++ [[41]]) = (p, [40]) :: (toks (p + 1) ps ++ [(p + 1 + ps.flatten.length, [41])]) := by
 rw [List.append_assoc, List.singleton_append, toks_one _ _ _ (by decide), toks_append, toks_one _ _ _ (by decide)];rfl
theorem rank_pos (e : Ex) : 1 <= rank e /\ rank e <= 7 := by
 cases e <;> simp only [rank] <;> (repeat' split) <;> omega
theorem Der.whole {vs : List Bs} {na : Int} {e : Ex} (h : Der vs na e) (p : Nat) (rest : List Tk) (hs : Stop 1 rest) : Pa vs na (.lv 1) (toks p (pieces vs e) ++ rest) (.ok (codeOf e) rest) := by
 have h1 := h.lv 1 p rest (.ok (codeOf e) rest) (by omega) (by omega) (hs.mono (by omega)) (lo_stop (by omega) hs);unfold wt at h1;rwa [wrap_no _ _ _ (rank_pos e).1] at h1
theorem Der.of_one {vs : List Bs} {na : Int} {e : Ex} (hr : 6 <= rank e) (h : ∀ p rest, Pa vs na .on (toks p (pieces vs e) ++ rest) (.ok (codeOf e) rest)) : Der vs na e := by
 have hf : ∀ k, flag e k = false := fun k => decide_eq_false (by omega)
 refine ⟨fun k p rest x h1 h2 hs hx => ?_, fun p rest => ?_⟩
 ·unfold wt
  rw [wrap_no _ _ _ (by omega)];rw [hf] at hx;exact from_one (fun p => toks p (pieces vs e)) (codeOf e) h k h1 h2 p rest x hs hx
 ·unfold wt
  rw [wrap_no _ _ _ hr];exact h p rest
theorem Der.of_level {vs : List Bs} {na : Int} {e : Ex} (r : Nat) (hr : rank e = r) (hr5 : r <= 5)
 (h : ∀ p rest x, Stop (r + 1) rest -> Pa vs na (.lo r (flag e r) (codeOf e)) rest x -> Pa vs na (.lv r) (toks p (pieces vs e) ++ rest) x) : Der vs na e := by
 have hr1 := (rank_pos e).1;have base : ∀ p rest, Stop r rest -> Pa vs na (.lv r) (toks p (pieces vs e) ++ rest) (.ok (codeOf e) rest) := fun p rest hs => h p rest _ (hs.mono (by omega)) (lo_stop hr5 hs)
 have low : ∀ k p rest x, 1 <= k -> k < r -> Stop (k + 1) rest -> Pa vs na (.lo k false (codeOf e)) rest x -> Pa vs na (.lv k) (toks p (pieces vs e) ++ rest) x :=
  fun k p rest x h1 h2 hs hx => down (fun p => toks p (pieces vs e)) (codeOf e) r (by omega) base (r - 1 - k) k h1 (by omega) p rest x hs hx
 have whole : ∀ p rest, Stop 1 rest -> Pa vs na (.lv 1) (toks p (pieces vs e) ++ rest) (.ok (codeOf e) rest) := by
  intro p rest hs;rcases Nat.eq_or_lt_of_le (show 1 <= r by omega) with h1 | h1
  ·subst h1; exact base p rest hs
  ·exact low 1 p rest _ (by omega) h1 (hs.mono (by omega)) (lo_stop (by omega) hs)
 have par : ∀ p rest, Pa vs na .on (toks p ([[40]] ++ pieces vs e ++ [[41]]) ++ rest) (.ok (codeOf e) rest) := by
  intro p rest;rw [toks_par, List.cons_append, List.append_assoc];exact in_par (fun p => toks p (pieces vs e)) (codeOf e) whole p (p + 1) _ rest
 have hf : ∀ k, k ≠ r -> flag e k = false := fun k hk => decide_eq_false (by omega)
 refine ⟨fun k p rest x h1 h2 hs hx => ?_, fun p rest => ?_⟩
 ·unfold wt
  rcases Nat.lt_trichotomy k r with hk | hk | hk
  ·rw [wrap_no _ _ _ (by omega)]
   rw [hf k (by omega)] at hx;exact low k p rest x h1 hk hs hx
  ·subst hk
   rw [wrap_no _ _ _ (by omega)];exact h p rest x hs hx
  ·rw [wrap_yes _ _ _ (by omega)]
   rw [hf k (by omega)] at hx;exact from_one (fun p => toks p ([[40]] ++ pieces vs e ++ [[41]])) (codeOf e) par k h1 h2 p rest x hs hx
 ·unfold wt
  rw [wrap_yes _ _ _ (by omega)];exact par p rest
end Go.Proofs.YtjcajeehgjpmmaaGreatDoor.I
