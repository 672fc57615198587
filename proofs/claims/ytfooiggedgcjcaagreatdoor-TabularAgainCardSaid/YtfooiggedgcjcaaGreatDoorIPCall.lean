/-
  Contracts of the program's reader of layer 4: operands with signs between them.
  Contracts of the program's reader of layer 4: the levels.
  Contracts of the program's reader of layer 4: constants, arguments, variables.
  Contracts of the program's reader of layer 4: pass, operands, calls.
-/
import Derived.Test.YtfooiggedgcjcaaGreatDoorIPSec
import Derived.Lib.AtoiErrMem
namespace Go.Proofs.YtfooiggedgcjcaaGreatDoor.I
open Go Go.RowKit Go.Proofs.YtfooiggedgcjcaaGreatDoor.B Go.Proofs.YtfooiggedgcjcaaGreatDoor.K Go.Proofs.YtfooiggedgcjcaaGreatDoor.E
set_option linter.unusedVariables false

/-- What follows an operand, step by step. -/
inductive Steps (C : List Tk → Rs → Prop) (k : Nat) : Bool → List In → List Tk → Rs → Prop
  | stop (m : Bool) (c : List In) (r : List Tk) : (opAt k (headB r) = none ∨ (k = 3 ∧ m = true)) → Steps C k m c r (.ok c r)
  | err (m : Bool) (c : List In) (q : Nat) (s : Bs) (o : Int) (r : List Tk) (p : Nat) (e : Int) : opAt k s = some o → ¬ (k = 3 ∧ m = true) → C r (.err p e) → Steps C k m c ((q, s) :: r) (.err p e)
  | go (m : Bool) (c : List In) (q : Nat) (s : Bs) (o : Int) (r : List Tk) (d : List In) (t : List Tk) (x : Rs) : opAt k s = some o → ¬ (k = 3 ∧ m = true) → C r (.ok d t) → d.length + t.length ≤ r.length → Steps C k (decide (k = 3)) (c ++ d ++ [(o, 0)]) t x → Steps C k m c ((q, s) :: r) x

theorem steps_any {C : List Tk → Rs → Prop} {k : Nat} {c : List In} {q : Nat} {s : Bs} {r : List Tk} {x : Rs} (h : Steps C k false c ((q, s) :: r) x) :
    (opAt k s = none ∧ x = .ok c ((q, s) :: r)) ∨ ∃ o, opAt k s = some o ∧ ((∃ p e, x = .err p e ∧ C r (.err p e)) ∨ ∃ d t, C r (.ok d t) ∧ d.length + t.length ≤ r.length ∧ Steps C k (decide (k = 3)) (c ++ d ++ [(o, 0)]) t x) := by
  generalize hm : false = m at h
  generalize hr : (q, s) :: r = r' at h
  cases h with
  | stop _ _ _ h1 =>
    subst hm hr
    rcases h1 with h1 | h1
    · exact Or.inl ⟨h1, rfl⟩
    · cases h1.2
  | err _ _ _ _ o _ p e h1 h2 h3 => cases hr; exact Or.inr ⟨o, h1, Or.inl ⟨p, e, rfl, h3⟩⟩
  | go _ _ _ _ o _ d t _ h1 h2 h3 h4 h5 => cases hr; exact Or.inr ⟨o, h1, Or.inr ⟨d, t, h3, h4, h5⟩⟩

theorem steps_done {C : List Tk → Rs → Prop} {c : List In} {r : List Tk} {x : Rs} (h : Steps C 3 true c r x) : x = .ok c r := by
  generalize hm : true = m at h
  cases h with
  | stop => rfl
  | err _ _ _ _ _ _ _ _ _ h2 => exact absurd ⟨rfl, hm.symm⟩ h2
  | go _ _ _ _ _ _ _ _ _ _ h2 => exact absurd ⟨rfl, hm.symm⟩ h2

/-- The instructions of a level. -/
def opsOf (k : Nat) : List Nat := match k with | 1 => [15] | 2 => [14] | 3 => [11, 12, 13] | 4 => [6, 7] | _ => [8]

theorem cutw_sg (s x : Bs) (hx : ∀ c ∈ x.head?, letter c = false) : cutw s = x ↔ s = x := by
  cases s with
  | nil => exact Iff.rfl
  | cons c r =>
    by_cases hc : letter c = true
    · have h1 : cutw (c :: r) = c :: r.take 23 := by show (if letter c = true then (c :: r).take 24 else c :: r) = _; rw [if_pos hc]; rfl
      rw [h1]
      constructor
      · rintro rfl; have := hx c (by simp); rw [hc] at this; cases this
      · rintro rfl; have := hx c (by simp); rw [hc] at this; cases this
    · have h1 : cutw (c :: r) = c :: r := by show (if letter c = true then (c :: r).take 24 else c :: r) = _; rw [if_neg hc]
      rw [h1]

theorem among_cons (o : Nat) (l : List Nat) (s : Bs) : amongOf (o :: l) s = if s = sg o then o else amongOf l s := by
  unfold amongOf
  rw [List.find?_cons]
  by_cases h : s = sg o
  · rw [if_pos h, decide_eq_true h]
  · rw [if_neg h, decide_eq_false h]
theorem among_nil (s : Bs) : amongOf [] s = 0 := rfl

theorem opAt_among (k : Nat) (h1 : 1 ≤ k) (h5 : k ≤ 5) (s : Bs) : ((amongOf (opsOf k) (cutw s) : Nat) : Int) = (opAt k s).getD 0 := by
  have h15 : (cutw s = sg 15) = (s = [124]) := propext (cutw_sg s [124] (by decide))
  have h14 : (cutw s = sg 14) = (s = [38]) := propext (cutw_sg s [38] (by decide))
  have h11 : (cutw s = sg 11) = (s = [60]) := propext (cutw_sg s [60] (by decide))
  have h12 : (cutw s = sg 12) = (s = [60, 61]) := propext (cutw_sg s [60, 61] (by decide))
  have h13 : (cutw s = sg 13) = (s = [61]) := propext (cutw_sg s [61] (by decide))
  have h6 : (cutw s = sg 6) = (s = [43]) := propext (cutw_sg s [43] (by decide))
  have h7 : (cutw s = sg 7) = (s = [45]) := propext (cutw_sg s [45] (by decide))
  have h8 : (cutw s = sg 8) = (s = [42]) := propext (cutw_sg s [42] (by decide))
  rcases (show k = 1 ∨ k = 2 ∨ k = 3 ∨ k = 4 ∨ k = 5 by omega) with rfl | rfl | rfl | rfl | rfl
  · simp only [show opsOf 1 = [15] from rfl, among_cons, among_nil, h15, show opAt 1 s = if s = [124] then some 15 else none from rfl]
    repeat' split
    all_goals rfl
  · simp only [show opsOf 2 = [14] from rfl, among_cons, among_nil, h14, show opAt 2 s = if s = [38] then some 14 else none from rfl]
    repeat' split
    all_goals rfl
  · simp only [show opsOf 3 = [11, 12, 13] from rfl, among_cons, among_cons, among_cons, among_nil, h11, h12, h13, show opAt 3 s = if s = [60] then some 11 else if s = [60, 61] then some 12 else if s = [61] then some 13 else none from rfl]
    repeat' split
    all_goals rfl
  · simp only [show opsOf 4 = [6, 7] from rfl, among_cons, among_cons, among_nil, h6, h7, show opAt 4 s = if s = [43] then some 6 else if s = [45] then some 7 else none from rfl]
    repeat' split
    all_goals rfl
  · simp only [show opsOf 5 = [8] from rfl, among_cons, among_nil, h8, show opAt 5 s = if s = [42] then some 8 else none from rfl]
    repeat' split
    all_goals rfl

theorem opAt_word (k : Nat) (s : Bs) (o : Int) (h : opAt k s = some o) : cutw s = s ∧ s ≠ [] ∧ o ≠ 0 := by
  unfold opAt at h
  have key : ∀ x : Bs, x ≠ [] → (∀ c ∈ x.head?, letter c = false) → s = x → o ≠ 0 → cutw s = s ∧ s ≠ [] ∧ o ≠ 0 := fun x h1 h2 h3 h4 => ⟨by rw [h3]; exact (cutw_sg x x h2).2 rfl, by rw [h3]; exact h1, h4⟩
  repeat' split at h
  all_goals first | (cases h; rename_i h9; exact key _ (by decide) (by decide) h9 (by decide)) | cases h

section
variable {f : Nat → Option Obj} {W0 : World} {B p : Nat} {t s : Bs} {v1 : Value} {na : Int} {c0 : List In} {r : List Tk}

/-- The row of a level's instructions, made for the call. -/
def opsObj (k : Nat) (T : TypeId) : Obj := .cells ((opsOf k).map fun (o : Nat) => Value.int .i64 (o : Int)).toArray T (0, 0)

theorem Rd.ops {a : Nat} {c : List In} {e : Int} {w : World} (h : Rd f W0 B t v1 na a s c e w) {k kb : Nat} {T : TypeId} (hf : f kb = some (opsObj k T)) : Sl w (.slice (some ⟨kb, 0, none⟩) (opsOf k).length (opsOf k).length) ((opsOf k).map fun (o : Nat) => Value.int .i64 (o : Int)) := by
  have h1 := (h.frame kb _ hf).1
  have := Sl.row (cap := (opsOf k).length) (xs := (opsOf k).map fun (o : Nat) => Value.int .i64 (o : Int)) h1 (by exact List.take_of_length_le (Nat.le_refl _))
  simpa using this

theorem ops_small (k : Nat) : (∀ o ∈ opsOf k, o < 17) ∧ (opsOf k).length ≤ 1000 := by
  unfold opsOf; split <;> exact ⟨by decide, by decide⟩

/-- What comes behind an operand's words, or what is wrong in it. -/
def Lv (C : List Tk → Rs → Prop) (k : Nat) (ts : List Tk) (x : Rs) : Prop :=
  (∃ p e, x = .err p e ∧ C ts x) ∨ ∃ c r, C ts (.ok c r) ∧ c.length + r.length ≤ ts.length ∧ Steps C k false c r x

set_option maxHeartbeats 2000000 in
set_option maxRecDepth 100000 in
theorem many_any (N : Nat) (hN : Ent N) (k kb : Nat) (T : TypeId) (hk : k = 1 ∨ k = 2 ∨ k = 4 ∨ k = 5) (x : Rs) (ts : List Tk) (hx : Lv (Opd W0 B t v1 na N) k ts x) (w : World) (hg : Glob W0) (hts : ts = (p, s) :: r) (h : Rd f W0 B t v1 na p (cutw s) c0 0 w) (hat : At t p s r)
    (htl : t.length ≤ 2048) (hb : c0.length + ts.length ≤ 1000000) (hf : f kb = some (opsObj k T)) :
    Calls Tryz.prog 165 #[.pointer (some ⟨B, 0, none⟩), .func (.func N) #[.pointer (some ⟨B, 0, none⟩)] #[], .slice (some ⟨kb, 0, none⟩) (opsOf k).length (opsOf k).length] w fun z w' => Out f W0 B t v1 na c0 x z w' := by
  have hN' : ∀ args w, (callFunc N args).run Tryz.prog w = .ok (.enter N args) w := hN
  have HN := Lib.hid hN
  have HGL := Lib.hid hg
  have HTL := Lib.hid htl
  have HF := Lib.hid hf
  have hk15 : 1 ≤ k ∧ k ≤ 5 ∧ k ≠ 3 := by omega
  have HK := Lib.hid hk15
  obtain ⟨n, hn⟩ : ∃ n, (opsOf k).length = n := ⟨_, rfl⟩
  have HNN := Lib.hid hn
  rw [hn]
  rcases hx with ⟨p1, e1, rfl, hop⟩ | ⟨c1, r1, hop, hlen, hst⟩
  · have HO := Lib.hid (hop f c0 w p s r hts hat h hb)
    clear hop hb hf hk hk15 hn hg htl hN h hat hts
    go_enter Tryz.func165, Tryz.ntmps165
    go_wp2_with fail
    refine HO.out.mono ?_
    rintro z w2 ⟨rfl, s2, c2, hr2⟩
    have HR2 := Lib.hid hr2
    clear hr2 HO
    go_wp2_with fail
    go_ret
    exact out_err HR2.out
  · have HO := Lib.hid (hop f c0 w p s r hts hat h hb)
    have HB := Lib.hid (show c0.length + c1.length + r1.length ≤ 1000000 by omega)
    have HST := Lib.hid hst
    have HAM := Lib.hid (fun (W : World) (a : Nat) (s' : Bs) (c : List In) (hR : Rd f W0 B t v1 na a (cutw s') c 0 W) => among_any W hg hR (opsOf k) kb (opsOf k).length (ops_small k).1 (ops_small k).2 (hR.ops hf))
    clear hop hb hf hk hk15 hg htl hN h hat hts hlen hst
    rw [hn] at HAM
    clear hn
    go_enter Tryz.func165, Tryz.ntmps165
    go_wp2_with fail
    refine HO.out.mono ?_
    rintro z w2 ⟨rfl, p2, s2, r2, ht2, ha2, hr2⟩
    have HA2 := Lib.hid ha2
    have HR2 := Lib.hid hr2
    clear hr2 HO
    go_wp2_with (go_at_call 180; refine (HAM.out _ p2 s2 _ HR2.out).mono ?_; rintro _ w3 ⟨rfl, hr3⟩; have HR3 := Lib.hid hr3; clear hr3)
    clear HR2 HA2
    go_loopg [7] r1.length (fun g op wr => ∃ (c : List In) (r' : List Tk) (p' : Nat) (s' : Bs) (r'' : List Tk), op = .int .i64 ((amongOf (opsOf k) (cutw s') : Nat) : Int) ∧ r'.length = g ∧ r' = (p', s') :: r'' ∧ c0.length + c.length + r'.length ≤ 1000000 ∧ Hid (Steps (Opd W0 B t v1 na N) k false c r' x) ∧ Hid (At t p' s' r'') ∧ Hid (Rd f W0 B t v1 na p' (cutw s') (c0 ++ c) 0 wr))
    case atStart => exact ⟨c1, r1, p2, s2, r2, rfl, rfl, ht2, HB.out, HST, Lib.hid ha2, HR3⟩
    case round =>
      obtain ⟨c, r', p', s', r'', rfl, hlen, hr', hbb, HS, HAT, HRR⟩ := hrel
      have hoa := opAt_among k HK.out.1 HK.out.2.1 s'
      have hst := HS.out
      rw [hr'] at hst
      rcases steps_any hst with ⟨ho, hx⟩ | ⟨o, ho, hrest⟩
      · have hz : amongOf (opsOf k) (cutw s') = 0 := by rw [ho] at hoa; have : ((amongOf (opsOf k) (cutw s') : Nat) : Int) = 0 := hoa; omega
        rw [hz]
        have HX := Lib.hid hx
        have HR' := Lib.hid hr'
        clear hst ho hoa hz hx hr'
        go_wp2_with fail
        go_ret
        rw [HX.out]
        exact out_ok rfl HAT.out HRR.out
      · obtain ⟨e1, e2, e3⟩ := opAt_word k s' o ho
        rw [ho] at hoa
        have hoa : ((amongOf (opsOf k) (cutw s') : Nat) : Int) = o := hoa
        rw [hoa]
        have hne : (o == 0) = false := beq_eq_false_iff_ne.2 e3
        have hRR : Rd f W0 B t v1 na p' s' (c0 ++ c) 0 wr := by have := HRR.out; rw [e1] at this; exact this
        have hlr : r'.length = r''.length + 1 := by rw [hr']; simp
        rcases hrest with ⟨p3, e4, hx, hop⟩ | ⟨d, t', hop, hdl, hst2⟩
        · have HS2 := Lib.hid (second_any N HN.out (.err p3 e4) hop wr o HGL.out hRR HAT.out e2 HTL.out (by rw [List.length_append]; omega) (fun d t' h => by cases h))
          have HX := Lib.hid hx
          clear hst hoa ho e1 e2 e3 hRR hop hx hr' hbb hlr hlen
          go_wp2_with (go_at_call 181; refine HS2.out.mono ?_; rintro z w4 ⟨rfl, s2, c2, hr2⟩; have HR4 := Lib.hid hr2; clear hr2)
          go_ret
          rw [HX.out]
          exact out_err HR4.out
        · have HS2 := Lib.hid (second_any N HN.out (.ok d t') hop wr o HGL.out hRR HAT.out e2 HTL.out (by rw [List.length_append]; omega) (fun d' t'' h => by cases h; omega))
          have HST2 := Lib.hid hst2
          have HLN := Lib.hid (show c0.length + (c ++ d ++ [(o, 0)]).length + t'.length ≤ 1000000 ∧ t'.length < gk by simp only [List.length_append, List.length_cons, List.length_nil]; omega)
          clear hst hoa ho e1 e2 e3 hRR hop hr' hbb hlr hlen hdl hst2
          go_wp2_with (first | (go_at_call 181; refine HS2.out.mono ?_; rintro z w4 ⟨rfl, p5, s5, r5, ht5, ha5, hr5⟩; have HA5 := Lib.hid ha5; have HR5 := Lib.hid hr5; have HT5 := Lib.hid ht5; clear hr5 ha5 ht5) | (go_at_call 180; refine (HAM.out _ p5 s5 _ HR5.out).mono ?_; rintro _ w6 ⟨rfl, hr6⟩; have HR6 := Lib.hid hr6; clear hr6))
          go_roundg t'.length
          case measure => exact HLN.out.2
          case rel => exact ⟨c ++ d ++ [(o, 0)], t', p5, s5, r5, rfl, rfl, HT5.out, HLN.out.1, Lib.hid (by have := HST2.out; rw [decide_eq_false HK.out.2.2] at this; exact this), HA5, Lib.hid (by have h6 := HR6.out; simp only [List.append_assoc] at h6 ⊢; exact h6)⟩

set_option maxHeartbeats 2000000 in
set_option maxRecDepth 100000 in
theorem once_any (N : Nat) (hN : Ent N) (kb : Nat) (T : TypeId) (x : Rs) (ts : List Tk) (hx : Lv (Opd W0 B t v1 na N) 3 ts x) (w : World) (hg : Glob W0) (hts : ts = (p, s) :: r) (h : Rd f W0 B t v1 na p (cutw s) c0 0 w) (hat : At t p s r)
    (htl : t.length ≤ 2048) (hb : c0.length + ts.length ≤ 1000000) (hf : f kb = some (opsObj 3 T)) :
    Calls Tryz.prog 190 #[.pointer (some ⟨B, 0, none⟩), .func (.func N) #[.pointer (some ⟨B, 0, none⟩)] #[], .slice (some ⟨kb, 0, none⟩) (opsOf 3).length (opsOf 3).length] w fun z w' => Out f W0 B t v1 na c0 x z w' := by
  have hN' : ∀ args w, (callFunc N args).run Tryz.prog w = .ok (.enter N args) w := hN
  have HN := Lib.hid hN
  have HGL := Lib.hid hg
  have HTL := Lib.hid htl
  obtain ⟨n, hn⟩ : ∃ n, (opsOf 3).length = n := ⟨_, rfl⟩
  rw [hn]
  rcases hx with ⟨p1, e1, rfl, hop⟩ | ⟨c1, r1, hop, hlen, hst⟩
  · have HO := Lib.hid (hop f c0 w p s r hts hat h hb)
    clear hop hb hf hn hg htl hN h hat hts
    go_enter Tryz.func190, Tryz.ntmps190
    go_wp2_with fail
    refine HO.out.mono ?_
    rintro z w2 ⟨rfl, s2, c2, hr2⟩
    have HR2 := Lib.hid hr2
    clear hr2 HO
    go_wp2_with fail
    go_ret
    exact out_err HR2.out
  · have HO := Lib.hid (hop f c0 w p s r hts hat h hb)
    have HB := Lib.hid (show c0.length + c1.length + r1.length ≤ 1000000 by omega)
    have HAM := Lib.hid (fun (W : World) (a : Nat) (s' : Bs) (c : List In) (hR : Rd f W0 B t v1 na a (cutw s') c 0 W) => among_any W hg hR (opsOf 3) kb (opsOf 3).length (ops_small 3).1 (ops_small 3).2 (hR.ops hf))
    have HST := Lib.hid hst
    clear hop hb hf hg htl hN h hat hts hlen hst
    rw [hn] at HAM
    clear hn
    go_enter Tryz.func190, Tryz.ntmps190
    go_wp2_with fail
    refine HO.out.mono ?_
    rintro z w2 ⟨rfl, p', s', r'', hr', ha2, hr2⟩
    have HAT := Lib.hid ha2
    have HR2 := Lib.hid hr2
    clear hr2 HO ha2
    have hoa := opAt_among 3 (by decide) (by decide) s'
    have hst := HST.out
    rw [hr'] at hst
    rcases steps_any hst with ⟨ho, hx⟩ | ⟨o, ho, hrest⟩
    · have hz : amongOf (opsOf 3) (cutw s') = 0 := by rw [ho] at hoa; have : ((amongOf (opsOf 3) (cutw s') : Nat) : Int) = 0 := hoa; omega
      have ham := HAM.out _ p' s' _ HR2.out
      rw [hz] at ham
      have HAM2 := Lib.hid ham
      have HX := Lib.hid hx
      have HR' := Lib.hid hr'
      clear hst ho hoa hz hx hr' ham HAM
      go_wp2_with (go_at_call 180; refine HAM2.out.mono ?_; rintro _ w3 ⟨rfl, hr3⟩; have HR3 := Lib.hid hr3; clear hr3)
      go_ret
      rw [HX.out]
      exact out_ok rfl HAT.out HR3.out
    · obtain ⟨e1, e2, e3⟩ := opAt_word 3 s' o ho
      rw [ho] at hoa
      have hoa : ((amongOf (opsOf 3) (cutw s') : Nat) : Int) = o := hoa
      have ham := HAM.out _ p' s' _ HR2.out
      rw [hoa, e1] at ham
      have HAM2 := Lib.hid ham
      have hne : (o == 0) = false := beq_eq_false_iff_ne.2 e3
      have hlr : r1.length = r''.length + 1 := by rw [hr']; simp
      have HBB := Lib.hid (show (c0 ++ c1).length + r''.length ≤ 1000000 by rw [List.length_append]; have := HB.out; omega)
      rcases hrest with ⟨p3, e4, hx, hop⟩ | ⟨d, t', hop, hdl, hst2⟩
      · have HS2 := Lib.hid (fun W hW => second_any (f := f) N HN.out (.err p3 e4) hop W o HGL.out hW HAT.out e2 HTL.out HBB.out (fun d t' h => by cases h))
        have HX := Lib.hid hx
        clear hst hoa ho e1 e2 e3 ham hop hx hr' hlr HAM
        go_wp2_with (first | (go_at_call 180; refine HAM2.out.mono ?_; rintro _ w3 ⟨rfl, hr3⟩; have HR3 := Lib.hid hr3; clear hr3) | (go_at_call 181; refine (HS2.out _ HR3.out).mono ?_; rintro z w4 ⟨rfl, s2, c2, hr2⟩; have HR4 := Lib.hid hr2; clear hr2))
        go_ret
        rw [HX.out]
        exact out_err HR4.out
      · have hxx := steps_done hst2
        have HS2 := Lib.hid (fun W hW => second_any (f := f) N HN.out (.ok d t') hop W o HGL.out hW HAT.out e2 HTL.out HBB.out (fun d' t'' h => by cases h; have := HB.out; omega))
        have HX := Lib.hid hxx
        clear hst hoa ho e1 e2 e3 ham hop hr' hlr hdl hst2 hxx HAM
        go_wp2_with (first | (go_at_call 180; refine HAM2.out.mono ?_; rintro _ w3 ⟨rfl, hr3⟩; have HR3 := Lib.hid hr3; clear hr3) | (go_at_call 181; refine (HS2.out _ HR3.out).mono ?_; rintro z w4 ⟨rfl, p5, s5, r5, ht5, ha5, hr5⟩; have HA5 := Lib.hid ha5; have HR5 := Lib.hid hr5; have HT5 := Lib.hid ht5; clear hr5 ha5 ht5))
        go_ret
        rw [HX.out]
        exact out_ok HT5.out HA5.out (by have h6 := HR5.out; simp only [List.append_assoc] at h6 ⊢; exact h6)
end
end Go.Proofs.YtfooiggedgcjcaaGreatDoor.I

namespace Go.Proofs.YtfooiggedgcjcaaGreatDoor.I
open Go Go.RowKit Go.Proofs.YtfooiggedgcjcaaGreatDoor.B Go.Proofs.YtfooiggedgcjcaaGreatDoor.K Go.Proofs.YtfooiggedgcjcaaGreatDoor.E
set_option linter.unusedVariables false

theorem Out.drop {f : Nat → Option Obj} {W0 : World} {B : Nat} {t : Bs} {v1 : Value} {na : Int} {c0 : List In} {x : Rs} {z : Ending} {w' : World} {k : Nat} {o : Obj} (h : Out (fun i => if i = k then some o else f i) W0 B t v1 na c0 x z w') (hf : f k = none) : Out f W0 B t v1 na c0 x z w' := by
  cases x with
  | err p e => obtain ⟨h1, s, c, h2⟩ := h; exact ⟨h1, s, c, h2.drop hf⟩
  | ok c r => obtain ⟨h1, p, s, r', h2, h3, h4⟩ := h; exact ⟨h1, p, s, r', h2, h3, h4.drop hf⟩

theorem Out.ret {f : Nat → Option Obj} {W0 : World} {B : Nat} {t : Bs} {v1 : Value} {na : Int} {c0 : List In} {x : Rs} {z : Ending} {w' : World} (h : Out f W0 B t v1 na c0 x z w') : ∃ b : Bool, z = .returned (.bool b) ∧ Out f W0 B t v1 na c0 x (.returned (.bool b)) w' := by
  cases x with
  | err p e => exact ⟨false, h.1, rfl, h.2⟩
  | ok c r => exact ⟨true, h.1, rfl, h.2⟩

theorem ent_all : Ent 166 := fun args w => enters_of Tryz.func166 (by kernel_rfl) rfl args w

set_option maxHeartbeats 1000000 in
set_option maxRecDepth 100000 in
theorem lv1_any {W0 : World} {B : Nat} {t : Bs} {v1 : Value} {na : Int} (hg : Glob W0) (htl : t.length ≤ 2048) (ts : List Tk) (x : Rs) (hx : Lv (Opd W0 B t v1 na 166) 1 ts x) : Opd W0 B t v1 na 142 ts x := by
  intro f c0 w p s r hts hat h hb
  have hm := many_any 166 ent_all 1 w.heap.size 3 (by decide) x ts hx _ hg hts (h.add (opsObj 1 3)) hat htl hb (if_pos rfl)
  have hnew := h.new
  have HM := Lib.hid (show Calls Tryz.prog 165 #[.pointer (some ⟨B, 0, none⟩), .func (.func 166) #[.pointer (some ⟨B, 0, none⟩)] #[], .slice (some ⟨w.heap.size, 0, none⟩) 1 1] (w.alloc (.cells #[.int .i64 15] 3 (0, 0))) fun z w' => Out f W0 B t v1 na c0 x z w' from hm.mono fun z w' ho => ho.drop hnew)
  clear hm hnew hx h hg htl hts hat hb
  go_enter Tryz.func142, Tryz.ntmps142
  go_wp2_with (go_at_call 165; refine HM.out.mono ?_; rintro z w1 hz; obtain ⟨b, rfl, hz2⟩ := hz.ret; have HZ := Lib.hid hz2; clear hz hz2)
  go_ret
  exact HZ.out

theorem ent_comparison : Ent 182 := fun args w => enters_of Tryz.func182 (by kernel_rfl) rfl args w

set_option maxHeartbeats 1000000 in
set_option maxRecDepth 100000 in
theorem lv2_any {W0 : World} {B : Nat} {t : Bs} {v1 : Value} {na : Int} (hg : Glob W0) (htl : t.length ≤ 2048) (ts : List Tk) (x : Rs) (hx : Lv (Opd W0 B t v1 na 182) 2 ts x) : Opd W0 B t v1 na 166 ts x := by
  intro f c0 w p s r hts hat h hb
  have hm := many_any 182 ent_comparison 2 w.heap.size 3 (by decide) x ts hx _ hg hts (h.add (opsObj 2 3)) hat htl hb (if_pos rfl)
  have hnew := h.new
  have HM := Lib.hid (show Calls Tryz.prog 165 #[.pointer (some ⟨B, 0, none⟩), .func (.func 182) #[.pointer (some ⟨B, 0, none⟩)] #[], .slice (some ⟨w.heap.size, 0, none⟩) 1 1] (w.alloc (.cells #[.int .i64 14] 3 (0, 0))) fun z w' => Out f W0 B t v1 na c0 x z w' from hm.mono fun z w' ho => ho.drop hnew)
  clear hm hnew hx h hg htl hts hat hb
  go_enter Tryz.func166, Tryz.ntmps166
  go_wp2_with (go_at_call 165; refine HM.out.mono ?_; rintro z w1 hz; obtain ⟨b, rfl, hz2⟩ := hz.ret; have HZ := Lib.hid hz2; clear hz hz2)
  go_ret
  exact HZ.out

theorem ent_sum : Ent 191 := fun args w => enters_of Tryz.func191 (by kernel_rfl) rfl args w

set_option maxHeartbeats 1000000 in
set_option maxRecDepth 100000 in
theorem lv3_any {W0 : World} {B : Nat} {t : Bs} {v1 : Value} {na : Int} (hg : Glob W0) (htl : t.length ≤ 2048) (ts : List Tk) (x : Rs) (hx : Lv (Opd W0 B t v1 na 191) 3 ts x) : Opd W0 B t v1 na 182 ts x := by
  intro f c0 w p s r hts hat h hb
  have hm := once_any 191 ent_sum w.heap.size 3 x ts hx _ hg hts (h.add (opsObj 3 3)) hat htl hb (if_pos rfl)
  have hnew := h.new
  have HM := Lib.hid (show Calls Tryz.prog 190 #[.pointer (some ⟨B, 0, none⟩), .func (.func 191) #[.pointer (some ⟨B, 0, none⟩)] #[], .slice (some ⟨w.heap.size, 0, none⟩) 3 3] (w.alloc (.cells #[.int .i64 11, .int .i64 12, .int .i64 13] 3 (0, 0))) fun z w' => Out f W0 B t v1 na c0 x z w' from hm.mono fun z w' ho => ho.drop hnew)
  clear hm hnew hx h hg htl hts hat hb
  go_enter Tryz.func182, Tryz.ntmps182
  go_wp2_with (go_at_call 190; refine HM.out.mono ?_; rintro z w1 hz; obtain ⟨b, rfl, hz2⟩ := hz.ret; have HZ := Lib.hid hz2; clear hz hz2)
  go_ret
  exact HZ.out

theorem ent_product : Ent 192 := fun args w => enters_of Tryz.func192 (by kernel_rfl) rfl args w

set_option maxHeartbeats 1000000 in
set_option maxRecDepth 100000 in
theorem lv4_any {W0 : World} {B : Nat} {t : Bs} {v1 : Value} {na : Int} (hg : Glob W0) (htl : t.length ≤ 2048) (ts : List Tk) (x : Rs) (hx : Lv (Opd W0 B t v1 na 192) 4 ts x) : Opd W0 B t v1 na 191 ts x := by
  intro f c0 w p s r hts hat h hb
  have hm := many_any 192 ent_product 4 w.heap.size 3 (by decide) x ts hx _ hg hts (h.add (opsObj 4 3)) hat htl hb (if_pos rfl)
  have hnew := h.new
  have HM := Lib.hid (show Calls Tryz.prog 165 #[.pointer (some ⟨B, 0, none⟩), .func (.func 192) #[.pointer (some ⟨B, 0, none⟩)] #[], .slice (some ⟨w.heap.size, 0, none⟩) 2 2] (w.alloc (.cells #[.int .i64 6, .int .i64 7] 3 (0, 0))) fun z w' => Out f W0 B t v1 na c0 x z w' from hm.mono fun z w' ho => ho.drop hnew)
  clear hm hnew hx h hg htl hts hat hb
  go_enter Tryz.func191, Tryz.ntmps191
  go_wp2_with (go_at_call 165; refine HM.out.mono ?_; rintro z w1 hz; obtain ⟨b, rfl, hz2⟩ := hz.ret; have HZ := Lib.hid hz2; clear hz hz2)
  go_ret
  exact HZ.out

theorem ent_one : Ent 193 := fun args w => enters_of Tryz.func193 (by kernel_rfl) rfl args w

set_option maxHeartbeats 1000000 in
set_option maxRecDepth 100000 in
theorem lv5_any {W0 : World} {B : Nat} {t : Bs} {v1 : Value} {na : Int} (hg : Glob W0) (htl : t.length ≤ 2048) (ts : List Tk) (x : Rs) (hx : Lv (Opd W0 B t v1 na 193) 5 ts x) : Opd W0 B t v1 na 192 ts x := by
  intro f c0 w p s r hts hat h hb
  have hm := many_any 193 ent_one 5 w.heap.size 3 (by decide) x ts hx _ hg hts (h.add (opsObj 5 3)) hat htl hb (if_pos rfl)
  have hnew := h.new
  have HM := Lib.hid (show Calls Tryz.prog 165 #[.pointer (some ⟨B, 0, none⟩), .func (.func 193) #[.pointer (some ⟨B, 0, none⟩)] #[], .slice (some ⟨w.heap.size, 0, none⟩) 1 1] (w.alloc (.cells #[.int .i64 8] 3 (0, 0))) fun z w' => Out f W0 B t v1 na c0 x z w' from hm.mono fun z w' ho => ho.drop hnew)
  clear hm hnew hx h hg htl hts hat hb
  go_enter Tryz.func192, Tryz.ntmps192
  go_wp2_with (go_at_call 165; refine HM.out.mono ?_; rintro z w1 hz; obtain ⟨b, rfl, hz2⟩ := hz.ret; have HZ := Lib.hid hz2; clear hz hz2)
  go_ret
  exact HZ.out

end Go.Proofs.YtfooiggedgcjcaaGreatDoor.I

namespace Go.Proofs.YtfooiggedgcjcaaGreatDoor.I
open Go Go.RowKit Go.Proofs.YtfooiggedgcjcaaGreatDoor.B Go.Proofs.YtfooiggedgcjcaaGreatDoor.K Go.Proofs.YtfooiggedgcjcaaGreatDoor.E
set_option linter.unusedVariables false

theorem atoi_dig (v : Nat) : Lib.decNat (dig v) = some v := by
  have key : ∀ v, Lib.decFrom 0 (dig v) = some v := by
    intro v
    induction v using Nat.strongRecOn with
    | _ v ih =>
      have app : ∀ (l : Bs) (acc n : Nat) (d : UInt8) (x : Nat), Lib.decFrom acc l = some n → Lib.digitVal d = some x → Lib.decFrom acc (l ++ [d]) = some (n * 10 + x) := by
        intro l
        induction l with
        | nil => intro acc n d x h hx; simp only [Lib.decFrom, Option.some.injEq] at h; subst h; simp [Lib.decFrom, hx]
        | cons c r ih2 =>
          intro acc n d x h hx
          simp only [List.cons_append, Lib.decFrom] at h ⊢
          split at h
          · rename_i y hy; exact ih2 _ _ _ _ h hx
          · cases h
      have dv : ∀ x, x < 10 → Lib.digitVal (UInt8.ofNat (48 + x)) = some x := by
        intro x hx
        unfold Lib.digitVal
        rw [UInt8.toNat_ofNat', Nat.mod_eq_of_lt (by omega), if_pos (by omega)]
        congr 1; omega
      by_cases h : v < 10
      · rw [dig_small v h]
        have := app [] 0 0 _ v rfl (dv v h)
        simpa using this
      · rw [dig_big v h]
        have := app (dig (v / 10)) 0 (v / 10) _ (v % 10) (ih (v / 10) (by omega)) (dv _ (by omega))
        rw [this]
        congr 1; omega
  unfold Lib.decNat
  rw [if_neg (by have := dig_ne v; simp [this]), key v]

theorem atoi_pos (v : Nat) : Lib.atoi (dig v) = some (v : Int) := by
  obtain ⟨c, r, h, hd⟩ := dig_head v
  have h1 := atoi_dig v
  rw [h] at h1 ⊢
  have e1 : (c == 45) = false := by rw [beq_eq_false_iff_ne]; rintro rfl; cases hd
  have e2 : (c == 43) = false := by rw [beq_eq_false_iff_ne]; rintro rfl; cases hd
  simp only [Lib.atoi, e1, e2, h1]
  rfl
theorem atoi_neg (v : Nat) : Lib.atoi (45 :: dig v) = some (-(v : Int)) := by
  simp only [Lib.atoi, atoi_dig v]
  rfl

section
variable {f : Nat → Option Obj} {W0 : World} {B a : Nat} {t s : Bs} {v1 : Value} {na : Int} {c0 : List In} {r : List Tk}

set_option maxHeartbeats 1000000 in
set_option maxRecDepth 100000 in
theorem constant_any (v : Int) (hv : Lib.atoi s = some v) (hl : s.length ≤ 18) (hv1 : -1099511627776 ≤ v) (hv2 : v ≤ 1099511627776) (w : World) (hg : Glob W0) (h : Rd f W0 B t v1 na a s c0 0 w) (hle : a + s.length ≤ t.length) (hL : Lx (a + s.length) (t.drop (a + s.length)) r)
    (htl : t.length ≤ 2048) (hb : c0.length ≤ 1000000) :
    Calls Tryz.prog 194 #[.pointer (some ⟨B, 0, none⟩)] w fun z w' => Out f W0 B t v1 na c0 (.ok [(1, v)] r) z w' := by
  obtain ⟨⟨p', s'⟩, r', hr⟩ := lx_cons hL
  subst hr
  have HAT := Lib.hid (fun W => S.strconv_Atoi (str s) v (by rw [str_size]; exact hl) (by rw [str_data]; exact hv) W)
  have HP := Lib.hid (fun W hW => put_any (f := f) (W0 := W0) (B := B) (a := a) (t := t) (s := s) (v1 := v1) (na := na) (e := 0) (c := c0) W 1 v hW (by omega))
  have HA := Lib.hid (fun W c hW => advance_any (f := f) (W0 := W0) (B := B) (a := a) (p := p') (t := t) (s := s) (s' := s') (v1 := v1) (na := na) (e := 0) (c := c) (r := r') W hg hW hle hL htl)
  obtain ⟨_, ⟨_, _, _, _, c4, _, _⟩, _, _⟩ := h.cells
  have d1 : decide (v < -1099511627776) = false := decide_eq_false (by omega)
  have d2 : decide (1099511627776 < v) = false := decide_eq_false (by omega)
  have HH := Lib.hid h
  unfold sv at c4
  clear hv hl hv1 hv2 h hle hL htl hb hg
  go_enter Tryz.func194, Tryz.ntmps194
  go_wp2_with (first | (go_at_call 107; refine (HAT.out _).mono ?_; rintro _ w1 ⟨rfl, tt, hw1⟩; have HR1 := Lib.hid (HH.out.grow (show Below w.heap.size w w1 by rw [hw1]; exact Lib.bytesWorld_below _ _ _)); clear hw1) | (go_at_call 189; refine (HP.out _ HR1.out).mono ?_; rintro _ w2 ⟨rfl, hr2⟩; have HR2 := Lib.hid hr2; clear hr2) | (go_at_call 141; refine (HA.out _ _ HR2.out).mono ?_; rintro _ w3 ⟨rfl, hr3, ha3⟩; have HR3 := Lib.hid hr3; have HA3 := Lib.hid ha3; clear hr3 ha3))
  go_ret
  exact out_ok rfl HA3.out HR3.out

set_option maxHeartbeats 1000000 in
set_option maxRecDepth 100000 in
theorem argument_any (k : Nat) (hk : k < 10) (hs : s = [36] ++ dig k) (hna : (k : Int) < na) (w : World) (hg : Glob W0) (h : Rd f W0 B t v1 na a s c0 0 w) (hle : a + s.length ≤ t.length) (hL : Lx (a + s.length) (t.drop (a + s.length)) r)
    (htl : t.length ≤ 2048) (hb : c0.length ≤ 1000000) :
    Calls Tryz.prog 197 #[.pointer (some ⟨B, 0, none⟩)] w fun z w' => Out f W0 B t v1 na c0 (.ok [(3, (k : Int))] r) z w' := by
  obtain ⟨⟨p', s'⟩, r', hr⟩ := lx_cons hL
  subst hr
  have HP := Lib.hid (fun W hW => put_any (f := f) (W0 := W0) (B := B) (a := a) (t := t) (s := s) (v1 := v1) (na := na) (e := 0) (c := c0) W 3 (k : Int) hW (by omega))
  have HA := Lib.hid (fun W c hW => advance_any (f := f) (W0 := W0) (B := B) (a := a) (p := p') (t := t) (s := s) (s' := s') (v1 := v1) (na := na) (e := 0) (c := c) (r := r') W hg hW hle hL htl)
  obtain ⟨_, ⟨_, _, c2, _, c4, _, _⟩, _, _⟩ := h.cells
  have HH := Lib.hid h
  have hs2 : s = [36, UInt8.ofNat (48 + k)] := by rw [hs, dig_small k hk]; rfl
  have hsz : (str s).size = 2 := by rw [str_size, hs2]; rfl
  have h1 : 1 < (str s).size := by omega
  obtain ⟨d, hd⟩ : ∃ d, UInt8.ofNat (48 + k) = d := ⟨_, rfl⟩
  rw [hd] at hs2
  have hc1 : (str s)[1]'h1 = d := by
    have h2 : s[1]? = some d := by rw [hs2]; rfl
    rw [str_get]
    exact (List.getElem?_eq_some_iff.1 h2).2
  have hto : (d.toNat : Int) = 48 + (k : Int) := by rw [← hd, UInt8.toNat_ofNat']; omega
  have hw8 : IntKind.u8.wrap (48 + (k : Int) - 48) = (k : Int) := by rw [show 48 + (k : Int) - 48 = (k : Int) by omega]; exact IntWalk.u8_in _ (by omega)
  have hw64 : IntKind.i64.wrap (k : Int) = (k : Int) := IntWalk.i64_in _ (by omega)
  have hlt : decide (na ≤ (k : Int)) = false := decide_eq_false (by omega)
  have hlt2 : ¬ na ≤ (k : Int) := by omega
  have hk0 : 0 ≤ (k : Int) := by omega
  unfold sv at c4
  clear hs hs2 h hle hL htl hb hg hna hd
  go_enter Tryz.func197, Tryz.ntmps197
  go_wp2_with (first | (go_at_call 189; refine (HP.out _ HH.out).mono ?_; rintro _ w2 ⟨rfl, hr2⟩; have HR2 := Lib.hid hr2; clear hr2) | (go_at_call 141; refine (HA.out _ _ HR2.out).mono ?_; rintro _ w3 ⟨rfl, hr3, ha3⟩; have HR3 := Lib.hid hr3; have HA3 := Lib.hid ha3; clear hr3 ha3))
  go_ret
  exact out_ok rfl HA3.out HR3.out

theorem idx_str (vs : List Bs) (s : Bs) (k : Nat) (hk : vs[k]? = some s) (hn : ∀ j, j < k → vs[j]? ≠ some s) : Lib.idxOfS (vs.map str) (str s) = (k : Int) := by
  obtain ⟨h1, h2⟩ := List.getElem?_eq_some_iff.1 hk
  have := Lib.idxFromS_hit (str s) (vs.map str) k 0 (by rw [List.length_map]; exact h1) (by rw [List.getD_eq_getElem?_getD, List.getElem?_map, hk]; rfl) (fun j hj => by
    rw [List.getD_eq_getElem?_getD, List.getElem?_map, List.getElem?_eq_getElem (show j < vs.length by omega)]
    show str vs[j] ≠ str s
    intro e
    exact hn j hj (by rw [List.getElem?_eq_getElem (show j < vs.length by omega), str_inj e]))
  unfold Lib.idxOfS
  rw [this]
  omega

set_option maxHeartbeats 1000000 in
set_option maxRecDepth 100000 in
theorem variable_any (vs : List Bs) (hvs : Names W0 v1 vs) (k : Nat) (hk : vs[k]? = some s) (hn : ∀ j, j < k → vs[j]? ≠ some s) (w : World) (hg : Glob W0) (h : Rd f W0 B t v1 na a s c0 0 w) (hle : a + s.length ≤ t.length) (hL : Lx (a + s.length) (t.drop (a + s.length)) r)
    (htl : t.length ≤ 2048) (hb : c0.length ≤ 1000000) (hvl : vs.length ≤ 1000000) :
    Calls Tryz.prog 198 #[.pointer (some ⟨B, 0, none⟩)] w fun z w' => Out f W0 B t v1 na c0 (.ok [(2, (k : Int))] r) z w' := by
  obtain ⟨⟨p', s'⟩, r', hr⟩ := lx_cons hL
  subst hr
  have HP := Lib.hid (fun W hW => put_any (f := f) (W0 := W0) (B := B) (a := a) (t := t) (s := s) (v1 := v1) (na := na) (e := 0) (c := c0) W 2 (k : Int) hW (by omega))
  have HA := Lib.hid (fun W c hW => advance_any (f := f) (W0 := W0) (B := B) (a := a) (p := p') (t := t) (s := s) (s' := s') (v1 := v1) (na := na) (e := 0) (c := c) (r := r') W hg hW hle hL htl)
  obtain ⟨_, ⟨_, c1, _, _, c4, _, _⟩, _, _⟩ := h.cells
  have HH := Lib.hid h
  have hnw := h.names hvs
  obtain ⟨ad, cap, hv1, hcell⟩ := hnw
  obtain ⟨b, off, hab, _⟩ := hcell k (sv s) (by rw [List.getElem?_map, hk]; rfl)
  have hIc : ∀ j, j < (vs.map str).length → w.cell? ⟨b, off + j, none⟩ = some (.string ((vs.map str).getD j ByteArray.empty)) := fun j hj => by
    rw [List.length_map] at hj
    obtain ⟨b', off', e1, e2⟩ := hcell j (sv vs[j]) (by rw [List.getElem?_map, List.getElem?_eq_getElem hj]; rfl)
    rw [hab] at e1
    cases e1
    rw [e2, List.getD_eq_getElem?_getD, List.getElem?_map, List.getElem?_eq_getElem hj]
    rfl
  have hI := fun m => S.slices_Index_string b off vs.length cap (vs.map str) (str s) (w.drewN m) (by rw [List.length_map]; exact Nat.le_refl _) (by omega) hIc
  rw [List.take_of_length_le (by rw [List.length_map]; exact Nat.le_refl _), idx_str vs s k hk hn] at hI
  rw [hab, List.length_map] at hv1
  obtain ⟨n, hnn⟩ : ∃ n, vs.length = n := ⟨_, rfl⟩
  rw [hnn] at hI hv1
  rw [hv1] at c1
  have HI := Lib.hid hI
  have hk0 : ¬ (k : Int) < 0 := by omega
  unfold sv at c4
  clear h hle hL htl hb hg hk hn hcell hI hv1 hnn hvs hvl hab hIc
  go_enter Tryz.func198, Tryz.ntmps198
  go_wp2_with fail
  go_quiet ((go_at_call 84; exact Calls.quiet_of_same (HI.out _)))
  go_wp2_with (first | (go_at_call 189; refine (HP.out _ (HH.out.drewN _)).mono ?_; rintro _ w2 ⟨rfl, hr2⟩; have HR2 := Lib.hid hr2; clear hr2) | (go_at_call 141; refine (HA.out _ _ HR2.out).mono ?_; rintro _ w3 ⟨rfl, hr3, ha3⟩; have HR3 := Lib.hid hr3; have HA3 := Lib.hid ha3; clear hr3 ha3))
  go_ret
  exact out_ok rfl HA3.out HR3.out
end
end Go.Proofs.YtfooiggedgcjcaaGreatDoor.I

namespace Go.Proofs.YtfooiggedgcjcaaGreatDoor.I
open Go Go.RowKit Go.Proofs.YtfooiggedgcjcaaGreatDoor.B Go.Proofs.YtfooiggedgcjcaaGreatDoor.K Go.Proofs.YtfooiggedgcjcaaGreatDoor.E
set_option linter.unusedVariables false

set_option maxHeartbeats 2000000 in
theorem operands_any (o : Int) (h1 : 1 ≤ o) (h2 : o ≤ 16) (w : World) : Calls Tryz.prog 153 #[.int .i64 o] w fun e w' => e = .returned (.int .i64 (takes o)) ∧ w = w' := by
  rcases (show o = 1 ∨ o = 2 ∨ o = 3 ∨ o = 4 ∨ o = 5 ∨ o = 6 ∨ o = 7 ∨ o = 8 ∨ o = 9 ∨ o = 10 ∨ o = 11 ∨ o = 12 ∨ o = 13 ∨ o = 14 ∨ o = 15 ∨ o = 16 by omega) with rfl | rfl | rfl | rfl | rfl | rfl | rfl | rfl | rfl | rfl | rfl | rfl | rfl | rfl | rfl | rfl
  all_goals
    go_enter Tryz.func153, Tryz.ntmps153
    go_wp2_with fail
    go_ret
    exact ⟨rfl, rfl⟩

section
variable {f : Nat → Option Obj} {W0 : World} {B p : Nat} {t s : Bs} {v1 : Value} {na : Int} {c0 : List In} {r : List Tk}

set_option maxHeartbeats 1000000 in
set_option maxRecDepth 100000 in
theorem pass_any (w : World) (hg : Glob W0) (h : Rd f W0 B t v1 na p s c0 0 w) (hat : At t p s r) (hs : s ≠ []) (htl : t.length ≤ 2048) :
    Calls Tryz.prog 196 #[.pointer (some ⟨B, 0, none⟩), sv s] w fun z w' => z = .returned (.bool true) ∧ ∃ p' s' r', r = (p', s') :: r' ∧ At t p' s' r' ∧ Rd f W0 B t v1 na p' (cutw s') c0 0 w' := by
  obtain ⟨h1, h2⟩ := hat.next hs
  obtain ⟨⟨p', s'⟩, r', hr⟩ := lx_cons h2
  have HA := Lib.hid (advance_any w hg h h1 (hr ▸ h2) htl)
  obtain ⟨_, ⟨_, _, _, _, c4, _, _⟩, _, _⟩ := h.cells
  have he : ((str s).toList == (str s).toList) = true := by simp
  have HR := Lib.hid hr
  unfold sv at c4 ⊢
  clear h1 h2 h hat hs htl hg hr
  go_enter Tryz.func196, Tryz.ntmps196
  go_wp2_with (go_at_call 141; refine HA.out.mono ?_; rintro _ w1 ⟨rfl, hr1, ha1⟩; have HR1 := Lib.hid hr1; have HA1 := Lib.hid ha1; clear hr1 ha1)
  go_ret
  exact ⟨rfl, p', s', r', HR.out, HA1.out, HR1.out⟩

/-- The operands of a call, from one on. -/
inductive Args (C : List Tk → Rs → Prop) : Nat → Bs → List Tk → List In → List Tk → Prop
  | nil (ah : Bs) (ts : List Tk) : Args C 0 ah ts [] ts
  | cons (n : Nat) (ah : Bs) (q : Nat) (l : List Tk) (c c' : List In) (ts ts' : List Tk) : C l (.ok c ts) → c.length + ts.length ≤ l.length → Args C n [44] ts c' ts' → Args C (n + 1) ah ((q, ah) :: l) (c ++ c') ts'

theorem args_inv {C : List Tk → Rs → Prop} {n : Nat} {ah : Bs} {ts ts' : List Tk} {c : List In} (h : Args C n ah ts c ts') :
    (n = 0 ∧ c = [] ∧ ts' = ts) ∨ ∃ m q l c1 c2 ts1, n = m + 1 ∧ ts = (q, ah) :: l ∧ c = c1 ++ c2 ∧ C l (.ok c1 ts1) ∧ c1.length + ts1.length ≤ l.length ∧ Args C m [44] ts1 c2 ts' := by
  cases h with
  | nil => exact Or.inl ⟨rfl, rfl, rfl⟩
  | cons n ah q l c c' ts ts' h1 h2 h3 => exact Or.inr ⟨n, q, l, c, c', ts, rfl, rfl, rfl, h1, h2, h3⟩

set_option maxHeartbeats 2000000 in
set_option maxRecDepth 100000 in
theorem call_any (o : Int) (n : Nat) (hn : takes o = (n : Int)) (ho1 : 1 ≤ o) (ho2 : o ≤ 16) (c : List In) (q : Nat) (r' : List Tk) (w : World) (hg : Glob W0) (h : Rd f W0 B t v1 na p s c0 0 w) (hat : At t p s r) (hs : s ≠ []) (htl : t.length ≤ 2048)
    (hargs : Args (Opd W0 B t v1 na 142) n [40] r c ((q, [41]) :: r')) (hb : c0.length + r.length ≤ 999999) (hn1 : 0 < n) :
    Calls Tryz.prog 199 #[.pointer (some ⟨B, 0, none⟩), .int .i64 o] w fun z w' => Out f W0 B t v1 na c0 (.ok (c ++ [(o, 0)]) r') z w' := by
  obtain ⟨h1, h2⟩ := hat.next hs
  obtain ⟨⟨p', s'⟩, r1, hr⟩ := lx_cons h2
  have HA := Lib.hid (advance_any w hg h h1 (hr ▸ h2) htl)
  have HOP := Lib.hid (fun W => operands_any o ho1 ho2 W)
  rw [hn] at HOP
  have HPS := Lib.hid (fun (W : World) (p : Nat) (s : Bs) (c : List In) (r : List Tk) hW hat hs => pass_any (f := f) (W0 := W0) (B := B) (p := p) (t := t) (s := s) (v1 := v1) (na := na) (c0 := c) (r := r) W hg hW hat hs htl)
  have HPT := Lib.hid (fun (W : World) (c : List In) (p : Nat) (s : Bs) (hW : Rd f W0 B t v1 na p s c 0 W) (hc : c.length ≤ 1000000000000) => put_any W o 0 hW hc)
  have HR := Lib.hid hr
  have HARGS := Lib.hid hargs
  have HB := Lib.hid hb
  have HO := Lib.hid (show n ≤ 3 by have := takes_range o; omega)
  clear h1 h2 h hat hs hg hr hargs hb hn ho1 ho2 htl
  go_enter Tryz.func199, Tryz.ntmps199
  go_wp2_with (first | (go_at_call 141; refine HA.out.mono ?_; rintro _ w1 ⟨rfl, hr1, ha1⟩; have HR1 := Lib.hid hr1; have HA1 := Lib.hid ha1; clear hr1 ha1) | (go_at_call 153; refine (HOP.out _).mono ?_; rintro _ w2 ⟨rfl, rfl⟩))
  go_loopg [5, 10] n (fun g ah k wr => ∃ (K : Nat) (l : Bs) (c1 c2 : List In) (ts r2 : List Tk) (p2 : Nat) (s2 : Bs), K + g = n ∧ ah = .string (str l) ∧ k = .int .i64 (K : Int) ∧ Hid (l ≠ [] ∧ cutw l = l) ∧ Hid (ts = (p2, s2) :: r2 ∧ c1 ++ c2 = c ∧ c0.length + c1.length + ts.length ≤ 999999) ∧ Hid (Args (Opd W0 B t v1 na 142) g l ts c2 ((q, [41]) :: r')) ∧ Hid (At t p2 s2 r2) ∧ Hid (Rd f W0 B t v1 na p2 (cutw s2) (c0 ++ c1) 0 wr))
  case atStart => exact ⟨0, [40], [], c, r, r1, p', s', by omega, rfl, rfl, Lib.hid ⟨by decide, by decide⟩, Lib.hid ⟨HR.out, rfl, by have := HB.out; simp; omega⟩, HARGS, HA1, Lib.hid (by rw [List.append_nil]; exact HR1.out)⟩
  case round =>
    obtain ⟨K, l, c1, c2, ts, r2, p2, s2, hK, rfl, rfl, HL, HTS, HAR, HAT, HRR⟩ := hrel
    have har := HAR.out
    rcases args_inv har with ⟨hz, hc, hts⟩ | ⟨m, q2, l2, d1, d2, ts1, hm, hts, hc, hop, hlen, har2⟩
    · obtain ⟨ht1, ht2, ht3⟩ := HTS.out
      rw [← hts] at ht1
      cases ht1
      subst hz hc
      rw [List.append_nil] at ht2
      subst ht2
      have hKn : (K : Int) = (n : Int) := by omega
      obtain rfl : K = n := by omega
      have hRR : Rd f W0 B t v1 na q [41] (c0 ++ c1) 0 wr := HRR.out
      have HP2 := Lib.hid (HPS.out wr q [41] (c0 ++ c1) r' hRR HAT.out (by decide))
      have HLN := Lib.hid (show (c0 ++ c1).length ≤ 1000000000000 by rw [List.length_append]; omega)
      clear har hts ht3 hRR hKn HRR
      unfold sv at HP2
      go_wp2_with (first | (go_at_call 196; refine HP2.out.mono ?_; rintro _ w3 ⟨rfl, p4, s4, r4, e4, a4, hr4⟩; have HR4 := Lib.hid hr4; have HA4 := Lib.hid a4; have HE4 := Lib.hid e4; clear hr4 a4 e4) | (go_at_call 189; refine (HPT.out _ _ _ _ HR4.out HLN.out).mono ?_; rintro _ w5 ⟨rfl, hr5⟩; have HR5 := Lib.hid hr5; clear hr5))
      go_ret
      exact out_ok HE4.out HA4.out (by rw [← List.append_assoc]; exact HR5.out)
    · obtain ⟨ht1, ht2, ht3⟩ := HTS.out
      rw [hts] at ht1
      cases ht1
      subst hm hc hts
      have hKI : (K : Int) < (n : Int) := by omega
      have hwK : IntKind.i64.wrap ((K : Int) + 1) = ((K + 1 : Nat) : Int) := by rw [show ((K + 1 : Nat) : Int) = (K : Int) + 1 by omega]; exact IntWalk.i64_in _ (by have := HO.out; omega)
      have hRR : Rd f W0 B t v1 na p2 l (c0 ++ c1) 0 wr := by have := HRR.out; rw [HL.out.2] at this; exact this
      have HP2 := Lib.hid (HPS.out wr p2 l (c0 ++ c1) r2 hRR HAT.out HL.out.1)
      have HOPA := Lib.hid (fun W p s r h1 h2 h3 => hop f (c0 ++ c1) W p s r h1 h2 h3 (by rw [List.length_append]; simp only [List.length_cons] at ht3; omega))
      have HAR2 := Lib.hid har2
      have HLN := Lib.hid (show c1 ++ d1 ++ d2 = c ∧ c0.length + (c1 ++ d1).length + ts1.length ≤ 999999 by
        refine ⟨by rw [← ht2]; simp, ?_⟩
        simp only [List.length_append, List.length_cons] at ht3 ⊢
        omega)
      clear har ht2 ht3 hRR hop hlen har2 HRR
      unfold sv at HP2
      go_wp2_with (first | (go_at_call 196; refine HP2.out.mono ?_; rintro _ w3 ⟨rfl, p4, s4, r4, e4, a4, hr4⟩; have HR4 := Lib.hid hr4; have HA4 := Lib.hid a4; have HE4 := Lib.hid e4; clear hr4 a4 e4) | (go_at_call 142; refine (HOPA.out _ _ _ _ HE4.out HA4.out HR4.out).mono ?_; rintro _ w5 ⟨rfl, p6, s6, r6, e6, a6, hr6⟩; have HR6 := Lib.hid hr6; have HA6 := Lib.hid a6; have HE6 := Lib.hid e6; clear hr6 a6 e6))
      go_roundg m
      case measure => omega
      case rel => exact ⟨K + 1, [44], c1 ++ d1, d2, ts1, r6, p6, s6, by omega, rfl, by go_num, Lib.hid ⟨by decide, by decide⟩, Lib.hid ⟨HE6.out, HLN.out.1, HLN.out.2⟩, HAR2, HA6, Lib.hid (by have h6 := HR6.out; simp only [List.append_assoc] at h6 ⊢; exact h6)⟩
end
end Go.Proofs.YtfooiggedgcjcaaGreatDoor.I
