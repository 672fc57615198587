/-
  Contracts of the program's reader of layer 4: operands with signs between them.
-/
import Derived.Test.YtbeidmkhpcnbbaaGreatDoorIPSec
namespace Go.Proofs.YtbeidmkhpcnbbaaGreatDoor.I
open Go Go.RowKit Go.Proofs.YtbeidmkhpcnbbaaGreatDoor.B Go.Proofs.YtbeidmkhpcnbbaaGreatDoor.K Go.Proofs.YtbeidmkhpcnbbaaGreatDoor.E
set_option linter.unusedVariables false

/-- What follows an operand, step by step. -/
inductive Steps (C : List Tk → Rs → Prop) (k : Nat) : Bool → List In → List Tk → Rs → Prop
  | stop (m : Bool) (c : List In) (r : List Tk) : (opAt k (headB r) = none ∨ (k = 3 ∧ m = true)) → Steps C k m c r (.ok c r)
  | err (m : Bool) (c : List In) (q : Nat) (s : Bs) (o : Int) (r : List Tk) (p : Nat) (e : Int) : opAt k s = some o → ¬ (k = 3 ∧ m = true) → C r (.err p e) → Steps C k m c ((q, s) :: r) (.err p e)
  | go (m : Bool) (c : List In) (q : Nat) (s : Bs) (o : Int) (r : List Tk) (d : List In) (t : List Tk) (x : Rs) : opAt k s = some o → ¬ (k = 3 ∧ m = true) → C r (.ok d t) → d.length + t.length ≤ r.length → Steps C k (decide (k = 3)) (c ++ d ++ [(o, 0)]) t x → Steps C k m c ((q, s) :: r) x

theorem steps_any {C : List Tk → Rs → Prop} {k : Nat} {c : List In} {q : Nat} {s : Bs} {r : List Tk} {x : Rs} (h : Steps C k false c ((q, s) :: r) x) :
    (opAt k s = none ∧ x = .ok c ((q, s) :: r)) ∨ ∃ o, opAt k s = some o ∧ ((∃ p e, x = .err p e ∧ C r (.err p e)) ∨ ∃ d t, C r (.ok d t) ∧ d.length + t.length ≤ r.length ∧ Steps C k (decide (k = 3)) (c ++ d ++ [(o, 0)]) t x) := by
  generalize hm : false = m at h
  generalize hr : (q, s) :: r = r' at h
  cases h with
  | stop _ _ _ h1 =>
    subst hm hr
    rcases h1 with h1 | h1
    · exact Or.inl ⟨h1, rfl⟩
    · cases h1.2
  | err _ _ _ _ o _ p e h1 h2 h3 => cases hr; exact Or.inr ⟨o, h1, Or.inl ⟨p, e, rfl, h3⟩⟩
  | go _ _ _ _ o _ d t _ h1 h2 h3 h4 h5 => cases hr; exact Or.inr ⟨o, h1, Or.inr ⟨d, t, h3, h4, h5⟩⟩

theorem steps_done {C : List Tk → Rs → Prop} {c : List In} {r : List Tk} {x : Rs} (h : Steps C 3 true c r x) : x = .ok c r := by
  generalize hm : true = m at h
  cases h with
  | stop => rfl
  | err _ _ _ _ _ _ _ _ _ h2 => exact absurd ⟨rfl, hm.symm⟩ h2
  | go _ _ _ _ _ _ _ _ _ _ h2 => exact absurd ⟨rfl, hm.symm⟩ h2

/-- The instructions of a level. -/
def opsOf (k : Nat) : List Nat := match k with | 1 => [15] | 2 => [14] | 3 => [11, 12, 13] | 4 => [6, 7] | _ => [8]

theorem cutw_sg (s x : Bs) (hx : ∀ c ∈ x.head?, letter c = false) : cutw s = x ↔ s = x := by
  cases s with
  | nil => exact Iff.rfl
  | cons c r =>
    by_cases hc : letter c = true
    · have h1 : cutw (c :: r) = c :: r.take 23 := by show (if letter c = true then (c :: r).take 24 else c :: r) = _; rw [if_pos hc]; rfl
      rw [h1]
      constructor
      · rintro rfl; have := hx c (by simp); rw [hc] at this; cases this
      · rintro rfl; have := hx c (by simp); rw [hc] at this; cases this
    · have h1 : cutw (c :: r) = c :: r := by show (if letter c = true then (c :: r).take 24 else c :: r) = _; rw [if_neg hc]
      rw [h1]

theorem among_cons (o : Nat) (l : List Nat) (s : Bs) : amongOf (o :: l) s = if s = sg o then o else amongOf l s := by
  unfold amongOf
  rw [List.find?_cons]
  by_cases h : s = sg o
  · rw [if_pos h, decide_eq_true h]
  · rw [if_neg h, decide_eq_false h]
theorem among_nil (s : Bs) : amongOf [] s = 0 := rfl

theorem opAt_among (k : Nat) (h1 : 1 ≤ k) (h5 : k ≤ 5) (s : Bs) : ((amongOf (opsOf k) (cutw s) : Nat) : Int) = (opAt k s).getD 0 := by
  have h15 : (cutw s = sg 15) = (s = [124]) := propext (cutw_sg s [124] (by decide))
  have h14 : (cutw s = sg 14) = (s = [38]) := propext (cutw_sg s [38] (by decide))
  have h11 : (cutw s = sg 11) = (s = [60]) := propext (cutw_sg s [60] (by decide))
  have h12 : (cutw s = sg 12) = (s = [60, 61]) := propext (cutw_sg s [60, 61] (by decide))
  have h13 : (cutw s = sg 13) = (s = [61]) := propext (cutw_sg s [61] (by decide))
  have h6 : (cutw s = sg 6) = (s = [43]) := propext (cutw_sg s [43] (by decide))
  have h7 : (cutw s = sg 7) = (s = [45]) := propext (cutw_sg s [45] (by decide))
  have h8 : (cutw s = sg 8) = (s = [42]) := propext (cutw_sg s [42] (by decide))
  rcases (show k = 1 ∨ k = 2 ∨ k = 3 ∨ k = 4 ∨ k = 5 by omega) with rfl | rfl | rfl | rfl | rfl
  · simp only [show opsOf 1 = [15] from rfl, among_cons, among_nil, h15, show opAt 1 s = if s = [124] then some 15 else none from rfl]
    repeat' split
    all_goals rfl
  · simp only [show opsOf 2 = [14] from rfl, among_cons, among_nil, h14, show opAt 2 s = if s = [38] then some 14 else none from rfl]
    repeat' split
    all_goals rfl
  · simp only [show opsOf 3 = [11, 12, 13] from rfl, among_cons, among_cons, among_cons, among_nil, h11, h12, h13, show opAt 3 s = if s = [60] then some 11 else if s = [60, 61] then some 12 else if s = [61] then some 13 else none from rfl]
    repeat' split
    all_goals rfl
  · simp only [show opsOf 4 = [6, 7] from rfl, among_cons, among_cons, among_nil, h6, h7, show opAt 4 s = if s = [43] then some 6 else if s = [45] then some 7 else none from rfl]
    repeat' split
    all_goals rfl
  · simp only [show opsOf 5 = [8] from rfl, among_cons, among_nil, h8, show opAt 5 s = if s = [42] then some 8 else none from rfl]
    repeat' split
    all_goals rfl

theorem opAt_word (k : Nat) (s : Bs) (o : Int) (h : opAt k s = some o) : cutw s = s ∧ s ≠ [] ∧ o ≠ 0 := by
  unfold opAt at h
  have key : ∀ x : Bs, x ≠ [] → (∀ c ∈ x.head?, letter c = false) → s = x → o ≠ 0 → cutw s = s ∧ s ≠ [] ∧ o ≠ 0 := fun x h1 h2 h3 h4 => ⟨by rw [h3]; exact (cutw_sg x x h2).2 rfl, by rw [h3]; exact h1, h4⟩
  repeat' split at h
  all_goals first | (cases h; rename_i h9; exact key _ (by decide) (by decide) h9 (by decide)) | cases h

section
variable {f : Nat → Option Obj} {W0 : World} {B p : Nat} {t s : Bs} {v1 : Value} {na : Int} {c0 : List In} {r : List Tk}

/-- The row of a level's instructions, made for the call. -/
def opsObj (k : Nat) (T : TypeId) : Obj := .cells ((opsOf k).map fun (o : Nat) => Value.int .i64 (o : Int)).toArray T (0, 0)

theorem Rd.ops {a : Nat} {c : List In} {e : Int} {w : World} (h : Rd f W0 B t v1 na a s c e w) {k kb : Nat} {T : TypeId} (hf : f kb = some (opsObj k T)) : Sl w (.slice (some ⟨kb, 0, none⟩) (opsOf k).length (opsOf k).length) ((opsOf k).map fun (o : Nat) => Value.int .i64 (o : Int)) := by
  have h1 := (h.frame kb _ hf).1
  have := Sl.row (cap := (opsOf k).length) (xs := (opsOf k).map fun (o : Nat) => Value.int .i64 (o : Int)) h1 (by exact List.take_of_length_le (Nat.le_refl _))
  simpa using this

theorem ops_small (k : Nat) : (∀ o ∈ opsOf k, o < 17) ∧ (opsOf k).length ≤ 1000 := by
  unfold opsOf; split <;> exact ⟨by decide, by decide⟩

/-- What comes behind an operand's words, or what is wrong in it. -/
def Lv (C : List Tk → Rs → Prop) (k : Nat) (ts : List Tk) (x : Rs) : Prop :=
  (∃ p e, x = .err p e ∧ C ts x) ∨ ∃ c r, C ts (.ok c r) ∧ c.length + r.length ≤ ts.length ∧ Steps C k false c r x

set_option maxHeartbeats 2000000 in
set_option maxRecDepth 100000 in
theorem many_any (N : Nat) (hN : Ent N) (k kb : Nat) (T : TypeId) (hk : k = 1 ∨ k = 2 ∨ k = 4 ∨ k = 5) (x : Rs) (ts : List Tk) (hx : Lv (Opd W0 B t v1 na N) k ts x) (w : World) (hg : Glob W0) (hts : ts = (p, s) :: r) (h : Rd f W0 B t v1 na p (cutw s) c0 0 w) (hat : At t p s r)
    (htl : t.length ≤ 2048) (hb : c0.length + ts.length ≤ 1000000) (hf : f kb = some (opsObj k T)) :
    Calls Tryz.prog 35 #[.pointer (some ⟨B, 0, none⟩), .func (.func N) #[.pointer (some ⟨B, 0, none⟩)] #[], .slice (some ⟨kb, 0, none⟩) (opsOf k).length (opsOf k).length] w fun z w' => Out f W0 B t v1 na c0 x z w' := by
  have hN' : ∀ args w, (callFunc N args).run Tryz.prog w = .ok (.enter N args) w := hN
  have HN := Lib.hid hN
  have HGL := Lib.hid hg
  have HTL := Lib.hid htl
  have HF := Lib.hid hf
  have hk15 : 1 ≤ k ∧ k ≤ 5 ∧ k ≠ 3 := by omega
  have HK := Lib.hid hk15
  obtain ⟨n, hn⟩ : ∃ n, (opsOf k).length = n := ⟨_, rfl⟩
  have HNN := Lib.hid hn
  rw [hn]
  rcases hx with ⟨p1, e1, rfl, hop⟩ | ⟨c1, r1, hop, hlen, hst⟩
  · have HO := Lib.hid (hop f c0 w p s r hts hat h hb)
    clear hop hb hf hk hk15 hn hg htl hN h hat hts
    go_enter Tryz.func35, Tryz.ntmps35
    go_wp2_with fail
    refine HO.out.mono ?_
    rintro z w2 ⟨rfl, s2, c2, hr2⟩
    have HR2 := Lib.hid hr2
    clear hr2 HO
    go_wp2_with fail
    go_ret
    exact out_err HR2.out
  · have HO := Lib.hid (hop f c0 w p s r hts hat h hb)
    have HB := Lib.hid (show c0.length + c1.length + r1.length ≤ 1000000 by omega)
    have HST := Lib.hid hst
    have HAM := Lib.hid (fun (W : World) (a : Nat) (s' : Bs) (c : List In) (hR : Rd f W0 B t v1 na a (cutw s') c 0 W) => among_any W hg hR (opsOf k) kb (opsOf k).length (ops_small k).1 (ops_small k).2 (hR.ops hf))
    clear hop hb hf hk hk15 hg htl hN h hat hts hlen hst
    rw [hn] at HAM
    clear hn
    go_enter Tryz.func35, Tryz.ntmps35
    go_wp2_with fail
    refine HO.out.mono ?_
    rintro z w2 ⟨rfl, p2, s2, r2, ht2, ha2, hr2⟩
    have HA2 := Lib.hid ha2
    have HR2 := Lib.hid hr2
    clear hr2 HO
    go_wp2_with (go_at_call 49; refine (HAM.out _ p2 s2 _ HR2.out).mono ?_; rintro _ w3 ⟨rfl, hr3⟩; have HR3 := Lib.hid hr3; clear hr3)
    clear HR2 HA2
    go_loopg [7] r1.length (fun g op wr => ∃ (c : List In) (r' : List Tk) (p' : Nat) (s' : Bs) (r'' : List Tk), op = .int .i64 ((amongOf (opsOf k) (cutw s') : Nat) : Int) ∧ r'.length = g ∧ r' = (p', s') :: r'' ∧ c0.length + c.length + r'.length ≤ 1000000 ∧ Hid (Steps (Opd W0 B t v1 na N) k false c r' x) ∧ Hid (At t p' s' r'') ∧ Hid (Rd f W0 B t v1 na p' (cutw s') (c0 ++ c) 0 wr))
    case atStart => exact ⟨c1, r1, p2, s2, r2, rfl, rfl, ht2, HB.out, HST, Lib.hid ha2, HR3⟩
    case round =>
      obtain ⟨c, r', p', s', r'', rfl, hlen, hr', hbb, HS, HAT, HRR⟩ := hrel
      have hoa := opAt_among k HK.out.1 HK.out.2.1 s'
      have hst := HS.out
      rw [hr'] at hst
      rcases steps_any hst with ⟨ho, hx⟩ | ⟨o, ho, hrest⟩
      · have hz : amongOf (opsOf k) (cutw s') = 0 := by rw [ho] at hoa; have : ((amongOf (opsOf k) (cutw s') : Nat) : Int) = 0 := hoa; omega
        rw [hz]
        have HX := Lib.hid hx
        have HR' := Lib.hid hr'
        clear hst ho hoa hz hx hr'
        go_wp2_with fail
        go_ret
        rw [HX.out]
        exact out_ok rfl HAT.out HRR.out
      · obtain ⟨e1, e2, e3⟩ := opAt_word k s' o ho
        rw [ho] at hoa
        have hoa : ((amongOf (opsOf k) (cutw s') : Nat) : Int) = o := hoa
        rw [hoa]
        have hne : (o == 0) = false := beq_eq_false_iff_ne.2 e3
        have hRR : Rd f W0 B t v1 na p' s' (c0 ++ c) 0 wr := by have := HRR.out; rw [e1] at this; exact this
        have hlr : r'.length = r''.length + 1 := by rw [hr']; simp
        rcases hrest with ⟨p3, e4, hx, hop⟩ | ⟨d, t', hop, hdl, hst2⟩
        · have HS2 := Lib.hid (second_any N HN.out (.err p3 e4) hop wr o HGL.out hRR HAT.out e2 HTL.out (by rw [List.length_append]; omega) (fun d t' h => by cases h))
          have HX := Lib.hid hx
          clear hst hoa ho e1 e2 e3 hRR hop hx hr' hbb hlr hlen
          go_wp2_with (go_at_call 50; refine HS2.out.mono ?_; rintro z w4 ⟨rfl, s2, c2, hr2⟩; have HR4 := Lib.hid hr2; clear hr2)
          go_ret
          rw [HX.out]
          exact out_err HR4.out
        · have HS2 := Lib.hid (second_any N HN.out (.ok d t') hop wr o HGL.out hRR HAT.out e2 HTL.out (by rw [List.length_append]; omega) (fun d' t'' h => by cases h; omega))
          have HST2 := Lib.hid hst2
          have HLN := Lib.hid (show c0.length + (c ++ d ++ [(o, 0)]).length + t'.length ≤ 1000000 ∧ t'.length < gk by simp only [List.length_append, List.length_cons, List.length_nil]; omega)
          clear hst hoa ho e1 e2 e3 hRR hop hr' hbb hlr hlen hdl hst2
          go_wp2_with (first | (go_at_call 50; refine HS2.out.mono ?_; rintro z w4 ⟨rfl, p5, s5, r5, ht5, ha5, hr5⟩; have HA5 := Lib.hid ha5; have HR5 := Lib.hid hr5; have HT5 := Lib.hid ht5; clear hr5 ha5 ht5) | (go_at_call 49; refine (HAM.out _ p5 s5 _ HR5.out).mono ?_; rintro _ w6 ⟨rfl, hr6⟩; have HR6 := Lib.hid hr6; clear hr6))
          go_roundg t'.length
          case measure => exact HLN.out.2
          case rel => exact ⟨c ++ d ++ [(o, 0)], t', p5, s5, r5, rfl, rfl, HT5.out, HLN.out.1, Lib.hid (by have := HST2.out; rw [decide_eq_false HK.out.2.2] at this; exact this), HA5, Lib.hid (by have h6 := HR6.out; simp only [List.append_assoc] at h6 ⊢; exact h6)⟩

set_option maxHeartbeats 2000000 in
set_option maxRecDepth 100000 in
theorem once_any (N : Nat) (hN : Ent N) (kb : Nat) (T : TypeId) (x : Rs) (ts : List Tk) (hx : Lv (Opd W0 B t v1 na N) 3 ts x) (w : World) (hg : Glob W0) (hts : ts = (p, s) :: r) (h : Rd f W0 B t v1 na p (cutw s) c0 0 w) (hat : At t p s r)
    (htl : t.length ≤ 2048) (hb : c0.length + ts.length ≤ 1000000) (hf : f kb = some (opsObj 3 T)) :
    Calls Tryz.prog 59 #[.pointer (some ⟨B, 0, none⟩), .func (.func N) #[.pointer (some ⟨B, 0, none⟩)] #[], .slice (some ⟨kb, 0, none⟩) (opsOf 3).length (opsOf 3).length] w fun z w' => Out f W0 B t v1 na c0 x z w' := by
  have hN' : ∀ args w, (callFunc N args).run Tryz.prog w = .ok (.enter N args) w := hN
  have HN := Lib.hid hN
  have HGL := Lib.hid hg
  have HTL := Lib.hid htl
  obtain ⟨n, hn⟩ : ∃ n, (opsOf 3).length = n := ⟨_, rfl⟩
  rw [hn]
  rcases hx with ⟨p1, e1, rfl, hop⟩ | ⟨c1, r1, hop, hlen, hst⟩
  · have HO := Lib.hid (hop f c0 w p s r hts hat h hb)
    clear hop hb hf hn hg htl hN h hat hts
    go_enter Tryz.func59, Tryz.ntmps59
    go_wp2_with fail
    refine HO.out.mono ?_
    rintro z w2 ⟨rfl, s2, c2, hr2⟩
    have HR2 := Lib.hid hr2
    clear hr2 HO
    go_wp2_with fail
    go_ret
    exact out_err HR2.out
  · have HO := Lib.hid (hop f c0 w p s r hts hat h hb)
    have HB := Lib.hid (show c0.length + c1.length + r1.length ≤ 1000000 by omega)
    have HAM := Lib.hid (fun (W : World) (a : Nat) (s' : Bs) (c : List In) (hR : Rd f W0 B t v1 na a (cutw s') c 0 W) => among_any W hg hR (opsOf 3) kb (opsOf 3).length (ops_small 3).1 (ops_small 3).2 (hR.ops hf))
    have HST := Lib.hid hst
    clear hop hb hf hg htl hN h hat hts hlen hst
    rw [hn] at HAM
    clear hn
    go_enter Tryz.func59, Tryz.ntmps59
    go_wp2_with fail
    refine HO.out.mono ?_
    rintro z w2 ⟨rfl, p', s', r'', hr', ha2, hr2⟩
    have HAT := Lib.hid ha2
    have HR2 := Lib.hid hr2
    clear hr2 HO ha2
    have hoa := opAt_among 3 (by decide) (by decide) s'
    have hst := HST.out
    rw [hr'] at hst
    rcases steps_any hst with ⟨ho, hx⟩ | ⟨o, ho, hrest⟩
    · have hz : amongOf (opsOf 3) (cutw s') = 0 := by rw [ho] at hoa; have : ((amongOf (opsOf 3) (cutw s') : Nat) : Int) = 0 := hoa; omega
      have ham := HAM.out _ p' s' _ HR2.out
      rw [hz] at ham
      have HAM2 := Lib.hid ham
      have HX := Lib.hid hx
      have HR' := Lib.hid hr'
      clear hst ho hoa hz hx hr' ham HAM
      go_wp2_with (go_at_call 49; refine HAM2.out.mono ?_; rintro _ w3 ⟨rfl, hr3⟩; have HR3 := Lib.hid hr3; clear hr3)
      go_ret
      rw [HX.out]
      exact out_ok rfl HAT.out HR3.out
    · obtain ⟨e1, e2, e3⟩ := opAt_word 3 s' o ho
      rw [ho] at hoa
      have hoa : ((amongOf (opsOf 3) (cutw s') : Nat) : Int) = o := hoa
      have ham := HAM.out _ p' s' _ HR2.out
      rw [hoa, e1] at ham
      have HAM2 := Lib.hid ham
      have hne : (o == 0) = false := beq_eq_false_iff_ne.2 e3
      have hlr : r1.length = r''.length + 1 := by rw [hr']; simp
      have HBB := Lib.hid (show (c0 ++ c1).length + r''.length ≤ 1000000 by rw [List.length_append]; have := HB.out; omega)
      rcases hrest with ⟨p3, e4, hx, hop⟩ | ⟨d, t', hop, hdl, hst2⟩
      · have HS2 := Lib.hid (fun W hW => second_any (f := f) N HN.out (.err p3 e4) hop W o HGL.out hW HAT.out e2 HTL.out HBB.out (fun d t' h => by cases h))
        have HX := Lib.hid hx
        clear hst hoa ho e1 e2 e3 ham hop hx hr' hlr HAM
        go_wp2_with (first | (go_at_call 49; refine HAM2.out.mono ?_; rintro _ w3 ⟨rfl, hr3⟩; have HR3 := Lib.hid hr3; clear hr3) | (go_at_call 50; refine (HS2.out _ HR3.out).mono ?_; rintro z w4 ⟨rfl, s2, c2, hr2⟩; have HR4 := Lib.hid hr2; clear hr2))
        go_ret
        rw [HX.out]
        exact out_err HR4.out
      · have hxx := steps_done hst2
        have HS2 := Lib.hid (fun W hW => second_any (f := f) N HN.out (.ok d t') hop W o HGL.out hW HAT.out e2 HTL.out HBB.out (fun d' t'' h => by cases h; have := HB.out; omega))
        have HX := Lib.hid hxx
        clear hst hoa ho e1 e2 e3 ham hop hr' hlr hdl hst2 hxx HAM
        go_wp2_with (first | (go_at_call 49; refine HAM2.out.mono ?_; rintro _ w3 ⟨rfl, hr3⟩; have HR3 := Lib.hid hr3; clear hr3) | (go_at_call 50; refine (HS2.out _ HR3.out).mono ?_; rintro z w4 ⟨rfl, p5, s5, r5, ht5, ha5, hr5⟩; have HA5 := Lib.hid ha5; have HR5 := Lib.hid hr5; have HT5 := Lib.hid ht5; clear hr5 ha5 ht5))
        go_ret
        rw [HX.out]
        exact out_ok HT5.out HA5.out (by have h6 := HR5.out; simp only [List.append_assoc] at h6 ⊢; exact h6)
end
end Go.Proofs.YtbeidmkhpcnbbaaGreatDoor.I
