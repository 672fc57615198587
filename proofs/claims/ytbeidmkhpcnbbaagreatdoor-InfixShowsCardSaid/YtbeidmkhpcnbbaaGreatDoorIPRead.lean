/-
  Layer 4: the program's reader does what the grammar's derivations say.
-/
import Derived.Test.YtbeidmkhpcnbbaaGreatDoorIPSign1
namespace Go.Proofs.YtbeidmkhpcnbbaaGreatDoor.I
open Go Go.RowKit Go.Proofs.YtbeidmkhpcnbbaaGreatDoor.B Go.Proofs.YtbeidmkhpcnbbaaGreatDoor.K Go.Proofs.YtbeidmkhpcnbbaaGreatDoor.E
set_option linter.unusedVariables false

/-- Of a result: how much is read and left. -/
def Rs.fits (c : List In) (ts : List Tk) : Rs → Prop | .ok c' r => c'.length + r.length ≤ c.length + ts.length | .err _ _ => True

theorem pa_len {vs : List Bs} {na : Int} {kd : Kd} {ts : List Tk} {x : Rs} (h : Pa vs na kd ts x) : x.fits (match kd with | .lo _ _ c => c | _ => []) ts := by
  induction h with
  | six l x _ ih => exact ih
  | lvErr => trivial
  | lvGo k l c r x _ _ _ _ ih1 ih2 =>
    cases x with
    | err => trivial
    | ok c' r' => simp only [Rs.fits, List.length_nil] at ih1 ih2 ⊢; omega
  | loStop => exact Nat.le_refl _
  | loErr => trivial
  | loGo k m c q s o r d t x _ _ _ _ ih1 ih2 =>
    cases x with
    | err => trivial
    | ok c' r' => simp only [Rs.fits, List.length_nil, List.length_append, List.length_cons] at ih1 ih2 ⊢; omega
  | num => simp only [Rs.fits, List.length_nil, List.length_cons]; omega
  | neg p l c r _ _ ih => simp only [Rs.fits, List.length_nil, List.length_append, List.length_cons] at ih ⊢; omega
  | non p l c r _ ih => simp only [Rs.fits, List.length_nil, List.length_append, List.length_cons] at ih ⊢; omega
  | atm l x _ _ _ ih => exact ih
  | aEnd => trivial
  | aNum => simp only [Rs.fits, List.length_nil, List.length_cons]; omega
  | aVar => simp only [Rs.fits, List.length_nil, List.length_cons]; omega
  | aArg => simp only [Rs.fits, List.length_nil, List.length_cons]; omega
  | aPar p l c q r _ ih => simp only [Rs.fits, List.length_nil, List.length_cons] at ih ⊢; omega
  | aTwo o p p' l c1 q r1 c2 q' r _ _ _ ih1 ih2 => simp only [Rs.fits, List.length_nil, List.length_append, List.length_cons] at ih1 ih2 ⊢; omega
  | aIf p p' l c1 q r1 c2 q' r2 c3 q'' r _ _ _ ih1 ih2 ih3 => simp only [Rs.fits, List.length_nil, List.length_append, List.length_cons] at ih1 ih2 ih3 ⊢; omega

/-- The function that reads a level's operands. -/
def fnOf (k : Nat) : Nat := match k with | 1 => 16 | 2 => 36 | 3 => 51 | 4 => 60 | 5 => 70 | _ => 78

/-- What is shown of each derivation. -/
def Does (W0 : World) (B : Nat) (t : Bs) (v1 : Value) (na : Int) : Kd → List Tk → Rs → Prop
  | .lv k, ts, x => Opd W0 B t v1 na (fnOf k) ts x
  | .lo k m c, ts, x => 1 ≤ k → k ≤ 5 → Steps (Opd W0 B t v1 na (fnOf (k + 1))) k m c ts x
  | .on, ts, x => Opd W0 B t v1 na (fnOf 6) ts x
  | .atom, ts, x => ∀ (f : Nat → Option Obj) (c0 : List In) (w : World) (p : Nat) (s : Bs) (r : List Tk), ts = (p, s) :: r → At t p s r → Rd f W0 B t v1 na p (cutw s) c0 0 w → c0.length + ts.length ≤ 1000000 →
      Calls Tryz.prog 84 #[.pointer (some ⟨B, 0, none⟩)] w fun z w' => Out f W0 B t v1 na c0 x z w'

theorem cutw_name (s : Bs) (h : isName s = true) : cutw s = s := by
  cases s with
  | nil => rfl
  | cons c r =>
    rw [isName_cons] at h
    simp only [Bool.and_eq_true, decide_eq_true_eq] at h
    have hl : (c :: r).length ≤ 24 := by rw [List.length_cons]; have := h.1.1.1.1.1; omega
    show (if letter c = true then (c :: r).take 24 else c :: r) = _
    rw [List.take_of_length_le hl]; split <;> rfl
theorem cutw_other (c : UInt8) (r : Bs) (h : letter c = false) : cutw (c :: r) = c :: r := by show (if letter c = true then _ else _) = _; rw [if_neg (by rw [h]; decide)]
theorem cutw_dig (v : Nat) : cutw (dig v) = dig v := by
  obtain ⟨c, x, h5, h6⟩ := dig_head v
  rw [h5]; exact cutw_other c x (not_letter h6)

theorem does_any {W0 : World} {B : Nat} {t : Bs} {v1 : Value} {na : Int} {vs : List Bs} (hg : Glob W0) (hvs : Names W0 v1 vs) (hvl : vs.length ≤ 1000000) (htl : t.length ≤ 2048) {kd : Kd} {ts : List Tk} {x : Rs} (h : Pa vs na kd ts x) : Does W0 B t v1 na kd ts x := by
  have level : ∀ k ts x, 1 ≤ k → k ≤ 5 → Lv (Opd W0 B t v1 na (fnOf (k + 1))) k ts x → Opd W0 B t v1 na (fnOf k) ts x := by
    intro k ts x h1 h5 hx
    rcases (show k = 1 ∨ k = 2 ∨ k = 3 ∨ k = 4 ∨ k = 5 by omega) with rfl | rfl | rfl | rfl | rfl
    · exact lv1_any hg htl ts x hx
    · exact lv2_any hg htl ts x hx
    · exact lv3_any hg htl ts x hx
    · exact lv4_any hg htl ts x hx
    · exact lv5_any hg htl ts x hx
  induction h with
  | six l x _ ih => exact ih
  | lvErr k l p e h1 h5 _ ih => exact level k l _ h1 h5 (Or.inl ⟨p, e, rfl, ih⟩)
  | lvGo k l c r x h1 h5 hpa _ ih1 ih2 =>
    refine level k l x h1 h5 (Or.inr ⟨c, r, ih1, ?_, ih2 h1 h5⟩)
    have := pa_len hpa
    simp only [Rs.fits, List.length_nil] at this; omega
  | loStop k m c r h => exact fun _ _ => Steps.stop m c r h
  | loErr k m c q s o r p e ho hm _ ih => exact fun _ _ => Steps.err m c q s o r p e ho hm ih
  | loGo k m c q s o r d t' x ho hm hpa _ ih1 ih2 =>
    intro h1 h5
    refine Steps.go m c q s o r d t' x ho hm ih1 ?_ (ih2 h1 h5)
    have := pa_len hpa
    simp only [Rs.fits, List.length_nil] at this; omega
  | num p v r hv =>
    intro f c0 w p' s r' hts hat h hb
    cases hts
    exact one_num v hv w hg h hat htl (by omega)
  | neg p l c r hn hpa ih =>
    intro f c0 w p' s r' hts hat h hb
    cases hts
    have hl := pa_len hpa
    simp only [Rs.fits, List.length_nil] at hl
    simp only [List.length_cons] at hb
    exact one_neg (.ok c r) ih hn w hg h hat htl (by omega) (fun d t' e => by cases e; omega)
  | non p l c r hpa ih =>
    intro f c0 w p' s r' hts hat h hb
    cases hts
    have hl := pa_len hpa
    simp only [Rs.fits, List.length_nil] at hl
    simp only [List.length_cons] at hb
    exact one_not (.ok c r) ih w hg h hat htl (by omega) (fun d t' e => by cases e; omega)
  | atm l x h1 h2 _ ih =>
    intro f c0 w p s r hts hat h hb
    subst hts
    have h45 : cutw s ≠ [45] := fun e => h1 ((cutw_sg s [45] (by decide)).1 e)
    have h33 : cutw s ≠ [33] := fun e => h2 ((cutw_sg s [33] (by decide)).1 e)
    exact one_atom x w hg h h33 h45 (ih f c0 w p s r rfl hat h hb)
  | aEnd p =>
    intro f c0 w p' s r hts hat h hb
    cases hts
    exact atom_end w h
  | aNum p v r hv =>
    intro f c0 w p' s r' hts hat h hb
    cases hts
    rw [cutw_dig] at h
    exact atom_num v hv w hg h hat htl (by omega)
  | aVar p k s r hk hnm hn =>
    intro f c0 w p' s' r' hts hat h hb
    cases hts
    rw [cutw_name s hnm] at h
    exact atom_var vs hvs k hk hn hnm hvl w hg h hat htl (by omega)
  | aArg p k r hna hk =>
    intro f c0 w p' s' r' hts hat h hb
    cases hts
    exact atom_arg k hk rfl hna w hg h hat htl (by omega)
  | aPar p l c q r hpa ih =>
    intro f c0 w p' s' r' hts hat h hb
    cases hts
    simp only [List.length_cons] at hb
    exact atom_par c q r ih w hg h hat htl (by omega)
  | aTwo o p p' l c1 q r1 c2 q' r ho hp1 hp2 ih1 ih2 =>
    intro f c0 w pp s' rr hts hat h hb
    cases hts
    have hl1 := pa_len hp1
    have hl2 := pa_len hp2
    simp only [Rs.fits, List.length_nil, List.length_cons] at hl1 hl2 hb
    have hcut : cutw (if o = 9 then wmin else wmax) = (if o = 9 then wmin else wmax) := by split <;> rfl
    rw [hcut] at h
    refine atom_call o 2 ?_ (c1 ++ c2) q' r w hg h hat htl ?_ (by simp only [List.length_cons]; omega)
    · rcases ho with rfl | rfl
      · left; exact ⟨rfl, rfl, rfl⟩
      · right; left; exact ⟨rfl, rfl, rfl⟩
    · refine Args.cons 1 [40] p' l c1 c2 _ _ ih1 (by simp only [List.length_cons]; omega) ?_
      have := Args.cons (C := Opd W0 B t v1 na 16) 0 [44] q r1 c2 [] _ _ ih2 (by simp only [List.length_cons]; omega) (Args.nil _ _)
      rwa [List.append_nil] at this
  | aIf p p' l c1 q r1 c2 q' r2 c3 q'' r hp1 hp2 hp3 ih1 ih2 ih3 =>
    intro f c0 w pp s' rr hts hat h hb
    cases hts
    have hl1 := pa_len hp1
    have hl2 := pa_len hp2
    have hl3 := pa_len hp3
    simp only [Rs.fits, List.length_nil, List.length_cons] at hl1 hl2 hl3 hb
    refine atom_call 16 3 (Or.inr (Or.inr ⟨rfl, rfl, rfl⟩)) (c1 ++ c2 ++ c3) q'' r w hg h hat htl ?_ (by simp only [List.length_cons]; omega)
    rw [List.append_assoc]
    refine Args.cons 2 [40] p' l c1 (c2 ++ c3) _ _ ih1 (by simp only [List.length_cons]; omega) ?_
    refine Args.cons 1 [44] q r1 c2 c3 _ _ ih2 (by simp only [List.length_cons]; omega) ?_
    have := Args.cons (C := Opd W0 B t v1 na 16) 0 [44] q' r2 c3 [] _ _ ih3 (by simp only [List.length_cons]; omega) (Args.nil _ _)
    rwa [List.append_nil] at this
end Go.Proofs.YtbeidmkhpcnbbaaGreatDoor.I
