/-
  Layer 9, plainly: what is needed of a filter, its normal form, what it has, covers and meets.
  Layer 12, plainly: files by rising names; what a disk that is as it may be stays.
-/
import Derived.Test.YtelcemfaijjcbaaGreatDoorHP12Rv
namespace Go.Proofs.YtelcemfaijjcbaaGreatDoor.P8
set_option linter.unusedVariables false

/-! ## Texts in order -/
theorem less_irrefl : ∀ a : List UInt8, lessL a a = false
  | [] => rfl
  | x :: a => by rw [lessL, if_pos rfl]; exact less_irrefl a
theorem less_trans : ∀ a b c : List UInt8, lessL a b = true → lessL b c = true → lessL a c = true
  | [], [], c, h, _ => by cases h
  | [], _ :: _, [], _, h => by cases h
  | [], _ :: _, _ :: _, _, _ => rfl
  | _ :: _, [], _, h, _ => by cases h
  | _ :: _, _ :: _, [], _, h => by cases h
  | x :: a, y :: b, z :: c, h1, h2 => by
    unfold lessL at h1 h2 ⊢
    by_cases e1 : x = y
    · rw [if_pos e1] at h1
      by_cases e2 : y = z
      · rw [if_pos e2] at h2
        rw [if_pos (e1.trans e2)]
        exact less_trans a b c h1 h2
      · rw [if_neg e2] at h2
        rw [if_neg (by rw [e1]; exact e2), e1]; exact h2
    · rw [if_neg e1] at h1
      have g1 : x.toNat < y.toNat := of_decide_eq_true h1
      by_cases e2 : y = z
      · rw [if_neg (by rw [← e2]; exact e1), ← e2]; exact h1
      · rw [if_neg e2] at h2
        have g2 : y.toNat < z.toNat := of_decide_eq_true h2
        rw [if_neg (by rintro rfl; omega)]
        exact decide_eq_true (by omega)
theorem less_total : ∀ a b : List UInt8, a = b ∨ lessL a b = true ∨ lessL b a = true
  | [], [] => Or.inl rfl
  | [], _ :: _ => Or.inr (Or.inl rfl)
  | _ :: _, [] => Or.inr (Or.inr rfl)
  | x :: a, y :: b => by
    by_cases e : x = y
    · subst e
      rcases less_total a b with h | h | h
      · exact Or.inl (by rw [h])
      · exact Or.inr (Or.inl (by rw [lessL, if_pos rfl]; exact h))
      · exact Or.inr (Or.inr (by rw [lessL, if_pos rfl]; exact h))
    · rcases Nat.lt_trichotomy x.toNat y.toNat with h | h | h
      · exact Or.inr (Or.inl (by rw [lessL, if_neg e]; exact decide_eq_true h))
      · exact absurd (UInt8.toNat_inj.1 h) e
      · exact Or.inr (Or.inr (by rw [lessL, if_neg (Ne.symm e)]; exact decide_eq_true h))
theorem less_asymm {a b : List UInt8} (h : lessL a b = true) : lessL b a = false := by
  cases e : lessL b a with
  | false => rfl
  | true => have := less_trans a b a h e; rw [less_irrefl] at this; cases this

def Asc (l : List (List UInt8)) : Prop := l.Pairwise fun a b => lessL a b = true

theorem asc_unique : ∀ a b : List (List UInt8), Asc a → Asc b → (∀ x, x ∈ a ↔ x ∈ b) → a = b
  | [], [], _, _, _ => rfl
  | [], y :: b, _, _, h => by have := (h y).2 List.mem_cons_self; cases this
  | x :: a, [], _, _, h => by have := (h x).1 List.mem_cons_self; cases this
  | x :: a, y :: b, ha, hb, h => by
    have ha' := List.pairwise_cons.1 ha
    have hb' := List.pairwise_cons.1 hb
    have hxy : x = y := by
      rcases List.mem_cons.1 ((h x).1 List.mem_cons_self) with e | e
      · exact e
      · rcases List.mem_cons.1 ((h y).2 List.mem_cons_self) with e' | e'
        · exact e'.symm
        · have h1 := hb'.1 x e
          have h2 := ha'.1 y e'
          rw [less_asymm h1] at h2; cases h2
    subst hxy
    rw [asc_unique a b ha'.2 hb'.2 fun z => ?_]
    constructor
    · intro hz
      rcases List.mem_cons.1 ((h z).1 (List.mem_cons_of_mem _ hz)) with e | e
      · subst e; have := ha'.1 _ hz; rw [less_irrefl] at this; cases this
      · exact e
    · intro hz
      rcases List.mem_cons.1 ((h z).2 (List.mem_cons_of_mem _ hz)) with e | e
      · subst e; have := hb'.1 _ hz; rw [less_irrefl] at this; cases this
      · exact e

def insL (p : List UInt8) : List (List UInt8) → List (List UInt8)
  | [] => [p]
  | x :: l => if lessL p x then p :: x :: l else x :: insL p l
theorem mem_ins {p q : List UInt8} : ∀ {l : List (List UInt8)}, q ∈ insL p l ↔ q = p ∨ q ∈ l
  | [] => by simp [insL]
  | x :: l => by
    unfold insL
    split
    · simp
    · rw [List.mem_cons, mem_ins, List.mem_cons]
      constructor
      · rintro (h | h | h)
        · exact Or.inr (Or.inl h)
        · exact Or.inl h
        · exact Or.inr (Or.inr h)
      · rintro (h | h | h)
        · exact Or.inr (Or.inl h)
        · exact Or.inl h
        · exact Or.inr (Or.inr h)
theorem asc_ins {p : List UInt8} : ∀ {l : List (List UInt8)}, Asc l → p ∉ l → Asc (insL p l)
  | [], _, _ => List.pairwise_singleton _ _
  | x :: l, h, hp => by
    have h' := List.pairwise_cons.1 h
    unfold insL
    split
    · rename_i hlt
      refine List.pairwise_cons.2 ⟨fun y hy => ?_, h⟩
      rcases List.mem_cons.1 hy with e | e
      · subst e; exact hlt
      · exact less_trans _ _ _ hlt (h'.1 y e)
    · rename_i hlt
      have hx : lessL x p = true := by
        rcases less_total x p with e | e | e
        · exact absurd (e ▸ List.mem_cons_self) hp
        · exact e
        · exact absurd e hlt
      refine List.pairwise_cons.2 ⟨fun y hy => ?_, asc_ins h'.2 fun e => hp (List.mem_cons_of_mem _ e)⟩
      rcases mem_ins.1 hy with e | e
      · subst e; exact hx
      · exact h'.1 y e

/-! ## Filters -/
def right9 (l : List (List UInt8)) : Bool := decide (l.length ≤ 8) && l.all patP
/-- No other one covers it. -/
def needed (l : List (List UInt8)) (p : List UInt8) : Bool := l.all fun x => x == p || !covT x p
def leastGo (l : List (List UInt8)) : List (List UInt8) → List (List UInt8) → List (List UInt8)
  | [], out => out
  | p :: r, out => leastGo l r (if out.contains p || !needed l p then out else insL p out)
def leastL (l : List (List UInt8)) : List (List UInt8) := leastGo l l []
def hasF (l : List (List UInt8)) (s : List UInt8) : Bool := (l.any fun x => matT x s) && right9 l
def covF (a b : List (List UInt8)) : Bool := (b.all fun y => a.any fun x => covT x y) && (right9 a && right9 b)
def metF (a b : List (List UInt8)) : Bool := (b.any fun y => a.any fun x => metT x y) && (right9 a && right9 b)

def IsLeast (l out : List (List UInt8)) : Prop := Asc out ∧ ∀ p, p ∈ out ↔ p ∈ l ∧ needed l p = true

theorem leastGo_is (l : List (List UInt8)) : ∀ (r out d : List (List UInt8)), Asc out → (∀ p, p ∈ out ↔ p ∈ d ∧ needed l p = true) → Asc (leastGo l r out) ∧ ∀ p, p ∈ leastGo l r out ↔ p ∈ d ++ r ∧ needed l p = true
  | [], out, d, h, hm => by rw [List.append_nil]; exact ⟨h, hm⟩
  | p :: r, out, d, h, hm => by
    rw [show d ++ p :: r = (d ++ [p]) ++ r by simp]
    unfold leastGo
    refine leastGo_is l r _ (d ++ [p]) ?_ ?_
    · split
      · exact h
      · rename_i hc
        simp only [Bool.or_eq_true, List.contains_iff_mem, Bool.not_eq_true', not_or] at hc
        exact asc_ins h hc.1
    · intro q
      split
      · rename_i hc
        rw [hm q, List.mem_append, List.mem_singleton]
        constructor
        · rintro ⟨a, b⟩; exact ⟨Or.inl a, b⟩
        · rintro ⟨a | a, b⟩
          · exact ⟨a, b⟩
          · subst a
            simp only [Bool.or_eq_true, List.contains_iff_mem, Bool.not_eq_true'] at hc
            rcases hc with hc | hc
            · exact (hm q).1 hc
            · rw [hc] at b; cases b
      · rename_i hc
        simp only [Bool.or_eq_true, List.contains_iff_mem, Bool.not_eq_true', not_or, Bool.not_eq_false] at hc
        rw [mem_ins, hm q, List.mem_append, List.mem_singleton]
        constructor
        · rintro (a | ⟨a, b⟩)
          · subst a; exact ⟨Or.inr rfl, hc.2⟩
          · exact ⟨Or.inl a, b⟩
        · rintro ⟨a | a, b⟩
          · exact Or.inr ⟨a, b⟩
          · exact Or.inl a
theorem least_is (l : List (List UInt8)) : IsLeast l (leastL l) := by
  have := leastGo_is l l [] [] List.Pairwise.nil (by simp)
  rw [List.nil_append] at this
  exact this
theorem least_unique {l out : List (List UInt8)} (h : IsLeast l out) : out = leastL l :=
  asc_unique _ _ h.1 (least_is l).1 fun x => (h.2 x).trans ((least_is l).2 x).symm

theorem cov_parts {p q : List UInt8} (h : covT p q = true) : patP p = true ∧ patP q = true ∧ coversL (parts p) (parts q) = true := by
  simpa [covT] using h
theorem cov_trans9 {p q s : List UInt8} (h1 : covT p q = true) (h2 : covT q s = true) : covT p s = true := by
  obtain ⟨a1, a2, a3⟩ := cov_parts h1
  obtain ⟨b1, b2, b3⟩ := cov_parts h2
  unfold covT
  rw [a1, b2, covers_trans _ _ _ (pat_all a1).2.1 (pat_all a2).2.1 (pat_all b2).2.1 a3 b3]; rfl
theorem cov_self9 {p : List UInt8} (h : patP p = true) : covT p p = true := by
  unfold covT
  rw [h, covers_self _ (pat_all h).2.1]; rfl

theorem covers_anti : ∀ P Q : List (List UInt8), allL rP P = true → allL rP Q = true → coversL P Q = true → coversL Q P = true → P = Q
  | [], Q, _, _, h1, _ => (covers_nil.1 h1).symm
  | p :: P, [], _, _, _, h2 => covers_nil.1 h2
  | p :: P, q :: Q, hP, hQ, h1, h2 => by
    obtain ⟨_, hP', hm, _⟩ := pat_cons hP
    obtain ⟨_, hQ', hm', _⟩ := pat_cons hQ
    by_cases hp : p = many
    · obtain rfl := hm hp
      subst hp
      by_cases hq : q = many
      · obtain rfl := hm' hq
        rw [hq]
      · obtain ⟨x, X, e, hx, _, _⟩ := (covers_cons hq).1 h2
        injection e with e1 e2
        exact absurd e1.symm hx
    · obtain ⟨x, X, e, hx, h3, h4⟩ := (covers_cons hp).1 h1
      injection e with e1 e2
      subst e1 e2
      obtain ⟨y, Y, e, hy, h5, h6⟩ := (covers_cons hx).1 h2
      injection e with e1 e2
      subst e1 e2
      have hpq : p = q := by
        rcases h3 with h | h
        · rcases h5 with g | g
          · rw [h, g]
          · exact g.symm
        · exact h
      rw [hpq, covers_anti P Q hP' hQ' h4 h6]

/-- A text is what its parts make of it. -/
def joinS : List (List UInt8) → List UInt8
  | [] => []
  | [x] => x
  | x :: y :: l => x ++ 47 :: joinS (y :: l)
theorem join_onFirst (b : UInt8) : ∀ P : List (List UInt8), P ≠ [] → joinS (onFirst b P) = b :: joinS P
  | [], h => absurd rfl h
  | [x], _ => rfl
  | x :: y :: l, _ => rfl
theorem joinS_parts : ∀ l : List UInt8, joinS (parts l) = l
  | [] => rfl
  | b :: l => by
    have ih := joinS_parts l
    unfold parts
    split
    · rename_i hb
      have hb' : b = 47 := eq_of_beq hb
      obtain ⟨x, P, hP⟩ : ∃ x P, parts l = x :: P := by
        cases hP : parts l with
        | nil => exact absurd hP (parts_ne l)
        | cons x P => exact ⟨x, P, rfl⟩
      rw [hP] at ih ⊢
      rw [joinS, ih, hb']; rfl
    · rw [join_onFirst b _ (parts_ne l), ih]
theorem cov_anti {p q : List UInt8} (h1 : covT p q = true) (h2 : covT q p = true) : p = q := by
  obtain ⟨a1, a2, a3⟩ := cov_parts h1
  obtain ⟨b1, b2, b3⟩ := cov_parts h2
  have := covers_anti _ _ (pat_all a1).2.1 (pat_all a2).2.1 a3 b3
  rw [← joinS_parts p, ← joinS_parts q, this]

/-- All that a filter has is covered by what is needed. -/
theorem covered (l : List (List UInt8)) (hl : ∀ x ∈ l, patP x = true) : ∀ (n : Nat) (p : List UInt8), p ∈ l → (l.filter fun y => covT y p).length ≤ n → ∃ m ∈ leastL l, covT m p = true
  | 0, p, hp, hn => by
    have : p ∈ l.filter fun y => covT y p := List.mem_filter.2 ⟨hp, cov_self9 (hl p hp)⟩
    rw [List.length_eq_zero_iff.1 (Nat.le_zero.1 hn)] at this
    cases this
  | n + 1, p, hp, hn => by
    by_cases hne : needed l p = true
    · exact ⟨p, ((least_is l).2 p).2 ⟨hp, hne⟩, cov_self9 (hl p hp)⟩
    · unfold needed at hne
      rw [List.all_eq_true] at hne
      simp only [Bool.or_eq_true, beq_iff_eq, Bool.not_eq_true', Classical.not_forall, not_or, Bool.not_eq_false] at hne
      obtain ⟨x, hx, hxp, hc⟩ := hne
      have hlt : (l.filter fun y => covT y x).length < (l.filter fun y => covT y p).length := by
        have hsub : ∀ (m : List (List UInt8)), (m.filter fun y => covT y x).length + (if p ∈ m then 1 else 0) ≤ (m.filter fun y => covT y p).length := by
          intro m
          induction m with
          | nil => simp
          | cons y m ih =>
            by_cases h1 : covT y x = true
            · have h2 : covT y p = true := cov_trans9 h1 hc
              have hyp : p ≠ y := by
                rintro rfl
                exact hxp (cov_anti hc h1)
              rw [List.filter_cons_of_pos (p := fun y => covT y x) h1, List.filter_cons_of_pos (p := fun y => covT y p) h2, List.length_cons, List.length_cons]
              have : (p ∈ y :: m) ↔ p ∈ m := by rw [List.mem_cons]; exact ⟨fun h => h.resolve_left hyp, Or.inr⟩
              simp only [this]
              omega
            · rw [List.filter_cons_of_neg (p := fun y => covT y x) h1]
              by_cases hyp : p = y
              · subst hyp
                by_cases hpp : covT p p = true
                · rw [List.filter_cons_of_pos (p := fun y => covT y p) hpp, List.length_cons, if_pos List.mem_cons_self]
                  split at ih <;> omega
                · exact absurd (cov_self9 (cov_parts hc).2.1) hpp
              · have : (p ∈ y :: m) ↔ p ∈ m := by rw [List.mem_cons]; exact ⟨fun h => h.resolve_left hyp, Or.inr⟩
                simp only [this]
                by_cases h2 : covT y p = true
                · rw [List.filter_cons_of_pos (p := fun y => covT y p) h2, List.length_cons]; omega
                · rw [List.filter_cons_of_neg (p := fun y => covT y p) h2]; exact ih
        have := hsub l
        rw [if_pos hp] at this
        omega
      obtain ⟨m, hm, hmx⟩ := covered l hl n x hx (by omega)
      exact ⟨m, hm, cov_trans9 hmx hc⟩

theorem least_sub {l : List (List UInt8)} {p : List UInt8} (h : p ∈ leastL l) : p ∈ l := (((least_is l).2 p).1 h).1
theorem right_all {l : List (List UInt8)} (h : right9 l = true) : l.length ≤ 8 ∧ ∀ x ∈ l, patP x = true := by
  unfold right9 at h
  rw [Bool.and_eq_true, List.all_eq_true] at h
  exact ⟨of_decide_eq_true h.1, h.2⟩
theorem asc_nodup {l : List (List UInt8)} (h : Asc l) : l.Nodup :=
  h.imp fun {a b} hab => by rintro rfl; rw [less_irrefl] at hab; cases hab
theorem nodup_len : ∀ (a b : List (List UInt8)), a.Nodup → (∀ x ∈ a, x ∈ b) → a.length ≤ b.length
  | [], _, _, _ => Nat.zero_le _
  | x :: a, b, hn, hs => by
    have hn' := List.nodup_cons.1 hn
    have hx := hs x List.mem_cons_self
    have := nodup_len a (b.erase x) hn'.2 fun y hy => (List.mem_erase_of_ne (by rintro rfl; exact hn'.1 hy)).2 (hs y (List.mem_cons_of_mem _ hy))
    have h2 := List.length_erase_of_mem hx
    have h3 := List.length_pos_of_mem hx
    rw [List.length_cons]
    omega
theorem least_len (l : List (List UInt8)) : (leastL l).length ≤ l.length := nodup_len _ _ (asc_nodup (least_is l).1) fun x hx => least_sub hx
theorem least_right {l : List (List UInt8)} (h : right9 l = true) : right9 (leastL l) = true := by
  obtain ⟨h1, h2⟩ := right_all h
  unfold right9
  rw [Bool.and_eq_true, List.all_eq_true]
  exact ⟨decide_eq_true (Nat.le_trans (least_len l) h1), fun x hx => h2 x (least_sub hx)⟩
theorem least_again (l : List (List UInt8)) : leastL (leastL l) = leastL l := by
  refine (least_unique (l := leastL l) ⟨(least_is l).1, fun p => ⟨fun hp => ⟨hp, ?_⟩, fun h => h.1⟩⟩).symm
  have hn := (((least_is l).2 p).1 hp).2
  unfold needed at hn ⊢
  rw [List.all_eq_true] at hn ⊢
  exact fun x hx => hn x (least_sub hx)
theorem needed_same {l m : List (List UInt8)} (h : ∀ x, x ∈ l ↔ x ∈ m) (p : List UInt8) : needed l p = needed m p := by
  unfold needed
  rw [Bool.eq_iff_iff, List.all_eq_true, List.all_eq_true]
  exact ⟨fun g x hx => g x ((h x).2 hx), fun g x hx => g x ((h x).1 hx)⟩
theorem least_same {l m : List (List UInt8)} (h : ∀ x, x ∈ l ↔ x ∈ m) : leastL l = leastL m :=
  least_unique ⟨(least_is l).1, fun p => by rw [(least_is l).2 p, h p, needed_same h p]⟩
theorem mat_trans9 {p q s : List UInt8} (h1 : covT p q = true) (h2 : matT q s = true) : matT p s = true := by
  rw [mat_cov, Bool.and_eq_true] at h2 ⊢
  exact ⟨h2.1, cov_trans9 h1 h2.2⟩
theorem any_least {l : List (List UInt8)} (hl : ∀ x ∈ l, patP x = true) (s : List UInt8) : ((leastL l).any fun x => matT x s) = l.any fun x => matT x s := by
  rw [Bool.eq_iff_iff, List.any_eq_true, List.any_eq_true]
  constructor
  · rintro ⟨x, hx, h⟩; exact ⟨x, least_sub hx, h⟩
  · rintro ⟨x, hx, h⟩
    obtain ⟨m, hm, hc⟩ := covered l hl _ x hx (Nat.le_refl _)
    exact ⟨m, hm, mat_trans9 hc h⟩
theorem has_least {l : List (List UInt8)} (h : right9 l = true) (s : List UInt8) : hasF (leastL l) s = hasF l s := by
  unfold hasF
  rw [any_least (right_all h).2, h, least_right h]
theorem cov_least {l : List (List UInt8)} (h : right9 l = true) : covF (leastL l) l = true := by
  unfold covF
  rw [h, least_right h]
  rw [Bool.and_eq_true, List.all_eq_true]
  refine ⟨fun y hy => ?_, rfl⟩
  rw [List.any_eq_true]
  exact covered l (right_all h).2 _ y hy (Nat.le_refl _)
theorem cov_least' {l : List (List UInt8)} (h : right9 l = true) : covF l (leastL l) = true := by
  unfold covF
  rw [h, least_right h]
  rw [Bool.and_eq_true, List.all_eq_true]
  refine ⟨fun y hy => ?_, rfl⟩
  rw [List.any_eq_true]
  exact ⟨y, least_sub hy, cov_self9 ((right_all h).2 y (least_sub hy))⟩
/-- What a filter has, each one that covers it has, too. -/
theorem cov_has {a b : List (List UInt8)} {s : List UInt8} (h : covF a b = true) (g : hasF b s = true) : hasF a s = true := by
  unfold covF at h
  unfold hasF at g ⊢
  rw [Bool.and_eq_true, List.all_eq_true] at h
  rw [Bool.and_eq_true, List.any_eq_true] at g
  obtain ⟨y, hy, hm⟩ := g.1
  have h1 := h.1 y hy
  rw [List.any_eq_true] at h1
  obtain ⟨x, hx, hc⟩ := h1
  have hr := (Bool.and_eq_true _ _).mp h.2
  rw [Bool.and_eq_true, List.any_eq_true]
  exact ⟨⟨x, hx, mat_trans9 hc hm⟩, hr.1⟩
/-- Two that have one stream have something in common. -/
theorem has_meet {a b : List (List UInt8)} {s : List UInt8} (h : hasF a s = true) (g : hasF b s = true) : metF a b = true := by
  unfold hasF at h g
  unfold metF
  rw [Bool.and_eq_true, List.any_eq_true] at h g
  obtain ⟨⟨x, hx, hxm⟩, hr⟩ := h
  obtain ⟨⟨y, hy, hym⟩, hr'⟩ := g
  rw [Bool.and_eq_true, List.any_eq_true, hr, hr']
  refine ⟨⟨y, hy, ?_⟩, rfl⟩
  rw [List.any_eq_true]
  refine ⟨x, hx, ?_⟩
  rw [mat_cov, Bool.and_eq_true] at hxm hym
  obtain ⟨a1, a2, a3⟩ := cov_parts hxm.2
  obtain ⟨b1, b2, b3⟩ := cov_parts hym.2
  unfold metT
  rw [a1, b1, meets_both _ _ _ (pat_all a1).2.1 (pat_all b1).2.1 a3 b3]; rfl
theorem any_least_append (s : List UInt8) (l : List (List UInt8)) (hl : ∀ x ∈ l, patP x = true) (hr : right9 (leastL l) = true) : hasF (leastL l) s = l.any fun x => matT x s := by
  unfold hasF
  rw [any_least hl, hr, Bool.and_true]
end Go.Proofs.YtelcemfaijjcbaaGreatDoor.P8

namespace Go.Proofs.YtelcemfaijjcbaaGreatDoor.C12
open Go Go.RowKit Go.Proofs Go.Proofs.YtelcemfaijjcbaaGreatDoor.B Go.Proofs.YtelcemfaijjcbaaGreatDoor.K Go.Proofs.YtelcemfaijjcbaaGreatDoor.P8
set_option linter.unusedVariables false

def Rise (l : List Fl) : Prop := l.Pairwise fun a b => lessL a.name b.name = true
def szF (f : Fl) : Nat := f.safe.length + f.more.length
theorem less_ne {a b : List UInt8} (h : lessL a b = true) : a ≠ b := by
  intro e; rw [e, less_irrefl] at h; cases h
theorem Rise.ne {l : List Fl} (h : Rise l) : l.Pairwise fun a b => a.name ≠ b.name := h.imp less_ne
theorem rise_one {l : List Fl} (h : Rise l) {a b : Fl} (ha : a ∈ l) (hb : b ∈ l) (e : a.name = b.name) : a = b := by
  induction l with
  | nil => cases ha
  | cons y l ih =>
    obtain ⟨h1, h2⟩ := List.pairwise_cons.1 h
    rcases List.mem_cons.1 ha with rfl | ha' <;> rcases List.mem_cons.1 hb with rfl | hb'
    · rfl
    · exact absurd e (less_ne (h1 b hb'))
    · exact absurd e.symm (less_ne (h1 a ha'))
    · exact ih h2 ha' hb'
theorem find_no {l : List Fl} {s : List UInt8} : findF l s = none ↔ ∀ f ∈ l, f.name ≠ s := by
  unfold findF
  rw [List.find?_eq_none]
  constructor
  · intro h f hf e; exact h f hf (by simpa using e)
  · intro h f hf e; exact h f hf (by simpa using e)
theorem rise_find {l : List Fl} (h : Rise l) {f : Fl} (hf : f ∈ l) : findF l f.name = some f := by
  cases e : findF l f.name with
  | none => exact absurd rfl (find_no.1 e f hf)
  | some x =>
    obtain ⟨hx, hn⟩ := find_facts e
    rw [rise_one h hx hf hn]
theorem mem_drop {l : List Fl} {s : List UInt8} {x : Fl} : x ∈ dropF l s ↔ x ∈ l ∧ x.name ≠ s := by
  unfold dropF
  rw [List.mem_filter]
  simp
theorem rise_drop {l : List Fl} (h : Rise l) (s : List UInt8) : Rise (dropF l s) := List.Pairwise.filter _ h
theorem set_true (f : Fl) : ∀ l : List Fl, setGo f l true = dropF l f.name
  | [] => rfl
  | y :: l => by
    unfold setGo
    rw [Bool.true_or, set_true f l]
    unfold dropF
    by_cases e : y.name = f.name <;> simp [e]
theorem mem_setGo (f x : Fl) : ∀ l : List Fl, x ∈ setGo f l false ↔ (x ∈ l ∧ x.name ≠ f.name) ∨ x = f
  | [] => by unfold setGo; simp
  | y :: l => by
    unfold setGo
    cases hl : lessL y.name f.name with
    | true =>
      have hne : y.name ≠ f.name := less_ne hl
      have ih := mem_setGo f x l
      simp only [Bool.not_true, Bool.and_false, Bool.false_eq_true, if_false, hne, Bool.or_false, List.nil_append, List.mem_append, List.mem_cons, List.not_mem_nil, or_false, ih]
      constructor
      · rintro (rfl | ⟨h1, h2⟩ | h)
        · exact Or.inl ⟨Or.inl rfl, hne⟩
        · exact Or.inl ⟨Or.inr h1, h2⟩
        · exact Or.inr h
      · rintro (⟨rfl | h1, h2⟩ | h)
        · exact Or.inl rfl
        · exact Or.inr (Or.inl ⟨h1, h2⟩)
        · exact Or.inr (Or.inr h)
    | false =>
      simp only [Bool.not_false, Bool.and_true, Bool.or_true, if_true, set_true, List.mem_append, mem_drop, List.mem_cons, List.not_mem_nil, or_false]
      by_cases e : y.name = f.name
      · simp only [e, if_true, List.not_mem_nil, false_or]
        constructor
        · rintro (h | ⟨h1, h2⟩)
          · exact Or.inr h
          · exact Or.inl ⟨Or.inr h1, h2⟩
        · rintro (⟨rfl | h1, h2⟩ | h)
          · exact absurd e h2
          · exact Or.inr ⟨h1, h2⟩
          · exact Or.inl h
      · simp only [e, if_false, List.mem_cons, List.not_mem_nil, or_false]
        constructor
        · rintro (h | rfl | ⟨h1, h2⟩)
          · exact Or.inr h
          · exact Or.inl ⟨Or.inl rfl, e⟩
          · exact Or.inl ⟨Or.inr h1, h2⟩
        · rintro (⟨rfl | h1, h2⟩ | h)
          · exact Or.inr (Or.inl rfl)
          · exact Or.inr (Or.inr ⟨h1, h2⟩)
          · exact Or.inl h
theorem mem_set {l : List Fl} {f x : Fl} : x ∈ setF l f ↔ (x ∈ l ∧ x.name ≠ f.name) ∨ x = f := mem_setGo f x l
theorem rise_setGo (f : Fl) : ∀ l : List Fl, Rise l → Rise (setGo f l false)
  | [], _ => by unfold setGo; exact List.pairwise_singleton _ _
  | y :: l, h => by
    obtain ⟨h1, h2⟩ := List.pairwise_cons.1 h
    unfold setGo
    cases hl : lessL y.name f.name with
    | true =>
      have hne : y.name ≠ f.name := less_ne hl
      simp only [Bool.not_true, Bool.and_false, Bool.false_eq_true, if_false, hne, Bool.or_false, List.nil_append, List.singleton_append]
      refine List.pairwise_cons.2 ⟨fun x hx => ?_, rise_setGo f l h2⟩
      rcases (mem_setGo f x l).1 hx with ⟨hx', _⟩ | rfl
      · exact h1 x hx'
      · exact hl
    | false =>
      simp only [Bool.not_false, Bool.and_true, Bool.or_true, if_true, set_true, List.singleton_append]
      by_cases e : y.name = f.name
      · simp only [e, if_true, List.nil_append]
        refine List.pairwise_cons.2 ⟨fun x hx => ?_, rise_drop h2 _⟩
        rw [← e]
        exact h1 x (mem_drop.1 hx).1
      · simp only [e, if_false, List.singleton_append]
        have hfy : lessL f.name y.name = true := by
          rcases less_total f.name y.name with h' | h' | h'
          · exact absurd h'.symm e
          · exact h'
          · rw [hl] at h'; cases h'
        refine List.pairwise_cons.2 ⟨fun x hx => ?_, List.pairwise_cons.2 ⟨fun x hx => h1 x (mem_drop.1 hx).1, rise_drop h2 _⟩⟩
        rcases List.mem_cons.1 hx with rfl | hx'
        · exact hfy
        · exact less_trans _ _ _ hfy (h1 x (mem_drop.1 hx').1)
theorem rise_set {l : List Fl} (h : Rise l) (f : Fl) : Rise (setF l f) := rise_setGo f l h

theorem used_cons (y : Fl) (l : List Fl) : usedF (y :: l) = szF y + usedF l := by unfold usedF szF; rw [List.map_cons, List.sum_cons]
theorem used_append (a b : List Fl) : usedF (a ++ b) = usedF a + usedF b := by unfold usedF; rw [List.map_append, List.sum_append]
theorem used_setGo (f : Fl) : ∀ l : List Fl, usedF (setGo f l false) = szF f + usedF (dropF l f.name)
  | [] => by unfold setGo; simp [dropF, usedF, szF]
  | y :: l => by
    unfold setGo
    have hd : dropF (y :: l) f.name = (if y.name = f.name then [] else [y]) ++ dropF l f.name := by
      unfold dropF
      by_cases e : y.name = f.name <;> simp [e]
    cases hl : lessL y.name f.name with
    | true =>
      have hne : y.name ≠ f.name := less_ne hl
      rw [hd]
      simp only [Bool.not_true, Bool.and_false, Bool.false_eq_true, if_false, hne, Bool.or_false, List.nil_append, List.singleton_append, used_cons, used_setGo f l]
      omega
    | false =>
      rw [hd]
      simp only [Bool.not_false, Bool.and_true, Bool.or_true, if_true, set_true, List.singleton_append, used_cons]
theorem used_set (l : List Fl) (f : Fl) : usedF (setF l f) = szF f + usedF (dropF l f.name) := used_setGo f l
theorem drop_none {l : List Fl} {s : List UInt8} (h : ∀ f ∈ l, f.name ≠ s) : dropF l s = l := by
  unfold dropF
  exact List.filter_eq_self.2 fun x hx => by simpa using h x hx
theorem used_drop {l : List Fl} (h : Rise l) {f : Fl} (hf : f ∈ l) : szF f + usedF (dropF l f.name) = usedF l := by
  induction l with
  | nil => cases hf
  | cons y l ih =>
    obtain ⟨h1, h2⟩ := List.pairwise_cons.1 h
    have hd : dropF (y :: l) f.name = (if y.name = f.name then [] else [y]) ++ dropF l f.name := by
      unfold dropF
      by_cases e : y.name = f.name <;> simp [e]
    rw [hd]
    rcases List.mem_cons.1 hf with rfl | hf'
    · rw [if_pos rfl, List.nil_append, drop_none (fun x hx => (less_ne (h1 x hx)).symm), used_cons]
    · rw [if_neg (less_ne (h1 f hf')), List.singleton_append, used_cons, used_cons, ← ih h2 hf']
      omega
theorem used_drop_le (l : List Fl) (s : List UInt8) : usedF (dropF l s) ≤ usedF l := by
  induction l with
  | nil => exact Nat.le_refl _
  | cons y l ih =>
    have hd : dropF (y :: l) s = (if y.name = s then [] else [y]) ++ dropF l s := by
      unfold dropF
      by_cases e : y.name = s <;> simp [e]
    rw [hd, used_cons, used_append]
    split
    · have : usedF [] = 0 := rfl
      omega
    · have : usedF [y] = szF y := by rw [used_cons]; rfl
      omega

/-- A disk as it may be. -/
structure Fine (D : Dst) : Prop where
  ok : OkD D
  rise : Rise D.files
  used : (usedF D.files : Int) ≤ D.room

/-- Another list of files, which is no more. -/
theorem Fine.files {D : Dst} (h : Fine D) {l : List Fl} (hr : Rise l) (hu : usedF l ≤ usedF D.files) (hc : l.length ≤ 128) (he : ∀ f ∈ l, f.name.length ≤ 24 ∧ f.safe.length + f.more.length ≤ 65536) : Fine { D with files := l } :=
  ⟨⟨h.ok.room, h.ok.armed, hc, he⟩, hr, by have := h.used; show (usedF l : Int) ≤ D.room; omega⟩
theorem Fine.goes {D : Dst} (h : Fine D) : Fine (goesD D).1 := by
  unfold goesD
  by_cases e : D.armed = 0
  · rw [if_pos e]; exact h
  · rw [if_neg e]
    have := h.ok.armed
    exact ⟨⟨h.ok.room, ⟨by show 0 ≤ D.armed - 1; omega, by show D.armed - 1 ≤ _; omega⟩, h.ok.count, h.ok.each⟩, h.rise, h.used⟩
theorem set_count {l : List Fl} {f x : Fl} (h : x ∈ l) (e : x.name = f.name) : (setF l f).length ≤ l.length := by
  have h1 := set_len f l false
  have h2 := drop_lt h e
  unfold setF
  simp at h1
  omega
/-- A file in place of one that there is, which is not larger. -/
theorem Fine.put {D : Dst} (h : Fine D) {f x : Fl} (hx : x ∈ D.files) (e : x.name = f.name) (hz : szF f ≤ szF x) : Fine (putF D f) := by
  have hu := used_drop h.rise hx
  rw [e] at hu
  have he := h.ok.each x hx
  unfold szF at hz
  refine h.files (l := setF D.files f) (rise_set h.rise f) ?_ (Nat.le_trans (set_count hx e) h.ok.count) fun y hy => ?_
  · rw [used_set]; unfold szF at hu ⊢; omega
  · rcases mem_set.1 hy with ⟨hy', _⟩ | rfl
    · exact h.ok.each y hy'
    · exact ⟨by rw [← e]; exact he.1, by omega⟩
theorem Fine.drop {D : Dst} (h : Fine D) (s : List UInt8) : Fine { D with files := dropF D.files s } :=
  h.files (rise_drop h.rise s) (used_drop_le _ _) (Nat.le_trans drop_sub h.ok.count) fun f hf => h.ok.each f (mem_drop.1 hf).1
/-- What an Append makes of it. -/
theorem Fine.more {D : Dst} (h : Fine D) {s t : List UInt8} (hn : nameOk s = true) (hc : ¬ (((findF D.files s = none) ∧ 128 ≤ D.files.length) ∨ (65536 - (((findF D.files s).getD ⟨s, [], []⟩).safe.length : Int) - (((findF D.files s).getD ⟨s, [], []⟩).more.length : Int) < (t.length : Int)) ∨ (D.room - (usedF D.files : Int) < (t.length : Int)))) :
    Fine (putF D { ((findF D.files s).getD ⟨s, [], []⟩) with more := ((findF D.files s).getD ⟨s, [], []⟩).more ++ t }) := by
  have hs : s.length ≤ 24 := by
    unfold nameOk at hn
    simp only [Bool.and_eq_true, decide_eq_true_eq] at hn
    exact hn.2.2
  cases hf : findF D.files s with
  | none =>
    rw [hf] at hc
    simp only [Option.getD_none, List.length_nil, true_and] at hc ⊢
    have hnot := find_no.1 hf
    have hd := drop_none hnot
    have hl := set_len (⟨s, [], [] ++ t⟩ : Fl) D.files false
    simp only [Bool.false_eq_true, if_false, hd] at hl
    refine ⟨⟨h.ok.room, h.ok.armed, by show (setGo _ _ false).length ≤ 128; omega, fun y hy => ?_⟩, rise_set h.rise _, ?_⟩
    · rcases mem_set.1 hy with ⟨hy', _⟩ | rfl
      · exact h.ok.each y hy'
      · exact ⟨hs, by simp; omega⟩
    · show (usedF (setF D.files _) : Int) ≤ D.room
      rw [used_set]
      simp only [hd, szF, List.length_nil, List.nil_append]
      omega
  | some f =>
    rw [hf] at hc
    obtain ⟨hm, hnm⟩ := find_facts hf
    simp only [Option.getD_some] at hc ⊢
    have hu := used_drop h.rise hm
    have he := h.ok.each f hm
    refine ⟨⟨h.ok.room, h.ok.armed, Nat.le_trans (set_count hm rfl) h.ok.count, fun y hy => ?_⟩, rise_set h.rise _, ?_⟩
    · rcases mem_set.1 hy with ⟨hy', _⟩ | rfl
      · exact h.ok.each y hy'
      · exact ⟨he.1, by simp; omega⟩
    · show (usedF (setF D.files _) : Int) ≤ D.room
      rw [used_set]
      simp only [szF, List.length_append] at hu ⊢
      omega
end Go.Proofs.YtelcemfaijjcbaaGreatDoor.C12
