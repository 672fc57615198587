/-
  Layer 9, plainly: the widest of a list, one by one, is what is needed of it; a list in order.
-/
import Derived.Test.YtbpphghphfbogaaP9Math
namespace Go.Proofs.Ytbpphghphfbogaa.P8
set_option linter.unusedVariables false

/-- Once through a list: whoever covers the widest so far is the widest. -/
def wideGo : List (List UInt8) → List UInt8 → List UInt8
  | [], m => m
  | p :: r, m => wideGo r (if covT p m then p else m)
theorem wideGo_mem : ∀ (r : List (List UInt8)) (m : List UInt8), wideGo r m = m ∨ wideGo r m ∈ r
  | [], m => Or.inl rfl
  | p :: r, m => by
    unfold wideGo
    split
    · rcases wideGo_mem r p with h | h
      · exact Or.inr (by rw [h]; exact List.mem_cons_self)
      · exact Or.inr (List.mem_cons_of_mem _ h)
    · rcases wideGo_mem r m with h | h
      · exact Or.inl h
      · exact Or.inr (List.mem_cons_of_mem _ h)
theorem wideGo_is : ∀ (r d : List (List UInt8)) (m : List UInt8), (∀ x ∈ d, covT x m = true → x = m) → (∀ x ∈ d ++ r, covT x (wideGo r m) = true → x = wideGo r m)
  | [], d, m, h => by rw [List.append_nil]; exact h
  | p :: r, d, m, h => by
    rw [show d ++ p :: r = (d ++ [p]) ++ r by simp]
    unfold wideGo
    refine wideGo_is r (d ++ [p]) _ fun x hx hc => ?_
    rcases List.mem_append.1 hx with hx | hx
    · split at hc
      · rename_i hp
        rw [if_pos hp]
        have := h x hx (cov_trans9 hc hp)
        subst this
        exact cov_anti hc hp
      · rename_i hp
        rw [if_neg hp]
        exact h x hx hc
    · rw [List.mem_singleton] at hx
      subst hx
      split at hc
      · rename_i hp
        rw [if_pos hp]
      · rename_i hp
        exact absurd hc hp
def wide (l : List (List UInt8)) : List UInt8 := match l with
  | [] => []
  | m :: _ => wideGo l m
def rest (l : List (List UInt8)) : List (List UInt8) := l.filter fun p => !covT (wide l) p
theorem wide_mem {l : List (List UInt8)} (h : l ≠ []) : wide l ∈ l := by
  cases l with
  | nil => exact absurd rfl h
  | cons m l =>
    unfold wide
    rcases wideGo_mem (m :: l) m with e | e
    · simp only [e]; exact List.mem_cons_self
    · exact e
theorem wide_is {l : List (List UInt8)} : ∀ x ∈ l, covT x (wide l) = true → x = wide l := by
  cases l with
  | nil => intro x hx; cases hx
  | cons m l =>
    have := wideGo_is (m :: l) [] m (fun x hx => by cases hx)
    rw [List.nil_append] at this
    exact this
theorem rest_lt {l : List (List UInt8)} (h : l ≠ []) (hp : ∀ x ∈ l, patP x = true) : (rest l).length < l.length := by
  have hw := wide_mem h
  have : wide l ∉ rest l := fun hm => by
    have := (List.mem_filter.1 hm).2
    rw [cov_self9 (hp _ hw)] at this
    cases this
  have h1 := List.length_filter_le (fun p => !covT (wide l) p) l
  unfold rest
  rcases Nat.lt_or_ge (l.filter fun p => !covT (wide l) p).length l.length with h2 | h2
  · exact h2
  · have := List.length_filter_eq_length_iff.1 (Nat.le_antisymm h1 h2) _ hw
    rw [cov_self9 (hp _ hw)] at this
    cases this
theorem rest_pat {l : List (List UInt8)} (hp : ∀ x ∈ l, patP x = true) : ∀ x ∈ rest l, patP x = true := fun x hx => hp x (List.mem_filter.1 hx).1
/-- What is needed, one by one. -/
def picks : Nat → List (List UInt8) → List (List UInt8)
  | 0, _ => []
  | n + 1, l => if l = [] then [] else wide l :: picks n (rest l)
theorem picks_mem : ∀ (n : Nat) (l : List (List UInt8)), (∀ x ∈ l, patP x = true) → l.length ≤ n → ∀ q, q ∈ picks n l ↔ q ∈ l ∧ needed l q = true
  | 0, l, _, hn, q => by
    have : l = [] := List.length_eq_zero_iff.1 (Nat.le_zero.1 hn)
    subst this
    simp [picks]
  | n + 1, l, hp, hn, q => by
    unfold picks
    split
    · rename_i h; subst h; simp
    · rename_i h
      have ih := picks_mem n (rest l) (rest_pat hp) (by have := rest_lt h hp; omega) q
      have hw := wide_mem h
      rw [List.mem_cons, ih]
      constructor
      · rintro (rfl | ⟨h1, h2⟩)
        · refine ⟨hw, ?_⟩
          unfold needed
          rw [List.all_eq_true]
          intro x hx
          by_cases hc : covT x (wide l) = true
          · rw [wide_is x hx hc]; simp
          · simp [hc]
        · have hq := List.mem_filter.1 h1
          refine ⟨hq.1, ?_⟩
          unfold needed at h2 ⊢
          rw [List.all_eq_true] at h2 ⊢
          intro x hx
          by_cases hc : covT x q = true
          · have hxr : x ∈ rest l := List.mem_filter.2 ⟨hx, by
              cases hwx : covT (wide l) x with
              | false => rfl
              | true =>
                have h3 := hq.2
                rw [cov_trans9 hwx hc] at h3
                cases h3⟩
            exact h2 x hxr
          · simp [hc]
      · rintro ⟨h1, h2⟩
        by_cases hc : covT (wide l) q = true
        · left
          unfold needed at h2
          rw [List.all_eq_true] at h2
          have := h2 _ hw
          rw [hc] at this
          simpa using (by simpa using this : wide l = q).symm
        · right
          refine ⟨List.mem_filter.2 ⟨h1, by simp [hc]⟩, ?_⟩
          unfold needed at h2 ⊢
          rw [List.all_eq_true] at h2 ⊢
          exact fun x hx => h2 x (List.mem_filter.1 hx).1
theorem picks_nodup : ∀ (n : Nat) (l : List (List UInt8)), (∀ x ∈ l, patP x = true) → l.length ≤ n → (picks n l).Nodup
  | 0, l, _, _ => List.nodup_nil
  | n + 1, l, hp, hn => by
    unfold picks
    split
    · exact List.nodup_nil
    · rename_i h
      have hr := rest_lt h hp
      refine List.nodup_cons.2 ⟨fun hm => ?_, picks_nodup n (rest l) (rest_pat hp) (by omega)⟩
      have h1 := ((picks_mem n (rest l) (rest_pat hp) (by omega) _).1 hm).1
      have := (List.mem_filter.1 h1).2
      rw [cov_self9 (hp _ (wide_mem h))] at this
      cases this
theorem picks_len {n : Nat} {l : List (List UInt8)} (hp : ∀ x ∈ l, patP x = true) (hn : l.length ≤ n) : (picks n l).length = (leastL l).length := by
  refine Nat.le_antisymm (nodup_len _ _ (picks_nodup n l hp hn) fun x hx => ?_) (nodup_len _ _ (asc_nodup (least_is l).1) fun x hx => ?_)
  · exact ((least_is l).2 x).2 ((picks_mem n l hp hn x).1 hx)
  · exact (picks_mem n l hp hn x).2 (((least_is l).2 x).1 hx)
theorem picks_cons {n : Nat} {l : List (List UInt8)} (h : l ≠ []) : picks (n + 1) l = wide l :: picks n (rest l) := by
  rw [picks, if_neg h]
theorem picks_nil (n : Nat) : picks n [] = [] := by cases n <;> simp [picks]
/-- In order, each once: that is the normal form. -/
theorem sorted_least {n : Nat} {l s : List (List UInt8)} (hp : ∀ x ∈ l, patP x = true) (hn : l.length ≤ n) (hs : s.Perm (picks n l)) (ho : s.Pairwise fun a b => lessL b a = false) : s = leastL l := by
  refine least_unique ⟨?_, fun p => (hs.mem_iff).trans (picks_mem n l hp hn p)⟩
  have hnd : s.Nodup := hs.nodup_iff.2 (picks_nodup n l hp hn)
  unfold Asc
  refine List.Pairwise.imp₂ (fun a b h1 h2 => ?_) ho hnd
  rcases less_total a b with e | e | e
  · exact absurd e h2
  · exact e
  · rw [e] at h1; cases h1

/-! ## A list is put in order, text by text -/
/-- x goes ahead of all that it is ahead of, from the end on. -/
theorem pairwise_ins {A C : List (List UInt8)} {x : List UInt8} (h : (A ++ C).Pairwise fun a b => lessL b a = false) (hC : ∀ c ∈ C, lessL x c = true) (hA : ∀ y, A.getLast? = some y → lessL x y = false) : (A ++ [x] ++ C).Pairwise fun a b => lessL b a = false := by
  have hle : ∀ a b : List UInt8, lessL b a = false → ∀ c, lessL c b = false → lessL c a = false := by
    intro a b h1 c h2
    cases e : lessL c a with
    | false => rfl
    | true =>
      rcases less_total a b with r | r | r
      · subst r; rw [e] at h2; cases h2
      · rw [less_trans c a b e r] at h2; cases h2
      · rw [r] at h1; cases h1
  rw [List.pairwise_append] at h
  rw [List.append_assoc, List.pairwise_append]
  have hAx : ∀ a ∈ A, lessL x a = false := by
    rcases List.eq_nil_or_concat A with rfl | ⟨A', y, rfl⟩
    · intro a ha; cases ha
    · have hy := hA y (by simp)
      intro a ha
      rw [List.concat_eq_append] at ha h
      rcases List.mem_append.1 ha with ha | ha
      · have := (List.pairwise_append.1 h.1).2.2 a ha y (by simp)
        exact hle a y this x hy
      · rw [List.mem_singleton] at ha; subst ha; exact hy
  refine ⟨h.1, ?_, fun a ha b hb => ?_⟩
  · rw [List.singleton_append, List.pairwise_cons]
    exact ⟨fun c hc => less_asymm (hC c hc), h.2.1⟩
  · rcases List.mem_append.1 hb with hb | hb
    · rw [List.mem_singleton] at hb; subst hb; exact hAx a ha
    · exact h.2.2 a ha b hb
end Go.Proofs.Ytbpphghphfbogaa.P8
