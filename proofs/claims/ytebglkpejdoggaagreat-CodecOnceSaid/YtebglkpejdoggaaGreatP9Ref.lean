/-
  Layer 8, the document's answer: Match, Covers, Meets, Less; and the law's awake.
  Layer 9, plainly: what is needed of a filter, its normal form, what it has, covers and meets.
  Layer 9, the document's answers: which filters may be, the normal form, what a filter has, covers and meets.
-/
import Derived.Test.YtebglkpejdoggaaGreatP8RefD
import Derived.Deep.RegionLaw
import Derived.Deep.AppendLies
namespace Go.Proofs.YtebglkpejdoggaaGreat.P8
open Go Go.RowKit Go.Shelf Go.Proofs Go.Proofs.YtebglkpejdoggaaGreat.B Go.Proofs.YtebglkpejdoggaaGreat.K
set_option linter.unusedVariables false

theorem quiet_below {w w' : World} (h : ∃ m, w' = w.drewN m) : Below w.heap.size w w' := by
  obtain ⟨m, rfl⟩ := h
  exact below_drewN w m

theorem parts_four {l : List UInt8} (h : patP l = true) : (parts l).length ≤ 1000 := by have := (pat_all h).2.2; omega

theorem less_step {a b : List UInt8} {K : Nat} {x y : UInt8} (hx : a[K]? = some x) (hy : b[K]? = some y) : lessL (a.drop K) (b.drop K) = if x = y then lessL (a.drop (K + 1)) (b.drop (K + 1)) else decide (x.toNat < y.toNat) := by
  obtain ⟨h1, rfl⟩ := List.getElem?_eq_some_iff.1 hx
  obtain ⟨h2, rfl⟩ := List.getElem?_eq_some_iff.1 hy
  rw [List.drop_eq_getElem_cons h1, List.drop_eq_getElem_cons h2]
  rfl

theorem less_end {a b : List UInt8} {K : Nat} (ha : K ≤ a.length) (hb : K ≤ b.length) (h : ¬ (K < a.length ∧ K < b.length)) : lessL (a.drop K) (b.drop K) = decide (a.length < b.length) := by
  rcases Nat.lt_or_ge K b.length with hb' | hb'
  · have : a.length = K := by omega
    rw [List.drop_of_length_le (by omega), List.drop_eq_getElem_cons hb']
    rw [decide_eq_true (by omega)]; rfl
  · rw [List.drop_of_length_le hb', decide_eq_false (by omega)]
    cases a.drop K <;> rfl

set_option maxHeartbeats 2000000 in
set_option maxRecDepth 100000 in
theorem less_any (a b : List UInt8) (ha : a.length ≤ 9223372036854775806) (hb : b.length ≤ 9223372036854775806) (w : World) :
    Calls Tryz.prog 40 #[.string (str a), .string (str b)] w fun e w' => e = .returned (.bool (lessL a b)) ∧ Below w.heap.size w w' := by
  have hsa : (str a).size = a.length := str_size a
  have hsb : (str b).size = b.length := str_size b
  go_enter Tryz.func40, Tryz.ntmps40
  go_wp2_with fail
  go_loopw [5] (fun k wr => ∃ K : Nat, k = .int .i64 (K : Int) ∧ K ≤ a.length ∧ K ≤ b.length ∧ Hid (lessL a b = lessL (a.drop K) (b.drop K)) ∧ Below w.heap.size w wr) (fun k _ => a.length - (intOf k).toNat)
  case atStart => exact ⟨0, rfl, Nat.zero_le _, Nat.zero_le _, rfl, Below.refl _ _⟩
  case round =>
    obtain ⟨K, rfl, hKa, hKb, HL, HB⟩ := hrel
    have hw1 : IntKind.i64.wrap ((K : Int) + 1) = (K : Int) + 1 := IntWalk.i64_in _ (by omega)
    by_cases hlt : K < a.length ∧ K < b.length
    · obtain ⟨hla, hlb⟩ := hlt
      have hltA : (K : Int) < (a.length : Int) := by omega
      have hltB : (K : Int) < (b.length : Int) := by omega
      have hlsA : (K : Int) < ((str a).size : Int) := by omega
      have hlsB : (K : Int) < ((str b).size : Int) := by omega
      have hk0 : (0 : Int) ≤ (K : Int) := by omega
      have hkA : K < (str a).size := by omega
      have hkB : K < (str b).size := by omega
      obtain ⟨x, hx⟩ : ∃ x, a[K]? = some x := ⟨_, List.getElem?_eq_getElem hla⟩
      obtain ⟨y, hy⟩ : ∃ x, b[K]? = some x := ⟨_, List.getElem?_eq_getElem hlb⟩
      have hgx : ((str a)[K]'hkA) = x := str_get8 hx hkA
      have hgy : ((str b)[K]'hkB) = y := str_get8 hy hkB
      have hst := less_step hx hy
      by_cases hxy : x = y
      · subst hxy
        rw [if_pos rfl] at hst
        have HS := Lib.hid hst
        clear hst hx hy
        go_wp2_with fail
        go_quiet (fail)
        go_wp2_with fail
        go_roundw
        case rel => exact ⟨K + 1, by go_num, by omega, by omega, by show _ = _; rw [HL.out, HS.out], HB.trans ((below_drewN _ _).mono HB.size)⟩
        case measure => simp [intOf]; omega
      · rw [if_neg hxy] at hst
        have HS := Lib.hid hst
        have hne : (((x.toNat : Int)) == (y.toNat : Int)) = false := by
          rw [beq_eq_false_iff_ne]; intro h; exact hxy (UInt8.toNat_inj.1 (by omega))
        have hne2 : ((x.toNat : Int) != (y.toNat : Int)) = true := by
          rw [bne_iff_ne]; intro h; exact hxy (UInt8.toNat_inj.1 (by omega))
        clear hst hx hy hxy
        go_wp2_with fail
        go_quiet (fail)
        go_wp2_with fail
        go_quiet (fail)
        go_wp2_with fail
        go_ret
        rw [HL.out, HS.out]
        refine ⟨rfl, ?_⟩
        first | exact HB.trans ((below_drewN _ _).mono HB.size) | (rw [World.drewN_drewN]; exact HB.trans ((below_drewN _ _).mono HB.size))
    · have he := less_end hKa hKb hlt
      have HS := Lib.hid he
      clear he
      by_cases hla : K < a.length
      · have hltA : (K : Int) < (a.length : Int) := by omega
        have hltB : ¬ (K : Int) < (b.length : Int) := by omega
        go_wp2_with fail
        go_ret
        rw [HL.out, HS.out]
        exact ⟨by simp, HB⟩
      · have hltA : ¬ (K : Int) < (a.length : Int) := by omega
        go_wp2_with fail
        go_ret
        rw [HL.out, HS.out]
        exact ⟨by simp, HB⟩

end Go.Proofs.YtebglkpejdoggaaGreat.P8

namespace Go.Proofs.YtebglkpejdoggaaGreat.P8
set_option linter.unusedVariables false

/-! ## Texts in order -/
theorem less_irrefl : ∀ a : List UInt8, lessL a a = false
  | [] => rfl
  | x :: a => by rw [lessL, if_pos rfl]; exact less_irrefl a
theorem less_trans : ∀ a b c : List UInt8, lessL a b = true → lessL b c = true → lessL a c = true
  | [], [], c, h, _ => by cases h
  | [], _ :: _, [], _, h => by cases h
  | [], _ :: _, _ :: _, _, _ => rfl
  | _ :: _, [], _, h, _ => by cases h
  | _ :: _, _ :: _, [], _, h => by cases h
  | x :: a, y :: b, z :: c, h1, h2 => by
    unfold lessL at h1 h2 ⊢
    by_cases e1 : x = y
    · rw [if_pos e1] at h1
      by_cases e2 : y = z
      · rw [if_pos e2] at h2
        rw [if_pos (e1.trans e2)]
        exact less_trans a b c h1 h2
      · rw [if_neg e2] at h2
        rw [if_neg (by rw [e1]; exact e2), e1]; exact h2
    · rw [if_neg e1] at h1
      have g1 : x.toNat < y.toNat := of_decide_eq_true h1
      by_cases e2 : y = z
      · rw [if_neg (by rw [← e2]; exact e1), ← e2]; exact h1
      · rw [if_neg e2] at h2
        have g2 : y.toNat < z.toNat := of_decide_eq_true h2
        rw [if_neg (by rintro rfl; omega)]
        exact decide_eq_true (by omega)
theorem less_total : ∀ a b : List UInt8, a = b ∨ lessL a b = true ∨ lessL b a = true
  | [], [] => Or.inl rfl
  | [], _ :: _ => Or.inr (Or.inl rfl)
  | _ :: _, [] => Or.inr (Or.inr rfl)
  | x :: a, y :: b => by
    by_cases e : x = y
    · subst e
      rcases less_total a b with h | h | h
      · exact Or.inl (by rw [h])
      · exact Or.inr (Or.inl (by rw [lessL, if_pos rfl]; exact h))
      · exact Or.inr (Or.inr (by rw [lessL, if_pos rfl]; exact h))
    · rcases Nat.lt_trichotomy x.toNat y.toNat with h | h | h
      · exact Or.inr (Or.inl (by rw [lessL, if_neg e]; exact decide_eq_true h))
      · exact absurd (UInt8.toNat_inj.1 h) e
      · exact Or.inr (Or.inr (by rw [lessL, if_neg (Ne.symm e)]; exact decide_eq_true h))
theorem less_asymm {a b : List UInt8} (h : lessL a b = true) : lessL b a = false := by
  cases e : lessL b a with
  | false => rfl
  | true => have := less_trans a b a h e; rw [less_irrefl] at this; cases this

def Asc (l : List (List UInt8)) : Prop := l.Pairwise fun a b => lessL a b = true

theorem asc_unique : ∀ a b : List (List UInt8), Asc a → Asc b → (∀ x, x ∈ a ↔ x ∈ b) → a = b
  | [], [], _, _, _ => rfl
  | [], y :: b, _, _, h => by have := (h y).2 List.mem_cons_self; cases this
  | x :: a, [], _, _, h => by have := (h x).1 List.mem_cons_self; cases this
  | x :: a, y :: b, ha, hb, h => by
    have ha' := List.pairwise_cons.1 ha
    have hb' := List.pairwise_cons.1 hb
    have hxy : x = y := by
      rcases List.mem_cons.1 ((h x).1 List.mem_cons_self) with e | e
      · exact e
      · rcases List.mem_cons.1 ((h y).2 List.mem_cons_self) with e' | e'
        · exact e'.symm
        · have h1 := hb'.1 x e
          have h2 := ha'.1 y e'
          rw [less_asymm h1] at h2; cases h2
    subst hxy
    rw [asc_unique a b ha'.2 hb'.2 fun z => ?_]
    constructor
    · intro hz
      rcases List.mem_cons.1 ((h z).1 (List.mem_cons_of_mem _ hz)) with e | e
      · subst e; have := ha'.1 _ hz; rw [less_irrefl] at this; cases this
      · exact e
    · intro hz
      rcases List.mem_cons.1 ((h z).2 (List.mem_cons_of_mem _ hz)) with e | e
      · subst e; have := hb'.1 _ hz; rw [less_irrefl] at this; cases this
      · exact e

def insL (p : List UInt8) : List (List UInt8) → List (List UInt8)
  | [] => [p]
  | x :: l => if lessL p x then p :: x :: l else x :: insL p l
theorem mem_ins {p q : List UInt8} : ∀ {l : List (List UInt8)}, q ∈ insL p l ↔ q = p ∨ q ∈ l
  | [] => by simp [insL]
  | x :: l => by
    unfold insL
    split
    · simp
    · rw [List.mem_cons, mem_ins, List.mem_cons]
      constructor
      · rintro (h | h | h)
        · exact Or.inr (Or.inl h)
        · exact Or.inl h
        · exact Or.inr (Or.inr h)
      · rintro (h | h | h)
        · exact Or.inr (Or.inl h)
        · exact Or.inl h
        · exact Or.inr (Or.inr h)
theorem asc_ins {p : List UInt8} : ∀ {l : List (List UInt8)}, Asc l → p ∉ l → Asc (insL p l)
  | [], _, _ => List.pairwise_singleton _ _
  | x :: l, h, hp => by
    have h' := List.pairwise_cons.1 h
    unfold insL
    split
    · rename_i hlt
      refine List.pairwise_cons.2 ⟨fun y hy => ?_, h⟩
      rcases List.mem_cons.1 hy with e | e
      · subst e; exact hlt
      · exact less_trans _ _ _ hlt (h'.1 y e)
    · rename_i hlt
      have hx : lessL x p = true := by
        rcases less_total x p with e | e | e
        · exact absurd (e ▸ List.mem_cons_self) hp
        · exact e
        · exact absurd e hlt
      refine List.pairwise_cons.2 ⟨fun y hy => ?_, asc_ins h'.2 fun e => hp (List.mem_cons_of_mem _ e)⟩
      rcases mem_ins.1 hy with e | e
      · subst e; exact hx
      · exact h'.1 y e

/-! ## Filters -/
def right9 (l : List (List UInt8)) : Bool := decide (l.length ≤ 8) && l.all patP
/-- No other one covers it. -/
def needed (l : List (List UInt8)) (p : List UInt8) : Bool := l.all fun x => x == p || !covT x p
def leastGo (l : List (List UInt8)) : List (List UInt8) → List (List UInt8) → List (List UInt8)
  | [], out => out
  | p :: r, out => leastGo l r (if out.contains p || !needed l p then out else insL p out)
def leastL (l : List (List UInt8)) : List (List UInt8) := leastGo l l []
def hasF (l : List (List UInt8)) (s : List UInt8) : Bool := (l.any fun x => matT x s) && right9 l
def covF (a b : List (List UInt8)) : Bool := (b.all fun y => a.any fun x => covT x y) && (right9 a && right9 b)
def metF (a b : List (List UInt8)) : Bool := (b.any fun y => a.any fun x => metT x y) && (right9 a && right9 b)

def IsLeast (l out : List (List UInt8)) : Prop := Asc out ∧ ∀ p, p ∈ out ↔ p ∈ l ∧ needed l p = true

theorem leastGo_is (l : List (List UInt8)) : ∀ (r out d : List (List UInt8)), Asc out → (∀ p, p ∈ out ↔ p ∈ d ∧ needed l p = true) → Asc (leastGo l r out) ∧ ∀ p, p ∈ leastGo l r out ↔ p ∈ d ++ r ∧ needed l p = true
  | [], out, d, h, hm => by rw [List.append_nil]; exact ⟨h, hm⟩
  | p :: r, out, d, h, hm => by
    rw [show d ++ p :: r = (d ++ [p]) ++ r by simp]
    unfold leastGo
    refine leastGo_is l r _ (d ++ [p]) ?_ ?_
    · split
      · exact h
      · rename_i hc
        simp only [Bool.or_eq_true, List.contains_iff_mem, Bool.not_eq_true', not_or] at hc
        exact asc_ins h hc.1
    · intro q
      split
      · rename_i hc
        rw [hm q, List.mem_append, List.mem_singleton]
        constructor
        · rintro ⟨a, b⟩; exact ⟨Or.inl a, b⟩
        · rintro ⟨a | a, b⟩
          · exact ⟨a, b⟩
          · subst a
            simp only [Bool.or_eq_true, List.contains_iff_mem, Bool.not_eq_true'] at hc
            rcases hc with hc | hc
            · exact (hm q).1 hc
            · rw [hc] at b; cases b
      · rename_i hc
        simp only [Bool.or_eq_true, List.contains_iff_mem, Bool.not_eq_true', not_or, Bool.not_eq_false] at hc
        rw [mem_ins, hm q, List.mem_append, List.mem_singleton]
        constructor
        · rintro (a | ⟨a, b⟩)
          · subst a; exact ⟨Or.inr rfl, hc.2⟩
          · exact ⟨Or.inl a, b⟩
        · rintro ⟨a | a, b⟩
          · exact Or.inr ⟨a, b⟩
          · exact Or.inl a
theorem least_is (l : List (List UInt8)) : IsLeast l (leastL l) := by
  have := leastGo_is l l [] [] List.Pairwise.nil (by simp)
  rw [List.nil_append] at this
  exact this
theorem least_unique {l out : List (List UInt8)} (h : IsLeast l out) : out = leastL l :=
  asc_unique _ _ h.1 (least_is l).1 fun x => (h.2 x).trans ((least_is l).2 x).symm

theorem cov_parts {p q : List UInt8} (h : covT p q = true) : patP p = true ∧ patP q = true ∧ coversL (parts p) (parts q) = true := by
  simpa [covT] using h
theorem cov_trans9 {p q s : List UInt8} (h1 : covT p q = true) (h2 : covT q s = true) : covT p s = true := by
  obtain ⟨a1, a2, a3⟩ := cov_parts h1
  obtain ⟨b1, b2, b3⟩ := cov_parts h2
  unfold covT
  rw [a1, b2, covers_trans _ _ _ (pat_all a1).2.1 (pat_all a2).2.1 (pat_all b2).2.1 a3 b3]; rfl
theorem cov_self9 {p : List UInt8} (h : patP p = true) : covT p p = true := by
  unfold covT
  rw [h, covers_self _ (pat_all h).2.1]; rfl

theorem covers_anti : ∀ P Q : List (List UInt8), allL rP P = true → allL rP Q = true → coversL P Q = true → coversL Q P = true → P = Q
  | [], Q, _, _, h1, _ => (covers_nil.1 h1).symm
  | p :: P, [], _, _, _, h2 => covers_nil.1 h2
  | p :: P, q :: Q, hP, hQ, h1, h2 => by
    obtain ⟨_, hP', hm, _⟩ := pat_cons hP
    obtain ⟨_, hQ', hm', _⟩ := pat_cons hQ
    by_cases hp : p = many
    · obtain rfl := hm hp
      subst hp
      by_cases hq : q = many
      · obtain rfl := hm' hq
        rw [hq]
      · obtain ⟨x, X, e, hx, _, _⟩ := (covers_cons hq).1 h2
        injection e with e1 e2
        exact absurd e1.symm hx
    · obtain ⟨x, X, e, hx, h3, h4⟩ := (covers_cons hp).1 h1
      injection e with e1 e2
      subst e1 e2
      obtain ⟨y, Y, e, hy, h5, h6⟩ := (covers_cons hx).1 h2
      injection e with e1 e2
      subst e1 e2
      have hpq : p = q := by
        rcases h3 with h | h
        · rcases h5 with g | g
          · rw [h, g]
          · exact g.symm
        · exact h
      rw [hpq, covers_anti P Q hP' hQ' h4 h6]

/-- A text is what its parts make of it. -/
def joinS : List (List UInt8) → List UInt8
  | [] => []
  | [x] => x
  | x :: y :: l => x ++ 47 :: joinS (y :: l)
theorem join_onFirst (b : UInt8) : ∀ P : List (List UInt8), P ≠ [] → joinS (onFirst b P) = b :: joinS P
  | [], h => absurd rfl h
  | [x], _ => rfl
  | x :: y :: l, _ => rfl
theorem joinS_parts : ∀ l : List UInt8, joinS (parts l) = l
  | [] => rfl
  | b :: l => by
    have ih := joinS_parts l
    unfold parts
    split
    · rename_i hb
      have hb' : b = 47 := eq_of_beq hb
      obtain ⟨x, P, hP⟩ : ∃ x P, parts l = x :: P := by
        cases hP : parts l with
        | nil => exact absurd hP (parts_ne l)
        | cons x P => exact ⟨x, P, rfl⟩
      rw [hP] at ih ⊢
      rw [joinS, ih, hb']; rfl
    · rw [join_onFirst b _ (parts_ne l), ih]
theorem cov_anti {p q : List UInt8} (h1 : covT p q = true) (h2 : covT q p = true) : p = q := by
  obtain ⟨a1, a2, a3⟩ := cov_parts h1
  obtain ⟨b1, b2, b3⟩ := cov_parts h2
  have := covers_anti _ _ (pat_all a1).2.1 (pat_all a2).2.1 a3 b3
  rw [← joinS_parts p, ← joinS_parts q, this]

/-- All that a filter has is covered by what is needed. -/
theorem covered (l : List (List UInt8)) (hl : ∀ x ∈ l, patP x = true) : ∀ (n : Nat) (p : List UInt8), p ∈ l → (l.filter fun y => covT y p).length ≤ n → ∃ m ∈ leastL l, covT m p = true
  | 0, p, hp, hn => by
    have : p ∈ l.filter fun y => covT y p := List.mem_filter.2 ⟨hp, cov_self9 (hl p hp)⟩
    rw [List.length_eq_zero_iff.1 (Nat.le_zero.1 hn)] at this
    cases this
  | n + 1, p, hp, hn => by
    by_cases hne : needed l p = true
    · exact ⟨p, ((least_is l).2 p).2 ⟨hp, hne⟩, cov_self9 (hl p hp)⟩
    · unfold needed at hne
      rw [List.all_eq_true] at hne
      simp only [Bool.or_eq_true, beq_iff_eq, Bool.not_eq_true', Classical.not_forall, not_or, Bool.not_eq_false] at hne
      obtain ⟨x, hx, hxp, hc⟩ := hne
      have hlt : (l.filter fun y => covT y x).length < (l.filter fun y => covT y p).length := by
        have hsub : ∀ (m : List (List UInt8)), (m.filter fun y => covT y x).length + (if p ∈ m then 1 else 0) ≤ (m.filter fun y => covT y p).length := by
          intro m
          induction m with
          | nil => simp
          | cons y m ih =>
            by_cases h1 : covT y x = true
            · have h2 : covT y p = true := cov_trans9 h1 hc
              have hyp : p ≠ y := by
                rintro rfl
                exact hxp (cov_anti hc h1)
              rw [List.filter_cons_of_pos (p := fun y => covT y x) h1, List.filter_cons_of_pos (p := fun y => covT y p) h2, List.length_cons, List.length_cons]
              have : (p ∈ y :: m) ↔ p ∈ m := by rw [List.mem_cons]; exact ⟨fun h => h.resolve_left hyp, Or.inr⟩
              simp only [this]
              omega
            · rw [List.filter_cons_of_neg (p := fun y => covT y x) h1]
              by_cases hyp : p = y
              · subst hyp
                by_cases hpp : covT p p = true
                · rw [List.filter_cons_of_pos (p := fun y => covT y p) hpp, List.length_cons, if_pos List.mem_cons_self]
                  split at ih <;> omega
                · exact absurd (cov_self9 (cov_parts hc).2.1) hpp
              · have : (p ∈ y :: m) ↔ p ∈ m := by rw [List.mem_cons]; exact ⟨fun h => h.resolve_left hyp, Or.inr⟩
                simp only [this]
                by_cases h2 : covT y p = true
                · rw [List.filter_cons_of_pos (p := fun y => covT y p) h2, List.length_cons]; omega
                · rw [List.filter_cons_of_neg (p := fun y => covT y p) h2]; exact ih
        have := hsub l
        rw [if_pos hp] at this
        omega
      obtain ⟨m, hm, hmx⟩ := covered l hl n x hx (by omega)
      exact ⟨m, hm, cov_trans9 hmx hc⟩

theorem least_sub {l : List (List UInt8)} {p : List UInt8} (h : p ∈ leastL l) : p ∈ l := (((least_is l).2 p).1 h).1
theorem right_all {l : List (List UInt8)} (h : right9 l = true) : l.length ≤ 8 ∧ ∀ x ∈ l, patP x = true := by
  unfold right9 at h
  rw [Bool.and_eq_true, List.all_eq_true] at h
  exact ⟨of_decide_eq_true h.1, h.2⟩
theorem asc_nodup {l : List (List UInt8)} (h : Asc l) : l.Nodup :=
  h.imp fun {a b} hab => by rintro rfl; rw [less_irrefl] at hab; cases hab
theorem nodup_len : ∀ (a b : List (List UInt8)), a.Nodup → (∀ x ∈ a, x ∈ b) → a.length ≤ b.length
  | [], _, _, _ => Nat.zero_le _
  | x :: a, b, hn, hs => by
    have hn' := List.nodup_cons.1 hn
    have hx := hs x List.mem_cons_self
    have := nodup_len a (b.erase x) hn'.2 fun y hy => (List.mem_erase_of_ne (by rintro rfl; exact hn'.1 hy)).2 (hs y (List.mem_cons_of_mem _ hy))
    have h2 := List.length_erase_of_mem hx
    have h3 := List.length_pos_of_mem hx
    rw [List.length_cons]
    omega
theorem least_len (l : List (List UInt8)) : (leastL l).length ≤ l.length := nodup_len _ _ (asc_nodup (least_is l).1) fun x hx => least_sub hx
theorem least_right {l : List (List UInt8)} (h : right9 l = true) : right9 (leastL l) = true := by
  obtain ⟨h1, h2⟩ := right_all h
  unfold right9
  rw [Bool.and_eq_true, List.all_eq_true]
  exact ⟨decide_eq_true (Nat.le_trans (least_len l) h1), fun x hx => h2 x (least_sub hx)⟩
theorem least_again (l : List (List UInt8)) : leastL (leastL l) = leastL l := by
  refine (least_unique (l := leastL l) ⟨(least_is l).1, fun p => ⟨fun hp => ⟨hp, ?_⟩, fun h => h.1⟩⟩).symm
  have hn := (((least_is l).2 p).1 hp).2
  unfold needed at hn ⊢
  rw [List.all_eq_true] at hn ⊢
  exact fun x hx => hn x (least_sub hx)
theorem needed_same {l m : List (List UInt8)} (h : ∀ x, x ∈ l ↔ x ∈ m) (p : List UInt8) : needed l p = needed m p := by
  unfold needed
  rw [Bool.eq_iff_iff, List.all_eq_true, List.all_eq_true]
  exact ⟨fun g x hx => g x ((h x).2 hx), fun g x hx => g x ((h x).1 hx)⟩
theorem least_same {l m : List (List UInt8)} (h : ∀ x, x ∈ l ↔ x ∈ m) : leastL l = leastL m :=
  least_unique ⟨(least_is l).1, fun p => by rw [(least_is l).2 p, h p, needed_same h p]⟩
theorem mat_trans9 {p q s : List UInt8} (h1 : covT p q = true) (h2 : matT q s = true) : matT p s = true := by
  rw [mat_cov, Bool.and_eq_true] at h2 ⊢
  exact ⟨h2.1, cov_trans9 h1 h2.2⟩
theorem any_least {l : List (List UInt8)} (hl : ∀ x ∈ l, patP x = true) (s : List UInt8) : ((leastL l).any fun x => matT x s) = l.any fun x => matT x s := by
  rw [Bool.eq_iff_iff, List.any_eq_true, List.any_eq_true]
  constructor
  · rintro ⟨x, hx, h⟩; exact ⟨x, least_sub hx, h⟩
  · rintro ⟨x, hx, h⟩
    obtain ⟨m, hm, hc⟩ := covered l hl _ x hx (Nat.le_refl _)
    exact ⟨m, hm, mat_trans9 hc h⟩
theorem has_least {l : List (List UInt8)} (h : right9 l = true) (s : List UInt8) : hasF (leastL l) s = hasF l s := by
  unfold hasF
  rw [any_least (right_all h).2, h, least_right h]
theorem cov_least {l : List (List UInt8)} (h : right9 l = true) : covF (leastL l) l = true := by
  unfold covF
  rw [h, least_right h]
  rw [Bool.and_eq_true, List.all_eq_true]
  refine ⟨fun y hy => ?_, rfl⟩
  rw [List.any_eq_true]
  exact covered l (right_all h).2 _ y hy (Nat.le_refl _)
theorem cov_least' {l : List (List UInt8)} (h : right9 l = true) : covF l (leastL l) = true := by
  unfold covF
  rw [h, least_right h]
  rw [Bool.and_eq_true, List.all_eq_true]
  refine ⟨fun y hy => ?_, rfl⟩
  rw [List.any_eq_true]
  exact ⟨y, least_sub hy, cov_self9 ((right_all h).2 y (least_sub hy))⟩
/-- What a filter has, each one that covers it has, too. -/
theorem cov_has {a b : List (List UInt8)} {s : List UInt8} (h : covF a b = true) (g : hasF b s = true) : hasF a s = true := by
  unfold covF at h
  unfold hasF at g ⊢
  rw [Bool.and_eq_true, List.all_eq_true] at h
  rw [Bool.and_eq_true, List.any_eq_true] at g
  obtain ⟨y, hy, hm⟩ := g.1
  have h1 := h.1 y hy
  rw [List.any_eq_true] at h1
  obtain ⟨x, hx, hc⟩ := h1
  have hr := (Bool.and_eq_true _ _).mp h.2
  rw [Bool.and_eq_true, List.any_eq_true]
  exact ⟨⟨x, hx, mat_trans9 hc hm⟩, hr.1⟩
/-- Two that have one stream have something in common. -/
theorem has_meet {a b : List (List UInt8)} {s : List UInt8} (h : hasF a s = true) (g : hasF b s = true) : metF a b = true := by
  unfold hasF at h g
  unfold metF
  rw [Bool.and_eq_true, List.any_eq_true] at h g
  obtain ⟨⟨x, hx, hxm⟩, hr⟩ := h
  obtain ⟨⟨y, hy, hym⟩, hr'⟩ := g
  rw [Bool.and_eq_true, List.any_eq_true, hr, hr']
  refine ⟨⟨y, hy, ?_⟩, rfl⟩
  rw [List.any_eq_true]
  refine ⟨x, hx, ?_⟩
  rw [mat_cov, Bool.and_eq_true] at hxm hym
  obtain ⟨a1, a2, a3⟩ := cov_parts hxm.2
  obtain ⟨b1, b2, b3⟩ := cov_parts hym.2
  unfold metT
  rw [a1, b1, meets_both _ _ _ (pat_all a1).2.1 (pat_all b1).2.1 a3 b3]; rfl
theorem any_least_append (s : List UInt8) (l : List (List UInt8)) (hl : ∀ x ∈ l, patP x = true) (hr : right9 (leastL l) = true) : hasF (leastL l) s = l.any fun x => matT x s := by
  unfold hasF
  rw [any_least hl, hr, Bool.and_true]
end Go.Proofs.YtebglkpejdoggaaGreat.P8

namespace Go.Proofs.YtebglkpejdoggaaGreat.P8
open Go Go.RowKit Go.Shelf Go.Proofs Go.Proofs.YtebglkpejdoggaaGreat.B Go.Proofs.YtebglkpejdoggaaGreat.K
set_option linter.unusedVariables false
set_option maxRecDepth 100000

/-- A list of texts in memory. -/
def Ts (w : World) (v : Value) (l : List (List UInt8)) : Prop := Sl w v (l.map sv)
theorem Ts.below {w w' : World} {v : Value} {l : List (List UInt8)} (h : Ts w v l) (hb : Below w.heap.size w w') : Ts w' v l := Sl.below h hb
theorem Ts.open {w : World} {v : Value} {l : List (List UInt8)} (h : Ts w v l) : ∃ a cap, v = .slice a l.length cap ∧ ∀ (j : Nat) x, l[j]? = some x → ∃ b off, a = some ⟨b, off, none⟩ ∧ w.cell? ⟨b, off + j, none⟩ = some (.string (str x)) := by
  obtain ⟨a, cap, e, hc⟩ := h
  rw [List.length_map] at e
  exact ⟨a, cap, e, fun j x hx => hc j (sv x) (by rw [List.getElem?_map, hx]; rfl)⟩
theorem cell_b {w w' : World} {b o : Nat} {u : Value} (hb : Below w.heap.size w w') (h : w.cell? ⟨b, o, none⟩ = some u) : w'.cell? ⟨b, o, none⟩ = some u :=
  (hb.cell (p := ⟨b, o, none⟩) (World.block_lt_of_cell? w _ h)).trans h

/-- Is a text in a list? -/
def inL (l : List (List UInt8)) (s : List UInt8) : Bool := l.contains s
/-- The first that is no pattern. -/
def firstBad9 : List (List UInt8) → Nat → Option Nat
  | [], _ => none
  | x :: l, k => if patP x then firstBad9 l (k + 1) else some k
def check9 (l : List (List UInt8)) : Int × Int := if 8 < l.length then (0, 4) else match firstBad9 l 0 with
  | some k => ((k : Int), 6)
  | none => (0, 0)
theorem firstBad_drop {l : List (List UInt8)} {k : Nat} {x : List UInt8} (h : l[k]? = some x) : firstBad9 (l.drop k) k = if patP x then firstBad9 (l.drop (k + 1)) (k + 1) else some k := by
  obtain ⟨hlt, rfl⟩ := List.getElem?_eq_some_iff.1 h
  rw [List.drop_eq_getElem_cons hlt]; rfl
theorem firstBad_none : ∀ (l : List (List UInt8)) (k : Nat), firstBad9 l k = none ↔ l.all patP = true
  | [], k => by simp [firstBad9]
  | x :: l, k => by
    unfold firstBad9
    cases hx : patP x with
    | true => simp [hx, firstBad_none l (k + 1)]
    | false => simp [hx]
theorem check9_right (l : List (List UInt8)) : ((check9 l).2 = 0) ↔ right9 l = true := by
  unfold check9 right9
  by_cases h : 8 < l.length
  · rw [if_pos h]
    simp; omega
  · rw [if_neg h]
    cases hf : firstBad9 l 0 with
    | none => simp [(firstBad_none l 0).1 hf]; omega
    | some k =>
      have : ¬ l.all patP = true := fun e => by rw [(firstBad_none l 0).2 e] at hf; cases hf
      simp only [Bool.not_eq_true] at this
      simp [this]

theorem ret_ii {a a' b b' : Int} (h : a = a') (h' : b = b') : Ending.returned (.tuple #[.int .i64 a, .int .i64 b]) = .returned (.tuple #[.int .i64 a', .int .i64 b']) := by rw [h, h']

set_option maxHeartbeats 1000000 in
theorem refCheck9_any (l : List (List UInt8)) (v : Value) (w : World) (h : Ts w v l) (hl : ∀ x ∈ l, x.length ≤ 9223372036854775807) :
    Calls Tryz.prog 46 #[v] w fun e w' => e = .returned (.tuple #[.int .i64 (check9 l).1, .int .i64 (check9 l).2]) ∧ Below w.heap.size w w' := by
  obtain ⟨a, cap, rfl, hc⟩ := h.open
  obtain ⟨N, hN⟩ : ∃ N, l.length = N := ⟨_, rfl⟩
  have HC := Lib.hid hc
  have HN := Lib.hid hN
  have HL := Lib.hid hl
  have hck : check9 l = if 8 < N then ((0 : Int), (4 : Int)) else match firstBad9 (l.drop 0) 0 with | some k => ((k : Int), (6 : Int)) | none => ((0 : Int), (0 : Int)) := by unfold check9; rw [hN]; rfl
  rw [hN]
  clear hc hl h hN
  by_cases h8 : 8 < N
  · have h8I : (8 : Int) < (N : Int) := by omega
    rw [if_pos h8] at hck
    have HK := Lib.hid hck
    clear hck h8
    go_enter Tryz.func46, Tryz.ntmps46
    go_wp2_with fail
    go_ret2
    exact ⟨ret_ii (by rw [HK.out]) (by rw [HK.out]), Below.refl _ _⟩
  · have h8I : ¬ (8 : Int) < (N : Int) := by omega
    rw [if_neg h8] at hck
    have HK := Lib.hid hck
    have H8 := Lib.hid h8
    clear hck h8
    go_enter Tryz.func46, Tryz.ntmps46
    go_wp2_with fail
    go_loopw [4] (fun i wr => ∃ K : Nat, i = .int .i64 (K : Int) ∧ K ≤ N ∧ Hid (firstBad9 (l.drop 0) 0 = firstBad9 (l.drop K) K ∧ Below w.heap.size w wr)) (fun i _ => N - (intOf i).toNat)
    case atStart => exact ⟨0, rfl, Nat.zero_le _, Lib.hid ⟨rfl, Below.refl _ _⟩⟩
    case round =>
      obtain ⟨K, rfl, hK, HJ⟩ := hrel
      by_cases hlt : K < N
      · have hltI : (K : Int) < (N : Int) := by omega
        have hk0 : 0 ≤ (K : Int) := by omega
        have hw1 : IntKind.i64.wrap ((K : Int) + 1) = (K : Int) + 1 := IntWalk.i64_in _ (by have := H8.out; omega)
        obtain ⟨x, hx⟩ : ∃ x, l[K]? = some x := ⟨_, List.getElem?_eq_getElem (by rw [HN.out]; exact hlt)⟩
        obtain ⟨b, off, rfl, hcell⟩ := HC.out K x hx
        have hc1 := cell_b HJ.out.2 hcell
        have hd := HJ.out.1.trans (firstBad_drop hx)
        have HP := Lib.hid (fun W => refPattern_any x (HL.out x (List.mem_of_getElem? hx)) W)
        obtain ⟨p, hp⟩ : ∃ p, patP x = p := ⟨_, rfl⟩
        rw [hp] at HP hd
        have HD := Lib.hid hd
        clear hd hp hcell hx
        cases p with
        | true =>
          go_wp2_with (go_at_call 90; refine (HP.out _).mono ?_; rintro _ w1 ⟨rfl, hb1⟩; have HB1 := Lib.hid hb1; clear hb1)
          go_roundw
          case rel => exact ⟨K + 1, by go_num, by omega, Lib.hid ⟨HD.out, HJ.out.2.trans (HB1.out.mono HJ.out.2.size)⟩⟩
          case measure => simp [intOf]; omega
        | false =>
          go_wp2_with (go_at_call 90; refine (HP.out _).mono ?_; rintro _ w1 ⟨rfl, hb1⟩; have HB1 := Lib.hid hb1; clear hb1)
          go_ret2
          have hd := HD.out
          simp only [Bool.false_eq_true, if_false] at hd
          exact ⟨ret_ii (by rw [HK.out, hd]) (by rw [HK.out, hd]), HJ.out.2.trans (HB1.out.mono HJ.out.2.size)⟩
      · have hltI : ¬ (K : Int) < (N : Int) := by omega
        have hd := HJ.out.1
        rw [List.drop_of_length_le (i := K) (by rw [HN.out]; omega)] at hd
        have HD := Lib.hid hd
        clear hd
        go_wp2_with fail
        go_ret2
        exact ⟨ret_ii (by rw [HK.out, HD.out]; rfl) (by rw [HK.out, HD.out]; rfl), HJ.out.2⟩

theorem refRight9_any (l : List (List UInt8)) (v : Value) (w : World) (h : Ts w v l) (hl : ∀ x ∈ l, x.length ≤ 9223372036854775807) :
    Calls Tryz.prog 15 #[v] w fun e w' => e = .returned (.bool (right9 l)) ∧ Below w.heap.size w w' := by
  have HK := Lib.hid (refCheck9_any l v w h hl)
  have hr := check9_right l
  obtain ⟨a, cap, rfl, -⟩ := h.open
  obtain ⟨N, hN⟩ : ∃ N, l.length = N := ⟨_, rfl⟩
  rw [hN] at HK ⊢
  obtain ⟨⟨k, e⟩, hke⟩ : ∃ c, check9 l = c := ⟨_, rfl⟩
  rw [hke] at HK hr
  have he : right9 l = (e == 0) := by
    rw [Bool.eq_iff_iff, beq_iff_eq]
    exact hr.symm
  have HE := Lib.hid he
  clear hr hke hN h he hl
  go_enter Tryz.func15, Tryz.ntmps15
  go_wp2_with (go_at_call 46; refine HK.out.mono ?_; rintro _ w1 ⟨rfl, hb1⟩; have HB1 := Lib.hid hb1; clear hb1)
  go_ret
  exact ⟨by rw [HE.out]; rfl, HB1.out⟩

theorem needed_drop {l m : List (List UInt8)} {p x : List UInt8} {K : Nat} (h : m[K]? = some x) : ((m.drop K).all fun x => x == p || !covT x p) = ((x == p || !covT x p) && (m.drop (K + 1)).all fun x => x == p || !covT x p) := by
  obtain ⟨hlt, rfl⟩ := List.getElem?_eq_some_iff.1 h
  rw [List.drop_eq_getElem_cons hlt, List.all_cons]
theorem all_drop {X : Type} {m : List X} {x : X} {K : Nat} (f : X → Bool) (h : m[K]? = some x) : (m.drop K).all f = (f x && (m.drop (K + 1)).all f) := by
  obtain ⟨hlt, rfl⟩ := List.getElem?_eq_some_iff.1 h
  rw [List.drop_eq_getElem_cons hlt, List.all_cons]
theorem any_drop {X : Type} {m : List X} {x : X} {K : Nat} (f : X → Bool) (h : m[K]? = some x) : (m.drop K).any f = (f x || (m.drop (K + 1)).any f) := by
  obtain ⟨hlt, rfl⟩ := List.getElem?_eq_some_iff.1 h
  rw [List.drop_eq_getElem_cons hlt, List.any_cons]

end Go.Proofs.YtebglkpejdoggaaGreat.P8
