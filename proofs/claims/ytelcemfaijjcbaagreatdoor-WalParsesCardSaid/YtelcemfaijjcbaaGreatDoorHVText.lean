/-
  Plain mathematics: texts and lists laid as bytes. No program is named here.
  Plain mathematics: there and back. No program is named here.
  Layer 13, plainly: a record's bytes as the program reads them: a text of at most 4096 bytes, opened, a number, and what is behind.
  Contracts: texts laid.
-/
import Derived.Test.YtelcemfaijjcbaaGreatDoorHVRdWalk
import Derived.Test.YtelcemfaijjcbaaGreatDoorHVRdText
import Derived.Test.YtelcemfaijjcbaaGreatDoorHP13Pm
namespace Go.Proofs.YtelcemfaijjcbaaGreatDoor.V
open Go

/-- A text's bytes, or that it is too big. -/
def textOf (l : List UInt8) : List UInt8 × Int := if 4096 < l.length then ([], 4) else (num l.length ++ l, 0)
def numOf (n : Int) : List UInt8 × Int := (num n, 0)
def comb (acc : List UInt8) (q : List UInt8 × Int) : List UInt8 × Int := if q.2 ≠ 0 then ([], q.2) else (acc ++ q.1, 0)
def layAll {α : Type} (item : α → List UInt8 × Int) : List α → List UInt8 × Int
  | [] => ([], 0)
  | x :: r => if (item x).2 ≠ 0 then ([], (item x).2) else comb (item x).1 (layAll item r)
/-- A list's bytes. -/
def layList {α : Type} (item : α → List UInt8 × Int) (l : List α) : List UInt8 × Int := if 256 < l.length then ([], 4) else comb (num l.length) (layAll item l)

theorem comb_comb (a b : List UInt8) (q : List UInt8 × Int) : comb a (comb b q) = comb (a ++ b) q := by
  unfold comb
  by_cases h : q.2 = 0 <;> simp [h]
theorem comb_nil (a : List UInt8) : comb a ([], 0) = (a, 0) := by simp [comb]
theorem comb_err (a : List UInt8) {e : Int} (h : e ≠ 0) : comb a ([], e) = ([], e) := by simp [comb, h]
theorem comb_id (q : List UInt8 × Int) (h : q.2 ≠ 0 → q = ([], q.2)) : comb [] q = q := by
  unfold comb
  by_cases h0 : q.2 = 0
  · rw [if_neg (by simp [h0])]; obtain ⟨l, e⟩ := q; simp at h0 ⊢; exact h0.symm
  · rw [if_pos h0]; exact (h h0).symm
theorem layAll_zero {α : Type} (item : α → List UInt8 × Int) (l : List α) : (layAll item l).2 ≠ 0 → layAll item l = ([], (layAll item l).2) := by
  cases l with
  | nil => intro h; exact absurd rfl h
  | cons x r =>
    simp only [layAll]
    intro h
    split
    · rfl
    · rename_i h1
      simp only [h1, if_false] at h ⊢
      unfold comb at h ⊢
      split
      · rfl
      · rename_i h2; simp [h2] at h
theorem layAll_end {α : Type} (item : α → List UInt8 × Int) (l : List α) (k : Nat) (h : l.length ≤ k) : layAll item (l.drop k) = ([], 0) := by
  rw [List.drop_eq_nil_of_le h]; rfl
theorem layAll_next {α : Type} (item : α → List UInt8 × Int) (l : List α) (k : Nat) {x : α} {b : List UInt8} (h : l[k]? = some x) (hx : item x = (b, 0)) :
    layAll item (l.drop k) = comb b (layAll item (l.drop (k + 1))) := by
  obtain ⟨hk, rfl⟩ := List.getElem?_eq_some_iff.1 h
  rw [List.drop_eq_getElem_cons hk]
  simp [layAll, hx]
theorem layAll_err {α : Type} (item : α → List UInt8 × Int) (l : List α) (k : Nat) {x : α} {b : List UInt8} {e : Int} (h : l[k]? = some x) (hx : item x = (b, e)) (he : e ≠ 0) :
    layAll item (l.drop k) = ([], e) := by
  obtain ⟨hk, rfl⟩ := List.getElem?_eq_some_iff.1 h
  rw [List.drop_eq_getElem_cons hk]
  simp [layAll, hx, he]
theorem textOf_len (l : List UInt8) (h : l.length ≤ 9223372036854775807) : (textOf l).1.length ≤ 4106 := by
  unfold textOf
  split
  · simp
  · have := num_len l.length (by omega) (by omega)
    simp only [List.length_append]
    omega

end Go.Proofs.YtelcemfaijjcbaaGreatDoor.V

namespace Go.Proofs.YtelcemfaijjcbaaGreatDoor.V
open Go

/-! ### What was laid is read as it was -/

theorem drop_left (a b : List UInt8) : (a ++ b).drop a.length = b := by simp

theorem rdAt_num (a b : List UInt8) (n : Int) (h0 : -9223372036854775808 ≤ n) (h1 : n ≤ 9223372036854775807) :
    rdAt (a ++ (num n ++ b)) a.length = (n, (a.length : Int) + ((num n).length : Int), 0) := by
  have hg := rd_good (num n) b (good_uvarint _) (by unfold num; rw [val_uvarint]; exact Lib.zigzag_lt h0 h1)
  rw [rdAt_in _ _ (by simp), drop_left, hg]
  simp only [if_true]
  have : unzz (val (num n)) = n := by unfold num; rw [val_uvarint, unzz_zigzag]
  rw [this]

theorem count_num (a b : List UInt8) (n : Nat) (most : Int) (h : (n : Int) ≤ most) (hm : (n : Int) ≤ 9223372036854775807) : count (a ++ (num n ++ b)) a.length most = ((n : Int), (a.length : Int) + ((num n).length : Int), 0) := by
  unfold count
  rw [rdAt_num a b n (by omega) hm]
  unfold countOf
  rw [if_neg (by simp), if_neg (by simp <;> omega), if_neg (by simp <;> omega)]

theorem txt_text (a b l : List UInt8) (h : l.length ≤ 4096) : txt (a ++ ((num l.length ++ l) ++ b)) a.length = (l, (a.length : Int) + ((num l.length ++ l).length : Int), 0) := by
  unfold txt
  have e : a ++ ((num l.length ++ l) ++ b) = a ++ (num l.length ++ (l ++ b)) := by simp [List.append_assoc]
  rw [e, count_num a (l ++ b) l.length 4096 (by omega) (by omega)]
  unfold txtOf
  rw [if_neg (by simp), if_neg (by simp; omega)]
  have e2 : ((a.length : Int) + ((num l.length).length : Int)).toNat = (a ++ num l.length).length := by rw [List.length_append]; omega
  simp only [e2]
  rw [show a ++ (num ↑l.length ++ (l ++ b)) = (a ++ num ↑l.length) ++ (l ++ b) by simp [List.append_assoc], drop_left]
  simp
  omega

theorem items_back {α : Type} (item : List UInt8 → Int → α × Int × Int) (lay : α → List UInt8 × Int)
    (ok : α → Prop) (hit : ∀ x b, ok x → lay x = (b, 0) → ∀ A B, item (A ++ (b ++ B)) A.length = (x, (A.length : Int) + (b.length : Int), 0)) :
    ∀ (xs : List α) (t : List UInt8), (∀ x ∈ xs, ok x) → layAll lay xs = (t, 0) → ∀ A B, items (item (A ++ (t ++ B))) xs.length A.length = (xs, (A.length : Int) + (t.length : Int), 0)
  | [], t, _, h, A, B => by
    simp [layAll] at h
    subst h
    simp [items]
  | x :: r, t, hok, h, A, B => by
    obtain ⟨⟨b, e⟩, hb⟩ : ∃ q, lay x = q := ⟨_, rfl⟩
    obtain ⟨⟨t', e'⟩, ht'⟩ : ∃ q, layAll lay r = q := ⟨_, rfl⟩
    simp only [layAll, hb, ht'] at h
    by_cases he : e = 0
    · subst he
      by_cases he' : e' = 0
      · subst he'
        simp [comb] at h
        subst h
        have h1 := hit x b (hok x List.mem_cons_self) hb A (t' ++ B)
        have h2 := items_back item lay ok hit r t' (fun y hy => hok y (List.mem_cons_of_mem _ hy)) ht' (A ++ b) B
        have e1 : A ++ (b ++ t' ++ B) = A ++ (b ++ (t' ++ B)) := by simp [List.append_assoc]
        have e2 : A ++ (b ++ t' ++ B) = (A ++ b) ++ (t' ++ B) := by simp [List.append_assoc]
        rw [← e1] at h1
        rw [← e2] at h2
        have e3 : ((A ++ b).length : Int) = (A.length : Int) + (b.length : Int) := by rw [List.length_append]; omega
        rw [e3] at h2
        rw [List.length_cons, items_next _ _ _ h1, h2]
        simp [app]
        omega
      · simp [comb, he'] at h
    · simp [he] at h

theorem layList_ok {α : Type} (lay : α → List UInt8 × Int) (xs : List α) {t : List UInt8} (h : layList lay xs = (t, 0)) : xs.length ≤ 256 ∧ ∃ t', layAll lay xs = (t', 0) ∧ t = num xs.length ++ t' := by
  unfold layList at h
  by_cases hl : 256 < xs.length
  · rw [if_pos hl] at h; simp at h
  · rw [if_neg hl] at h
    refine ⟨by omega, ?_⟩
    obtain ⟨⟨t', e⟩, ht⟩ : ∃ q, layAll lay xs = q := ⟨_, rfl⟩
    rw [ht] at h
    by_cases he : e = 0
    · subst he
      simp [comb] at h
      exact ⟨t', ht, h.symm⟩
    · simp [comb, he] at h

theorem list_back {α : Type} (item : List UInt8 → Int → α × Int × Int) (lay : α → List UInt8 × Int)
    (ok : α → Prop) (hit : ∀ x b, ok x → lay x = (b, 0) → ∀ A B, item (A ++ (b ++ B)) A.length = (x, (A.length : Int) + (b.length : Int), 0)) (xs : List α) (t : List UInt8) (hok : ∀ x ∈ xs, ok x) (h : layList lay xs = (t, 0)) (A B : List UInt8) :
    listOf (item (A ++ (t ++ B))) (count (A ++ (t ++ B)) A.length 256) = (xs, (A.length : Int) + (t.length : Int), 0) := by
  obtain ⟨hl, t', ht, rfl⟩ := layList_ok lay xs h
  have e1 : A ++ (num xs.length ++ t' ++ B) = A ++ (num xs.length ++ (t' ++ B)) := by simp [List.append_assoc]
  have e2 : A ++ (num xs.length ++ t' ++ B) = (A ++ num xs.length) ++ (t' ++ B) := by simp [List.append_assoc]
  have hc := count_num A (t' ++ B) xs.length 256 (by omega) (by omega)
  rw [← e1] at hc
  rw [hc, show listOf (item (A ++ (num ↑xs.length ++ t' ++ B))) (((xs.length : Nat) : Int), (A.length : Int) + ((num xs.length).length : Int), 0) = items (item (A ++ (num ↑xs.length ++ t' ++ B))) xs.length ((A.length : Int) + ((num xs.length).length : Int)) by simp [listOf]]
  have hi := items_back item lay ok hit xs t' hok ht (A ++ num xs.length) B
  rw [← e2] at hi
  have e3 : ((A ++ num xs.length).length : Int) = (A.length : Int) + ((num xs.length).length : Int) := by rw [List.length_append]; omega
  rw [e3] at hi
  rw [hi, List.length_append]
  congr 2
  omega

theorem nums_back (xs : List Int) (hwf : ∀ x ∈ xs, -9223372036854775808 ≤ x ∧ x ≤ 9223372036854775807) (t : List UInt8) (h : layList numOf xs = (t, 0)) (A B : List UInt8) :
    nums (A ++ (t ++ B)) A.length = (xs, (A.length : Int) + (t.length : Int), 0) := by
  unfold nums
  refine list_back (fun s => rdAt s) numOf (fun x => -9223372036854775808 ≤ x ∧ x ≤ 9223372036854775807) (fun x b hx hb A B => ?_) xs t hwf h A B
  simp only [numOf, Prod.mk.injEq, and_true] at hb
  subst hb
  exact rdAt_num A B x hx.1 hx.2

theorem txts_back (xs : List (List UInt8)) (t : List UInt8) (h : layList textOf xs = (t, 0)) (A B : List UInt8) :
    txts (A ++ (t ++ B)) A.length = (xs, (A.length : Int) + (t.length : Int), 0) := by
  unfold txts
  refine list_back (fun s => txt s) textOf (fun _ => True) (fun x b _ hb A B => ?_) xs t (fun _ _ => trivial) h A B
  unfold textOf at hb
  by_cases hl : 4096 < x.length
  · rw [if_pos hl] at hb; simp at hb
  · rw [if_neg hl] at hb
    simp only [Prod.mk.injEq, and_true] at hb
    subst hb
    exact txt_text A B x (by omega)

theorem app_err' {α : Type} (a : List α) (r : List α × Int × Int) (h : r.2.2 ≠ 0) : app a r = ([], 0, r.2.2) := by simp [app, h]

/-! ### What is read is laid as the very bytes -/

/-- From one place to another. -/
def cut (s : List UInt8) (p q : Int) : List UInt8 := (s.drop p.toNat).take (q - p).toNat

theorem cut_cut (s : List UInt8) {p q r : Int} (h0 : 0 ≤ p) (h1 : p ≤ q) (h2 : q ≤ r) : cut s p q ++ cut s q r = cut s p r := by
  obtain ⟨a, rfl⟩ := Int.eq_ofNat_of_zero_le h0
  obtain ⟨b, rfl⟩ := Int.eq_ofNat_of_zero_le (show 0 ≤ q by omega)
  obtain ⟨c, rfl⟩ := Int.eq_ofNat_of_zero_le (show 0 ≤ r by omega)
  unfold cut
  rw [show ((b : Int) - (a : Int)).toNat = b - a by omega, show ((c : Int) - (b : Int)).toNat = c - b by omega, show ((c : Int) - (a : Int)).toNat = (b - a) + (c - b) by omega]
  rw [List.take_add, List.drop_drop]
  simp only [Int.toNat_natCast]
  rw [show a + (b - a) = b by omega]
theorem cut_self (s : List UInt8) (p : Int) : cut s p p = [] := by unfold cut; simp
theorem cut_len (s : List UInt8) {p q : Int} (h0 : 0 ≤ p) (h1 : p ≤ q) (h2 : q ≤ s.length) : ((cut s p q).length : Int) = q - p := by
  unfold cut
  rw [List.length_take, List.length_drop]
  omega

theorem num_once (s : List UInt8) (p : Int) {n q : Int} (h : rdAt s p = (n, q, 0)) : num n = cut s p q := by
  obtain ⟨h0, h1, h2, h3, hn, hq, hr⟩ := rdAt_ok s p h
  obtain ⟨hle, hg, hv, _, _, _⟩ := rd_ok _ hr
  unfold num cut
  rw [hn, zigzag_unzz, hv, uvarint_val _ hg, hq, show (p + ((rd (s.drop p.toNat)).2.2 : Int) - p).toNat = (rd (s.drop p.toNat)).2.2 by omega]

theorem text_once (s : List UInt8) (p : Int) {l : List UInt8} {q : Int} (h : txt s p = (l, q, 0)) : textOf l = (cut s p q, 0) ∧ 0 ≤ p ∧ p ≤ q ∧ q ≤ s.length := by
  unfold txt at h
  obtain ⟨⟨n, a, e⟩, hc⟩ : ∃ t, count s p 4096 = t := ⟨_, rfl⟩
  rw [hc] at h
  unfold txtOf at h
  by_cases he : e = 0
  · subst he
    obtain ⟨c1, c2, c3, c4, c5, hr⟩ := count_ok s p 4096 hc
    have hok := rdAt_ok s p hr
    rw [if_neg (by simp)] at h
    by_cases hs : (s.length : Int) - a < n
    · rw [if_pos hs] at h; simp at h
    · rw [if_neg hs] at h
      simp only [Prod.mk.injEq, and_true] at h
      obtain ⟨hl, hq⟩ := h
      have hlen : (l.length : Int) = n := by rw [← hl, List.length_take, List.length_drop]; omega
      have hl2 : l = cut s a q := by unfold cut; rw [← hl, ← hq]; congr 1; omega
      refine ⟨?_, hok.1, by omega, by omega⟩
      unfold textOf
      rw [if_neg (by omega), hlen, num_once s p hr]
      congr 1
      rw [hl2]
      exact cut_cut s hok.1 (by omega) (by omega)
  · rw [if_pos he] at h; simp at h; exact absurd h.2.2 he

theorem items_once {α : Type} (item : Int → α × Int × Int) (lay : α → List UInt8 × Int) (s : List UInt8)
    (hit : ∀ p x q, item p = (x, q, 0) → lay x = (cut s p q, 0) ∧ 0 ≤ p ∧ p ≤ q ∧ q ≤ s.length) :
    ∀ (k : Nat) (p : Int) (xs : List α) (q : Int), 0 ≤ p → p ≤ s.length → items item k p = (xs, q, 0) → layAll lay xs = (cut s p q, 0) ∧ p ≤ q ∧ q ≤ s.length ∧ xs.length = k
  | 0, p, xs, q, h0, h1, h => by
    simp only [items, Prod.mk.injEq, and_true] at h
    obtain ⟨rfl, rfl⟩ := h
    exact ⟨by rw [cut_self]; rfl, Int.le_refl _, h1, rfl⟩
  | k + 1, p, xs, q, h0, h1, h => by
    obtain ⟨⟨x, p', e⟩, hx⟩ : ∃ t, item p = t := ⟨_, rfl⟩
    by_cases he : e = 0
    · subst he
      obtain ⟨hl, _, i2, i3⟩ := hit p x p' hx
      rw [items_next _ _ _ hx] at h
      obtain ⟨⟨r, q', e'⟩, hr⟩ : ∃ t, items item k p' = t := ⟨_, rfl⟩
      rw [hr] at h
      by_cases he' : e' = 0
      · subst he'
        simp [app] at h
        obtain ⟨rfl, rfl⟩ := h
        obtain ⟨g1, g2, g3, g4⟩ := items_once item lay s hit k p' r q' (by omega) i3 hr
        refine ⟨?_, by omega, g3, by simp [g4]⟩
        simp only [layAll, hl, g1]
        simp [comb, cut_cut s h0 i2 g2]
      · rw [app_err' _ _ (by exact he')] at h; simp at h; exact absurd h.2.2 he'
    · rw [items_err _ _ _ hx he] at h; simp at h; exact absurd h.2.2 he

theorem list_once {α : Type} (item : Int → α × Int × Int) (lay : α → List UInt8 × Int) (s : List UInt8)
    (hit : ∀ p x q, item p = (x, q, 0) → lay x = (cut s p q, 0) ∧ 0 ≤ p ∧ p ≤ q ∧ q ≤ s.length) (p : Int) (xs : List α) (q : Int) (h : listOf item (count s p 256) = (xs, q, 0)) :
    layList lay xs = (cut s p q, 0) ∧ 0 ≤ p ∧ p ≤ q ∧ q ≤ s.length := by
  obtain ⟨⟨n, a, e⟩, hc⟩ : ∃ t, count s p 256 = t := ⟨_, rfl⟩
  rw [hc] at h
  unfold listOf at h
  by_cases he : e = 0
  · subst he
    obtain ⟨c1, c2, c3, c4, c5, hr⟩ := count_ok s p 256 hc
    have hok := rdAt_ok s p hr
    rw [if_neg (by simp)] at h
    obtain ⟨g1, g2, g3, g4⟩ := items_once item lay s hit n.toNat a xs q c4 c5 h
    refine ⟨?_, hok.1, by omega, g3⟩
    unfold layList
    have hn : (xs.length : Int) = n := by omega
    rw [if_neg (by omega), hn, num_once s p hr, g1]
    simp [comb, cut_cut s hok.1 (show p ≤ a by omega) g2]
  · rw [if_pos he] at h; simp at h; exact absurd h.2.2 he

theorem nums_once (s : List UInt8) (p : Int) {xs : List Int} {q : Int} (h : nums s p = (xs, q, 0)) : layList numOf xs = (cut s p q, 0) ∧ 0 ≤ p ∧ p ≤ q ∧ q ≤ s.length :=
  list_once (rdAt s) numOf s (fun p x q hx => by
    have hok := rdAt_ok s p hx
    exact ⟨by unfold numOf; rw [num_once s p hx], hok.1, by omega, hok.2.2.1⟩) p xs q h
theorem txts_once (s : List UInt8) (p : Int) {xs : List (List UInt8)} {q : Int} (h : txts s p = (xs, q, 0)) : layList textOf xs = (cut s p q, 0) ∧ 0 ≤ p ∧ p ≤ q ∧ q ≤ s.length :=
  list_once (txt s) textOf s (fun p _ _ hx => text_once s p hx) p xs q h

theorem items_all {α : Type} (item : Int → α × Int × Int) (ok : α → Prop) (hit : ∀ p x q, item p = (x, q, 0) → ok x) : ∀ (k : Nat) (p : Int) (xs : List α) (q : Int), items item k p = (xs, q, 0) → ∀ x ∈ xs, ok x
  | 0, p, xs, q, h => by
    simp only [items, Prod.mk.injEq] at h
    rw [← h.1]
    simp
  | k + 1, p, xs, q, h => by
    obtain ⟨⟨x, p', e⟩, hx⟩ : ∃ t, item p = t := ⟨_, rfl⟩
    by_cases he : e = 0
    · subst he
      rw [items_next _ _ _ hx] at h
      obtain ⟨⟨r, q', e'⟩, hr⟩ : ∃ t, items item k p' = t := ⟨_, rfl⟩
      rw [hr] at h
      by_cases he' : e' = 0
      · subst he'
        simp [app] at h
        obtain ⟨rfl, rfl⟩ := h
        intro y hy
        rcases List.mem_cons.1 hy with rfl | hy
        · exact hit p _ p' hx
        · exact items_all item ok hit k p' r q' hr y hy
      · rw [app_err' _ _ (by exact he')] at h; simp at h; exact absurd h.2.2 he'
    · rw [items_err _ _ _ hx he] at h; simp at h; exact absurd h.2.2 he

theorem list_all {α : Type} (item : Int → α × Int × Int) (ok : α → Prop) (hit : ∀ p x q, item p = (x, q, 0) → ok x) (c : Int × Int × Int) (xs : List α) (q : Int) (h : listOf item c = (xs, q, 0)) : ∀ x ∈ xs, ok x := by
  unfold listOf at h
  by_cases he : c.2.2 = 0
  · rw [if_neg (by simp [he])] at h
    exact items_all item ok hit _ _ xs q h
  · rw [if_pos he] at h; simp at h; exact absurd h.2.2 he

theorem nums_wf (s : List UInt8) (p : Int) {xs : List Int} {q : Int} (h : nums s p = (xs, q, 0)) : ∀ x ∈ xs, -9223372036854775808 ≤ x ∧ x ≤ 9223372036854775807 :=
  list_all (rdAt s) _ (fun p _ _ hx => rdAt_bounds s p hx) _ xs q h
theorem txts_wf (s : List UInt8) (p : Int) {xs : List (List UInt8)} {q : Int} (h : txts s p = (xs, q, 0)) : ∀ x ∈ xs, x.length ≤ 4096 :=
  list_all (txt s) (fun x => x.length ≤ 4096) (fun p x q hx => by
    have := (text_once s p hx).1
    unfold textOf at this
    by_cases hl : 4096 < x.length
    · rw [if_pos hl] at this; simp at this
    · omega) _ xs q h
theorem list_zero {α : Type} (item : Int → α × Int × Int) (c : Int × Int × Int) {xs : List α} {q e : Int} (h : listOf item c = (xs, q, e)) (he : e ≠ 0) : xs = [] ∧ q = 0 := by
  unfold listOf at h
  by_cases hc : c.2.2 = 0
  · rw [if_neg (by simp [hc])] at h
    have := items_zero item c.1.toNat c.2.1 (by rw [h]; exact he)
    rw [h] at this
    simp at this
    exact this
  · rw [if_pos hc] at h
    simp at h
    exact ⟨h.1, h.2.1.symm⟩

end Go.Proofs.YtelcemfaijjcbaaGreatDoor.V

namespace Go.Proofs.YtelcemfaijjcbaaGreatDoor.C13
open Go Go.RowKit Go.Proofs Go.Proofs.YtelcemfaijjcbaaGreatDoor.B Go.Proofs.YtelcemfaijjcbaaGreatDoor.K
set_option linter.unusedVariables false

structure RecT where
  n : Int
  r : List UInt8
  q : Int
  e : Int
def recT (s : List UInt8) (A : Int) : RecT :=
  if (V.txt s A).2.2 ≠ 0 then ⟨0, [], 0, (V.txt s A).2.2⟩ else
  if (C.openOf (V.txt s A).1).2 ≠ 0 then ⟨0, [], 0, (C.openOf (V.txt s A).1).2⟩ else
  if (V.rdAt (C.openOf (V.txt s A).1).1 0).2.2 ≠ 0 then ⟨0, [], 0, (V.rdAt (C.openOf (V.txt s A).1).1 0).2.2⟩ else
  ⟨(V.rdAt (C.openOf (V.txt s A).1).1 0).1, (C.openOf (V.txt s A).1).1.drop (V.rdAt (C.openOf (V.txt s A).1).1 0).2.1.toNat, (V.txt s A).2.1, 0⟩
theorem open_len (t : List UInt8) : (C.openOf t).1.length ≤ t.length := by
  unfold C.openOf
  split
  · simp
  · split
    · rw [List.length_take]; omega
    · simp
theorem open_ok_len (t : List UInt8) (h : (C.openOf t).2 = 0) : (C.openOf t).1.length + 4 = t.length := by
  unfold C.openOf at h ⊢
  split
  · rename_i h1; rw [if_pos h1] at h; simp at h
  · rename_i h1
    rw [if_neg h1] at h
    split
    · rw [List.length_take]; omega
    · rename_i h2; rw [if_neg h2] at h; simp at h
/-- What the program goes on with is what there is. -/
theorem recT_rec (s : List UInt8) (first : Int) (A : Nat) :
    (((recT s A).e ≠ 0 ∨ (recT s A).n ≠ first ∨ 1024 < (recT s A).r.length) ∧ recAt s first A = none) ∨
    ((recT s A).e = 0 ∧ (recT s A).n = first ∧ (recT s A).r.length ≤ 1024 ∧ recAt s first A = some ((recT s A).r, (recT s A).q.toNat) ∧ (A : Int) < (recT s A).q ∧ (recT s A).q ≤ s.length) := by
  obtain ⟨⟨x, q, e⟩, hr⟩ : ∃ t, V.rdAt s A = t := ⟨_, rfl⟩
  have ht : V.txt s A = V.txtOf s (V.countOf (x, q, e) 4096) := by unfold V.txt V.count; rw [hr]
  unfold V.countOf at ht
  dsimp only at ht
  by_cases he : e = 0
  rotate_left 1
  · left
    rw [if_pos he] at ht
    unfold V.txtOf at ht
    dsimp only at ht
    rw [if_pos he] at ht
    refine ⟨Or.inl ?_, ?_⟩
    · unfold recT; rw [ht, if_pos he]; exact he
    · unfold recAt; rw [hr]; exact if_pos (Or.inl he)
  subst he
  obtain ⟨h0, h1, h2, h3, -⟩ := V.rdAt_ok s A hr
  rw [if_neg (by simp)] at ht
  by_cases hx0 : x < 0
  · left
    rw [if_pos hx0] at ht
    refine ⟨Or.inl ?_, ?_⟩
    · unfold recT; rw [ht]; unfold V.txtOf; simp
    · unfold recAt; rw [hr]; exact if_pos (Or.inr (Or.inl hx0))
  rw [if_neg hx0] at ht
  by_cases hbig : 4096 < x
  · left
    rw [if_pos hbig] at ht
    refine ⟨Or.inl ?_, ?_⟩
    · unfold recT; rw [ht]; unfold V.txtOf; simp
    · unfold recAt
      rw [hr]
      dsimp only
      split
      · rfl
      rename_i hn
      split
      · rfl
      rename_i hn2
      obtain ⟨T, hT⟩ : ∃ T, (s.drop q.toNat).take x.toNat = T := ⟨_, rfl⟩
      rw [hT] at hn2 ⊢
      have hTl : T.length = x.toNat := by rw [← hT, List.length_take, List.length_drop]; omega
      have ho := open_ok_len T (by omega)
      obtain ⟨⟨y, i, g⟩, hy⟩ : ∃ p, V.rdAt (C.openOf T).1 0 = p := ⟨_, rfl⟩
      rw [hy]
      dsimp only
      by_cases hg : g = 0
      · subst hg
        obtain ⟨-, k1, k2, k3, -⟩ := V.rdAt_ok _ 0 hy
        rw [if_pos (Or.inr (Or.inr (by omega)))]
      · rw [if_pos (Or.inl hg)]
  rw [if_neg hbig] at ht
  unfold V.txtOf at ht
  dsimp only at ht
  rw [if_neg (by simp)] at ht
  by_cases hl : (s.length : Int) - q < x
  · left
    rw [if_pos hl] at ht
    refine ⟨Or.inl ?_, ?_⟩
    · unfold recT; rw [ht]; simp
    · unfold recAt; rw [hr]; exact if_pos (Or.inr (Or.inr hl))
  rw [if_neg hl] at ht
  obtain ⟨T, hT⟩ : ∃ T, (s.drop q.toNat).take x.toNat = T := ⟨_, rfl⟩
  rw [hT] at ht
  have hR : recT s A = if (C.openOf T).2 ≠ 0 then ⟨0, [], 0, (C.openOf T).2⟩ else if (V.rdAt (C.openOf T).1 0).2.2 ≠ 0 then ⟨0, [], 0, (V.rdAt (C.openOf T).1 0).2.2⟩ else ⟨(V.rdAt (C.openOf T).1 0).1, (C.openOf T).1.drop (V.rdAt (C.openOf T).1 0).2.1.toNat, q + x, 0⟩ := by
    unfold recT; rw [ht, if_neg (by simp)]
  have hA : recAt s first A = if (C.openOf T).2 ≠ 0 then none else if (V.rdAt (C.openOf T).1 0).2.2 ≠ 0 ∨ (V.rdAt (C.openOf T).1 0).1 ≠ first ∨ 1024 < ((C.openOf T).1.length : Int) - (V.rdAt (C.openOf T).1 0).2.1 then none else some ((C.openOf T).1.drop (V.rdAt (C.openOf T).1 0).2.1.toNat, q.toNat + x.toNat) := by
    unfold recAt
    rw [hr]
    dsimp only
    rw [if_neg (by omega), hT]
  by_cases hf : (C.openOf T).2 = 0
  rotate_left 1
  · left
    rw [if_pos hf] at hR hA
    exact ⟨Or.inl (by rw [hR]; exact hf), hA⟩
  rw [if_neg (by simpa using hf)] at hR hA
  obtain ⟨⟨y, i, g⟩, hy⟩ : ∃ p, V.rdAt (C.openOf T).1 0 = p := ⟨_, rfl⟩
  rw [hy] at hR hA
  dsimp only at hR hA
  by_cases hg : g = 0
  rotate_left 1
  · left
    rw [if_pos hg] at hR
    rw [if_pos (Or.inl hg)] at hA
    exact ⟨Or.inl (by rw [hR]; exact hg), hA⟩
  subst hg
  obtain ⟨-, k1, k2, k3, -⟩ := V.rdAt_ok _ 0 hy
  rw [if_neg (by simp)] at hR
  have hl2 : ((C.openOf T).1.drop i.toNat).length = (C.openOf T).1.length - i.toNat := List.length_drop ..
  by_cases hb : y ≠ first ∨ 1024 < ((C.openOf T).1.length : Int) - i
  · left
    rw [if_pos (Or.inr hb)] at hA
    refine ⟨Or.inr ?_, hA⟩
    rw [hR]
    dsimp only
    rw [hl2]
    rcases hb with h | h
    · exact Or.inl h
    · exact Or.inr (by omega)
  · right
    have hb1 : y = first := by by_cases h : y = first; exact h; exact absurd (Or.inl h) hb
    have hb2 : ¬ 1024 < ((C.openOf T).1.length : Int) - i := fun h => hb (Or.inr h)
    rw [if_neg (by rintro (h | h | h); exact h rfl; exact h hb1; exact hb2 h)] at hA
    rw [hR]
    dsimp only
    rw [hl2]
    exact ⟨rfl, hb1, by omega, by rw [hA]; congr 2; omega, by omega, by omega⟩
/-- What was read of a text is no longer than it. -/
theorem recT_len (s : List UInt8) (A : Int) : (recT s A).r.length ≤ s.length := by
  unfold recT
  split
  · exact Nat.zero_le _
  · split
    · exact Nat.zero_le _
    · split
      · exact Nat.zero_le _
      · dsimp only
        rw [List.length_drop]
        have := open_len (V.txt s A).1
        have h2 : (V.txt s A).1.length ≤ s.length := by
          unfold V.txt V.txtOf
          split
          · simp
          · split
            · simp
            · rw [List.length_take, List.length_drop]; omega
        omega
end Go.Proofs.YtelcemfaijjcbaaGreatDoor.C13

namespace Go.Proofs.YtelcemfaijjcbaaGreatDoor.V
open Go.RowKit

theorem ret_two {a a' : ByteArray} {b b' : Int} (h : a = a') (h' : b = b') : Ending.returned (.tuple #[.string a, .int .i64 b]) = .returned (.tuple #[.string a', .int .i64 b']) := by rw [h, h']

set_option maxHeartbeats 400000 in
theorem text_any (l : List UInt8) (w : World) (hl : l.length ≤ maxLen) :
    Calls Tryz.prog 64 #[.string (str l)] w fun e w' => e = .returned (.tuple #[.string (str (textOf l).1), .int .i64 (textOf l).2]) ∧ Below w.heap.size w w' := by
  have hsz : (str l).size = l.length := str_size l
  have hl' : l.length ≤ 9223372036854775807 := hl
  have HL := Lib.hid hl'; clear hl hl'
  by_cases h : 4096 < l.length
  · have hv : textOf l = ([], 4) := by simp [textOf, h]
    rw [hv]
    have hlt : 4096 < (l.length : Int) := by omega
    clear hv h
    go_enter Tryz.func64, Tryz.ntmps64
    go_wp2_with fail
    go_ret2
    exact ⟨rfl, Below.refl _ _⟩
  · have hv : textOf l = (num l.length ++ l, 0) := by simp [textOf, h]
    rw [hv]
    have hlt : ¬ 4096 < (l.length : Int) := by omega
    have hn : (str (num l.length)).size ≤ 10 := by rw [str_size]; exact num_len _ (by omega) (by have := HL.out; omega)
    have happ := str_append (num l.length) l
    have HAPP := Lib.hid happ; clear happ
    clear hv h
    go_enter Tryz.func64, Tryz.ntmps64
    go_wp2_with (go_at_call 66; refine (number_any _ _ (by omega) (by have := HL.out; omega)).mono ?_; rintro e w1 ⟨rfl, hb⟩)
    go_ret2
    exact ⟨ret_two HAPP.out rfl, hb⟩

end Go.Proofs.YtelcemfaijjcbaaGreatDoor.V
