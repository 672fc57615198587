/-
  Plain mathematics: reading a number's bytes. No program is named here.
-/
import Derived.Test.YtaclkofkajehpaaVMath
namespace Go.Proofs.Ytaclkofkajehpaa.V
open Go

/-- What digits of the base 128 spell, the lowest first. -/
def val : List UInt8 → Nat
  | [] => 0
  | b :: r => b.toNat % 128 + 128 * val r

theorem val_append (a b : List UInt8) : val (a ++ b) = val a + 128 ^ a.length * val b := by
  induction a with
  | nil => simp [val]
  | cons x r ih =>
    simp only [List.cons_append, val, ih, List.length_cons, Nat.pow_succ]
    rw [Nat.mul_add, Nat.mul_comm (128 ^ r.length) 128, Nat.mul_assoc, ← Nat.add_assoc]

theorem val_lt (l : List UInt8) : val l < 128 ^ l.length := by
  induction l with
  | nil => simp [val]
  | cons b r ih =>
    simp only [val, List.length_cons, Nat.pow_succ]
    omega

theorem val_snoc (a : List UInt8) (b : UInt8) : val (a ++ [b]) = val a + 128 ^ a.length * (b.toNat % 128) := by
  rw [val_append]; simp [val]

/-- The way back from 0, 1, 2, 3 .. to 0, -1, 1, -2 .. -/
def unzz (u : Nat) : Int := if u % 2 = 0 then ((u / 2 : Nat) : Int) else -((u / 2 : Nat) : Int) - 1

theorem unzz_zigzag (n : Int) : unzz (Lib.zigzag n) = n := by
  unfold unzz Lib.zigzag
  split <;> split <;> omega
theorem zigzag_unzz (u : Nat) : Lib.zigzag (unzz u) = u := by
  unfold unzz Lib.zigzag
  split <;> split <;> omega

/-- How many bytes from 128 on lead. -/
def lead : List UInt8 → Nat
  | [] => 0
  | b :: r => if 128 ≤ b.toNat then lead r + 1 else 0

theorem lead_le : ∀ l : List UInt8, lead l ≤ l.length
  | [] => Nat.le_refl _
  | b :: r => by
    have := lead_le r
    unfold lead
    split <;> simp <;> omega

theorem lead_of : ∀ (l : List UInt8) (k : Nat), (∀ j (h : j < l.length), j < k → 128 ≤ l[j].toNat) → (∀ h : k < l.length, l[k].toNat < 128) → k ≤ l.length → lead l = k
  | [], k, _, _, h3 => by simp at h3; simp [lead, h3]
  | b :: r, 0, _, h2, _ => by
    have := h2 (by simp)
    simp at this
    simp [lead]; omega
  | b :: r, k + 1, h1, h2, h3 => by
    have hb := h1 0 (by simp) (by omega)
    simp at hb
    have := lead_of r k (fun j hj hk => by have := h1 (j + 1) (by simpa using hj) (by omega); simpa using this) (fun hk => by have := h2 (by simpa using hk); simpa using this) (by simpa using h3)
    simp [lead, hb, this]

theorem lead_ge : ∀ (l : List UInt8) (k : Nat), (∀ j (h : j < l.length), j < k → 128 ≤ l[j].toNat) → k ≤ l.length → k ≤ lead l
  | _, 0, _, _ => Nat.zero_le _
  | [], k + 1, _, h3 => by simp at h3
  | b :: r, k + 1, h1, h3 => by
    have hb := h1 0 (by simp) (by omega)
    simp at hb
    have := lead_ge r k (fun j hj hk => by have := h1 (j + 1) (by simpa using hj) (by omega); simpa using this) (by simpa using h3)
    simp [lead, hb, this]

theorem lead_high : ∀ (l : List UInt8) (j : Nat) (h : j < l.length), j < lead l → 128 ≤ l[j].toNat
  | [], _, h, _ => by simp at h
  | b :: r, 0, _, hj => by
    unfold lead at hj
    split at hj
    · simpa using ‹128 ≤ b.toNat›
    · omega
  | b :: r, j + 1, h, hj => by
    unfold lead at hj
    split at hj
    · simpa using lead_high r j (by simpa using h) (by omega)
    · omega

theorem lead_low : ∀ (l : List UInt8) (h : lead l < l.length), l[lead l].toNat < 128
  | [], h => by simp at h
  | b :: r, h => by
    by_cases hb : 128 ≤ b.toNat
    · have e : lead (b :: r) = lead r + 1 := by simp [lead, hb]
      have := lead_low r (by rw [e] at h; simpa using h)
      simp only [e, List.getElem_cons_succ]
      exact this
    · have e : lead (b :: r) = 0 := by simp [lead, hb]
      simp only [e, List.getElem_cons_zero]
      omega

/-- What stands at a list's head, read as a number: an error's number, what the digits spell, how many bytes. -/
def rd (l : List UInt8) : Nat × Nat × Nat :=
  if 10 ≤ lead l then (6, 0, 0)
  else match l[lead l]? with
    | none => (5, 0, 0)
    | some b => if lead l = 9 ∧ 1 < b.toNat then (6, 0, 0) else if b.toNat = 0 ∧ 0 < lead l then (6, 0, 0) else (0, val (l.take (lead l + 1)), lead l + 1)

/-- .. at a place of a text: the number, the place behind it, the error's number. -/
def rdAt (s : List UInt8) (p : Int) : Int × Int × Int :=
  if p < 0 ∨ (s.length : Int) < p then (0, 0, 3)
  else if (rd (s.drop p.toNat)).1 = 0 then (unzz (rd (s.drop p.toNat)).2.1, p + (rd (s.drop p.toNat)).2.2, 0)
  else (0, 0, (rd (s.drop p.toNat)).1)

/-- The bytes of numbers: all but the last from 128 on, the last below, and not 0 but alone. -/
def good : List UInt8 → Prop
  | [] => False
  | [b] => b.toNat < 128
  | b :: r => 128 ≤ b.toNat ∧ good r ∧ r ≠ [0]

theorem good_pos : ∀ l : List UInt8, good l → l ≠ [0] → 1 ≤ val l
  | [], h, _ => h.elim
  | [b], h, h0 => by
    simp only [good] at h
    simp only [val]
    have : b.toNat ≠ 0 := fun e => h0 (by rw [show b = 0 from UInt8.toNat_inj.1 (by simpa using e)])
    omega
  | b :: c :: r, h, _ => by
    have := good_pos (c :: r) h.2.1 h.2.2
    simp only [val] at this ⊢
    omega

theorem uvarint_val : ∀ l : List UInt8, good l → Lib.uvarint (val l) = l
  | [], h => h.elim
  | [b], h => by
    simp only [good] at h
    have e : val [b] = b.toNat := by simp only [val]; omega
    rw [e, Lib.uvarint_small h]
    simp
  | b :: c :: r, h => by
    have h1 := good_pos (c :: r) h.2.1 h.2.2
    have ih := uvarint_val (c :: r) h.2.1
    have hb := h.1
    have hlt := b.toNat_lt
    have e : val (b :: c :: r) = b.toNat % 128 + 128 * val (c :: r) := rfl
    rw [e, Lib.uvarint_big (by omega)]
    rw [show (b.toNat % 128 + 128 * val (c :: r)) / 128 = val (c :: r) by omega, ih]
    congr 1
    rw [show (b.toNat % 128 + 128 * val (c :: r)) % 128 + 128 = b.toNat by omega]
    simp

theorem toU8 {n : Nat} (h : n < 256) : (n.toUInt8).toNat = n := by simp [Nat.toUInt8, UInt8.toNat_ofNat']; omega

theorem val_uvarint (u : Nat) : val (Lib.uvarint u) = u := by
  induction u using Nat.strongRecOn with
  | _ u ih =>
    by_cases h : u < 128
    · rw [Lib.uvarint_small h]; simp only [val]; rw [toU8 (by omega)]; omega
    · rw [Lib.uvarint_big (by omega)]; simp only [val]; rw [ih (u / 128) (by omega), toU8 (by omega)]; omega

theorem good_uvarint (u : Nat) : good (Lib.uvarint u) := by
  induction u using Nat.strongRecOn with
  | _ u ih =>
    by_cases h : u < 128
    · rw [Lib.uvarint_small h]; simp only [good]; rw [toU8 (by omega)]; omega
    · have hg := ih (u / 128) (by omega)
      rw [Lib.uvarint_big (by omega)]
      have hv := val_uvarint (u / 128)
      cases hr : Lib.uvarint (u / 128) with
      | nil => rw [hr] at hg; exact hg.elim
      | cons c r =>
        rw [hr] at hg hv
        refine ⟨by rw [toU8 (by omega)]; omega, hg, fun e => ?_⟩
        rw [e] at hv
        simp [val] at hv
        omega

theorem good_lead : ∀ p : List UInt8, good p → ∀ rest : List UInt8, lead (p ++ rest) = p.length - 1
  | [], h, _ => h.elim
  | [b], h, rest => by
    simp only [good] at h
    simp [lead]; omega
  | b :: c :: r, h, rest => by
    have := good_lead (c :: r) h.2.1 rest
    simp only [List.cons_append] at this ⊢
    unfold lead
    rw [if_pos h.1, this]
    simp

theorem good_last : ∀ p : List UInt8, good p → p ≠ [0] → ∀ b, p[p.length - 1]? = some b → b.toNat < 128 ∧ b.toNat ≠ 0 ∧ 128 ^ (p.length - 1) * b.toNat ≤ val p
  | [], h, _, _, _ => h.elim
  | [b], h, h0, b', hb => by
    simp at hb
    subst hb
    simp only [good] at h
    have : b.toNat ≠ 0 := fun e => h0 (by rw [show b = 0 from UInt8.toNat_inj.1 (by simpa using e)])
    simp [val]; omega
  | b :: c :: r, h, _, b', hb => by
    have := good_last (c :: r) h.2.1 h.2.2 b' (by simpa using hb)
    refine ⟨this.1, this.2.1, ?_⟩
    have h3 := this.2.2
    simp only [List.length_cons, Nat.add_sub_cancel, val] at h3 ⊢
    rw [Nat.pow_succ, Nat.mul_comm (128 ^ r.length) 128, Nat.mul_assoc]
    omega

theorem rd_good (p rest : List UInt8) (h : good p) (h64 : val p < 18446744073709551616) : rd (p ++ rest) = (0, val p, p.length) := by
  have hl := good_lead p h rest
  have hne : p ≠ [] := fun e => by rw [e] at h; exact h.elim
  have hlen : 1 ≤ p.length := by cases p with | nil => exact (hne rfl).elim | cons => simp
  obtain ⟨b, hb⟩ : ∃ b, p[p.length - 1]? = some b := ⟨_, List.getElem?_eq_getElem (by omega)⟩
  have hget : (p ++ rest)[p.length - 1]? = some b := by rw [List.getElem?_append_left (by omega), hb]
  have htake : (p ++ rest).take (p.length - 1 + 1) = p := by rw [Nat.sub_add_cancel hlen]; simp
  unfold rd
  rw [hl, hget, htake]
  by_cases h0 : p = [0]
  · subst h0
    simp at hb
    subst hb
    simp
  · obtain ⟨h1, h2, h3⟩ := good_last p h h0 b hb
    have hle : p.length ≤ 10 := by
      rcases Nat.lt_or_ge p.length 11 with h | h
      · omega
      · have e : (128 : Nat) ^ 10 ≤ 128 ^ (p.length - 1) := Nat.pow_le_pow_right (by decide) (by omega)
        have e2 : (128 : Nat) ^ (p.length - 1) ≤ 128 ^ (p.length - 1) * b.toNat := Nat.le_mul_of_pos_right _ (by omega)
        have e3 : (128 : Nat) ^ 10 = 1180591620717411303424 := by decide
        omega
    rw [if_neg (by omega)]
    have hn9 : ¬ (p.length - 1 = 9 ∧ 1 < b.toNat) := by
      rintro ⟨e9, hb1⟩
      rw [e9] at h3
      have e3 : (128 : Nat) ^ 9 = 9223372036854775808 := by decide
      rw [e3] at h3
      omega
    simp only
    rw [if_neg hn9, if_neg (by omega), Nat.sub_add_cancel hlen]

theorem good_take (l : List UInt8) (n : Nat) (h1 : ∀ j (h : j < l.length), j < n → 128 ≤ l[j].toNat) (b : UInt8) (hb : l[n]? = some b) (h2 : b.toNat < 128) (h3 : ¬ (b.toNat = 0 ∧ 0 < n)) : good (l.take (n + 1)) := by
  induction n generalizing l with
  | zero =>
    cases l with
    | nil => simp at hb
    | cons x r => simp at hb; subst hb; simpa [good] using h2
  | succ n ih =>
    cases l with
    | nil => simp at hb
    | cons x r =>
      have hx := h1 0 (by simp) (by omega)
      simp at hx hb
      have hg : good (r.take (n + 1)) := by
        by_cases h0 : b.toNat = 0
        · exact absurd ⟨h0, by omega⟩ h3
        · exact ih r (fun j hj hk => by have := h1 (j + 1) (by simpa using hj) (by omega); simpa using this) hb (by omega)
      rw [List.take_succ_cons]
      cases hr : r.take (n + 1) with
      | nil => rw [hr] at hg; exact hg.elim
      | cons c q =>
        refine ⟨hx, hr ▸ hg, fun e => ?_⟩
        rw [e] at hr
        have hb' : (r.take (n + 1))[n]? = some b := by rw [List.getElem?_take_of_lt (by omega)]; exact hb
        rw [hr] at hb'
        cases n with
        | zero => simp at hb'; subst hb'; simp at h3
        | succ n => simp at hb'

theorem rd_ok (l : List UInt8) (h : (rd l).1 = 0) :
    (rd l).2.2 ≤ l.length ∧ good (l.take (rd l).2.2) ∧ (rd l).2.1 = val (l.take (rd l).2.2) ∧ (rd l).2.1 < 18446744073709551616 ∧ (rd l).2.2 ≤ 10 ∧ 1 ≤ (rd l).2.2 := by
  have hle := lead_le l
  have hhi := lead_high l
  have hlo := lead_low l
  unfold rd at h ⊢
  by_cases h10 : 10 ≤ lead l
  · simp [h10] at h
  · simp only [if_neg h10] at h ⊢
    cases hb : l[lead l]? with
    | none => simp [hb] at h
    | some b =>
      simp only [hb] at h ⊢
      obtain ⟨hlt, hbe⟩ := List.getElem?_eq_some_iff.1 hb
      have hb128 : b.toNat < 128 := by rw [← hbe]; exact hlo hlt
      by_cases h9 : lead l = 9 ∧ 1 < b.toNat
      · simp [h9] at h
      · simp only [if_neg h9] at h ⊢
        by_cases h0 : b.toNat = 0 ∧ 0 < lead l
        · simp [h0] at h
        · simp only [if_neg h0]
          refine ⟨by omega, good_take l (lead l) (fun j hj hk => hhi j hj hk) b hb hb128 h0, by simp, ?_, by omega, by omega⟩
          have hsnoc : l.take (lead l + 1) = l.take (lead l) ++ [b] := by rw [List.take_add_one, hb]; rfl
          rw [hsnoc, val_snoc]
          have hv := val_lt (l.take (lead l))
          have hlen : (l.take (lead l)).length = lead l := by simp; omega
          rw [hlen] at hv ⊢
          have hm : b.toNat % 128 = b.toNat := by omega
          rw [hm]
          by_cases h99 : lead l = 9
          · rw [h99] at hv ⊢
            have hb1 : b.toNat ≤ 1 := by omega
            have e : (128 : Nat) ^ 9 = 9223372036854775808 := by decide
            rw [e] at hv ⊢
            have : 9223372036854775808 * b.toNat ≤ 9223372036854775808 * 1 := Nat.mul_le_mul_left _ hb1
            omega
          · have e8 : (128 : Nat) ^ (lead l) ≤ 128 ^ 8 := Nat.pow_le_pow_right (by decide) (by omega)
            have e : (128 : Nat) ^ 8 = 72057594037927936 := by decide
            have : 128 ^ lead l * b.toNat ≤ 128 ^ 8 * 127 := Nat.mul_le_mul e8 (by omega)
            rw [e] at this e8
            omega

theorem size_list (s : ByteArray) : s.size = s.data.toList.length := by rw [Array.length_toList]; rfl

theorem rdAt_in (l : List UInt8) (p : Nat) (h : p ≤ l.length) :
    rdAt l p = if (rd (l.drop p)).1 = 0 then (unzz (rd (l.drop p)).2.1, (p : Int) + (rd (l.drop p)).2.2, 0) else (0, 0, ((rd (l.drop p)).1 : Int)) := by
  unfold rdAt
  rw [if_neg (by omega)]
  simp

theorem byte_at (s : ByteArray) (p k : Nat) (h : p + k < s.size) : ∃ b : Nat, (s[p + k]'h).toNat = b ∧ ∃ c : UInt8, c.toNat = b ∧ (s.data.toList.drop p)[k]? = some c :=
  ⟨_, rfl, s[p + k]'h, rfl, by rw [List.getElem?_drop, List.getElem?_eq_getElem (by rw [← size_list]; exact h)]; rfl⟩

theorem rd_nine (l : List UInt8) (hhi : ∀ j (hj : j < l.length), j < 9 → 128 ≤ l[j].toNat) {b : Nat} (hb : ∃ c : UInt8, c.toNat = b ∧ l[9]? = some c) (h1 : 1 < b) : rd l = (6, 0, 0) := by
  obtain ⟨c, rfl, hc⟩ := hb
  obtain ⟨hlt, hce⟩ := List.getElem?_eq_some_iff.1 hc
  by_cases hc128 : 128 ≤ c.toNat
  · have := lead_ge l 10 (fun j hj hk => by
      by_cases h9 : j = 9
      · subst h9; rw [hce]; exact hc128
      · exact hhi j hj (by omega)) (by omega)
    unfold rd
    rw [if_pos this]
  · have := lead_of l 9 hhi (fun h => by rw [hce]; omega) (by omega)
    unfold rd
    rw [this, if_neg (by decide), hc]
    simp [h1]

theorem rd_end (l : List UInt8) (k : Nat) (hk : k ≤ 9) (hhi : ∀ j (hj : j < l.length), j < k → 128 ≤ l[j].toNat) (hlen : l.length = k) : rd l = (5, 0, 0) := by
  have := lead_of l k hhi (fun h => by omega) (by omega)
  unfold rd
  rw [this, if_neg (by omega), List.getElem?_eq_none (by omega)]

theorem rd_zero (l : List UInt8) (k : Nat) (hk : k ≤ 9) (h0 : 0 < k) (hhi : ∀ j (hj : j < l.length), j < k → 128 ≤ l[j].toNat) (hb : ∃ c : UInt8, c.toNat = 0 ∧ l[k]? = some c) : rd l = (6, 0, 0) := by
  obtain ⟨c, hc0, hc⟩ := hb
  obtain ⟨hlt, hce⟩ := List.getElem?_eq_some_iff.1 hc
  have := lead_of l k hhi (fun h => by rw [hce]; omega) (by omega)
  unfold rd
  rw [this, if_neg (by omega), hc]
  simp [hc0, h0]

theorem rd_last (l : List UInt8) (k : Nat) (hk : k ≤ 9) (hhi : ∀ j (hj : j < l.length), j < k → 128 ≤ l[j].toNat) {b : Nat} (hb : ∃ c : UInt8, c.toNat = b ∧ l[k]? = some c) (h128 : b < 128) (h9 : ¬ (k = 9 ∧ 1 < b)) (h0 : ¬ (b = 0 ∧ 0 < k)) :
    rd l = (0, val (l.take k) + 128 ^ k * b, k + 1) := by
  obtain ⟨c, rfl, hc⟩ := hb
  obtain ⟨hlt, hce⟩ := List.getElem?_eq_some_iff.1 hc
  have := lead_of l k hhi (fun h => by rw [hce]; omega) (by omega)
  unfold rd
  rw [this, if_neg (by omega), hc]
  simp only
  rw [if_neg h9, if_neg h0, List.take_add_one, hc]
  simp only [Option.toList_some]
  rw [val_snoc, show (l.take k).length = k by simp; omega, show c.toNat % 128 = c.toNat by omega]

theorem val_next (l : List UInt8) (k : Nat) {b : Nat} (hb : ∃ c : UInt8, c.toNat = b ∧ l[k]? = some c) : val (l.take (k + 1)) = val (l.take k) + 128 ^ k * (b % 128) := by
  obtain ⟨c, rfl, hc⟩ := hb
  obtain ⟨hlt, hce⟩ := List.getElem?_eq_some_iff.1 hc
  rw [List.take_add_one, hc]
  simp only [Option.toList_some]
  rw [val_snoc, show (l.take k).length = k by simp; omega]

theorem high_next (l : List UInt8) (k : Nat) (hhi : ∀ j (hj : j < l.length), j < k → 128 ≤ l[j].toNat) {b : Nat} (hb : ∃ c : UInt8, c.toNat = b ∧ l[k]? = some c) (h : 128 ≤ b) : ∀ j (hj : j < l.length), j < k + 1 → 128 ≤ l[j].toNat := by
  obtain ⟨c, rfl, hc⟩ := hb
  obtain ⟨hlt, hce⟩ := List.getElem?_eq_some_iff.1 hc
  intro j hj hk
  by_cases e : j = k
  · subst e; rw [hce]; exact h
  · exact hhi j hj (by omega)

theorem rd_ten (l : List UInt8) (hhi : ∀ j (hj : j < l.length), j < 10 → 128 ≤ l[j].toNat) (hlen : 10 ≤ l.length) : rd l = (6, 0, 0) := by
  have := lead_ge l 10 hhi hlen
  unfold rd
  rw [if_pos this]

theorem val_drop (q : List UInt8) (j : Nat) (h : j < q.length) : val (q.drop j) = q[j].toNat % 128 + 128 * val (q.drop (j + 1)) := by
  rw [List.drop_eq_getElem_cons h]; rfl

theorem val_drop_le : ∀ (q : List UInt8) (j : Nat), val (q.drop j) ≤ val q
  | [], j => by simp
  | b :: r, 0 => Nat.le_refl _
  | b :: r, j + 1 => by
    have := val_drop_le r j
    simp only [List.drop_succ_cons, val]
    omega

/-- Bits laid above bits: 'a | d << 7 k'. -/
theorem lor_above (k A d : Nat) (hA : A < 128 ^ k) : A ||| d * 2 ^ (k * 7) = A + 128 ^ k * d := by
  have e : (128 : Nat) ^ k = 2 ^ (k * 7) := by rw [show (128 : Nat) = 2 ^ 7 by decide, ← Nat.pow_mul, Nat.mul_comm]
  rw [e] at hA ⊢
  rw [Nat.or_comm, Nat.mul_comm d, ← Nat.two_pow_add_eq_or_of_lt hA d, Nat.add_comm]

end Go.Proofs.Ytaclkofkajehpaa.V
