/-
  Plain mathematics: there and back. No program is named here.
-/
import Derived.Test.YtaidhoepnefcpaaGreatBVMath
namespace Go.Proofs.YtaidhoepnefcpaaGreat.V
open Go
def val : List UInt8 -> Nat
 | [] => 0
 | b :: r => b.toNat % 128 + 128 * val r
theorem val_append (a b : List UInt8) : val (a ++ b) = val a + 128 ^ a.length * val b := by
 induction a with
 | nil => simp [val]
 | cons x r ih =>
  simp only [List.cons_append, val, ih, List.length_cons, Nat.pow_succ];rw [Nat.mul_add, Nat.mul_comm (128 ^ r.length) 128, Nat.mul_assoc, <- Nat.add_assoc]
theorem val_lt (l : List UInt8) : val l < 128 ^ l.length := by
 induction l with
 | nil => simp [val]
 | cons b r ih =>
  simp only [val, List.length_cons, Nat.pow_succ];omega
theorem Zn (a : List UInt8) (b : UInt8) : val (a ++ [b]) = val a + 128 ^ a.length * (b.toNat % 128) := by
 rw [val_append]; simp [val]
def unzz (u : Nat) : Int := if u % 2 = 0 then ((u / 2 : Nat) : Int) else -((u / 2 : Nat) : Int) - 1
theorem unzz_zigzag (n : Int) : unzz (Lib.zigzag n) = n := by
 unfold unzz Lib.zigzag;split <;> split <;> omega
theorem zigzag_unzz (u : Nat) : Lib.zigzag (unzz u) = u := by
 unfold unzz Lib.zigzag;split <;> split <;> omega
def lead : List UInt8 -> Nat
 | [] => 0
 | b :: r => if 128 <= b.toNat then lead r + 1 else 0
theorem lead_le : ∀ l : List UInt8, lead l <= l.length
 | [] => Nat.le_refl _
 | b :: r => by
  have := lead_le r;unfold lead;split <;> simp <;> omega
theorem jV : ∀ (l : List UInt8) (k : Nat), (∀ j (h : j < l.length), j < k -> 128 <= l[j].toNat) -> (∀ h : k < l.length, l[k].toNat < 128) -> k <= l.length -> lead l = k
 | [], k, _, _, h3 => by simp at h3; simp [lead, h3]
 | b :: r, 0, _, h2, _ => by
  have := h2 (by simp);simp at this;simp [lead]; omega
 | b :: r, k + 1, h1, h2, h3 => by
  have hb := h1 0 (by simp) (by omega);simp at hb;have := jV r k (fun j hj hk => by have := h1 (j + 1) (by simpa using hj) (by omega); simpa using this) (fun hk => by have := h2 (by simpa using hk); simpa using this) (by simpa using h3);simp [lead, hb, this]
theorem lead_ge : ∀ (l : List UInt8) (k : Nat), (∀ j (h : j < l.length), j < k -> 128 <= l[j].toNat) -> k <= l.length -> k <= lead l
 | _, 0, _, _ => Nat.zero_le _
 | [], k + 1, _, h3 => by simp at h3
 | b :: r, k + 1, h1, h3 => by
  have hb := h1 0 (by simp) (by omega);simp at hb;have := lead_ge r k (fun j hj hk => by have := h1 (j + 1) (by simpa using hj) (by omega); simpa using this) (by simpa using h3);simp [lead, hb, this]
theorem Yd : ∀ (l : List UInt8) (j : Nat) (h : j < l.length), j < lead l -> 128 <= l[j].toNat
 | [], _, h, _ => by simp at h
 | b :: r, 0, _, hj => by
  unfold lead at hj;split at hj
  ·simpa using ‹128 <= b.toNat›
  ·omega
 | b :: r, j + 1, h, hj => by
  unfold lead at hj;split at hj
  ·simpa using Yd r j (by simpa using h) (by omega)
  ·omega
theorem lead_low : ∀ (l : List UInt8) (h : lead l < l.length), l[lead l].toNat < 128
 | [], h => by simp at h
 | b :: r, h => by
  by_cases hb : 128 <= b.toNat
  ·have e : lead (b :: r) = lead r + 1 := by simp [lead, hb]
   have := lead_low r (by rw [e] at h; simpa using h);simp only [e, List.getElem_cons_succ];exact this
  ·have e : lead (b :: r) = 0 := by simp [lead, hb]
   simp only [e, List.getElem_cons_zero];omega
def rd (l : List UInt8) : Nat × Nat × Nat :=
 if 10 <= lead l then (6, 0, 0)
 else match l[lead l]? with
  | none => (5, 0, 0)
  | some b => if lead l = 9 /\ 1 < b.toNat then (6, 0, 0) else if b.toNat = 0 /\ 0 < lead l then (6, 0, 0) else (0, val (l.take (lead l + 1)), lead l + 1)
def rdAt (s : List UInt8) (p : Int) : Int × Int × Int :=
 if p < 0 \/ (s.length : Int) < p then (0, 0, 3)
 else if (rd (s.drop p.toNat)).1 = 0 then (unzz (rd (s.drop p.toNat)).2.1, p + (rd (s.drop p.toNat)).2.2, 0)
 else (0, 0, (rd (s.drop p.toNat)).1)
def good : List UInt8 -> Prop
 | [] => False
 | [b] => b.toNat < 128
 | b :: r => 128 <= b.toNat /\ good r /\ r ≠ [0]
theorem good_pos : ∀ l : List UInt8, good l -> l ≠ [0] -> 1 <= val l
 | [], h, _ => h.elim
 | [b], h, h0 => by
  simp only [good] at h;simp only [val];have : b.toNat ≠ 0 := fun e => h0 (by rw [show b = 0 from UInt8.toNat_inj.1 (by simpa using e)])
  omega
 | b :: c :: r, h, _ => by
  have := good_pos (c :: r) h.2.1 h.2.2;simp only [val] at this ⊢;omega
theorem Zf : ∀ l : List UInt8, good l -> Lib.uvarint (val l) = l
 | [], h => h.elim
 | [b], h => by
  simp only [good] at h;have e : val [b] = b.toNat := by simp only [val]; omega
  rw [e, Lib.uvarint_small h];simp
 | b :: c :: r, h => by
  have h1 := good_pos (c :: r) h.2.1 h.2.2;have ih := Zf (c :: r) h.2.1;have hb := h.1;have hlt := b.toNat_lt;have e : val (b :: c :: r) = b.toNat % 128 + 128 * val (c :: r) := rfl;rw [e, Lib.uvarint_big (by omega)];rw [show (b.toNat % 128 + 128 * val (c :: r)) / 128 = val (c :: r) by omega, ih];congr 1
  rw [show (b.toNat % 128 + 128 * val (c :: r)) % 128 + 128 = b.toNat by omega];simp
theorem toU8 {n : Nat} (h : n < 256) : (n.toUInt8).toNat = n := by simp [Nat.toUInt8, UInt8.toNat_ofNat']; omega
theorem jI (u : Nat) : val (Lib.uvarint u) = u := by
 induction u using Nat.strongRecOn with
 | _ u ih =>
  by_cases h : u < 128
  ·rw [Lib.uvarint_small h]; simp only [val]; rw [toU8 (by omega)]; omega
  ·rw [Lib.uvarint_big (by omega)]; simp only [val]; rw [ih (u / 128) (by omega), toU8 (by omega)]; omega
theorem good_uvarint (u : Nat) : good (Lib.uvarint u) := by
 induction u using Nat.strongRecOn with
 | _ u ih =>
  by_cases h : u < 128
  ·rw [Lib.uvarint_small h]; simp only [good]; rw [toU8 (by omega)]; omega
  ·have hg := ih (u / 128) (by omega)
   rw [Lib.uvarint_big (by omega)];have hv := jI (u / 128);cases hr : Lib.uvarint (u / 128) with
   | nil => rw [hr] at hg; exact hg.elim
   | cons c r =>
    rw [hr] at hg hv;refine ⟨by rw [toU8 (by omega)]; omega, hg, fun e => ?_⟩;rw [e] at hv;simp [val] at hv;omega
theorem Yj : ∀ p : List UInt8, good p -> ∀ rest : List UInt8, lead (p ++ rest) = p.length - 1
 | [], h, _ => h.elim
 | [b], h, rest => by
  simp only [good] at h;simp [lead]; omega
 | b :: c :: r, h, rest => by
  have := Yj (c :: r) h.2.1 rest;simp only [List.cons_append] at this ⊢;unfold lead;rw [if_pos h.1, this];simp
theorem Z4 : ∀ p : List UInt8, good p -> p ≠ [0] -> ∀ b, p[p.length - 1]? = some b -> b.toNat < 128 /\ b.toNat ≠ 0 /\ 128 ^ (p.length - 1) * b.toNat <= val p
 | [], h, _, _, _ => h.elim
 | [b], h, h0, b', hb => by
  simp at hb;subst hb;simp only [good] at h;have : b.toNat ≠ 0 := fun e => h0 (by rw [show b = 0 from UInt8.toNat_inj.1 (by simpa using e)])
  simp [val]; omega
 | b :: c :: r, h, _, b', hb => by
  have := Z4 (c :: r) h.2.1 h.2.2 b' (by simpa using hb);refine ⟨this.1, this.2.1, ?_⟩;have h3 := this.2.2;simp only [List.length_cons, Nat.add_sub_cancel, val] at h3 ⊢;rw [Nat.pow_succ, Nat.mul_comm (128 ^ r.length) 128, Nat.mul_assoc];omega
theorem rd_good (p rest : List UInt8) (h : good p) (h64 : val p < 18446744073709551616) : rd (p ++ rest) = (0, val p, p.length) := by
 have hl := Yj p h rest;have hne : p ≠ [] := fun e => by rw [e] at h; exact h.elim
 have hlen : 1 <= p.length := by cases p with | nil => exact (hne rfl).elim | cons => simp
 obtain ⟨b, hb⟩ : ∃ b, p[p.length - 1]? = some b := ⟨_, List.getElem?_eq_getElem (by omega)⟩;have hget : (p ++ rest)[p.length - 1]? = some b := by rw [List.getElem?_append_left (by omega), hb]
 have htake : (p ++ rest).take (p.length - 1 + 1) = p := by rw [Nat.sub_add_cancel hlen]; simp
 unfold rd;rw [hl, hget, htake];by_cases h0 : p = [0]
 ·subst h0
  simp at hb;subst hb;simp
 ·obtain ⟨h1, h2, h3⟩ := Z4 p h h0 b hb
  have hle : p.length <= 10 := by
   rcases Nat.lt_or_ge p.length 11 with h | h
   ·omega
   ·have e : (128 : Nat) ^ 10 <= 128 ^ (p.length - 1) := Nat.pow_le_pow_right (by decide) (by omega)
    have e2 : (128 : Nat) ^ (p.length - 1) <= 128 ^ (p.length - 1) * b.toNat := Nat.le_mul_of_pos_right _ (by omega);have e3 : (128 : Nat) ^ 10 = 1180591620717411303424 := by decide
    omega
  rw [if_neg (by omega)];have hn9 : ¬ (p.length - 1 = 9 /\ 1 < b.toNat) := by
   rintro ⟨e9, hb1⟩;rw [e9] at h3;have e3 : (128 : Nat) ^ 9 = 9223372036854775808 := by decide
   rw [e3] at h3;omega
  simp only;rw [if_neg hn9, if_neg (by omega), Nat.sub_add_cancel hlen]
theorem good_take (l : List UInt8) (n : Nat) (h1 : ∀ j (h : j < l.length), j < n -> 128 <= l[j].toNat) (b : UInt8) (hb : l[n]? = some b) (h2 : b.toNat < 128) (h3 : ¬ (b.toNat = 0 /\ 0 < n)) : good (l.take (n + 1)) := by
 induction n generalizing l with
 | zero =>
  cases l with
  | nil => simp at hb
  | cons x r => simp at hb; subst hb; simpa [good] using h2
 | succ n ih =>
  cases l with
  | nil => simp at hb
  | cons x r =>
   have hx := h1 0 (by simp) (by omega);simp at hx hb;have hg : good (r.take (n + 1)) := by
    by_cases h0 : b.toNat = 0
    ·exact absurd ⟨h0, by omega⟩ h3
    ·exact ih r (fun j hj hk => by have := h1 (j + 1) (by simpa using hj) (by omega); simpa using this) hb (by omega)
   rw [List.take_succ_cons];cases hr : r.take (n + 1) with
   | nil => rw [hr] at hg; exact hg.elim
   | cons c q =>
    refine ⟨hx, hr ▸ hg, fun e => ?_⟩;rw [e] at hr;have hb' : (r.take (n + 1))[n]? = some b := by rw [List.getElem?_take_of_lt (by omega)]; exact hb
    rw [hr] at hb';cases n with
    | zero => simp at hb'; subst hb'; simp at h3
    | succ n => simp at hb'
theorem rd_ok (l : List UInt8) (h : (rd l).1 = 0) :
 (rd l).2.2 <= l.length /\ good (l.take (rd l).2.2) /\ (rd l).2.1 = val (l.take (rd l).2.2) /\ (rd l).2.1 < 18446744073709551616 /\ (rd l).2.2 <= 10 /\ 1 <= (rd l).2.2 := by
 have hle := lead_le l;have hhi := Yd l;have hlo := lead_low l;unfold rd at h ⊢;by_cases h10 : 10 <= lead l
 ·simp [h10] at h
 ·simp only [if_neg h10] at h ⊢
  cases hb : l[lead l]? with
  | none => simp [hb] at h
  | some b =>
   simp only [hb] at h ⊢;obtain ⟨hlt, hbe⟩ := List.getElem?_eq_some_iff.1 hb;have hb128 : b.toNat < 128 := by rw [<- hbe]; exact hlo hlt
   by_cases h9 : lead l = 9 /\ 1 < b.toNat
   ·simp [h9] at h
   ·simp only [if_neg h9] at h ⊢
    by_cases h0 : b.toNat = 0 /\ 0 < lead l
    ·simp [h0] at h
    ·simp only [if_neg h0]
     refine ⟨by omega, good_take l (lead l) (fun j hj hk => hhi j hj hk) b hb hb128 h0, by simp, ?_, by omega, by omega⟩;have hsnoc : l.take (lead l + 1) = l.take (lead l) ++ [b] := by rw [List.take_add_one, hb]; rfl
     rw [hsnoc, Zn];have hv := val_lt (l.take (lead l));have hlen : (l.take (lead l)).length = lead l := by simp; omega
     rw [hlen] at hv ⊢;have hm : b.toNat % 128 = b.toNat := by omega
     rw [hm];by_cases h99 : lead l = 9
     ·rw [h99] at hv ⊢
      have hb1 : b.toNat <= 1 := by omega
      have e : (128 : Nat) ^ 9 = 9223372036854775808 := by decide
      rw [e] at hv ⊢;have : 9223372036854775808 * b.toNat <= 9223372036854775808 * 1 := Nat.mul_le_mul_left _ hb1;omega
     ·have e8 : (128 : Nat) ^ (lead l) <= 128 ^ 8 := Nat.pow_le_pow_right (by decide) (by omega)
      have e : (128 : Nat) ^ 8 = 72057594037927936 := by decide
      have : 128 ^ lead l * b.toNat <= 128 ^ 8 * 127 := Nat.mul_le_mul e8 (by omega);rw [e] at this e8;omega
theorem yN (s : ByteArray) : s.size = s.data.toList.length := by rw [Array.length_toList]; rfl
theorem rdAt_in (l : List UInt8) (p : Nat) (h : p <= l.length) :
 rdAt l p = if (rd (l.drop p)).1 = 0 then (unzz (rd (l.drop p)).2.1, (p : Int) + (rd (l.drop p)).2.2, 0) else (0, 0, ((rd (l.drop p)).1 : Int)) := by
 unfold rdAt;rw [if_neg (by omega)];simp
theorem byte_at (s : ByteArray) (p k : Nat) (h : p + k < s.size) : ∃ b : Nat, (s[p + k]'h).toNat = b /\ ∃ c : UInt8, c.toNat = b /\ (s.data.toList.drop p)[k]? = some c :=
 ⟨_, rfl, s[p + k]'h, rfl, by rw [List.getElem?_drop, List.getElem?_eq_getElem (by rw [<- yN]; exact h)]; rfl⟩
theorem rd_nine (l : List UInt8) (hhi : ∀ j (hj : j < l.length), j < 9 -> 128 <= l[j].toNat) {b : Nat} (hb : ∃ c : UInt8, c.toNat = b /\ l[9]? = some c) (h1 : 1 < b) : rd l = (6, 0, 0) := by
 obtain ⟨c, rfl, hc⟩ := hb;obtain ⟨hlt, hce⟩ := List.getElem?_eq_some_iff.1 hc;by_cases hc128 : 128 <= c.toNat
 ·have := lead_ge l 10 (fun j hj hk => by
   by_cases h9 : j = 9
   ·subst h9; rw [hce]; exact hc128
   ·exact hhi j hj (by omega)) (by omega)
  unfold rd;rw [if_pos this]
 ·have := jV l 9 hhi (fun h => by rw [hce]; omega) (by omega)
  unfold rd;rw [this, if_neg (by decide), hc];simp [h1]
theorem rd_end (l : List UInt8) (k : Nat) (hk : k <= 9) (hhi : ∀ j (hj : j < l.length), j < k -> 128 <= l[j].toNat) (hlen : l.length = k) : rd l = (5, 0, 0) := by
 have := jV l k hhi (fun h => by omega) (by omega);unfold rd;rw [this, if_neg (by omega), List.getElem?_eq_none (by omega)]
theorem rd_zero (l : List UInt8) (k : Nat) (hk : k <= 9) (h0 : 0 < k) (hhi : ∀ j (hj : j < l.length), j < k -> 128 <= l[j].toNat) (hb : ∃ c : UInt8, c.toNat = 0 /\ l[k]? = some c) : rd l = (6, 0, 0) := by
 obtain ⟨c, hc0, hc⟩ := hb;obtain ⟨hlt, hce⟩ := List.getElem?_eq_some_iff.1 hc;have := jV l k hhi (fun h => by rw [hce]; omega) (by omega);unfold rd;rw [this, if_neg (by omega), hc];simp [hc0, h0]
theorem rd_last (l : List UInt8) (k : Nat) (hk : k <= 9) (hhi : ∀ j (hj : j < l.length), j < k -> 128 <= l[j].toNat) {b : Nat} (hb : ∃ c : UInt8, c.toNat = b /\ l[k]? = some c) (h128 : b < 128) (h9 : ¬ (k = 9 /\ 1 < b)) (h0 : ¬ (b = 0 /\ 0 < k)) :
 rd l = (0, val (l.take k) + 128 ^ k * b, k + 1) := by
 obtain ⟨c, rfl, hc⟩ := hb;obtain ⟨hlt, hce⟩ := List.getElem?_eq_some_iff.1 hc;have := jV l k hhi (fun h => by rw [hce]; omega) (by omega);unfold rd;rw [this, if_neg (by omega), hc];simp only;rw [if_neg h9, if_neg h0, List.take_add_one, hc];simp only [Option.toList_some];rw [Zn, show (l.take k).length = k by simp; omega, show c.toNat % 128 = c.toNat by omega]
theorem val_next (l : List UInt8) (k : Nat) {b : Nat} (hb : ∃ c : UInt8, c.toNat = b /\ l[k]? = some c) : val (l.take (k + 1)) = val (l.take k) + 128 ^ k * (b % 128) := by
 obtain ⟨c, rfl, hc⟩ := hb;obtain ⟨hlt, hce⟩ := List.getElem?_eq_some_iff.1 hc;rw [List.take_add_one, hc];simp only [Option.toList_some];rw [Zn, show (l.take k).length = k by simp; omega]
theorem high_next (l : List UInt8) (k : Nat) (hhi : ∀ j (hj : j < l.length), j < k -> 128 <= l[j].toNat) {b : Nat} (hb : ∃ c : UInt8, c.toNat = b /\ l[k]? = some c) (h : 128 <= b) : ∀ j (hj : j < l.length), j < k + 1 -> 128 <= l[j].toNat := by
 obtain ⟨c, rfl, hc⟩ := hb;obtain ⟨hlt, hce⟩ := List.getElem?_eq_some_iff.1 hc;intro j hj hk;by_cases e : j = k
 ·subst e; rw [hce]; exact h
 ·exact hhi j hj (by omega)
theorem Yt (k A d : Nat) (hA : A < 128 ^ k) : A ||| d * 2 ^ (k * 7) = A + 128 ^ k * d := by
 have e : (128 : Nat) ^ k = 2 ^ (k * 7) := by rw [show (128 : Nat) = 2 ^ 7 by decide, <- Nat.pow_mul, Nat.mul_comm]
 rw [e] at hA ⊢;rw [Nat.or_comm, Nat.mul_comm d, <- Nat.two_pow_add_eq_or_of_lt hA d, Nat.add_comm]
def countOf (r : Int × Int × Int) (most : Int) : Int × Int × Int :=
 if r.2.2 ≠ 0 then (0, 0, r.2.2) else if r.1 < 0 then (0, 0, 6) else if most < r.1 then (0, 0, 4) else (r.1, r.2.1, 0)
def count (s : List UInt8) (p most : Int) : Int × Int × Int := countOf (rdAt s p) most
def txtOf (s : List UInt8) (c : Int × Int × Int) : List UInt8 × Int × Int :=
 if c.2.2 ≠ 0 then ([], 0, c.2.2) else if (s.length : Int) - c.2.1 < c.1 then ([], 0, 5) else ((s.drop c.2.1.toNat).take c.1.toNat, c.2.1 + c.1, 0)
def txt (s : List UInt8) (p : Int) : List UInt8 × Int × Int := txtOf s (count s p 4096)
def app {α : Type} (pre : List α) (r : List α × Int × Int) : List α × Int × Int := if r.2.2 ≠ 0 then ([], 0, r.2.2) else (pre ++ r.1, r.2.1, 0)
def items {α : Type} (item : Int -> α × Int × Int) : Nat -> Int -> List α × Int × Int
 | 0, p => ([], p, 0)
 | k + 1, p => if (item p).2.2 ≠ 0 then ([], 0, (item p).2.2) else app [(item p).1] (items item k (item p).2.1)
def listOf {α : Type} (item : Int -> α × Int × Int) (c : Int × Int × Int) : List α × Int × Int := if c.2.2 ≠ 0 then ([], 0, c.2.2) else items item c.1.toNat c.2.1
def nums (s : List UInt8) (p : Int) : List Int × Int × Int := listOf (rdAt s) (count s p 256)
theorem Z9 {α : Type} (item : Int -> α × Int × Int) (k : Nat) (p : Int) {x : α} {q e : Int} (h : item p = (x, q, e)) (he : e ≠ 0) : items item (k + 1) p = ([], 0, e) := by
 simp [items, h, he]
theorem uf {α : Type} (item : Int -> α × Int × Int) (k : Nat) (p : Int) {x : α} {q : Int} (h : item p = (x, q, 0)) : items item (k + 1) p = app [x] (items item k q) := by
 simp [items, h]
theorem qc {α : Type} (item : Int -> α × Int × Int) : ∀ (k : Nat) (p : Int), (items item k p).1.length <= k
 | 0, p => Nat.le_refl _
 | k + 1, p => by
  have := qc item k (item p).2.1;simp only [items];split
  ·simp
  ·unfold app
   split
   ·simp
   ·simp; omega
theorem qC (s : List UInt8) (p : Int) {x q : Int} (h : rdAt s p = (x, q, 0)) :
 0 <= p /\ p < q /\ q <= s.length /\ q <= p + 10 /\ x = unzz (rd (s.drop p.toNat)).2.1 /\ q = p + (rd (s.drop p.toNat)).2.2 /\ (rd (s.drop p.toNat)).1 = 0 := by
 unfold rdAt at h;by_cases hp : p < 0 \/ (s.length : Int) < p
 ·rw [if_pos hp] at h; simp at h
 ·rw [if_neg hp] at h
  by_cases h0 : (rd (s.drop p.toNat)).1 = 0
  ·rw [if_pos h0] at h
   have hok := rd_ok _ h0;simp only [Prod.mk.injEq, and_true] at h;have h1 := hok.1;rw [List.length_drop] at h1;exact ⟨by omega, by omega, by omega, by omega, h.1.symm, h.2.symm, h0⟩
  ·rw [if_neg h0] at h
   simp only [Prod.mk.injEq] at h;omega
theorem unzz_bounds (u : Nat) (h : u < 18446744073709551616) : -9223372036854775808 <= unzz u /\ unzz u <= 9223372036854775807 := by
 unfold unzz;split <;> omega
theorem rdAt_bounds (s : List UInt8) (p : Int) {x q : Int} (h : rdAt s p = (x, q, 0)) : -9223372036854775808 <= x /\ x <= 9223372036854775807 := by
 have h1 := qC s p h;rw [h1.2.2.2.2.1];exact unzz_bounds _ (rd_ok _ h1.2.2.2.2.2.2).2.2.2.1
theorem qx (s : List UInt8) (p most : Int) {n q : Int} (h : count s p most = (n, q, 0)) : 0 <= n /\ n <= most /\ p < q /\ 0 <= q /\ q <= s.length /\ rdAt s p = (n, q, 0) := by
 unfold count countOf at h;by_cases h0 : (rdAt s p).2.2 = 0
 ·have hr : rdAt s p = ((rdAt s p).1, (rdAt s p).2.1, 0) := by rw [<- h0]
  have hok := qC s p hr;simp only [h0, ne_eq, not_true, if_false] at h;split at h
  ·simp at h
  ·split at h
   ·simp at h
   ·simp only [Prod.mk.injEq, and_true] at h
    obtain ⟨rfl, rfl⟩ := h;exact ⟨by omega, by omega, hok.2.1, by omega, hok.2.2.1, hr⟩
 ·simp only [ne_eq, h0, not_false_eq_true, if_true] at h
  simp only [Prod.mk.injEq] at h;exact absurd h.2.2 h0
theorem listOf_len {α : Type} (item : Int -> α × Int × Int) (s : List UInt8) (p : Int) : (listOf item (count s p 256)).1.length <= 256 := by
 obtain ⟨⟨n, q, e⟩, hr⟩ : ∃ t, count s p 256 = t := ⟨_, rfl⟩;rw [hr];unfold listOf;by_cases he : e = 0
 ·subst he
  have hc := qx _ _ _ hr;rw [if_neg (by simp)];have := qc item n.toNat q;simp only;omega
 ·rw [if_pos he]; simp
theorem Zx (s : List UInt8) (p : Int) : (nums s p).1.length <= 256 := listOf_len _ _ _
def textOf (l : List UInt8) : List UInt8 × Int := if 4096 < l.length then ([], 4) else (num l.length ++ l, 0)
def numOf (n : Int) : List UInt8 × Int := (num n, 0)
def comb (acc : List UInt8) (q : List UInt8 × Int) : List UInt8 × Int := if q.2 ≠ 0 then ([], q.2) else (acc ++ q.1, 0)
def layAll {α : Type} (item : α -> List UInt8 × Int) : List α -> List UInt8 × Int
 | [] => ([], 0)
 | x :: r => if (item x).2 ≠ 0 then ([], (item x).2) else comb (item x).1 (layAll item r)
def layList {α : Type} (item : α -> List UInt8 × Int) (l : List α) : List UInt8 × Int := if 256 < l.length then ([], 4) else comb (num l.length) (layAll item l)
theorem drop_left (a b : List UInt8) : (a ++ b).drop a.length = b := by simp
theorem Zp (a b : List UInt8) (n : Int) (h0 : -9223372036854775808 <= n) (h1 : n <= 9223372036854775807) :
 rdAt (a ++ (num n ++ b)) a.length = (n, (a.length : Int) + ((num n).length : Int), 0) := by
 have hg := rd_good (num n) b (good_uvarint _) (by unfold num; rw [jI]; exact Lib.zigzag_lt h0 h1);rw [rdAt_in _ _ (by simp), drop_left, hg];simp only [if_true];have : unzz (val (num n)) = n := by unfold num; rw [jI, unzz_zigzag]
 rw [this]
theorem Yu (a b : List UInt8) (n : Nat) (most : Int) (h : (n : Int) <= most) (hm : (n : Int) <= 9223372036854775807) : count (a ++ (num n ++ b)) a.length most = ((n : Int), (a.length : Int) + ((num n).length : Int), 0) := by
 unfold count;rw [Zp a b n (by omega) hm];unfold countOf;rw [if_neg (by simp), if_neg (by simp <;> omega), if_neg (by simp <;> omega)]
theorem txt_text (a b l : List UInt8) (h : l.length <= 4096) : txt (a ++ ((num l.length ++ l) ++ b)) a.length = (l, (a.length : Int) + ((num l.length ++ l).length : Int), 0) := by
 unfold txt;have e : a ++ ((num l.length ++ l) ++ b) = a ++ (num l.length ++ (l ++ b)) := by simp [List.append_assoc]
 rw [e, Yu a (l ++ b) l.length 4096 (by omega) (by omega)];unfold txtOf;rw [if_neg (by simp), if_neg (by simp; omega)];have e2 : ((a.length : Int) + ((num l.length).length : Int)).toNat = (a ++ num l.length).length := by rw [List.length_append]; omega
 simp only [e2];rw [show a ++ (num ↑l.length ++ (l ++ b)) = (a ++ num ↑l.length) ++ (l ++ b) by simp [List.append_assoc], drop_left];simp;omega
theorem qR {α : Type} (item : List UInt8 -> Int -> α × Int × Int) (lay : α -> List UInt8 × Int)
 (ok : α -> Prop) (hit : ∀ x b, ok x -> lay x = (b, 0) -> ∀ A B, item (A ++ (b ++ B)) A.length = (x, (A.length : Int) + (b.length : Int), 0)) :
 ∀ (xs : List α) (t : List UInt8), (∀ x ∈ xs, ok x) -> layAll lay xs = (t, 0) -> ∀ A B, items (item (A ++ (t ++ B))) xs.length A.length = (xs, (A.length : Int) + (t.length : Int), 0)
 | [], t, _, h, A, B => by
  simp [layAll] at h;subst h;simp [items]
 | x :: r, t, hok, h, A, B => by
  obtain ⟨⟨b, e⟩, hb⟩ : ∃ q, lay x = q := ⟨_, rfl⟩;obtain ⟨⟨t', e'⟩, ht'⟩ : ∃ q, layAll lay r = q := ⟨_, rfl⟩;simp only [layAll, hb, ht'] at h;by_cases he : e = 0
  ·subst he
   by_cases he' : e' = 0
   ·subst he'
    simp [comb] at h;subst h;have h1 := hit x b (hok x List.mem_cons_self) hb A (t' ++ B);have h2 := qR item lay ok hit r t' (fun y hy => hok y (List.mem_cons_of_mem _ hy)) ht' (A ++ b) B;have e1 : A ++ (b ++ t' ++ B) = A ++ (b ++ (t' ++ B)) := by simp [List.append_assoc]
    have e2 : A ++ (b ++ t' ++ B) = (A ++ b) ++ (t' ++ B) := by simp [List.append_assoc]
    rw [<- e1] at h1;rw [<- e2] at h2;have e3 : ((A ++ b).length : Int) = (A.length : Int) + (b.length : Int) := by rw [List.length_append]; omega
    rw [e3] at h2;rw [List.length_cons, uf _ _ _ h1, h2];simp [app];omega
   ·simp [comb, he'] at h
  ·simp [he] at h
theorem layList_ok {α : Type} (lay : α -> List UInt8 × Int) (xs : List α) {t : List UInt8} (h : layList lay xs = (t, 0)) : xs.length <= 256 /\ ∃ t', layAll lay xs = (t', 0) /\ t = num xs.length ++ t' := by
 unfold layList at h;by_cases hl : 256 < xs.length
 ·rw [if_pos hl] at h; simp at h
 ·rw [if_neg hl] at h
  refine ⟨by omega, ?_⟩;obtain ⟨⟨t', e⟩, ht⟩ : ∃ q, layAll lay xs = q := ⟨_, rfl⟩;rw [ht] at h;by_cases he : e = 0
  ·subst he
   simp [comb] at h;exact ⟨t', ht, h.symm⟩
  ·simp [comb, he] at h
theorem list_back {α : Type} (item : List UInt8 -> Int -> α × Int × Int) (lay : α -> List UInt8 × Int)
 (ok : α -> Prop) (hit : ∀ x b, ok x -> lay x = (b, 0) -> ∀ A B, item (A ++ (b ++ B)) A.length = (x, (A.length : Int) + (b.length : Int), 0)) (xs : List α) (t : List UInt8) (hok : ∀ x ∈ xs, ok x) (h : layList lay xs = (t, 0)) (A B : List UInt8) :
 listOf (item (A ++ (t ++ B))) (count (A ++ (t ++ B)) A.length 256) = (xs, (A.length : Int) + (t.length : Int), 0) := by
 obtain ⟨hl, t', ht, rfl⟩ := layList_ok lay xs h;have e1 : A ++ (num xs.length ++ t' ++ B) = A ++ (num xs.length ++ (t' ++ B)) := by simp [List.append_assoc]
 have e2 : A ++ (num xs.length ++ t' ++ B) = (A ++ num xs.length) ++ (t' ++ B) := by simp [List.append_assoc]
 have hc := Yu A (t' ++ B) xs.length 256 (by omega) (by omega);rw [<- e1] at hc;rw [hc, show listOf (item (A ++ (num ↑xs.length ++ t' ++ B))) (((xs.length : Nat) : Int), (A.length : Int) + ((num xs.length).length : Int), 0) = items (item (A ++ (num ↑xs.length ++ t' ++ B))) xs.length ((A.length : Int) + ((num xs.length).length : Int)) by simp [listOf]];have hi := qR item lay ok hit xs t' hok ht (A ++ num xs.length) B;rw [<- e2] at hi;have e3 : ((A ++ num xs.length).length : Int) = (A.length : Int) + ((num xs.length).length : Int) := by rw [List.length_append]; omega
 rw [e3] at hi;rw [hi, List.length_append];congr 2
 omega
theorem nums_back (xs : List Int) (hwf : ∀ x ∈ xs, -9223372036854775808 <= x /\ x <= 9223372036854775807) (t : List UInt8) (h : layList numOf xs = (t, 0)) (A B : List UInt8) :
 nums (A ++ (t ++ B)) A.length = (xs, (A.length : Int) + (t.length : Int), 0) := by
 unfold nums;refine list_back (fun s => rdAt s) numOf (fun x => -9223372036854775808 <= x /\ x <= 9223372036854775807) (fun x b hx hb A B => ?_) xs t hwf h A B;simp only [numOf, Prod.mk.injEq, and_true] at hb;subst hb;exact Zp A B x hx.1 hx.2
theorem app_err' {α : Type} (a : List α) (r : List α × Int × Int) (h : r.2.2 ≠ 0) : app a r = ([], 0, r.2.2) := by simp [app, h]
def cut (s : List UInt8) (p q : Int) : List UInt8 := (s.drop p.toNat).take (q - p).toNat
theorem uU (s : List UInt8) {p q r : Int} (h0 : 0 <= p) (h1 : p <= q) (h2 : q <= r) : cut s p q ++ cut s q r = cut s p r := by
 obtain ⟨a, rfl⟩ := Int.eq_ofNat_of_zero_le h0;obtain ⟨b, rfl⟩ := Int.eq_ofNat_of_zero_le (show 0 <= q by omega);obtain ⟨c, rfl⟩ := Int.eq_ofNat_of_zero_le (show 0 <= r by omega);unfold cut;rw [show ((b : Int) - (a : Int)).toNat = b - a by omega, show ((c : Int) - (b : Int)).toNat = c - b by omega, show ((c : Int) - (a : Int)).toNat = (b - a) + (c - b) by omega];rw [List.take_add, List.drop_drop];simp only [Int.toNat_natCast];rw [show a + (b - a) = b by omega]
theorem cut_self (s : List UInt8) (p : Int) : cut s p p = [] := by unfold cut; simp
theorem cut_len (s : List UInt8) {p q : Int} (h0 : 0 <= p) (h1 : p <= q) (h2 : q <= s.length) : ((cut s p q).length : Int) = q - p := by
 unfold cut;rw [List.length_take, List.length_drop];omega
theorem ul (s : List UInt8) (p : Int) {n q : Int} (h : rdAt s p = (n, q, 0)) : num n = cut s p q := by
 obtain ⟨h0, h1, h2, h3, hn, hq, hr⟩ := qC s p h;obtain ⟨hle, hg, hv, _, _, _⟩ := rd_ok _ hr;unfold num cut;rw [hn, zigzag_unzz, hv, Zf _ hg, hq, show (p + ((rd (s.drop p.toNat)).2.2 : Int) - p).toNat = (rd (s.drop p.toNat)).2.2 by omega]
theorem text_once (s : List UInt8) (p : Int) {l : List UInt8} {q : Int} (h : txt s p = (l, q, 0)) : textOf l = (cut s p q, 0) /\ 0 <= p /\ p <= q /\ q <= s.length := by
 unfold txt at h;obtain ⟨⟨n, a, e⟩, hc⟩ : ∃ t, count s p 4096 = t := ⟨_, rfl⟩;rw [hc] at h;unfold txtOf at h;by_cases he : e = 0
 ·subst he
  obtain ⟨c1, c2, c3, c4, c5, hr⟩ := qx s p 4096 hc;have hok := qC s p hr;rw [if_neg (by simp)] at h;by_cases hs : (s.length : Int) - a < n
  ·rw [if_pos hs] at h; simp at h
  ·rw [if_neg hs] at h
   simp only [Prod.mk.injEq, and_true] at h;obtain ⟨hl, hq⟩ := h;have hlen : (l.length : Int) = n := by rw [<- hl, List.length_take, List.length_drop]; omega
   have hl2 : l = cut s a q := by unfold cut; rw [<- hl, <- hq]; congr 1; omega
   refine ⟨?_, hok.1, by omega, by omega⟩;unfold textOf;rw [if_neg (by omega), hlen, ul s p hr];congr 1
   rw [hl2];exact uU s hok.1 (by omega) (by omega)
 ·rw [if_pos he] at h; simp at h; exact absurd h.2.2 he
theorem qm {α : Type} (item : Int -> α × Int × Int) (lay : α -> List UInt8 × Int) (s : List UInt8)
 (hit : ∀ p x q, item p = (x, q, 0) -> lay x = (cut s p q, 0) /\ 0 <= p /\ p <= q /\ q <= s.length) :
 ∀ (k : Nat) (p : Int) (xs : List α) (q : Int), 0 <= p -> p <= s.length -> items item k p = (xs, q, 0) -> layAll lay xs = (cut s p q, 0) /\ p <= q /\ q <= s.length /\ xs.length = k
 | 0, p, xs, q, h0, h1, h => by
  simp only [items, Prod.mk.injEq, and_true] at h;obtain ⟨rfl, rfl⟩ := h;exact ⟨by rw [cut_self]; rfl, Int.le_refl _, h1, rfl⟩
 | k + 1, p, xs, q, h0, h1, h => by
  obtain ⟨⟨x, p', e⟩, hx⟩ : ∃ t, item p = t := ⟨_, rfl⟩;by_cases he : e = 0
  ·subst he
   obtain ⟨hl, _, i2, i3⟩ := hit p x p' hx;rw [uf _ _ _ hx] at h;obtain ⟨⟨r, q', e'⟩, hr⟩ : ∃ t, items item k p' = t := ⟨_, rfl⟩;rw [hr] at h;by_cases he' : e' = 0
   ·subst he'
    simp [app] at h;obtain ⟨rfl, rfl⟩ := h;obtain ⟨g1, g2, g3, g4⟩ := qm item lay s hit k p' r q' (by omega) i3 hr;refine ⟨?_, by omega, g3, by simp [g4]⟩;simp only [layAll, hl, g1];simp [comb, uU s h0 i2 g2]
   ·rw [app_err' _ _ (by exact he')] at h; simp at h; exact absurd h.2.2 he'
  ·rw [Z9 _ _ _ hx he] at h; simp at h; exact absurd h.2.2 he
theorem list_once {α : Type} (item : Int -> α × Int × Int) (lay : α -> List UInt8 × Int) (s : List UInt8)
 (hit : ∀ p x q, item p = (x, q, 0) -> lay x = (cut s p q, 0) /\ 0 <= p /\ p <= q /\ q <= s.length) (p : Int) (xs : List α) (q : Int) (h : listOf item (count s p 256) = (xs, q, 0)) :
 layList lay xs = (cut s p q, 0) /\ 0 <= p /\ p <= q /\ q <= s.length := by
 obtain ⟨⟨n, a, e⟩, hc⟩ : ∃ t, count s p 256 = t := ⟨_, rfl⟩;rw [hc] at h;unfold listOf at h;by_cases he : e = 0
 ·subst he
  obtain ⟨c1, c2, c3, c4, c5, hr⟩ := qx s p 256 hc;have hok := qC s p hr;rw [if_neg (by simp)] at h;obtain ⟨g1, g2, g3, g4⟩ := qm item lay s hit n.toNat a xs q c4 c5 h;refine ⟨?_, hok.1, by omega, g3⟩;unfold layList;have hn : (xs.length : Int) = n := by omega
  rw [if_neg (by omega), hn, ul s p hr, g1];simp [comb, uU s hok.1 (show p <= a by omega) g2]
 ·rw [if_pos he] at h; simp at h; exact absurd h.2.2 he
theorem nums_once (s : List UInt8) (p : Int) {xs : List Int} {q : Int} (h : nums s p = (xs, q, 0)) : layList numOf xs = (cut s p q, 0) /\ 0 <= p /\ p <= q /\ q <= s.length :=
 list_once (rdAt s) numOf s (fun p x q hx => by
  have hok := qC s p hx;exact ⟨by unfold numOf; rw [ul s p hx], hok.1, by omega, hok.2.2.1⟩) p xs q h
theorem jG {α : Type} (item : Int -> α × Int × Int) (ok : α -> Prop) (hit : ∀ p x q, item p = (x, q, 0) -> ok x) : ∀ (k : Nat) (p : Int) (xs : List α) (q : Int), items item k p = (xs, q, 0) -> ∀ x ∈ xs, ok x
 | 0, p, xs, q, h => by
  simp only [items, Prod.mk.injEq] at h;rw [<- h.1];simp
 | k + 1, p, xs, q, h => by
  obtain ⟨⟨x, p', e⟩, hx⟩ : ∃ t, item p = t := ⟨_, rfl⟩;by_cases he : e = 0
  ·subst he
   rw [uf _ _ _ hx] at h;obtain ⟨⟨r, q', e'⟩, hr⟩ : ∃ t, items item k p' = t := ⟨_, rfl⟩;rw [hr] at h;by_cases he' : e' = 0
   ·subst he'
    simp [app] at h;obtain ⟨rfl, rfl⟩ := h;intro y hy;rcases List.mem_cons.1 hy with rfl | hy
    ·exact hit p _ p' hx
    ·exact jG item ok hit k p' r q' hr y hy
   ·rw [app_err' _ _ (by exact he')] at h; simp at h; exact absurd h.2.2 he'
  ·rw [Z9 _ _ _ hx he] at h; simp at h; exact absurd h.2.2 he
theorem Zo {α : Type} (item : Int -> α × Int × Int) (ok : α -> Prop) (hit : ∀ p x q, item p = (x, q, 0) -> ok x) (c : Int × Int × Int) (xs : List α) (q : Int) (h : listOf item c = (xs, q, 0)) : ∀ x ∈ xs, ok x := by
 unfold listOf at h;by_cases he : c.2.2 = 0
 ·rw [if_neg (by simp [he])] at h
  exact jG item ok hit _ _ xs q h
 ·rw [if_pos he] at h; simp at h; exact absurd h.2.2 he
end Go.Proofs.YtaidhoepnefcpaaGreat.V
