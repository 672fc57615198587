/-
  Plain mathematics of layer 1 (varint): no program is named here.
  Contracts: varint's fold and Number, the reference's digits and Number.
  Plain mathematics: reading a number's bytes. No program is named here.
  Contracts: varint's unfold and ReadNumber, the reference's ReadNumber.
-/
import Derived.Lib.Varint
import Derived.Lib.Zigzag
import Derived.Laws.Concat
import Derived.Lib.Strings
import Derived.Test.YtelcemfaijjcbaaGreatDoorProg
import Derived.WalkKit
import Derived.WalkSpells
import Derived.WalkLawsBesides
import Derived.Lib.Hide
import Derived.Lib.UnsafeStr
import Derived.Laws.IdiomStrings
import Derived.Lib.VarintMem
import Derived.Lib.BufferRead
import Derived.RegionCalls
import Derived.Deep.RegionWith
import Derived.Deep.QuietTactic
import Derived.BigQuiet
namespace Go.Proofs.YtelcemfaijjcbaaGreatDoor.V
open Go

/-- A number's bytes. -/
def num (n : Int) : List UInt8 := Lib.uvarint (Lib.zigzag n)

theorem num_len (n : Int) (h0 : -9223372036854775808 ≤ n) (h1 : n ≤ 9223372036854775807) : (num n).length ≤ 10 := Lib.uvarint_length64 (Lib.zigzag_lt h0 h1)
theorem num_pos (n : Int) : 1 ≤ (num n).length := Lib.uvarint_pos _

/-- A string that is given by its bytes. -/
def str (l : List UInt8) : ByteArray := ⟨l.toArray⟩
theorem str_size (l : List UInt8) : (str l).size = l.length := by simp [str, ByteArray.size]
theorem str_data (l : List UInt8) : (str l).data.toList = l := by simp [str]
theorem str_eq (s : ByteArray) : str s.data.toList = s := by obtain ⟨⟨l⟩⟩ := s; rfl
theorem str_toList (l : List UInt8) : (str l).toList = l := by rw [Lib.toList_data]; exact str_data l
theorem str_append (a b : List UInt8) : str a ++ str b = str (a ++ b) := by unfold str; exact ByteArray.mk_append_mk a b
theorem str_inj {a b : List UInt8} (h : str a = str b) : a = b := by rw [← str_data a, h, str_data]

end Go.Proofs.YtelcemfaijjcbaaGreatDoor.V

namespace Go.Proofs.YtelcemfaijjcbaaGreatDoor.V
open Go.RowKit

/-- A text as a value. -/
def sv (l : List UInt8) : Value := .string (str l)

theorem ret_int {k : IntKind} {a b : Int} (h : a = b) : Ending.returned (.int k a) = .returned (.int k b) := by rw [h]
theorem ret_str {a b : ByteArray} (h : a = b) : Ending.returned (.string a) = .returned (.string b) := by rw [h]

/-- Behind a call that leaves all below alone: cells and marks below read as before. -/
theorem bcell {B : Nat} {W w1 : World} (hb : Below B W w1) : (∀ b o, b < B → w1.cell? ⟨b, o, none⟩ = W.cell? ⟨b, o, none⟩) ∧ (∀ b o, b < B → w1.frozen? ⟨b, o, none⟩ = W.frozen? ⟨b, o, none⟩) :=
  ⟨fun b o h => hb.cell (p := ⟨b, o, none⟩) h, fun b o h => hb.frozen (p := ⟨b, o, none⟩) h⟩

/-- 'string([]byte{c})'. -/
theorem run_one_byte (W : World) (q : Addr) (c : Nat) (hc : c < 256) (h : W.cell? q = some (.int .u8 (c : Int))) :
    (convert 66 9 (.slice (some q) 1 1)).run Tryz.prog W = .ok (.string (str [c.toUInt8])) W := by
  have hl : ([c.toUInt8] : List UInt8).length = 1 := rfl
  have := run_convert_bytes_back (P := Tryz.prog) W 66 9 5 q 1 [c.toUInt8] Tryz.underlying66 Tryz.underlying5 Tryz.underlying9 (fun j hj => by
    obtain rfl : j = 0 := by simpa using hj
    simp only [List.getElem_cons_zero]
    rw [show (c.toUInt8).toNat = c from Lib.toUInt8_toNat hc]
    simpa [Addr.add] using h)
  exact this

theorem fold_neg (n : Int) (w : World) (h0 : n < 0) (h1 : -9223372036854775808 ≤ n) :
    Calls Tryz.prog 88 #[.int .i64 n] w fun e w' => e = .returned (.int .u64 (Lib.zigzag n)) ∧ w = w' := by
  have hz : ((Lib.zigzag n : Nat) : Int) = -(n + 1) * 2 + 1 := by unfold Lib.zigzag; rw [if_neg (by omega)]; omega
  have HZ := Lib.hid hz; clear hz
  go_enter Tryz.func88, Tryz.ntmps88
  go_wp2
  go_ret
  exact ⟨ret_int HZ.out.symm, rfl⟩

theorem fold_pos (n : Int) (w : World) (h0 : 0 ≤ n) (h1 : n ≤ 9223372036854775807) :
    Calls Tryz.prog 88 #[.int .i64 n] w fun e w' => e = .returned (.int .u64 (Lib.zigzag n)) ∧ w = w' := by
  have hz : ((Lib.zigzag n : Nat) : Int) = n * 2 := Lib.zigzag_nonneg h0
  have HZ := Lib.hid hz; clear hz
  go_enter Tryz.func88, Tryz.ntmps88
  go_wp2
  go_ret
  exact ⟨ret_int HZ.out.symm, rfl⟩

theorem fold_any (n : Int) (w : World) (h0 : -9223372036854775808 ≤ n) (h1 : n ≤ 9223372036854775807) :
    Calls Tryz.prog 88 #[.int .i64 n] w fun e w' => e = .returned (.int .u64 (Lib.zigzag n)) ∧ w = w' := by
  by_cases h : n < 0
  · exact fold_neg n w h h0
  · exact fold_pos n w (by omega) h1

theorem heap_alloc_at (w : World) (o : Obj) : (w.alloc o).heap[w.heap.size]? = some o := by
  show (w.heap.push o)[w.heap.size]? = some o
  simp

/-- A row that starts as the one just made, with nothing in it. -/
theorem owns_made (w : World) (e : TypeId) (z : Value) (c : Nat) (hc : c ≤ maxLen) : (w.alloc (.cells (Array.replicate c z) e)).ownsRow w.heap.size e 1 (.slice (some ⟨w.heap.size, 0, none⟩) 0 c) 0 [] :=
  ⟨rfl, Or.inr ⟨w.heap.size, c, Array.replicate c z, rfl, Nat.le_refl _, heap_alloc_at _ _, by omega, hc, by simp, by simp⟩⟩

theorem owns_block {w : World} {base : Nat} {e : TypeId} {size : Nat} {v : Value} {n : Nat} {xs : List Value} (h : w.ownsRow base e size v n xs) : ∀ k, v.ownBlock = some k → base ≤ k := by
  intro k hk
  rcases h.2 with ⟨rfl, _⟩ | ⟨g, cap, cur, rfl, hg, _⟩
  · cases hk
  · simp only [Value.ownBlock, Option.some.injEq] at hk
    omega

/-- 'string(b)' of a row of bytes that the call owns. -/
theorem run_owned_str {w : World} {base : Nat} {v : Value} {n : Nat} {l : List UInt8} (h : w.ownsRow base 5 1 v n (Lib.byteCells l)) (hn : l.length = n) :
    (convert 66 9 v).run Tryz.prog w = .ok (.string (str l)) w := by
  subst hn
  rcases h.2 with ⟨rfl, h0⟩ | ⟨g, cap, cur, rfl, hg, hh, _, _, _, htk⟩
  · rw [List.length_eq_zero_iff] at h0
    subst h0
    exact Lib.run_convert_nil_bytes w 66 9 5 0 Tryz.underlying66 Tryz.underlying5 Tryz.underlying9
  · exact run_convert_bytes_back w 66 9 5 ⟨g, 0, none⟩ cap l Tryz.underlying66 Tryz.underlying5 Tryz.underlying9 (Lib.bytes_of_row hh (by simpa using htk))

theorem one_new (w : World) (v : Value) (e : TypeId) : ∀ (j : Nat) (u : Value), [v][j]? = some u → (w.alloc (.cells #[v] e)).cell? ((⟨w.heap.size, 0, none⟩ : Addr).add j) = some u := by
  intro j u hj
  match j, hj with
  | 0, hj => simp at hj; subst hj; simp [Addr.add]
theorem one_cell (k : IntKind) (n : Int) : ∀ u ∈ [Value.int k n], u.oneCell' = true := by intro u hu; simp at hu; subst hu; rfl

theorem Tryz.info5 : (Tryz.prog.info? 5).map (fun i => (i.zero, i.size, i.bytes)) = some (some (.int .u8 0), 1, 1) := by kernel_rfl

set_option maxHeartbeats 800000 in
set_option maxRecDepth 100000 in
/-- varint's Number. -/
theorem number_any (n : Int) (w : World) (h0 : -9223372036854775808 ≤ n) (h1 : n ≤ 9223372036854775807) :
    Calls Tryz.prog 66 #[.int .i64 n] w fun e w' => e = .returned (.string (str (num n))) ∧ Below w.heap.size w w' := by
  obtain ⟨i0, hi, hz0, hz1, hz2⟩ := info_parts Tryz.info5
  have hlt := Lib.zigzag_lt h0 h1
  have hlen := num_len n h0 h1
  have hmk : ∀ w, (Instr.makeSlice 66 (.int .i64 0) (.int .i64 10)).run Tryz.prog w = .ok (.slice (some ⟨w.heap.size, 0, none⟩) 0 10) (w.alloc (.cells (Array.replicate 10 (.int .u8 0)) 5)) := fun _ => by kernel_rfl
  have HLEN := Lib.hid hlen; clear hlen
  have HLT := Lib.hid hlt; clear hlt
  go_enter Tryz.func66, Tryz.ntmps66
  go_wp2_with (go_at_call 88; refine (fold_any _ _ h0 h1).mono ?_; rintro e w' ⟨rfl, rfl⟩)
  go_loopw [3, 4] (fun r v wr => ∃ (u : Nat) (acc : List UInt8), r = .int .u64 (u : Int) ∧ u ≤ Lib.zigzag n ∧ acc ++ Lib.uvarint u = num n ∧ wr.ownsRow w.heap.size 5 1 v acc.length (Lib.byteCells acc) ∧ Below w.heap.size w wr)
    (fun r _ _ => (intOf r).toNat)
  case atStart =>
    exact ⟨Lib.zigzag n, [], rfl, Nat.le_refl _, rfl, owns_made _ _ _ _ (by unfold maxLen; omega), (Below.refl _ _).alloc (Nat.le_refl _) _⟩
  case round =>
    obtain ⟨u, acc, rfl, hu, hacc, hown, hbel⟩ := hrel
    have hlen : acc.length + (Lib.uvarint u).length ≤ 10 := by rw [← List.length_append, hacc]; exact HLEN.out
    have hpos := Lib.uvarint_pos u
    have hu0 : 0 ≤ (u : Int) := by omega
    have HACC := Lib.hid hacc; clear hacc
    have hbs := hbel.size
    by_cases hs : (u : Int) < 128
    · have hm2 : IntKind.u8.wrap (u : Int) = (u : Int) := IntWalk.u8_in _ (by omega)
      have hall : acc ++ [u.toUInt8] = num n := by rw [← HACC.out, Lib.uvarint_small (by omega)]
      have HALL := Lib.hid hall; clear hall
      have hc4 : (acc.length + 1) * 1 ≤ 140737488355328 := by omega
      have hc5 : w.heap.size ≤ (wr.alloc (.cells #[.int .u8 (u : Int)] 5)).heap.size := by simp; omega
      have HC5 := Lib.hid hc5; clear hc5
      have HC4 := Lib.hid hc4; clear hc4
      clear h0 h1
      go_wp2_with (at_builtin; refine wpList_append_own _ rfl _ _ 66 rfl w.heap.size 5 i0 (.int .u8 0) 1 1 Tryz.underlying66 hi hz0 hz1 hz2 rfl (by decide) _ _ _ rfl (hown.alloc _) ⟨wr.heap.size, 0, none⟩ 1 1 [.int .u8 (u : Int)] rfl rfl (one_new _ _ _) (one_cell _ _) (by unfold maxLen; omega) HC4.out HC5.out ?_; intro v' w1 hown' hgrow hnn; clear hnn)
      have hb1 : Below w.heap.size w w1 := (hbel.alloc hbs _).grown hgrow HC5.out (owns_block hown)
      rw [← Lib.byteCells_snoc acc (show u < 256 by omega)] at hown'
      have hcv := run_owned_str hown' (by simp)
      rw [HALL.out] at hcv
      clear hgrow hown hown'
      go_wp2
      go_simp
      go_wp2
      go_ret
      exact ⟨rfl, hb1⟩
    · have hm2 : IntKind.u8.wrap ((u : Int) % 128) = (u : Int) % 128 := IntWalk.u8_in _ (by omega)
      have hor : bits .or .u8 ((u : Int) % 128) 128 = ((u % 128 + 128 : Nat) : Int) := by
        rw [Lib.u8_or128_any _ (by omega) (by omega)]; omega
      have hd1 : IntKind.u64.wrap ((u : Int) / 128) = (u : Int) / 128 := IntWalk.u64_in _ (by have := HLT.out; omega)
      have hbig := Lib.uvarint_big (x := u) (by omega)
      have hall : (acc ++ [(u % 128 + 128).toUInt8]) ++ Lib.uvarint (u / 128) = num n := by rw [← HACC.out, hbig]; simp
      have HALL := Lib.hid hall; clear hall hbig
      have hs' : 128 ≤ (u : Int) := by omega
      have hc4 : (acc.length + 1) * 1 ≤ 140737488355328 := by omega
      have hc5 : w.heap.size ≤ (wr.alloc (.cells #[.int .u8 ((u % 128 + 128 : Nat) : Int)] 5)).heap.size := by simp; omega
      have HC5 := Lib.hid hc5; clear hc5
      have HC4 := Lib.hid hc4; clear hc4
      clear hs h0 h1
      go_wp2_with (at_builtin; refine wpList_append_own _ rfl _ _ 66 rfl w.heap.size 5 i0 (.int .u8 0) 1 1 Tryz.underlying66 hi hz0 hz1 hz2 rfl (by decide) _ _ _ rfl (hown.alloc _) ⟨wr.heap.size, 0, none⟩ 1 1 [.int .u8 ((u % 128 + 128 : Nat) : Int)] rfl rfl (one_new _ _ _) (one_cell _ _) (by unfold maxLen; omega) HC4.out HC5.out ?_; intro v' w1 hown' hgrow hnn; clear hnn)
      have hb1 : Below w.heap.size w w1 := (hbel.alloc hbs _).grown hgrow HC5.out (owns_block hown)
      rw [← Lib.byteCells_snoc acc (show u % 128 + 128 < 256 by omega)] at hown'
      clear hgrow hown
      go_wp2
      go_roundw
      case rel => exact ⟨u / 128, acc ++ [(u % 128 + 128).toUInt8], by simp, by omega, HALL.out, by simpa using hown', hb1⟩
      case measure => simp [intOf]; omega
end Go.Proofs.YtelcemfaijjcbaaGreatDoor.V

namespace Go.Proofs.YtelcemfaijjcbaaGreatDoor.V
open Go

/-- What digits of the base 128 spell, the lowest first. -/
def val : List UInt8 → Nat
  | [] => 0
  | b :: r => b.toNat % 128 + 128 * val r

theorem val_append (a b : List UInt8) : val (a ++ b) = val a + 128 ^ a.length * val b := by
  induction a with
  | nil => simp [val]
  | cons x r ih =>
    simp only [List.cons_append, val, ih, List.length_cons, Nat.pow_succ]
    rw [Nat.mul_add, Nat.mul_comm (128 ^ r.length) 128, Nat.mul_assoc, ← Nat.add_assoc]

theorem val_lt (l : List UInt8) : val l < 128 ^ l.length := by
  induction l with
  | nil => simp [val]
  | cons b r ih =>
    simp only [val, List.length_cons, Nat.pow_succ]
    omega

theorem val_snoc (a : List UInt8) (b : UInt8) : val (a ++ [b]) = val a + 128 ^ a.length * (b.toNat % 128) := by
  rw [val_append]; simp [val]

/-- The way back from 0, 1, 2, 3 .. to 0, -1, 1, -2 .. -/
def unzz (u : Nat) : Int := if u % 2 = 0 then ((u / 2 : Nat) : Int) else -((u / 2 : Nat) : Int) - 1

theorem unzz_zigzag (n : Int) : unzz (Lib.zigzag n) = n := by
  unfold unzz Lib.zigzag
  split <;> split <;> omega
theorem zigzag_unzz (u : Nat) : Lib.zigzag (unzz u) = u := by
  unfold unzz Lib.zigzag
  split <;> split <;> omega

/-- How many bytes from 128 on lead. -/
def lead : List UInt8 → Nat
  | [] => 0
  | b :: r => if 128 ≤ b.toNat then lead r + 1 else 0

theorem lead_le : ∀ l : List UInt8, lead l ≤ l.length
  | [] => Nat.le_refl _
  | b :: r => by
    have := lead_le r
    unfold lead
    split <;> simp <;> omega

theorem lead_of : ∀ (l : List UInt8) (k : Nat), (∀ j (h : j < l.length), j < k → 128 ≤ l[j].toNat) → (∀ h : k < l.length, l[k].toNat < 128) → k ≤ l.length → lead l = k
  | [], k, _, _, h3 => by simp at h3; simp [lead, h3]
  | b :: r, 0, _, h2, _ => by
    have := h2 (by simp)
    simp at this
    simp [lead]; omega
  | b :: r, k + 1, h1, h2, h3 => by
    have hb := h1 0 (by simp) (by omega)
    simp at hb
    have := lead_of r k (fun j hj hk => by have := h1 (j + 1) (by simpa using hj) (by omega); simpa using this) (fun hk => by have := h2 (by simpa using hk); simpa using this) (by simpa using h3)
    simp [lead, hb, this]

theorem lead_ge : ∀ (l : List UInt8) (k : Nat), (∀ j (h : j < l.length), j < k → 128 ≤ l[j].toNat) → k ≤ l.length → k ≤ lead l
  | _, 0, _, _ => Nat.zero_le _
  | [], k + 1, _, h3 => by simp at h3
  | b :: r, k + 1, h1, h3 => by
    have hb := h1 0 (by simp) (by omega)
    simp at hb
    have := lead_ge r k (fun j hj hk => by have := h1 (j + 1) (by simpa using hj) (by omega); simpa using this) (by simpa using h3)
    simp [lead, hb, this]

theorem lead_high : ∀ (l : List UInt8) (j : Nat) (h : j < l.length), j < lead l → 128 ≤ l[j].toNat
  | [], _, h, _ => by simp at h
  | b :: r, 0, _, hj => by
    unfold lead at hj
    split at hj
    · simpa using ‹128 ≤ b.toNat›
    · omega
  | b :: r, j + 1, h, hj => by
    unfold lead at hj
    split at hj
    · simpa using lead_high r j (by simpa using h) (by omega)
    · omega

theorem lead_low : ∀ (l : List UInt8) (h : lead l < l.length), l[lead l].toNat < 128
  | [], h => by simp at h
  | b :: r, h => by
    by_cases hb : 128 ≤ b.toNat
    · have e : lead (b :: r) = lead r + 1 := by simp [lead, hb]
      have := lead_low r (by rw [e] at h; simpa using h)
      simp only [e, List.getElem_cons_succ]
      exact this
    · have e : lead (b :: r) = 0 := by simp [lead, hb]
      simp only [e, List.getElem_cons_zero]
      omega

/-- What stands at a list's head, read as a number: an error's number, what the digits spell, how many bytes. -/
def rd (l : List UInt8) : Nat × Nat × Nat :=
  if 10 ≤ lead l then (6, 0, 0)
  else match l[lead l]? with
    | none => (5, 0, 0)
    | some b => if lead l = 9 ∧ 1 < b.toNat then (6, 0, 0) else if b.toNat = 0 ∧ 0 < lead l then (6, 0, 0) else (0, val (l.take (lead l + 1)), lead l + 1)

/-- .. at a place of a text: the number, the place behind it, the error's number. -/
def rdAt (s : List UInt8) (p : Int) : Int × Int × Int :=
  if p < 0 ∨ (s.length : Int) < p then (0, 0, 3)
  else if (rd (s.drop p.toNat)).1 = 0 then (unzz (rd (s.drop p.toNat)).2.1, p + (rd (s.drop p.toNat)).2.2, 0)
  else (0, 0, (rd (s.drop p.toNat)).1)

/-- The bytes of numbers: all but the last from 128 on, the last below, and not 0 but alone. -/
def good : List UInt8 → Prop
  | [] => False
  | [b] => b.toNat < 128
  | b :: r => 128 ≤ b.toNat ∧ good r ∧ r ≠ [0]

theorem good_pos : ∀ l : List UInt8, good l → l ≠ [0] → 1 ≤ val l
  | [], h, _ => h.elim
  | [b], h, h0 => by
    simp only [good] at h
    simp only [val]
    have : b.toNat ≠ 0 := fun e => h0 (by rw [show b = 0 from UInt8.toNat_inj.1 (by simpa using e)])
    omega
  | b :: c :: r, h, _ => by
    have := good_pos (c :: r) h.2.1 h.2.2
    simp only [val] at this ⊢
    omega

theorem uvarint_val : ∀ l : List UInt8, good l → Lib.uvarint (val l) = l
  | [], h => h.elim
  | [b], h => by
    simp only [good] at h
    have e : val [b] = b.toNat := by simp only [val]; omega
    rw [e, Lib.uvarint_small h]
    simp
  | b :: c :: r, h => by
    have h1 := good_pos (c :: r) h.2.1 h.2.2
    have ih := uvarint_val (c :: r) h.2.1
    have hb := h.1
    have hlt := b.toNat_lt
    have e : val (b :: c :: r) = b.toNat % 128 + 128 * val (c :: r) := rfl
    rw [e, Lib.uvarint_big (by omega)]
    rw [show (b.toNat % 128 + 128 * val (c :: r)) / 128 = val (c :: r) by omega, ih]
    congr 1
    rw [show (b.toNat % 128 + 128 * val (c :: r)) % 128 + 128 = b.toNat by omega]
    simp

theorem toU8 {n : Nat} (h : n < 256) : (n.toUInt8).toNat = n := by simp [Nat.toUInt8, UInt8.toNat_ofNat']; omega

theorem val_uvarint (u : Nat) : val (Lib.uvarint u) = u := by
  induction u using Nat.strongRecOn with
  | _ u ih =>
    by_cases h : u < 128
    · rw [Lib.uvarint_small h]; simp only [val]; rw [toU8 (by omega)]; omega
    · rw [Lib.uvarint_big (by omega)]; simp only [val]; rw [ih (u / 128) (by omega), toU8 (by omega)]; omega

theorem good_uvarint (u : Nat) : good (Lib.uvarint u) := by
  induction u using Nat.strongRecOn with
  | _ u ih =>
    by_cases h : u < 128
    · rw [Lib.uvarint_small h]; simp only [good]; rw [toU8 (by omega)]; omega
    · have hg := ih (u / 128) (by omega)
      rw [Lib.uvarint_big (by omega)]
      have hv := val_uvarint (u / 128)
      cases hr : Lib.uvarint (u / 128) with
      | nil => rw [hr] at hg; exact hg.elim
      | cons c r =>
        rw [hr] at hg hv
        refine ⟨by rw [toU8 (by omega)]; omega, hg, fun e => ?_⟩
        rw [e] at hv
        simp [val] at hv
        omega

theorem good_lead : ∀ p : List UInt8, good p → ∀ rest : List UInt8, lead (p ++ rest) = p.length - 1
  | [], h, _ => h.elim
  | [b], h, rest => by
    simp only [good] at h
    simp [lead]; omega
  | b :: c :: r, h, rest => by
    have := good_lead (c :: r) h.2.1 rest
    simp only [List.cons_append] at this ⊢
    unfold lead
    rw [if_pos h.1, this]
    simp

theorem good_last : ∀ p : List UInt8, good p → p ≠ [0] → ∀ b, p[p.length - 1]? = some b → b.toNat < 128 ∧ b.toNat ≠ 0 ∧ 128 ^ (p.length - 1) * b.toNat ≤ val p
  | [], h, _, _, _ => h.elim
  | [b], h, h0, b', hb => by
    simp at hb
    subst hb
    simp only [good] at h
    have : b.toNat ≠ 0 := fun e => h0 (by rw [show b = 0 from UInt8.toNat_inj.1 (by simpa using e)])
    simp [val]; omega
  | b :: c :: r, h, _, b', hb => by
    have := good_last (c :: r) h.2.1 h.2.2 b' (by simpa using hb)
    refine ⟨this.1, this.2.1, ?_⟩
    have h3 := this.2.2
    simp only [List.length_cons, Nat.add_sub_cancel, val] at h3 ⊢
    rw [Nat.pow_succ, Nat.mul_comm (128 ^ r.length) 128, Nat.mul_assoc]
    omega

theorem rd_good (p rest : List UInt8) (h : good p) (h64 : val p < 18446744073709551616) : rd (p ++ rest) = (0, val p, p.length) := by
  have hl := good_lead p h rest
  have hne : p ≠ [] := fun e => by rw [e] at h; exact h.elim
  have hlen : 1 ≤ p.length := by cases p with | nil => exact (hne rfl).elim | cons => simp
  obtain ⟨b, hb⟩ : ∃ b, p[p.length - 1]? = some b := ⟨_, List.getElem?_eq_getElem (by omega)⟩
  have hget : (p ++ rest)[p.length - 1]? = some b := by rw [List.getElem?_append_left (by omega), hb]
  have htake : (p ++ rest).take (p.length - 1 + 1) = p := by rw [Nat.sub_add_cancel hlen]; simp
  unfold rd
  rw [hl, hget, htake]
  by_cases h0 : p = [0]
  · subst h0
    simp at hb
    subst hb
    simp
  · obtain ⟨h1, h2, h3⟩ := good_last p h h0 b hb
    have hle : p.length ≤ 10 := by
      rcases Nat.lt_or_ge p.length 11 with h | h
      · omega
      · have e : (128 : Nat) ^ 10 ≤ 128 ^ (p.length - 1) := Nat.pow_le_pow_right (by decide) (by omega)
        have e2 : (128 : Nat) ^ (p.length - 1) ≤ 128 ^ (p.length - 1) * b.toNat := Nat.le_mul_of_pos_right _ (by omega)
        have e3 : (128 : Nat) ^ 10 = 1180591620717411303424 := by decide
        omega
    rw [if_neg (by omega)]
    have hn9 : ¬ (p.length - 1 = 9 ∧ 1 < b.toNat) := by
      rintro ⟨e9, hb1⟩
      rw [e9] at h3
      have e3 : (128 : Nat) ^ 9 = 9223372036854775808 := by decide
      rw [e3] at h3
      omega
    simp only
    rw [if_neg hn9, if_neg (by omega), Nat.sub_add_cancel hlen]

theorem good_take (l : List UInt8) (n : Nat) (h1 : ∀ j (h : j < l.length), j < n → 128 ≤ l[j].toNat) (b : UInt8) (hb : l[n]? = some b) (h2 : b.toNat < 128) (h3 : ¬ (b.toNat = 0 ∧ 0 < n)) : good (l.take (n + 1)) := by
  induction n generalizing l with
  | zero =>
    cases l with
    | nil => simp at hb
    | cons x r => simp at hb; subst hb; simpa [good] using h2
  | succ n ih =>
    cases l with
    | nil => simp at hb
    | cons x r =>
      have hx := h1 0 (by simp) (by omega)
      simp at hx hb
      have hg : good (r.take (n + 1)) := by
        by_cases h0 : b.toNat = 0
        · exact absurd ⟨h0, by omega⟩ h3
        · exact ih r (fun j hj hk => by have := h1 (j + 1) (by simpa using hj) (by omega); simpa using this) hb (by omega)
      rw [List.take_succ_cons]
      cases hr : r.take (n + 1) with
      | nil => rw [hr] at hg; exact hg.elim
      | cons c q =>
        refine ⟨hx, hr ▸ hg, fun e => ?_⟩
        rw [e] at hr
        have hb' : (r.take (n + 1))[n]? = some b := by rw [List.getElem?_take_of_lt (by omega)]; exact hb
        rw [hr] at hb'
        cases n with
        | zero => simp at hb'; subst hb'; simp at h3
        | succ n => simp at hb'

theorem rd_ok (l : List UInt8) (h : (rd l).1 = 0) :
    (rd l).2.2 ≤ l.length ∧ good (l.take (rd l).2.2) ∧ (rd l).2.1 = val (l.take (rd l).2.2) ∧ (rd l).2.1 < 18446744073709551616 ∧ (rd l).2.2 ≤ 10 ∧ 1 ≤ (rd l).2.2 := by
  have hle := lead_le l
  have hhi := lead_high l
  have hlo := lead_low l
  unfold rd at h ⊢
  by_cases h10 : 10 ≤ lead l
  · simp [h10] at h
  · simp only [if_neg h10] at h ⊢
    cases hb : l[lead l]? with
    | none => simp [hb] at h
    | some b =>
      simp only [hb] at h ⊢
      obtain ⟨hlt, hbe⟩ := List.getElem?_eq_some_iff.1 hb
      have hb128 : b.toNat < 128 := by rw [← hbe]; exact hlo hlt
      by_cases h9 : lead l = 9 ∧ 1 < b.toNat
      · simp [h9] at h
      · simp only [if_neg h9] at h ⊢
        by_cases h0 : b.toNat = 0 ∧ 0 < lead l
        · simp [h0] at h
        · simp only [if_neg h0]
          refine ⟨by omega, good_take l (lead l) (fun j hj hk => hhi j hj hk) b hb hb128 h0, by simp, ?_, by omega, by omega⟩
          have hsnoc : l.take (lead l + 1) = l.take (lead l) ++ [b] := by rw [List.take_add_one, hb]; rfl
          rw [hsnoc, val_snoc]
          have hv := val_lt (l.take (lead l))
          have hlen : (l.take (lead l)).length = lead l := by simp; omega
          rw [hlen] at hv ⊢
          have hm : b.toNat % 128 = b.toNat := by omega
          rw [hm]
          by_cases h99 : lead l = 9
          · rw [h99] at hv ⊢
            have hb1 : b.toNat ≤ 1 := by omega
            have e : (128 : Nat) ^ 9 = 9223372036854775808 := by decide
            rw [e] at hv ⊢
            have : 9223372036854775808 * b.toNat ≤ 9223372036854775808 * 1 := Nat.mul_le_mul_left _ hb1
            omega
          · have e8 : (128 : Nat) ^ (lead l) ≤ 128 ^ 8 := Nat.pow_le_pow_right (by decide) (by omega)
            have e : (128 : Nat) ^ 8 = 72057594037927936 := by decide
            have : 128 ^ lead l * b.toNat ≤ 128 ^ 8 * 127 := Nat.mul_le_mul e8 (by omega)
            rw [e] at this e8
            omega

theorem size_list (s : ByteArray) : s.size = s.data.toList.length := by rw [Array.length_toList]; rfl

theorem rdAt_in (l : List UInt8) (p : Nat) (h : p ≤ l.length) :
    rdAt l p = if (rd (l.drop p)).1 = 0 then (unzz (rd (l.drop p)).2.1, (p : Int) + (rd (l.drop p)).2.2, 0) else (0, 0, ((rd (l.drop p)).1 : Int)) := by
  unfold rdAt
  rw [if_neg (by omega)]
  simp

theorem byte_at (s : ByteArray) (p k : Nat) (h : p + k < s.size) : ∃ b : Nat, (s[p + k]'h).toNat = b ∧ ∃ c : UInt8, c.toNat = b ∧ (s.data.toList.drop p)[k]? = some c :=
  ⟨_, rfl, s[p + k]'h, rfl, by rw [List.getElem?_drop, List.getElem?_eq_getElem (by rw [← size_list]; exact h)]; rfl⟩

theorem rd_nine (l : List UInt8) (hhi : ∀ j (hj : j < l.length), j < 9 → 128 ≤ l[j].toNat) {b : Nat} (hb : ∃ c : UInt8, c.toNat = b ∧ l[9]? = some c) (h1 : 1 < b) : rd l = (6, 0, 0) := by
  obtain ⟨c, rfl, hc⟩ := hb
  obtain ⟨hlt, hce⟩ := List.getElem?_eq_some_iff.1 hc
  by_cases hc128 : 128 ≤ c.toNat
  · have := lead_ge l 10 (fun j hj hk => by
      by_cases h9 : j = 9
      · subst h9; rw [hce]; exact hc128
      · exact hhi j hj (by omega)) (by omega)
    unfold rd
    rw [if_pos this]
  · have := lead_of l 9 hhi (fun h => by rw [hce]; omega) (by omega)
    unfold rd
    rw [this, if_neg (by decide), hc]
    simp [h1]

theorem rd_end (l : List UInt8) (k : Nat) (hk : k ≤ 9) (hhi : ∀ j (hj : j < l.length), j < k → 128 ≤ l[j].toNat) (hlen : l.length = k) : rd l = (5, 0, 0) := by
  have := lead_of l k hhi (fun h => by omega) (by omega)
  unfold rd
  rw [this, if_neg (by omega), List.getElem?_eq_none (by omega)]

theorem rd_zero (l : List UInt8) (k : Nat) (hk : k ≤ 9) (h0 : 0 < k) (hhi : ∀ j (hj : j < l.length), j < k → 128 ≤ l[j].toNat) (hb : ∃ c : UInt8, c.toNat = 0 ∧ l[k]? = some c) : rd l = (6, 0, 0) := by
  obtain ⟨c, hc0, hc⟩ := hb
  obtain ⟨hlt, hce⟩ := List.getElem?_eq_some_iff.1 hc
  have := lead_of l k hhi (fun h => by rw [hce]; omega) (by omega)
  unfold rd
  rw [this, if_neg (by omega), hc]
  simp [hc0, h0]

theorem rd_last (l : List UInt8) (k : Nat) (hk : k ≤ 9) (hhi : ∀ j (hj : j < l.length), j < k → 128 ≤ l[j].toNat) {b : Nat} (hb : ∃ c : UInt8, c.toNat = b ∧ l[k]? = some c) (h128 : b < 128) (h9 : ¬ (k = 9 ∧ 1 < b)) (h0 : ¬ (b = 0 ∧ 0 < k)) :
    rd l = (0, val (l.take k) + 128 ^ k * b, k + 1) := by
  obtain ⟨c, rfl, hc⟩ := hb
  obtain ⟨hlt, hce⟩ := List.getElem?_eq_some_iff.1 hc
  have := lead_of l k hhi (fun h => by rw [hce]; omega) (by omega)
  unfold rd
  rw [this, if_neg (by omega), hc]
  simp only
  rw [if_neg h9, if_neg h0, List.take_add_one, hc]
  simp only [Option.toList_some]
  rw [val_snoc, show (l.take k).length = k by simp; omega, show c.toNat % 128 = c.toNat by omega]

theorem val_next (l : List UInt8) (k : Nat) {b : Nat} (hb : ∃ c : UInt8, c.toNat = b ∧ l[k]? = some c) : val (l.take (k + 1)) = val (l.take k) + 128 ^ k * (b % 128) := by
  obtain ⟨c, rfl, hc⟩ := hb
  obtain ⟨hlt, hce⟩ := List.getElem?_eq_some_iff.1 hc
  rw [List.take_add_one, hc]
  simp only [Option.toList_some]
  rw [val_snoc, show (l.take k).length = k by simp; omega]

theorem high_next (l : List UInt8) (k : Nat) (hhi : ∀ j (hj : j < l.length), j < k → 128 ≤ l[j].toNat) {b : Nat} (hb : ∃ c : UInt8, c.toNat = b ∧ l[k]? = some c) (h : 128 ≤ b) : ∀ j (hj : j < l.length), j < k + 1 → 128 ≤ l[j].toNat := by
  obtain ⟨c, rfl, hc⟩ := hb
  obtain ⟨hlt, hce⟩ := List.getElem?_eq_some_iff.1 hc
  intro j hj hk
  by_cases e : j = k
  · subst e; rw [hce]; exact h
  · exact hhi j hj (by omega)

theorem rd_ten (l : List UInt8) (hhi : ∀ j (hj : j < l.length), j < 10 → 128 ≤ l[j].toNat) (hlen : 10 ≤ l.length) : rd l = (6, 0, 0) := by
  have := lead_ge l 10 hhi hlen
  unfold rd
  rw [if_pos this]

theorem val_drop (q : List UInt8) (j : Nat) (h : j < q.length) : val (q.drop j) = q[j].toNat % 128 + 128 * val (q.drop (j + 1)) := by
  rw [List.drop_eq_getElem_cons h]; rfl

theorem val_drop_le : ∀ (q : List UInt8) (j : Nat), val (q.drop j) ≤ val q
  | [], j => by simp
  | b :: r, 0 => Nat.le_refl _
  | b :: r, j + 1 => by
    have := val_drop_le r j
    simp only [List.drop_succ_cons, val]
    omega

/-- Bits laid above bits: 'a | d << 7 k'. -/
theorem lor_above (k A d : Nat) (hA : A < 128 ^ k) : A ||| d * 2 ^ (k * 7) = A + 128 ^ k * d := by
  have e : (128 : Nat) ^ k = 2 ^ (k * 7) := by rw [show (128 : Nat) = 2 ^ 7 by decide, ← Nat.pow_mul, Nat.mul_comm]
  rw [e] at hA ⊢
  rw [Nat.or_comm, Nat.mul_comm d, ← Nat.two_pow_add_eq_or_of_lt hA d, Nat.add_comm]

end Go.Proofs.YtelcemfaijjcbaaGreatDoor.V

namespace Go.Proofs.YtelcemfaijjcbaaGreatDoor.V
open Go.RowKit

theorem unfold_any (x : Int) (w : World) (h0 : 0 ≤ x) (h1 : x < 18446744073709551616) :
    Calls Tryz.prog 91 #[.int .u64 x] w fun e w' => e = .returned (.int .i64 (unzz x.toNat)) ∧ w = w' := by
  obtain ⟨u, rfl⟩ := Int.eq_ofNat_of_zero_le h0
  rw [Int.toNat_natCast]
  have hc : IntKind.i64.wrap ((u : Int) / 2) = (u : Int) / 2 := IntWalk.i64_in _ (by omega)
  have hl : (u : Int) / 2 ≤ 9223372036854775807 := by omega
  clear h1
  by_cases h : (u : Int) % 2 = 1
  · have hz : unzz u = -((u : Int) / 2) - 1 := by unfold unzz; rw [if_neg (by omega)]; omega
    have HZ := Lib.hid hz; clear hz
    have hb : ((u : Int) % 2 == 1) = true := by simp [h]
    clear h
    go_enter Tryz.func91, Tryz.ntmps91
    go_wp2
    go_ret
    exact ⟨ret_int HZ.out.symm, rfl⟩
  · have hz : unzz u = ((u : Int) / 2) := by unfold unzz; rw [if_pos (by omega)]; omega
    have HZ := Lib.hid hz; clear hz
    have hb : ((u : Int) % 2 == 1) = false := by simp [h]
    clear h
    go_enter Tryz.func91, Tryz.ntmps91
    go_wp2
    go_ret
    exact ⟨ret_int HZ.out.symm, rfl⟩

theorem pow_le56 {k : Nat} (hk : k < 9) : (128 : Nat) ^ k ≤ 72057594037927936 := by
  have e : (128 : Nat) ^ 8 = 72057594037927936 := by decide
  exact e ▸ Nat.pow_le_pow_right (by decide) (by omega)
theorem small_next (k A d : Nat) (hk : k < 9) (hA : A < 128 ^ k) (hd : d < 128) : A + 128 ^ k * d < 9223372036854775808 := by
  have h1 := pow_le56 hk
  have h2 : 128 ^ k * d ≤ 72057594037927936 * 127 := Nat.mul_le_mul h1 (by omega)
  omega
theorem or_wrap (k A b : Nat) (hk : k < 9) (hA : A < 128 ^ k) (hd : b % 128 < 128) :
    bits .or .u64 (A : Int) (IntKind.u64.wrap ((b : Int) % 128 * 2 ^ (k * 7))) = ((A + 128 ^ k * (b % 128) : Nat) : Int) := by
  have h1 := pow_le56 hk
  have e : (2 : Nat) ^ (k * 7) = 128 ^ k := by rw [show (128 : Nat) = 2 ^ 7 by decide, ← Nat.pow_mul, Nat.mul_comm]
  have h2 : b % 128 * 2 ^ (k * 7) ≤ 127 * 72057594037927936 := Nat.mul_le_mul (by omega) (by rw [e]; exact h1)
  have hc : (b : Int) % 128 * 2 ^ (k * 7) = ((b % 128 * 2 ^ (k * 7) : Nat) : Int) := by simp
  rw [hc, IntWalk.u64_in _ (by omega), bits_or_u64_nat _ _ (by omega) (by omega), lor_above k A _ hA]

theorem ret_three {k k' k'' : IntKind} {a a' b b' c c' : Int} (h : (a, b, c) = (a', b', c')) : Ending.returned (.tuple #[.int k a, .int k' b, .int k'' c]) = .returned (.tuple #[.int k a', .int k' b', .int k'' c']) := by
  obtain ⟨rfl, rfl, rfl⟩ : a = a' ∧ b = b' ∧ c = c' := by simpa using h
  rfl

set_option maxHeartbeats 1000000 in
set_option maxRecDepth 100000 in
/-- varint's ReadNumber, at a place out of range. -/
theorem readNumber_out (s : ByteArray) (p : Int) (w : World) (h : p < 0 ∨ (s.size : Int) < p) :
    Calls Tryz.prog 73 #[.string s, .int .i64 p] w fun e w' => e = .returned (.tuple #[.int .i64 0, .int .i64 0, .int .i64 3]) ∧ w = w' := by
  by_cases h0 : p < 0
  · go_enter Tryz.func73, Tryz.ntmps73
    go_wp2
    go_ret3
    exact ⟨rfl, rfl⟩
  · have h1 : (s.size : Int) < p := by omega
    go_enter Tryz.func73, Tryz.ntmps73
    go_wp2
    go_ret3
    exact ⟨rfl, rfl⟩

set_option maxHeartbeats 1000000 in
set_option maxRecDepth 100000 in
/-- varint's ReadNumber, at a place in range. -/
theorem readNumber_in (s : ByteArray) (p : Nat) (w : World) (h : p ≤ s.size) (hs : s.size ≤ 140737488355328) :
    Calls Tryz.prog 73 #[.string s, .int .i64 p] w fun e w' => 
      e = .returned (.tuple #[.int .i64 (rdAt s.data.toList p).1, .int .i64 (rdAt s.data.toList p).2.1, .int .i64 (rdAt s.data.toList p).2.2]) ∧ w = w' := by
  have h0 : ¬ (p : Int) < 0 := by omega
  have h1 : ¬ (s.size : Int) < (p : Int) := by omega
  have hfin : ∀ (e : Ending) (w' : World) (x : Int × Int × Int), rdAt s.data.toList p = x → e = .returned (.tuple #[.int .i64 x.1, .int .i64 x.2.1, .int .i64 x.2.2]) ∧ w = w' → e = .returned (.tuple #[.int .i64 (rdAt s.data.toList p).1, .int .i64 (rdAt s.data.toList p).2.1, .int .i64 (rdAt s.data.toList p).2.2]) ∧ w = w' := by
    intro e w' x hx h; rw [hx]; exact h
  have HFIN := Lib.hid hfin; clear hfin
  have hat := rdAt_in s.data.toList p (by rw [← size_list]; exact h)
  have HAT := Lib.hid hat; clear hat
  go_enter Tryz.func73, Tryz.ntmps73
  go_wp2
  go_loop [7, 8] (fun f i => ∃ k A : Nat, k ≤ 9 ∧ p + k ≤ s.size ∧ Hid (A = val ((s.data.toList.drop p).take k)) ∧ Hid (∀ j (hj : j < (s.data.toList.drop p).length), j < k → 128 ≤ (s.data.toList.drop p)[j].toNat) ∧ i = .int .i64 ((p + k : Nat) : Int) ∧ f = .int .u64 (A : Int)) (fun _ i => s.size - (intOf i).toNat)
  case atStart => exact ⟨0, 0, by omega, by omega, rfl, fun j hj h => by omega, rfl, rfl⟩
  case round =>
    obtain ⟨k, A, hk9, hk, HA, HHI, rfl, rfl⟩ := hrel
    by_cases hlt : p + k < s.size
    · obtain ⟨b, hb, hget⟩ := byte_at s p k hlt
      have HGET := Lib.hid hget; clear hget
      have hb256 : (b : Int) < 256 := by have := (s[p + k]'hlt).toNat_lt; omega
      have hb0 : 0 ≤ (b : Int) := by omega
      have hAlt : A < 128 ^ k := by rw [HA.out]; exact Nat.lt_of_lt_of_le (val_lt _) (Nat.pow_le_pow_right (by decide) (by simp; omega))
      have HALT := Lib.hid hAlt; clear hAlt
      by_cases hk9' : k = 9
      · subst hk9'
        by_cases hb1 : 1 < (b : Int)
        · have hv := rd_nine (s.data.toList.drop p) HHI.out HGET.out (by omega)
          have HV := Lib.hid hv; clear hv
          go_wp2_with fail
          go_ret3
          exact HFIN.out _ _ _ (HAT.out.trans (by rw [HV.out])) ⟨rfl, rfl⟩
        · by_cases hbz : (b : Int) = 0
          · obtain rfl : b = 0 := by omega
            have hv := rd_zero (s.data.toList.drop p) 9 (by omega) (by omega) HHI.out HGET.out
            have HV := Lib.hid hv; clear hv
            go_wp2_with fail
            go_ret3
            exact HFIN.out _ _ _ (HAT.out.trans (by rw [HV.out])) ⟨rfl, rfl⟩
          · obtain rfl : b = 1 := by omega
            have hv := rd_last (s.data.toList.drop p) 9 (by omega) HHI.out HGET.out (by omega) (by omega) (by omega)
            rw [← HA.out] at hv
            have e9 : (128 : Nat) ^ 9 = 9223372036854775808 := by decide
            have hA9 : A < 9223372036854775808 := by have := HALT.out; rw [e9] at this; exact this
            have hor : bits .or .u64 (A : Int) 9223372036854775808 = ((A + 128 ^ 9 * 1 : Nat) : Int) := by
              have := bits_or_u64_nat A 9223372036854775808 (by omega) (by omega)
              rw [← lor_above 9 A 1 HALT.out]
              exact this
            have hx : A + 128 ^ 9 * 1 < 18446744073709551616 := by rw [e9]; omega
            generalize hX : A + 128 ^ 9 * 1 = X at hv hor hx
            have HV := Lib.hid hv
            have HX := Lib.hid hx
            clear hv hx hX hA9 e9
            go_wp2_with (go_at_call 91; refine (unfold_any _ _ (Int.natCast_nonneg X) (by have := HX.out; omega)).mono ?_; rintro e w' ⟨rfl, rfl⟩)
            go_ret3
            exact HFIN.out _ _ _ (HAT.out.trans (by rw [HV.out])) ⟨rfl, rfl⟩
      · have hk9 : k < 9 := by omega
        have hne9 : ((k : Int) == 9) = false := by simp; omega
        have hpk : (p : Int) + (k : Int) - (p : Int) = (k : Int) := by omega
        have hor : ∃ X : Nat, X = A + 128 ^ k * (b % 128) ∧ X < 9223372036854775808 ∧ bits .or .u64 (A : Int) (IntKind.u64.wrap ((b : Int) % 128 * 2 ^ (k * 7))) = (X : Int) := by
          refine ⟨_, rfl, ?_, ?_⟩
          · exact small_next k A _ hk9 HALT.out (Nat.mod_lt _ (by decide))
          · exact or_wrap k A _ hk9 HALT.out (Nat.mod_lt _ (by decide))
        obtain ⟨X, hX, hXlt, hor⟩ := hor
        have HX := Lib.hid hX; clear hX
        have HXL := Lib.hid hXlt; clear hXlt
        by_cases h128 : 128 ≤ (b : Int)
        · go_wp2_with fail
          go_round
          case rel => exact ⟨k + 1, X, by omega, by omega, by rw [HX.out, HA.out]; exact (val_next _ _ HGET.out).symm, high_next _ _ HHI.out HGET.out (by omega), by go_num, rfl⟩
          case measure => simp [intOf]; omega
        · by_cases hbk : b = 0 ∧ 0 < k
          · have hbz : ((b : Int) == 0) = true := by simp; omega
            have hk0 : 0 < (k : Int) := by omega
            have hv := rd_zero (s.data.toList.drop p) k (by omega) hbk.2 HHI.out (by have := HGET.out; rw [hbk.1] at this; exact this)
            have HV := Lib.hid hv; clear hv hbk
            go_wp2_with fail
            go_ret3
            exact HFIN.out _ _ _ (HAT.out.trans (by rw [HV.out])) ⟨rfl, rfl⟩
          · have hv := rd_last (s.data.toList.drop p) k (by omega) HHI.out HGET.out (by omega) (by omega) hbk
            rw [← HA.out, show A + 128 ^ k * b = X by rw [HX.out, Nat.mod_eq_of_lt (by omega)]] at hv
            have HV := Lib.hid hv; clear hv
            by_cases hb0' : b = 0
            · have hbz : ((b : Int) == 0) = true := by simp; omega
              have hk0 : ¬ 0 < (k : Int) := by omega
              clear hbk hb0'
              go_wp2_with (go_at_call 91; refine (unfold_any _ _ (Int.natCast_nonneg X) (by have := HXL.out; omega)).mono ?_; rintro e w' ⟨rfl, rfl⟩)
              go_ret3
              exact HFIN.out _ _ _ (HAT.out.trans (by rw [HV.out])) ⟨rfl, rfl⟩
            · have hbz : ((b : Int) == 0) = false := by simp; omega
              clear hbk hb0'
              go_wp2_with (go_at_call 91; refine (unfold_any _ _ (Int.natCast_nonneg X) (by have := HXL.out; omega)).mono ?_; rintro e w' ⟨rfl, rfl⟩)
              go_ret3
              exact HFIN.out _ _ _ (HAT.out.trans (by rw [HV.out])) ⟨rfl, rfl⟩
    · have hv := rd_end (s.data.toList.drop p) k (by omega) HHI.out (by rw [List.length_drop, ← size_list]; omega)
      have HV := Lib.hid hv; clear hv
      go_wp2_with fail
      go_ret3
      exact HFIN.out _ _ _ (HAT.out.trans (by rw [HV.out])) ⟨rfl, rfl⟩
end Go.Proofs.YtelcemfaijjcbaaGreatDoor.V
