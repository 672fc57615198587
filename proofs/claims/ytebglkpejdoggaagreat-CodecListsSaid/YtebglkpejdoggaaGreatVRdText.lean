/-
  Contracts: varint's fold and Number, the reference's digits and Number.
  Contracts: varint's unfold and ReadNumber, the reference's ReadNumber.
  Contract: the reference's ReadNumber.
  Contracts at any place; the statement's 'awake'.
  The library's strings.Builder (WriteString, String) and Clone at this dump: each one application of the shelf's own theorem.
  Contracts: counts and texts, the program's and the reference's.
-/
import Derived.Test.YtebglkpejdoggaaGreatProg
import Derived.Test.YtebglkpejdoggaaGreatVMath
import Derived.WalkKit
import Derived.WalkSpells
import Derived.WalkLawsBesides
import Derived.Lib.Hide
import Derived.Lib.UnsafeStr
import Derived.Laws.IdiomStrings
import Derived.Lib.VarintMem
import Derived.Lib.BufferRead
import Derived.RegionCalls
import Derived.Deep.RegionWith
import Derived.Test.YtebglkpejdoggaaGreatVInv
import Derived.Deep.QuietTactic
import Derived.BigQuiet
import Derived.Shelf.Strings.Builder1
import Derived.Shelf.LaysM
import Derived.Shelf.Strconv.Clone
namespace Go.Proofs.YtebglkpejdoggaaGreat.V
open Go.RowKit

/-- A text as a value. -/
def sv (l : List UInt8) : Value := .string (str l)

theorem ret_int {k : IntKind} {a b : Int} (h : a = b) : Ending.returned (.int k a) = .returned (.int k b) := by rw [h]
theorem ret_str {a b : ByteArray} (h : a = b) : Ending.returned (.string a) = .returned (.string b) := by rw [h]

/-- Behind a call that leaves all below alone: cells and marks below read as before. -/
theorem bcell {B : Nat} {W w1 : World} (hb : Below B W w1) : (∀ b o, b < B → w1.cell? ⟨b, o, none⟩ = W.cell? ⟨b, o, none⟩) ∧ (∀ b o, b < B → w1.frozen? ⟨b, o, none⟩ = W.frozen? ⟨b, o, none⟩) :=
  ⟨fun b o h => hb.cell (p := ⟨b, o, none⟩) h, fun b o h => hb.frozen (p := ⟨b, o, none⟩) h⟩

/-- 'string([]byte{c})'. -/
theorem run_one_byte (W : World) (q : Addr) (c : Nat) (hc : c < 256) (h : W.cell? q = some (.int .u8 (c : Int))) :
    (convert 143 9 (.slice (some q) 1 1)).run Tryz.prog W = .ok (.string (str [c.toUInt8])) W := by
  have hl : ([c.toUInt8] : List UInt8).length = 1 := rfl
  have := run_convert_bytes_back (P := Tryz.prog) W 143 9 5 q 1 [c.toUInt8] Tryz.underlying143 Tryz.underlying5 Tryz.underlying9 (fun j hj => by
    obtain rfl : j = 0 := by simpa using hj
    simp only [List.getElem_cons_zero]
    rw [show (c.toUInt8).toNat = c from Lib.toUInt8_toNat hc]
    simpa [Addr.add] using h)
  exact this

theorem fold_neg (n : Int) (w : World) (h0 : n < 0) (h1 : -9223372036854775808 ≤ n) :
    Calls Tryz.prog 116 #[.int .i64 n] w fun e w' => e = .returned (.int .u64 (Lib.zigzag n)) ∧ w = w' := by
  have hz : ((Lib.zigzag n : Nat) : Int) = -(n + 1) * 2 + 1 := by unfold Lib.zigzag; rw [if_neg (by omega)]; omega
  have HZ := Lib.hid hz; clear hz
  go_enter Tryz.func116, Tryz.ntmps116
  go_wp2
  go_ret
  exact ⟨ret_int HZ.out.symm, rfl⟩

theorem fold_pos (n : Int) (w : World) (h0 : 0 ≤ n) (h1 : n ≤ 9223372036854775807) :
    Calls Tryz.prog 116 #[.int .i64 n] w fun e w' => e = .returned (.int .u64 (Lib.zigzag n)) ∧ w = w' := by
  have hz : ((Lib.zigzag n : Nat) : Int) = n * 2 := Lib.zigzag_nonneg h0
  have HZ := Lib.hid hz; clear hz
  go_enter Tryz.func116, Tryz.ntmps116
  go_wp2
  go_ret
  exact ⟨ret_int HZ.out.symm, rfl⟩

theorem fold_any (n : Int) (w : World) (h0 : -9223372036854775808 ≤ n) (h1 : n ≤ 9223372036854775807) :
    Calls Tryz.prog 116 #[.int .i64 n] w fun e w' => e = .returned (.int .u64 (Lib.zigzag n)) ∧ w = w' := by
  by_cases h : n < 0
  · exact fold_neg n w h h0
  · exact fold_pos n w (by omega) h1

set_option maxHeartbeats 400000 in
theorem digits_one (n : Int) (w : World) (h0 : 0 ≤ n) (h : n < 128) :
    Calls Tryz.prog 89 #[.int .u64 n] w fun e w' => e = .returned (.string (str (Lib.uvarint n.toNat))) ∧ Below w.heap.size w w' := by
  obtain ⟨u, rfl⟩ := Int.eq_ofNat_of_zero_le h0
  rw [Int.toNat_natCast]
  have hcv := run_one_byte (w.alloc (.cells #[.int .u8 (u : Int)] 5)) ⟨w.heap.size, 0, none⟩ u (by omega) (by rw [World.cell?_alloc_at _ _ _ _ rfl]; rfl)
  go_enter Tryz.func89, Tryz.ntmps89
  go_wp2
  go_ret
  exact ⟨ret_str (by rw [Lib.uvarint_small (by omega)]), (Below.refl _ _).alloc (Nat.le_refl _) _⟩

set_option maxHeartbeats 400000 in
theorem digits_any (k : Nat) : ∀ (n : Int) (w : World), 0 ≤ n → n < 18446744073709551616 → n.toNat < 128 ^ (k + 1) →
    Calls Tryz.prog 89 #[.int .u64 n] w fun e w' => e = .returned (.string (str (Lib.uvarint n.toNat))) ∧ Below w.heap.size w w' := by
  induction k with
  | zero => intro n w h0 _ h; exact digits_one n w h0 (by omega)
  | succ k ih =>
    intro n w h0 h64 h
    by_cases h1 : n < 128
    · exact digits_one n w h0 h1
    · have hq : (n / 128).toNat < 128 ^ (k + 1) := by
        rw [Nat.pow_succ] at h
        rw [show (n / 128).toNat = n.toNat / 128 by omega]
        exact Nat.div_lt_of_lt_mul (by rw [Nat.mul_comm]; exact h)
      have HQ := Lib.hid hq; clear hq
      have IH := Lib.hid ih; clear ih
      have hu : 128 ≤ n := by omega
      have hm0 : n.tmod 128 = n % 128 := Int.tmod_eq_emod_of_nonneg (by omega)
      have hm1 : IntKind.u64.wrap (n % 128 + 128) = n % 128 + 128 := IntWalk.u64_in _ (by omega)
      have hm2 : IntKind.u8.wrap (n % 128 + 128) = n % 128 + 128 := IntWalk.u8_in _ (by omega)
      have hd0 : n.tdiv 128 = n / 128 := Int.tdiv_eq_ediv_of_nonneg (by omega)
      have hd1 : IntKind.u64.wrap (n / 128) = n / 128 := IntWalk.u64_in _ ⟨by omega, by omega⟩
      have hbig := Lib.uvarint_big (x := n.toNat) (by omega)
      rw [show n.toNat / 128 = (n / 128).toNat by omega] at hbig
      have hcv0 : ∀ W a, W.cell? a = some (.int .u8 (n % 128 + 128)) → (convert 143 9 (.slice (some a) 1 1)).run Tryz.prog W = .ok (.string (str [(n.toNat % 128 + 128).toUInt8])) W := fun W a ha =>
        run_one_byte W a (n.toNat % 128 + 128) (by omega) (by rw [ha]; congr 2; omega)
      obtain ⟨c, hc⟩ : ∃ c, (n.toNat % 128 + 128).toUInt8 = c := ⟨_, rfl⟩
      rw [hc] at hbig hcv0
      have hcv := hcv0; clear hcv0 hc
      have hl : n / 128 < 18446744073709551616 := by omega
      have HL := Lib.hid hl; clear hl
      have hsx : (str [c]).size ≤ 1 := by rw [str_size]; simp
      have hsy : (str (Lib.uvarint (n / 128).toNat)).size ≤ 10 := by rw [str_size]; exact Lib.uvarint_length64 (by have := HL.out; omega)
      have HBIG := Lib.hid hbig; clear hbig
      clear h h1 h0 h64
      go_enter Tryz.func89, Tryz.ntmps89
      go_wp2_with fail
      go_region_with (go_at_call 89; refine (IH.out _ _ (by omega) HL.out HQ.out).mono ?_; rintro e w1 ⟨rfl, hb⟩; obtain ⟨hc, hf⟩ := bcell hb)
      all_goals (go_wp2; go_ret; refine ⟨ret_str (by rw [HBIG.out, str_append]; rfl), ?_⟩)
      · exact (((Below.refl _ _).alloc (Nat.le_refl _) _).drew).trans (hb.mono (by simp))
      · exact (((Below.refl _ _).alloc (Nat.le_refl _) _).drew).trans (hb.mono (by simp))
      · exact ((Below.refl _ _).drew.trans hb).alloc hb.size _

theorem digits_of (n : Int) (w : World) (h0 : 0 ≤ n) (h : n < 18446744073709551616) :
    Calls Tryz.prog 89 #[.int .u64 n] w fun e w' => e = .returned (.string (str (Lib.uvarint n.toNat))) ∧ Below w.heap.size w w' :=
  digits_any 9 n w h0 h (by have : (128 : Nat) ^ (9 + 1) = 1180591620717411303424 := by decide
                            omega)

set_option maxHeartbeats 400000 in
/-- The reference's Number. -/
theorem refNumber_any (n : Int) (w : World) (h0 : -9223372036854775808 ≤ n) (h1 : n ≤ 9223372036854775807) :
    Calls Tryz.prog 41 #[.int .i64 n] w fun e w' => e = .returned (.string (str (num n))) ∧ Below w.heap.size w w' := by
  have hlt := Lib.zigzag_lt h0 h1
  have hfin : ∀ m : Int, m = Lib.zigzag n → Lib.uvarint m.toNat = num n := fun m hm => by rw [hm]; rfl
  have HF := Lib.hid hfin; clear hfin
  by_cases h : n < 0
  · have hz : -(n + 1) * 2 + 1 = Lib.zigzag n := by unfold Lib.zigzag; rw [if_neg (by omega)]; omega
    have hb : -(n + 1) * 2 + 1 < 18446744073709551616 := by omega
    have HZ := Lib.hid hz; clear hz
    have HB := Lib.hid hb; clear hb hlt h1
    go_enter Tryz.func41, Tryz.ntmps41
    go_wp2_with (go_at_call 89; refine (digits_of _ _ (by omega) HB.out).mono ?_; rintro e w' ⟨rfl, hb⟩)
    go_ret
    exact ⟨ret_str (by rw [HF.out _ HZ.out]), hb⟩
  · have hz : n * 2 = Lib.zigzag n := (Lib.zigzag_nonneg (by omega)).symm
    have hb : n * 2 < 18446744073709551616 := by omega
    have hn0 : 0 ≤ n := by omega
    have HZ := Lib.hid hz; clear hz
    have HB := Lib.hid hb; clear hb hlt h0 h
    go_enter Tryz.func41, Tryz.ntmps41
    go_wp2_with (go_at_call 89; refine (digits_of _ _ (by omega) HB.out).mono ?_; rintro e w' ⟨rfl, hb⟩)
    go_ret
    exact ⟨ret_str (by rw [HF.out _ HZ.out]), hb⟩

theorem heap_alloc_at (w : World) (o : Obj) : (w.alloc o).heap[w.heap.size]? = some o := by
  show (w.heap.push o)[w.heap.size]? = some o
  simp

/-- A row that starts as the one just made, with nothing in it. -/
theorem owns_made (w : World) (e : TypeId) (z : Value) (c : Nat) (hc : c ≤ maxLen) : (w.alloc (.cells (Array.replicate c z) e)).ownsRow w.heap.size e 1 (.slice (some ⟨w.heap.size, 0, none⟩) 0 c) 0 [] :=
  ⟨rfl, Or.inr ⟨w.heap.size, c, Array.replicate c z, rfl, Nat.le_refl _, heap_alloc_at _ _, by omega, hc, by simp, by simp⟩⟩

theorem owns_block {w : World} {base : Nat} {e : TypeId} {size : Nat} {v : Value} {n : Nat} {xs : List Value} (h : w.ownsRow base e size v n xs) : ∀ k, v.ownBlock = some k → base ≤ k := by
  intro k hk
  rcases h.2 with ⟨rfl, _⟩ | ⟨g, cap, cur, rfl, hg, _⟩
  · cases hk
  · simp only [Value.ownBlock, Option.some.injEq] at hk
    omega

/-- 'string(b)' of a row of bytes that the call owns. -/
theorem run_owned_str {w : World} {base : Nat} {v : Value} {n : Nat} {l : List UInt8} (h : w.ownsRow base 5 1 v n (Lib.byteCells l)) (hn : l.length = n) :
    (convert 143 9 v).run Tryz.prog w = .ok (.string (str l)) w := by
  subst hn
  rcases h.2 with ⟨rfl, h0⟩ | ⟨g, cap, cur, rfl, hg, hh, _, _, _, htk⟩
  · rw [List.length_eq_zero_iff] at h0
    subst h0
    exact Lib.run_convert_nil_bytes w 143 9 5 0 Tryz.underlying143 Tryz.underlying5 Tryz.underlying9
  · exact run_convert_bytes_back w 143 9 5 ⟨g, 0, none⟩ cap l Tryz.underlying143 Tryz.underlying5 Tryz.underlying9 (Lib.bytes_of_row hh (by simpa using htk))

theorem one_new (w : World) (v : Value) (e : TypeId) : ∀ (j : Nat) (u : Value), [v][j]? = some u → (w.alloc (.cells #[v] e)).cell? ((⟨w.heap.size, 0, none⟩ : Addr).add j) = some u := by
  intro j u hj
  match j, hj with
  | 0, hj => simp at hj; subst hj; simp [Addr.add]
theorem one_cell (k : IntKind) (n : Int) : ∀ u ∈ [Value.int k n], u.oneCell' = true := by intro u hu; simp at hu; subst hu; rfl

theorem Tryz.info5 : (Tryz.prog.info? 5).map (fun i => (i.zero, i.size, i.bytes)) = some (some (.int .u8 0), 1, 1) := by kernel_rfl

set_option maxHeartbeats 800000 in
set_option maxRecDepth 100000 in
/-- varint's Number. -/
theorem number_any (n : Int) (w : World) (h0 : -9223372036854775808 ≤ n) (h1 : n ≤ 9223372036854775807) :
    Calls Tryz.prog 83 #[.int .i64 n] w fun e w' => e = .returned (.string (str (num n))) ∧ Below w.heap.size w w' := by
  obtain ⟨i0, hi, hz0, hz1, hz2⟩ := info_parts Tryz.info5
  have hlt := Lib.zigzag_lt h0 h1
  have hlen := num_len n h0 h1
  have hmk : ∀ w, (Instr.makeSlice 143 (.int .i64 0) (.int .i64 10)).run Tryz.prog w = .ok (.slice (some ⟨w.heap.size, 0, none⟩) 0 10) (w.alloc (.cells (Array.replicate 10 (.int .u8 0)) 5)) := fun _ => by kernel_rfl
  have HLEN := Lib.hid hlen; clear hlen
  have HLT := Lib.hid hlt; clear hlt
  go_enter Tryz.func83, Tryz.ntmps83
  go_wp2_with (go_at_call 116; refine (fold_any _ _ h0 h1).mono ?_; rintro e w' ⟨rfl, rfl⟩)
  go_loopw [3, 4] (fun r v wr => ∃ (u : Nat) (acc : List UInt8), r = .int .u64 (u : Int) ∧ u ≤ Lib.zigzag n ∧ acc ++ Lib.uvarint u = num n ∧ wr.ownsRow w.heap.size 5 1 v acc.length (Lib.byteCells acc) ∧ Below w.heap.size w wr)
    (fun r _ _ => (intOf r).toNat)
  case atStart =>
    exact ⟨Lib.zigzag n, [], rfl, Nat.le_refl _, rfl, owns_made _ _ _ _ (by unfold maxLen; omega), (Below.refl _ _).alloc (Nat.le_refl _) _⟩
  case round =>
    obtain ⟨u, acc, rfl, hu, hacc, hown, hbel⟩ := hrel
    have hlen : acc.length + (Lib.uvarint u).length ≤ 10 := by rw [← List.length_append, hacc]; exact HLEN.out
    have hpos := Lib.uvarint_pos u
    have hu0 : 0 ≤ (u : Int) := by omega
    have HACC := Lib.hid hacc; clear hacc
    have hbs := hbel.size
    by_cases hs : (u : Int) < 128
    · have hm2 : IntKind.u8.wrap (u : Int) = (u : Int) := IntWalk.u8_in _ (by omega)
      have hall : acc ++ [u.toUInt8] = num n := by rw [← HACC.out, Lib.uvarint_small (by omega)]
      have HALL := Lib.hid hall; clear hall
      have hc4 : (acc.length + 1) * 1 ≤ 140737488355328 := by omega
      have hc5 : w.heap.size ≤ (wr.alloc (.cells #[.int .u8 (u : Int)] 5)).heap.size := by simp; omega
      have HC5 := Lib.hid hc5; clear hc5
      have HC4 := Lib.hid hc4; clear hc4
      clear h0 h1
      go_wp2_with (at_builtin; refine wpList_append_own _ rfl _ _ 143 rfl w.heap.size 5 i0 (.int .u8 0) 1 1 Tryz.underlying143 hi hz0 hz1 hz2 rfl (by decide) _ _ _ rfl (hown.alloc _) ⟨wr.heap.size, 0, none⟩ 1 1 [.int .u8 (u : Int)] rfl rfl (one_new _ _ _) (one_cell _ _) (by unfold maxLen; omega) HC4.out HC5.out ?_; intro v' w1 hown' hgrow hnn; clear hnn)
      have hb1 : Below w.heap.size w w1 := (hbel.alloc hbs _).grown hgrow HC5.out (owns_block hown)
      rw [← Lib.byteCells_snoc acc (show u < 256 by omega)] at hown'
      have hcv := run_owned_str hown' (by simp)
      rw [HALL.out] at hcv
      clear hgrow hown hown'
      go_wp2
      go_simp
      go_wp2
      go_ret
      exact ⟨rfl, hb1⟩
    · have hm2 : IntKind.u8.wrap ((u : Int) % 128) = (u : Int) % 128 := IntWalk.u8_in _ (by omega)
      have hor : bits .or .u8 ((u : Int) % 128) 128 = ((u % 128 + 128 : Nat) : Int) := by
        rw [Lib.u8_or128_any _ (by omega) (by omega)]; omega
      have hd1 : IntKind.u64.wrap ((u : Int) / 128) = (u : Int) / 128 := IntWalk.u64_in _ (by have := HLT.out; omega)
      have hbig := Lib.uvarint_big (x := u) (by omega)
      have hall : (acc ++ [(u % 128 + 128).toUInt8]) ++ Lib.uvarint (u / 128) = num n := by rw [← HACC.out, hbig]; simp
      have HALL := Lib.hid hall; clear hall hbig
      have hs' : 128 ≤ (u : Int) := by omega
      have hc4 : (acc.length + 1) * 1 ≤ 140737488355328 := by omega
      have hc5 : w.heap.size ≤ (wr.alloc (.cells #[.int .u8 ((u % 128 + 128 : Nat) : Int)] 5)).heap.size := by simp; omega
      have HC5 := Lib.hid hc5; clear hc5
      have HC4 := Lib.hid hc4; clear hc4
      clear hs h0 h1
      go_wp2_with (at_builtin; refine wpList_append_own _ rfl _ _ 143 rfl w.heap.size 5 i0 (.int .u8 0) 1 1 Tryz.underlying143 hi hz0 hz1 hz2 rfl (by decide) _ _ _ rfl (hown.alloc _) ⟨wr.heap.size, 0, none⟩ 1 1 [.int .u8 ((u % 128 + 128 : Nat) : Int)] rfl rfl (one_new _ _ _) (one_cell _ _) (by unfold maxLen; omega) HC4.out HC5.out ?_; intro v' w1 hown' hgrow hnn; clear hnn)
      have hb1 : Below w.heap.size w w1 := (hbel.alloc hbs _).grown hgrow HC5.out (owns_block hown)
      rw [← Lib.byteCells_snoc acc (show u % 128 + 128 < 256 by omega)] at hown'
      clear hgrow hown
      go_wp2
      go_roundw
      case rel => exact ⟨u / 128, acc ++ [(u % 128 + 128).toUInt8], by simp, by omega, HALL.out, by simpa using hown', hb1⟩
      case measure => simp [intOf]; omega
end Go.Proofs.YtebglkpejdoggaaGreat.V

namespace Go.Proofs.YtebglkpejdoggaaGreat.V
open Go.RowKit

theorem unfold_any (x : Int) (w : World) (h0 : 0 ≤ x) (h1 : x < 18446744073709551616) :
    Calls Tryz.prog 142 #[.int .u64 x] w fun e w' => e = .returned (.int .i64 (unzz x.toNat)) ∧ w = w' := by
  obtain ⟨u, rfl⟩ := Int.eq_ofNat_of_zero_le h0
  rw [Int.toNat_natCast]
  have hc : IntKind.i64.wrap ((u : Int) / 2) = (u : Int) / 2 := IntWalk.i64_in _ (by omega)
  have hl : (u : Int) / 2 ≤ 9223372036854775807 := by omega
  clear h1
  by_cases h : (u : Int) % 2 = 1
  · have hz : unzz u = -((u : Int) / 2) - 1 := by unfold unzz; rw [if_neg (by omega)]; omega
    have HZ := Lib.hid hz; clear hz
    have hb : ((u : Int) % 2 == 1) = true := by simp [h]
    clear h
    go_enter Tryz.func142, Tryz.ntmps142
    go_wp2
    go_ret
    exact ⟨ret_int HZ.out.symm, rfl⟩
  · have hz : unzz u = ((u : Int) / 2) := by unfold unzz; rw [if_pos (by omega)]; omega
    have HZ := Lib.hid hz; clear hz
    have hb : ((u : Int) % 2 == 1) = false := by simp [h]
    clear h
    go_enter Tryz.func142, Tryz.ntmps142
    go_wp2
    go_ret
    exact ⟨ret_int HZ.out.symm, rfl⟩

theorem pow_le56 {k : Nat} (hk : k < 9) : (128 : Nat) ^ k ≤ 72057594037927936 := by
  have e : (128 : Nat) ^ 8 = 72057594037927936 := by decide
  exact e ▸ Nat.pow_le_pow_right (by decide) (by omega)
theorem small_next (k A d : Nat) (hk : k < 9) (hA : A < 128 ^ k) (hd : d < 128) : A + 128 ^ k * d < 9223372036854775808 := by
  have h1 := pow_le56 hk
  have h2 : 128 ^ k * d ≤ 72057594037927936 * 127 := Nat.mul_le_mul h1 (by omega)
  omega
theorem or_wrap (k A b : Nat) (hk : k < 9) (hA : A < 128 ^ k) (hd : b % 128 < 128) :
    bits .or .u64 (A : Int) (IntKind.u64.wrap ((b : Int) % 128 * 2 ^ (k * 7))) = ((A + 128 ^ k * (b % 128) : Nat) : Int) := by
  have h1 := pow_le56 hk
  have e : (2 : Nat) ^ (k * 7) = 128 ^ k := by rw [show (128 : Nat) = 2 ^ 7 by decide, ← Nat.pow_mul, Nat.mul_comm]
  have h2 : b % 128 * 2 ^ (k * 7) ≤ 127 * 72057594037927936 := Nat.mul_le_mul (by omega) (by rw [e]; exact h1)
  have hc : (b : Int) % 128 * 2 ^ (k * 7) = ((b % 128 * 2 ^ (k * 7) : Nat) : Int) := by simp
  rw [hc, IntWalk.u64_in _ (by omega), bits_or_u64_nat _ _ (by omega) (by omega), lor_above k A _ hA]

theorem ret_three {k k' k'' : IntKind} {a a' b b' c c' : Int} (h : (a, b, c) = (a', b', c')) : Ending.returned (.tuple #[.int k a, .int k' b, .int k'' c]) = .returned (.tuple #[.int k a', .int k' b', .int k'' c']) := by
  obtain ⟨rfl, rfl, rfl⟩ : a = a' ∧ b = b' ∧ c = c' := by simpa using h
  rfl

set_option maxHeartbeats 1000000 in
set_option maxRecDepth 100000 in
/-- varint's ReadNumber, at a place out of range. -/
theorem readNumber_out (s : ByteArray) (p : Int) (w : World) (h : p < 0 ∨ (s.size : Int) < p) :
    Calls Tryz.prog 124 #[.string s, .int .i64 p] w fun e w' => e = .returned (.tuple #[.int .i64 0, .int .i64 0, .int .i64 3]) ∧ w = w' := by
  by_cases h0 : p < 0
  · go_enter Tryz.func124, Tryz.ntmps124
    go_wp2
    go_ret3
    exact ⟨rfl, rfl⟩
  · have h1 : (s.size : Int) < p := by omega
    go_enter Tryz.func124, Tryz.ntmps124
    go_wp2
    go_ret3
    exact ⟨rfl, rfl⟩

set_option maxHeartbeats 1000000 in
set_option maxRecDepth 100000 in
/-- varint's ReadNumber, at a place in range. -/
theorem readNumber_in (s : ByteArray) (p : Nat) (w : World) (h : p ≤ s.size) (hs : s.size ≤ 140737488355328) :
    Calls Tryz.prog 124 #[.string s, .int .i64 p] w fun e w' => 
      e = .returned (.tuple #[.int .i64 (rdAt s.data.toList p).1, .int .i64 (rdAt s.data.toList p).2.1, .int .i64 (rdAt s.data.toList p).2.2]) ∧ w = w' := by
  have h0 : ¬ (p : Int) < 0 := by omega
  have h1 : ¬ (s.size : Int) < (p : Int) := by omega
  have hfin : ∀ (e : Ending) (w' : World) (x : Int × Int × Int), rdAt s.data.toList p = x → e = .returned (.tuple #[.int .i64 x.1, .int .i64 x.2.1, .int .i64 x.2.2]) ∧ w = w' → e = .returned (.tuple #[.int .i64 (rdAt s.data.toList p).1, .int .i64 (rdAt s.data.toList p).2.1, .int .i64 (rdAt s.data.toList p).2.2]) ∧ w = w' := by
    intro e w' x hx h; rw [hx]; exact h
  have HFIN := Lib.hid hfin; clear hfin
  have hat := rdAt_in s.data.toList p (by rw [← size_list]; exact h)
  have HAT := Lib.hid hat; clear hat
  go_enter Tryz.func124, Tryz.ntmps124
  go_wp2
  go_loop [7, 8] (fun f i => ∃ k A : Nat, k ≤ 9 ∧ p + k ≤ s.size ∧ Hid (A = val ((s.data.toList.drop p).take k)) ∧ Hid (∀ j (hj : j < (s.data.toList.drop p).length), j < k → 128 ≤ (s.data.toList.drop p)[j].toNat) ∧ i = .int .i64 ((p + k : Nat) : Int) ∧ f = .int .u64 (A : Int)) (fun _ i => s.size - (intOf i).toNat)
  case atStart => exact ⟨0, 0, by omega, by omega, rfl, fun j hj h => by omega, rfl, rfl⟩
  case round =>
    obtain ⟨k, A, hk9, hk, HA, HHI, rfl, rfl⟩ := hrel
    by_cases hlt : p + k < s.size
    · obtain ⟨b, hb, hget⟩ := byte_at s p k hlt
      have HGET := Lib.hid hget; clear hget
      have hb256 : (b : Int) < 256 := by have := (s[p + k]'hlt).toNat_lt; omega
      have hb0 : 0 ≤ (b : Int) := by omega
      have hAlt : A < 128 ^ k := by rw [HA.out]; exact Nat.lt_of_lt_of_le (val_lt _) (Nat.pow_le_pow_right (by decide) (by simp; omega))
      have HALT := Lib.hid hAlt; clear hAlt
      by_cases hk9' : k = 9
      · subst hk9'
        by_cases hb1 : 1 < (b : Int)
        · have hv := rd_nine (s.data.toList.drop p) HHI.out HGET.out (by omega)
          have HV := Lib.hid hv; clear hv
          go_wp2_with fail
          go_ret3
          exact HFIN.out _ _ _ (HAT.out.trans (by rw [HV.out])) ⟨rfl, rfl⟩
        · by_cases hbz : (b : Int) = 0
          · obtain rfl : b = 0 := by omega
            have hv := rd_zero (s.data.toList.drop p) 9 (by omega) (by omega) HHI.out HGET.out
            have HV := Lib.hid hv; clear hv
            go_wp2_with fail
            go_ret3
            exact HFIN.out _ _ _ (HAT.out.trans (by rw [HV.out])) ⟨rfl, rfl⟩
          · obtain rfl : b = 1 := by omega
            have hv := rd_last (s.data.toList.drop p) 9 (by omega) HHI.out HGET.out (by omega) (by omega) (by omega)
            rw [← HA.out] at hv
            have e9 : (128 : Nat) ^ 9 = 9223372036854775808 := by decide
            have hA9 : A < 9223372036854775808 := by have := HALT.out; rw [e9] at this; exact this
            have hor : bits .or .u64 (A : Int) 9223372036854775808 = ((A + 128 ^ 9 * 1 : Nat) : Int) := by
              have := bits_or_u64_nat A 9223372036854775808 (by omega) (by omega)
              rw [← lor_above 9 A 1 HALT.out]
              exact this
            have hx : A + 128 ^ 9 * 1 < 18446744073709551616 := by rw [e9]; omega
            generalize hX : A + 128 ^ 9 * 1 = X at hv hor hx
            have HV := Lib.hid hv
            have HX := Lib.hid hx
            clear hv hx hX hA9 e9
            go_wp2_with (go_at_call 142; refine (unfold_any _ _ (Int.natCast_nonneg X) (by have := HX.out; omega)).mono ?_; rintro e w' ⟨rfl, rfl⟩)
            go_ret3
            exact HFIN.out _ _ _ (HAT.out.trans (by rw [HV.out])) ⟨rfl, rfl⟩
      · have hk9 : k < 9 := by omega
        have hne9 : ((k : Int) == 9) = false := by simp; omega
        have hpk : (p : Int) + (k : Int) - (p : Int) = (k : Int) := by omega
        have hor : ∃ X : Nat, X = A + 128 ^ k * (b % 128) ∧ X < 9223372036854775808 ∧ bits .or .u64 (A : Int) (IntKind.u64.wrap ((b : Int) % 128 * 2 ^ (k * 7))) = (X : Int) := by
          refine ⟨_, rfl, ?_, ?_⟩
          · exact small_next k A _ hk9 HALT.out (Nat.mod_lt _ (by decide))
          · exact or_wrap k A _ hk9 HALT.out (Nat.mod_lt _ (by decide))
        obtain ⟨X, hX, hXlt, hor⟩ := hor
        have HX := Lib.hid hX; clear hX
        have HXL := Lib.hid hXlt; clear hXlt
        by_cases h128 : 128 ≤ (b : Int)
        · go_wp2_with fail
          go_round
          case rel => exact ⟨k + 1, X, by omega, by omega, by rw [HX.out, HA.out]; exact (val_next _ _ HGET.out).symm, high_next _ _ HHI.out HGET.out (by omega), by go_num, rfl⟩
          case measure => simp [intOf]; omega
        · by_cases hbk : b = 0 ∧ 0 < k
          · have hbz : ((b : Int) == 0) = true := by simp; omega
            have hk0 : 0 < (k : Int) := by omega
            have hv := rd_zero (s.data.toList.drop p) k (by omega) hbk.2 HHI.out (by have := HGET.out; rw [hbk.1] at this; exact this)
            have HV := Lib.hid hv; clear hv hbk
            go_wp2_with fail
            go_ret3
            exact HFIN.out _ _ _ (HAT.out.trans (by rw [HV.out])) ⟨rfl, rfl⟩
          · have hv := rd_last (s.data.toList.drop p) k (by omega) HHI.out HGET.out (by omega) (by omega) hbk
            rw [← HA.out, show A + 128 ^ k * b = X by rw [HX.out, Nat.mod_eq_of_lt (by omega)]] at hv
            have HV := Lib.hid hv; clear hv
            by_cases hb0' : b = 0
            · have hbz : ((b : Int) == 0) = true := by simp; omega
              have hk0 : ¬ 0 < (k : Int) := by omega
              clear hbk hb0'
              go_wp2_with (go_at_call 142; refine (unfold_any _ _ (Int.natCast_nonneg X) (by have := HXL.out; omega)).mono ?_; rintro e w' ⟨rfl, rfl⟩)
              go_ret3
              exact HFIN.out _ _ _ (HAT.out.trans (by rw [HV.out])) ⟨rfl, rfl⟩
            · have hbz : ((b : Int) == 0) = false := by simp; omega
              clear hbk hb0'
              go_wp2_with (go_at_call 142; refine (unfold_any _ _ (Int.natCast_nonneg X) (by have := HXL.out; omega)).mono ?_; rintro e w' ⟨rfl, rfl⟩)
              go_ret3
              exact HFIN.out _ _ _ (HAT.out.trans (by rw [HV.out])) ⟨rfl, rfl⟩
    · have hv := rd_end (s.data.toList.drop p) k (by omega) HHI.out (by rw [List.length_drop, ← size_list]; omega)
      have HV := Lib.hid hv; clear hv
      go_wp2_with fail
      go_ret3
      exact HFIN.out _ _ _ (HAT.out.trans (by rw [HV.out])) ⟨rfl, rfl⟩
end Go.Proofs.YtebglkpejdoggaaGreat.V

namespace Go.Proofs.YtebglkpejdoggaaGreat.V
open Go.RowKit

/-- What one step from the top does: at the place j of the digits. -/
theorem horner_of (s : ByteArray) (p k V : Nat) (hlt : p + k < s.size) (hV : val ((s.data.toList.drop p).take (k + 1)) = V) (hVL : V < 18446744073709551616) (_hs : s.size ≤ 140737488355328) :
    ∀ m, m ≤ k → ∃ (b U U' : Nat) (h : p + m < s.size), (s[p + m]'h).toNat = b ∧ b < 256 ∧ val (((s.data.toList.drop p).take (k + 1)).drop (m + 1)) = U ∧ val (((s.data.toList.drop p).take (k + 1)).drop m) = U' ∧
      IntKind.u64.wrap ((U : Int) * 128) = (U : Int) * 128 ∧ IntKind.u64.wrap ((U : Int) * 128 + (b : Int) % 128) = (U' : Int) := by
  intro m hm
  have hp : p + m < s.size := by omega
  have hlen : ((s.data.toList.drop p).take (k + 1)).length = k + 1 := by rw [List.length_take, List.length_drop, ← size_list]; omega
  have h1 := val_drop ((s.data.toList.drop p).take (k + 1)) m (by omega)
  have h2 := val_drop_le ((s.data.toList.drop p).take (k + 1)) m
  have hb : (((s.data.toList.drop p).take (k + 1))[m]'(by omega)).toNat = (s[p + m]'hp).toNat := by
    rw [List.getElem_take, List.getElem_drop]; rfl
  rw [hb] at h1
  rw [hV] at h2
  have hb256 := (s[p + m]'hp).toNat_lt
  refine ⟨_, _, _, hp, rfl, hb256, rfl, rfl, IntWalk.u64_in _ (by omega), ?_⟩
  rw [IntWalk.u64_in _ (by omega), h1]
  omega

end Go.Proofs.YtebglkpejdoggaaGreat.V

namespace Go.Proofs.YtebglkpejdoggaaGreat.V
open Go.RowKit

theorem rdAt_out (l : List UInt8) (p : Int) (h : p < 0 ∨ (l.length : Int) < p) : rdAt l p = (0, 0, 3) := by unfold rdAt; rw [if_pos h]

theorem readNumber_any (s : ByteArray) (p : Int) (w : World) (hs : s.size ≤ 140737488355328) :
    Calls Tryz.prog 124 #[.string s, .int .i64 p] w fun e w' => 
      e = .returned (.tuple #[.int .i64 (rdAt s.data.toList p).1, .int .i64 (rdAt s.data.toList p).2.1, .int .i64 (rdAt s.data.toList p).2.2]) ∧ w = w' := by
  by_cases h : p < 0 ∨ (s.size : Int) < p
  · rw [rdAt_out _ _ (by rw [← size_list]; exact h)]
    exact readNumber_out s p w h
  · obtain ⟨k, rfl⟩ := Int.eq_ofNat_of_zero_le (show 0 ≤ p by omega)
    exact readNumber_in s k w (by omega) hs

theorem rd_first : rdAt [216, 4] 0 = (300, 2, 0) := by decide
theorem rd_second : rdAt [128, 0] 0 = (0, 0, 6) := by decide
theorem num_first : num (-1) = [1] := by
  unfold num
  rw [show Lib.zigzag (-1) = 1 by decide, Lib.uvarint_small (by decide)]
  rfl
theorem num_second : num 64 = [128, 1] := by
  unfold num
  rw [show Lib.zigzag 64 = 128 by decide, Lib.uvarint_big (by decide), Lib.uvarint_small (by decide)]
  rfl

end Go.Proofs.YtebglkpejdoggaaGreat.V

namespace Go.Proofs.YtebglkpejdoggaaGreat.S
open Go.Shelf Go.RowKit Go.Proofs
def lays166_ren : Go.Shelf.Ren := ⟨fun | 166 => 111 | 240 => 137 | 276 => 149 | n => n, fun | 0 => 0 | 3 => 3 | 4 => 4 | 9 => 9 | 20 => 20 | 37 => 143 | 70 => 142 | 72 => 145 | 75 => 147 | 80 => 127 | 164 => 183 | 5 => 5 | n => n, fun | n => n⟩
theorem lays166 : Go.Proofs.Lays.n166 Tryz.prog lays166_ren := {
  mixed := by kernel_rfl
  f166 := Tryz.func111.trans (congrArg some (by kernel_rfl))
  f240 := Tryz.func137.trans (congrArg some (by kernel_rfl))
  f276 := Tryz.func149.trans (congrArg some (by kernel_rfl))
  t0 := Tryz.underlying0
  a0 := Tryz.isAgg0
  z0 := Tryz.sizeOf0
  v0 := Tryz.zeroValue0
  t3 := Tryz.underlying3
  a3 := Tryz.isAgg3
  z3 := Tryz.sizeOf3
  v3 := Tryz.zeroValue3
  t4 := Tryz.underlying4
  a4 := Tryz.isAgg4
  z4 := Tryz.sizeOf4
  v4 := Tryz.zeroValue4
  t9 := Tryz.underlying9
  a9 := Tryz.isAgg9
  z9 := Tryz.sizeOf9
  v9 := Tryz.zeroValue9
  t20 := Tryz.underlying20
  a20 := Tryz.isAgg20
  z20 := Tryz.sizeOf20
  v20 := Tryz.zeroValue20
  t37 := Tryz.underlying143
  a37 := Tryz.isAgg143
  z37 := Tryz.sizeOf143
  v37 := Tryz.zeroValue143
  t70 := Tryz.underlying142
  a70 := Tryz.isAgg142
  z70 := Tryz.sizeOf142
  v70 := Tryz.zeroValue142
  t72 := Tryz.underlying145
  a72 := Tryz.isAgg145
  z72 := Tryz.sizeOf145
  v72 := Tryz.zeroValue145
  t75 := Tryz.underlying147
  a75 := Tryz.isAgg147
  z75 := Tryz.sizeOf147
  v75 := Tryz.zeroValue147
  t164 := Tryz.underlying183
  a164 := Tryz.isAgg183
  z164 := Tryz.sizeOf183
  v164 := Tryz.zeroValue183 }
theorem extra166 : Builder.Extra Tryz.prog lays166_ren := {
  sizeBuilder := by kernel_rfl
  liesBuilder := by kernel_rfl
  t5 := Tryz.underlying5
  a5 := Tryz.isAgg5
  z5 := Tryz.sizeOf5
  v5 := Tryz.zeroValue5
  infoByte := by kernel_rfl
  cellsByte := by kernel_rfl
  sizeByte := by kernel_rfl
  neB5 := by decide }
theorem write_any (B b : Nat) (bs : List Value) (s : ByteArray) (w : World) (h : Lib.IsBuilder 145 5 B b bs w) (hlen : bs.length + s.size ≤ 140737488355328) (hBw : B ≤ w.heap.size) :
    Calls Tryz.prog 111 #[.pointer (some ⟨b, 0, none⟩), .string s] w fun e w' => e = .returned (.tuple #[.int .i64 s.size, .nilIface]) ∧ (Lib.BuilderAt 145 5 B b (.pointer (some ⟨b, 0, none⟩)) (bs ++ Lib.strCells s) w' ∧ Below B w w') :=
  Any.Builder_WriteString lays166 extra166 B b bs s w h hlen hBw
def lays169_ren : Go.Shelf.Ren := ⟨fun | 169 => 112 | n => n, fun | 0 => 0 | 3 => 3 | 9 => 9 | 37 => 143 | 70 => 142 | 72 => 145 | 127 => 173 | 5 => 5 | n => n, fun | n => n⟩
theorem lays169 : Go.Proofs.Lays.n169 Tryz.prog lays169_ren := {
  mixed := by kernel_rfl
  f169 := Tryz.func112.trans (congrArg some (by kernel_rfl))
  t0 := Tryz.underlying0
  a0 := Tryz.isAgg0
  z0 := Tryz.sizeOf0
  v0 := Tryz.zeroValue0
  t3 := Tryz.underlying3
  a3 := Tryz.isAgg3
  z3 := Tryz.sizeOf3
  v3 := Tryz.zeroValue3
  t9 := Tryz.underlying9
  a9 := Tryz.isAgg9
  z9 := Tryz.sizeOf9
  v9 := Tryz.zeroValue9
  t37 := Tryz.underlying143
  a37 := Tryz.isAgg143
  z37 := Tryz.sizeOf143
  v37 := Tryz.zeroValue143
  t70 := Tryz.underlying142
  a70 := Tryz.isAgg142
  z70 := Tryz.sizeOf142
  v70 := Tryz.zeroValue142
  t72 := Tryz.underlying145
  a72 := Tryz.isAgg145
  z72 := Tryz.sizeOf145
  v72 := Tryz.zeroValue145
  t127 := Tryz.underlying173
  a127 := Tryz.isAgg173
  z127 := Tryz.sizeOf173
  v127 := Tryz.zeroValue173 }
theorem extra169 : Builder.Extra Tryz.prog lays169_ren := {
  sizeBuilder := by kernel_rfl
  liesBuilder := by kernel_rfl
  t5 := Tryz.underlying5
  a5 := Tryz.isAgg5
  z5 := Tryz.sizeOf5
  v5 := Tryz.zeroValue5
  infoByte := by kernel_rfl
  cellsByte := by kernel_rfl
  sizeByte := by kernel_rfl
  neB5 := by decide }
theorem string_any (B b : Nat) (l : List UInt8) (w : World) (h : Lib.IsBuilder 145 5 B b (Lib.byteCells l) w) (hBw : B ≤ w.heap.size) :
    Calls Tryz.prog 112 #[.pointer (some ⟨b, 0, none⟩)] w fun e w' => e = .returned (.string ⟨l.toArray⟩) ∧ Below B w w' :=
  Any.Builder_String_any lays169 extra169 B b l w h hBw
def laysM316_ren : Go.Shelf.Ren := ⟨fun | 316 => 151 | n => n, fun | 0 => 0 | 3 => 3 | 4 => 4 | 9 => 9 | 37 => 143 | 127 => 173 | 5 => 5 | n => n, fun | n => n⟩
theorem laysM316 : Go.Proofs.LaysM.n316 Tryz.prog laysM316_ren := {
  mixed := by kernel_rfl
  f316 := Tryz.func151.trans (congrArg some (by kernel_rfl))
  t0 := Tryz.underlying0
  a0 := Tryz.isAgg0
  z0 := Tryz.sizeOf0
  v0 := Tryz.zeroValue0
  t3 := Tryz.underlying3
  a3 := Tryz.isAgg3
  z3 := Tryz.sizeOf3
  v3 := Tryz.zeroValue3
  t4 := Tryz.underlying4
  a4 := Tryz.isAgg4
  z4 := Tryz.sizeOf4
  v4 := Tryz.zeroValue4
  t9 := Tryz.underlying9
  a9 := Tryz.isAgg9
  z9 := Tryz.sizeOf9
  v9 := Tryz.zeroValue9
  t37 := Tryz.underlying143
  a37 := Tryz.isAgg143
  z37 := Tryz.sizeOf143
  v37 := Tryz.zeroValue143
  t127 := Tryz.underlying173
  a127 := Tryz.isAgg173
  z127 := Tryz.sizeOf173
  v127 := Tryz.zeroValue173
  t5 := Tryz.underlying5
  a5 := Tryz.isAgg5
  z5 := Tryz.sizeOf5
  v5 := Tryz.zeroValue5
  i0 := by kernel_rfl
  i3 := by kernel_rfl
  i4 := by kernel_rfl
  i5 := by kernel_rfl
  i9 := by kernel_rfl
  i37 := by kernel_rfl
  i127 := by kernel_rfl }
theorem clone_any (s : ByteArray) (w : World) (hlim : s.size ≤ 281474976710656) :
    Calls Tryz.prog 151 #[.string s] w fun e w' => e = .returned (.string s) ∧ Below w.heap.size w w' :=
  Any.stringslite_Clone laysM316 s w hlim
end Go.Proofs.YtebglkpejdoggaaGreat.S

namespace Go.Proofs.YtebglkpejdoggaaGreat.V
open Go.RowKit

theorem ret_three_eq {k k' k'' : IntKind} {r t : Int × Int × Int} (h : r = t) : Ending.returned (.tuple #[.int k r.1, .int k' r.2.1, .int k'' r.2.2]) = .returned (.tuple #[.int k t.1, .int k' t.2.1, .int k'' t.2.2]) := by rw [h]

/-- ReadNumber's contract where its answer has a name. -/
theorem readNumber_of {s : ByteArray} {p x q e : Int} (h : rdAt s.data.toList p = (x, q, e)) (w : World) (hs : s.size ≤ 140737488355328) :
    Calls Tryz.prog 124 #[.string s, .int .i64 p] w fun e' w' => e' = .returned (.tuple #[.int .i64 x, .int .i64 q, .int .i64 e]) ∧ w = w' := by
  have := readNumber_any s p w hs
  rw [h] at this
  exact this
set_option maxHeartbeats 400000 in
theorem readCount_any (s : ByteArray) (p most : Int) (w : World) (hs : s.size ≤ 140737488355328) :
    Calls Tryz.prog 143 #[.string s, .int .i64 p, .int .i64 most] w fun e w' => e = .returned (.tuple #[.int .i64 (count s.data.toList p most).1, .int .i64 (count s.data.toList p most).2.1, .int .i64 (count s.data.toList p most).2.2]) ∧ w = w' := by
  obtain ⟨⟨x, q, e⟩, hr⟩ : ∃ t, rdAt s.data.toList p = t := ⟨_, rfl⟩
  have hc : count s.data.toList p most = countOf (x, q, e) most := by unfold count; rw [hr]
  rw [hc]
  clear hc
  have HR := Lib.hid hr; clear hr
  by_cases he : e = 0
  · subst he
    by_cases h1 : x < 0
    · have hv : countOf (x, q, 0) most = (0, 0, 6) := by simp [countOf, h1]
      rw [hv]
      clear hv
      go_enter Tryz.func143, Tryz.ntmps143
      go_wp2_with (go_at_call 124; refine (readNumber_of HR.out _ hs).mono ?_; rintro e w' ⟨rfl, rfl⟩)
      go_ret3
      exact ⟨rfl, rfl⟩
    · by_cases h2 : most < x
      · have hv : countOf (x, q, 0) most = (0, 0, 4) := by simp [countOf, h1, h2]
        rw [hv]
        clear hv
        go_enter Tryz.func143, Tryz.ntmps143
        go_wp2_with (go_at_call 124; refine (readNumber_of HR.out _ hs).mono ?_; rintro e w' ⟨rfl, rfl⟩)
        go_ret3
        exact ⟨rfl, rfl⟩
      · have hv : countOf (x, q, 0) most = (x, q, 0) := by simp [countOf, h1, h2]
        rw [hv]
        clear hv
        go_enter Tryz.func143, Tryz.ntmps143
        go_wp2_with (go_at_call 124; refine (readNumber_of HR.out _ hs).mono ?_; rintro e w' ⟨rfl, rfl⟩)
        go_ret3
        exact ⟨rfl, rfl⟩
  · have hv : countOf (x, q, e) most = (0, 0, e) := by simp [countOf, he]
    rw [hv]
    have hb : (e == 0) = false := by simp [he]
    clear hv he
    go_enter Tryz.func143, Tryz.ntmps143
    go_wp2_with (go_at_call 124; refine (readNumber_of HR.out _ hs).mono ?_; rintro e w' ⟨rfl, rfl⟩)
    go_ret3
    exact ⟨rfl, rfl⟩

theorem readCount_of {s : ByteArray} {p most x q e : Int} (h : count s.data.toList p most = (x, q, e)) (w : World) (hs : s.size ≤ 140737488355328) :
    Calls Tryz.prog 143 #[.string s, .int .i64 p, .int .i64 most] w fun e' w' => e' = .returned (.tuple #[.int .i64 x, .int .i64 q, .int .i64 e]) ∧ w = w' := by
  have := readCount_any s p most w hs
  rw [h] at this
  exact this
theorem clone_of (s : ByteArray) (w : World) (hs : s.size ≤ 281474976710656) :
    Calls Tryz.prog 144 #[.string s] w fun e w' => e = .returned (.string s) ∧ Below w.heap.size w w' := by
  go_enter Tryz.func144, Tryz.ntmps144
  go_wp2_with (go_at_call 151; refine (S.clone_any s _ hs).mono ?_; rintro e w' ⟨rfl, hb⟩)
  go_ret
  exact ⟨rfl, hb⟩

theorem count_err (s : List UInt8) (p most : Int) {x q e : Int} (h : count s p most = (x, q, e)) (he : e ≠ 0) : x = 0 ∧ q = 0 := by
  unfold count countOf at h
  split at h
  · simp only [Prod.mk.injEq] at h; exact ⟨h.1.symm, h.2.1.symm⟩
  · split at h
    · simp only [Prod.mk.injEq] at h; exact ⟨h.1.symm, h.2.1.symm⟩
    · split at h
      · simp only [Prod.mk.injEq] at h; exact ⟨h.1.symm, h.2.1.symm⟩
      · simp only [Prod.mk.injEq] at h; exact absurd h.2.2.symm he

theorem str_cut (s : ByteArray) (a n : Nat) : s.extract a (a + n) = str ((s.data.toList.drop a).take n) := by
  unfold str
  rw [Lib.extract_eq, Nat.add_sub_cancel_left]

set_option maxHeartbeats 400000 in
theorem readText_any (s : ByteArray) (p : Int) (w : World) (hs : s.size ≤ 140737488355328) :
    Calls Tryz.prog 126 #[.string s, .int .i64 p] w fun e w' => e = .returned (.tuple #[.string (str (txt s.data.toList p).1), .int .i64 (txt s.data.toList p).2.1, .int .i64 (txt s.data.toList p).2.2]) ∧ Below w.heap.size w w' := by
  obtain ⟨⟨x, q, e⟩, hr⟩ : ∃ t, count s.data.toList p 4096 = t := ⟨_, rfl⟩
  have hc : txt s.data.toList p = txtOf s.data.toList (x, q, e) := by unfold txt; rw [hr]
  rw [hc]
  clear hc
  by_cases he : e = 0
  · subst he
    obtain ⟨c1, c2, c3, c4, c5, _⟩ := count_ok _ _ _ hr
    rw [← size_list] at c5
    have HR := Lib.hid hr; clear hr
    by_cases h1 : (s.size : Int) - q < x
    · have hv : txtOf s.data.toList (x, q, 0) = ([], 0, 5) := by unfold txtOf; rw [if_neg (by simp), if_pos (by rw [← size_list]; exact h1)]
      rw [hv]
      clear hv c3
      go_enter Tryz.func126, Tryz.ntmps126
      go_wp2_with (go_at_call 143; refine (readCount_of HR.out _ hs).mono ?_; rintro e w' ⟨rfl, rfl⟩)
      go_ret3
      exact ⟨rfl, Below.refl _ _⟩
    · obtain ⟨n, rfl⟩ := Int.eq_ofNat_of_zero_le c1
      obtain ⟨a, rfl⟩ := Int.eq_ofNat_of_zero_le c4
      have hv : txtOf s.data.toList ((n : Int), (a : Int), 0) = ((s.data.toList.drop a).take n, (a : Int) + (n : Int), 0) := by unfold txtOf; rw [if_neg (by simp), if_neg (by rw [← size_list]; exact h1)]; simp
      rw [hv]
      have hcut := str_cut s a n
      have HC := Lib.hid hcut; clear hcut
      clear hv c3
      go_enter Tryz.func126, Tryz.ntmps126
      go_wp2_with (go_at_call 143; refine (readCount_of HR.out _ hs).mono ?_; rintro e w' ⟨rfl, rfl⟩)
      rw [HC.out]
      refine (clone_of _ _ (by rw [str_size, List.length_take]; omega)).mono ?_
      rintro e w1 ⟨rfl, hb1⟩
      go_wp2_with fail
      go_ret3
      exact ⟨rfl, hb1⟩
  · have hz := count_err _ _ _ hr he
    have hv : txtOf s.data.toList (x, q, e) = ([], 0, e) := by simp [txtOf, he]
    rw [hv]
    have HR := Lib.hid hr; clear hr
    have hb : (e == 0) = false := by simp [he]
    clear hv he hz
    go_enter Tryz.func126, Tryz.ntmps126
    go_wp2_with (go_at_call 143; refine (readCount_of HR.out _ hs).mono ?_; rintro e w' ⟨rfl, rfl⟩)
    go_ret3
    exact ⟨rfl, Below.refl _ _⟩
theorem readText_of {s : ByteArray} {p : Int} {x : List UInt8} {q e : Int} (h : txt s.data.toList p = (x, q, e)) (w : World) (hs : s.size ≤ 140737488355328) :
    Calls Tryz.prog 126 #[.string s, .int .i64 p] w fun e' w' => e' = .returned (.tuple #[.string (str x), .int .i64 q, .int .i64 e]) ∧ Below w.heap.size w w' := by
  have := readText_any s p w hs
  rw [h] at this
  exact this
end Go.Proofs.YtebglkpejdoggaaGreat.V
