/-
  Contracts: varint's fold and Number, the reference's digits and Number.
-/
import Derived.Test.YtaclkofkajehpaaProg
import Derived.Test.YtaclkofkajehpaaVMath
import Derived.WalkKit
import Derived.WalkSpells
import Derived.WalkLawsBesides
import Derived.Lib.Hide
import Derived.Lib.UnsafeStr
import Derived.Laws.IdiomStrings
import Derived.Lib.VarintMem
import Derived.Lib.BufferRead
import Derived.RegionCalls
import Derived.Deep.RegionWith
namespace Go.Proofs.Ytaclkofkajehpaa.V
open Go.RowKit

/-- A text as a value. -/
def sv (l : List UInt8) : Value := .string (str l)

theorem ret_int {k : IntKind} {a b : Int} (h : a = b) : Ending.returned (.int k a) = .returned (.int k b) := by rw [h]
theorem ret_str {a b : ByteArray} (h : a = b) : Ending.returned (.string a) = .returned (.string b) := by rw [h]

/-- Behind a call that leaves all below alone: cells and marks below read as before. -/
theorem bcell {B : Nat} {W w1 : World} (hb : Below B W w1) : (∀ b o, b < B → w1.cell? ⟨b, o, none⟩ = W.cell? ⟨b, o, none⟩) ∧ (∀ b o, b < B → w1.frozen? ⟨b, o, none⟩ = W.frozen? ⟨b, o, none⟩) :=
  ⟨fun b o h => hb.cell (p := ⟨b, o, none⟩) h, fun b o h => hb.frozen (p := ⟨b, o, none⟩) h⟩

/-- 'string([]byte{c})'. -/
theorem run_one_byte (W : World) (q : Addr) (c : Nat) (hc : c < 256) (h : W.cell? q = some (.int .u8 (c : Int))) :
    (convert 50 9 (.slice (some q) 1 1)).run Try.prog W = .ok (.string (str [c.toUInt8])) W := by
  have hl : ([c.toUInt8] : List UInt8).length = 1 := rfl
  have := run_convert_bytes_back (P := Try.prog) W 50 9 5 q 1 [c.toUInt8] Try.underlying50 Try.underlying5 Try.underlying9 (fun j hj => by
    obtain rfl : j = 0 := by simpa using hj
    simp only [List.getElem_cons_zero]
    rw [show (c.toUInt8).toNat = c from Lib.toUInt8_toNat hc]
    simpa [Addr.add] using h)
  exact this

theorem fold_neg (n : Int) (w : World) (h0 : n < 0) (h1 : -9223372036854775808 ≤ n) :
    Calls Try.prog 28 #[.int .i64 n] w fun e w' => e = .returned (.int .u64 (Lib.zigzag n)) ∧ w = w' := by
  have hz : ((Lib.zigzag n : Nat) : Int) = -(n + 1) * 2 + 1 := by unfold Lib.zigzag; rw [if_neg (by omega)]; omega
  have HZ := Lib.hid hz; clear hz
  go_enter Try.func28, Try.ntmps28
  go_wp2
  go_ret
  exact ⟨ret_int HZ.out.symm, rfl⟩

theorem fold_pos (n : Int) (w : World) (h0 : 0 ≤ n) (h1 : n ≤ 9223372036854775807) :
    Calls Try.prog 28 #[.int .i64 n] w fun e w' => e = .returned (.int .u64 (Lib.zigzag n)) ∧ w = w' := by
  have hz : ((Lib.zigzag n : Nat) : Int) = n * 2 := Lib.zigzag_nonneg h0
  have HZ := Lib.hid hz; clear hz
  go_enter Try.func28, Try.ntmps28
  go_wp2
  go_ret
  exact ⟨ret_int HZ.out.symm, rfl⟩

theorem fold_any (n : Int) (w : World) (h0 : -9223372036854775808 ≤ n) (h1 : n ≤ 9223372036854775807) :
    Calls Try.prog 28 #[.int .i64 n] w fun e w' => e = .returned (.int .u64 (Lib.zigzag n)) ∧ w = w' := by
  by_cases h : n < 0
  · exact fold_neg n w h h0
  · exact fold_pos n w (by omega) h1

set_option maxHeartbeats 400000 in
theorem digits_one (n : Int) (w : World) (h0 : 0 ≤ n) (h : n < 128) :
    Calls Try.prog 29 #[.int .u64 n] w fun e w' => e = .returned (.string (str (Lib.uvarint n.toNat))) ∧ Below w.heap.size w w' := by
  obtain ⟨u, rfl⟩ := Int.eq_ofNat_of_zero_le h0
  rw [Int.toNat_natCast]
  have hcv := run_one_byte (w.alloc (.cells #[.int .u8 (u : Int)] 5)) ⟨w.heap.size, 0, none⟩ u (by omega) (by rw [World.cell?_alloc_at _ _ _ _ rfl]; rfl)
  go_enter Try.func29, Try.ntmps29
  go_wp2
  go_ret
  exact ⟨ret_str (by rw [Lib.uvarint_small (by omega)]), (Below.refl _ _).alloc (Nat.le_refl _) _⟩

set_option maxHeartbeats 400000 in
theorem digits_any (k : Nat) : ∀ (n : Int) (w : World), 0 ≤ n → n < 18446744073709551616 → n.toNat < 128 ^ (k + 1) →
    Calls Try.prog 29 #[.int .u64 n] w fun e w' => e = .returned (.string (str (Lib.uvarint n.toNat))) ∧ Below w.heap.size w w' := by
  induction k with
  | zero => intro n w h0 _ h; exact digits_one n w h0 (by omega)
  | succ k ih =>
    intro n w h0 h64 h
    by_cases h1 : n < 128
    · exact digits_one n w h0 h1
    · have hq : (n / 128).toNat < 128 ^ (k + 1) := by
        rw [Nat.pow_succ] at h
        rw [show (n / 128).toNat = n.toNat / 128 by omega]
        exact Nat.div_lt_of_lt_mul (by rw [Nat.mul_comm]; exact h)
      have HQ := Lib.hid hq; clear hq
      have IH := Lib.hid ih; clear ih
      have hu : 128 ≤ n := by omega
      have hm0 : n.tmod 128 = n % 128 := Int.tmod_eq_emod_of_nonneg (by omega)
      have hm1 : IntKind.u64.wrap (n % 128 + 128) = n % 128 + 128 := IntWalk.u64_in _ (by omega)
      have hm2 : IntKind.u8.wrap (n % 128 + 128) = n % 128 + 128 := IntWalk.u8_in _ (by omega)
      have hd0 : n.tdiv 128 = n / 128 := Int.tdiv_eq_ediv_of_nonneg (by omega)
      have hd1 : IntKind.u64.wrap (n / 128) = n / 128 := IntWalk.u64_in _ ⟨by omega, by omega⟩
      have hbig := Lib.uvarint_big (x := n.toNat) (by omega)
      rw [show n.toNat / 128 = (n / 128).toNat by omega] at hbig
      have hcv0 : ∀ W a, W.cell? a = some (.int .u8 (n % 128 + 128)) → (convert 50 9 (.slice (some a) 1 1)).run Try.prog W = .ok (.string (str [(n.toNat % 128 + 128).toUInt8])) W := fun W a ha =>
        run_one_byte W a (n.toNat % 128 + 128) (by omega) (by rw [ha]; congr 2; omega)
      obtain ⟨c, hc⟩ : ∃ c, (n.toNat % 128 + 128).toUInt8 = c := ⟨_, rfl⟩
      rw [hc] at hbig hcv0
      have hcv := hcv0; clear hcv0 hc
      have hl : n / 128 < 18446744073709551616 := by omega
      have HL := Lib.hid hl; clear hl
      have hsx : (str [c]).size ≤ 1 := by rw [str_size]; simp
      have hsy : (str (Lib.uvarint (n / 128).toNat)).size ≤ 10 := by rw [str_size]; exact Lib.uvarint_length64 (by have := HL.out; omega)
      have HBIG := Lib.hid hbig; clear hbig
      clear h h1 h0 h64
      go_enter Try.func29, Try.ntmps29
      go_wp2_with fail
      go_region_with (go_at_call 29; refine (IH.out _ _ (by omega) HL.out HQ.out).mono ?_; rintro e w1 ⟨rfl, hb⟩; obtain ⟨hc, hf⟩ := bcell hb)
      all_goals (go_wp2; go_ret; refine ⟨ret_str (by rw [HBIG.out, str_append]; rfl), ?_⟩)
      · exact (((Below.refl _ _).alloc (Nat.le_refl _) _).drew).trans (hb.mono (by simp))
      · exact (((Below.refl _ _).alloc (Nat.le_refl _) _).drew).trans (hb.mono (by simp))
      · exact ((Below.refl _ _).drew.trans hb).alloc hb.size _

theorem digits_of (n : Int) (w : World) (h0 : 0 ≤ n) (h : n < 18446744073709551616) :
    Calls Try.prog 29 #[.int .u64 n] w fun e w' => e = .returned (.string (str (Lib.uvarint n.toNat))) ∧ Below w.heap.size w w' :=
  digits_any 9 n w h0 h (by have : (128 : Nat) ^ (9 + 1) = 1180591620717411303424 := by decide
                            omega)

set_option maxHeartbeats 400000 in
/-- The reference's Number. -/
theorem refNumber_any (n : Int) (w : World) (h0 : -9223372036854775808 ≤ n) (h1 : n ≤ 9223372036854775807) :
    Calls Try.prog 11 #[.int .i64 n] w fun e w' => e = .returned (.string (str (num n))) ∧ Below w.heap.size w w' := by
  have hlt := Lib.zigzag_lt h0 h1
  have hfin : ∀ m : Int, m = Lib.zigzag n → Lib.uvarint m.toNat = num n := fun m hm => by rw [hm]; rfl
  have HF := Lib.hid hfin; clear hfin
  by_cases h : n < 0
  · have hz : -(n + 1) * 2 + 1 = Lib.zigzag n := by unfold Lib.zigzag; rw [if_neg (by omega)]; omega
    have hb : -(n + 1) * 2 + 1 < 18446744073709551616 := by omega
    have HZ := Lib.hid hz; clear hz
    have HB := Lib.hid hb; clear hb hlt h1
    go_enter Try.func11, Try.ntmps11
    go_wp2_with (go_at_call 29; refine (digits_of _ _ (by omega) HB.out).mono ?_; rintro e w' ⟨rfl, hb⟩)
    go_ret
    exact ⟨ret_str (by rw [HF.out _ HZ.out]), hb⟩
  · have hz : n * 2 = Lib.zigzag n := (Lib.zigzag_nonneg (by omega)).symm
    have hb : n * 2 < 18446744073709551616 := by omega
    have hn0 : 0 ≤ n := by omega
    have HZ := Lib.hid hz; clear hz
    have HB := Lib.hid hb; clear hb hlt h0 h
    go_enter Try.func11, Try.ntmps11
    go_wp2_with (go_at_call 29; refine (digits_of _ _ (by omega) HB.out).mono ?_; rintro e w' ⟨rfl, hb⟩)
    go_ret
    exact ⟨ret_str (by rw [HF.out _ HZ.out]), hb⟩

theorem heap_alloc_at (w : World) (o : Obj) : (w.alloc o).heap[w.heap.size]? = some o := by
  show (w.heap.push o)[w.heap.size]? = some o
  simp

/-- A row that starts as the one just made, with nothing in it. -/
theorem owns_made (w : World) (e : TypeId) (z : Value) (c : Nat) (hc : c ≤ maxLen) : (w.alloc (.cells (Array.replicate c z) e)).ownsRow w.heap.size e 1 (.slice (some ⟨w.heap.size, 0, none⟩) 0 c) 0 [] :=
  ⟨rfl, Or.inr ⟨w.heap.size, c, Array.replicate c z, rfl, Nat.le_refl _, heap_alloc_at _ _, by omega, hc, by simp, by simp⟩⟩

theorem owns_block {w : World} {base : Nat} {e : TypeId} {size : Nat} {v : Value} {n : Nat} {xs : List Value} (h : w.ownsRow base e size v n xs) : ∀ k, v.ownBlock = some k → base ≤ k := by
  intro k hk
  rcases h.2 with ⟨rfl, _⟩ | ⟨g, cap, cur, rfl, hg, _⟩
  · cases hk
  · simp only [Value.ownBlock, Option.some.injEq] at hk
    omega

/-- 'string(b)' of a row of bytes that the call owns. -/
theorem run_owned_str {w : World} {base : Nat} {v : Value} {n : Nat} {l : List UInt8} (h : w.ownsRow base 5 1 v n (Lib.byteCells l)) (hn : l.length = n) :
    (convert 50 9 v).run Try.prog w = .ok (.string (str l)) w := by
  subst hn
  rcases h.2 with ⟨rfl, h0⟩ | ⟨g, cap, cur, rfl, hg, hh, _, _, _, htk⟩
  · rw [List.length_eq_zero_iff] at h0
    subst h0
    exact Lib.run_convert_nil_bytes w 50 9 5 0 Try.underlying50 Try.underlying5 Try.underlying9
  · exact run_convert_bytes_back w 50 9 5 ⟨g, 0, none⟩ cap l Try.underlying50 Try.underlying5 Try.underlying9 (Lib.bytes_of_row hh (by simpa using htk))

theorem one_new (w : World) (v : Value) (e : TypeId) : ∀ (j : Nat) (u : Value), [v][j]? = some u → (w.alloc (.cells #[v] e)).cell? ((⟨w.heap.size, 0, none⟩ : Addr).add j) = some u := by
  intro j u hj
  match j, hj with
  | 0, hj => simp at hj; subst hj; simp [Addr.add]
theorem one_cell (k : IntKind) (n : Int) : ∀ u ∈ [Value.int k n], u.oneCell' = true := by intro u hu; simp at hu; subst hu; rfl

theorem Try.info5 : (Try.prog.info? 5).map (fun i => (i.zero, i.size, i.bytes)) = some (some (.int .u8 0), 1, 1) := by kernel_rfl

set_option maxHeartbeats 800000 in
set_option maxRecDepth 100000 in
/-- varint's Number. -/
theorem number_any (n : Int) (w : World) (h0 : -9223372036854775808 ≤ n) (h1 : n ≤ 9223372036854775807) :
    Calls Try.prog 10 #[.int .i64 n] w fun e w' => e = .returned (.string (str (num n))) ∧ Below w.heap.size w w' := by
  obtain ⟨i0, hi, hz0, hz1, hz2⟩ := info_parts Try.info5
  have hlt := Lib.zigzag_lt h0 h1
  have hlen := num_len n h0 h1
  have hmk : ∀ w, (Instr.makeSlice 50 (.int .i64 0) (.int .i64 10)).run Try.prog w = .ok (.slice (some ⟨w.heap.size, 0, none⟩) 0 10) (w.alloc (.cells (Array.replicate 10 (.int .u8 0)) 5)) := fun _ => by kernel_rfl
  have HLEN := Lib.hid hlen; clear hlen
  have HLT := Lib.hid hlt; clear hlt
  go_enter Try.func10, Try.ntmps10
  go_wp2_with (go_at_call 28; refine (fold_any _ _ h0 h1).mono ?_; rintro e w' ⟨rfl, rfl⟩)
  go_loopw [3, 4] (fun r v wr => ∃ (u : Nat) (acc : List UInt8), r = .int .u64 (u : Int) ∧ u ≤ Lib.zigzag n ∧ acc ++ Lib.uvarint u = num n ∧ wr.ownsRow w.heap.size 5 1 v acc.length (Lib.byteCells acc) ∧ Below w.heap.size w wr)
    (fun r _ _ => (intOf r).toNat)
  case atStart =>
    exact ⟨Lib.zigzag n, [], rfl, Nat.le_refl _, rfl, owns_made _ _ _ _ (by unfold maxLen; omega), (Below.refl _ _).alloc (Nat.le_refl _) _⟩
  case round =>
    obtain ⟨u, acc, rfl, hu, hacc, hown, hbel⟩ := hrel
    have hlen : acc.length + (Lib.uvarint u).length ≤ 10 := by rw [← List.length_append, hacc]; exact HLEN.out
    have hpos := Lib.uvarint_pos u
    have hu0 : 0 ≤ (u : Int) := by omega
    have HACC := Lib.hid hacc; clear hacc
    have hbs := hbel.size
    by_cases hs : (u : Int) < 128
    · have hm2 : IntKind.u8.wrap (u : Int) = (u : Int) := IntWalk.u8_in _ (by omega)
      have hall : acc ++ [u.toUInt8] = num n := by rw [← HACC.out, Lib.uvarint_small (by omega)]
      have HALL := Lib.hid hall; clear hall
      have hc4 : (acc.length + 1) * 1 ≤ 140737488355328 := by omega
      have hc5 : w.heap.size ≤ (wr.alloc (.cells #[.int .u8 (u : Int)] 5)).heap.size := by simp; omega
      have HC5 := Lib.hid hc5; clear hc5
      have HC4 := Lib.hid hc4; clear hc4
      clear h0 h1
      go_wp2_with (at_builtin; refine wpList_append_own _ rfl _ _ 50 rfl w.heap.size 5 i0 (.int .u8 0) 1 1 Try.underlying50 hi hz0 hz1 hz2 rfl (by decide) _ _ _ rfl (hown.alloc _) ⟨wr.heap.size, 0, none⟩ 1 1 [.int .u8 (u : Int)] rfl rfl (one_new _ _ _) (one_cell _ _) (by unfold maxLen; omega) HC4.out HC5.out ?_; intro v' w1 hown' hgrow hnn; clear hnn)
      have hb1 : Below w.heap.size w w1 := (hbel.alloc hbs _).grown hgrow HC5.out (owns_block hown)
      rw [← Lib.byteCells_snoc acc (show u < 256 by omega)] at hown'
      have hcv := run_owned_str hown' (by simp)
      rw [HALL.out] at hcv
      clear hgrow hown hown'
      go_wp2
      go_simp
      go_wp2
      go_ret
      exact ⟨rfl, hb1⟩
    · have hm2 : IntKind.u8.wrap ((u : Int) % 128) = (u : Int) % 128 := IntWalk.u8_in _ (by omega)
      have hor : bits .or .u8 ((u : Int) % 128) 128 = ((u % 128 + 128 : Nat) : Int) := by
        rw [Lib.u8_or128_any _ (by omega) (by omega)]; omega
      have hd1 : IntKind.u64.wrap ((u : Int) / 128) = (u : Int) / 128 := IntWalk.u64_in _ (by have := HLT.out; omega)
      have hbig := Lib.uvarint_big (x := u) (by omega)
      have hall : (acc ++ [(u % 128 + 128).toUInt8]) ++ Lib.uvarint (u / 128) = num n := by rw [← HACC.out, hbig]; simp
      have HALL := Lib.hid hall; clear hall hbig
      have hs' : 128 ≤ (u : Int) := by omega
      have hc4 : (acc.length + 1) * 1 ≤ 140737488355328 := by omega
      have hc5 : w.heap.size ≤ (wr.alloc (.cells #[.int .u8 ((u % 128 + 128 : Nat) : Int)] 5)).heap.size := by simp; omega
      have HC5 := Lib.hid hc5; clear hc5
      have HC4 := Lib.hid hc4; clear hc4
      clear hs h0 h1
      go_wp2_with (at_builtin; refine wpList_append_own _ rfl _ _ 50 rfl w.heap.size 5 i0 (.int .u8 0) 1 1 Try.underlying50 hi hz0 hz1 hz2 rfl (by decide) _ _ _ rfl (hown.alloc _) ⟨wr.heap.size, 0, none⟩ 1 1 [.int .u8 ((u % 128 + 128 : Nat) : Int)] rfl rfl (one_new _ _ _) (one_cell _ _) (by unfold maxLen; omega) HC4.out HC5.out ?_; intro v' w1 hown' hgrow hnn; clear hnn)
      have hb1 : Below w.heap.size w w1 := (hbel.alloc hbs _).grown hgrow HC5.out (owns_block hown)
      rw [← Lib.byteCells_snoc acc (show u % 128 + 128 < 256 by omega)] at hown'
      clear hgrow hown
      go_wp2
      go_roundw
      case rel => exact ⟨u / 128, acc ++ [(u % 128 + 128).toUInt8], by simp, by omega, HALL.out, by simpa using hown', hb1⟩
      case measure => simp [intOf]; omega
end Go.Proofs.Ytaclkofkajehpaa.V
