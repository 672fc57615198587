/-
  Contracts: varint's fold and Number, the reference's digits and Number.
  Layer 10, plainly: what a reader that goes on until something is wrong does, step by step; and that it reads what is read field by field.
  Contracts: varint's unfold and ReadNumber, the reference's ReadNumber.
-/
import Derived.Test.YtebglkpejdoggaaProg
import Derived.Test.YtebglkpejdoggaaVInv
import Derived.WalkKit
import Derived.WalkSpells
import Derived.WalkLawsBesides
import Derived.Lib.Hide
import Derived.Lib.UnsafeStr
import Derived.Laws.IdiomStrings
import Derived.Lib.VarintMem
import Derived.Lib.BufferRead
import Derived.RegionCalls
import Derived.Deep.RegionWith
import Derived.Test.YtebglkpejdoggaaP8Lib
import Derived.Deep.QuietTactic
import Derived.BigQuiet
namespace Go.Proofs.Ytebglkpejdoggaa.V
open Go.RowKit

/-- A text as a value. -/
def sv (l : List UInt8) : Value := .string (str l)

theorem ret_int {k : IntKind} {a b : Int} (h : a = b) : Ending.returned (.int k a) = .returned (.int k b) := by rw [h]
theorem ret_str {a b : ByteArray} (h : a = b) : Ending.returned (.string a) = .returned (.string b) := by rw [h]

/-- Behind a call that leaves all below alone: cells and marks below read as before. -/
theorem bcell {B : Nat} {W w1 : World} (hb : Below B W w1) : (∀ b o, b < B → w1.cell? ⟨b, o, none⟩ = W.cell? ⟨b, o, none⟩) ∧ (∀ b o, b < B → w1.frozen? ⟨b, o, none⟩ = W.frozen? ⟨b, o, none⟩) :=
  ⟨fun b o h => hb.cell (p := ⟨b, o, none⟩) h, fun b o h => hb.frozen (p := ⟨b, o, none⟩) h⟩

/-- 'string([]byte{c})'. -/
theorem run_one_byte (W : World) (q : Addr) (c : Nat) (hc : c < 256) (h : W.cell? q = some (.int .u8 (c : Int))) :
    (convert 69 9 (.slice (some q) 1 1)).run Try.prog W = .ok (.string (str [c.toUInt8])) W := by
  have hl : ([c.toUInt8] : List UInt8).length = 1 := rfl
  have := run_convert_bytes_back (P := Try.prog) W 69 9 5 q 1 [c.toUInt8] Try.underlying69 Try.underlying5 Try.underlying9 (fun j hj => by
    obtain rfl : j = 0 := by simpa using hj
    simp only [List.getElem_cons_zero]
    rw [show (c.toUInt8).toNat = c from Lib.toUInt8_toNat hc]
    simpa [Addr.add] using h)
  exact this

theorem fold_neg (n : Int) (w : World) (h0 : n < 0) (h1 : -9223372036854775808 ≤ n) :
    Calls Try.prog 53 #[.int .i64 n] w fun e w' => e = .returned (.int .u64 (Lib.zigzag n)) ∧ w = w' := by
  have hz : ((Lib.zigzag n : Nat) : Int) = -(n + 1) * 2 + 1 := by unfold Lib.zigzag; rw [if_neg (by omega)]; omega
  have HZ := Lib.hid hz; clear hz
  go_enter Try.func53, Try.ntmps53
  go_wp2
  go_ret
  exact ⟨ret_int HZ.out.symm, rfl⟩

theorem fold_pos (n : Int) (w : World) (h0 : 0 ≤ n) (h1 : n ≤ 9223372036854775807) :
    Calls Try.prog 53 #[.int .i64 n] w fun e w' => e = .returned (.int .u64 (Lib.zigzag n)) ∧ w = w' := by
  have hz : ((Lib.zigzag n : Nat) : Int) = n * 2 := Lib.zigzag_nonneg h0
  have HZ := Lib.hid hz; clear hz
  go_enter Try.func53, Try.ntmps53
  go_wp2
  go_ret
  exact ⟨ret_int HZ.out.symm, rfl⟩

theorem fold_any (n : Int) (w : World) (h0 : -9223372036854775808 ≤ n) (h1 : n ≤ 9223372036854775807) :
    Calls Try.prog 53 #[.int .i64 n] w fun e w' => e = .returned (.int .u64 (Lib.zigzag n)) ∧ w = w' := by
  by_cases h : n < 0
  · exact fold_neg n w h h0
  · exact fold_pos n w (by omega) h1

set_option maxHeartbeats 400000 in
theorem digits_one (n : Int) (w : World) (h0 : 0 ≤ n) (h : n < 128) :
    Calls Try.prog 48 #[.int .u64 n] w fun e w' => e = .returned (.string (str (Lib.uvarint n.toNat))) ∧ Below w.heap.size w w' := by
  obtain ⟨u, rfl⟩ := Int.eq_ofNat_of_zero_le h0
  rw [Int.toNat_natCast]
  have hcv := run_one_byte (w.alloc (.cells #[.int .u8 (u : Int)] 5)) ⟨w.heap.size, 0, none⟩ u (by omega) (by rw [World.cell?_alloc_at _ _ _ _ rfl]; rfl)
  go_enter Try.func48, Try.ntmps48
  go_wp2
  go_ret
  exact ⟨ret_str (by rw [Lib.uvarint_small (by omega)]), (Below.refl _ _).alloc (Nat.le_refl _) _⟩

set_option maxHeartbeats 400000 in
theorem digits_any (k : Nat) : ∀ (n : Int) (w : World), 0 ≤ n → n < 18446744073709551616 → n.toNat < 128 ^ (k + 1) →
    Calls Try.prog 48 #[.int .u64 n] w fun e w' => e = .returned (.string (str (Lib.uvarint n.toNat))) ∧ Below w.heap.size w w' := by
  induction k with
  | zero => intro n w h0 _ h; exact digits_one n w h0 (by omega)
  | succ k ih =>
    intro n w h0 h64 h
    by_cases h1 : n < 128
    · exact digits_one n w h0 h1
    · have hq : (n / 128).toNat < 128 ^ (k + 1) := by
        rw [Nat.pow_succ] at h
        rw [show (n / 128).toNat = n.toNat / 128 by omega]
        exact Nat.div_lt_of_lt_mul (by rw [Nat.mul_comm]; exact h)
      have HQ := Lib.hid hq; clear hq
      have IH := Lib.hid ih; clear ih
      have hu : 128 ≤ n := by omega
      have hm0 : n.tmod 128 = n % 128 := Int.tmod_eq_emod_of_nonneg (by omega)
      have hm1 : IntKind.u64.wrap (n % 128 + 128) = n % 128 + 128 := IntWalk.u64_in _ (by omega)
      have hm2 : IntKind.u8.wrap (n % 128 + 128) = n % 128 + 128 := IntWalk.u8_in _ (by omega)
      have hd0 : n.tdiv 128 = n / 128 := Int.tdiv_eq_ediv_of_nonneg (by omega)
      have hd1 : IntKind.u64.wrap (n / 128) = n / 128 := IntWalk.u64_in _ ⟨by omega, by omega⟩
      have hbig := Lib.uvarint_big (x := n.toNat) (by omega)
      rw [show n.toNat / 128 = (n / 128).toNat by omega] at hbig
      have hcv0 : ∀ W a, W.cell? a = some (.int .u8 (n % 128 + 128)) → (convert 69 9 (.slice (some a) 1 1)).run Try.prog W = .ok (.string (str [(n.toNat % 128 + 128).toUInt8])) W := fun W a ha =>
        run_one_byte W a (n.toNat % 128 + 128) (by omega) (by rw [ha]; congr 2; omega)
      obtain ⟨c, hc⟩ : ∃ c, (n.toNat % 128 + 128).toUInt8 = c := ⟨_, rfl⟩
      rw [hc] at hbig hcv0
      have hcv := hcv0; clear hcv0 hc
      have hl : n / 128 < 18446744073709551616 := by omega
      have HL := Lib.hid hl; clear hl
      have hsx : (str [c]).size ≤ 1 := by rw [str_size]; simp
      have hsy : (str (Lib.uvarint (n / 128).toNat)).size ≤ 10 := by rw [str_size]; exact Lib.uvarint_length64 (by have := HL.out; omega)
      have HBIG := Lib.hid hbig; clear hbig
      clear h h1 h0 h64
      go_enter Try.func48, Try.ntmps48
      go_wp2_with fail
      go_region_with (go_at_call 48; refine (IH.out _ _ (by omega) HL.out HQ.out).mono ?_; rintro e w1 ⟨rfl, hb⟩; obtain ⟨hc, hf⟩ := bcell hb)
      all_goals (go_wp2; go_ret; refine ⟨ret_str (by rw [HBIG.out, str_append]; rfl), ?_⟩)
      · exact (((Below.refl _ _).alloc (Nat.le_refl _) _).drew).trans (hb.mono (by simp))
      · exact (((Below.refl _ _).alloc (Nat.le_refl _) _).drew).trans (hb.mono (by simp))
      · exact ((Below.refl _ _).drew.trans hb).alloc hb.size _

theorem digits_of (n : Int) (w : World) (h0 : 0 ≤ n) (h : n < 18446744073709551616) :
    Calls Try.prog 48 #[.int .u64 n] w fun e w' => e = .returned (.string (str (Lib.uvarint n.toNat))) ∧ Below w.heap.size w w' :=
  digits_any 9 n w h0 h (by have : (128 : Nat) ^ (9 + 1) = 1180591620717411303424 := by decide
                            omega)

set_option maxHeartbeats 400000 in
/-- The reference's Number. -/
theorem refNumber_any (n : Int) (w : World) (h0 : -9223372036854775808 ≤ n) (h1 : n ≤ 9223372036854775807) :
    Calls Try.prog 31 #[.int .i64 n] w fun e w' => e = .returned (.string (str (num n))) ∧ Below w.heap.size w w' := by
  have hlt := Lib.zigzag_lt h0 h1
  have hfin : ∀ m : Int, m = Lib.zigzag n → Lib.uvarint m.toNat = num n := fun m hm => by rw [hm]; rfl
  have HF := Lib.hid hfin; clear hfin
  by_cases h : n < 0
  · have hz : -(n + 1) * 2 + 1 = Lib.zigzag n := by unfold Lib.zigzag; rw [if_neg (by omega)]; omega
    have hb : -(n + 1) * 2 + 1 < 18446744073709551616 := by omega
    have HZ := Lib.hid hz; clear hz
    have HB := Lib.hid hb; clear hb hlt h1
    go_enter Try.func31, Try.ntmps31
    go_wp2_with (go_at_call 48; refine (digits_of _ _ (by omega) HB.out).mono ?_; rintro e w' ⟨rfl, hb⟩)
    go_ret
    exact ⟨ret_str (by rw [HF.out _ HZ.out]), hb⟩
  · have hz : n * 2 = Lib.zigzag n := (Lib.zigzag_nonneg (by omega)).symm
    have hb : n * 2 < 18446744073709551616 := by omega
    have hn0 : 0 ≤ n := by omega
    have HZ := Lib.hid hz; clear hz
    have HB := Lib.hid hb; clear hb hlt h0 h
    go_enter Try.func31, Try.ntmps31
    go_wp2_with (go_at_call 48; refine (digits_of _ _ (by omega) HB.out).mono ?_; rintro e w' ⟨rfl, hb⟩)
    go_ret
    exact ⟨ret_str (by rw [HF.out _ HZ.out]), hb⟩

theorem heap_alloc_at (w : World) (o : Obj) : (w.alloc o).heap[w.heap.size]? = some o := by
  show (w.heap.push o)[w.heap.size]? = some o
  simp

/-- A row that starts as the one just made, with nothing in it. -/
theorem owns_made (w : World) (e : TypeId) (z : Value) (c : Nat) (hc : c ≤ maxLen) : (w.alloc (.cells (Array.replicate c z) e)).ownsRow w.heap.size e 1 (.slice (some ⟨w.heap.size, 0, none⟩) 0 c) 0 [] :=
  ⟨rfl, Or.inr ⟨w.heap.size, c, Array.replicate c z, rfl, Nat.le_refl _, heap_alloc_at _ _, by omega, hc, by simp, by simp⟩⟩

theorem owns_block {w : World} {base : Nat} {e : TypeId} {size : Nat} {v : Value} {n : Nat} {xs : List Value} (h : w.ownsRow base e size v n xs) : ∀ k, v.ownBlock = some k → base ≤ k := by
  intro k hk
  rcases h.2 with ⟨rfl, _⟩ | ⟨g, cap, cur, rfl, hg, _⟩
  · cases hk
  · simp only [Value.ownBlock, Option.some.injEq] at hk
    omega

/-- 'string(b)' of a row of bytes that the call owns. -/
theorem run_owned_str {w : World} {base : Nat} {v : Value} {n : Nat} {l : List UInt8} (h : w.ownsRow base 5 1 v n (Lib.byteCells l)) (hn : l.length = n) :
    (convert 69 9 v).run Try.prog w = .ok (.string (str l)) w := by
  subst hn
  rcases h.2 with ⟨rfl, h0⟩ | ⟨g, cap, cur, rfl, hg, hh, _, _, _, htk⟩
  · rw [List.length_eq_zero_iff] at h0
    subst h0
    exact Lib.run_convert_nil_bytes w 69 9 5 0 Try.underlying69 Try.underlying5 Try.underlying9
  · exact run_convert_bytes_back w 69 9 5 ⟨g, 0, none⟩ cap l Try.underlying69 Try.underlying5 Try.underlying9 (Lib.bytes_of_row hh (by simpa using htk))

theorem one_new (w : World) (v : Value) (e : TypeId) : ∀ (j : Nat) (u : Value), [v][j]? = some u → (w.alloc (.cells #[v] e)).cell? ((⟨w.heap.size, 0, none⟩ : Addr).add j) = some u := by
  intro j u hj
  match j, hj with
  | 0, hj => simp at hj; subst hj; simp [Addr.add]
theorem one_cell (k : IntKind) (n : Int) : ∀ u ∈ [Value.int k n], u.oneCell' = true := by intro u hu; simp at hu; subst hu; rfl

theorem Try.info5 : (Try.prog.info? 5).map (fun i => (i.zero, i.size, i.bytes)) = some (some (.int .u8 0), 1, 1) := by kernel_rfl

set_option maxHeartbeats 800000 in
set_option maxRecDepth 100000 in
/-- varint's Number. -/
theorem number_any (n : Int) (w : World) (h0 : -9223372036854775808 ≤ n) (h1 : n ≤ 9223372036854775807) :
    Calls Try.prog 37 #[.int .i64 n] w fun e w' => e = .returned (.string (str (num n))) ∧ Below w.heap.size w w' := by
  obtain ⟨i0, hi, hz0, hz1, hz2⟩ := info_parts Try.info5
  have hlt := Lib.zigzag_lt h0 h1
  have hlen := num_len n h0 h1
  have hmk : ∀ w, (Instr.makeSlice 69 (.int .i64 0) (.int .i64 10)).run Try.prog w = .ok (.slice (some ⟨w.heap.size, 0, none⟩) 0 10) (w.alloc (.cells (Array.replicate 10 (.int .u8 0)) 5)) := fun _ => by kernel_rfl
  have HLEN := Lib.hid hlen; clear hlen
  have HLT := Lib.hid hlt; clear hlt
  go_enter Try.func37, Try.ntmps37
  go_wp2_with (go_at_call 53; refine (fold_any _ _ h0 h1).mono ?_; rintro e w' ⟨rfl, rfl⟩)
  go_loopw [3, 4] (fun r v wr => ∃ (u : Nat) (acc : List UInt8), r = .int .u64 (u : Int) ∧ u ≤ Lib.zigzag n ∧ acc ++ Lib.uvarint u = num n ∧ wr.ownsRow w.heap.size 5 1 v acc.length (Lib.byteCells acc) ∧ Below w.heap.size w wr)
    (fun r _ _ => (intOf r).toNat)
  case atStart =>
    exact ⟨Lib.zigzag n, [], rfl, Nat.le_refl _, rfl, owns_made _ _ _ _ (by unfold maxLen; omega), (Below.refl _ _).alloc (Nat.le_refl _) _⟩
  case round =>
    obtain ⟨u, acc, rfl, hu, hacc, hown, hbel⟩ := hrel
    have hlen : acc.length + (Lib.uvarint u).length ≤ 10 := by rw [← List.length_append, hacc]; exact HLEN.out
    have hpos := Lib.uvarint_pos u
    have hu0 : 0 ≤ (u : Int) := by omega
    have HACC := Lib.hid hacc; clear hacc
    have hbs := hbel.size
    by_cases hs : (u : Int) < 128
    · have hm2 : IntKind.u8.wrap (u : Int) = (u : Int) := IntWalk.u8_in _ (by omega)
      have hall : acc ++ [u.toUInt8] = num n := by rw [← HACC.out, Lib.uvarint_small (by omega)]
      have HALL := Lib.hid hall; clear hall
      have hc4 : (acc.length + 1) * 1 ≤ 140737488355328 := by omega
      have hc5 : w.heap.size ≤ (wr.alloc (.cells #[.int .u8 (u : Int)] 5)).heap.size := by simp; omega
      have HC5 := Lib.hid hc5; clear hc5
      have HC4 := Lib.hid hc4; clear hc4
      clear h0 h1
      go_wp2_with (at_builtin; refine wpList_append_own _ rfl _ _ 69 rfl w.heap.size 5 i0 (.int .u8 0) 1 1 Try.underlying69 hi hz0 hz1 hz2 rfl (by decide) _ _ _ rfl (hown.alloc _) ⟨wr.heap.size, 0, none⟩ 1 1 [.int .u8 (u : Int)] rfl rfl (one_new _ _ _) (one_cell _ _) (by unfold maxLen; omega) HC4.out HC5.out ?_; intro v' w1 hown' hgrow hnn; clear hnn)
      have hb1 : Below w.heap.size w w1 := (hbel.alloc hbs _).grown hgrow HC5.out (owns_block hown)
      rw [← Lib.byteCells_snoc acc (show u < 256 by omega)] at hown'
      have hcv := run_owned_str hown' (by simp)
      rw [HALL.out] at hcv
      clear hgrow hown hown'
      go_wp2
      go_simp
      go_wp2
      go_ret
      exact ⟨rfl, hb1⟩
    · have hm2 : IntKind.u8.wrap ((u : Int) % 128) = (u : Int) % 128 := IntWalk.u8_in _ (by omega)
      have hor : bits .or .u8 ((u : Int) % 128) 128 = ((u % 128 + 128 : Nat) : Int) := by
        rw [Lib.u8_or128_any _ (by omega) (by omega)]; omega
      have hd1 : IntKind.u64.wrap ((u : Int) / 128) = (u : Int) / 128 := IntWalk.u64_in _ (by have := HLT.out; omega)
      have hbig := Lib.uvarint_big (x := u) (by omega)
      have hall : (acc ++ [(u % 128 + 128).toUInt8]) ++ Lib.uvarint (u / 128) = num n := by rw [← HACC.out, hbig]; simp
      have HALL := Lib.hid hall; clear hall hbig
      have hs' : 128 ≤ (u : Int) := by omega
      have hc4 : (acc.length + 1) * 1 ≤ 140737488355328 := by omega
      have hc5 : w.heap.size ≤ (wr.alloc (.cells #[.int .u8 ((u % 128 + 128 : Nat) : Int)] 5)).heap.size := by simp; omega
      have HC5 := Lib.hid hc5; clear hc5
      have HC4 := Lib.hid hc4; clear hc4
      clear hs h0 h1
      go_wp2_with (at_builtin; refine wpList_append_own _ rfl _ _ 69 rfl w.heap.size 5 i0 (.int .u8 0) 1 1 Try.underlying69 hi hz0 hz1 hz2 rfl (by decide) _ _ _ rfl (hown.alloc _) ⟨wr.heap.size, 0, none⟩ 1 1 [.int .u8 ((u % 128 + 128 : Nat) : Int)] rfl rfl (one_new _ _ _) (one_cell _ _) (by unfold maxLen; omega) HC4.out HC5.out ?_; intro v' w1 hown' hgrow hnn; clear hnn)
      have hb1 : Below w.heap.size w w1 := (hbel.alloc hbs _).grown hgrow HC5.out (owns_block hown)
      rw [← Lib.byteCells_snoc acc (show u % 128 + 128 < 256 by omega)] at hown'
      clear hgrow hown
      go_wp2
      go_roundw
      case rel => exact ⟨u / 128, acc ++ [(u % 128 + 128).toUInt8], by simp, by omega, HALL.out, by simpa using hown', hb1⟩
      case measure => simp [intOf]; omega
end Go.Proofs.Ytebglkpejdoggaa.V

namespace Go.Proofs.Ytebglkpejdoggaa.C10
open Go Go.RowKit Go.Proofs Go.Proofs.Ytebglkpejdoggaa.B Go.Proofs.Ytebglkpejdoggaa.K Go.Proofs.Ytebglkpejdoggaa.P8
set_option linter.unusedVariables false

/-- A step: from a place and what was wrong ahead of it to what was read, the place, and what is wrong. -/
abbrev Stp (X : Type) := List UInt8 → Int → Int → X × Int × Int
def sOne {X : Type} (z : X) (f : List UInt8 → Int → X × Int × Int) : Stp X := fun s p er => if er = 0 then f s p else (z, p, er)
def sNum : Stp Int := sOne 0 V.rdAt
def sTxt : Stp (List UInt8) := sOne [] V.txt
def sThen {X Y : Type} (f : Stp X) (g : X → Stp Y) : Stp Y := fun s p er => g (f s p er).1 s (f s p er).2.1 (f s p er).2.2
def sEnd {X : Type} (x : X) : Stp X := fun _ p er => (x, p, er)
def sOk {X : Type} (ok : X → Bool) (x : X) : Stp X := fun _ p er => (x, p, if er = 0 ∧ ok x = false then 6 else er)
/-- So many items more, behind those that there are. -/
def sGo {X : Type} (item : Stp X) : Nat → List X → Stp (List X)
  | 0, acc => sEnd acc
  | n + 1, acc => sThen item fun x => sGo item n (acc ++ [x])
def sItems {X : Type} (item : Stp X) (most : Nat) (n : Int) : Stp (List X) := fun s p er =>
  if er ≠ 0 then ([], p, er) else if n < 0 ∨ (most : Int) < n then ([], p, 6) else sGo item n.toNat [] s p 0
def sList {X : Type} (item : Stp X) (most : Nat) : Stp (List X) := sThen sNum (sItems item most)
def sEv : Stp Ev := sThen sNum fun a => sThen (sList sNum 6) fun v => sEnd ⟨a, v⟩
def sIt : Stp It := sThen sTxt fun t => sThen sNum fun a => sThen sNum fun b => sThen (sList sNum 6) fun v => sEnd ⟨t, ⟨a, b, v⟩⟩
def sVd : Stp Vd := sThen sNum fun a => sThen sNum fun b => sEnd ⟨a, b⟩
def sCmd : Stp Cm := sThen sNum fun a => sThen sNum fun b => sThen sTxt fun t => sThen sNum fun r => sThen (sList sNum 4) fun v => sThen sNum fun e => sEnd ⟨a, b, t, r, v, e⟩
def sRec : Stp Rc := sThen sNum fun a => sThen sNum fun b => sThen sTxt fun t => sThen sNum fun c => sThen (sList sEv 3) fun l => sEnd ⟨a, b, t, c, l⟩
def sEvs : Stp (List Ev) := sList sEv 3
def sIts : Stp (List It) := sList sIt 64
def sVds : Stp (List Vd) := sList sVd 32
def sFilt : Stp (List (List UInt8)) := sList sTxt 8

/-- Such a step reads what the reading reads, if P may be; else something is wrong. -/
structure Sim {X : Type} (P : X → Prop) (st : Stp X) (rd : Rd X) : Prop where
  got : ∀ s p x q, rd s p = some (x, q) → P x → st s p 0 = (x, q, 0)
  bad : ∀ s p, (∀ x q, rd s p = some (x, q) → ¬ P x) → (st s p 0).2.2 ≠ 0
  keep : ∀ s p er, er ≠ 0 → (st s p er).2.2 ≠ 0

theorem sim_one {X : Type} (z : X) (f : List UInt8 → Int → X × Int × Int) : Sim (fun _ => True) (sOne z f) (fun s p => got (f s p)) where
  got := fun s p x q h _ => by
    unfold got at h
    split at h
    · rename_i h0
      simp only [Option.some.injEq, Prod.mk.injEq] at h
      unfold sOne
      rw [if_pos rfl, ← h.1, ← h.2, ← h0]
    · cases h
  bad := fun s p h h0 => by
    unfold sOne at h0
    rw [if_pos rfl] at h0
    exact h (f s p).1 (f s p).2.1 (by unfold got; rw [if_pos h0]) trivial
  keep := fun s p er h => by
    unfold sOne
    rw [if_neg h]
    exact h
theorem sim_num : Sim (fun _ => True) sNum rNum := sim_one 0 V.rdAt
theorem sim_txt : Sim (fun _ => True) sTxt rTxt := sim_one [] V.txt
theorem sim_end {X : Type} {P : X → Prop} {x : X} (h : P x) : Sim P (sEnd x) (rEnd (fun _ => true) x) where
  got := fun s p y q hy hP => by
    unfold rEnd at hy
    rw [if_pos rfl] at hy
    simp only [Option.some.injEq, Prod.mk.injEq] at hy
    rw [← hy.1, ← hy.2]; rfl
  bad := fun s p hb => absurd h (hb x p (by unfold rEnd; rw [if_pos rfl]))
  keep := fun s p er h => h
theorem sim_ok {X : Type} (ok : X → Bool) (x : X) : Sim (fun _ => True) (sOk ok x) (rEnd ok x) where
  got := fun s p y q hy _ => by
    unfold rEnd at hy
    split at hy
    · rename_i hk
      simp only [Option.some.injEq, Prod.mk.injEq] at hy
      unfold sOk
      rw [← hy.1, ← hy.2, if_neg (by rw [hk]; simp)]
    · cases hy
  bad := fun s p hb => by
    unfold sOk
    cases hk : ok x with
    | true => exact absurd trivial (hb x p (by unfold rEnd; rw [if_pos hk]))
    | false => simp
  keep := fun s p er h => by
    unfold sOk
    rw [if_neg (fun e => h e.1)]
    exact h
theorem sim_then {X Y : Type} {P : X → Prop} {Q : Y → Prop} {f : Stp X} {rf : Rd X} {g : X → Stp Y} {rg : X → Rd Y} (hf : Sim P f rf) (hg : ∀ x, P x → Sim Q (g x) (rg x)) (hk : ∀ x s p er, er ≠ 0 → (g x s p er).2.2 ≠ 0)
    (hn : ∀ x s p y q, ¬ P x → rg x s p = some (y, q) → ¬ Q y) : Sim Q (sThen f g) (rThen rf rg) where
  got := fun s p y q h hQ => by
    unfold rThen at h
    cases hr : rf s p with
    | none => rw [hr] at h; cases h
    | some r =>
      obtain ⟨x, p1⟩ := r
      rw [hr] at h
      have h' : rg x s p1 = some (y, q) := h
      by_cases hP : P x
      · unfold sThen
        rw [hf.got s p x p1 hr hP]
        exact (hg x hP).got s p1 y q h' hQ
      · exact absurd hQ (hn x s p1 y q hP h')
  bad := fun s p hb => by
    unfold sThen
    cases hr : rf s p with
    | none => exact hk _ _ _ _ (hf.bad s p (by intro x q h; rw [hr] at h; cases h))
    | some r =>
      obtain ⟨x, p1⟩ := r
      by_cases hP : P x
      · rw [hf.got s p x p1 hr hP]
        exact (hg x hP).bad s p1 (fun y q h => hb y q (by unfold rThen; rw [hr]; exact h))
      · exact hk _ _ _ _ (hf.bad s p (by intro y q h; rw [hr] at h; cases h; exact hP))
  keep := fun s p er h => hk _ _ _ _ (hf.keep s p er h)
theorem keep_then {X Y : Type} {f : Stp X} {g : X → Stp Y} (hf : ∀ s p er, er ≠ 0 → (f s p er).2.2 ≠ 0) (hk : ∀ x s p er, er ≠ 0 → (g x s p er).2.2 ≠ 0) : ∀ s p er, er ≠ 0 → (sThen f g s p er).2.2 ≠ 0 := fun s p er h => hk _ _ _ _ (hf s p er h)
theorem sGo_keep {X : Type} {f : Stp X} (hf : ∀ s p er, er ≠ 0 → (f s p er).2.2 ≠ 0) : ∀ (n : Nat) (acc : List X) s p er, er ≠ 0 → (sGo f n acc s p er).2.2 ≠ 0
  | 0, _, _, _, _, h => h
  | n + 1, acc, s, p, er, h => keep_then hf (fun x => sGo_keep hf n (acc ++ [x])) s p er h

/-- So many, behind those that there are. -/
def rBehind {X : Type} (acc : List X) (f : Rd X) (n : Nat) : Rd (List X) := fun s p => (rMany f n s p).map fun r => (acc ++ r.1, r.2)
theorem behind_zero {X : Type} (acc : List X) (f : Rd X) : rBehind acc f 0 = rEnd (fun _ => true) acc := by
  funext s p
  unfold rBehind rMany rEnd
  simp
theorem behind_succ {X : Type} (acc : List X) (f : Rd X) (n : Nat) : rBehind acc f (n + 1) = rThen f fun x => rBehind (acc ++ [x]) f n := by
  funext s p
  unfold rBehind
  rw [show rMany f (n + 1) = rThen f fun x => rThen (rMany f n) fun l => fun _ p => some (x :: l, p) from rfl]
  unfold rThen
  cases hf : f s p with
  | none => simp
  | some r =>
    obtain ⟨x, p1⟩ := r
    simp only [Option.bind_some]
    cases hm : rMany f n s p1 with
    | none => simp
    | some r => simp
theorem sim_go {X : Type} {P : X → Prop} {f : Stp X} {rf : Rd X} (hf : Sim P f rf) : ∀ (n : Nat) (acc : List X), (∀ x ∈ acc, P x) → Sim (fun l => ∀ x ∈ l, P x) (sGo f n acc) (rBehind acc rf n)
  | 0, acc, h => by
    rw [behind_zero]
    exact sim_end h
  | n + 1, acc, h => by
    rw [behind_succ]
    refine sim_then hf (fun x hx => sim_go hf n (acc ++ [x]) (fun y hy => ?_)) (fun x => sGo_keep hf.keep n _) (fun x s p y q hx hy hall => ?_)
    · rcases List.mem_append.1 hy with hy | hy
      · exact h y hy
      · rw [List.mem_singleton.1 hy]; exact hx
    · unfold rBehind at hy
      cases hm : rMany rf n s p with
      | none => rw [hm] at hy; cases hy
      | some r =>
        rw [hm] at hy
        simp only [Option.map_some, Option.some.injEq, Prod.mk.injEq] at hy
        exact hx (hall x (by rw [← hy.1]; simp))
theorem sim_list {X : Type} {P : X → Prop} {f : Stp X} {rf : Rd X} (hf : Sim P f rf) (most : Nat) : Sim (fun l => ∀ x ∈ l, P x) (sList f most) (rList rf most) := by
  unfold sList rList
  refine sim_then sim_num (fun n _ => ?_) (fun n s p er h => by unfold sItems; rw [if_pos h]; exact h) (fun n s p y q hn => absurd trivial hn)
  · by_cases hn : n < 0 ∨ (most : Int) < n
    · rw [if_pos hn]
      refine ⟨fun s p x q h _ => ?_, fun s p _ => ?_, fun s p er h => ?_⟩
      · cases h
      · unfold sItems; rw [if_neg (by simp), if_pos hn]; simp
      · unfold sItems; rw [if_pos h]; exact h
    · rw [if_neg hn]
      have h := sim_go hf n.toNat [] (by simp)
      have e : rBehind [] rf n.toNat = rMany rf n.toNat := by funext s p; unfold rBehind; cases rMany rf n.toNat s p <;> simp
      rw [e] at h
      exact ⟨fun s p x q hr hP => by unfold sItems; rw [if_neg (by simp), if_neg hn]; exact h.got s p x q hr hP, fun s p hb => by unfold sItems; rw [if_neg (by simp), if_neg hn]; exact h.bad s p hb, fun s p er h => by unfold sItems; rw [if_pos h]; exact h⟩
theorem sItems_keep {X : Type} (f : Stp X) (most : Nat) (n : Int) : ∀ s p er, er ≠ 0 → (sItems f most n s p er).2.2 ≠ 0 := fun s p er h => by unfold sItems; rw [if_pos h]; exact h
theorem sList_keep {X : Type} (f : Stp X) (most : Nat) : ∀ s p er, er ≠ 0 → (sList f most s p er).2.2 ≠ 0 := keep_then sim_num.keep (sItems_keep f most)

/-! ### Lists of numbers: varint's own reading has other bounds -/
theorem items_go (s : List UInt8) : ∀ (n : Nat) (acc : List Int) (p : Int), (∀ xs q, V.items (V.rdAt s) n p = (xs, q, 0) → sGo sNum n acc s p 0 = (acc ++ xs, q, 0)) ∧ ((V.items (V.rdAt s) n p).2.2 ≠ 0 → (sGo sNum n acc s p 0).2.2 ≠ 0)
  | 0, acc, p => ⟨fun xs q h => by
      unfold V.items at h
      simp only [Prod.mk.injEq] at h
      rw [← h.1, ← h.2.1]; simp [sGo, sEnd], fun h => (h rfl).elim⟩
  | n + 1, acc, p => by
    obtain ⟨x, p1, e, hx⟩ : ∃ x p1 e, V.rdAt s p = (x, p1, e) := ⟨_, _, _, rfl⟩
    have hs : sGo sNum (n + 1) acc s p 0 = sGo sNum n (acc ++ [x]) s p1 e := by
      show sThen sNum _ s p 0 = _
      unfold sThen sNum sOne
      rw [if_pos rfl, hx]
    rw [hs]
    unfold V.items
    rw [hx]
    by_cases he : e = 0
    · subst he
      have ih := items_go s n (acc ++ [x]) p1
      simp only [ne_eq, not_true, if_false]
      obtain ⟨xs, q, e2, h2⟩ : ∃ xs q e2, V.items (V.rdAt s) n p1 = (xs, q, e2) := ⟨_, _, _, rfl⟩
      rw [h2] at ih ⊢
      unfold V.app
      by_cases he2 : e2 = 0
      · subst he2
        simp only [ne_eq, not_true, if_false]
        refine ⟨fun ys q' h => ?_, fun h => h.elim⟩
        simp only [Prod.mk.injEq, and_true] at h
        rw [← h.1, ← h.2, ih.1 xs q rfl]
        simp
      · simp only [ne_eq, he2, not_false_eq_true, if_true]
        exact ⟨fun ys q' h => (he2 (congrArg (fun r => r.2.2) h)).elim, fun _ => ih.2 he2⟩
    · simp only [ne_eq, he, not_false_eq_true, if_true]
      exact ⟨fun ys q' h => (he (congrArg (fun r => r.2.2) h)).elim, fun _ => sGo_keep sim_num.keep n _ s p1 e he⟩
theorem items_length (s : List UInt8) : ∀ (n : Nat) (p : Int) xs q, V.items (V.rdAt s) n p = (xs, q, 0) → xs.length = n
  | 0, p, xs, q, h => by
    unfold V.items at h
    simp only [Prod.mk.injEq] at h
    rw [← h.1]; rfl
  | n + 1, p, xs, q, h => by
    unfold V.items at h
    split at h
    · rename_i hne
      simp only [Prod.mk.injEq] at h
      exact absurd h.2.2 hne
    · obtain ⟨ys, q2, e2, h2⟩ : ∃ ys q2 e2, V.items (V.rdAt s) n (V.rdAt s p).2.1 = (ys, q2, e2) := ⟨_, _, _, rfl⟩
      rw [h2] at h
      unfold V.app at h
      by_cases he : e2 = 0
      · subst he
        simp only [ne_eq, not_true, if_false, Prod.mk.injEq] at h
        rw [← h.1, List.length_append, items_length s n _ ys q2 h2]
        simp [Nat.add_comm]
      · rw [if_pos he] at h
        exact (he (congrArg (fun r => r.2.2) h)).elim
theorem sim_nums (most : Nat) (hm : most ≤ 256) : Sim (fun l => l.length ≤ most) (sList sNum most) rNums where
  keep := sList_keep sNum most
  got := fun s p x q h hP => by
    unfold rNums got V.nums V.listOf at h
    obtain ⟨n, p1, e, hc⟩ : ∃ n p1 e, V.count s p 256 = (n, p1, e) := ⟨_, _, _, rfl⟩
    rw [hc] at h
    by_cases he : e = 0
    · subst he
      obtain ⟨c1, c2, c3, c4, c5, c6⟩ := V.count_ok _ _ _ hc
      simp only [ne_eq, not_true, if_false] at h
      obtain ⟨xs, q2, e2, h2⟩ : ∃ xs q2 e2, V.items (V.rdAt s) n.toNat p1 = (xs, q2, e2) := ⟨_, _, _, rfl⟩
      rw [h2] at h
      split at h
      · rename_i he2
        simp only [Option.some.injEq, Prod.mk.injEq] at h
        obtain ⟨rfl, rfl⟩ := h
        dsimp only at he2
        rw [he2] at h2
        have hl := items_length s _ _ _ _ h2
        unfold sList sThen sNum sOne
        rw [if_pos rfl, c6]
        unfold sItems
        rw [if_neg (by simp), if_neg (by omega)]
        have := (items_go s n.toNat [] p1).1 xs q2 h2
        rw [List.nil_append] at this
        exact this
      · cases h
    · rw [if_pos he] at h
      dsimp only at h
      rw [if_neg he] at h
      cases h
  bad := fun s p hb h0 => by
    have hsn : sNum s p 0 = V.rdAt s p := by unfold sNum sOne; rw [if_pos rfl]
    unfold sList sThen at h0
    rw [hsn] at h0
    obtain ⟨n, p1, e, hr⟩ : ∃ n p1 e, V.rdAt s p = (n, p1, e) := ⟨_, _, _, rfl⟩
    rw [hr] at h0
    dsimp only at h0
    unfold sItems at h0
    by_cases he : e = 0
    · subst he
      rw [if_neg (by simp)] at h0
      by_cases hn : n < 0 ∨ (most : Int) < n
      · rw [if_pos hn] at h0
        exact absurd h0 (by simp)
      · rw [if_neg hn] at h0
        have hcnt : V.count s p 256 = (n, p1, 0) := by
          unfold V.count V.countOf
          rw [hr]
          simp only [ne_eq, not_true, if_false]
          rw [if_neg (by omega), if_neg (by omega)]
        obtain ⟨xs, q2, e2, h2⟩ : ∃ xs q2 e2, V.items (V.rdAt s) n.toNat p1 = (xs, q2, e2) := ⟨_, _, _, rfl⟩
        have hg := items_go s n.toNat [] p1
        rw [h2] at hg
        by_cases he2 : e2 = 0
        · subst he2
          refine hb xs q2 ?_ (by rw [items_length s _ _ _ _ h2]; omega)
          unfold rNums got V.nums V.listOf
          rw [hcnt]
          simp only [ne_eq, not_true, if_false]
          rw [h2]
          simp
        · exact hg.2 he2 h0
    · rw [if_pos he] at h0
      exact he h0

/-! ### What is read as a whole -/
theorem true_then {X Y : Type} {Q : Y → Prop} {f : Stp X} {rf : Rd X} {g : X → Stp Y} {rg : X → Rd Y} (hf : Sim (fun _ => True) f rf) (hg : ∀ x, Sim Q (g x) (rg x)) : Sim Q (sThen f g) (rThen rf rg) :=
  sim_then hf (fun x _ => hg x) (fun x => (hg x).keep) (fun x s p y q h => absurd trivial h)
theorem end_keep {X : Type} (x : X) : ∀ (s : List UInt8) (p er : Int), er ≠ 0 → (sEnd x s p er).2.2 ≠ 0 := fun _ _ _ h => h
theorem ok_keep {X : Type} (ok : X → Bool) (x : X) : ∀ (s : List UInt8) (p er : Int), er ≠ 0 → (sOk ok x s p er).2.2 ≠ 0 := (sim_ok ok x).keep
theorem sim_ev : Sim (fun e => e.vars.length ≤ 6) sEv rEv :=
  true_then sim_num fun a => sim_then (sim_nums 6 (by decide)) (fun v hv => sim_end hv) (fun v => end_keep _) (fun v s p y q hv h => by rw [(end_some h).2.1]; exact hv)
theorem sim_it : Sim (fun x => x.st.vars.length ≤ 6) sIt rIt :=
  true_then sim_txt fun t => true_then sim_num fun a => true_then sim_num fun b => sim_then (sim_nums 6 (by decide)) (fun v hv => sim_end hv) (fun v => end_keep _) (fun v s p y q hv h => by rw [(end_some h).2.1]; exact hv)
theorem sim_vd : Sim (fun _ => True) sVd rVd :=
  true_then sim_num fun a => true_then sim_num fun b => sim_end trivial
theorem sim_cmd : Sim (fun _ => True) (sThen sCmd (sOk cmdP)) rdCmd := by
  unfold rdCmd
  show Sim _ (sThen sNum fun a => sThen sNum fun b => sThen sTxt fun t => sThen sNum fun r => sThen (sList sNum 4) fun v => sThen sNum fun e => sOk cmdP ⟨a, b, t, r, v, e⟩) _
  refine true_then sim_num fun a => true_then sim_num fun b => true_then sim_txt fun t => true_then sim_num fun r => sim_then (sim_nums 4 (by decide)) (fun v _ => true_then sim_num fun e => sim_ok _ _) (fun v => keep_then sim_num.keep fun e => ok_keep _ _) (fun v s p y q hv h => ?_)
  obtain ⟨e, p1, _, h2⟩ := then_some h
  have hk := (end_some h2).1
  unfold cmdP at hk
  simp only [Bool.and_eq_true] at hk
  exact absurd (vals_facts hk.2.2.1).2 hv
theorem sim_rec : Sim (fun _ => True) (sThen sRec (sOk recP)) rdRec := by
  unfold rdRec
  show Sim _ (sThen sNum fun a => sThen sNum fun b => sThen sTxt fun t => sThen sNum fun c => sThen (sList sEv 3) fun l => sOk recP ⟨a, b, t, c, l⟩) _
  refine true_then sim_num fun a => true_then sim_num fun b => true_then sim_txt fun t => true_then sim_num fun r => sim_then (sim_list sim_ev 3) (fun l _ => sim_ok _ _) (fun l => ok_keep _ _) (fun l s p y q hl h => ?_)
  have hk := (end_some h).1
  unfold recP at hk
  simp only [Bool.and_eq_true] at hk
  refine absurd (fun x hx => ?_) hl
  have he := (evs_facts hk.2.2.1).1 x hx
  unfold evP at he
  rw [Bool.and_eq_true] at he
  exact (vals_facts he.2).2
theorem items_each (l : List It) : ∀ (k : Nat) (r : List It), itemsGo l k r = true → ∀ x ∈ r, streamP x.stream = true ∧ stP x.st = true
  | _, [], _ => fun x hx => by cases hx
  | k, y :: r, h => fun x hx => by
    unfold itemsGo at h
    rw [Bool.and_eq_true] at h
    rcases List.mem_cons.1 hx with rfl | hx
    · have h1 := h.1
      unfold itP at h1
      simp only [Bool.and_eq_true] at h1
      exact ⟨h1.1, h1.2.1⟩
    · exact items_each l (k + 1) r h.2 x hx
theorem sim_items : Sim (fun _ => True) (sThen sIts (sOk itemsP)) rdItems := by
  unfold rdItems
  refine sim_then (sim_list sim_it 64) (fun l _ => sim_ok _ _) (fun l => ok_keep _ _) (fun l s p y q hl h => ?_)
  have hk := (end_some h).1
  unfold itemsP at hk
  rw [Bool.and_eq_true] at hk
  refine absurd (fun x hx => ?_) hl
  have he := (items_each l 0 l hk.1 x hx).2
  unfold stP at he
  simp only [Bool.and_eq_true] at he
  exact (vals_facts he.2.2).2
theorem sim_vds : Sim (fun _ => True) (sThen sVds (sOk vdsP)) rdVds := by
  unfold rdVds
  refine sim_then (sim_list sim_vd 32) (fun l _ => sim_ok _ _) (fun l => ok_keep _ _) (fun l s p y q hl h => ?_)
  exact absurd (fun x hx => trivial) hl
theorem sim_filt : Sim (fun _ => True) (sThen sFilt (sOk filtP)) rdFilt := by
  unfold rdFilt
  refine sim_then (sim_list sim_txt 8) (fun l _ => sim_ok _ _) (fun l => ok_keep _ _) (fun l s p y q hl h => ?_)
  exact absurd (fun x hx => trivial) hl
end Go.Proofs.Ytebglkpejdoggaa.C10

namespace Go.Proofs.Ytebglkpejdoggaa.V
open Go.RowKit

theorem unfold_any (x : Int) (w : World) (h0 : 0 ≤ x) (h1 : x < 18446744073709551616) :
    Calls Try.prog 82 #[.int .u64 x] w fun e w' => e = .returned (.int .i64 (unzz x.toNat)) ∧ w = w' := by
  obtain ⟨u, rfl⟩ := Int.eq_ofNat_of_zero_le h0
  rw [Int.toNat_natCast]
  have hc : IntKind.i64.wrap ((u : Int) / 2) = (u : Int) / 2 := IntWalk.i64_in _ (by omega)
  have hl : (u : Int) / 2 ≤ 9223372036854775807 := by omega
  clear h1
  by_cases h : (u : Int) % 2 = 1
  · have hz : unzz u = -((u : Int) / 2) - 1 := by unfold unzz; rw [if_neg (by omega)]; omega
    have HZ := Lib.hid hz; clear hz
    have hb : ((u : Int) % 2 == 1) = true := by simp [h]
    clear h
    go_enter Try.func82, Try.ntmps82
    go_wp2
    go_ret
    exact ⟨ret_int HZ.out.symm, rfl⟩
  · have hz : unzz u = ((u : Int) / 2) := by unfold unzz; rw [if_pos (by omega)]; omega
    have HZ := Lib.hid hz; clear hz
    have hb : ((u : Int) % 2 == 1) = false := by simp [h]
    clear h
    go_enter Try.func82, Try.ntmps82
    go_wp2
    go_ret
    exact ⟨ret_int HZ.out.symm, rfl⟩

theorem pow_le56 {k : Nat} (hk : k < 9) : (128 : Nat) ^ k ≤ 72057594037927936 := by
  have e : (128 : Nat) ^ 8 = 72057594037927936 := by decide
  exact e ▸ Nat.pow_le_pow_right (by decide) (by omega)
theorem small_next (k A d : Nat) (hk : k < 9) (hA : A < 128 ^ k) (hd : d < 128) : A + 128 ^ k * d < 9223372036854775808 := by
  have h1 := pow_le56 hk
  have h2 : 128 ^ k * d ≤ 72057594037927936 * 127 := Nat.mul_le_mul h1 (by omega)
  omega
theorem or_wrap (k A b : Nat) (hk : k < 9) (hA : A < 128 ^ k) (hd : b % 128 < 128) :
    bits .or .u64 (A : Int) (IntKind.u64.wrap ((b : Int) % 128 * 2 ^ (k * 7))) = ((A + 128 ^ k * (b % 128) : Nat) : Int) := by
  have h1 := pow_le56 hk
  have e : (2 : Nat) ^ (k * 7) = 128 ^ k := by rw [show (128 : Nat) = 2 ^ 7 by decide, ← Nat.pow_mul, Nat.mul_comm]
  have h2 : b % 128 * 2 ^ (k * 7) ≤ 127 * 72057594037927936 := Nat.mul_le_mul (by omega) (by rw [e]; exact h1)
  have hc : (b : Int) % 128 * 2 ^ (k * 7) = ((b % 128 * 2 ^ (k * 7) : Nat) : Int) := by simp
  rw [hc, IntWalk.u64_in _ (by omega), bits_or_u64_nat _ _ (by omega) (by omega), lor_above k A _ hA]

theorem ret_three {k k' k'' : IntKind} {a a' b b' c c' : Int} (h : (a, b, c) = (a', b', c')) : Ending.returned (.tuple #[.int k a, .int k' b, .int k'' c]) = .returned (.tuple #[.int k a', .int k' b', .int k'' c']) := by
  obtain ⟨rfl, rfl, rfl⟩ : a = a' ∧ b = b' ∧ c = c' := by simpa using h
  rfl

set_option maxHeartbeats 1000000 in
set_option maxRecDepth 100000 in
/-- varint's ReadNumber, at a place out of range. -/
theorem readNumber_out (s : ByteArray) (p : Int) (w : World) (h : p < 0 ∨ (s.size : Int) < p) :
    Calls Try.prog 73 #[.string s, .int .i64 p] w fun e w' => e = .returned (.tuple #[.int .i64 0, .int .i64 0, .int .i64 3]) ∧ w = w' := by
  by_cases h0 : p < 0
  · go_enter Try.func73, Try.ntmps73
    go_wp2
    go_ret3
    exact ⟨rfl, rfl⟩
  · have h1 : (s.size : Int) < p := by omega
    go_enter Try.func73, Try.ntmps73
    go_wp2
    go_ret3
    exact ⟨rfl, rfl⟩

set_option maxHeartbeats 1000000 in
set_option maxRecDepth 100000 in
/-- varint's ReadNumber, at a place in range. -/
theorem readNumber_in (s : ByteArray) (p : Nat) (w : World) (h : p ≤ s.size) (hs : s.size ≤ 140737488355328) :
    Calls Try.prog 73 #[.string s, .int .i64 p] w fun e w' => 
      e = .returned (.tuple #[.int .i64 (rdAt s.data.toList p).1, .int .i64 (rdAt s.data.toList p).2.1, .int .i64 (rdAt s.data.toList p).2.2]) ∧ w = w' := by
  have h0 : ¬ (p : Int) < 0 := by omega
  have h1 : ¬ (s.size : Int) < (p : Int) := by omega
  have hfin : ∀ (e : Ending) (w' : World) (x : Int × Int × Int), rdAt s.data.toList p = x → e = .returned (.tuple #[.int .i64 x.1, .int .i64 x.2.1, .int .i64 x.2.2]) ∧ w = w' → e = .returned (.tuple #[.int .i64 (rdAt s.data.toList p).1, .int .i64 (rdAt s.data.toList p).2.1, .int .i64 (rdAt s.data.toList p).2.2]) ∧ w = w' := by
    intro e w' x hx h; rw [hx]; exact h
  have HFIN := Lib.hid hfin; clear hfin
  have hat := rdAt_in s.data.toList p (by rw [← size_list]; exact h)
  have HAT := Lib.hid hat; clear hat
  go_enter Try.func73, Try.ntmps73
  go_wp2
  go_loop [7, 8] (fun f i => ∃ k A : Nat, k ≤ 9 ∧ p + k ≤ s.size ∧ Hid (A = val ((s.data.toList.drop p).take k)) ∧ Hid (∀ j (hj : j < (s.data.toList.drop p).length), j < k → 128 ≤ (s.data.toList.drop p)[j].toNat) ∧ i = .int .i64 ((p + k : Nat) : Int) ∧ f = .int .u64 (A : Int)) (fun _ i => s.size - (intOf i).toNat)
  case atStart => exact ⟨0, 0, by omega, by omega, rfl, fun j hj h => by omega, rfl, rfl⟩
  case round =>
    obtain ⟨k, A, hk9, hk, HA, HHI, rfl, rfl⟩ := hrel
    by_cases hlt : p + k < s.size
    · obtain ⟨b, hb, hget⟩ := byte_at s p k hlt
      have HGET := Lib.hid hget; clear hget
      have hb256 : (b : Int) < 256 := by have := (s[p + k]'hlt).toNat_lt; omega
      have hb0 : 0 ≤ (b : Int) := by omega
      have hAlt : A < 128 ^ k := by rw [HA.out]; exact Nat.lt_of_lt_of_le (val_lt _) (Nat.pow_le_pow_right (by decide) (by simp; omega))
      have HALT := Lib.hid hAlt; clear hAlt
      by_cases hk9' : k = 9
      · subst hk9'
        by_cases hb1 : 1 < (b : Int)
        · have hv := rd_nine (s.data.toList.drop p) HHI.out HGET.out (by omega)
          have HV := Lib.hid hv; clear hv
          go_wp2_with fail
          go_ret3
          exact HFIN.out _ _ _ (HAT.out.trans (by rw [HV.out])) ⟨rfl, rfl⟩
        · by_cases hbz : (b : Int) = 0
          · obtain rfl : b = 0 := by omega
            have hv := rd_zero (s.data.toList.drop p) 9 (by omega) (by omega) HHI.out HGET.out
            have HV := Lib.hid hv; clear hv
            go_wp2_with fail
            go_ret3
            exact HFIN.out _ _ _ (HAT.out.trans (by rw [HV.out])) ⟨rfl, rfl⟩
          · obtain rfl : b = 1 := by omega
            have hv := rd_last (s.data.toList.drop p) 9 (by omega) HHI.out HGET.out (by omega) (by omega) (by omega)
            rw [← HA.out] at hv
            have e9 : (128 : Nat) ^ 9 = 9223372036854775808 := by decide
            have hA9 : A < 9223372036854775808 := by have := HALT.out; rw [e9] at this; exact this
            have hor : bits .or .u64 (A : Int) 9223372036854775808 = ((A + 128 ^ 9 * 1 : Nat) : Int) := by
              have := bits_or_u64_nat A 9223372036854775808 (by omega) (by omega)
              rw [← lor_above 9 A 1 HALT.out]
              exact this
            have hx : A + 128 ^ 9 * 1 < 18446744073709551616 := by rw [e9]; omega
            generalize hX : A + 128 ^ 9 * 1 = X at hv hor hx
            have HV := Lib.hid hv
            have HX := Lib.hid hx
            clear hv hx hX hA9 e9
            go_wp2_with (go_at_call 82; refine (unfold_any _ _ (Int.natCast_nonneg X) (by have := HX.out; omega)).mono ?_; rintro e w' ⟨rfl, rfl⟩)
            go_ret3
            exact HFIN.out _ _ _ (HAT.out.trans (by rw [HV.out])) ⟨rfl, rfl⟩
      · have hk9 : k < 9 := by omega
        have hne9 : ((k : Int) == 9) = false := by simp; omega
        have hpk : (p : Int) + (k : Int) - (p : Int) = (k : Int) := by omega
        have hor : ∃ X : Nat, X = A + 128 ^ k * (b % 128) ∧ X < 9223372036854775808 ∧ bits .or .u64 (A : Int) (IntKind.u64.wrap ((b : Int) % 128 * 2 ^ (k * 7))) = (X : Int) := by
          refine ⟨_, rfl, ?_, ?_⟩
          · exact small_next k A _ hk9 HALT.out (Nat.mod_lt _ (by decide))
          · exact or_wrap k A _ hk9 HALT.out (Nat.mod_lt _ (by decide))
        obtain ⟨X, hX, hXlt, hor⟩ := hor
        have HX := Lib.hid hX; clear hX
        have HXL := Lib.hid hXlt; clear hXlt
        by_cases h128 : 128 ≤ (b : Int)
        · go_wp2_with fail
          go_round
          case rel => exact ⟨k + 1, X, by omega, by omega, by rw [HX.out, HA.out]; exact (val_next _ _ HGET.out).symm, high_next _ _ HHI.out HGET.out (by omega), by go_num, rfl⟩
          case measure => simp [intOf]; omega
        · by_cases hbk : b = 0 ∧ 0 < k
          · have hbz : ((b : Int) == 0) = true := by simp; omega
            have hk0 : 0 < (k : Int) := by omega
            have hv := rd_zero (s.data.toList.drop p) k (by omega) hbk.2 HHI.out (by have := HGET.out; rw [hbk.1] at this; exact this)
            have HV := Lib.hid hv; clear hv hbk
            go_wp2_with fail
            go_ret3
            exact HFIN.out _ _ _ (HAT.out.trans (by rw [HV.out])) ⟨rfl, rfl⟩
          · have hv := rd_last (s.data.toList.drop p) k (by omega) HHI.out HGET.out (by omega) (by omega) hbk
            rw [← HA.out, show A + 128 ^ k * b = X by rw [HX.out, Nat.mod_eq_of_lt (by omega)]] at hv
            have HV := Lib.hid hv; clear hv
            by_cases hb0' : b = 0
            · have hbz : ((b : Int) == 0) = true := by simp; omega
              have hk0 : ¬ 0 < (k : Int) := by omega
              clear hbk hb0'
              go_wp2_with (go_at_call 82; refine (unfold_any _ _ (Int.natCast_nonneg X) (by have := HXL.out; omega)).mono ?_; rintro e w' ⟨rfl, rfl⟩)
              go_ret3
              exact HFIN.out _ _ _ (HAT.out.trans (by rw [HV.out])) ⟨rfl, rfl⟩
            · have hbz : ((b : Int) == 0) = false := by simp; omega
              clear hbk hb0'
              go_wp2_with (go_at_call 82; refine (unfold_any _ _ (Int.natCast_nonneg X) (by have := HXL.out; omega)).mono ?_; rintro e w' ⟨rfl, rfl⟩)
              go_ret3
              exact HFIN.out _ _ _ (HAT.out.trans (by rw [HV.out])) ⟨rfl, rfl⟩
    · have hv := rd_end (s.data.toList.drop p) k (by omega) HHI.out (by rw [List.length_drop, ← size_list]; omega)
      have HV := Lib.hid hv; clear hv
      go_wp2_with fail
      go_ret3
      exact HFIN.out _ _ _ (HAT.out.trans (by rw [HV.out])) ⟨rfl, rfl⟩
end Go.Proofs.Ytebglkpejdoggaa.V
