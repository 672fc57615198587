/-
  Contracts of the program's reader of layer 4: operands with signs between them.
-/
import Derived.Test.YtjcajeehgjpmmaaGreatDoorIPStep
import Derived.Deep.RegionHeld3
import Derived.Deep.DeepCutAuto
import Derived.Deep.LoopGhost
import Derived.BigCall
import Derived.BigGuard
namespace Go.Proofs.YtjcajeehgjpmmaaGreatDoor.I
open Go E
set_option linter.unusedVariables false
def cutw (s : Bs) : Bs := match s with | c :: r => if letter c = true then (c :: r).take 24 else c :: r | [] => []
theorem take_takeWhile {p : UInt8 -> Bool} (l : Bs) (n : Nat) : (l.take n).takeWhile p = (l.takeWhile p).take n := by
 induction l generalizing n with
 | nil => simp
 | cons c r ih =>
  cases n with
  | zero => simp
  | succ n =>
   rw [List.take_succ_cons, List.takeWhile_cons, List.takeWhile_cons];split
   ·rw [List.take_succ_cons, ih]
   ·simp
theorem takeWhile_len {p : UInt8 -> Bool} (a b : Bs) (h : ((a ++ b).takeWhile p).length = a.length) : (a ++ b).takeWhile p = a := by
 have h1 : (a ++ b).takeWhile p <+: a ++ b := List.takeWhile_prefix p;have h2 : a <+: a ++ b := List.prefix_append a b;exact (List.prefix_of_prefix_length_le h1 h2 (by omega)).eq_of_length h
theorem sgn_le (r : Bs) : sgn (60 :: 61 :: r) = [60, 61] := by simp [sgn, signL, better, List.isPrefixOf, wmin, wmax, wif]
theorem sgn_lt (r : Bs) (h : r.head? ≠ some 61) : sgn (60 :: r) = [60] := by
 cases r with
 | nil => simp [sgn, signL, better, List.isPrefixOf, wmin, wmax, wif]
 | cons d r' =>
  have hd : ¬ (61 : UInt8) = d := fun e => h (by rw [<- e]; rfl)
  simp [sgn, signL, better, List.isPrefixOf, wmin, wmax, wif, hd]
theorem sgn_one (c : UInt8) (r : Bs) (h : c = 43 \/ c = 45 \/ c = 42 \/ c = 33 \/ c = 38 \/ c = 124 \/ c = 61) : sgn (c :: r) = [c] := by
 rcases h with rfl | rfl | rfl | rfl | rfl | rfl | rfl <;> simp [sgn, signL, better, List.isPrefixOf, wmin, wmax, wif]
theorem sgn_blank (r : Bs) : sgn (32 :: r) = [] := by simp [sgn, signL, better, List.isPrefixOf, wmin, wmax, wif]
theorem wd_word (w r : Bs) (hw : w ≠ []) (hl : wordLen (w ++ r) = w.length) : wd (w ++ r) = cutw w := by
 match w, hw, hl with
 | c :: w', _, hl =>
  rw [List.cons_append] at hl ⊢;rw [wd_cons];show _ = if letter c = true then (c :: w').take 24 else c :: w'
  simp only [wordLen] at hl;by_cases h1 : letter c = true
  ·rw [if_pos h1] at hl ⊢
   rw [if_pos h1];have h2 := takeWhile_len (p := idc) w' r (by simp only [List.length_cons] at hl; omega);have hc : idc c = true := by rw [idc_of, h1]; rfl
   rw [take_takeWhile, List.takeWhile_cons, if_pos hc, h2]
  ·rw [if_neg h1] at hl ⊢
   rw [if_neg h1];by_cases h2 : digit c = true
   ·rw [if_pos h2] at hl ⊢
    have h3 := takeWhile_len (p := digit) w' r (by simp only [List.length_cons] at hl; omega);rw [List.takeWhile_cons, if_pos h2, h3]
   ·rw [if_neg h2] at hl ⊢
    by_cases h36 : c = 36
    ·rw [if_pos h36] at hl
     cases hr : w' ++ r with
     | nil => rw [hr] at hl; simp at hl
     | cons d r' =>
      rw [hr] at hl;by_cases hd : digit d = true
      ·simp only [hd, if_true, List.length_cons] at hl
       have hwl : w'.length = 1 := by omega
       match w', hwl, hr with
       | [x], _, hr =>
        rw [List.singleton_append] at hr;cases hr
        rw [if_pos ⟨h36, hd⟩]; rfl
      ·simp only [if_neg hd, List.length_cons] at hl; omega
    ·rw [if_neg h36] at hl
     rw [if_neg (fun h => h36 h.1)];by_cases h60 : c = 60 /\ (w' ++ r).head? = some 61
     ·rw [if_pos h60] at hl
      obtain ⟨rfl, h61⟩ := h60;have hwl : w'.length = 1 := by simp only [List.length_cons] at hl; omega
      match w', hwl, h61 with
      | [x], _, h61 =>
       simp at h61; subst h61
       rw [if_neg (by decide), List.singleton_append, sgn_le]
     ·rw [if_neg h60] at hl
      by_cases hs : c ∈ signs
      ·rw [if_pos hs] at hl
       have hwl : w' = [] := List.eq_nil_of_length_eq_zero (by simp only [List.length_cons] at hl; omega);subst hwl;rw [List.nil_append];simp only [signs, List.mem_cons, List.not_mem_nil, or_false] at hs;by_cases h3 : c = 40 \/ c = 41 \/ c = 44
       ·rw [if_pos h3]
       ·rw [if_neg h3]
        by_cases hc60 : c = 60
        ·subst hc60
         exact sgn_lt r (fun h => h60 ⟨rfl, by simpa using h⟩)
        ·exact sgn_one c r (by simp only [not_or] at h3; rcases hs with h | h | h | h | h | h | h | h | h | h | h <;> simp_all)
      ·rw [if_neg hs] at hl
       simp only [List.length_cons] at hl; omega
theorem lx_pos {p : Nat} {u : Bs} {ts : List Tk} (h : Lx p u ts) : ∀ q s r, ts = (q, s) :: r -> p <= q := by
 induction h with
 | nil p => intro q s r h; cases h; exact Nat.le_refl _
 | blank p r ts _ ih => intro q s r' h; have := ih q s r' h; omega
 | word p w r ts _ _ _ _ _ => intro q s r' h; cases h; exact Nat.le_refl _
def At (t : Bs) (p : Nat) (s : Bs) (r : List Tk) : Prop := p <= t.length /\ Lx p (t.drop p) ((p, s) :: r)
theorem drop_add {t u w : Bs} {p : Nat} (h : t.drop p = w ++ u) : t.drop (p + w.length) = u := by
 rw [<- List.drop_drop, h, List.drop_left]
theorem At.next {t : Bs} {p : Nat} {s : Bs} {r : List Tk} (h : At t p s r) (hs : s ≠ []) : p + s.length <= t.length /\ Lx (p + s.length) (t.drop (p + s.length)) r := by
 obtain ⟨hp, hl⟩ := h;generalize hu : t.drop p = u at hl
 generalize hts : (p, s) :: r = ts at hl
 cases hl with
 | nil => cases hts; exact absurd rfl hs
 | blank _ r' _ h => subst hts; have := lx_pos h p s r rfl; omega
 | word _ w r' ts' h1 h2 h3 h4 =>
  cases hts
  rw [drop_add hu];have := congrArg List.length hu;rw [List.length_drop, List.length_append] at this;exact ⟨by omega, h4⟩
theorem At.wd {t : Bs} {p : Nat} {s : Bs} {r : List Tk} (h : At t p s r) : wd (t.drop p) = cutw s := by
 obtain ⟨hp, hl⟩ := h;generalize hu : t.drop p = u at hl ⊢
 generalize hts : (p, s) :: r = ts at hl
 cases hl with
 | nil => cases hts; rfl
 | blank _ r' _ h => subst hts; have := lx_pos h p s r rfl; omega
 | word _ w r' ts' h1 h2 h3 h4 => cases hts; exact wd_word s r' h1 h3
theorem At.done {t : Bs} {p : Nat} {r : List Tk} (h : At t p [] r) : p = t.length /\ r = [] := by
 obtain ⟨hp, hl⟩ := h;generalize hu : t.drop p = u at hl
 generalize hts : (p, ([] : Bs)) :: r = ts at hl
 cases hl with
 | nil => cases hts; have := congrArg List.length hu; rw [List.length_drop] at this; simp at this; exact ⟨by omega, rfl⟩
 | blank _ r' _ h => subst hts; have := lx_pos h p [] r rfl; omega
 | word _ w r' ts' h1 h2 h3 h4 => cases hts; exact absurd rfl h1
theorem lx_step {t : Bs} {q p : Nat} {s : Bs} {r : List Tk} (hq : q <= t.length) (h : Lx q (t.drop q) ((p, s) :: r)) :
 (t[q]? = some 32 /\ Lx (q + 1) (t.drop (q + 1)) ((p, s) :: r)) \/ (t[q]? ≠ some 32 /\ p = q /\ At t p s r) := by
 have h0 := h;generalize hu : t.drop q = u at h
 generalize hts : (p, s) :: r = ts at h
 cases h with
 | nil =>
  cases hts
  right
  have := congrArg List.length hu;rw [List.length_drop] at this; simp at this
  exact ⟨by rw [List.getElem?_eq_none (by omega)]; simp, rfl, hq, h0⟩
 | blank _ r' _ h =>
  left
  subst hts;have h1 : t[q]? = some 32 := by
   have := congrArg (·[0]?) hu;simpa [List.getElem?_drop] using this
  refine ⟨h1, ?_⟩;have : t.drop (q + 1) = r' := drop_add (w := [32]) hu;rw [this]; exact h
 | word _ w r' ts' h1 h2 h3 h4 =>
  cases hts
  right
  refine ⟨fun h5 => h2 ?_, rfl, hq, h0⟩;have := congrArg (·[0]?) hu;rw [List.getElem?_drop, Nat.add_zero, h5] at this;cases s with
  | nil => exact absurd rfl h1
  | cons c s' => simpa using this.symm
open Go.RowKit B K
section
variable {f : Nat -> Option Obj} {W0 : World} {B a p : Nat} {t s s' : Bs} {v1 : Value} {na e : Int} {c : List In} {r : List Tk}
theorem Glob.drewN {w : World} (h : Glob w) (n : Nat) : Glob (w.drewN n) := h.below (below_drewN (Below.refl _ _) n)
theorem str_at (t : Bs) (q : Nat) (d : UInt8) (h : t[q]? = some d) : ∃ (hq : q < (str t).size), (str t)[q]'hq = d := by
 obtain ⟨hq, he⟩ := List.getElem?_eq_some_iff.1 h;exact ⟨by rw [str_size]; exact hq, by rw [str_get]; exact he⟩
set_option maxHeartbeats 2000000 in
set_option maxRecDepth 100000 in
theorem advance_any (w : World) (hg : Glob W0) (h : Rd f W0 B t v1 na a s c e w) (hle : a + s.length <= t.length) (hL : Lx (a + s.length) (t.drop (a + s.length)) ((p, s') :: r)) (hl : t.length <= 2048) :
 Calls Tryz.prog 175 #[.pointer (some ⟨B, 0, none⟩)] w fun z w' => z = .returned (.tuple #[]) /\ Rd f W0 B t v1 na p (cutw s') c e w' /\ At t p s' r := by
 obtain ⟨wc, hwc⟩ : ∃ x, cutw s' = x := ⟨_, rfl⟩;rw [hwc];have HWC := Lib.hid hwc;clear hwc;obtain ⟨v, ⟨c0, _, _, c3, c4, _, _⟩, _, hfz⟩ := h.cells;have f3 := hfz 3 (by decide);have hszt : (str t).size = t.length := str_size t;have hszs : (str s).size = s.length := str_size s;have hsum : IntKind.i64.wrap ((a : Int) + (s.length : Int)) = ((a + s.length : Nat) : Int) := by rw [show ((a + s.length : Nat) : Int) = (a : Int) + (s.length : Int) by omega]; exact IntWalk.i64_in _ (by omega)
 have hset := Lib.hid (h.set (a' := a + s.length) (s' := s) (e' := e) 3 (.int .i64 ((a + s.length : Nat) : Int)) (fun v => rfl));have HLX := Lib.hid hL;have HLE := Lib.hid hle;have HL := Lib.hid hl;have HGL := Lib.hid hg;clear hfz h hL hle hl hg;unfold sv at c0 c4;go_enter Tryz.func175, Tryz.ntmps175;go_wp2_with fail;go_still_tail 12, (by kernel_rfl)
 change wpList _ _ _ _ _ w.drew
 go_wp2_with fail;go_loopg [] (t.length - (a + s.length)) (fun g wr => ∃ q, q + g = t.length /\ Hid (Lx q (t.drop q) ((p, s') :: r)) /\ Hid (Rd f W0 B t v1 na q s c e wr))
 case atStart => exact ⟨a + s.length, by have := HLE.out; omega, HLX, Lib.hid (hset.out.drewN 1)⟩
 case round =>
  obtain ⟨q, hq, HQ, HRQ⟩ := hrel;clear c0 c3 c4 f3 hset;have hqt : q <= t.length := by omega
  obtain ⟨v2, ⟨c0, _, _, c3, _, _, _⟩, _, hfz⟩ := HRQ.out.cells;have f3 := hfz 3 (by decide);clear hfz;unfold sv at c0;rcases lx_step hqt HQ.out with ⟨h32, hnx⟩ | ⟨h32, hpq, hat⟩
  ·have hqlt : q < t.length := by
    have := (List.getElem?_eq_some_iff.1 h32).1;exact this
   obtain ⟨hqs, hqe⟩ := str_at t q 32 h32;have hqI : (q : Int) < (t.length : Int) := by omega
   have hw1 : IntKind.i64.wrap ((q : Int) + 1) = ((q + 1 : Nat) : Int) := by rw [show ((q + 1 : Nat) : Int) = (q : Int) + 1 by omega]; exact IntWalk.i64_in _ (by have := HL.out; omega)
   have hset := Lib.hid (HRQ.out.set (a' := q + 1) (s' := s) (e' := e) 3 (.int .i64 ((q + 1 : Nat) : Int)) (fun v => rfl));have HNX := Lib.hid hnx;clear h32 hnx;go_wp2_with fail;go_quiet (fail)
   go_wp2_with fail;go_roundg (gk - 1)
   case measure => omega
   case rel => exact ⟨q + 1, by omega, HNX, Lib.hid ((HRQ.out.drewN nq).set (a' := q + 1) (s' := s) (e' := e) 3 (.int .i64 ((q : Int) + 1)) (fun v => rfl))⟩
  ·subst hpq
   have HAT := Lib.hid hat;have hwd := Lib.hid (fun W hW => wordAt_any t (t.drop p) p W hW hqt rfl (by have := HL.out; omega));rw [hat.wd, HWC.out] at hwd;unfold sv at hwd;replace hwd := Lib.hid hwd
   by_cases hend : p < t.length
   ·obtain ⟨d, hd⟩ : ∃ d, t[p]? = some d := ⟨_, List.getElem?_eq_getElem hend⟩
    obtain ⟨hqs, hqe⟩ := str_at t p d hd;have hqI : (p : Int) < (t.length : Int) := by omega
    have hne : ((d.toNat : Int) == 32) = false := by
     rw [beq_eq_false_iff_ne]; intro h; exact h32 (by rw [hd, (byte_eq d 32 (by decide)).2 (by omega)]; rfl)
    clear h32 hd hat;have HGW := Lib.hid (HRQ.out.glob HGL.out);obtain ⟨_, ⟨_, _, _, _, c4, _, _⟩, _, hfz⟩ := HRQ.out.cells;have f4 := hfz 4 (by decide);clear hfz;go_wp2_with fail;go_quiet (fail)
    go_wp2_with fail;have hR2 := HRQ.out.drewN nq;clear HRQ HGW c0 c3 c4 f3 f4;generalize wr.drewN nq = wq at hR2 ⊢
    have HR2 := Lib.hid hR2;have HGW := Lib.hid (hR2.glob HGL.out);obtain ⟨_, ⟨c0, _, _, c3, c4, _, _⟩, _, hfz⟩ := hR2.cells;have f4 := hfz 4 (by decide);clear hfz hR2;unfold sv at c0;refine wp_region_still_tail 12 (by kernel_rfl) (by kernel_rfl) ?_;simp only [List.take_succ_cons, List.take_zero, List.drop_succ_cons, List.drop_zero];repeat still_step
    still_call ((hwd.out _ (HGW.out.drewN 1)).mono fun e w' h => ⟨h.1, h.2.symm⟩)
    repeat still_step
    try refine wpStill_nil ?_
    change wpList _ _ _ _ _ wq.drew
    go_wp2_with fail;go_end0
    exact ⟨rfl, (HR2.out.drewN 1).set (a' := p) (s' := wc) (e' := e) 4 (.string (str wc)) (fun v => rfl), HAT.out⟩
   ·have hqI : decide ((p : Int) < (t.length : Int)) = false := decide_eq_false (by omega)
    clear h32 hat;have HGW := Lib.hid (HRQ.out.glob HGL.out);obtain ⟨_, ⟨_, _, _, _, c4, _, _⟩, _, hfz⟩ := HRQ.out.cells;have f4 := hfz 4 (by decide);clear hfz;go_wp2_with fail;go_quiet (fail)
    go_wp2_with fail;have hR2 := HRQ.out.drewN nq;clear HRQ HGW c0 c3 c4 f3 f4;generalize wr.drewN nq = wq at hR2 ⊢
    have HR2 := Lib.hid hR2;have HGW := Lib.hid (hR2.glob HGL.out);obtain ⟨_, ⟨c0, _, _, c3, c4, _, _⟩, _, hfz⟩ := hR2.cells;have f4 := hfz 4 (by decide);clear hfz hR2;unfold sv at c0;refine wp_region_still_tail 12 (by kernel_rfl) (by kernel_rfl) ?_;simp only [List.take_succ_cons, List.take_zero, List.drop_succ_cons, List.drop_zero];repeat still_step
    still_call ((hwd.out _ (HGW.out.drewN 1)).mono fun e w' h => ⟨h.1, h.2.symm⟩)
    repeat still_step
    try refine wpStill_nil ?_
    change wpList _ _ _ _ _ wq.drew
    go_wp2_with fail;go_end0
    exact ⟨rfl, (HR2.out.drewN 1).set (a' := p) (s' := wc) (e' := e) 4 (.string (str wc)) (fun v => rfl), HAT.out⟩
end
def sg (o : Nat) : Bs := signL.getD o []
def amongOf (ops : List Nat) (s : Bs) : Nat := match ops.find? (fun o => decide (s = sg o)) with | some o => o | none => 0
theorem sg_get (o : Nat) (h : o < 17) : signL[o]? = some (sg o) := by
 unfold sg;rw [List.getD_eq_getElem?_getD, List.getElem?_eq_getElem (show o < signL.length from h)]; rfl
set_option maxHeartbeats 1000000 in
set_option maxRecDepth 100000 in
theorem among1_any (w : World) (o bx B : Nat) (s : Bs) (hg : Glob w) (ho : o < 17) (hb : w.cell? ⟨bx, 0, none⟩ = some (.pointer (some ⟨B, 0, none⟩))) (h4 : w.cell? ⟨B, 4, none⟩ = some (sv s)) :
 Calls Tryz.prog 211 #[.int .i64 (o : Int), .pointer (some ⟨bx, 0, none⟩)] w fun z w' => z = .returned (.bool (decide (s = sg o))) /\ Below w.heap.size w w' := by
 have co := hg.cell o (sg o) (sg_get o ho);have hoI : (o : Int) < 17 := by omega
 have he : ((str s).toList == (str (sg o)).toList) = decide (s = sg o) := by rw [str_toList, str_toList, Bool.eq_iff_iff]; simp
 unfold sv at co h4;clear hg;go_enter Tryz.func211, Tryz.ntmps211;go_wp2_with fail;go_quiet (fail)
 go_wp2_with fail;go_ret;exact ⟨rfl, below_drewN (Below.refl _ _) _⟩
def idxOf (ops : List Nat) (s : Bs) : Int := match ops.findIdx? (fun o => decide (s = sg o)) with | some i => (i : Int) | none => -1
set_option maxHeartbeats 1000000 in
set_option maxRecDepth 100000 in
theorem indexFunc_any (w : World) (ops : List Nat) (k cap bx B : Nat) (s : Bs) (hg : Glob w) (ho : ∀ o ∈ ops, o < 17) (hl : ops.length <= 1000) (hS : Sl w (.slice (some ⟨k, 0, none⟩) ops.length cap) (ops.map fun (o : Nat) => Value.int .i64 (o : Int)))
 (hb : w.cell? ⟨bx, 0, none⟩ = some (.pointer (some ⟨B, 0, none⟩))) (h4 : w.cell? ⟨B, 4, none⟩ = some (sv s)) :
 Calls Tryz.prog 210 #[.slice (some ⟨k, 0, none⟩) ops.length cap, .func (.func 211) #[] #[.pointer (some ⟨bx, 0, none⟩)]] w fun z w' => z = .returned (.int .i64 (idxOf ops s)) /\ Below w.heap.size w w' := by
 obtain ⟨n, hn⟩ : ∃ n, ops.length = n := ⟨_, rfl⟩;have HN := Lib.hid hn;have HL := Lib.hid hl;have HS := Lib.hid hS;have HO := Lib.hid ho;have HG := Lib.hid hg;have HB := Lib.hid hb;have H4 := Lib.hid h4;rw [hn] at HS ⊢;clear hn hl hS ho hg hb h4;go_enter Tryz.func210, Tryz.ntmps210;go_wp2_with fail;go_loopw [8] (fun i wr => ∃ K : Nat, i = .int .i64 (K : Int) /\ K <= n /\ Hid (Below w.heap.size w wr) /\ Hid (∀ j o, j < K -> ops[j]? = some o -> s ≠ sg o)) (fun i _ => n - (intOf i).toNat)
 case atStart => exact ⟨0, rfl, Nat.zero_le _, Lib.hid (Below.refl _ _), Lib.hid (fun j o h => absurd h (Nat.not_lt_zero _))⟩
 case round =>
  obtain ⟨K, rfl, hK, HBE, HP⟩ := hrel;by_cases hlt : K < n
  ·obtain ⟨o, ho⟩ : ∃ o, ops[K]? = some o := ⟨_, List.getElem?_eq_getElem (by rw [HN.out]; exact hlt)⟩
   have hm : (ops.map fun (o : Nat) => Value.int .i64 (o : Int))[K]? = some (.int .i64 (o : Int)) := by rw [List.getElem?_map, ho]; rfl
   obtain ⟨b, off, ea, h1⟩ := (HS.out.below HBE.out).at hm;cases ea
   have hltI : (K : Int) < (n : Int) := by omega
   have hwK : IntKind.i64.wrap ((K : Int) + 1) = (K : Int) + 1 := IntWalk.i64_in _ (by have := HL.out; have := HN.out; omega);have HC := Lib.hid (fun W hW1 hW2 hW3 => among1_any W o bx B s hW1 (HO.out o (List.mem_of_getElem? ho)) hW2 hW3);have HGW := Lib.hid (HG.out.below HBE.out);have HBW := Lib.hid (cell_kept HBE.out HB.out);have H4W := Lib.hid (cell_kept HBE.out H4.out);have HOK := Lib.hid ho;clear hm ho;rw [Nat.zero_add] at h1;obtain ⟨x, hx⟩ : ∃ x, decide (s = sg o) = x := ⟨_, rfl⟩;rw [hx] at HC;have HX := Lib.hid hx;clear hx;cases x with
   | true =>
    go_wp2_with (go_at_call 211; refine (HC.out _ HGW.out HBW.out H4W.out).mono ?_; rintro _ w1 ⟨rfl, hb1⟩; have HB1 := Lib.hid (HBE.out.trans (hb1.mono HBE.out.size)); clear hb1)
    go_ret;refine ⟨?_, HB1.out⟩;have e : idxOf ops s = (K : Int) := by
     unfold idxOf;have : ops.findIdx? (fun o => decide (s = sg o)) = some K := by
      rw [List.findIdx?_eq_some_iff_getElem];obtain ⟨h5, h6⟩ := List.getElem?_eq_some_iff.1 HOK.out;refine ⟨h5, by rw [h6]; exact HX.out, fun j hj => ?_⟩;simp only [decide_eq_true_eq];exact HP.out j _ hj (List.getElem?_eq_getElem (by omega))
     rw [this]
    rw [e]; rfl
   | false =>
    go_wp2_with (go_at_call 211; refine (HC.out _ HGW.out HBW.out H4W.out).mono ?_; rintro _ w1 ⟨rfl, hb1⟩; have HB1 := Lib.hid (HBE.out.trans (hb1.mono HBE.out.size)); clear hb1)
    go_roundw
    case rel =>
     refine ⟨K + 1, by go_num, by omega, HB1, Lib.hid (fun j o' hj ho' => ?_)⟩;rcases Nat.lt_succ_iff_lt_or_eq.1 hj with h | rfl
     ·exact HP.out j o' h ho'
     ·rw [HOK.out] at ho'; cases ho'; exact of_decide_eq_false HX.out
    case measure => simp [intOf]; omega
  ·have hltI : ¬ (K : Int) < (n : Int) := by omega
   obtain rfl : K = n := by omega
   go_wp2_with fail;go_ret;refine ⟨?_, HBE.out⟩;have e : idxOf ops s = -1 := by
    unfold idxOf;have : ops.findIdx? (fun o => decide (s = sg o)) = none := by
     rw [List.findIdx?_eq_none_iff];intro o ho;obtain ⟨j, hj, rfl⟩ := List.mem_iff_getElem.1 ho;exact decide_eq_false (HP.out j _ (by rw [<- HN.out]; exact hj) (List.getElem?_eq_getElem hj))
    rw [this]
   rw [e]; rfl
theorem idx_some {ops : List Nat} {s : Bs} {i : Nat} (h : ops.findIdx? (fun o => decide (s = sg o)) = some i) : idxOf ops s = (i : Int) /\ ∃ o, ops[i]? = some o /\ amongOf ops s = o := by
 refine ⟨by unfold idxOf; rw [h], ?_⟩;obtain ⟨h1, h2, h3⟩ := List.findIdx?_eq_some_iff_getElem.1 h;refine ⟨ops[i], List.getElem?_eq_getElem h1, ?_⟩;have hf : ops.find? (fun o => decide (s = sg o)) = some ops[i] := by
  rw [List.find?_eq_some_iff_getElem];exact ⟨h2, i, h1, rfl, fun j hj => by have := h3 j hj; simpa using this⟩
 unfold amongOf;rw [hf]
theorem idx_none {ops : List Nat} {s : Bs} (h : ops.findIdx? (fun o => decide (s = sg o)) = none) : idxOf ops s = -1 /\ amongOf ops s = 0 := by
 refine ⟨by unfold idxOf; rw [h], ?_⟩;have hf : ops.find? (fun o => decide (s = sg o)) = none := by
  rw [List.find?_eq_none];intro o ho;have := List.findIdx?_eq_none_iff.1 h o ho;simpa using this
 unfold amongOf;rw [hf]
section
variable {f : Nat -> Option Obj} {W0 : World} {B a : Nat} {t s : Bs} {v1 : Value} {na e : Int} {c : List In}
set_option maxHeartbeats 1000000 in
set_option maxRecDepth 100000 in
theorem among_any (w : World) (hg : Glob W0) (h : Rd f W0 B t v1 na a s c e w) (ops : List Nat) (k cap : Nat) (ho : ∀ o ∈ ops, o < 17) (hl : ops.length <= 1000) (hS : Sl w (.slice (some ⟨k, 0, none⟩) ops.length cap) (ops.map fun (o : Nat) => Value.int .i64 (o : Int))) :
 Calls Tryz.prog 205 #[.pointer (some ⟨B, 0, none⟩), .slice (some ⟨k, 0, none⟩) ops.length cap] w fun z w' => z = .returned (.int .i64 ((amongOf ops s : Nat) : Int)) /\ Rd f W0 B t v1 na a s c e w' := by
 obtain ⟨X, hX⟩ : ∃ X, (Obj.cells #[.pointer (some ⟨B, 0, none⟩)] 227 (0, 0)) = X := ⟨_, rfl⟩;have hal := (Below.refl w.heap.size w).alloc (Nat.le_refl _) X;have h2 := h.grow hal;obtain ⟨v, ⟨_, _, _, _, c4, _, _⟩, _, _⟩ := h2.cells;have hbx : (w.alloc X).cell? ⟨w.heap.size, 0, none⟩ = some (.pointer (some ⟨B, 0, none⟩)) := by
  rw [cell_of_row _ _ _ _ _ _ (show (w.alloc X).heap[w.heap.size]? = some (.cells #[.pointer (some ⟨B, 0, none⟩)] 227 (0, 0)) by rw [hX]; exact heap_alloc_at _ _)];rfl
 have HI := Lib.hid (indexFunc_any (w.alloc X) ops k cap w.heap.size B s (h2.glob hg) ho hl (hS.below hal) hbx c4);have H2 := Lib.hid h2;have HS := Lib.hid (hS.below hal);have HL := Lib.hid hl;subst hX;obtain ⟨n, hn⟩ : ∃ n, ops.length = n := ⟨_, rfl⟩;have HN := Lib.hid hn;rw [hn] at HI HS ⊢;clear hal h2 c4 hbx hS hl ho hn h;cases hf : ops.findIdx? (fun o => decide (s = sg o)) with
 | none =>
  obtain ⟨e1, e2⟩ := idx_none hf;rw [e1] at HI;rw [e2];clear hf e1 e2;go_enter Tryz.func205, Tryz.ntmps205;go_wp2_with (go_at_call 210; refine HI.out.mono ?_; rintro _ w1 ⟨rfl, hb1⟩; have HR := Lib.hid (H2.out.grow hb1); clear hb1)
  go_ret;exact ⟨rfl, HR.out⟩
 | some i =>
  obtain ⟨e1, o, e2, e3⟩ := idx_some hf;have hi : i < n := by rw [<- HN.out]; exact (List.getElem?_eq_some_iff.1 e2).1
  have hm : (ops.map fun (o : Nat) => Value.int .i64 (o : Int))[i]? = some (.int .i64 (o : Int)) := by rw [List.getElem?_map, e2]; rfl
  have HM := Lib.hid hm;rw [e1] at HI;rw [e3];have hiI : (i : Int) < (n : Int) := by omega
  clear hf e1 e2 e3 hm;go_enter Tryz.func205, Tryz.ntmps205;go_wp2_with (go_at_call 210; refine HI.out.mono ?_; rintro _ w1 ⟨rfl, hb1⟩; obtain ⟨b, off, ea, h1⟩ := (HS.out.below hb1).at HM.out; cases ea; rw [Nat.zero_add] at h1; have HR := Lib.hid (H2.out.grow hb1); clear hb1)
  go_ret;exact ⟨rfl, HR.out⟩
end
theorem lx_cons {p : Nat} {u : Bs} {ts : List Tk} (h : Lx p u ts) : ∃ a b, ts = a :: b := by
 induction h with
 | nil => exact ⟨_, _, rfl⟩
 | blank _ _ _ _ ih => exact ih
 | word => exact ⟨_, _, rfl⟩
def Out (f : Nat -> Option Obj) (W0 : World) (B : Nat) (t : Bs) (v1 : Value) (na : Int) (c0 : List In) (x : Rs) (z : Ending) (w' : World) : Prop := match x with
 | .ok c r => z = .returned (.bool true) /\ ∃ p s r', r = (p, s) :: r' /\ At t p s r' /\ Rd f W0 B t v1 na p (cutw s) (c0 ++ c) 0 w'
 | .err p e => z = .returned (.bool false) /\ ∃ s c, Rd f W0 B t v1 na p s c e w'
theorem out_ok {f : Nat -> Option Obj} {W0 : World} {B : Nat} {t : Bs} {v1 : Value} {na : Int} {c0 c : List In} {r : List Tk} {w' : World} {p : Nat} {s : Bs} {r' : List Tk} (h1 : r = (p, s) :: r') (h2 : At t p s r') (h3 : Rd f W0 B t v1 na p (cutw s) (c0 ++ c) 0 w') :
 Out f W0 B t v1 na c0 (.ok c r) (.returned (.bool true)) w' := ⟨rfl, p, s, r', h1, h2, h3⟩
theorem out_err {f : Nat -> Option Obj} {W0 : World} {B : Nat} {t : Bs} {v1 : Value} {na : Int} {c0 c : List In} {w' : World} {p : Nat} {s : Bs} {e : Int} (h3 : Rd f W0 B t v1 na p s c e w') :
 Out f W0 B t v1 na c0 (.err p e) (.returned (.bool false)) w' := ⟨rfl, s, c, h3⟩
def Opd (W0 : World) (B : Nat) (t : Bs) (v1 : Value) (na : Int) (N : Nat) (ts : List Tk) (x : Rs) : Prop :=
 ∀ (f : Nat -> Option Obj) (c0 : List In) (w : World) (p : Nat) (s : Bs) (r : List Tk), ts = (p, s) :: r -> At t p s r -> Rd f W0 B t v1 na p (cutw s) c0 0 w -> c0.length + ts.length <= 1000000 ->
  Calls Tryz.prog N #[.pointer (some ⟨B, 0, none⟩)] w fun z w' => Out f W0 B t v1 na c0 x z w'
def Rs.snoc (x : Rs) (i : In) : Rs := match x with | .ok c r => .ok (c ++ [i]) r | .err p e => .err p e
def Ent (N : Nat) : Prop := ∀ args w, (callFunc N args).run Tryz.prog w = .ok (.enter N args) w
section
variable {f : Nat -> Option Obj} {W0 : World} {B p : Nat} {t s : Bs} {v1 : Value} {na : Int} {c0 : List In} {r : List Tk}
set_option maxHeartbeats 1000000 in
set_option maxRecDepth 100000 in
theorem second_any (N : Nat) (hN : Ent N) (x : Rs) (hop : Opd W0 B t v1 na N r x) (w : World) (o : Int) (hg : Glob W0) (h : Rd f W0 B t v1 na p s c0 0 w) (hat : At t p s r) (hs : s ≠ []) (htl : t.length <= 2048)
 (hb : c0.length + r.length <= 1000000) (hx : ∀ d t', x = .ok d t' -> d.length <= 1000000) :
 Calls Tryz.prog 206 #[.pointer (some ⟨B, 0, none⟩), .func (.func N) #[.pointer (some ⟨B, 0, none⟩)] #[], .int .i64 o] w fun z w' => Out f W0 B t v1 na c0 (x.snoc (o, 0)) z w' := by
 obtain ⟨h1, h2⟩ := hat.next hs
 obtain ⟨⟨p', s'⟩, r', hr⟩ := lx_cons h2;have HA := Lib.hid (advance_any w hg h h1 (hr ▸ h2) htl);have HO := Lib.hid (fun W h3 h4 => hop f c0 W p' s' r' hr h3 h4 hb);have HX := Lib.hid hx;have HB := Lib.hid hb;have hN' : ∀ args w, (callFunc N args).run Tryz.prog w = .ok (.enter N args) w := hN;clear hop h1 h2 h hat hx hN hs hg htl hb;cases x with
 | err p1 e1 =>
  go_enter Tryz.func206, Tryz.ntmps206;go_wp2_with (go_at_call 175; refine HA.out.mono ?_; rintro _ w1 ⟨rfl, hr1, ha1⟩; have HR1 := Lib.hid hr1; have HA1 := Lib.hid ha1; clear hr1 ha1)
  refine (HO.out _ HA1.out HR1.out).mono ?_;rintro z w2 ⟨rfl, s2, c2, hr2⟩;have HR2 := Lib.hid hr2;clear hr2 HO HX;go_wp2_with fail;go_ret;exact out_err HR2.out
 | ok d t' =>
  go_enter Tryz.func206, Tryz.ntmps206;go_wp2_with (go_at_call 175; refine HA.out.mono ?_; rintro _ w1 ⟨rfl, hr1, ha1⟩; have HR1 := Lib.hid hr1; have HA1 := Lib.hid ha1; clear hr1 ha1)
  refine (HO.out _ HA1.out HR1.out).mono ?_;rintro z w2 ⟨rfl, p2, s2, r2, ht2, ha2, hr2⟩;have HP := Lib.hid (put_any w2 o 0 hr2 (by rw [List.length_append]; have := HX.out d t' rfl; have := HB.out; omega));have HA2 := Lib.hid (show t' = (p2, s2) :: r2 /\ At t p2 s2 r2 from ⟨ht2, ha2⟩);clear hr2 ht2 ha2 HO HX;go_wp2_with (go_at_call 212; refine HP.out.mono ?_; rintro _ w3 ⟨rfl, hr3⟩; have HR3 := Lib.hid hr3; clear hr3)
  go_ret;exact out_ok HA2.out.1 HA2.out.2 (by rw [<- List.append_assoc]; exact HR3.out)
end
inductive Steps (C : List Tk -> Rs -> Prop) (k : Nat) : Bool -> List In -> List Tk -> Rs -> Prop
 | stop (m : Bool) (c : List In) (r : List Tk) : (opAt k (headB r) = none \/ (k = 3 /\ m = true)) -> Steps C k m c r (.ok c r)
 | err (m : Bool) (c : List In) (q : Nat) (s : Bs) (o : Int) (r : List Tk) (p : Nat) (e : Int) : opAt k s = some o -> ¬ (k = 3 /\ m = true) -> C r (.err p e) -> Steps C k m c ((q, s) :: r) (.err p e)
 | go (m : Bool) (c : List In) (q : Nat) (s : Bs) (o : Int) (r : List Tk) (d : List In) (t : List Tk) (x : Rs) : opAt k s = some o -> ¬ (k = 3 /\ m = true) -> C r (.ok d t) -> d.length + t.length <= r.length -> Steps C k (decide (k = 3)) (c ++ d ++ [(o, 0)]) t x -> Steps C k m c ((q, s) :: r) x
theorem steps_any {C : List Tk -> Rs -> Prop} {k : Nat} {c : List In} {q : Nat} {s : Bs} {r : List Tk} {x : Rs} (h : Steps C k false c ((q, s) :: r) x) :
 (opAt k s = none /\ x = .ok c ((q, s) :: r)) \/ ∃ o, opAt k s = some o /\ ((∃ p e, x = .err p e /\ C r (.err p e)) \/ ∃ d t, C r (.ok d t) /\ d.length + t.length <= r.length /\ Steps C k (decide (k = 3)) (c ++ d ++ [(o, 0)]) t x) := by
 generalize hm : false = m at h
 generalize hr : (q, s) :: r = r' at h
 cases h with
 | stop _ _ _ h1 =>
  subst hm hr;rcases h1 with h1 | h1
  ·exact Or.inl ⟨h1, rfl⟩
  ·cases h1.2
 | err _ _ _ _ o _ p e h1 h2 h3 => cases hr; exact Or.inr ⟨o, h1, Or.inl ⟨p, e, rfl, h3⟩⟩
 | go _ _ _ _ o _ d t _ h1 h2 h3 h4 h5 => cases hr; exact Or.inr ⟨o, h1, Or.inr ⟨d, t, h3, h4, h5⟩⟩
theorem steps_done {C : List Tk -> Rs -> Prop} {c : List In} {r : List Tk} {x : Rs} (h : Steps C 3 true c r x) : x = .ok c r := by
 generalize hm : true = m at h
 cases h with
 | stop => rfl
 | err _ _ _ _ _ _ _ _ _ h2 => exact absurd ⟨rfl, hm.symm⟩ h2
 | go _ _ _ _ _ _ _ _ _ _ h2 => exact absurd ⟨rfl, hm.symm⟩ h2
def opsOf (k : Nat) : List Nat := match k with | 1 => [15] | 2 => [14] | 3 => [11, 12, 13] | 4 => [6, 7] | _ => [8]
theorem cutw_sg (s x : Bs) (hx : ∀ c ∈ x.head?, letter c = false) : cutw s = x ↔ s = x := by
 cases s with
 | nil => exact Iff.rfl
 | cons c r =>
  by_cases hc : letter c = true
  ·have h1 : cutw (c :: r) = c :: r.take 23 := by show (if letter c = true then (c :: r).take 24 else c :: r) = _; rw [if_pos hc]; rfl
   rw [h1];constructor
   ·rintro rfl; have := hx c (by simp); rw [hc] at this; cases this
   ·rintro rfl; have := hx c (by simp); rw [hc] at this; cases this
  ·have h1 : cutw (c :: r) = c :: r := by show (if letter c = true then (c :: r).take 24 else c :: r) = _; rw [if_neg hc]
   rw [h1]
theorem among_cons (o : Nat) (l : List Nat) (s : Bs) : amongOf (o :: l) s = if s = sg o then o else amongOf l s := by
 unfold amongOf;rw [List.find?_cons];by_cases h : s = sg o
 ·rw [if_pos h, decide_eq_true h]
 ·rw [if_neg h, decide_eq_false h]
theorem among_nil (s : Bs) : amongOf [] s = 0 := rfl
theorem opAt_among (k : Nat) (h1 : 1 <= k) (h5 : k <= 5) (s : Bs) : ((amongOf (opsOf k) (cutw s) : Nat) : Int) = (opAt k s).getD 0 := by
 have h15 : (cutw s = sg 15) = (s = [124]) := propext (cutw_sg s [124] (by decide));have h14 : (cutw s = sg 14) = (s = [38]) := propext (cutw_sg s [38] (by decide));have h11 : (cutw s = sg 11) = (s = [60]) := propext (cutw_sg s [60] (by decide));have h12 : (cutw s = sg 12) = (s = [60, 61]) := propext (cutw_sg s [60, 61] (by decide));have h13 : (cutw s = sg 13) = (s = [61]) := propext (cutw_sg s [61] (by decide));have h6 : (cutw s = sg 6) = (s = [43]) := propext (cutw_sg s [43] (by decide));have h7 : (cutw s = sg 7) = (s = [45]) := propext (cutw_sg s [45] (by decide));have h8 : (cutw s = sg 8) = (s = [42]) := propext (cutw_sg s [42] (by decide));rcases (show k = 1 \/ k = 2 \/ k = 3 \/ k = 4 \/ k = 5 by omega) with rfl | rfl | rfl | rfl | rfl
 ·simp only [show opsOf 1 = [15] from rfl, among_cons, among_nil, h15, show opAt 1 s = if s = [124] then some 15 else none from rfl]
  repeat' split
  all_goals rfl
 ·simp only [show opsOf 2 = [14] from rfl, among_cons, among_nil, h14, show opAt 2 s = if s = [38] then some 14 else none from rfl]
  repeat' split
  all_goals rfl
 ·simp only [show opsOf 3 = [11, 12, 13] from rfl, among_cons, among_cons, among_cons, among_nil, h11, h12, h13, show opAt 3 s = if s = [60] then some 11 else if s = [60, 61] then some 12 else if s = [61] then some 13 else none from rfl]
  repeat' split
  all_goals rfl
 ·simp only [show opsOf 4 = [6, 7] from rfl, among_cons, among_cons, among_nil, h6, h7, show opAt 4 s = if s = [43] then some 6 else if s = [45] then some 7 else none from rfl]
  repeat' split
  all_goals rfl
 ·simp only [show opsOf 5 = [8] from rfl, among_cons, among_nil, h8, show opAt 5 s = if s = [42] then some 8 else none from rfl]
  repeat' split
  all_goals rfl
theorem opAt_word (k : Nat) (s : Bs) (o : Int) (h : opAt k s = some o) : cutw s = s /\ s ≠ [] /\ o ≠ 0 := by
 unfold opAt at h;have key : ∀ x : Bs, x ≠ [] -> (∀ c ∈ x.head?, letter c = false) -> s = x -> o ≠ 0 -> cutw s = s /\ s ≠ [] /\ o ≠ 0 := fun x h1 h2 h3 h4 => ⟨by rw [h3]; exact (cutw_sg x x h2).2 rfl, by rw [h3]; exact h1, h4⟩
 repeat' split at h
 all_goals first | (cases h; rename_i h9; exact key _ (by decide) (by decide) h9 (by decide)) | cases h
section
variable {f : Nat -> Option Obj} {W0 : World} {B p : Nat} {t s : Bs} {v1 : Value} {na : Int} {c0 : List In} {r : List Tk}
def opsObj (k : Nat) (T : TypeId) : Obj := .cells ((opsOf k).map fun (o : Nat) => Value.int .i64 (o : Int)).toArray T (0, 0)
theorem Rd.ops {a : Nat} {c : List In} {e : Int} {w : World} (h : Rd f W0 B t v1 na a s c e w) {k kb : Nat} {T : TypeId} (hf : f kb = some (opsObj k T)) : Sl w (.slice (some ⟨kb, 0, none⟩) (opsOf k).length (opsOf k).length) ((opsOf k).map fun (o : Nat) => Value.int .i64 (o : Int)) := by
 have h1 := (h.frame kb _ hf).1;have := Sl.row (cap := (opsOf k).length) (xs := (opsOf k).map fun (o : Nat) => Value.int .i64 (o : Int)) h1 (by exact List.take_of_length_le (Nat.le_refl _));simpa using this
theorem ops_small (k : Nat) : (∀ o ∈ opsOf k, o < 17) /\ (opsOf k).length <= 1000 := by
 unfold opsOf; split <;> exact ⟨by decide, by decide⟩
def Lv (C : List Tk -> Rs -> Prop) (k : Nat) (ts : List Tk) (x : Rs) : Prop :=
 (∃ p e, x = .err p e /\ C ts x) \/ ∃ c r, C ts (.ok c r) /\ c.length + r.length <= ts.length /\ Steps C k false c r x
set_option maxHeartbeats 2000000 in
set_option maxRecDepth 100000 in
theorem many_any (N : Nat) (hN : Ent N) (k kb : Nat) (T : TypeId) (hk : k = 1 \/ k = 2 \/ k = 4 \/ k = 5) (x : Rs) (ts : List Tk) (hx : Lv (Opd W0 B t v1 na N) k ts x) (w : World) (hg : Glob W0) (hts : ts = (p, s) :: r) (h : Rd f W0 B t v1 na p (cutw s) c0 0 w) (hat : At t p s r)
 (htl : t.length <= 2048) (hb : c0.length + ts.length <= 1000000) (hf : f kb = some (opsObj k T)) :
 Calls Tryz.prog 197 #[.pointer (some ⟨B, 0, none⟩), .func (.func N) #[.pointer (some ⟨B, 0, none⟩)] #[], .slice (some ⟨kb, 0, none⟩) (opsOf k).length (opsOf k).length] w fun z w' => Out f W0 B t v1 na c0 x z w' := by
 have hN' : ∀ args w, (callFunc N args).run Tryz.prog w = .ok (.enter N args) w := hN;have HN := Lib.hid hN;have HGL := Lib.hid hg;have HTL := Lib.hid htl;have HF := Lib.hid hf;have hk15 : 1 <= k /\ k <= 5 /\ k ≠ 3 := by omega
 have HK := Lib.hid hk15;obtain ⟨n, hn⟩ : ∃ n, (opsOf k).length = n := ⟨_, rfl⟩;have HNN := Lib.hid hn;rw [hn];rcases hx with ⟨p1, e1, rfl, hop⟩ | ⟨c1, r1, hop, hlen, hst⟩
 ·have HO := Lib.hid (hop f c0 w p s r hts hat h hb)
  clear hop hb hf hk hk15 hn hg htl hN h hat hts;go_enter Tryz.func197, Tryz.ntmps197;go_wp2_with fail;refine HO.out.mono ?_;rintro z w2 ⟨rfl, s2, c2, hr2⟩;have HR2 := Lib.hid hr2;clear hr2 HO;go_wp2_with fail;go_ret;exact out_err HR2.out
 ·have HO := Lib.hid (hop f c0 w p s r hts hat h hb)
  have HB := Lib.hid (show c0.length + c1.length + r1.length <= 1000000 by omega);have HST := Lib.hid hst;have HAM := Lib.hid (fun (W : World) (a : Nat) (s' : Bs) (c : List In) (hR : Rd f W0 B t v1 na a (cutw s') c 0 W) => among_any W hg hR (opsOf k) kb (opsOf k).length (ops_small k).1 (ops_small k).2 (hR.ops hf));clear hop hb hf hk hk15 hg htl hN h hat hts hlen hst;rw [hn] at HAM;clear hn;go_enter Tryz.func197, Tryz.ntmps197;go_wp2_with fail;refine HO.out.mono ?_;rintro z w2 ⟨rfl, p2, s2, r2, ht2, ha2, hr2⟩;have HA2 := Lib.hid ha2;have HR2 := Lib.hid hr2;clear hr2 HO;go_wp2_with (go_at_call 205; refine (HAM.out _ p2 s2 _ HR2.out).mono ?_; rintro _ w3 ⟨rfl, hr3⟩; have HR3 := Lib.hid hr3; clear hr3)
  clear HR2 HA2;go_loopg [7] r1.length (fun g op wr => ∃ (c : List In) (r' : List Tk) (p' : Nat) (s' : Bs) (r'' : List Tk), op = .int .i64 ((amongOf (opsOf k) (cutw s') : Nat) : Int) /\ r'.length = g /\ r' = (p', s') :: r'' /\ c0.length + c.length + r'.length <= 1000000 /\ Hid (Steps (Opd W0 B t v1 na N) k false c r' x) /\ Hid (At t p' s' r'') /\ Hid (Rd f W0 B t v1 na p' (cutw s') (c0 ++ c) 0 wr))
  case atStart => exact ⟨c1, r1, p2, s2, r2, rfl, rfl, ht2, HB.out, HST, Lib.hid ha2, HR3⟩
  case round =>
   obtain ⟨c, r', p', s', r'', rfl, hlen, hr', hbb, HS, HAT, HRR⟩ := hrel;have hoa := opAt_among k HK.out.1 HK.out.2.1 s';have hst := HS.out;rw [hr'] at hst;rcases steps_any hst with ⟨ho, hx⟩ | ⟨o, ho, hrest⟩
   ·have hz : amongOf (opsOf k) (cutw s') = 0 := by rw [ho] at hoa; have : ((amongOf (opsOf k) (cutw s') : Nat) : Int) = 0 := hoa; omega
    rw [hz];have HX := Lib.hid hx;have HR' := Lib.hid hr';clear hst ho hoa hz hx hr';go_wp2_with fail;go_ret;rw [HX.out];exact out_ok rfl HAT.out HRR.out
   ·obtain ⟨e1, e2, e3⟩ := opAt_word k s' o ho
    rw [ho] at hoa;have hoa : ((amongOf (opsOf k) (cutw s') : Nat) : Int) = o := hoa;rw [hoa];have hne : (o == 0) = false := beq_eq_false_iff_ne.2 e3;have hRR : Rd f W0 B t v1 na p' s' (c0 ++ c) 0 wr := by have := HRR.out; rw [e1] at this; exact this
    have hlr : r'.length = r''.length + 1 := by rw [hr']; simp
    rcases hrest with ⟨p3, e4, hx, hop⟩ | ⟨d, t', hop, hdl, hst2⟩
    ·have HS2 := Lib.hid (second_any N HN.out (.err p3 e4) hop wr o HGL.out hRR HAT.out e2 HTL.out (by rw [List.length_append]; omega) (fun d t' h => by cases h))
     have HX := Lib.hid hx;clear hst hoa ho e1 e2 e3 hRR hop hx hr' hbb hlr hlen;go_wp2_with (go_at_call 206; refine HS2.out.mono ?_; rintro z w4 ⟨rfl, s2, c2, hr2⟩; have HR4 := Lib.hid hr2; clear hr2)
     go_ret;rw [HX.out];exact out_err HR4.out
    ·have HS2 := Lib.hid (second_any N HN.out (.ok d t') hop wr o HGL.out hRR HAT.out e2 HTL.out (by rw [List.length_append]; omega) (fun d' t'' h => by cases h; omega))
     have HST2 := Lib.hid hst2;have HLN := Lib.hid (show c0.length + (c ++ d ++ [(o, 0)]).length + t'.length <= 1000000 /\ t'.length < gk by simp only [List.length_append, List.length_cons, List.length_nil]; omega);clear hst hoa ho e1 e2 e3 hRR hop hr' hbb hlr hlen hdl hst2;go_wp2_with (first | (go_at_call 206; refine HS2.out.mono ?_; rintro z w4 ⟨rfl, p5, s5, r5, ht5, ha5, hr5⟩; have HA5 := Lib.hid ha5; have HR5 := Lib.hid hr5; have HT5 := Lib.hid ht5; clear hr5 ha5 ht5) | (go_at_call 205; refine (HAM.out _ p5 s5 _ HR5.out).mono ?_; rintro _ w6 ⟨rfl, hr6⟩; have HR6 := Lib.hid hr6; clear hr6))
     go_roundg t'.length
     case measure => exact HLN.out.2
     case rel => exact ⟨c ++ d ++ [(o, 0)], t', p5, s5, r5, rfl, rfl, HT5.out, HLN.out.1, Lib.hid (by have := HST2.out; rw [decide_eq_false HK.out.2.2] at this; exact this), HA5, Lib.hid (by have h6 := HR6.out; simp only [List.append_assoc] at h6 ⊢; exact h6)⟩
set_option maxHeartbeats 2000000 in
set_option maxRecDepth 100000 in
theorem once_any (N : Nat) (hN : Ent N) (kb : Nat) (T : TypeId) (x : Rs) (ts : List Tk) (hx : Lv (Opd W0 B t v1 na N) 3 ts x) (w : World) (hg : Glob W0) (hts : ts = (p, s) :: r) (h : Rd f W0 B t v1 na p (cutw s) c0 0 w) (hat : At t p s r)
 (htl : t.length <= 2048) (hb : c0.length + ts.length <= 1000000) (hf : f kb = some (opsObj 3 T)) :
 Calls Tryz.prog 213 #[.pointer (some ⟨B, 0, none⟩), .func (.func N) #[.pointer (some ⟨B, 0, none⟩)] #[], .slice (some ⟨kb, 0, none⟩) (opsOf 3).length (opsOf 3).length] w fun z w' => Out f W0 B t v1 na c0 x z w' := by
 have hN' : ∀ args w, (callFunc N args).run Tryz.prog w = .ok (.enter N args) w := hN;have HN := Lib.hid hN;have HGL := Lib.hid hg;have HTL := Lib.hid htl;obtain ⟨n, hn⟩ : ∃ n, (opsOf 3).length = n := ⟨_, rfl⟩;rw [hn];rcases hx with ⟨p1, e1, rfl, hop⟩ | ⟨c1, r1, hop, hlen, hst⟩
 ·have HO := Lib.hid (hop f c0 w p s r hts hat h hb)
  clear hop hb hf hn hg htl hN h hat hts;go_enter Tryz.func213, Tryz.ntmps213;go_wp2_with fail;refine HO.out.mono ?_;rintro z w2 ⟨rfl, s2, c2, hr2⟩;have HR2 := Lib.hid hr2;clear hr2 HO;go_wp2_with fail;go_ret;exact out_err HR2.out
 ·have HO := Lib.hid (hop f c0 w p s r hts hat h hb)
  have HB := Lib.hid (show c0.length + c1.length + r1.length <= 1000000 by omega);have HAM := Lib.hid (fun (W : World) (a : Nat) (s' : Bs) (c : List In) (hR : Rd f W0 B t v1 na a (cutw s') c 0 W) => among_any W hg hR (opsOf 3) kb (opsOf 3).length (ops_small 3).1 (ops_small 3).2 (hR.ops hf));have HST := Lib.hid hst;clear hop hb hf hg htl hN h hat hts hlen hst;rw [hn] at HAM;clear hn;go_enter Tryz.func213, Tryz.ntmps213;go_wp2_with fail;refine HO.out.mono ?_;rintro z w2 ⟨rfl, p', s', r'', hr', ha2, hr2⟩;have HAT := Lib.hid ha2;have HR2 := Lib.hid hr2;clear hr2 HO ha2;have hoa := opAt_among 3 (by decide) (by decide) s';have hst := HST.out;rw [hr'] at hst;rcases steps_any hst with ⟨ho, hx⟩ | ⟨o, ho, hrest⟩
  ·have hz : amongOf (opsOf 3) (cutw s') = 0 := by rw [ho] at hoa; have : ((amongOf (opsOf 3) (cutw s') : Nat) : Int) = 0 := hoa; omega
   have ham := HAM.out _ p' s' _ HR2.out;rw [hz] at ham;have HAM2 := Lib.hid ham;have HX := Lib.hid hx;have HR' := Lib.hid hr';clear hst ho hoa hz hx hr' ham HAM;go_wp2_with (go_at_call 205; refine HAM2.out.mono ?_; rintro _ w3 ⟨rfl, hr3⟩; have HR3 := Lib.hid hr3; clear hr3)
   go_ret;rw [HX.out];exact out_ok rfl HAT.out HR3.out
  ·obtain ⟨e1, e2, e3⟩ := opAt_word 3 s' o ho
   rw [ho] at hoa;have hoa : ((amongOf (opsOf 3) (cutw s') : Nat) : Int) = o := hoa;have ham := HAM.out _ p' s' _ HR2.out;rw [hoa, e1] at ham;have HAM2 := Lib.hid ham;have hne : (o == 0) = false := beq_eq_false_iff_ne.2 e3;have hlr : r1.length = r''.length + 1 := by rw [hr']; simp
   have HBB := Lib.hid (show (c0 ++ c1).length + r''.length <= 1000000 by rw [List.length_append]; have := HB.out; omega);rcases hrest with ⟨p3, e4, hx, hop⟩ | ⟨d, t', hop, hdl, hst2⟩
   ·have HS2 := Lib.hid (fun W hW => second_any (f := f) N HN.out (.err p3 e4) hop W o HGL.out hW HAT.out e2 HTL.out HBB.out (fun d t' h => by cases h))
    have HX := Lib.hid hx;clear hst hoa ho e1 e2 e3 ham hop hx hr' hlr HAM;go_wp2_with (first | (go_at_call 205; refine HAM2.out.mono ?_; rintro _ w3 ⟨rfl, hr3⟩; have HR3 := Lib.hid hr3; clear hr3) | (go_at_call 206; refine (HS2.out _ HR3.out).mono ?_; rintro z w4 ⟨rfl, s2, c2, hr2⟩; have HR4 := Lib.hid hr2; clear hr2))
    go_ret;rw [HX.out];exact out_err HR4.out
   ·have hxx := steps_done hst2
    have HS2 := Lib.hid (fun W hW => second_any (f := f) N HN.out (.ok d t') hop W o HGL.out hW HAT.out e2 HTL.out HBB.out (fun d' t'' h => by cases h; have := HB.out; omega));have HX := Lib.hid hxx;clear hst hoa ho e1 e2 e3 ham hop hr' hlr hdl hst2 hxx HAM;go_wp2_with (first | (go_at_call 205; refine HAM2.out.mono ?_; rintro _ w3 ⟨rfl, hr3⟩; have HR3 := Lib.hid hr3; clear hr3) | (go_at_call 206; refine (HS2.out _ HR3.out).mono ?_; rintro z w4 ⟨rfl, p5, s5, r5, ht5, ha5, hr5⟩; have HA5 := Lib.hid ha5; have HR5 := Lib.hid hr5; have HT5 := Lib.hid ht5; clear hr5 ha5 ht5))
    go_ret;rw [HX.out];exact out_ok HT5.out HA5.out (by have h6 := HR5.out; simp only [List.append_assoc] at h6 ⊢; exact h6)
end
end Go.Proofs.YtjcajeehgjpmmaaGreatDoor.I
