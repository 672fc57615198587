/-
  Layer 5: contracts of the reference: step.
-/
import Derived.Test.YtjcajeehgjpmmaaGreatDoorIRefX
namespace Go.Proofs.YtjcajeehgjpmmaaGreatDoor.I
open Go Go.RowKit B K E
set_option linter.unusedVariables false
set_option maxHeartbeats 400000 in
theorem refLetter_any (c : UInt8) (w : World) : Calls Tryz.prog 40 #[.int .u8 (c.toNat : Int)] w fun e w' => e = .returned (.bool (letter c)) /\ w = w' := by
 obtain ⟨n, hn⟩ : ∃ n, c.toNat = n := ⟨_, rfl⟩;have hv : letter c = decide (97 <= n /\ n <= 122) := by unfold letter; rw [hn]
 rw [hv, hn];clear hv hn;by_cases h1 : 97 <= n
 ·have hd : decide (97 <= n /\ n <= 122) = decide (n <= 122) := by (rw [Bool.eq_iff_iff]; simp [h1])
  have h1' : 97 <= (n : Int) := by omega
  rw [hd];clear hd;go_enter Tryz.func40, Tryz.ntmps40;go_wp2_with fail;go_ret;exact ⟨ret_bool (by (rw [Bool.eq_iff_iff]; simp <;> omega)), rfl⟩
 ·have hd : decide (97 <= n /\ n <= 122) = false := decide_eq_false (by omega)
  have b1 : decide (97 <= (n : Int)) = false := decide_eq_false (by omega);rw [hd];clear hd h1;go_enter Tryz.func40, Tryz.ntmps40;go_wp2_with fail;go_ret;exact ⟨rfl, rfl⟩
set_option maxHeartbeats 400000 in
theorem refDigit_any (c : UInt8) (w : World) : Calls Tryz.prog 41 #[.int .u8 (c.toNat : Int)] w fun e w' => e = .returned (.bool (digit c)) /\ w = w' := by
 obtain ⟨n, hn⟩ : ∃ n, c.toNat = n := ⟨_, rfl⟩;have hv : digit c = decide (48 <= n /\ n <= 57) := by unfold digit; rw [hn]
 rw [hv, hn];clear hv hn;by_cases h1 : 48 <= n
 ·have hd : decide (48 <= n /\ n <= 57) = decide (n <= 57) := by (rw [Bool.eq_iff_iff]; simp [h1])
  have h1' : 48 <= (n : Int) := by omega
  rw [hd];clear hd;go_enter Tryz.func41, Tryz.ntmps41;go_wp2_with fail;go_ret;exact ⟨ret_bool (by (rw [Bool.eq_iff_iff]; simp <;> omega)), rfl⟩
 ·have hd : decide (48 <= n /\ n <= 57) = false := decide_eq_false (by omega)
  have b1 : decide (48 <= (n : Int)) = false := decide_eq_false (by omega);rw [hd];clear hd h1;go_enter Tryz.func41, Tryz.ntmps41;go_wp2_with fail;go_ret;exact ⟨rfl, rfl⟩
set_option maxHeartbeats 1000000 in
theorem refName_any (s : Bs) (w : World) (hl : s.length <= 9223372036854775807) : Calls Tryz.prog 18 #[sv s] w fun e w' => e = .returned (.bool (isName s)) /\ w = w' := by
 have hsz : (str s).size = s.length := str_size s;by_cases h0 : s = []
 ·subst h0
  show Calls Tryz.prog 18 #[sv []] w fun e w' => e = .returned (.bool false) /\ w = w'
  unfold sv;go_enter Tryz.func18, Tryz.ntmps18;go_wp2_with fail;go_ret;exact ⟨rfl, rfl⟩
 have hpos : 0 < s.length := List.length_pos_iff.2 h0;by_cases h24 : 24 < s.length
 ·have hn : isName s = false := by
   match s, h24 with
   | c :: r, h24 => rw [isName_cons, decide_eq_false (by rw [List.length_cons] at h24; omega)]; rfl
  rw [hn];have h24' : 24 < (s.length : Int) := by omega
  clear hn;unfold sv;go_enter Tryz.func18, Tryz.ntmps18;go_wp2_with fail;go_ret;exact ⟨rfl, rfl⟩
 have hle : (s.length : Int) <= 24 := by omega
 by_cases h1 : s = wmin
 ·subst h1
  have e1 : (str wmin).toList = [109, 105, 110] := str_toList wmin;show Calls Tryz.prog 18 #[sv wmin] w fun e w' => e = .returned (.bool false) /\ w = w'
  unfold sv;clear h0 h24;go_enter Tryz.func18, Tryz.ntmps18;go_wp2_with fail;go_ret;exact ⟨rfl, rfl⟩
 by_cases h2 : s = wmax
 ·subst h2
  have e1 : (str wmax).toList = [109, 97, 120] := str_toList wmax;show Calls Tryz.prog 18 #[sv wmax] w fun e w' => e = .returned (.bool false) /\ w = w'
  unfold sv;clear h0 h24 h1;go_enter Tryz.func18, Tryz.ntmps18;go_wp2_with fail;go_ret;exact ⟨rfl, rfl⟩
 by_cases h3 : s = wif
 ·subst h3
  have e1 : (str wif).toList = [105, 102] := str_toList wif;show Calls Tryz.prog 18 #[sv wif] w fun e w' => e = .returned (.bool false) /\ w = w'
  unfold sv;clear h0 h24 h1 h2;go_enter Tryz.func18, Tryz.ntmps18;go_wp2_with fail;go_ret;exact ⟨rfl, rfl⟩
 have n1 : ((str s).toList == [109, 105, 110]) = false := by rw [str_toList]; exact beq_eq_false_iff_ne.2 h1
 have n2 : ((str s).toList == [109, 97, 120]) = false := by rw [str_toList]; exact beq_eq_false_iff_ne.2 h2
 have n3 : ((str s).toList == [105, 102]) = false := by rw [str_toList]; exact beq_eq_false_iff_ne.2 h3
 have n4 : ((s.length : Int) == 0) = false := by simp; exact h0
 have n5 : decide (24 < (s.length : Int)) = false := decide_eq_false (by omega);have H1 := Lib.hid h1;have H2 := Lib.hid h2;have H3 := Lib.hid h3;have H24 := Lib.hid h24;have H0 := Lib.hid h0;have g0 := str_get s 0 (by rw [hsz]; exact hpos);have hle2 : s.length <= 24 := by omega
 clear h1 h2 h3 h24 h0;cases hlc : letter (s[0]'hpos) with
 | false =>
  have hn : isName s = false := by
   match s, hpos, hlc with
   | c :: r, hpos, hlc => rw [isName_cons, show letter c = false from hlc, Bool.and_false]; rfl
  rw [hn];have HL := Lib.hid (fun W => (show Calls Tryz.prog 40 #[.int .u8 (((s[0]'hpos).toNat : Nat) : Int)] W fun e w' => e = .returned (.bool false) /\ W = w' by rw [<- hlc]; exact refLetter_any _ W));clear hn hlc;unfold sv;go_enter Tryz.func18, Tryz.ntmps18;go_wp2_with fail;refine (HL.out _).mono ?_;rintro _ w1 ⟨rfl, rfl⟩;go_wp2_with fail;go_ret;exact ⟨rfl, rfl⟩
 | true =>
  have HL := Lib.hid (fun W => (show Calls Tryz.prog 40 #[.int .u8 (((s[0]'hpos).toNat : Nat) : Int)] W fun e w' => e = .returned (.bool true) /\ W = w' by rw [<- hlc]; exact refLetter_any _ W));have HLC := Lib.hid hlc;have HPOS := Lib.hid hpos;clear hlc;unfold sv;go_enter Tryz.func18, Tryz.ntmps18;go_wp2_with fail;refine (HL.out _).mono ?_;rintro _ w1 ⟨rfl, rfl⟩;clear g0 HL;go_wp2_with fail;go_loop [3] (fun k => ∃ (K : Nat), k = .int .i64 (K : Int) /\ K <= s.length /\ Hid (∀ j (h : j < s.length), j < K -> idc s[j] = true)) (fun k => s.length - (intOf k).toNat)
  case atStart => exact ⟨0, rfl, Nat.zero_le _, fun j _ h => by omega⟩
  case round =>
   obtain ⟨K, rfl, hK, HA⟩ := hrel;by_cases hlt : K < s.length
   ·have gk := str_get s K (by rw [hsz]; exact hlt)
    have hwK : IntKind.i64.wrap ((K : Int) + 1) = (K : Int) + 1 := IntWalk.i64_in _ (by omega);have hltI : (K : Int) < (s.length : Int) := by omega
    have next : idc (s[K]'hlt) = true -> Hid (∀ j (h : j < s.length), j < K + 1 -> idc s[j] = true) := by
     intro hi j h hj;rcases Nat.lt_or_ge j K with h' | h'
     ·exact HA.out j h h'
     ·obtain rfl : j = K := by omega
      exact hi
    have HNEXT := Lib.hid next
    have HBAD := Lib.hid (name_all s K hlt);obtain ⟨c, hc⟩ : ∃ c, s[K]'hlt = c := ⟨_, rfl⟩;rw [hc] at gk HNEXT HBAD;have HC := Lib.hid hc;clear next hc
    cases hl1 : letter c with
    | true =>
     have HL1 := Lib.hid (fun W => (show Calls Tryz.prog 40 #[.int .u8 ((c.toNat : Nat) : Int)] W fun e w' => e = .returned (.bool true) /\ W = w' by rw [<- hl1]; exact refLetter_any _ W));have hid := HNEXT.out (by rw [idc_of, hl1]; rfl);have HIDC := Lib.hid hid;clear hl1 hid;go_wp2_with fail;refine (HL1.out _).mono ?_;rintro _ w1 ⟨rfl, rfl⟩;go_wp2_with fail;go_round
     case rel => exact ⟨K + 1, by go_num, by omega, HIDC.out⟩
     case measure => simp [intOf]; omega
    | false =>
     have HL1 := Lib.hid (fun W => (show Calls Tryz.prog 40 #[.int .u8 ((c.toNat : Nat) : Int)] W fun e w' => e = .returned (.bool false) /\ W = w' by rw [<- hl1]; exact refLetter_any _ W));cases hd1 : digit c with
     | true =>
      have HD1 := Lib.hid (fun W => (show Calls Tryz.prog 41 #[.int .u8 ((c.toNat : Nat) : Int)] W fun e w' => e = .returned (.bool true) /\ W = w' by rw [<- hd1]; exact refDigit_any _ W));have hid := HNEXT.out (by rw [idc_of, hl1, hd1]; rfl);have HIDC := Lib.hid hid;clear hl1 hd1 hid;go_wp2_with fail;refine (HL1.out _).mono ?_;rintro _ w1 ⟨rfl, rfl⟩;go_wp2_with fail;refine (HD1.out _).mono ?_;rintro _ w1 ⟨rfl, rfl⟩;go_wp2_with fail;go_round
      case rel => exact ⟨K + 1, by go_num, by omega, HIDC.out⟩
      case measure => simp [intOf]; omega
     | false =>
      have HD1 := Lib.hid (fun W => (show Calls Tryz.prog 41 #[.int .u8 ((c.toNat : Nat) : Int)] W fun e w' => e = .returned (.bool false) /\ W = w' by rw [<- hd1]; exact refDigit_any _ W));by_cases h95 : c = 95
      ·have hid := HNEXT.out (by rw [idc_of, hl1, hd1, decide_eq_true h95]; rfl)
       have HIDC := Lib.hid hid;have hn95 : ((c.toNat : Int) != 95) = false := by rw [h95]; rfl
       clear hl1 hd1 h95 hid;go_wp2_with fail;refine (HL1.out _).mono ?_;rintro _ w1 ⟨rfl, rfl⟩;go_wp2_with fail;refine (HD1.out _).mono ?_;rintro _ w1 ⟨rfl, rfl⟩;go_wp2_with fail;go_round
       case rel => exact ⟨K + 1, by go_num, by omega, HIDC.out⟩
       case measure => simp [intOf]; omega
      ·have hbad := HBAD.out (by rw [idc_of, hl1, hd1, decide_eq_false h95]; rfl)
       have HB := Lib.hid hbad;have hn95 : ((c.toNat : Int) != 95) = true := by
        have h : c.toNat ≠ 95 := fun h => h95 (UInt8.toNat_inj.1 h)
        simp; omega
       clear hl1 hd1 h95 hbad;go_wp2_with fail;refine (HL1.out _).mono ?_;rintro _ w1 ⟨rfl, rfl⟩;go_wp2_with fail;refine (HD1.out _).mono ?_;rintro _ w1 ⟨rfl, rfl⟩;go_wp2_with fail;go_ret;exact ⟨ret_bool HB.out.symm, rfl⟩
   ·have hn : isName s = true := by
     have hall : s.all idc = true := by
      rw [List.all_eq_true];intro c hc;obtain ⟨j, hj, rfl⟩ := List.getElem_of_mem hc;exact HA.out j hj (by omega)
     exact name_yes s HPOS.out HLC.out hall H1.out H2.out H3.out hle2
    have HN := Lib.hid hn;have hltI : ¬ (K : Int) < (s.length : Int) := by omega
    clear hn;go_wp2_with fail;go_ret;exact ⟨ret_bool HN.out.symm, rfl⟩
end Go.Proofs.YtjcajeehgjpmmaaGreatDoor.I
namespace Go.Proofs.YtjcajeehgjpmmaaGreatDoor.R
open Go Go.RowKit B K E
set_option linter.unusedVariables false
def F2 (w : World) (g : Nat) (f : Int × Int) : Prop := w.heap[g]? = some (.cells #[.int .i64 f.1, .int .i64 f.2] 48 (0, 0))
def bv (f : Int × Int) : Value := .agg #[.int .i64 f.1, .int .i64 f.2]
theorem f2_info : (Tryz.prog.info? 48).map (·.size) = some 2 := by kernel_rfl
theorem F2.set {w : World} {g : Nat} {f : Int × Int} (h : F2 w g f) (x : Int × Int) : F2 ((w.setCell ⟨g, 0, none⟩ (.int .i64 x.1)).setCell ⟨g, 1, none⟩ (.int .i64 x.2)) g x :=
 heap_setCell_same _ g 1 _ 48 _ (heap_setCell_same _ g 0 _ 48 _ h)
theorem F2.cells {w : World} {g : Nat} {f : Int × Int} (h : F2 w g f) : (w.cell? ⟨g, 0, none⟩ = some (.int .i64 f.1) /\ w.frozen? ⟨g, 0, none⟩ = false) /\ (w.cell? ⟨g, 1, none⟩ = some (.int .i64 f.2) /\ w.frozen? ⟨g, 1, none⟩ = false) := by
 unfold F2 at h;refine ⟨⟨?_, ?_⟩, ?_, ?_⟩ <;> simp [World.cell?, World.frozen?, h]
theorem F2.below {w w' : World} {g : Nat} {f : Int × Int} (h : F2 w g f) (hb : Below w.heap.size w w') : F2 w' g f := (hb.block _ (Array.getElem?_eq_some_iff.1 h).1).trans h
theorem below_set2 {B : Nat} {w wr : World} (h : Below B w wr) {g : Nat} (hg : B <= g) (a b : Value) : Below B w ((wr.setCell ⟨g, 0, none⟩ a).setCell ⟨g, 1, none⟩ b) :=
 (h.setCell (p := ⟨g, 0, none⟩) hg _).setCell (p := ⟨g, 1, none⟩) hg _
theorem f2_end {fn : Func} {p g : Nat} {R : Ending -> World -> Prop} {a : Act} {w : World} (f : Int × Int) (hres : fn.results = #[.cell p 48]) (hp : a.tmps.getD p undef = .pointer (some ⟨g, 0, none⟩)) (hd : a.defers = [])
 (hg : F2 w g f) (hR : R (.returned (bv f)) w) : bodyPost Tryz.prog fn R .ret a w :=
 bodyPost_ret (v := bv f) (results_cell_row hres _ _ g 48 _ (0, 0) _ hp hg Tryz.underlying48 rfl f2_info) hd hR
def nbOf : Option (Nat × Int) -> Int × Int
 | some x => ((x.1 : Int), x.2)
 | none => (0, 0)
def namesBad (l : List Bs) (most : Int) : Int × Int := if most < l.length then (0, 4) else nbOf (firstBad (nameBad l) 0 l.length)
theorem firstBad_step (f : Nat -> Int) (K N : Nat) (h : K < N) : firstBad f K (N - K) = if f K ≠ 0 then some (K, f K) else firstBad f (K + 1) (N - (K + 1)) := by
 rw [show N - K = (N - (K + 1)) + 1 by omega]; exact firstBad_at _ _ _
theorem any_take_next {l : List Bs} {J : Nat} {s y : Bs} (h : (l.take J).any (fun x => x == s) = false) (hy : l[J]? = some y) (hne : (y == s) = false) : (l.take (J + 1)).any (fun x => x == s) = false := by
 rw [List.take_add_one, hy, List.any_append, h, Bool.false_or];simp [hne]
def Z2 (w wr : World) : Prop := Below w.heap.size w wr /\ F2 wr w.heap.size (0, 0)
theorem Z2.drewN {w wr : World} (h : Z2 w wr) (n : Nat) : Z2 w (wr.drewN n) := ⟨below_drewN h.1 n, h.2⟩
set_option maxHeartbeats 2000000 in
set_option maxRecDepth 100000 in
theorem refNames5_any (l : List Bs) (v : Value) (most : Int) (w : World) (h : SlB w v l) (hl : l.length <= 9223372036854775807) (hx : ∀ x ∈ l, x.length <= 9223372036854775807) :
 Calls Tryz.prog 16 #[v, .int .i64 most] w fun z w' => z = .returned (bv (namesBad l most)) /\ Below w.heap.size w w' := by
 have HS := Lib.hid h;have HX := Lib.hid hx;obtain ⟨a, cap, rfl⟩ := sl_len h;rw [List.length_map] at HS ⊢;obtain ⟨N, hN⟩ : ∃ N, l.length = N := ⟨_, rfl⟩;rw [hN] at hl HS ⊢;have HL := Lib.hid hl;have HN := Lib.hid hN;obtain ⟨W0, hW0⟩ : ∃ W0, w.alloc (.cells #[.int .i64 0, .int .i64 0] 48) = W0 := ⟨_, rfl⟩;have hB0 : Below w.heap.size w W0 := by rw [<- hW0]; exact (Below.refl w.heap.size w).alloc (Nat.le_refl _) _
 have hF0 : F2 W0 w.heap.size (0, 0) := by rw [<- hW0]; exact heap_alloc_at _ _
 have HB0 := Lib.hid hB0;have HF0 := Lib.hid hF0;obtain ⟨⟨r0, s0⟩, r1, s1⟩ := hF0.cells;by_cases hm : most < (N : Int)
 ·have e : namesBad l most = (0, 4) := by unfold namesBad; rw [hN, if_pos hm]
  rw [e];clear hl hN hx h hB0 hF0 e;go_enter Tryz.func16, Tryz.ntmps16;go_wp2_with fail;exact f2_end (0, 4) rfl rfl rfl (HF0.out.set (0, 4)) ⟨rfl, below_set2 HB0.out (Nat.le_refl _) _ _⟩
 ·have e : namesBad l most = nbOf (firstBad (nameBad l) 0 N) := by unfold namesBad; rw [hN, if_neg hm]
  obtain ⟨R, hR⟩ : ∃ R, namesBad l most = R := ⟨_, rfl⟩;rw [hR] at e ⊢;have HRD := Lib.hid e;clear hR hl hN hx h hB0 hF0 e;go_enter Tryz.func16, Tryz.ntmps16;go_wp2_with fail;clear r0 s0 r1 s1;go_loopw [5] (fun x wr => ∃ (K : Nat), x = .int .i64 (K : Int) /\ K <= N /\ Hid (Z2 w wr) /\ Hid (firstBad (nameBad l) K (N - K) = firstBad (nameBad l) 0 N)) (fun x _ => N - (intOf x).toNat)
  case atStart => exact ⟨0, rfl, Nat.zero_le _, Lib.hid ⟨HB0.out, HF0.out⟩, Lib.hid rfl⟩
  case round =>
   obtain ⟨K, rfl, hK, HZ, HI⟩ := hrel;clear HB0 HF0 hW0;obtain ⟨⟨r0, s0⟩, r1, s1⟩ := HZ.out.2.cells;by_cases hlt : K < N
   ·have hltI : (K : Int) < (N : Int) := by omega
    obtain ⟨s, hs⟩ : ∃ s, l[K]? = some s := ⟨_, List.getElem?_eq_getElem (by rw [HN.out]; exact hlt)⟩;have hmm : (l.map sv)[K]? = some (sv s) := by rw [List.getElem?_map, hs]; rfl
    obtain ⟨b, off, ea, h1⟩ := HS.out.at hmm;subst ea;have HC1 := Lib.hid h1;have h1 := kept_cell HZ.out.1 h1;have HNM := Lib.hid (I.refName_any s wr (HX.out s (List.mem_of_getElem? hs)));have hst := firstBad_step (nameBad l) K N hlt;have hnb : nameBad l K = nameE s ((l.take K).any fun x => x == s) := by unfold nameBad; rw [hs]
    rw [hnb] at hst;have HSK := Lib.hid hs;have hwK := wrap_next K (by have := HL.out; omega);unfold sv at h1 HNM HC1;have HI2 := Lib.hid (HI.out.symm.trans hst);clear hmm hs hst hnb HI;cases hn : I.isName s with
    | false =>
     rw [hn] at HNM;have e : nameE s ((l.take K).any fun x => x == s) = 6 := by unfold nameE; rw [hn, if_pos rfl]
     have HRv := Lib.hid (show R = ((K : Int), 6) by rw [HRD.out, HI2.out, e, if_pos (by decide)]; rfl);clear hn e HI2 HRD;go_wp2_with fail;refine HNM.out.mono ?_;rintro _ w1 ⟨rfl, rfl⟩;go_wp2_with fail;exact f2_end ((K : Int), 6) rfl rfl rfl (HZ.out.2.set ((K : Int), 6)) ⟨by rw [HRv.out], below_set2 HZ.out.1 (Nat.le_refl _) _ _⟩
    | true =>
     rw [hn] at HNM;have e : nameE s ((l.take K).any fun x => x == s) = if (l.take K).any (fun x => x == s) = true then 9 else 0 := by unfold nameE; rw [hn, if_neg (by decide)]
     rw [e] at HI2;clear hn e;go_wp2_with fail;refine HNM.out.mono ?_;rintro _ w1 ⟨rfl, rfl⟩;go_wp2_with fail;clear HNM h1 r0 r1 s0 s1;go_loopw [6] (fun x wr => ∃ (J : Nat), x = .int .i64 (J : Int) /\ J <= K /\ Hid (Z2 w wr) /\ Hid ((l.take J).any (fun x => x == s) = false)) (fun x _ => K - (intOf x).toNat)
     case atStart => exact ⟨0, rfl, Nat.zero_le _, HZ, Lib.hid rfl⟩
     case round =>
      clear HZ;obtain ⟨J, rfl, hJ, HZ, HJ⟩ := hrel;obtain ⟨⟨r0, s0⟩, r1, s1⟩ := HZ.out.2.cells;by_cases hltJ : J < K
      ·have hltJI : (J : Int) < (K : Int) := by omega
       have hltJN : (J : Int) < (N : Int) := by omega
       obtain ⟨y, hy⟩ : ∃ y, l[J]? = some y := ⟨_, List.getElem?_eq_getElem (by rw [HN.out]; omega)⟩;have hmm : (l.map sv)[J]? = some (sv y) := by rw [List.getElem?_map, hy]; rfl
       obtain ⟨b2, off2, ea, h2⟩ := HS.out.at hmm;cases ea
       have h2 := kept_cell HZ.out.1 h2;have h1 := kept_cell HZ.out.1 HC1.out;unfold sv at h2;have HYJ := Lib.hid hy;have hwJ := wrap_next J (by have := HL.out; omega);clear hmm hy;by_cases hq : y = s
       ·have hqb : ((str y).toList == (str s).toList) = true := by rw [hq]; simp
        have hany : (l.take K).any (fun x => x == s) = true := by
         rw [List.any_eq_true];exact ⟨y, List.mem_of_getElem? (i := J) (by rw [List.getElem?_take, if_pos hltJ]; exact HYJ.out), beq_iff_eq.2 hq⟩
        have HRv := Lib.hid (show R = ((K : Int), 9) by rw [HRD.out, HI2.out, hany, if_pos rfl, if_pos (by decide)]; rfl);clear hq hany HI2 HRD;go_wp2_with fail;go_quiet (fail)
        go_wp2_with fail;exact f2_end ((K : Int), 9) rfl rfl rfl ((HZ.out.drewN _).2.set ((K : Int), 9)) ⟨by rw [HRv.out], below_set2 (HZ.out.drewN _).1 (Nat.le_refl _) _ _⟩
       ·have hqb : ((str y).toList == (str s).toList) = false := str_ne hq
        have HQ := Lib.hid (show (y == s) = false from beq_eq_false_iff_ne.2 hq);clear hq;go_wp2_with fail;go_quiet (fail)
        go_wp2_with fail;clear hwJ hltI hltJI hwK hltJN;exact ⟨⟨J + 1, by go_num, by omega, Lib.hid (HZ.out.drewN _), Lib.hid (any_take_next HJ.out HYJ.out HQ.out)⟩, by simp [intOf]; omega⟩
      ·have hltJI : ¬ (J : Int) < (K : Int) := by omega
       have e : J = K := by omega
       have HI3 : Hid (firstBad (nameBad l) (K + 1) (N - (K + 1)) = firstBad (nameBad l) 0 N) := by
        have h2 := HI2.out;rw [e] at HJ;rw [HJ.out, if_neg (by decide)] at h2;exact Lib.hid h2.symm
       clear HI2;go_wp2_with fail;clear hwK hltI hltJI;exact ⟨⟨K + 1, by go_num, by omega, HZ, HI3⟩, by simp [intOf]; omega⟩
   ·have hltI : ¬ (K : Int) < (N : Int) := by omega
    have e : K = N := by omega
    have hz : firstBad (nameBad l) 0 N = none := by rw [<- HI.out, e, Nat.sub_self]; rfl
    have HRv := Lib.hid (show R = (0, 0) by rw [HRD.out, hz]; rfl);clear hz HI HRD;go_wp2_with fail;exact f2_end (0, 0) rfl rfl rfl (HZ.out.2.set (0, 0)) ⟨by rw [HRv.out], below_set2 HZ.out.1 (Nat.le_refl _) _ _⟩
set_option maxHeartbeats 1000000 in
theorem refCode_any (code : List In) (v : Value) (nv na : Int) (w : World) (hs : SlI w v code) (hl : code.length <= 9223372036854775807) :
 Calls Tryz.prog 77 #[v, .int .i64 nv, .int .i64 na] w fun e w' => e = .returned (.int .i64 (check code nv na).2) /\ Below w.heap.size w w' := by
 have H := Lib.hid (refCheck_any code v nv na w hs hl);go_enter Tryz.func77, Tryz.ntmps77;go_wp2_with fail;refine H.out.mono ?_;rintro _ w1 ⟨rfl, hb⟩;have HB := Lib.hid hb;clear hb;go_wp2_with fail;go_ret;exact ⟨rfl, HB.out⟩
def gdBad (V A : Int) (g : Gd) : Int := if g.code < 16 \/ 63 < g.code then 3 else (check g.test V A).2
set_option maxHeartbeats 1000000 in
theorem refGuard_any (g : Gd) (vt c0 c2 c3 : Value) (a1 : Option Addr) (V cap1 : Nat) (A : Int) (w : World) (hs : SlI w vt g.test) (hl : g.test.length <= 9223372036854775807) :
 Calls Tryz.prog 42 #[.agg #[.int .i64 g.code, vt], .agg #[c0, .slice a1 V cap1, c2, c3], .int .i64 A] w fun e w' => e = .returned (.int .i64 (gdBad V A g)) /\ Below w.heap.size w w' := by
 obtain ⟨W0, hW0⟩ : ∃ W0, w.alloc (.cells #[.int .i64 g.code, vt] 56) = W0 := ⟨_, rfl⟩;have hB0 : Below w.heap.size w W0 := by rw [<- hW0]; exact below_alloc _ _
 have p0 : W0.cell? ⟨w.heap.size, 0, none⟩ = some (.int .i64 g.code) := by rw [<- hW0]; exact box_cell _ _ _ _ _ rfl
 have p1 : W0.cell? ⟨w.heap.size, 1, none⟩ = some vt := by rw [<- hW0]; exact box_cell _ _ _ _ _ rfl
 obtain ⟨W1, hW1⟩ : ∃ W1, W0.alloc (.cells #[c0, .slice a1 V cap1, c2, c3] 26) = W1 := ⟨_, rfl⟩;have hB1 : Below W0.heap.size W0 W1 := by rw [<- hW1]; exact below_alloc _ _
 have q1 : W1.cell? ⟨W0.heap.size, 1, none⟩ = some (.slice a1 V cap1) := by rw [<- hW1]; exact box_cell _ _ _ _ _ rfl
 have p0 := kept_cell hB1 p0;have p1 := kept_cell hB1 p1;have HB := Lib.hid (hB0.trans (hB1.mono hB0.size));have HC := Lib.hid (refCode_any g.test vt V A W1 (hs.below HB.out) hl);obtain ⟨E, hE⟩ : ∃ E, (check g.test V A).2 = E := ⟨_, rfl⟩;unfold gdBad;rw [hE] at HC ⊢;obtain ⟨a, cap, rfl, -⟩ := hs;obtain ⟨c, hc⟩ : ∃ c, g.code = c := ⟨_, rfl⟩;rw [hc] at p0 hW0 ⊢;clear hB0 hB1 hE hl hc;by_cases h1 : c < 16
 ·rw [if_pos (Or.inl h1)]
  go_enter Tryz.func42, Tryz.ntmps42;go_wp2_with fail;go_ret;exact ⟨rfl, HB.out⟩
 ·by_cases h2 : 63 < c
  ·rw [if_pos (Or.inr h2)]
   go_enter Tryz.func42, Tryz.ntmps42;go_wp2_with fail;go_ret;exact ⟨rfl, HB.out⟩
  ·rw [if_neg (by omega)]
   go_enter Tryz.func42, Tryz.ntmps42;go_wp2_with fail;refine HC.out.mono ?_;rintro _ w2 ⟨rfl, hb⟩;have HB2 := Lib.hid (HB.out.trans (hb.mono HB.out.size));clear hb;go_wp2_with fail;go_ret;exact ⟨rfl, HB2.out⟩
theorem sl_lenC {w : World} {v : Value} {code : List In} (h : SlI w v code) : ∃ a cap, v = .slice a code.length cap := by
 obtain ⟨a, cap, rfl, -⟩ := h;exact ⟨a, cap, rfl⟩
theorem setBad_at (V A : Int) (l : List Se) (K : Nat) (s : Se) (h : l[K]? = some s) : setBad V A l K = if placeE s.var V ((l.take K).any fun y => y.var == s.var) ≠ 0 then placeE s.var V ((l.take K).any fun y => y.var == s.var) else (check s.value V A).2 := by
 unfold setBad; rw [h]
theorem any_take_var {l : List Se} {J : Nat} {x : Int} {y : Se} (h : (l.take J).any (fun z => z.var == x) = false) (hy : l[J]? = some y) (hne : (y.var == x) = false) : (l.take (J + 1)).any (fun z => z.var == x) = false := by
 rw [List.take_add_one, hy, List.any_append, h, Bool.false_or];simp [hne]
theorem placeE_out {n m : Int} {b : Bool} (h : ¬ (0 <= n /\ n < m)) : placeE n m b = 3 := by unfold placeE; rw [if_neg h]
theorem placeE_in {n m : Int} {b : Bool} (h : 0 <= n /\ n < m) : placeE n m b = if b = true then 9 else 0 := by unfold placeE; rw [if_pos h]
set_option maxHeartbeats 4000000 in
set_option maxRecDepth 100000 in
theorem refStep_any (p : Sp) (vs c2 c3 : Value) (a0 a1 : Option Addr) (S cap0 V cap1 : Nat) (A : Int) (w : World) (h : SlOf w 2 (SeIs w) vs p.sets) (hw : SpWf p) :
 Calls Tryz.prog 43 #[.agg #[vs, .int .i64 p.to], .agg #[.slice a0 S cap0, .slice a1 V cap1, c2, c3], .int .i64 A] w fun e w' => e = .returned (.int .i64 (spBad S V A p)) /\ Below w.heap.size w w' := by
 obtain ⟨aq, capq, rfl, h⟩ := h.open;obtain ⟨Q, hQ⟩ : ∃ Q, p.sets.length = Q := ⟨_, rfl⟩;have hQL := hw.2.1;rw [hQ] at h hQL ⊢;have HS := Lib.hid h;have HSW := Lib.hid hw.1;have HQL := Lib.hid hQL;have HQ := Lib.hid hQ;obtain ⟨x, hx⟩ : ∃ x, p.to = x := ⟨_, rfl⟩;obtain ⟨R, hR⟩ : ∃ R, spBad S V A p = R := ⟨_, rfl⟩;rw [hx, hR];obtain ⟨W0, hW0⟩ : ∃ W0, w.alloc (.cells #[.slice aq Q capq, .int .i64 x] 60) = W0 := ⟨_, rfl⟩;have hB0 : Below w.heap.size w W0 := by rw [<- hW0]; exact below_alloc _ _
 have p0 : W0.cell? ⟨w.heap.size, 0, none⟩ = some (.slice aq Q capq) := by rw [<- hW0]; exact box_cell _ _ _ _ _ rfl
 have p1 : W0.cell? ⟨w.heap.size, 1, none⟩ = some (.int .i64 x) := by rw [<- hW0]; exact box_cell _ _ _ _ _ rfl
 obtain ⟨W1, hW1⟩ : ∃ W1, W0.alloc (.cells #[.slice a0 S cap0, .slice a1 V cap1, c2, c3] 26) = W1 := ⟨_, rfl⟩;have hB1 : Below W0.heap.size W0 W1 := by rw [<- hW1]; exact below_alloc _ _
 have q0 : W1.cell? ⟨W0.heap.size, 0, none⟩ = some (.slice a0 S cap0) := by rw [<- hW1]; exact box_cell _ _ _ _ _ rfl
 have q1 : W1.cell? ⟨W0.heap.size, 1, none⟩ = some (.slice a1 V cap1) := by rw [<- hW1]; exact box_cell _ _ _ _ _ rfl
 have p0 := kept_cell hB1 p0;have p1 := kept_cell hB1 p1;have HB := Lib.hid (hB0.trans (hB1.mono hB0.size));by_cases hto : (S : Int) <= x
 ·have e : R = 3 := by rw [<- hR]; unfold spBad; rw [hx, if_pos hto]
  subst e;clear hB0 hB1 hQL hQ hx hR h hw;go_enter Tryz.func43, Tryz.ntmps43;go_wp2_with fail;go_ret;exact ⟨rfl, HB.out⟩
 have e : R = badE (firstBad (setBad V A p.sets) 0 Q) := by rw [<- hR]; unfold spBad; rw [hx, if_neg hto, hQ]
 have HRD := Lib.hid e;clear hB0 hB1 hQL hQ hx hR h hw e;go_enter Tryz.func43, Tryz.ntmps43;go_wp2_with fail;go_loopw [7] (fun y wr => ∃ (K : Nat), y = .int .i64 (K : Int) /\ K <= Q /\ Hid (Below W1.heap.size W1 wr) /\ Hid (firstBad (setBad V A p.sets) K (Q - K) = firstBad (setBad V A p.sets) 0 Q)) (fun y _ => Q - (intOf y).toNat)
 case atStart => exact ⟨0, rfl, Nat.zero_le _, Lib.hid (Below.refl _ _), Lib.hid rfl⟩
 case round =>
  obtain ⟨K, rfl, hK, HBK, HI⟩ := hrel;have k0 := kept_cell HBK.out p0;have l1 := kept_cell HBK.out q1;clear hW0 hW1 hto;by_cases hlt : K < Q
  ·have hltI : (K : Int) < (Q : Int) := by omega
   obtain ⟨s, hs⟩ : ∃ s, p.sets[K]? = some s := ⟨_, List.getElem?_eq_getElem (by rw [HQ.out]; exact hlt)⟩;have hsw := HSW.out s (List.mem_of_getElem? hs);obtain ⟨b, off, ea, cs, -, ⟨vv, rfl, hvv⟩, hc⟩ := HS.out.at hs;subst ea;have hbw : Below w.heap.size w wr := HB.out.trans (HBK.out.mono HB.out.size);obtain ⟨m, hm⟩ : ∃ m, s.var = m := ⟨_, rfl⟩;obtain ⟨av, capv, rfl⟩ := sl_lenC hvv;have hst := firstBad_step (setBad V A p.sets) K Q hlt;rw [setBad_at _ _ _ _ _ hs, hm] at hst;rw [hm] at hc;have HC0 := Lib.hid (hc 0 _ rfl);have e0 : wr.cell? ⟨b, off + K * 2, none⟩ = some (.int .i64 m) := kept_cell hbw HC0.out;have e1 := kept_cell hbw (hc 1 _ rfl);have HCC := Lib.hid (fun (W : World) (hb : Below w.heap.size w W) => refCode_any s.value _ (V : Int) A W (hvv.below hb) hsw.2.2);obtain ⟨L, hL⟩ : ∃ L, s.value.length = L := ⟨_, rfl⟩;rw [hL] at e1 HCC;obtain ⟨E, hE⟩ : ∃ E, (check s.value V A).2 = E := ⟨_, rfl⟩;rw [hE] at hst HCC;have HI2 := Lib.hid (HI.out.symm.trans hst);have hwK := wrap_next K (by have := HQL.out; omega);obtain ⟨W2, hW2⟩ : ∃ W2, wr.alloc (.cells #[.int .i64 m, .slice av L capv] 62) = W2 := ⟨_, rfl⟩;have hB2 : Below wr.heap.size wr W2 := by rw [<- hW2]; exact below_alloc _ _
   have u0 : W2.cell? ⟨wr.heap.size, 0, none⟩ = some (.int .i64 m) := by rw [<- hW2]; exact box_cell _ _ _ _ _ rfl
   have u1 : W2.cell? ⟨wr.heap.size, 1, none⟩ = some (.slice av L capv) := by rw [<- hW2]; exact box_cell _ _ _ _ _ rfl
   have k0' := kept_cell hB2 k0;have l1' := kept_cell hB2 l1;have HBL := Lib.hid (HBK.out.trans (hB2.mono HBK.out.size));have HB2 := Lib.hid hB2;clear hs hsw hvv hc hbw hst hL hE HI hB2;by_cases hr : 0 <= m /\ m < (V : Int)
   case neg =>
    have HV := Lib.hid (show R = 3 by rw [HRD.out, HI2.out, placeE_out hr, show (if (3 : Int) ≠ 0 then (3 : Int) else E) = 3 from if_pos (by decide), if_pos (by decide)]; rfl);by_cases h0 : m < 0
    ·clear hr HI2 HRD
     go_wp2_with fail;go_ret;exact ⟨ret_int HV.out.symm, HB.out.trans (HBL.out.mono HB.out.size)⟩
    ·have h1 : (V : Int) <= m := by omega
     clear hr HI2 HRD;go_wp2_with fail;go_ret;exact ⟨ret_int HV.out.symm, HB.out.trans (HBL.out.mono HB.out.size)⟩
   case pos =>
    rw [placeE_in hr] at HI2;obtain ⟨h0, h1⟩ := hr;have h0 : ¬ m < 0 := by omega
    have h1 : ¬ (V : Int) <= m := by omega
    go_wp2_with fail;go_loopw [9] (fun y wy => ∃ (J : Nat), y = .int .i64 (J : Int) /\ J <= K /\ Hid (Below W2.heap.size W2 wy) /\ Hid ((p.sets.take J).any (fun z => z.var == m) = false)) (fun y _ => K - (intOf y).toNat)
    case atStart => exact ⟨0, rfl, Nat.zero_le _, Lib.hid (Below.refl _ _), Lib.hid rfl⟩
    case round =>
     obtain ⟨J, rfl, hJ, HBJ, HJ⟩ := hrel;have m0 := kept_cell HBJ.out k0';have m1 := kept_cell HBJ.out l1';have n0 := kept_cell HBJ.out u0;have n1 := kept_cell HBJ.out u1;have hbl2 := HBL.out.trans (HBJ.out.mono HBL.out.size);have HBM := Lib.hid (HB.out.trans (hbl2.mono HB.out.size));have HBN := Lib.hid hbl2;by_cases hltJ : J < K
     ·have hltJI : (J : Int) < (K : Int) := by omega
      have hltJQ : (J : Int) < (Q : Int) := by omega
      obtain ⟨y, hy⟩ : ∃ y, p.sets[J]? = some y := ⟨_, List.getElem?_eq_getElem (by rw [HQ.out]; omega)⟩;obtain ⟨b2, off2, ea, cs, -, ⟨vv2, rfl, -⟩, hc⟩ := HS.out.at hy;cases ea
      obtain ⟨m2, hm2⟩ : ∃ m, y.var = m := ⟨_, rfl⟩;rw [hm2] at hc;have d0 : wr.cell? ⟨b, off + J * 2, none⟩ = some (.int .i64 m2) := kept_cell HBM.out (hc 0 _ rfl);have HYJ := Lib.hid hy;have hwJ := wrap_next J (by have := HQL.out; omega);clear hc hy hbl2 HCC;by_cases hq : m2 = m
      ·have hqb : (m2 == m) = true := beq_iff_eq.2 hq
       have hany : (p.sets.take K).any (fun z => z.var == m) = true := by
        rw [List.any_eq_true];exact ⟨y, List.mem_of_getElem? (i := J) (by rw [List.getElem?_take, if_pos hltJ]; exact HYJ.out), beq_iff_eq.2 (hm2.trans hq)⟩
       have HV := Lib.hid (show R = 9 by rw [HRD.out, HI2.out, hany, if_pos rfl, show (if (9 : Int) ≠ 0 then (9 : Int) else E) = 9 from if_pos (by decide), if_pos (by decide)]; rfl);clear hq hany HI2 HRD hm2;go_wp2_with fail;go_quiet (fail)
       go_wp2_with fail;go_ret;exact ⟨ret_int HV.out.symm, below_drewN HBM.out _⟩
      ·have hqb : (m2 == m) = false := beq_eq_false_iff_ne.2 hq
       have HQ2 := Lib.hid (show (y.var == m) = false by rw [hm2]; exact hqb);clear hq hm2;go_wp2_with fail;go_quiet (fail)
       go_wp2_with fail;clear hwJ hltI hltJI hwK hltJQ h0 h1;exact ⟨⟨J + 1, by go_num, by omega, Lib.hid (below_drewN HBJ.out _), Lib.hid (any_take_var HJ.out HYJ.out HQ2.out)⟩, by simp [intOf]; omega⟩
     ·have hltJI : ¬ (J : Int) < (K : Int) := by omega
      have e : J = K := by omega
      have hh : firstBad (setBad V A p.sets) 0 Q = if E ≠ 0 then some (K, E) else firstBad (setBad V A p.sets) (K + 1) (Q - (K + 1)) := by
       have h2 := HI2.out;have h3 := HJ.out;rw [e] at h3;rw [h3, show (if false = true then (9 : Int) else 0) = 0 from rfl, show (if (0 : Int) ≠ 0 then (0 : Int) else E) = E from if_neg (by decide)] at h2;exact h2
      have HC1 := Lib.hid (HCC.out _ HBM.out);have HHH := Lib.hid hh;clear hh HI2 HCC hbl2;go_wp2_with fail;refine HC1.out.mono ?_;rintro _ w5 ⟨rfl, hb5⟩;have HB5 := Lib.hid (HBN.out.trans (hb5.mono HBN.out.size));have HB6 := Lib.hid (HBM.out.trans (hb5.mono HBM.out.size));clear hb5;by_cases hE : E = 0
      ·have hEb : (E == 0) = true := beq_iff_eq.2 hE
       have HI3 := Lib.hid (show firstBad (setBad V A p.sets) (K + 1) (Q - (K + 1)) = firstBad (setBad V A p.sets) 0 Q by rw [HHH.out, if_neg (by simp [hE])]);clear hE HHH;go_wp2_with fail;clear hwK hltI hltJI h0 h1;exact ⟨⟨K + 1, by go_num, by omega, HB5, HI3⟩, by simp [intOf]; omega⟩
      ·have hEb : (E == 0) = false := beq_eq_false_iff_ne.2 hE
       have HV := Lib.hid (show R = E by rw [HRD.out, HHH.out, if_pos hE]; rfl);clear hE HHH;go_wp2_with fail;go_ret;exact ⟨ret_int HV.out.symm, HB6.out⟩
  ·have hltI : ¬ (K : Int) < (Q : Int) := by omega
   have e : K = Q := by omega
   have hz : firstBad (setBad V A p.sets) 0 Q = none := by rw [<- HI.out, e, Nat.sub_self]; rfl
   have HV := Lib.hid (show R = 0 by rw [HRD.out, hz]; rfl);clear hz HI HRD;go_wp2_with fail;go_ret;exact ⟨ret_int HV.out.symm, HB.out.trans (HBK.out.mono HB.out.size)⟩
end Go.Proofs.YtjcajeehgjpmmaaGreatDoor.R
