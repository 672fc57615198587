/-
  Contracts: varint's fold and Number, the reference's digits and Number.
-/
import Derived.Test.YtaidhoepnefcpaaGreatBP8RefC
import Derived.Deep.RegionLaw
import Derived.Deep.AppendLies
namespace Go.Proofs.YtaidhoepnefcpaaGreat.P8
open Go Go.RowKit Go.Shelf Go.Proofs B K
set_option linter.unusedVariables false
theorem Z8 (r : List UInt8 -> Bool -> Bool) {P : List (List UInt8)} {K : Nat} {x : List UInt8} (h : P[K]? = some x) : allL r (P.drop K) = (r x (decide (P.length <= K + 1)) && allL r (P.drop (K + 1))) := by
 obtain ⟨hk, rfl⟩ := List.getElem?_eq_some_iff.1 h;rw [List.drop_eq_getElem_cons hk];have : (P.drop (K + 1)).isEmpty = decide (P.length <= K + 1) := by
  rw [Bool.eq_iff_iff, List.isEmpty_iff, List.drop_eq_nil_iff, decide_eq_true_eq]
 show (r P[K] (P.drop (K + 1)).isEmpty && allL r (P.drop (K + 1))) = _
 rw [this]
theorem part_len {l : List UInt8} {x : List UInt8} (h : x ∈ parts l) : x.length <= l.length := by
 induction l generalizing x with
 | nil => simp [parts] at h; subst h; simp
 | cons b l ih =>
  unfold parts at h;split at h
  ·rcases List.mem_cons.1 h with rfl | h
   ·simp
   ·have := ih h; simp; omega
  ·cases hp : parts l with
   | nil => exact absurd hp (je l)
   | cons y ys =>
    rw [hp] at h ih;simp only [onFirst] at h;rcases List.mem_cons.1 h with rfl | h
    ·have := ih (x := y) (by simp); simp; omega
    ·have := ih (x := x) (List.mem_cons_of_mem _ h); simp; omega
theorem Ye (l : List UInt8) : (parts l).length <= l.length + 1 := by
 induction l with
 | nil => simp [parts]
 | cons b l ih =>
  unfold parts;split
  ·simp; omega
  ·cases hp : parts l with
   | nil => simp [onFirst]
   | cons y ys => rw [hp] at ih; simp [onFirst] at ih ⊢; omega
theorem four (n : Nat) : decide ((n : Int) <= 4) = decide (n <= 4) := by
 rw [Bool.eq_iff_iff, decide_eq_true_eq, decide_eq_true_eq]; omega
set_option maxHeartbeats 2000000 in
set_option maxRecDepth 100000 in
theorem refStream_any (l : List UInt8) (hl : l.length <= 9223372036854775807) (w : World) :
 Calls Tryz.prog 72 #[.string (str l)] w fun e w' => e = .returned (.bool (streamP l)) /\ Below w.heap.size w w' := by
 have hsz : (str l).size = l.length := zn l;by_cases h32 : l.length <= 32
 ·have hq : streamP l = (allL rS (parts l) && decide ((parts l).length <= 4)) := by unfold streamP rowOk; rw [decide_eq_true h32, Bool.true_and]
  have hI : ¬ (32 : Int) < (l.length : Int) := by omega
  have hml : ∀ x ∈ parts l, x.length <= 1000 := fun x hx => by have := part_len hx; omega
  have hpl := Ye l;have HC := fun W => Yc l (by omega) W
  obtain ⟨P, hP⟩ : ∃ P, parts l = P := ⟨_, rfl⟩;rw [hP] at hq hml hpl HC;rw [hq];obtain ⟨n, hn⟩ : ∃ n, P.length = n := ⟨_, rfl⟩;rw [hn] at hpl ⊢;have HML := Lib.hid hml;have HN := Lib.hid hn;clear hP hq hml hn;go_enter Tryz.func72, Tryz.ntmps72;go_wp2_with fail;refine (HC _).mono ?_;rintro _ w1 ⟨v, rfl, hp, hb⟩;have HP := Lib.hid hp;obtain ⟨b, off, cap, rfl, hcap, hx⟩ := hp;rw [HN.out] at HP ⊢;have HB := Lib.hid hb;clear hx hb hcap;go_wp2_with fail;go_loopw [4] (fun k wr => ∃ K : Nat, k = .int .i64 (K : Int) /\ K <= n /\ Hid (allL rS P = allL rS (P.drop K)) /\ wr = w1) (fun k _ => n - (intOf k).toNat)
  case atStart => exact ⟨0, rfl, Nat.zero_le _, rfl, rfl⟩
  case round =>
   obtain ⟨K, rfl, hK, HA, rfl⟩ := hrel;by_cases hlt : K < n
   ·have hltI : (K : Int) < (n : Int) := by omega
    have hw1 : IntKind.i64.wrap ((K : Int) + 1) = (K : Int) + 1 := IntWalk.i64_in _ (by omega);obtain ⟨x, hx⟩ : ∃ x, P[K]? = some x := ⟨_, List.getElem?_eq_getElem (by rw [HN.out]; exact hlt)⟩;have hs := Z8 rS hx;rw [show rS x (decide (P.length <= K + 1)) = plainP x from rfl] at hs;have hcell : wr.cell? ⟨b, off + K, none⟩ = some (.string (str x)) := by
     obtain ⟨b', off', cap', hv, _, hx'⟩ := HP.out;simp only [Value.slice.injEq, Option.some.injEq, Addr.mk.injEq] at hv;obtain ⟨⟨rfl, rfl, _⟩, _⟩ := hv;exact hx' K x hx
    have hC := fun W => uE x (HML.out x (List.mem_of_getElem? hx)) W
    obtain ⟨r, hr⟩ : ∃ r, plainP x = r := ⟨_, rfl⟩;rw [hr] at hC hs;have HS := Lib.hid hs;clear hs hr hx;go_wp2_with fail;refine (hC _).mono ?_;rintro _ w2 ⟨rfl, rfl⟩;cases r with
    | false =>
     go_wp2_with fail;go_ret;rw [HA.out, HS.out];exact ⟨rfl, HB.out⟩
    | true =>
     go_wp2_with fail;go_roundw
     case rel => exact ⟨K + 1, by go_num, by omega, by show _ = _; rw [HA.out, HS.out, Bool.true_and], by first | trivial | rfl⟩
     case measure => simp [intOf]; omega
   ·have hltI : ¬ (K : Int) < (n : Int) := by omega
    have ha := HA.out;rw [List.drop_of_length_le (by rw [HN.out]; omega)] at ha;have HA2 := Lib.hid ha; clear ha
    go_wp2_with fail;go_ret;rw [HA2.out]
    first | exact ⟨rfl, HB.out⟩ | exact ⟨by simp [allL, four], HB.out⟩
 ·have hq : streamP l = false := by unfold streamP rowOk; rw [decide_eq_false h32, Bool.false_and]
  rw [hq];have hI : (32 : Int) < (l.length : Int) := by omega
  go_enter Tryz.func72, Tryz.ntmps72;go_wp2_with fail;go_ret;exact ⟨rfl, Below.refl _ _⟩
set_option maxHeartbeats 2000000 in
set_option maxRecDepth 100000 in
theorem refPattern_any (l : List UInt8) (hl : l.length <= 9223372036854775807) (w : World) :
 Calls Tryz.prog 129 #[.string (str l)] w fun e w' => e = .returned (.bool (patP l)) /\ Below w.heap.size w w' := by
 have hsz : (str l).size = l.length := zn l;by_cases h32 : l.length <= 32
 ·have hq : patP l = (allL rP (parts l) && decide ((parts l).length <= 4)) := by unfold patP rowOk; rw [decide_eq_true h32, Bool.true_and]
  have hI : ¬ (32 : Int) < (l.length : Int) := by omega
  have hml : ∀ x ∈ parts l, x.length <= 1000 := fun x hx => by have := part_len hx; omega
  have hpl := Ye l;have HC := fun W => Yc l (by omega) W
  obtain ⟨P, hP⟩ : ∃ P, parts l = P := ⟨_, rfl⟩;rw [hP] at hq hml hpl HC;rw [hq];obtain ⟨n, hn⟩ : ∃ n, P.length = n := ⟨_, rfl⟩;rw [hn] at hpl ⊢;have HML := Lib.hid hml;have HN := Lib.hid hn;clear hP hq hml hn;go_enter Tryz.func129, Tryz.ntmps129;go_wp2_with fail;refine (HC _).mono ?_;rintro _ w1 ⟨v, rfl, hp, hb⟩;have HP := Lib.hid hp;obtain ⟨b, off, cap, rfl, hcap, hx⟩ := hp;rw [HN.out] at HP ⊢;have HB := Lib.hid hb;clear hx hb hcap;go_wp2_with fail;go_loopw [4] (fun k wr => ∃ K : Nat, k = .int .i64 (K : Int) /\ K <= n /\ Hid (allL rP P = allL rP (P.drop K)) /\ wr = w1) (fun k _ => n - (intOf k).toNat)
  case atStart => exact ⟨0, rfl, Nat.zero_le _, rfl, rfl⟩
  case round =>
   obtain ⟨K, rfl, hK, HA, rfl⟩ := hrel;by_cases hlt : K < n
   ·have hltI : (K : Int) < (n : Int) := by omega
    have hw1 : IntKind.i64.wrap ((K : Int) + 1) = (K : Int) + 1 := IntWalk.i64_in _ (by omega);obtain ⟨x, hx⟩ : ∃ x, P[K]? = some x := ⟨_, List.getElem?_eq_getElem (by rw [HN.out]; exact hlt)⟩;have hs := Z8 rP hx;rw [HN.out] at hs;have hcell : wr.cell? ⟨b, off + K, none⟩ = some (.string (str x)) := by
     obtain ⟨b', off', cap', hv, _, hx'⟩ := HP.out;simp only [Value.slice.injEq, Option.some.injEq, Addr.mk.injEq] at hv;obtain ⟨⟨rfl, rfl, _⟩, _⟩ := hv;exact hx' K x hx
    have hC := fun W => uE x (HML.out x (List.mem_of_getElem? hx)) W
    have e1 := eq_one x;have e2 := eq_many x;have hrp : rP x (decide (n <= K + 1)) = (plainP x || (x == one || (x == many && decide (n <= K + 1)))) := rfl;rw [hrp] at hs;obtain ⟨r, hr⟩ : ∃ r, plainP x = r := ⟨_, rfl⟩;obtain ⟨o, ho⟩ : ∃ r, (x == one) = r := ⟨_, rfl⟩;obtain ⟨m, hm⟩ : ∃ r, (x == many) = r := ⟨_, rfl⟩;obtain ⟨z, hz⟩ : ∃ r, decide (n <= K + 1) = r := ⟨_, rfl⟩;have hz2 : decide ((K : Int) + 1 < (n : Int)) = !z := by
     rw [<- hz, Bool.eq_iff_iff]; simp; omega
    rw [hr] at hC hs;rw [ho] at e1 hs;rw [hm] at e2 hs;rw [hz] at hs;have HS := Lib.hid hs;clear hs hr hx ho hm hz hrp;go_wp2_with fail;refine (hC _).mono ?_;rintro _ w2 ⟨rfl, rfl⟩;cases r with
    | true =>
     go_wp2_with fail;go_roundw
     case rel => exact ⟨K + 1, by go_num, by omega, by show _ = _; rw [HA.out, HS.out]; simp, by first | trivial | rfl⟩
     case measure => simp [intOf]; omega
    | false =>
     cases o with
     | true =>
      go_wp2_with fail;go_roundw
      case rel => exact ⟨K + 1, by go_num, by omega, by show _ = _; rw [HA.out, HS.out]; simp, by first | trivial | rfl⟩
      case measure => simp [intOf]; omega
     | false =>
      cases m with
      | false =>
       go_wp2_with fail;go_ret;rw [HA.out, HS.out];exact ⟨rfl, HB.out⟩
      | true =>
       cases z with
       | true =>
        have hz3 : ¬ (K : Int) + 1 < (n : Int) := by simpa using hz2
        go_wp2_with fail;go_roundw
        case rel => exact ⟨K + 1, by go_num, by omega, by show _ = _; rw [HA.out, HS.out]; simp, by first | trivial | rfl⟩
        case measure => simp [intOf]; omega
       | false =>
        have hz3 : (K : Int) + 1 < (n : Int) := by simpa using hz2
        go_wp2_with fail;go_ret;rw [HA.out, HS.out];exact ⟨rfl, HB.out⟩
   ·have hltI : ¬ (K : Int) < (n : Int) := by omega
    have ha := HA.out;rw [List.drop_of_length_le (by rw [HN.out]; omega)] at ha;have HA2 := Lib.hid ha; clear ha
    go_wp2_with fail;go_ret;rw [HA2.out]
    first | exact ⟨rfl, HB.out⟩ | exact ⟨by simp [allL, four], HB.out⟩
 ·have hq : patP l = false := by unfold patP rowOk; rw [decide_eq_false h32, Bool.false_and]
  rw [hq];have hI : (32 : Int) < (l.length : Int) := by omega
  go_enter Tryz.func129, Tryz.ntmps129;go_wp2_with fail;go_ret;exact ⟨rfl, Below.refl _ _⟩
theorem less_step {a b : List UInt8} {K : Nat} {x y : UInt8} (hx : a[K]? = some x) (hy : b[K]? = some y) : lessL (a.drop K) (b.drop K) = if x = y then lessL (a.drop (K + 1)) (b.drop (K + 1)) else decide (x.toNat < y.toNat) := by
 obtain ⟨h1, rfl⟩ := List.getElem?_eq_some_iff.1 hx;obtain ⟨h2, rfl⟩ := List.getElem?_eq_some_iff.1 hy;rw [List.drop_eq_getElem_cons h1, List.drop_eq_getElem_cons h2];rfl
theorem less_end {a b : List UInt8} {K : Nat} (ha : K <= a.length) (hb : K <= b.length) (h : ¬ (K < a.length /\ K < b.length)) : lessL (a.drop K) (b.drop K) = decide (a.length < b.length) := by
 rcases Nat.lt_or_ge K b.length with hb' | hb'
 ·have : a.length = K := by omega
  rw [List.drop_of_length_le (by omega), List.drop_eq_getElem_cons hb'];rw [decide_eq_true (by omega)]; rfl
 ·rw [List.drop_of_length_le hb', decide_eq_false (by omega)]
  cases a.drop K <;> rfl
set_option maxHeartbeats 2000000 in
set_option maxRecDepth 100000 in
theorem less_any (a b : List UInt8) (ha : a.length <= 9223372036854775806) (hb : b.length <= 9223372036854775806) (w : World) :
 Calls Tryz.prog 75 #[.string (str a), .string (str b)] w fun e w' => e = .returned (.bool (lessL a b)) /\ Below w.heap.size w w' := by
 have hsa : (str a).size = a.length := zn a;have hsb : (str b).size = b.length := zn b;go_enter Tryz.func75, Tryz.ntmps75;go_wp2_with fail;go_loopw [5] (fun k wr => ∃ K : Nat, k = .int .i64 (K : Int) /\ K <= a.length /\ K <= b.length /\ Hid (lessL a b = lessL (a.drop K) (b.drop K)) /\ Below w.heap.size w wr) (fun k _ => a.length - (intOf k).toNat)
 case atStart => exact ⟨0, rfl, Nat.zero_le _, Nat.zero_le _, rfl, Below.refl _ _⟩
 case round =>
  obtain ⟨K, rfl, hKa, hKb, HL, HB⟩ := hrel;have hw1 : IntKind.i64.wrap ((K : Int) + 1) = (K : Int) + 1 := IntWalk.i64_in _ (by omega);by_cases hlt : K < a.length /\ K < b.length
  ·obtain ⟨hla, hlb⟩ := hlt
   have hltA : (K : Int) < (a.length : Int) := by omega
   have hltB : (K : Int) < (b.length : Int) := by omega
   have hlsA : (K : Int) < ((str a).size : Int) := by omega
   have hlsB : (K : Int) < ((str b).size : Int) := by omega
   have hk0 : (0 : Int) <= (K : Int) := by omega
   have hkA : K < (str a).size := by omega
   have hkB : K < (str b).size := by omega
   obtain ⟨x, hx⟩ : ∃ x, a[K]? = some x := ⟨_, List.getElem?_eq_getElem hla⟩;obtain ⟨y, hy⟩ : ∃ x, b[K]? = some x := ⟨_, List.getElem?_eq_getElem hlb⟩;have hgx : ((str a)[K]'hkA) = x := jv hx hkA;have hgy : ((str b)[K]'hkB) = y := jv hy hkB;have hst := less_step hx hy;by_cases hxy : x = y
   ·subst hxy
    rw [if_pos rfl] at hst;have HS := Lib.hid hst;clear hst hx hy;go_wp2_with fail;go_quiet (fail)
    go_wp2_with fail;go_roundw
    case rel => exact ⟨K + 1, by go_num, by omega, by omega, by show _ = _; rw [HL.out, HS.out], HB.trans ((below_drewN _ _).mono HB.size)⟩
    case measure => simp [intOf]; omega
   ·rw [if_neg hxy] at hst
    have HS := Lib.hid hst;have hne : (((x.toNat : Int)) == (y.toNat : Int)) = false := by
     rw [beq_eq_false_iff_ne]; intro h; exact hxy (UInt8.toNat_inj.1 (by omega))
    have hne2 : ((x.toNat : Int) != (y.toNat : Int)) = true := by
     rw [bne_iff_ne]; intro h; exact hxy (UInt8.toNat_inj.1 (by omega))
    clear hst hx hy hxy;go_wp2_with fail;go_quiet (fail)
    go_wp2_with fail;go_quiet (fail)
    go_wp2_with fail;go_ret;rw [HL.out, HS.out];refine ⟨rfl, ?_⟩
    first | exact HB.trans ((below_drewN _ _).mono HB.size) | (rw [World.drewN_drewN]; exact HB.trans ((below_drewN _ _).mono HB.size))
  ·have he := less_end hKa hKb hlt
   have HS := Lib.hid he;clear he;by_cases hla : K < a.length
   ·have hltA : (K : Int) < (a.length : Int) := by omega
    have hltB : ¬ (K : Int) < (b.length : Int) := by omega
    go_wp2_with fail;go_ret;rw [HL.out, HS.out];exact ⟨by simp, HB⟩
   ·have hltA : ¬ (K : Int) < (a.length : Int) := by omega
    go_wp2_with fail;go_ret;rw [HL.out, HS.out];exact ⟨by simp, HB⟩
def right9 (l : List (List UInt8)) : Bool := decide (l.length <= 8) && l.all patP
set_option maxRecDepth 100000
def Ts (w : World) (v : Value) (l : List (List UInt8)) : Prop := Sl w v (l.map sv)
theorem Ts.open {w : World} {v : Value} {l : List (List UInt8)} (h : Ts w v l) : ∃ a cap, v = .slice a l.length cap /\ ∀ (j : Nat) x, l[j]? = some x -> ∃ b off, a = some ⟨b, off, none⟩ /\ w.cell? ⟨b, off + j, none⟩ = some (.string (str x)) := by
 obtain ⟨a, cap, e, hc⟩ := h;rw [List.length_map] at e;exact ⟨a, cap, e, fun j x hx => hc j (sv x) (by rw [List.getElem?_map, hx]; rfl)⟩
theorem cell_b {w w' : World} {b o : Nat} {u : Value} (hb : Below w.heap.size w w') (h : w.cell? ⟨b, o, none⟩ = some u) : w'.cell? ⟨b, o, none⟩ = some u :=
 (hb.cell (p := ⟨b, o, none⟩) (World.block_lt_of_cell? w _ h)).trans h
def firstBad9 : List (List UInt8) -> Nat -> Option Nat
 | [], _ => none
 | x :: l, k => if patP x then firstBad9 l (k + 1) else some k
def check9 (l : List (List UInt8)) : Int × Int := if 8 < l.length then (0, 4) else match firstBad9 l 0 with
 | some k => ((k : Int), 6)
 | none => (0, 0)
theorem uA {l : List (List UInt8)} {k : Nat} {x : List UInt8} (h : l[k]? = some x) : firstBad9 (l.drop k) k = if patP x then firstBad9 (l.drop (k + 1)) (k + 1) else some k := by
 obtain ⟨hlt, rfl⟩ := List.getElem?_eq_some_iff.1 h;rw [List.drop_eq_getElem_cons hlt]; rfl
theorem qM : ∀ (l : List (List UInt8)) (k : Nat), firstBad9 l k = none ↔ l.all patP = true
 | [], k => by simp [firstBad9]
 | x :: l, k => by
  unfold firstBad9;cases hx : patP x with
  | true => simp [hx, qM l (k + 1)]
  | false => simp [hx]
theorem uM (l : List (List UInt8)) : ((check9 l).2 = 0) ↔ right9 l = true := by
 unfold check9 right9;by_cases h : 8 < l.length
 ·rw [if_pos h]
  simp; omega
 ·rw [if_neg h]
  cases hf : firstBad9 l 0 with
  | none => simp [(qM l 0).1 hf]; omega
  | some k =>
   have : ¬ l.all patP = true := fun e => by rw [(qM l 0).2 e] at hf; cases hf
   simp only [Bool.not_eq_true] at this;simp [this]
theorem jQ {a a' b b' : Int} (h : a = a') (h' : b = b') : Ending.returned (.tuple #[.int .i64 a, .int .i64 b]) = .returned (.tuple #[.int .i64 a', .int .i64 b']) := by rw [h, h']
set_option maxHeartbeats 1000000 in
theorem refCheck9_any (l : List (List UInt8)) (v : Value) (w : World) (h : Ts w v l) (hl : ∀ x ∈ l, x.length <= 9223372036854775807) :
 Calls Tryz.prog 68 #[v] w fun e w' => e = .returned (.tuple #[.int .i64 (check9 l).1, .int .i64 (check9 l).2]) /\ Below w.heap.size w w' := by
 obtain ⟨a, cap, rfl, hc⟩ := h.open;obtain ⟨N, hN⟩ : ∃ N, l.length = N := ⟨_, rfl⟩;have HC := Lib.hid hc;have HN := Lib.hid hN;have HL := Lib.hid hl;have hck : check9 l = if 8 < N then ((0 : Int), (4 : Int)) else match firstBad9 (l.drop 0) 0 with | some k => ((k : Int), (6 : Int)) | none => ((0 : Int), (0 : Int)) := by unfold check9; rw [hN]; rfl
 rw [hN];clear hc hl h hN;by_cases h8 : 8 < N
 ·have h8I : (8 : Int) < (N : Int) := by omega
  rw [if_pos h8] at hck;have HK := Lib.hid hck;clear hck h8;go_enter Tryz.func68, Tryz.ntmps68;go_wp2_with fail;go_ret2;exact ⟨jQ (by rw [HK.out]) (by rw [HK.out]), Below.refl _ _⟩
 ·have h8I : ¬ (8 : Int) < (N : Int) := by omega
  rw [if_neg h8] at hck;have HK := Lib.hid hck;have H8 := Lib.hid h8;clear hck h8;go_enter Tryz.func68, Tryz.ntmps68;go_wp2_with fail;go_loopw [4] (fun i wr => ∃ K : Nat, i = .int .i64 (K : Int) /\ K <= N /\ Hid (firstBad9 (l.drop 0) 0 = firstBad9 (l.drop K) K /\ Below w.heap.size w wr)) (fun i _ => N - (intOf i).toNat)
  case atStart => exact ⟨0, rfl, Nat.zero_le _, Lib.hid ⟨rfl, Below.refl _ _⟩⟩
  case round =>
   obtain ⟨K, rfl, hK, HJ⟩ := hrel;by_cases hlt : K < N
   ·have hltI : (K : Int) < (N : Int) := by omega
    have hk0 : 0 <= (K : Int) := by omega
    have hw1 : IntKind.i64.wrap ((K : Int) + 1) = (K : Int) + 1 := IntWalk.i64_in _ (by have := H8.out; omega);obtain ⟨x, hx⟩ : ∃ x, l[K]? = some x := ⟨_, List.getElem?_eq_getElem (by rw [HN.out]; exact hlt)⟩;obtain ⟨b, off, rfl, hcell⟩ := HC.out K x hx;have hc1 := cell_b HJ.out.2 hcell;have hd := HJ.out.1.trans (uA hx);have HP := Lib.hid (fun W => refPattern_any x (HL.out x (List.mem_of_getElem? hx)) W);obtain ⟨p, hp⟩ : ∃ p, patP x = p := ⟨_, rfl⟩;rw [hp] at HP hd;have HD := Lib.hid hd;clear hd hp hcell hx;cases p with
    | true =>
     go_wp2_with (go_at_call 129; refine (HP.out _).mono ?_; rintro _ w1 ⟨rfl, hb1⟩; have HB1 := Lib.hid hb1; clear hb1)
     go_roundw
     case rel => exact ⟨K + 1, by go_num, by omega, Lib.hid ⟨HD.out, HJ.out.2.trans (HB1.out.mono HJ.out.2.size)⟩⟩
     case measure => simp [intOf]; omega
    | false =>
     go_wp2_with (go_at_call 129; refine (HP.out _).mono ?_; rintro _ w1 ⟨rfl, hb1⟩; have HB1 := Lib.hid hb1; clear hb1)
     go_ret2;have hd := HD.out;simp only [Bool.false_eq_true, if_false] at hd;exact ⟨jQ (by rw [HK.out, hd]) (by rw [HK.out, hd]), HJ.out.2.trans (HB1.out.mono HJ.out.2.size)⟩
   ·have hltI : ¬ (K : Int) < (N : Int) := by omega
    have hd := HJ.out.1;rw [List.drop_of_length_le (i := K) (by rw [HN.out]; omega)] at hd;have HD := Lib.hid hd;clear hd;go_wp2_with fail;go_ret2;exact ⟨jQ (by rw [HK.out, HD.out]; rfl) (by rw [HK.out, HD.out]; rfl), HJ.out.2⟩
theorem refRight9_any (l : List (List UInt8)) (v : Value) (w : World) (h : Ts w v l) (hl : ∀ x ∈ l, x.length <= 9223372036854775807) :
 Calls Tryz.prog 22 #[v] w fun e w' => e = .returned (.bool (right9 l)) /\ Below w.heap.size w w' := by
 have HK := Lib.hid (refCheck9_any l v w h hl);have hr := uM l;obtain ⟨a, cap, rfl, -⟩ := h.open;obtain ⟨N, hN⟩ : ∃ N, l.length = N := ⟨_, rfl⟩;rw [hN] at HK ⊢;obtain ⟨⟨k, e⟩, hke⟩ : ∃ c, check9 l = c := ⟨_, rfl⟩;rw [hke] at HK hr;have he : right9 l = (e == 0) := by
  rw [Bool.eq_iff_iff, beq_iff_eq];exact hr.symm
 have HE := Lib.hid he;clear hr hke hN h he hl;go_enter Tryz.func22, Tryz.ntmps22;go_wp2_with (go_at_call 68; refine HK.out.mono ?_; rintro _ w1 ⟨rfl, hb1⟩; have HB1 := Lib.hid hb1; clear hb1)
 go_ret;exact ⟨by rw [HE.out]; rfl, HB1.out⟩
theorem jX {X : Type} {m : List X} {x : X} {K : Nat} (f : X -> Bool) (h : m[K]? = some x) : (m.drop K).all f = (f x && (m.drop (K + 1)).all f) := by
 obtain ⟨hlt, rfl⟩ := List.getElem?_eq_some_iff.1 h;rw [List.drop_eq_getElem_cons hlt, List.all_cons]
end Go.Proofs.YtaidhoepnefcpaaGreat.P8
namespace Go.Proofs.YtaidhoepnefcpaaGreat.V
open Go.RowKit
def sv (l : List UInt8) : Value := .string (str l)
theorem yC {k : IntKind} {a b : Int} (h : a = b) : Ending.returned (.int k a) = .returned (.int k b) := by rw [h]
theorem jP {a b : ByteArray} (h : a = b) : Ending.returned (.string a) = .returned (.string b) := by rw [h]
theorem bcell {B : Nat} {W w1 : World} (hb : Below B W w1) : (∀ b o, b < B -> w1.cell? ⟨b, o, none⟩ = W.cell? ⟨b, o, none⟩) /\ (∀ b o, b < B -> w1.frozen? ⟨b, o, none⟩ = W.frozen? ⟨b, o, none⟩) :=
 ⟨fun b o h => hb.cell (p := ⟨b, o, none⟩) h, fun b o h => hb.frozen (p := ⟨b, o, none⟩) h⟩
theorem uT (W : World) (q : Addr) (c : Nat) (hc : c < 256) (h : W.cell? q = some (.int .u8 (c : Int))) :
 (convert 41 9 (.slice (some q) 1 1)).run Tryz.prog W = .ok (.string (str [c.toUInt8])) W := by
 have hl : ([c.toUInt8] : List UInt8).length = 1 := rfl;have := run_convert_bytes_back (P := Tryz.prog) W 41 9 5 q 1 [c.toUInt8] Tryz.underlying41 Tryz.underlying5 Tryz.underlying9 (fun j hj => by
  obtain rfl : j = 0 := by simpa using hj
  simp only [List.getElem_cons_zero];rw [show (c.toUInt8).toNat = c from Lib.toUInt8_toNat hc];simpa [Addr.add] using h)
 exact this
theorem fold_neg (n : Int) (w : World) (h0 : n < 0) (h1 : -9223372036854775808 <= n) :
 Calls Tryz.prog 161 #[.int .i64 n] w fun e w' => e = .returned (.int .u64 (Lib.zigzag n)) /\ w = w' := by
 have hz : ((Lib.zigzag n : Nat) : Int) = -(n + 1) * 2 + 1 := by unfold Lib.zigzag; rw [if_neg (by omega)]; omega
 have HZ := Lib.hid hz; clear hz
 go_enter Tryz.func161, Tryz.ntmps161;go_wp2
 go_ret;exact ⟨yC HZ.out.symm, rfl⟩
theorem fold_pos (n : Int) (w : World) (h0 : 0 <= n) (h1 : n <= 9223372036854775807) :
 Calls Tryz.prog 161 #[.int .i64 n] w fun e w' => e = .returned (.int .u64 (Lib.zigzag n)) /\ w = w' := by
 have hz : ((Lib.zigzag n : Nat) : Int) = n * 2 := Lib.zigzag_nonneg h0;have HZ := Lib.hid hz; clear hz
 go_enter Tryz.func161, Tryz.ntmps161;go_wp2
 go_ret;exact ⟨yC HZ.out.symm, rfl⟩
theorem fold_any (n : Int) (w : World) (h0 : -9223372036854775808 <= n) (h1 : n <= 9223372036854775807) :
 Calls Tryz.prog 161 #[.int .i64 n] w fun e w' => e = .returned (.int .u64 (Lib.zigzag n)) /\ w = w' := by
 by_cases h : n < 0
 ·exact fold_neg n w h h0
 ·exact fold_pos n w (by omega) h1
set_option maxHeartbeats 400000 in
theorem ZM (n : Int) (w : World) (h0 : 0 <= n) (h : n < 128) :
 Calls Tryz.prog 77 #[.int .u64 n] w fun e w' => e = .returned (.string (str (Lib.uvarint n.toNat))) /\ Below w.heap.size w w' := by
 obtain ⟨u, rfl⟩ := Int.eq_ofNat_of_zero_le h0;rw [Int.toNat_natCast];have hcv := uT (w.alloc (.cells #[.int .u8 (u : Int)] 5)) ⟨w.heap.size, 0, none⟩ u (by omega) (by rw [World.cell?_alloc_at _ _ _ _ rfl]; rfl);go_enter Tryz.func77, Tryz.ntmps77;go_wp2
 go_ret;exact ⟨jP (by rw [Lib.uvarint_small (by omega)]), (Below.refl _ _).alloc (Nat.le_refl _) _⟩
set_option maxHeartbeats 400000 in
theorem digits_any (k : Nat) : ∀ (n : Int) (w : World), 0 <= n -> n < 18446744073709551616 -> n.toNat < 128 ^ (k + 1) ->
 Calls Tryz.prog 77 #[.int .u64 n] w fun e w' => e = .returned (.string (str (Lib.uvarint n.toNat))) /\ Below w.heap.size w w' := by
 induction k with
 | zero => intro n w h0 _ h; exact ZM n w h0 (by omega)
 | succ k ih =>
  intro n w h0 h64 h;by_cases h1 : n < 128
  ·exact ZM n w h0 h1
  ·have hq : (n / 128).toNat < 128 ^ (k + 1) := by
    rw [Nat.pow_succ] at h;rw [show (n / 128).toNat = n.toNat / 128 by omega];exact Nat.div_lt_of_lt_mul (by rw [Nat.mul_comm]; exact h)
   have HQ := Lib.hid hq; clear hq
   have IH := Lib.hid ih; clear ih
   have hu : 128 <= n := by omega
   have hm0 : n.tmod 128 = n % 128 := Int.tmod_eq_emod_of_nonneg (by omega);have hm1 : IntKind.u64.wrap (n % 128 + 128) = n % 128 + 128 := IntWalk.u64_in _ (by omega);have hm2 : IntKind.u8.wrap (n % 128 + 128) = n % 128 + 128 := IntWalk.u8_in _ (by omega);have hd0 : n.tdiv 128 = n / 128 := Int.tdiv_eq_ediv_of_nonneg (by omega);have hd1 : IntKind.u64.wrap (n / 128) = n / 128 := IntWalk.u64_in _ ⟨by omega, by omega⟩;have hbig := Lib.uvarint_big (x := n.toNat) (by omega);rw [show n.toNat / 128 = (n / 128).toNat by omega] at hbig;have hcv0 : ∀ W a, W.cell? a = some (.int .u8 (n % 128 + 128)) -> (convert 41 9 (.slice (some a) 1 1)).run Tryz.prog W = .ok (.string (str [(n.toNat % 128 + 128).toUInt8])) W := fun W a ha =>
    uT W a (n.toNat % 128 + 128) (by omega) (by rw [ha]; congr 2; omega)
   obtain ⟨c, hc⟩ : ∃ c, (n.toNat % 128 + 128).toUInt8 = c := ⟨_, rfl⟩;rw [hc] at hbig hcv0;have hcv := hcv0; clear hcv0 hc
   have hl : n / 128 < 18446744073709551616 := by omega
   have HL := Lib.hid hl; clear hl
   have hsx : (str [c]).size <= 1 := by rw [zn]; simp
   have hsy : (str (Lib.uvarint (n / 128).toNat)).size <= 10 := by rw [zn]; exact Lib.uvarint_length64 (by have := HL.out; omega)
   have HBIG := Lib.hid hbig; clear hbig
   clear h h1 h0 h64;go_enter Tryz.func77, Tryz.ntmps77;go_wp2_with fail;go_region_with (go_at_call 77; refine (IH.out _ _ (by omega) HL.out HQ.out).mono ?_; rintro e w1 ⟨rfl, hb⟩; obtain ⟨hc, hf⟩ := bcell hb)
   all_goals (go_wp2; go_ret; refine ⟨jP (by rw [HBIG.out, yS]; rfl), ?_⟩)
   ·exact (((Below.refl _ _).alloc (Nat.le_refl _) _).drew).trans (hb.mono (by simp))
   ·exact (((Below.refl _ _).alloc (Nat.le_refl _) _).drew).trans (hb.mono (by simp))
   ·exact ((Below.refl _ _).drew.trans hb).alloc hb.size _
theorem Yo (n : Int) (w : World) (h0 : 0 <= n) (h : n < 18446744073709551616) :
 Calls Tryz.prog 77 #[.int .u64 n] w fun e w' => e = .returned (.string (str (Lib.uvarint n.toNat))) /\ Below w.heap.size w w' :=
 digits_any 9 n w h0 h (by have : (128 : Nat) ^ (9 + 1) = 1180591620717411303424 := by decide
                           omega)
set_option maxHeartbeats 400000 in
theorem refNumber_any (n : Int) (w : World) (h0 : -9223372036854775808 <= n) (h1 : n <= 9223372036854775807) :
 Calls Tryz.prog 30 #[.int .i64 n] w fun e w' => e = .returned (.string (str (num n))) /\ Below w.heap.size w w' := by
 have hlt := Lib.zigzag_lt h0 h1;have hfin : ∀ m : Int, m = Lib.zigzag n -> Lib.uvarint m.toNat = num n := fun m hm => by rw [hm]; rfl
 have HF := Lib.hid hfin; clear hfin
 by_cases h : n < 0
 ·have hz : -(n + 1) * 2 + 1 = Lib.zigzag n := by unfold Lib.zigzag; rw [if_neg (by omega)]; omega
  have hb : -(n + 1) * 2 + 1 < 18446744073709551616 := by omega
  have HZ := Lib.hid hz; clear hz
  have HB := Lib.hid hb; clear hb hlt h1
  go_enter Tryz.func30, Tryz.ntmps30;go_wp2_with (go_at_call 77; refine (Yo _ _ (by omega) HB.out).mono ?_; rintro e w' ⟨rfl, hb⟩)
  go_ret;exact ⟨jP (by rw [HF.out _ HZ.out]), hb⟩
 ·have hz : n * 2 = Lib.zigzag n := (Lib.zigzag_nonneg (by omega)).symm
  have hb : n * 2 < 18446744073709551616 := by omega
  have hn0 : 0 <= n := by omega
  have HZ := Lib.hid hz; clear hz
  have HB := Lib.hid hb; clear hb hlt h0 h
  go_enter Tryz.func30, Tryz.ntmps30;go_wp2_with (go_at_call 77; refine (Yo _ _ (by omega) HB.out).mono ?_; rintro e w' ⟨rfl, hb⟩)
  go_ret;exact ⟨jP (by rw [HF.out _ HZ.out]), hb⟩
theorem zg (w : World) (o : Obj) : (w.alloc o).heap[w.heap.size]? = some o := by
 show (w.heap.push o)[w.heap.size]? = some o
 simp
theorem Yw (w : World) (e : TypeId) (z : Value) (c : Nat) (hc : c <= maxLen) : (w.alloc (.cells (Array.replicate c z) e)).ownsRow w.heap.size e 1 (.slice (some ⟨w.heap.size, 0, none⟩) 0 c) 0 [] :=
 ⟨rfl, Or.inr ⟨w.heap.size, c, Array.replicate c z, rfl, Nat.le_refl _, zg _ _, by omega, hc, by simp, by simp⟩⟩
theorem qw {w : World} {base : Nat} {e : TypeId} {size : Nat} {v : Value} {n : Nat} {xs : List Value} (h : w.ownsRow base e size v n xs) : ∀ k, v.ownBlock = some k -> base <= k := by
 intro k hk;rcases h.2 with ⟨rfl, _⟩ | ⟨g, cap, cur, rfl, hg, _⟩
 ·cases hk
 ·simp only [Value.ownBlock, Option.some.injEq] at hk
  omega
theorem run_owned_str {w : World} {base : Nat} {v : Value} {n : Nat} {l : List UInt8} (h : w.ownsRow base 5 1 v n (Lib.byteCells l)) (hn : l.length = n) :
 (convert 41 9 v).run Tryz.prog w = .ok (.string (str l)) w := by
 subst hn;rcases h.2 with ⟨rfl, h0⟩ | ⟨g, cap, cur, rfl, hg, hh, _, _, _, htk⟩
 ·rw [List.length_eq_zero_iff] at h0
  subst h0;exact Lib.run_convert_nil_bytes w 41 9 5 0 Tryz.underlying41 Tryz.underlying5 Tryz.underlying9
 ·exact run_convert_bytes_back w 41 9 5 ⟨g, 0, none⟩ cap l Tryz.underlying41 Tryz.underlying5 Tryz.underlying9 (Lib.bytes_of_row hh (by simpa using htk))
theorem qZ (w : World) (v : Value) (e : TypeId) : ∀ (j : Nat) (u : Value), [v][j]? = some u -> (w.alloc (.cells #[v] e)).cell? ((⟨w.heap.size, 0, none⟩ : Addr).add j) = some u := by
 intro j u hj;match j, hj with
 | 0, hj => simp at hj; subst hj; simp [Addr.add]
theorem one_cell (k : IntKind) (n : Int) : ∀ u ∈ [Value.int k n], u.oneCell' = true := by intro u hu; simp at hu; subst hu; rfl
theorem Tryz.info5 : (Tryz.prog.info? 5).map (fun i => (i.zero, i.size, i.bytes)) = some (some (.int .u8 0), 1, 1) := by kernel_rfl
set_option maxHeartbeats 800000 in
set_option maxRecDepth 100000 in
theorem zA (n : Int) (w : World) (h0 : -9223372036854775808 <= n) (h1 : n <= 9223372036854775807) :
 Calls Tryz.prog 110 #[.int .i64 n] w fun e w' => e = .returned (.string (str (num n))) /\ Below w.heap.size w w' := by
 obtain ⟨i0, hi, hz0, hz1, hz2⟩ := info_parts Tryz.info5;have hlt := Lib.zigzag_lt h0 h1;have hlen := zi n h0 h1;have hmk : ∀ w, (Instr.makeSlice 41 (.int .i64 0) (.int .i64 10)).run Tryz.prog w = .ok (.slice (some ⟨w.heap.size, 0, none⟩) 0 10) (w.alloc (.cells (Array.replicate 10 (.int .u8 0)) 5)) := fun _ => by kernel_rfl
 have HLEN := Lib.hid hlen; clear hlen
 have HLT := Lib.hid hlt; clear hlt
 go_enter Tryz.func110, Tryz.ntmps110;go_wp2_with (go_at_call 161; refine (fold_any _ _ h0 h1).mono ?_; rintro e w' ⟨rfl, rfl⟩)
 go_loopw [3, 4] (fun r v wr => ∃ (u : Nat) (acc : List UInt8), r = .int .u64 (u : Int) /\ u <= Lib.zigzag n /\ acc ++ Lib.uvarint u = num n /\ wr.ownsRow w.heap.size 5 1 v acc.length (Lib.byteCells acc) /\ Below w.heap.size w wr)
  (fun r _ _ => (intOf r).toNat)
 case atStart =>
  exact ⟨Lib.zigzag n, [], rfl, Nat.le_refl _, rfl, Yw _ _ _ _ (by unfold maxLen; omega), (Below.refl _ _).alloc (Nat.le_refl _) _⟩
 case round =>
  obtain ⟨u, acc, rfl, hu, hacc, hown, hbel⟩ := hrel;have hlen : acc.length + (Lib.uvarint u).length <= 10 := by rw [<- List.length_append, hacc]; exact HLEN.out
  have hpos := Lib.uvarint_pos u;have hu0 : 0 <= (u : Int) := by omega
  have HACC := Lib.hid hacc; clear hacc
  have hbs := hbel.size;by_cases hs : (u : Int) < 128
  ·have hm2 : IntKind.u8.wrap (u : Int) = (u : Int) := IntWalk.u8_in _ (by omega)
   have hall : acc ++ [u.toUInt8] = num n := by rw [<- HACC.out, Lib.uvarint_small (by omega)]
   have HALL := Lib.hid hall; clear hall
   have hc4 : (acc.length + 1) * 1 <= 140737488355328 := by omega
   have hc5 : w.heap.size <= (wr.alloc (.cells #[.int .u8 (u : Int)] 5)).heap.size := by simp; omega
   have HC5 := Lib.hid hc5; clear hc5
   have HC4 := Lib.hid hc4; clear hc4
   clear h0 h1;go_wp2_with (at_builtin; refine wpList_append_own _ rfl _ _ 41 rfl w.heap.size 5 i0 (.int .u8 0) 1 1 Tryz.underlying41 hi hz0 hz1 hz2 rfl (by decide) _ _ _ rfl (hown.alloc _) ⟨wr.heap.size, 0, none⟩ 1 1 [.int .u8 (u : Int)] rfl rfl (qZ _ _ _) (one_cell _ _) (by unfold maxLen; omega) HC4.out HC5.out ?_; intro v' w1 hown' hgrow hnn; clear hnn)
   have hb1 : Below w.heap.size w w1 := (hbel.alloc hbs _).grown hgrow HC5.out (qw hown);rw [<- Lib.byteCells_snoc acc (show u < 256 by omega)] at hown';have hcv := run_owned_str hown' (by simp);rw [HALL.out] at hcv;clear hgrow hown hown';go_wp2
   go_simp
   go_wp2
   go_ret;exact ⟨rfl, hb1⟩
  ·have hm2 : IntKind.u8.wrap ((u : Int) % 128) = (u : Int) % 128 := IntWalk.u8_in _ (by omega)
   have hor : bits .or .u8 ((u : Int) % 128) 128 = ((u % 128 + 128 : Nat) : Int) := by
    rw [Lib.u8_or128_any _ (by omega) (by omega)]; omega
   have hd1 : IntKind.u64.wrap ((u : Int) / 128) = (u : Int) / 128 := IntWalk.u64_in _ (by have := HLT.out; omega);have hbig := Lib.uvarint_big (x := u) (by omega);have hall : (acc ++ [(u % 128 + 128).toUInt8]) ++ Lib.uvarint (u / 128) = num n := by rw [<- HACC.out, hbig]; simp
   have HALL := Lib.hid hall; clear hall hbig
   have hs' : 128 <= (u : Int) := by omega
   have hc4 : (acc.length + 1) * 1 <= 140737488355328 := by omega
   have hc5 : w.heap.size <= (wr.alloc (.cells #[.int .u8 ((u % 128 + 128 : Nat) : Int)] 5)).heap.size := by simp; omega
   have HC5 := Lib.hid hc5; clear hc5
   have HC4 := Lib.hid hc4; clear hc4
   clear hs h0 h1;go_wp2_with (at_builtin; refine wpList_append_own _ rfl _ _ 41 rfl w.heap.size 5 i0 (.int .u8 0) 1 1 Tryz.underlying41 hi hz0 hz1 hz2 rfl (by decide) _ _ _ rfl (hown.alloc _) ⟨wr.heap.size, 0, none⟩ 1 1 [.int .u8 ((u % 128 + 128 : Nat) : Int)] rfl rfl (qZ _ _ _) (one_cell _ _) (by unfold maxLen; omega) HC4.out HC5.out ?_; intro v' w1 hown' hgrow hnn; clear hnn)
   have hb1 : Below w.heap.size w w1 := (hbel.alloc hbs _).grown hgrow HC5.out (qw hown);rw [<- Lib.byteCells_snoc acc (show u % 128 + 128 < 256 by omega)] at hown';clear hgrow hown;go_wp2
   go_roundw
   case rel => exact ⟨u / 128, acc ++ [(u % 128 + 128).toUInt8], by simp, by omega, HALL.out, by simpa using hown', hb1⟩
   case measure => simp [intOf]; omega
end Go.Proofs.YtaidhoepnefcpaaGreat.V
