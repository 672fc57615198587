/-
  Layer 6, plainly: what was shown is read as it was.
-/
import Derived.Deep.QuietTactic
import Derived.BigQuiet
import Derived.Deep.DeepCutAuto
import Derived.Test.YtjcajeehgjpmmaaGreatDoorTSpec
namespace Go.Proofs.YtjcajeehgjpmmaaGreatDoor.V
open Go Go.RowKit B K E
set_option maxHeartbeats 1000000 in
theorem ints_same (v v' : Value) (xs : List Int) (w : World) (hn : xs.length <= 4611686018427387904) (h : Sl w v (xs.map (Value.int .i64))) (h' : Sl w v' (xs.map (Value.int .i64))) :
 Calls Tryz.prog 29 #[v, v'] w fun e w' => e = .returned (.bool true) /\ Below w.heap.size w w' := by
 obtain ⟨a, cap, rfl, hc⟩ := h;obtain ⟨a', cap', rfl, hc'⟩ := h';rw [List.length_map];have hnn : ((xs.length : Int) != (xs.length : Int)) = false := by simp
 have HC := Lib.hid hc; clear hc
 have HC' := Lib.hid hc'; clear hc'
 obtain ⟨n, hN⟩ : ∃ n, xs.length = n := ⟨_, rfl⟩;rw [hN] at hn hnn ⊢;have HN := Lib.hid hN; clear hN
 go_enter Tryz.func29, Tryz.ntmps29;go_wp2_with fail;go_loopw [5] (fun i wr => ∃ k : Nat, k <= n /\ i = .int .i64 (k : Int) /\ Below w.heap.size w wr) (fun i _ => n - (intOf i).toNat)
 case atStart => exact ⟨0, Nat.zero_le _, rfl, Below.refl _ _⟩
 case round =>
  obtain ⟨k, hk, rfl, hbel⟩ := hrel;by_cases hlt : k < n
  ·obtain ⟨x, hx⟩ : ∃ x, xs[k]? = some x := ⟨_, List.getElem?_eq_getElem (by rw [HN.out]; exact hlt)⟩
   obtain ⟨b, off, rfl, hcell⟩ := HC.out k (.int .i64 x) (by rw [List.getElem?_map, hx]; rfl);obtain ⟨b', off', rfl, hcell'⟩ := HC'.out k (.int .i64 x) (by rw [List.getElem?_map, hx]; rfl);have hc1 : wr.cell? ⟨b, off + k, none⟩ = some (.int .i64 x) := (hbel.cell (World.block_lt_of_cell? w _ hcell)).trans hcell;have hc2 : wr.cell? ⟨b', off' + k, none⟩ = some (.int .i64 x) := (hbel.cell (World.block_lt_of_cell? w _ hcell')).trans hcell';have hltI : (k : Int) < (n : Int) := by omega
   have hk0 : 0 <= (k : Int) := by omega
   have hxx : (x != x) = false := by simp
   clear hcell hcell' hx;go_wp2_with fail;go_quiet (fail)
   go_wp2_with fail;go_roundw
   case rel => exact ⟨k + 1, by omega, by go_num, below_drewN hbel _⟩
   case measure => simp [intOf]; omega
  ·have hltI : ¬ (k : Int) < (n : Int) := by omega
   go_wp2_with fail;go_ret;exact ⟨rfl, hbel⟩
set_option maxHeartbeats 1000000 in
theorem same_same (v v' : Value) (xs : List (List UInt8)) (w : World) (hn : xs.length <= 4611686018427387904) (h : Sl w v (xs.map sv)) (h' : Sl w v' (xs.map sv)) :
 Calls Tryz.prog 28 #[v, v'] w fun e w' => e = .returned (.bool true) /\ Below w.heap.size w w' := by
 obtain ⟨a, cap, rfl, hc⟩ := h;obtain ⟨a', cap', rfl, hc'⟩ := h';rw [List.length_map];have hnn : ((xs.length : Int) != (xs.length : Int)) = false := by simp
 have HC := Lib.hid hc; clear hc
 have HC' := Lib.hid hc'; clear hc'
 obtain ⟨n, hN⟩ : ∃ n, xs.length = n := ⟨_, rfl⟩;rw [hN] at hn hnn ⊢;have HN := Lib.hid hN; clear hN
 go_enter Tryz.func28, Tryz.ntmps28;go_wp2_with fail;go_loopw [5] (fun i wr => ∃ k : Nat, k <= n /\ i = .int .i64 (k : Int) /\ Below w.heap.size w wr) (fun i _ => n - (intOf i).toNat)
 case atStart => exact ⟨0, Nat.zero_le _, rfl, Below.refl _ _⟩
 case round =>
  obtain ⟨k, hk, rfl, hbel⟩ := hrel;by_cases hlt : k < n
  ·obtain ⟨x, hx⟩ : ∃ x, xs[k]? = some x := ⟨_, List.getElem?_eq_getElem (by rw [HN.out]; exact hlt)⟩
   obtain ⟨b, off, rfl, hcell⟩ := HC.out k (.string (str x)) (by rw [List.getElem?_map, hx]; rfl);obtain ⟨b', off', rfl, hcell'⟩ := HC'.out k (.string (str x)) (by rw [List.getElem?_map, hx]; rfl);have hc1 : wr.cell? ⟨b, off + k, none⟩ = some (.string (str x)) := (hbel.cell (World.block_lt_of_cell? w _ hcell)).trans hcell;have hc2 : wr.cell? ⟨b', off' + k, none⟩ = some (.string (str x)) := (hbel.cell (World.block_lt_of_cell? w _ hcell')).trans hcell';have hltI : (k : Int) < (n : Int) := by omega
   have hk0 : 0 <= (k : Int) := by omega
   clear hcell hcell' hx;go_wp2_with fail;go_quiet (fail)
   go_wp2_with fail;go_roundw
   case rel => exact ⟨k + 1, by omega, by go_num, below_drewN hbel _⟩
   case measure => simp [intOf]; omega
  ·have hltI : ¬ (k : Int) < (n : Int) := by omega
   go_wp2_with fail;go_ret;exact ⟨rfl, hbel⟩
end Go.Proofs.YtjcajeehgjpmmaaGreatDoor.V
namespace Go.Proofs.YtjcajeehgjpmmaaGreatDoor.E
open Go Go.RowKit B K
set_option linter.unusedVariables false
set_option maxHeartbeats 400000 in
theorem refSame_same (xs : List In) (v v' : Value) (w : World) (hs : SlI w v xs) (hs' : SlI w v' xs) (hl : xs.length <= 9223372036854775807) :
 Calls Tryz.prog 61 #[v, v'] w fun e w' => e = .returned (.bool true) /\ Below w.heap.size w w' := by
 have HS := Lib.hid hs;have HS' := Lib.hid hs';obtain ⟨a, cap, rfl, -⟩ := hs;obtain ⟨a', cap', rfl, -⟩ := hs';have HL := Lib.hid hl; clear hl
 obtain ⟨n, hN⟩ : ∃ n, xs.length = n := ⟨_, rfl⟩;rw [hN] at HL HS HS' ⊢;have HN := Lib.hid hN;clear hN;go_enter Tryz.func61, Tryz.ntmps61;go_wp2_with fail;go_loopw [5] (fun k wr => ∃ (K : Nat), k = .int .i64 (K : Int) /\ K <= n /\ Hid (Below w.heap.size w wr)) (fun k _ => n - (intOf k).toNat)
 case atStart => exact ⟨0, rfl, Nat.zero_le _, Below.refl _ _⟩
 case round =>
  obtain ⟨K, rfl, hK, HBE⟩ := hrel;by_cases hlt : K < n
  ·obtain ⟨x, hx⟩ : ∃ x, xs[K]? = some x := ⟨_, List.getElem?_eq_getElem (by rw [HN.out]; exact hlt)⟩
   obtain ⟨b, off, ea, h1, h2⟩ := (HS.out.below HBE.out).at hx;obtain ⟨b', off', ea', h1', h2'⟩ := (HS'.out.below HBE.out).at hx;subst ea ea';have hwK : IntKind.i64.wrap ((K : Int) + 1) = (K : Int) + 1 := IntWalk.i64_in _ (by have := HL.out; omega);have hltI : (K : Int) < (n : Int) := by omega
   obtain ⟨o, y⟩ := x;clear hx;go_wp2_with fail;go_quiet (fail)
   go_wp2_with fail;go_roundw
   case rel => exact ⟨K + 1, by go_num, by omega, below_drewN HBE.out _⟩
   case measure => simp [intOf]; omega
  ·have hltI : ¬ (K : Int) < (n : Int) := by omega
   go_wp2_with fail;go_ret;exact ⟨rfl, HBE.out⟩
end Go.Proofs.YtjcajeehgjpmmaaGreatDoor.E
namespace Go.Proofs.YtjcajeehgjpmmaaGreatDoor.T
open Go E R
set_option linter.unusedVariables false
def Wd (w : Bs) : Prop := w ≠ [] /\ ∀ c ∈ w, c ≠ 32
theorem upTo_app (c : UInt8) (a b : Bs) (h : ∀ x ∈ a, x ≠ c) : upTo c (a ++ c :: b) = a := by
 unfold upTo;rw [List.takeWhile_append_of_pos (fun x hx => by simpa using h x hx)];simp
theorem upTo_all (c : UInt8) (a : Bs) (h : ∀ x ∈ a, x ≠ c) : upTo c a = a := by
 unfold upTo;have := List.takeWhile_append_of_pos (p := (· != c)) (l₁ := a) (l₂ := []) (fun x hx => by simpa using h x hx);simpa using this
theorem past_app (c : UInt8) (a b : Bs) (h : ∀ x ∈ a, x ≠ c) : past c (a ++ c :: b) = b := by
 unfold past;rw [List.dropWhile_append_of_pos (fun x hx => by simpa using h x hx)];simp
theorem past_all (c : UInt8) (a : Bs) (h : ∀ x ∈ a, x ≠ c) : past c a = [] := by
 unfold past;have := List.dropWhile_append_of_pos (p := (· != c)) (l₁ := a) (l₂ := []) (fun x hx => by simpa using h x hx);rw [List.append_nil] at this;rw [this];rfl
theorem hasB_app (c : UInt8) (a b : Bs) : hasB c (a ++ c :: b) = true := by unfold hasB; simp
theorem hasB_all (c : UInt8) (a : Bs) (h : ∀ x ∈ a, x ≠ c) : hasB c a = false := by
 unfold hasB;rw [List.any_eq_false];intro x hx;simpa using h x hx
theorem trimL_blank (s : Bs) : trimL (32 :: s) = trimL s := by
 show List.dropWhile _ _ = List.dropWhile _ _
 rw [List.dropWhile_cons_of_pos (by decide)]
theorem trimL_self (s : Bs) (h : s.head? ≠ some 32) : trimL s = s := by
 show List.dropWhile _ _ = _
 cases s with
 | nil => rfl
 | cons c r => rw [List.dropWhile_cons_of_neg (by simpa using h)]
theorem trimR_self (s : Bs) (h : s.getLast? ≠ some 32) : trimR s = s := by
 show (trimL s.reverse).reverse = _
 rw [trimL_self _ (by rw [List.head?_reverse]; exact h), List.reverse_reverse]
theorem trim_self (s : Bs) (h : s.head? ≠ some 32) (g : s.getLast? ≠ some 32) : trim s = s := by
 show trimL (trimR s) = s
 rw [trimR_self s g, trimL_self s h]
theorem Wd.head {w : Bs} (h : Wd w) : w.head? ≠ some 32 := by
 intro e;cases w with
 | nil => cases e
 | cons c r => simp at e; exact h.2 c (by simp) e
theorem Wd.last {w : Bs} (h : Wd w) : w.getLast? ≠ some 32 := fun e => h.2 32 (List.mem_of_getLast? e) rfl
theorem wd_app (w r : Bs) (h : Wd w) : wd (w ++ 32 :: r) = w := upTo_app 32 w r h.2
theorem wd_self (w : Bs) (h : Wd w) : wd w = w := upTo_all 32 w h.2
theorem nx_app (w r : Bs) (h : Wd w) (g : r.head? ≠ some 32) : nx (w ++ 32 :: r) = r := by unfold nx; rw [past_app 32 w r h.2, trimL_self r g]
theorem nx_self (w : Bs) (h : Wd w) : nx w = [] := by unfold nx; rw [past_all 32 w h.2]; rfl
theorem behind_cons (w : Bs) (l : List Bs) : behind (w :: l) = 32 :: (w ++ behind l) := rfl
theorem head_app {a b : Bs} (h : a ≠ []) : (a ++ b).head? = a.head? := by cases a with | nil => exact absurd rfl h | cons c r => rfl
theorem wd_behind (w : Bs) (l : List Bs) (h : Wd w) : wd (w ++ behind l) = w := by
 cases l with
 | nil => show wd (w ++ []) = w; rw [List.append_nil]; exact wd_self w h
 | cons x l => rw [behind_cons]; exact wd_app w _ h
theorem nx_behind (w x : Bs) (l : List Bs) (h : Wd w) (hx : x ≠ [] /\ x.head? ≠ some 32) : nx (w ++ behind (x :: l)) = x ++ behind l := by
 rw [behind_cons]; exact nx_app w _ h (by rw [head_app hx.1]; exact hx.2)
theorem nx_behind_nil (w : Bs) (h : Wd w) : nx (w ++ behind []) = [] := by show nx (w ++ []) = []; rw [List.append_nil]; exact nx_self w h
theorem words_behind : ∀ (l : List Bs) (w : Bs), Wd w -> (∀ x ∈ l, Wd x) -> words (w ++ behind l) = w :: l
 | [], w, h, _ => by unfold words; rw [dif_pos (nx_behind_nil w h), wd_behind w [] h]
 | x :: l, w, h, g => by
  have hx := g x List.mem_cons_self;have e := nx_behind w x l h ⟨hx.1, hx.head⟩;unfold words;rw [dif_neg (by rw [e]; intro h0; exact hx.1 (List.append_eq_nil_iff.1 h0).1), wd_behind w _ h, e, words_behind l x hx fun y hy => g y (List.mem_cons_of_mem _ hy)]
theorem cutL_go : ∀ (l : Bs) (w r : Bs), (∀ c ∈ l, c ≠ 10) -> cutL (l ++ 10 :: r) w = (w ++ l) :: cutL r []
 | [], w, r, _ => by show cutL (10 :: r) w = _; rw [cutL, if_pos rfl, List.append_nil]
 | c :: l, w, r, h => by
  show cutL (c :: (l ++ 10 :: r)) w = _
  rw [cutL, if_neg (h c List.mem_cons_self), cutL_go l (w ++ [c]) r fun x hx => h x (List.mem_cons_of_mem _ hx)];simp
theorem cutL_lines : ∀ (ls : List Bs), (∀ l ∈ ls, ∀ c ∈ l, c ≠ 10) -> cutL (ls.flatMap fun l => l ++ [10]) [] = ls ++ [[]]
 | [], _ => rfl
 | l :: ls, h => by
  rw [List.flatMap_cons, List.append_assoc, List.singleton_append, cutL_go l [] _ (h l List.mem_cons_self), cutL_lines ls fun x hx => h x (List.mem_cons_of_mem _ hx)];rfl
theorem name_idc {s : Bs} (h : I.isName s = true) : s ≠ [] /\ ∀ c ∈ s, I.idc c = true := by
 match s, h with
 | c :: r, h =>
  simp only [I.isName, Bool.and_eq_true] at h;exact ⟨by simp, fun x hx => List.all_eq_true.1 h.1.1.1.2 x hx⟩
theorem idc_no {c : UInt8} (h : I.idc c = true) : c ≠ 32 /\ c ≠ 10 /\ c ≠ 59 /\ c ≠ 61 := by
 refine ⟨?_, ?_, ?_, ?_⟩ <;> (rintro rfl; revert h; decide)
theorem name_wd {s : Bs} (h : I.isName s = true) : Wd s := ⟨(name_idc h).1, fun c hc => (idc_no ((name_idc h).2 c hc)).1⟩
theorem digit_no {c : UInt8} (h : I.digit c = true) : c ≠ 32 /\ c ≠ 10 /\ c ≠ 59 /\ c ≠ 61 := by
 refine ⟨?_, ?_, ?_, ?_⟩ <;> (rintro rfl; revert h; decide)
theorem num_bytes (n : Int) : ∀ c ∈ num n, c ≠ 32 /\ c ≠ 10 /\ c ≠ 59 /\ c ≠ 61 := by
 intro c hc;unfold num at hc;split at hc
 ·rcases List.mem_cons.1 hc with rfl | hc
  ·decide
  ·exact digit_no (I.dig_digits _ c hc)
 ·exact digit_no (I.dig_digits _ c hc)
theorem num_ne (n : Int) : num n ≠ [] := by
 unfold num;split
 ·simp
 ·exact I.dig_ne _
theorem num_wd (n : Int) : Wd (num n) := ⟨num_ne n, fun c hc => (num_bytes n c hc).1⟩
theorem dig_lt (v : Nat) (h : v < 10) : I.dig v = [UInt8.ofNat (48 + v)] := by unfold I.dig; rw [dif_pos h]
theorem dig_ge (v : Nat) (h : ¬ v < 10) : I.dig v = I.dig (v / 10) ++ [UInt8.ofNat (48 + v % 10)] := by
 conv => lhs; unfold I.dig
 rw [dif_neg h]
theorem atoi_dig (v : Nat) : Lib.decNat (I.dig v) = some v := by
 have key : ∀ v, Lib.decFrom 0 (I.dig v) = some v := by
  intro v;induction v using Nat.strongRecOn with
  | _ v ih =>
   have app : ∀ (l : Bs) (acc n : Nat) (d : UInt8) (x : Nat), Lib.decFrom acc l = some n -> Lib.digitVal d = some x -> Lib.decFrom acc (l ++ [d]) = some (n * 10 + x) := by
    intro l;induction l with
    | nil => intro acc n d x h hx; simp only [Lib.decFrom, Option.some.injEq] at h; subst h; simp [Lib.decFrom, hx]
    | cons c r ih2 =>
     intro acc n d x h hx;simp only [List.cons_append, Lib.decFrom] at h ⊢;split at h
     ·rename_i y hy; exact ih2 _ _ _ _ h hx
     ·cases h
   have dv : ∀ x, x < 10 -> Lib.digitVal (UInt8.ofNat (48 + x)) = some x := by
    intro x hx;unfold Lib.digitVal;rw [UInt8.toNat_ofNat', Nat.mod_eq_of_lt (by omega), if_pos (by omega)];congr 1; omega
   by_cases h : v < 10
   ·rw [dig_lt v h]
    have := app [] 0 0 _ v rfl (dv v h);simpa using this
   ·rw [dig_ge v h]
    have := app (I.dig (v / 10)) 0 (v / 10) _ (v % 10) (ih (v / 10) (by omega)) (dv _ (by omega));rw [this];congr 1; omega
 unfold Lib.decNat;rw [if_neg (by have := I.dig_ne v; simp [this]), key v]
theorem num_length (n : Int) (h : -1099511627776 <= n /\ n <= 1099511627776) : (num n).length <= 14 := by
 have := I.dig_length n.natAbs (by omega);unfold num;split
 ·rw [List.length_cons]; omega
 ·omega
theorem atoi_num (n : Int) : Lib.atoi (num n) = some n := by
 unfold num;split
 ·simp only [Lib.atoi, atoi_dig]
  simp;omega
 ·obtain ⟨c, r, h, hd⟩ := I.dig_head n.natAbs
  have h1 := atoi_dig n.natAbs;rw [h] at h1 ⊢;have e1 : (c == 45) = false := by rw [beq_eq_false_iff_ne]; rintro rfl; cases hd
  have e2 : (c == 43) = false := by rw [beq_eq_false_iff_ne]; rintro rfl; cases hd
  simp only [Lib.atoi, e1, e2, h1];simp;omega
theorem numOf_num (n least : Int) (h : -1099511627776 <= n /\ n <= 1099511627776) (hl : least <= n) : numOf (num n) least = (n, 0) := by
 unfold numOf;rw [Lib.atoiAll_short _ (by have := num_length n h; omega), atoi_num];show (if num n = num n /\ least <= n /\ n <= 1099511627776 then (n, (0 : Int)) else (0, 6)) = _
 rw [if_pos ⟨rfl, hl, h.2⟩]
theorem findN_at (l : List Bs) (k : Nat) (s : Bs) (h : l[k]? = some s) (hn : I.isName s = true) (hd : l.Nodup) : findN l s = ((k : Int), 0) := by
 unfold findN;rw [if_neg (by rw [hn]; decide)];obtain ⟨h1, h2⟩ := List.getElem?_eq_some_iff.1 h;have : l.findIdx? (· == s) = some k := by
  rw [List.findIdx?_eq_some_iff_getElem];refine ⟨h1, by simpa using h2, fun j hj => ?_⟩;have hj1 : j < l.length := Nat.lt_trans hj h1;have hne : l[j] ≠ s := by
   rw [<- h2];exact List.pairwise_iff_getElem.1 hd j k hj1 h1 hj
  simpa using hne
 rw [this]
structure OkP (P : UInt8 -> Prop) (e : Bs) : Prop where
 ne : e ≠ []
 head : e.head? ≠ some 32
 last : e.getLast? ≠ some 32
 all : ∀ c ∈ e, P c
abbrev Ok1 := OkP fun c => c ≠ 10 /\ c ≠ 59
abbrev OkL := OkP fun c => c ≠ 10
theorem OkP.l {e : Bs} (h : Ok1 e) : OkL e := ⟨h.ne, h.head, h.last, fun c hc => (h.all c hc).1⟩
theorem last_app {a b : Bs} (h : b ≠ []) : (a ++ b).getLast? = b.getLast? := by
 rw [List.getLast?_append];cases hb : b.getLast? with
 | none => exact absurd (List.getLast?_eq_none_iff.1 hb) h
 | some c => rfl
theorem OkP.mid {P : UInt8 -> Prop} {a m b : Bs} (ha : OkP P a) (hm : ∀ c ∈ m, P c) (hb : OkP P b) : OkP P (a ++ (m ++ b)) where
 ne := fun e => ha.ne (List.append_eq_nil_iff.1 e).1
 head := by rw [head_app ha.ne]; exact ha.head
 last := by rw [<- List.append_assoc, last_app hb.ne]; exact hb.last
 all := by
  intro c hc;rcases List.mem_append.1 hc with h | h
  ·exact ha.all c h
  ·rcases List.mem_append.1 h with h | h
   ·exact hm c h
   ·exact hb.all c h
theorem OkP.of_wd {P : UInt8 -> Prop} {w : Bs} (h : Wd w) (g : ∀ c ∈ w, P c) : OkP P w := ⟨h.1, h.head, h.last, g⟩
theorem ok_name {s : Bs} (h : I.isName s = true) : Ok1 s := OkP.of_wd (name_wd h) fun c hc => ⟨(idc_no ((name_idc h).2 c hc)).2.1, (idc_no ((name_idc h).2 c hc)).2.2.1⟩
theorem ok_dig (n : Nat) : Ok1 (I.dig n) := OkP.of_wd ⟨I.dig_ne n, fun c hc => (digit_no (I.dig_digits n c hc)).1⟩ fun c hc => ⟨(digit_no (I.dig_digits n c hc)).2.1, (digit_no (I.dig_digits n c hc)).2.2.1⟩
theorem ok_one (c : UInt8) (h : c ≠ 32 /\ c ≠ 10 /\ c ≠ 59) : Ok1 [c] := ⟨by simp, by simpa using h.1, by simpa using h.1, by intro x hx; simp at hx; subst hx; exact h.2⟩
theorem all_app {a b : Bs} (ha : ∀ c ∈ a, c ≠ 10 /\ c ≠ 59) (hb : ∀ c ∈ b, c ≠ 10 /\ c ≠ 59) : ∀ c ∈ a ++ b, c ≠ 10 /\ c ≠ 59 := fun c hc => (List.mem_append.1 hc).elim (ha c) (hb c)
theorem ok_wrap (r least : Nat) (p : List Bs) (h : Ok1 p.flatten) : Ok1 (I.wrap r least p).flatten := by
 unfold I.wrap;split
 ·have := OkP.mid (ok_one 40 (by decide)) h.all (ok_one 41 (by decide))
  simpa using this
 ·exact h
theorem ok_sign (o : Int) : ∀ c ∈ ([32] ++ I.sign o ++ [32] : Bs), c ≠ 10 /\ c ≠ 59 := by
 have : ∀ c ∈ I.sign o, c ≠ 10 /\ c ≠ 59 := by
  unfold I.sign;repeat' split
  all_goals decide
 exact all_app (all_app (by decide) this) (by decide)
theorem ok_text (vs : List Bs) (e : I.Ex) (h : I.Nm vs e) : Ok1 (I.text vs e) := by
 unfold I.text;induction e with
 | con n =>
  unfold I.pieces;split
  ·have := OkP.mid (ok_one 45 (by decide)) (m := []) (by simp) (ok_dig n.natAbs)
   simpa using this
  ·simpa using ok_dig n.natAbs
 | var k => simpa [I.pieces] using ok_name h
 | arg k =>
  have := OkP.mid (ok_one 36 (by decide)) (m := []) (by simp) (ok_dig k);simpa [I.pieces] using this
 | un o a ih =>
  have ih := ih h;unfold I.pieces;split
  ·split
   ·have := OkP.mid (ok_one 45 (by decide)) (m := [40] ++ (I.pieces vs a).flatten) (all_app (by decide) ih.all) (ok_one 41 (by decide))
    simpa using this
   ·have := OkP.mid (ok_one 45 (by decide)) (m := []) (by simp) (ok_wrap (I.rank a) 6 _ ih)
    simpa using this
  ·have := OkP.mid (ok_one 33 (by decide)) (m := []) (by simp) (ok_wrap (I.rank a) 6 _ ih)
   simpa using this
 | ite a b c iha ihb ihc =>
  have iha := iha h.1;have ihb := ihb h.2.1;have ihc := ihc h.2.2;have := OkP.mid (a := I.wif) (OkP.of_wd ⟨by decide, by decide⟩ (by decide)) (m := [40] ++ (I.pieces vs a).flatten ++ [44, 32] ++ (I.pieces vs b).flatten ++ [44, 32] ++ (I.pieces vs c).flatten)
   (all_app (all_app (all_app (all_app (all_app (by decide) iha.all) (by decide)) ihb.all) (by decide)) ihc.all) (ok_one 41 (by decide))
  simpa [I.pieces] using this
 | bin o a b iha ihb =>
  have iha := iha h.1;have ihb := ihb h.2;unfold I.pieces;split
  ·have hw : Ok1 (if o = 9 then I.wmin else I.wmax) := by split <;> exact OkP.of_wd ⟨by decide, by decide⟩ (by decide)
   have := OkP.mid hw (m := [40] ++ (I.pieces vs a).flatten ++ [44, 32] ++ (I.pieces vs b).flatten) (all_app (all_app (all_app (by decide) iha.all) (by decide)) ihb.all) (ok_one 41 (by decide));simpa using this
  ·have := OkP.mid (ok_wrap (I.rank a) (if I.rank (.bin o a b) = 3 then 4 else I.rank (.bin o a b)) _ iha) (ok_sign o) (ok_wrap (I.rank b) (I.rank (.bin o a b) + 1) _ ihb)
   simpa using this
end Go.Proofs.YtjcajeehgjpmmaaGreatDoor.T
