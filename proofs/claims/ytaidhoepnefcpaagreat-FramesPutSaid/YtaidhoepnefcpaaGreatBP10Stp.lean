/-
  Layer 10, plainly: what a reader that goes on until something is wrong does, step by step; and that it reads what is read field by field.
-/
import Derived.Test.YtaidhoepnefcpaaGreatBP10RefB
namespace Go.Proofs.YtaidhoepnefcpaaGreat.C10
open Go Go.RowKit Go.Proofs B K P8
set_option linter.unusedVariables false
abbrev Stp (X : Type) := List UInt8 -> Int -> Int -> X × Int × Int
def sOne {X : Type} (z : X) (f : List UInt8 -> Int -> X × Int × Int) : Stp X := fun s p er => if er = 0 then f s p else (z, p, er)
def sNum : Stp Int := sOne 0 V.rdAt
def sTxt : Stp (List UInt8) := sOne [] V.txt
def sThen {X Y : Type} (f : Stp X) (g : X -> Stp Y) : Stp Y := fun s p er => g (f s p er).1 s (f s p er).2.1 (f s p er).2.2
def sEnd {X : Type} (x : X) : Stp X := fun _ p er => (x, p, er)
def sOk {X : Type} (ok : X -> Bool) (x : X) : Stp X := fun _ p er => (x, p, if er = 0 /\ ok x = false then 6 else er)
def sGo {X : Type} (item : Stp X) : Nat -> List X -> Stp (List X)
 | 0, acc => sEnd acc
 | n + 1, acc => sThen item fun x => sGo item n (acc ++ [x])
def sItems {X : Type} (item : Stp X) (most : Nat) (n : Int) : Stp (List X) := fun s p er =>
 if er ≠ 0 then ([], p, er) else if n < 0 \/ (most : Int) < n then ([], p, 6) else sGo item n.toNat [] s p 0
def sList {X : Type} (item : Stp X) (most : Nat) : Stp (List X) := sThen sNum (sItems item most)
def sEv : Stp Ev := sThen sNum fun a => sThen (sList sNum 6) fun v => sEnd ⟨a, v⟩
def sIt : Stp It := sThen sTxt fun t => sThen sNum fun a => sThen sNum fun b => sThen (sList sNum 6) fun v => sEnd ⟨t, ⟨a, b, v⟩⟩
def sVd : Stp Vd := sThen sNum fun a => sThen sNum fun b => sEnd ⟨a, b⟩
def sCmd : Stp Cm := sThen sNum fun a => sThen sNum fun b => sThen sTxt fun t => sThen sNum fun r => sThen (sList sNum 4) fun v => sThen sNum fun e => sEnd ⟨a, b, t, r, v, e⟩
def sEvs : Stp (List Ev) := sList sEv 3
def sIts : Stp (List It) := sList sIt 64
def sVds : Stp (List Vd) := sList sVd 32
def sFilt : Stp (List (List UInt8)) := sList sTxt 8
structure Sim {X : Type} (P : X -> Prop) (st : Stp X) (rd : Rd X) : Prop where
 got : ∀ s p x q, rd s p = some (x, q) -> P x -> st s p 0 = (x, q, 0)
 bad : ∀ s p, (∀ x q, rd s p = some (x, q) -> ¬ P x) -> (st s p 0).2.2 ≠ 0
 keep : ∀ s p er, er ≠ 0 -> (st s p er).2.2 ≠ 0
theorem sim_one {X : Type} (z : X) (f : List UInt8 -> Int -> X × Int × Int) : Sim (fun _ => True) (sOne z f) (fun s p => got (f s p)) where
 got := fun s p x q h _ => by
  unfold got at h;split at h
  ·rename_i h0
   simp only [Option.some.injEq, Prod.mk.injEq] at h;unfold sOne;rw [if_pos rfl, <- h.1, <- h.2, <- h0]
  ·cases h
 bad := fun s p h h0 => by
  unfold sOne at h0;rw [if_pos rfl] at h0;exact h (f s p).1 (f s p).2.1 (by unfold got; rw [if_pos h0]) trivial
 keep := fun s p er h => by
  unfold sOne;rw [if_neg h];exact h
theorem yt : Sim (fun _ => True) sNum rNum := sim_one 0 V.rdAt
theorem ZZ : Sim (fun _ => True) sTxt rTxt := sim_one [] V.txt
theorem uZ {X : Type} {P : X -> Prop} {x : X} (h : P x) : Sim P (sEnd x) (rEnd (fun _ => true) x) where
 got := fun s p y q hy hP => by
  unfold rEnd at hy;rw [if_pos rfl] at hy;simp only [Option.some.injEq, Prod.mk.injEq] at hy;rw [<- hy.1, <- hy.2]; rfl
 bad := fun s p hb => absurd h (hb x p (by unfold rEnd; rw [if_pos rfl]))
 keep := fun s p er h => h
theorem jO {X : Type} (ok : X -> Bool) (x : X) : Sim (fun _ => True) (sOk ok x) (rEnd ok x) where
 got := fun s p y q hy _ => by
  unfold rEnd at hy;split at hy
  ·rename_i hk
   simp only [Option.some.injEq, Prod.mk.injEq] at hy;unfold sOk;rw [<- hy.1, <- hy.2, if_neg (by rw [hk]; simp)]
  ·cases hy
 bad := fun s p hb => by
  unfold sOk;cases hk : ok x with
  | true => exact absurd trivial (hb x p (by unfold rEnd; rw [if_pos hk]))
  | false => simp
 keep := fun s p er h => by
  unfold sOk;rw [if_neg (fun e => h e.1)];exact h
theorem yB {X Y : Type} {P : X -> Prop} {Q : Y -> Prop} {f : Stp X} {rf : Rd X} {g : X -> Stp Y} {rg : X -> Rd Y} (hf : Sim P f rf) (hg : ∀ x, P x -> Sim Q (g x) (rg x)) (hk : ∀ x s p er, er ≠ 0 -> (g x s p er).2.2 ≠ 0)
 (hn : ∀ x s p y q, ¬ P x -> rg x s p = some (y, q) -> ¬ Q y) : Sim Q (sThen f g) (rThen rf rg) where
 got := fun s p y q h hQ => by
  unfold rThen at h;cases hr : rf s p with
  | none => rw [hr] at h; cases h
  | some r =>
   obtain ⟨x, p1⟩ := r;rw [hr] at h;have h' : rg x s p1 = some (y, q) := h;by_cases hP : P x
   ·unfold sThen
    rw [hf.got s p x p1 hr hP];exact (hg x hP).got s p1 y q h' hQ
   ·exact absurd hQ (hn x s p1 y q hP h')
 bad := fun s p hb => by
  unfold sThen;cases hr : rf s p with
  | none => exact hk _ _ _ _ (hf.bad s p (by intro x q h; rw [hr] at h; cases h))
  | some r =>
   obtain ⟨x, p1⟩ := r;by_cases hP : P x
   ·rw [hf.got s p x p1 hr hP]
    exact (hg x hP).bad s p1 (fun y q h => hb y q (by unfold rThen; rw [hr]; exact h))
   ·exact hk _ _ _ _ (hf.bad s p (by intro y q h; rw [hr] at h; cases h; exact hP))
 keep := fun s p er h => hk _ _ _ _ (hf.keep s p er h)
theorem uH {X Y : Type} {f : Stp X} {g : X -> Stp Y} (hf : ∀ s p er, er ≠ 0 -> (f s p er).2.2 ≠ 0) (hk : ∀ x s p er, er ≠ 0 -> (g x s p er).2.2 ≠ 0) : ∀ s p er, er ≠ 0 -> (sThen f g s p er).2.2 ≠ 0 := fun s p er h => hk _ _ _ _ (hf s p er h)
theorem Zm {X : Type} {f : Stp X} (hf : ∀ s p er, er ≠ 0 -> (f s p er).2.2 ≠ 0) : ∀ (n : Nat) (acc : List X) s p er, er ≠ 0 -> (sGo f n acc s p er).2.2 ≠ 0
 | 0, _, _, _, _, h => h
 | n + 1, acc, s, p, er, h => uH hf (fun x => Zm hf n (acc ++ [x])) s p er h
def rBehind {X : Type} (acc : List X) (f : Rd X) (n : Nat) : Rd (List X) := fun s p => (rMany f n s p).map fun r => (acc ++ r.1, r.2)
theorem jL {X : Type} (acc : List X) (f : Rd X) : rBehind acc f 0 = rEnd (fun _ => true) acc := by
 funext s p
 unfold rBehind rMany rEnd;simp
theorem jK {X : Type} (acc : List X) (f : Rd X) (n : Nat) : rBehind acc f (n + 1) = rThen f fun x => rBehind (acc ++ [x]) f n := by
 funext s p
 unfold rBehind;rw [show rMany f (n + 1) = rThen f fun x => rThen (rMany f n) fun l => fun _ p => some (x :: l, p) from rfl];unfold rThen;cases hf : f s p with
 | none => simp
 | some r =>
  obtain ⟨x, p1⟩ := r;simp only [Option.bind_some];cases hm : rMany f n s p1 with
  | none => simp
  | some r => simp
theorem sim_go {X : Type} {P : X -> Prop} {f : Stp X} {rf : Rd X} (hf : Sim P f rf) : ∀ (n : Nat) (acc : List X), (∀ x ∈ acc, P x) -> Sim (fun l => ∀ x ∈ l, P x) (sGo f n acc) (rBehind acc rf n)
 | 0, acc, h => by
  rw [jL];exact uZ h
 | n + 1, acc, h => by
  rw [jK];refine yB hf (fun x hx => sim_go hf n (acc ++ [x]) (fun y hy => ?_)) (fun x => Zm hf.keep n _) (fun x s p y q hx hy hall => ?_)
  ·rcases List.mem_append.1 hy with hy | hy
   ·exact h y hy
   ·rw [List.mem_singleton.1 hy]; exact hx
  ·unfold rBehind at hy
   cases hm : rMany rf n s p with
   | none => rw [hm] at hy; cases hy
   | some r =>
    rw [hm] at hy;simp only [Option.map_some, Option.some.injEq, Prod.mk.injEq] at hy;exact hx (hall x (by rw [<- hy.1]; simp))
theorem jW {X : Type} {P : X -> Prop} {f : Stp X} {rf : Rd X} (hf : Sim P f rf) (most : Nat) : Sim (fun l => ∀ x ∈ l, P x) (sList f most) (rList rf most) := by
 unfold sList rList;refine yB yt (fun n _ => ?_) (fun n s p er h => by unfold sItems; rw [if_pos h]; exact h) (fun n s p y q hn => absurd trivial hn)
 ·by_cases hn : n < 0 \/ (most : Int) < n
  ·rw [if_pos hn]
   refine ⟨fun s p x q h _ => ?_, fun s p _ => ?_, fun s p er h => ?_⟩
   ·cases h
   ·unfold sItems; rw [if_neg (by simp), if_pos hn]; simp
   ·unfold sItems; rw [if_pos h]; exact h
  ·rw [if_neg hn]
   have h := sim_go hf n.toNat [] (by simp);have e : rBehind [] rf n.toNat = rMany rf n.toNat := by funext s p; unfold rBehind; cases rMany rf n.toNat s p <;> simp
   rw [e] at h;exact ⟨fun s p x q hr hP => by unfold sItems; rw [if_neg (by simp), if_neg hn]; exact h.got s p x q hr hP, fun s p hb => by unfold sItems; rw [if_neg (by simp), if_neg hn]; exact h.bad s p hb, fun s p er h => by unfold sItems; rw [if_pos h]; exact h⟩
theorem sItems_keep {X : Type} (f : Stp X) (most : Nat) (n : Int) : ∀ s p er, er ≠ 0 -> (sItems f most n s p er).2.2 ≠ 0 := fun s p er h => by unfold sItems; rw [if_pos h]; exact h
theorem sList_keep {X : Type} (f : Stp X) (most : Nat) : ∀ s p er, er ≠ 0 -> (sList f most s p er).2.2 ≠ 0 := uH yt.keep (sItems_keep f most)
theorem Zq (s : List UInt8) : ∀ (n : Nat) (acc : List Int) (p : Int), (∀ xs q, V.items (V.rdAt s) n p = (xs, q, 0) -> sGo sNum n acc s p 0 = (acc ++ xs, q, 0)) /\ ((V.items (V.rdAt s) n p).2.2 ≠ 0 -> (sGo sNum n acc s p 0).2.2 ≠ 0)
 | 0, acc, p => ⟨fun xs q h => by
  unfold V.items at h;simp only [Prod.mk.injEq] at h;rw [<- h.1, <- h.2.1]; simp [sGo, sEnd], fun h => (h rfl).elim⟩
 | n + 1, acc, p => by
  obtain ⟨x, p1, e, hx⟩ : ∃ x p1 e, V.rdAt s p = (x, p1, e) := ⟨_, _, _, rfl⟩;have hs : sGo sNum (n + 1) acc s p 0 = sGo sNum n (acc ++ [x]) s p1 e := by
   show sThen sNum _ s p 0 = _
   unfold sThen sNum sOne;rw [if_pos rfl, hx]
  rw [hs];unfold V.items;rw [hx];by_cases he : e = 0
  ·subst he
   have ih := Zq s n (acc ++ [x]) p1;simp only [ne_eq, not_true, if_false];obtain ⟨xs, q, e2, h2⟩ : ∃ xs q e2, V.items (V.rdAt s) n p1 = (xs, q, e2) := ⟨_, _, _, rfl⟩;rw [h2] at ih ⊢;unfold V.app;by_cases he2 : e2 = 0
   ·subst he2
    simp only [ne_eq, not_true, if_false];refine ⟨fun ys q' h => ?_, fun h => h.elim⟩;simp only [Prod.mk.injEq, and_true] at h;rw [<- h.1, <- h.2, ih.1 xs q rfl];simp
   ·simp only [ne_eq, he2, not_false_eq_true, if_true]
    exact ⟨fun ys q' h => (he2 (congrArg (fun r => r.2.2) h)).elim, fun _ => ih.2 he2⟩
  ·simp only [ne_eq, he, not_false_eq_true, if_true]
   exact ⟨fun ys q' h => (he (congrArg (fun r => r.2.2) h)).elim, fun _ => Zm yt.keep n _ s p1 e he⟩
theorem ji (s : List UInt8) : ∀ (n : Nat) (p : Int) xs q, V.items (V.rdAt s) n p = (xs, q, 0) -> xs.length = n
 | 0, p, xs, q, h => by
  unfold V.items at h;simp only [Prod.mk.injEq] at h;rw [<- h.1]; rfl
 | n + 1, p, xs, q, h => by
  unfold V.items at h;split at h
  ·rename_i hne
   simp only [Prod.mk.injEq] at h;exact absurd h.2.2 hne
  ·obtain ⟨ys, q2, e2, h2⟩ : ∃ ys q2 e2, V.items (V.rdAt s) n (V.rdAt s p).2.1 = (ys, q2, e2) := ⟨_, _, _, rfl⟩
   rw [h2] at h;unfold V.app at h;by_cases he : e2 = 0
   ·subst he
    simp only [ne_eq, not_true, if_false, Prod.mk.injEq] at h;rw [<- h.1, List.length_append, ji s n _ ys q2 h2];simp [Nat.add_comm]
   ·rw [if_pos he] at h
    exact (he (congrArg (fun r => r.2.2) h)).elim
theorem Zr (most : Nat) (hm : most <= 256) : Sim (fun l => l.length <= most) (sList sNum most) rNums where
 keep := sList_keep sNum most
 got := fun s p x q h hP => by
  unfold rNums got V.nums V.listOf at h;obtain ⟨n, p1, e, hc⟩ : ∃ n p1 e, V.count s p 256 = (n, p1, e) := ⟨_, _, _, rfl⟩;rw [hc] at h;by_cases he : e = 0
  ·subst he
   obtain ⟨c1, c2, c3, c4, c5, c6⟩ := V.qx _ _ _ hc;simp only [ne_eq, not_true, if_false] at h;obtain ⟨xs, q2, e2, h2⟩ : ∃ xs q2 e2, V.items (V.rdAt s) n.toNat p1 = (xs, q2, e2) := ⟨_, _, _, rfl⟩;rw [h2] at h;split at h
   ·rename_i he2
    simp only [Option.some.injEq, Prod.mk.injEq] at h;obtain ⟨rfl, rfl⟩ := h;dsimp only at he2;rw [he2] at h2;have hl := ji s _ _ _ _ h2;unfold sList sThen sNum sOne;rw [if_pos rfl, c6];unfold sItems;rw [if_neg (by simp), if_neg (by omega)];have := (Zq s n.toNat [] p1).1 xs q2 h2;rw [List.nil_append] at this;exact this
   ·cases h
  ·rw [if_pos he] at h
   dsimp only at h;rw [if_neg he] at h;cases h
 bad := fun s p hb h0 => by
  have hsn : sNum s p 0 = V.rdAt s p := by unfold sNum sOne; rw [if_pos rfl]
  unfold sList sThen at h0;rw [hsn] at h0;obtain ⟨n, p1, e, hr⟩ : ∃ n p1 e, V.rdAt s p = (n, p1, e) := ⟨_, _, _, rfl⟩;rw [hr] at h0;dsimp only at h0;unfold sItems at h0;by_cases he : e = 0
  ·subst he
   rw [if_neg (by simp)] at h0;by_cases hn : n < 0 \/ (most : Int) < n
   ·rw [if_pos hn] at h0
    exact absurd h0 (by simp)
   ·rw [if_neg hn] at h0
    have hcnt : V.count s p 256 = (n, p1, 0) := by
     unfold V.count V.countOf;rw [hr];simp only [ne_eq, not_true, if_false];rw [if_neg (by omega), if_neg (by omega)]
    obtain ⟨xs, q2, e2, h2⟩ : ∃ xs q2 e2, V.items (V.rdAt s) n.toNat p1 = (xs, q2, e2) := ⟨_, _, _, rfl⟩;have hg := Zq s n.toNat [] p1;rw [h2] at hg;by_cases he2 : e2 = 0
    ·subst he2
     refine hb xs q2 ?_ (by rw [ji s _ _ _ _ h2]; omega);unfold rNums got V.nums V.listOf;rw [hcnt];simp only [ne_eq, not_true, if_false];rw [h2];simp
    ·exact hg.2 he2 h0
  ·rw [if_pos he] at h0
   exact he h0
theorem yh {X Y : Type} {Q : Y -> Prop} {f : Stp X} {rf : Rd X} {g : X -> Stp Y} {rg : X -> Rd Y} (hf : Sim (fun _ => True) f rf) (hg : ∀ x, Sim Q (g x) (rg x)) : Sim Q (sThen f g) (rThen rf rg) :=
 yB hf (fun x _ => hg x) (fun x => (hg x).keep) (fun x s p y q h => absurd trivial h)
theorem end_keep {X : Type} (x : X) : ∀ (s : List UInt8) (p er : Int), er ≠ 0 -> (sEnd x s p er).2.2 ≠ 0 := fun _ _ _ h => h
theorem jN {X : Type} (ok : X -> Bool) (x : X) : ∀ (s : List UInt8) (p er : Int), er ≠ 0 -> (sOk ok x s p er).2.2 ≠ 0 := (jO ok x).keep
theorem sim_ev : Sim (fun e => e.vars.length <= 6) sEv rEv :=
 yh yt fun a => yB (Zr 6 (by decide)) (fun v hv => uZ hv) (fun v => end_keep _) (fun v s p y q hv h => by rw [(zC h).2.1]; exact hv)
theorem sim_it : Sim (fun x => x.st.vars.length <= 6) sIt rIt :=
 yh ZZ fun t => yh yt fun a => yh yt fun b => yB (Zr 6 (by decide)) (fun v hv => uZ hv) (fun v => end_keep _) (fun v s p y q hv h => by rw [(zC h).2.1]; exact hv)
theorem sim_vd : Sim (fun _ => True) sVd rVd :=
 yh yt fun a => yh yt fun b => uZ trivial
theorem ZW : Sim (fun _ => True) (sThen sCmd (sOk cmdP)) rdCmd := by
 unfold rdCmd;show Sim _ (sThen sNum fun a => sThen sNum fun b => sThen sTxt fun t => sThen sNum fun r => sThen (sList sNum 4) fun v => sThen sNum fun e => sOk cmdP ⟨a, b, t, r, v, e⟩) _
 refine yh yt fun a => yh yt fun b => yh ZZ fun t => yh yt fun r => yB (Zr 4 (by decide)) (fun v _ => yh yt fun e => jO _ _) (fun v => uH yt.keep fun e => jN _ _) (fun v s p y q hv h => ?_)
 obtain ⟨e, p1, _, h2⟩ := zh h;have hk := (zC h2).1;unfold cmdP at hk;simp only [Bool.and_eq_true] at hk;exact absurd (zZ hk.2.2.1).2 hv
theorem uj (l : List It) : ∀ (k : Nat) (r : List It), itemsGo l k r = true -> ∀ x ∈ r, streamP x.stream = true /\ stP x.st = true
 | _, [], _ => fun x hx => by cases hx
 | k, y :: r, h => fun x hx => by
  unfold itemsGo at h;rw [Bool.and_eq_true] at h;rcases List.mem_cons.1 hx with rfl | hx
  ·have h1 := h.1
   unfold itP at h1;simp only [Bool.and_eq_true] at h1;exact ⟨h1.1, h1.2.1⟩
  ·exact uj l (k + 1) r h.2 x hx
theorem uL : Sim (fun _ => True) (sThen sIts (sOk itemsP)) rdItems := by
 unfold rdItems;refine yB (jW sim_it 64) (fun l _ => jO _ _) (fun l => jN _ _) (fun l s p y q hl h => ?_);have hk := (zC h).1;unfold itemsP at hk;rw [Bool.and_eq_true] at hk;refine absurd (fun x hx => ?_) hl;have he := (uj l 0 l hk.1 x hx).2;unfold stP at he;simp only [Bool.and_eq_true] at he;exact (zZ he.2.2).2
theorem Z0 : Sim (fun _ => True) (sThen sVds (sOk vdsP)) rdVds := by
 unfold rdVds;refine yB (jW sim_vd 32) (fun l _ => jO _ _) (fun l => jN _ _) (fun l s p y q hl h => ?_);exact absurd (fun x hx => trivial) hl
theorem Zl : Sim (fun _ => True) (sThen sFilt (sOk filtP)) rdFilt := by
 unfold rdFilt;refine yB (jW ZZ 8) (fun l _ => jO _ _) (fun l => jN _ _) (fun l s p y q hl h => ?_);exact absurd (fun x hx => trivial) hl
end Go.Proofs.YtaidhoepnefcpaaGreat.C10
