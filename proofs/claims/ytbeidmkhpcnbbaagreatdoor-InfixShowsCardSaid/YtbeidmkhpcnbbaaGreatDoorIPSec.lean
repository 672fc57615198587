/-
  Contracts of the program's reader of layer 4: an operand more.
-/
import Derived.Test.YtbeidmkhpcnbbaaGreatDoorIPAmong
import Derived.BigCall
import Derived.BigGuard
namespace Go.Proofs.YtbeidmkhpcnbbaaGreatDoor.I
open Go Go.RowKit Go.Proofs.YtbeidmkhpcnbbaaGreatDoor.B Go.Proofs.YtbeidmkhpcnbbaaGreatDoor.K Go.Proofs.YtbeidmkhpcnbbaaGreatDoor.E
set_option linter.unusedVariables false

theorem lx_cons {p : Nat} {u : Bs} {ts : List Tk} (h : Lx p u ts) : ∃ a b, ts = a :: b := by
  induction h with
  | nil => exact ⟨_, _, rfl⟩
  | blank _ _ _ _ ih => exact ih
  | word => exact ⟨_, _, rfl⟩

/-- What reading comes to. -/
def Out (f : Nat → Option Obj) (W0 : World) (B : Nat) (t : Bs) (v1 : Value) (na : Int) (c0 : List In) (x : Rs) (z : Ending) (w' : World) : Prop := match x with
  | .ok c r => z = .returned (.bool true) ∧ ∃ p s r', r = (p, s) :: r' ∧ At t p s r' ∧ Rd f W0 B t v1 na p (cutw s) (c0 ++ c) 0 w'
  | .err p e => z = .returned (.bool false) ∧ ∃ s c, Rd f W0 B t v1 na p s c e w'

theorem out_ok {f : Nat → Option Obj} {W0 : World} {B : Nat} {t : Bs} {v1 : Value} {na : Int} {c0 c : List In} {r : List Tk} {w' : World} {p : Nat} {s : Bs} {r' : List Tk} (h1 : r = (p, s) :: r') (h2 : At t p s r') (h3 : Rd f W0 B t v1 na p (cutw s) (c0 ++ c) 0 w') :
    Out f W0 B t v1 na c0 (.ok c r) (.returned (.bool true)) w' := ⟨rfl, p, s, r', h1, h2, h3⟩
theorem out_err {f : Nat → Option Obj} {W0 : World} {B : Nat} {t : Bs} {v1 : Value} {na : Int} {c0 c : List In} {w' : World} {p : Nat} {s : Bs} {e : Int} (h3 : Rd f W0 B t v1 na p s c e w') :
    Out f W0 B t v1 na c0 (.err p e) (.returned (.bool false)) w' := ⟨rfl, s, c, h3⟩

/-- Function N reads, where those words stand, what x says. -/
def Opd (W0 : World) (B : Nat) (t : Bs) (v1 : Value) (na : Int) (N : Nat) (ts : List Tk) (x : Rs) : Prop :=
  ∀ (f : Nat → Option Obj) (c0 : List In) (w : World) (p : Nat) (s : Bs) (r : List Tk), ts = (p, s) :: r → At t p s r → Rd f W0 B t v1 na p (cutw s) c0 0 w → c0.length + ts.length ≤ 1000000 →
    Calls Tryz.prog N #[.pointer (some ⟨B, 0, none⟩)] w fun z w' => Out f W0 B t v1 na c0 x z w'

/-- An instruction more, if it went well. -/
def Rs.snoc (x : Rs) (i : In) : Rs := match x with | .ok c r => .ok (c ++ [i]) r | .err p e => .err p e

/-- Function N is entered as it is called. -/
def Ent (N : Nat) : Prop := ∀ args w, (callFunc N args).run Tryz.prog w = .ok (.enter N args) w

section
variable {f : Nat → Option Obj} {W0 : World} {B p : Nat} {t s : Bs} {v1 : Value} {na : Int} {c0 : List In} {r : List Tk}

set_option maxHeartbeats 1000000 in
set_option maxRecDepth 100000 in
theorem second_any (N : Nat) (hN : Ent N) (x : Rs) (hop : Opd W0 B t v1 na N r x) (w : World) (o : Int) (hg : Glob W0) (h : Rd f W0 B t v1 na p s c0 0 w) (hat : At t p s r) (hs : s ≠ []) (htl : t.length ≤ 2048)
    (hb : c0.length + r.length ≤ 1000000) (hx : ∀ d t', x = .ok d t' → d.length ≤ 1000000) :
    Calls Tryz.prog 50 #[.pointer (some ⟨B, 0, none⟩), .func (.func N) #[.pointer (some ⟨B, 0, none⟩)] #[], .int .i64 o] w fun z w' => Out f W0 B t v1 na c0 (x.snoc (o, 0)) z w' := by
  obtain ⟨h1, h2⟩ := hat.next hs
  obtain ⟨⟨p', s'⟩, r', hr⟩ := lx_cons h2
  have HA := Lib.hid (advance_any w hg h h1 (hr ▸ h2) htl)
  have HO := Lib.hid (fun W h3 h4 => hop f c0 W p' s' r' hr h3 h4 hb)
  have HX := Lib.hid hx
  have HB := Lib.hid hb
  have hN' : ∀ args w, (callFunc N args).run Tryz.prog w = .ok (.enter N args) w := hN
  clear hop h1 h2 h hat hx hN hs hg htl hb
  cases x with
  | err p1 e1 =>
    go_enter Tryz.func50, Tryz.ntmps50
    go_wp2_with (go_at_call 15; refine HA.out.mono ?_; rintro _ w1 ⟨rfl, hr1, ha1⟩; have HR1 := Lib.hid hr1; have HA1 := Lib.hid ha1; clear hr1 ha1)
    refine (HO.out _ HA1.out HR1.out).mono ?_
    rintro z w2 ⟨rfl, s2, c2, hr2⟩
    have HR2 := Lib.hid hr2
    clear hr2 HO HX
    go_wp2_with fail
    go_ret
    exact out_err HR2.out
  | ok d t' =>
    go_enter Tryz.func50, Tryz.ntmps50
    go_wp2_with (go_at_call 15; refine HA.out.mono ?_; rintro _ w1 ⟨rfl, hr1, ha1⟩; have HR1 := Lib.hid hr1; have HA1 := Lib.hid ha1; clear hr1 ha1)
    refine (HO.out _ HA1.out HR1.out).mono ?_
    rintro z w2 ⟨rfl, p2, s2, r2, ht2, ha2, hr2⟩
    have HP := Lib.hid (put_any w2 o 0 hr2 (by rw [List.length_append]; have := HX.out d t' rfl; have := HB.out; omega))
    have HA2 := Lib.hid (show t' = (p2, s2) :: r2 ∧ At t p2 s2 r2 from ⟨ht2, ha2⟩)
    clear hr2 ht2 ha2 HO HX
    go_wp2_with (go_at_call 58; refine HP.out.mono ?_; rintro _ w3 ⟨rfl, hr3⟩; have HR3 := Lib.hid hr3; clear hr3)
    go_ret
    exact out_ok HA2.out.1 HA2.out.2 (by rw [← List.append_assoc]; exact HR3.out)
end
end Go.Proofs.YtbeidmkhpcnbbaaGreatDoor.I
