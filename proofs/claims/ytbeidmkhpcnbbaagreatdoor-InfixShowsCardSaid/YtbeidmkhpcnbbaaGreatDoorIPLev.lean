/-
  Contracts of the program's reader of layer 4: the levels.
-/
import Derived.Test.YtbeidmkhpcnbbaaGreatDoorIPMany
namespace Go.Proofs.YtbeidmkhpcnbbaaGreatDoor.I
open Go Go.RowKit Go.Proofs.YtbeidmkhpcnbbaaGreatDoor.B Go.Proofs.YtbeidmkhpcnbbaaGreatDoor.K Go.Proofs.YtbeidmkhpcnbbaaGreatDoor.E
set_option linter.unusedVariables false

theorem Out.drop {f : Nat → Option Obj} {W0 : World} {B : Nat} {t : Bs} {v1 : Value} {na : Int} {c0 : List In} {x : Rs} {z : Ending} {w' : World} {k : Nat} {o : Obj} (h : Out (fun i => if i = k then some o else f i) W0 B t v1 na c0 x z w') (hf : f k = none) : Out f W0 B t v1 na c0 x z w' := by
  cases x with
  | err p e => obtain ⟨h1, s, c, h2⟩ := h; exact ⟨h1, s, c, h2.drop hf⟩
  | ok c r => obtain ⟨h1, p, s, r', h2, h3, h4⟩ := h; exact ⟨h1, p, s, r', h2, h3, h4.drop hf⟩

theorem Out.ret {f : Nat → Option Obj} {W0 : World} {B : Nat} {t : Bs} {v1 : Value} {na : Int} {c0 : List In} {x : Rs} {z : Ending} {w' : World} (h : Out f W0 B t v1 na c0 x z w') : ∃ b : Bool, z = .returned (.bool b) ∧ Out f W0 B t v1 na c0 x (.returned (.bool b)) w' := by
  cases x with
  | err p e => exact ⟨false, h.1, rfl, h.2⟩
  | ok c r => exact ⟨true, h.1, rfl, h.2⟩

theorem ent_all : Ent 36 := fun args w => enters_of Tryz.func36 (by kernel_rfl) rfl args w

set_option maxHeartbeats 1000000 in
set_option maxRecDepth 100000 in
theorem lv1_any {W0 : World} {B : Nat} {t : Bs} {v1 : Value} {na : Int} (hg : Glob W0) (htl : t.length ≤ 2048) (ts : List Tk) (x : Rs) (hx : Lv (Opd W0 B t v1 na 36) 1 ts x) : Opd W0 B t v1 na 16 ts x := by
  intro f c0 w p s r hts hat h hb
  have hm := many_any 36 ent_all 1 w.heap.size 3 (by decide) x ts hx _ hg hts (h.add (opsObj 1 3)) hat htl hb (if_pos rfl)
  have hnew := h.new
  have HM := Lib.hid (show Calls Tryz.prog 35 #[.pointer (some ⟨B, 0, none⟩), .func (.func 36) #[.pointer (some ⟨B, 0, none⟩)] #[], .slice (some ⟨w.heap.size, 0, none⟩) 1 1] (w.alloc (.cells #[.int .i64 15] 3 (0, 0))) fun z w' => Out f W0 B t v1 na c0 x z w' from hm.mono fun z w' ho => ho.drop hnew)
  clear hm hnew hx h hg htl hts hat hb
  go_enter Tryz.func16, Tryz.ntmps16
  go_wp2_with (go_at_call 35; refine HM.out.mono ?_; rintro z w1 hz; obtain ⟨b, rfl, hz2⟩ := hz.ret; have HZ := Lib.hid hz2; clear hz hz2)
  go_ret
  exact HZ.out

theorem ent_comparison : Ent 51 := fun args w => enters_of Tryz.func51 (by kernel_rfl) rfl args w

set_option maxHeartbeats 1000000 in
set_option maxRecDepth 100000 in
theorem lv2_any {W0 : World} {B : Nat} {t : Bs} {v1 : Value} {na : Int} (hg : Glob W0) (htl : t.length ≤ 2048) (ts : List Tk) (x : Rs) (hx : Lv (Opd W0 B t v1 na 51) 2 ts x) : Opd W0 B t v1 na 36 ts x := by
  intro f c0 w p s r hts hat h hb
  have hm := many_any 51 ent_comparison 2 w.heap.size 3 (by decide) x ts hx _ hg hts (h.add (opsObj 2 3)) hat htl hb (if_pos rfl)
  have hnew := h.new
  have HM := Lib.hid (show Calls Tryz.prog 35 #[.pointer (some ⟨B, 0, none⟩), .func (.func 51) #[.pointer (some ⟨B, 0, none⟩)] #[], .slice (some ⟨w.heap.size, 0, none⟩) 1 1] (w.alloc (.cells #[.int .i64 14] 3 (0, 0))) fun z w' => Out f W0 B t v1 na c0 x z w' from hm.mono fun z w' ho => ho.drop hnew)
  clear hm hnew hx h hg htl hts hat hb
  go_enter Tryz.func36, Tryz.ntmps36
  go_wp2_with (go_at_call 35; refine HM.out.mono ?_; rintro z w1 hz; obtain ⟨b, rfl, hz2⟩ := hz.ret; have HZ := Lib.hid hz2; clear hz hz2)
  go_ret
  exact HZ.out

theorem ent_sum : Ent 60 := fun args w => enters_of Tryz.func60 (by kernel_rfl) rfl args w

set_option maxHeartbeats 1000000 in
set_option maxRecDepth 100000 in
theorem lv3_any {W0 : World} {B : Nat} {t : Bs} {v1 : Value} {na : Int} (hg : Glob W0) (htl : t.length ≤ 2048) (ts : List Tk) (x : Rs) (hx : Lv (Opd W0 B t v1 na 60) 3 ts x) : Opd W0 B t v1 na 51 ts x := by
  intro f c0 w p s r hts hat h hb
  have hm := once_any 60 ent_sum w.heap.size 3 x ts hx _ hg hts (h.add (opsObj 3 3)) hat htl hb (if_pos rfl)
  have hnew := h.new
  have HM := Lib.hid (show Calls Tryz.prog 59 #[.pointer (some ⟨B, 0, none⟩), .func (.func 60) #[.pointer (some ⟨B, 0, none⟩)] #[], .slice (some ⟨w.heap.size, 0, none⟩) 3 3] (w.alloc (.cells #[.int .i64 11, .int .i64 12, .int .i64 13] 3 (0, 0))) fun z w' => Out f W0 B t v1 na c0 x z w' from hm.mono fun z w' ho => ho.drop hnew)
  clear hm hnew hx h hg htl hts hat hb
  go_enter Tryz.func51, Tryz.ntmps51
  go_wp2_with (go_at_call 59; refine HM.out.mono ?_; rintro z w1 hz; obtain ⟨b, rfl, hz2⟩ := hz.ret; have HZ := Lib.hid hz2; clear hz hz2)
  go_ret
  exact HZ.out

theorem ent_product : Ent 70 := fun args w => enters_of Tryz.func70 (by kernel_rfl) rfl args w

set_option maxHeartbeats 1000000 in
set_option maxRecDepth 100000 in
theorem lv4_any {W0 : World} {B : Nat} {t : Bs} {v1 : Value} {na : Int} (hg : Glob W0) (htl : t.length ≤ 2048) (ts : List Tk) (x : Rs) (hx : Lv (Opd W0 B t v1 na 70) 4 ts x) : Opd W0 B t v1 na 60 ts x := by
  intro f c0 w p s r hts hat h hb
  have hm := many_any 70 ent_product 4 w.heap.size 3 (by decide) x ts hx _ hg hts (h.add (opsObj 4 3)) hat htl hb (if_pos rfl)
  have hnew := h.new
  have HM := Lib.hid (show Calls Tryz.prog 35 #[.pointer (some ⟨B, 0, none⟩), .func (.func 70) #[.pointer (some ⟨B, 0, none⟩)] #[], .slice (some ⟨w.heap.size, 0, none⟩) 2 2] (w.alloc (.cells #[.int .i64 6, .int .i64 7] 3 (0, 0))) fun z w' => Out f W0 B t v1 na c0 x z w' from hm.mono fun z w' ho => ho.drop hnew)
  clear hm hnew hx h hg htl hts hat hb
  go_enter Tryz.func60, Tryz.ntmps60
  go_wp2_with (go_at_call 35; refine HM.out.mono ?_; rintro z w1 hz; obtain ⟨b, rfl, hz2⟩ := hz.ret; have HZ := Lib.hid hz2; clear hz hz2)
  go_ret
  exact HZ.out

theorem ent_one : Ent 78 := fun args w => enters_of Tryz.func78 (by kernel_rfl) rfl args w

set_option maxHeartbeats 1000000 in
set_option maxRecDepth 100000 in
theorem lv5_any {W0 : World} {B : Nat} {t : Bs} {v1 : Value} {na : Int} (hg : Glob W0) (htl : t.length ≤ 2048) (ts : List Tk) (x : Rs) (hx : Lv (Opd W0 B t v1 na 78) 5 ts x) : Opd W0 B t v1 na 70 ts x := by
  intro f c0 w p s r hts hat h hb
  have hm := many_any 78 ent_one 5 w.heap.size 3 (by decide) x ts hx _ hg hts (h.add (opsObj 5 3)) hat htl hb (if_pos rfl)
  have hnew := h.new
  have HM := Lib.hid (show Calls Tryz.prog 35 #[.pointer (some ⟨B, 0, none⟩), .func (.func 78) #[.pointer (some ⟨B, 0, none⟩)] #[], .slice (some ⟨w.heap.size, 0, none⟩) 1 1] (w.alloc (.cells #[.int .i64 8] 3 (0, 0))) fun z w' => Out f W0 B t v1 na c0 x z w' from hm.mono fun z w' ho => ho.drop hnew)
  clear hm hnew hx h hg htl hts hat hb
  go_enter Tryz.func70, Tryz.ntmps70
  go_wp2_with (go_at_call 35; refine HM.out.mono ?_; rintro z w1 hz; obtain ⟨b, rfl, hz2⟩ := hz.ret; have HZ := Lib.hid hz2; clear hz hz2)
  go_ret
  exact HZ.out

end Go.Proofs.YtbeidmkhpcnbbaaGreatDoor.I
