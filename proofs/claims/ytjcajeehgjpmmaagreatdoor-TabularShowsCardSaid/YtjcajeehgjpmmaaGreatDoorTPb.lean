/-
  Layer 6: the program's numbers, names and places.
-/
import Derived.Test.YtjcajeehgjpmmaaGreatDoorIPMany
import Derived.Lib.AtoiErrMem
import Derived.Laws.Tables
namespace Go.Proofs.YtjcajeehgjpmmaaGreatDoor.I
open Go Go.RowKit B K E
set_option linter.unusedVariables false
theorem Out.drop {f : Nat -> Option Obj} {W0 : World} {B : Nat} {t : Bs} {v1 : Value} {na : Int} {c0 : List In} {x : Rs} {z : Ending} {w' : World} {k : Nat} {o : Obj} (h : Out (fun i => if i = k then some o else f i) W0 B t v1 na c0 x z w') (hf : f k = none) : Out f W0 B t v1 na c0 x z w' := by
 cases x with
 | err p e => obtain ⟨h1, s, c, h2⟩ := h; exact ⟨h1, s, c, h2.drop hf⟩
 | ok c r => obtain ⟨h1, p, s, r', h2, h3, h4⟩ := h; exact ⟨h1, p, s, r', h2, h3, h4.drop hf⟩
theorem Out.ret {f : Nat -> Option Obj} {W0 : World} {B : Nat} {t : Bs} {v1 : Value} {na : Int} {c0 : List In} {x : Rs} {z : Ending} {w' : World} (h : Out f W0 B t v1 na c0 x z w') : ∃ b : Bool, z = .returned (.bool b) /\ Out f W0 B t v1 na c0 x (.returned (.bool b)) w' := by
 cases x with
 | err p e => exact ⟨false, h.1, rfl, h.2⟩
 | ok c r => exact ⟨true, h.1, rfl, h.2⟩
theorem ent_all : Ent 198 := fun args w => enters_of Tryz.func198 (by kernel_rfl) rfl args w
set_option maxHeartbeats 1000000 in
set_option maxRecDepth 100000 in
theorem lv1_any {W0 : World} {B : Nat} {t : Bs} {v1 : Value} {na : Int} (hg : Glob W0) (htl : t.length <= 2048) (ts : List Tk) (x : Rs) (hx : Lv (Opd W0 B t v1 na 198) 1 ts x) : Opd W0 B t v1 na 176 ts x := by
 intro f c0 w p s r hts hat h hb;have hm := many_any 198 ent_all 1 w.heap.size 3 (by decide) x ts hx _ hg hts (h.add (opsObj 1 3)) hat htl hb (if_pos rfl);have hnew := h.new;have HM := Lib.hid (show Calls Tryz.prog 197 #[.pointer (some ⟨B, 0, none⟩), .func (.func 198) #[.pointer (some ⟨B, 0, none⟩)] #[], .slice (some ⟨w.heap.size, 0, none⟩) 1 1] (w.alloc (.cells #[.int .i64 15] 3 (0, 0))) fun z w' => Out f W0 B t v1 na c0 x z w' from hm.mono fun z w' ho => ho.drop hnew);clear hm hnew hx h hg htl hts hat hb;go_enter Tryz.func176, Tryz.ntmps176;go_wp2_with (go_at_call 197; refine HM.out.mono ?_; rintro z w1 hz; obtain ⟨b, rfl, hz2⟩ := hz.ret; have HZ := Lib.hid hz2; clear hz hz2)
 go_ret;exact HZ.out
theorem ent_comparison : Ent 207 := fun args w => enters_of Tryz.func207 (by kernel_rfl) rfl args w
set_option maxHeartbeats 1000000 in
set_option maxRecDepth 100000 in
theorem lv2_any {W0 : World} {B : Nat} {t : Bs} {v1 : Value} {na : Int} (hg : Glob W0) (htl : t.length <= 2048) (ts : List Tk) (x : Rs) (hx : Lv (Opd W0 B t v1 na 207) 2 ts x) : Opd W0 B t v1 na 198 ts x := by
 intro f c0 w p s r hts hat h hb;have hm := many_any 207 ent_comparison 2 w.heap.size 3 (by decide) x ts hx _ hg hts (h.add (opsObj 2 3)) hat htl hb (if_pos rfl);have hnew := h.new;have HM := Lib.hid (show Calls Tryz.prog 197 #[.pointer (some ⟨B, 0, none⟩), .func (.func 207) #[.pointer (some ⟨B, 0, none⟩)] #[], .slice (some ⟨w.heap.size, 0, none⟩) 1 1] (w.alloc (.cells #[.int .i64 14] 3 (0, 0))) fun z w' => Out f W0 B t v1 na c0 x z w' from hm.mono fun z w' ho => ho.drop hnew);clear hm hnew hx h hg htl hts hat hb;go_enter Tryz.func198, Tryz.ntmps198;go_wp2_with (go_at_call 197; refine HM.out.mono ?_; rintro z w1 hz; obtain ⟨b, rfl, hz2⟩ := hz.ret; have HZ := Lib.hid hz2; clear hz hz2)
 go_ret;exact HZ.out
theorem ent_sum : Ent 214 := fun args w => enters_of Tryz.func214 (by kernel_rfl) rfl args w
set_option maxHeartbeats 1000000 in
set_option maxRecDepth 100000 in
theorem lv3_any {W0 : World} {B : Nat} {t : Bs} {v1 : Value} {na : Int} (hg : Glob W0) (htl : t.length <= 2048) (ts : List Tk) (x : Rs) (hx : Lv (Opd W0 B t v1 na 214) 3 ts x) : Opd W0 B t v1 na 207 ts x := by
 intro f c0 w p s r hts hat h hb;have hm := once_any 214 ent_sum w.heap.size 3 x ts hx _ hg hts (h.add (opsObj 3 3)) hat htl hb (if_pos rfl);have hnew := h.new;have HM := Lib.hid (show Calls Tryz.prog 213 #[.pointer (some ⟨B, 0, none⟩), .func (.func 214) #[.pointer (some ⟨B, 0, none⟩)] #[], .slice (some ⟨w.heap.size, 0, none⟩) 3 3] (w.alloc (.cells #[.int .i64 11, .int .i64 12, .int .i64 13] 3 (0, 0))) fun z w' => Out f W0 B t v1 na c0 x z w' from hm.mono fun z w' ho => ho.drop hnew);clear hm hnew hx h hg htl hts hat hb;go_enter Tryz.func207, Tryz.ntmps207;go_wp2_with (go_at_call 213; refine HM.out.mono ?_; rintro z w1 hz; obtain ⟨b, rfl, hz2⟩ := hz.ret; have HZ := Lib.hid hz2; clear hz hz2)
 go_ret;exact HZ.out
theorem ent_product : Ent 215 := fun args w => enters_of Tryz.func215 (by kernel_rfl) rfl args w
set_option maxHeartbeats 1000000 in
set_option maxRecDepth 100000 in
theorem lv4_any {W0 : World} {B : Nat} {t : Bs} {v1 : Value} {na : Int} (hg : Glob W0) (htl : t.length <= 2048) (ts : List Tk) (x : Rs) (hx : Lv (Opd W0 B t v1 na 215) 4 ts x) : Opd W0 B t v1 na 214 ts x := by
 intro f c0 w p s r hts hat h hb;have hm := many_any 215 ent_product 4 w.heap.size 3 (by decide) x ts hx _ hg hts (h.add (opsObj 4 3)) hat htl hb (if_pos rfl);have hnew := h.new;have HM := Lib.hid (show Calls Tryz.prog 197 #[.pointer (some ⟨B, 0, none⟩), .func (.func 215) #[.pointer (some ⟨B, 0, none⟩)] #[], .slice (some ⟨w.heap.size, 0, none⟩) 2 2] (w.alloc (.cells #[.int .i64 6, .int .i64 7] 3 (0, 0))) fun z w' => Out f W0 B t v1 na c0 x z w' from hm.mono fun z w' ho => ho.drop hnew);clear hm hnew hx h hg htl hts hat hb;go_enter Tryz.func214, Tryz.ntmps214;go_wp2_with (go_at_call 197; refine HM.out.mono ?_; rintro z w1 hz; obtain ⟨b, rfl, hz2⟩ := hz.ret; have HZ := Lib.hid hz2; clear hz hz2)
 go_ret;exact HZ.out
theorem ent_one : Ent 216 := fun args w => enters_of Tryz.func216 (by kernel_rfl) rfl args w
set_option maxHeartbeats 1000000 in
set_option maxRecDepth 100000 in
theorem lv5_any {W0 : World} {B : Nat} {t : Bs} {v1 : Value} {na : Int} (hg : Glob W0) (htl : t.length <= 2048) (ts : List Tk) (x : Rs) (hx : Lv (Opd W0 B t v1 na 216) 5 ts x) : Opd W0 B t v1 na 215 ts x := by
 intro f c0 w p s r hts hat h hb;have hm := many_any 216 ent_one 5 w.heap.size 3 (by decide) x ts hx _ hg hts (h.add (opsObj 5 3)) hat htl hb (if_pos rfl);have hnew := h.new;have HM := Lib.hid (show Calls Tryz.prog 197 #[.pointer (some ⟨B, 0, none⟩), .func (.func 216) #[.pointer (some ⟨B, 0, none⟩)] #[], .slice (some ⟨w.heap.size, 0, none⟩) 1 1] (w.alloc (.cells #[.int .i64 8] 3 (0, 0))) fun z w' => Out f W0 B t v1 na c0 x z w' from hm.mono fun z w' ho => ho.drop hnew);clear hm hnew hx h hg htl hts hat hb;go_enter Tryz.func215, Tryz.ntmps215;go_wp2_with (go_at_call 197; refine HM.out.mono ?_; rintro z w1 hz; obtain ⟨b, rfl, hz2⟩ := hz.ret; have HZ := Lib.hid hz2; clear hz hz2)
 go_ret;exact HZ.out
theorem atoi_dig (v : Nat) : Lib.decNat (dig v) = some v := by
 have key : ∀ v, Lib.decFrom 0 (dig v) = some v := by
  intro v;induction v using Nat.strongRecOn with
  | _ v ih =>
   have app : ∀ (l : Bs) (acc n : Nat) (d : UInt8) (x : Nat), Lib.decFrom acc l = some n -> Lib.digitVal d = some x -> Lib.decFrom acc (l ++ [d]) = some (n * 10 + x) := by
    intro l;induction l with
    | nil => intro acc n d x h hx; simp only [Lib.decFrom, Option.some.injEq] at h; subst h; simp [Lib.decFrom, hx]
    | cons c r ih2 =>
     intro acc n d x h hx;simp only [List.cons_append, Lib.decFrom] at h ⊢;split at h
     ·rename_i y hy; exact ih2 _ _ _ _ h hx
     ·cases h
   have dv : ∀ x, x < 10 -> Lib.digitVal (UInt8.ofNat (48 + x)) = some x := by
    intro x hx;unfold Lib.digitVal;rw [UInt8.toNat_ofNat', Nat.mod_eq_of_lt (by omega), if_pos (by omega)];congr 1; omega
   by_cases h : v < 10
   ·rw [dig_small v h]
    have := app [] 0 0 _ v rfl (dv v h);simpa using this
   ·rw [dig_big v h]
    have := app (dig (v / 10)) 0 (v / 10) _ (v % 10) (ih (v / 10) (by omega)) (dv _ (by omega));rw [this];congr 1; omega
 unfold Lib.decNat;rw [if_neg (by have := dig_ne v; simp [this]), key v]
theorem atoi_pos (v : Nat) : Lib.atoi (dig v) = some (v : Int) := by
 obtain ⟨c, r, h, hd⟩ := dig_head v;have h1 := atoi_dig v;rw [h] at h1 ⊢;have e1 : (c == 45) = false := by rw [beq_eq_false_iff_ne]; rintro rfl; cases hd
 have e2 : (c == 43) = false := by rw [beq_eq_false_iff_ne]; rintro rfl; cases hd
 simp only [Lib.atoi, e1, e2, h1];rfl
theorem atoi_neg (v : Nat) : Lib.atoi (45 :: dig v) = some (-(v : Int)) := by
 simp only [Lib.atoi, atoi_dig v];rfl
section
variable {f : Nat -> Option Obj} {W0 : World} {B a : Nat} {t s : Bs} {v1 : Value} {na : Int} {c0 : List In} {r : List Tk}
set_option maxHeartbeats 1000000 in
set_option maxRecDepth 100000 in
theorem constant_any (v : Int) (hv : Lib.atoi s = some v) (hl : s.length <= 18) (hv1 : -1099511627776 <= v) (hv2 : v <= 1099511627776) (w : World) (hg : Glob W0) (h : Rd f W0 B t v1 na a s c0 0 w) (hle : a + s.length <= t.length) (hL : Lx (a + s.length) (t.drop (a + s.length)) r)
 (htl : t.length <= 2048) (hb : c0.length <= 1000000) :
 Calls Tryz.prog 217 #[.pointer (some ⟨B, 0, none⟩)] w fun z w' => Out f W0 B t v1 na c0 (.ok [(1, v)] r) z w' := by
 obtain ⟨⟨p', s'⟩, r', hr⟩ := lx_cons hL;subst hr;have HAT := Lib.hid (fun W => S.strconv_Atoi (str s) v (by rw [str_size]; exact hl) (by rw [str_data]; exact hv) W);have HP := Lib.hid (fun W hW => put_any (f := f) (W0 := W0) (B := B) (a := a) (t := t) (s := s) (v1 := v1) (na := na) (e := 0) (c := c0) W 1 v hW (by omega));have HA := Lib.hid (fun W c hW => advance_any (f := f) (W0 := W0) (B := B) (a := a) (p := p') (t := t) (s := s) (s' := s') (v1 := v1) (na := na) (e := 0) (c := c) (r := r') W hg hW hle hL htl);obtain ⟨_, ⟨_, _, _, _, c4, _, _⟩, _, _⟩ := h.cells;have d1 : decide (v < -1099511627776) = false := decide_eq_false (by omega);have d2 : decide (1099511627776 < v) = false := decide_eq_false (by omega);have HH := Lib.hid h;unfold sv at c4;clear hv hl hv1 hv2 h hle hL htl hb hg;go_enter Tryz.func217, Tryz.ntmps217;go_wp2_with (first | (go_at_call 135; refine (HAT.out _).mono ?_; rintro _ w1 ⟨rfl, tt, hw1⟩; have HR1 := Lib.hid (HH.out.grow (show Below w.heap.size w w1 by rw [hw1]; exact Lib.bytesWorld_below _ _ _)); clear hw1) | (go_at_call 212; refine (HP.out _ HR1.out).mono ?_; rintro _ w2 ⟨rfl, hr2⟩; have HR2 := Lib.hid hr2; clear hr2) | (go_at_call 175; refine (HA.out _ _ HR2.out).mono ?_; rintro _ w3 ⟨rfl, hr3, ha3⟩; have HR3 := Lib.hid hr3; have HA3 := Lib.hid ha3; clear hr3 ha3))
 go_ret;exact out_ok rfl HA3.out HR3.out
set_option maxHeartbeats 1000000 in
set_option maxRecDepth 100000 in
theorem argument_any (k : Nat) (hk : k < 10) (hs : s = [36] ++ dig k) (hna : (k : Int) < na) (w : World) (hg : Glob W0) (h : Rd f W0 B t v1 na a s c0 0 w) (hle : a + s.length <= t.length) (hL : Lx (a + s.length) (t.drop (a + s.length)) r)
 (htl : t.length <= 2048) (hb : c0.length <= 1000000) :
 Calls Tryz.prog 220 #[.pointer (some ⟨B, 0, none⟩)] w fun z w' => Out f W0 B t v1 na c0 (.ok [(3, (k : Int))] r) z w' := by
 obtain ⟨⟨p', s'⟩, r', hr⟩ := lx_cons hL;subst hr;have HP := Lib.hid (fun W hW => put_any (f := f) (W0 := W0) (B := B) (a := a) (t := t) (s := s) (v1 := v1) (na := na) (e := 0) (c := c0) W 3 (k : Int) hW (by omega));have HA := Lib.hid (fun W c hW => advance_any (f := f) (W0 := W0) (B := B) (a := a) (p := p') (t := t) (s := s) (s' := s') (v1 := v1) (na := na) (e := 0) (c := c) (r := r') W hg hW hle hL htl);obtain ⟨_, ⟨_, _, c2, _, c4, _, _⟩, _, _⟩ := h.cells;have HH := Lib.hid h;have hs2 : s = [36, UInt8.ofNat (48 + k)] := by rw [hs, dig_small k hk]; rfl
 have hsz : (str s).size = 2 := by rw [str_size, hs2]; rfl
 have h1 : 1 < (str s).size := by omega
 obtain ⟨d, hd⟩ : ∃ d, UInt8.ofNat (48 + k) = d := ⟨_, rfl⟩;rw [hd] at hs2;have hc1 : (str s)[1]'h1 = d := by
  have h2 : s[1]? = some d := by rw [hs2]; rfl
  rw [str_get];exact (List.getElem?_eq_some_iff.1 h2).2
 have hto : (d.toNat : Int) = 48 + (k : Int) := by rw [<- hd, UInt8.toNat_ofNat']; omega
 have hw8 : IntKind.u8.wrap (48 + (k : Int) - 48) = (k : Int) := by rw [show 48 + (k : Int) - 48 = (k : Int) by omega]; exact IntWalk.u8_in _ (by omega)
 have hw64 : IntKind.i64.wrap (k : Int) = (k : Int) := IntWalk.i64_in _ (by omega);have hlt : decide (na <= (k : Int)) = false := decide_eq_false (by omega);have hlt2 : ¬ na <= (k : Int) := by omega
 have hk0 : 0 <= (k : Int) := by omega
 unfold sv at c4;clear hs hs2 h hle hL htl hb hg hna hd;go_enter Tryz.func220, Tryz.ntmps220;go_wp2_with (first | (go_at_call 212; refine (HP.out _ HH.out).mono ?_; rintro _ w2 ⟨rfl, hr2⟩; have HR2 := Lib.hid hr2; clear hr2) | (go_at_call 175; refine (HA.out _ _ HR2.out).mono ?_; rintro _ w3 ⟨rfl, hr3, ha3⟩; have HR3 := Lib.hid hr3; have HA3 := Lib.hid ha3; clear hr3 ha3))
 go_ret;exact out_ok rfl HA3.out HR3.out
theorem idx_str (vs : List Bs) (s : Bs) (k : Nat) (hk : vs[k]? = some s) (hn : ∀ j, j < k -> vs[j]? ≠ some s) : Lib.idxOfS (vs.map str) (str s) = (k : Int) := by
 obtain ⟨h1, h2⟩ := List.getElem?_eq_some_iff.1 hk;have := Lib.idxFromS_hit (str s) (vs.map str) k 0 (by rw [List.length_map]; exact h1) (by rw [List.getD_eq_getElem?_getD, List.getElem?_map, hk]; rfl) (fun j hj => by
  rw [List.getD_eq_getElem?_getD, List.getElem?_map, List.getElem?_eq_getElem (show j < vs.length by omega)];show str vs[j] ≠ str s
  intro e;exact hn j hj (by rw [List.getElem?_eq_getElem (show j < vs.length by omega), str_inj e]))
 unfold Lib.idxOfS;rw [this];omega
set_option maxHeartbeats 1000000 in
set_option maxRecDepth 100000 in
theorem variable_any (vs : List Bs) (hvs : Names W0 v1 vs) (k : Nat) (hk : vs[k]? = some s) (hn : ∀ j, j < k -> vs[j]? ≠ some s) (w : World) (hg : Glob W0) (h : Rd f W0 B t v1 na a s c0 0 w) (hle : a + s.length <= t.length) (hL : Lx (a + s.length) (t.drop (a + s.length)) r)
 (htl : t.length <= 2048) (hb : c0.length <= 1000000) (hvl : vs.length <= 1000000) :
 Calls Tryz.prog 221 #[.pointer (some ⟨B, 0, none⟩)] w fun z w' => Out f W0 B t v1 na c0 (.ok [(2, (k : Int))] r) z w' := by
 obtain ⟨⟨p', s'⟩, r', hr⟩ := lx_cons hL;subst hr;have HP := Lib.hid (fun W hW => put_any (f := f) (W0 := W0) (B := B) (a := a) (t := t) (s := s) (v1 := v1) (na := na) (e := 0) (c := c0) W 2 (k : Int) hW (by omega));have HA := Lib.hid (fun W c hW => advance_any (f := f) (W0 := W0) (B := B) (a := a) (p := p') (t := t) (s := s) (s' := s') (v1 := v1) (na := na) (e := 0) (c := c) (r := r') W hg hW hle hL htl);obtain ⟨_, ⟨_, c1, _, _, c4, _, _⟩, _, _⟩ := h.cells;have HH := Lib.hid h;have hnw := h.names hvs;obtain ⟨ad, cap, hv1, hcell⟩ := hnw;obtain ⟨b, off, hab, _⟩ := hcell k (sv s) (by rw [List.getElem?_map, hk]; rfl);have hIc : ∀ j, j < (vs.map str).length -> w.cell? ⟨b, off + j, none⟩ = some (.string ((vs.map str).getD j ByteArray.empty)) := fun j hj => by
  rw [List.length_map] at hj;obtain ⟨b', off', e1, e2⟩ := hcell j (sv vs[j]) (by rw [List.getElem?_map, List.getElem?_eq_getElem hj]; rfl);rw [hab] at e1;cases e1
  rw [e2, List.getD_eq_getElem?_getD, List.getElem?_map, List.getElem?_eq_getElem hj];rfl
 have hI := fun m => S.slices_Index_string b off vs.length cap (vs.map str) (str s) (w.drewN m) (by rw [List.length_map]; exact Nat.le_refl _) (by omega) hIc
 rw [List.take_of_length_le (by rw [List.length_map]; exact Nat.le_refl _), idx_str vs s k hk hn] at hI;rw [hab, List.length_map] at hv1;obtain ⟨n, hnn⟩ : ∃ n, vs.length = n := ⟨_, rfl⟩;rw [hnn] at hI hv1;rw [hv1] at c1;have HI := Lib.hid hI;have hk0 : ¬ (k : Int) < 0 := by omega
 unfold sv at c4;clear h hle hL htl hb hg hk hn hcell hI hv1 hnn hvs hvl hab hIc;go_enter Tryz.func221, Tryz.ntmps221;go_wp2_with fail;go_quiet ((go_at_call 109; exact Calls.quiet_of_same (HI.out _)))
 go_wp2_with (first | (go_at_call 212; refine (HP.out _ (HH.out.drewN _)).mono ?_; rintro _ w2 ⟨rfl, hr2⟩; have HR2 := Lib.hid hr2; clear hr2) | (go_at_call 175; refine (HA.out _ _ HR2.out).mono ?_; rintro _ w3 ⟨rfl, hr3, ha3⟩; have HR3 := Lib.hid hr3; have HA3 := Lib.hid ha3; clear hr3 ha3))
 go_ret;exact out_ok rfl HA3.out HR3.out
end
set_option maxHeartbeats 2000000 in
theorem operands_any (o : Int) (h1 : 1 <= o) (h2 : o <= 16) (w : World) : Calls Tryz.prog 158 #[.int .i64 o] w fun e w' => e = .returned (.int .i64 (takes o)) /\ w = w' := by
 rcases (show o = 1 \/ o = 2 \/ o = 3 \/ o = 4 \/ o = 5 \/ o = 6 \/ o = 7 \/ o = 8 \/ o = 9 \/ o = 10 \/ o = 11 \/ o = 12 \/ o = 13 \/ o = 14 \/ o = 15 \/ o = 16 by omega) with rfl | rfl | rfl | rfl | rfl | rfl | rfl | rfl | rfl | rfl | rfl | rfl | rfl | rfl | rfl | rfl
 all_goals
  go_enter Tryz.func158, Tryz.ntmps158;go_wp2_with fail;go_ret;exact ⟨rfl, rfl⟩
section
variable {f : Nat -> Option Obj} {W0 : World} {B p : Nat} {t s : Bs} {v1 : Value} {na : Int} {c0 : List In} {r : List Tk}
set_option maxHeartbeats 1000000 in
set_option maxRecDepth 100000 in
theorem pass_any (w : World) (hg : Glob W0) (h : Rd f W0 B t v1 na p s c0 0 w) (hat : At t p s r) (hs : s ≠ []) (htl : t.length <= 2048) :
 Calls Tryz.prog 219 #[.pointer (some ⟨B, 0, none⟩), sv s] w fun z w' => z = .returned (.bool true) /\ ∃ p' s' r', r = (p', s') :: r' /\ At t p' s' r' /\ Rd f W0 B t v1 na p' (cutw s') c0 0 w' := by
 obtain ⟨h1, h2⟩ := hat.next hs
 obtain ⟨⟨p', s'⟩, r', hr⟩ := lx_cons h2;have HA := Lib.hid (advance_any w hg h h1 (hr ▸ h2) htl);obtain ⟨_, ⟨_, _, _, _, c4, _, _⟩, _, _⟩ := h.cells;have he : ((str s).toList == (str s).toList) = true := by simp
 have HR := Lib.hid hr;unfold sv at c4 ⊢;clear h1 h2 h hat hs htl hg hr;go_enter Tryz.func219, Tryz.ntmps219;go_wp2_with (go_at_call 175; refine HA.out.mono ?_; rintro _ w1 ⟨rfl, hr1, ha1⟩; have HR1 := Lib.hid hr1; have HA1 := Lib.hid ha1; clear hr1 ha1)
 go_ret;exact ⟨rfl, p', s', r', HR.out, HA1.out, HR1.out⟩
inductive Args (C : List Tk -> Rs -> Prop) : Nat -> Bs -> List Tk -> List In -> List Tk -> Prop
 | nil (ah : Bs) (ts : List Tk) : Args C 0 ah ts [] ts
 | cons (n : Nat) (ah : Bs) (q : Nat) (l : List Tk) (c c' : List In) (ts ts' : List Tk) : C l (.ok c ts) -> c.length + ts.length <= l.length -> Args C n [44] ts c' ts' -> Args C (n + 1) ah ((q, ah) :: l) (c ++ c') ts'
theorem args_inv {C : List Tk -> Rs -> Prop} {n : Nat} {ah : Bs} {ts ts' : List Tk} {c : List In} (h : Args C n ah ts c ts') :
 (n = 0 /\ c = [] /\ ts' = ts) \/ ∃ m q l c1 c2 ts1, n = m + 1 /\ ts = (q, ah) :: l /\ c = c1 ++ c2 /\ C l (.ok c1 ts1) /\ c1.length + ts1.length <= l.length /\ Args C m [44] ts1 c2 ts' := by
 cases h with
 | nil => exact Or.inl ⟨rfl, rfl, rfl⟩
 | cons n ah q l c c' ts ts' h1 h2 h3 => exact Or.inr ⟨n, q, l, c, c', ts, rfl, rfl, rfl, h1, h2, h3⟩
set_option maxHeartbeats 2000000 in
set_option maxRecDepth 100000 in
theorem call_any (o : Int) (n : Nat) (hn : takes o = (n : Int)) (ho1 : 1 <= o) (ho2 : o <= 16) (c : List In) (q : Nat) (r' : List Tk) (w : World) (hg : Glob W0) (h : Rd f W0 B t v1 na p s c0 0 w) (hat : At t p s r) (hs : s ≠ []) (htl : t.length <= 2048)
 (hargs : Args (Opd W0 B t v1 na 176) n [40] r c ((q, [41]) :: r')) (hb : c0.length + r.length <= 999999) (hn1 : 0 < n) :
 Calls Tryz.prog 222 #[.pointer (some ⟨B, 0, none⟩), .int .i64 o] w fun z w' => Out f W0 B t v1 na c0 (.ok (c ++ [(o, 0)]) r') z w' := by
 obtain ⟨h1, h2⟩ := hat.next hs
 obtain ⟨⟨p', s'⟩, r1, hr⟩ := lx_cons h2;have HA := Lib.hid (advance_any w hg h h1 (hr ▸ h2) htl);have HOP := Lib.hid (fun W => operands_any o ho1 ho2 W);rw [hn] at HOP;have HPS := Lib.hid (fun (W : World) (p : Nat) (s : Bs) (c : List In) (r : List Tk) hW hat hs => pass_any (f := f) (W0 := W0) (B := B) (p := p) (t := t) (s := s) (v1 := v1) (na := na) (c0 := c) (r := r) W hg hW hat hs htl);have HPT := Lib.hid (fun (W : World) (c : List In) (p : Nat) (s : Bs) (hW : Rd f W0 B t v1 na p s c 0 W) (hc : c.length <= 1000000000000) => put_any W o 0 hW hc);have HR := Lib.hid hr;have HARGS := Lib.hid hargs;have HB := Lib.hid hb;have HO := Lib.hid (show n <= 3 by have := takes_range o; omega);clear h1 h2 h hat hs hg hr hargs hb hn ho1 ho2 htl;go_enter Tryz.func222, Tryz.ntmps222;go_wp2_with (first | (go_at_call 175; refine HA.out.mono ?_; rintro _ w1 ⟨rfl, hr1, ha1⟩; have HR1 := Lib.hid hr1; have HA1 := Lib.hid ha1; clear hr1 ha1) | (go_at_call 158; refine (HOP.out _).mono ?_; rintro _ w2 ⟨rfl, rfl⟩))
 go_loopg [5, 10] n (fun g ah k wr => ∃ (K : Nat) (l : Bs) (c1 c2 : List In) (ts r2 : List Tk) (p2 : Nat) (s2 : Bs), K + g = n /\ ah = .string (str l) /\ k = .int .i64 (K : Int) /\ Hid (l ≠ [] /\ cutw l = l) /\ Hid (ts = (p2, s2) :: r2 /\ c1 ++ c2 = c /\ c0.length + c1.length + ts.length <= 999999) /\ Hid (Args (Opd W0 B t v1 na 176) g l ts c2 ((q, [41]) :: r')) /\ Hid (At t p2 s2 r2) /\ Hid (Rd f W0 B t v1 na p2 (cutw s2) (c0 ++ c1) 0 wr))
 case atStart => exact ⟨0, [40], [], c, r, r1, p', s', by omega, rfl, rfl, Lib.hid ⟨by decide, by decide⟩, Lib.hid ⟨HR.out, rfl, by have := HB.out; simp; omega⟩, HARGS, HA1, Lib.hid (by rw [List.append_nil]; exact HR1.out)⟩
 case round =>
  obtain ⟨K, l, c1, c2, ts, r2, p2, s2, hK, rfl, rfl, HL, HTS, HAR, HAT, HRR⟩ := hrel;have har := HAR.out;rcases args_inv har with ⟨hz, hc, hts⟩ | ⟨m, q2, l2, d1, d2, ts1, hm, hts, hc, hop, hlen, har2⟩
  ·obtain ⟨ht1, ht2, ht3⟩ := HTS.out
   rw [<- hts] at ht1;cases ht1
   subst hz hc;rw [List.append_nil] at ht2;subst ht2;have hKn : (K : Int) = (n : Int) := by omega
   obtain rfl : K = n := by omega
   have hRR : Rd f W0 B t v1 na q [41] (c0 ++ c1) 0 wr := HRR.out;have HP2 := Lib.hid (HPS.out wr q [41] (c0 ++ c1) r' hRR HAT.out (by decide));have HLN := Lib.hid (show (c0 ++ c1).length <= 1000000000000 by rw [List.length_append]; omega);clear har hts ht3 hRR hKn HRR;unfold sv at HP2;go_wp2_with (first | (go_at_call 219; refine HP2.out.mono ?_; rintro _ w3 ⟨rfl, p4, s4, r4, e4, a4, hr4⟩; have HR4 := Lib.hid hr4; have HA4 := Lib.hid a4; have HE4 := Lib.hid e4; clear hr4 a4 e4) | (go_at_call 212; refine (HPT.out _ _ _ _ HR4.out HLN.out).mono ?_; rintro _ w5 ⟨rfl, hr5⟩; have HR5 := Lib.hid hr5; clear hr5))
   go_ret;exact out_ok HE4.out HA4.out (by rw [<- List.append_assoc]; exact HR5.out)
  ·obtain ⟨ht1, ht2, ht3⟩ := HTS.out
   rw [hts] at ht1;cases ht1
   subst hm hc hts;have hKI : (K : Int) < (n : Int) := by omega
   have hwK : IntKind.i64.wrap ((K : Int) + 1) = ((K + 1 : Nat) : Int) := by rw [show ((K + 1 : Nat) : Int) = (K : Int) + 1 by omega]; exact IntWalk.i64_in _ (by have := HO.out; omega)
   have hRR : Rd f W0 B t v1 na p2 l (c0 ++ c1) 0 wr := by have := HRR.out; rw [HL.out.2] at this; exact this
   have HP2 := Lib.hid (HPS.out wr p2 l (c0 ++ c1) r2 hRR HAT.out HL.out.1);have HOPA := Lib.hid (fun W p s r h1 h2 h3 => hop f (c0 ++ c1) W p s r h1 h2 h3 (by rw [List.length_append]; simp only [List.length_cons] at ht3; omega));have HAR2 := Lib.hid har2;have HLN := Lib.hid (show c1 ++ d1 ++ d2 = c /\ c0.length + (c1 ++ d1).length + ts1.length <= 999999 by
    refine ⟨by rw [<- ht2]; simp, ?_⟩;simp only [List.length_append, List.length_cons] at ht3 ⊢;omega)
   clear har ht2 ht3 hRR hop hlen har2 HRR;unfold sv at HP2;go_wp2_with (first | (go_at_call 219; refine HP2.out.mono ?_; rintro _ w3 ⟨rfl, p4, s4, r4, e4, a4, hr4⟩; have HR4 := Lib.hid hr4; have HA4 := Lib.hid a4; have HE4 := Lib.hid e4; clear hr4 a4 e4) | (go_at_call 176; refine (HOPA.out _ _ _ _ HE4.out HA4.out HR4.out).mono ?_; rintro _ w5 ⟨rfl, p6, s6, r6, e6, a6, hr6⟩; have HR6 := Lib.hid hr6; have HA6 := Lib.hid a6; have HE6 := Lib.hid e6; clear hr6 a6 e6))
   go_roundg m
   case measure => omega
   case rel => exact ⟨K + 1, [44], c1 ++ d1, d2, ts1, r6, p6, s6, by omega, rfl, by go_num, Lib.hid ⟨by decide, by decide⟩, Lib.hid ⟨HE6.out, HLN.out.1, HLN.out.2⟩, HAR2, HA6, Lib.hid (by have h6 := HR6.out; simp only [List.append_assoc] at h6 ⊢; exact h6)⟩
end
def lvl (o : Int) : Int := if o = 4 \/ o = 5 then 2 else if o = 8 then 3 else if o = 6 \/ o = 7 then 4 else if o = 11 \/ o = 12 \/ o = 13 then 5 else if o = 14 then 6 else if o = 15 then 7 else 1
set_option maxHeartbeats 2000000 in
theorem level_any (o : Int) (h1 : 1 <= o) (h2 : o <= 16) (w : World) : Calls Tryz.prog 160 #[.int .i64 o] w fun e w' => e = .returned (.int .i64 (lvl o)) /\ w = w' := by
 rcases (show o = 1 \/ o = 2 \/ o = 3 \/ o = 4 \/ o = 5 \/ o = 6 \/ o = 7 \/ o = 8 \/ o = 9 \/ o = 10 \/ o = 11 \/ o = 12 \/ o = 13 \/ o = 14 \/ o = 15 \/ o = 16 by omega) with rfl | rfl | rfl | rfl | rfl | rfl | rfl | rfl | rfl | rfl | rfl | rfl | rfl | rfl | rfl | rfl
 all_goals
  go_enter Tryz.func160, Tryz.ntmps160;go_wp2_with fail;go_ret;exact ⟨rfl, rfl⟩
theorem decDigits_dig (n : Nat) : Lib.decDigits n = dig n := by
 induction n using Nat.strongRecOn with
 | _ n ih =>
  rw [Lib.decDigits];by_cases h : n < 10
  ·rw [dif_pos h, dig_small n h]
  ·rw [dif_neg h, dig_big n h, ih (n / 10) (by omega)]
def itoa (n : Int) : Bs := if n < 0 then 45 :: dig n.natAbs else dig n.toNat
theorem itoa_is (n : Int) : Lib.itoa n = itoa n := by unfold Lib.itoa itoa; rw [decDigits_dig, decDigits_dig]
theorem below_grown (w : World) (k : Nat) (os : Array Obj) : Below w.heap.size w (Sort.grow (w.drewN k) os) :=
 ⟨rfl, rfl, rfl, by show w.heap.size <= (w.heap ++ os).size; simp, fun i hi => by show (w.heap ++ os)[i]? = _; rw [Array.getElem?_append_left hi]⟩
theorem itoa_any (n : Int) (h0 : -9223372036854775808 <= n) (h1 : n <= 9223372036854775807) (w : World) (hg : Glob w) : Calls Tryz.prog 34 #[.int .i64 n] w fun e w' => e = .returned (sv (itoa n)) /\ Below w.heap.size w w' := by
 refine (S.strconv_Itoa n h0 h1 w hg.tens).mono ?_;rintro e w' ⟨rfl, k, os, rfl⟩;exact ⟨by rw [itoa_is]; rfl, below_grown w k os⟩
def brk (s : Bs) : Bs := [40] ++ s ++ [41]
theorem brk_eq (s : Bs) : ((⟨#[40]⟩ : ByteArray) ++ str s ++ ⟨#[41]⟩) = str (brk s) := by
 show str [40] ++ str s ++ str [41] = _
 rw [str_append, str_append]; rfl
set_option maxHeartbeats 1000000 in
set_option maxRecDepth 100000 in
theorem bracketed_any (s : Bs) (l : Int) (w : World) (hs : s.length <= 281474976710000) : Calls Tryz.prog 186 #[.agg #[sv s, .int .i64 l]] w fun e w' => e = .returned (sv (brk s)) /\ Below w.heap.size w w' := by
 have h1 : (str [40]).size + (str s).size <= 281474976710656 := by rw [str_size, str_size]; simp only [List.length_cons, List.length_nil]; omega
 have e1 : str [40] ++ str s = str ([40] ++ s) := str_append _ _;have h2 : (str ([40] ++ s)).size + (str [41]).size <= 281474976710656 := by rw [str_size, str_size]; simp only [List.length_append, List.length_cons, List.length_nil]; omega
 have e2 : str ([40] ++ s) ++ str [41] = str ([40] ++ s ++ [41]) := str_append _ _;have hsz : (str s).size = s.length := str_size s;unfold sv;go_enter Tryz.func186, Tryz.ntmps186;go_wp2_with fail;go_ret;exact ⟨ret_str (brk_eq s), (Below.refl _ _).alloc (Nat.le_refl _) _⟩
def upto (p : Bs × Int) (l : Int) : Bs := if l < p.2 then brk p.1 else p.1
set_option maxHeartbeats 1000000 in
set_option maxRecDepth 100000 in
theorem upTo_any (s : Bs) (l m : Int) (w : World) (hs : s.length <= 281474976710000) : Calls Tryz.prog 187 #[.agg #[sv s, .int .i64 l], .int .i64 m] w fun e w' => e = .returned (sv (upto (s, l) m)) /\ Below w.heap.size w w' := by
 have HB := Lib.hid (fun W => bracketed_any s l W hs);have hb0 := (Below.refl w.heap.size w).alloc (Nat.le_refl _) (.cells #[.string (str s), .int .i64 l] 167);have HB0 := Lib.hid hb0;unfold sv at HB ⊢;clear hb0;by_cases h : m < l
 ·have hu : upto (s, l) m = brk s := if_pos h
  rw [hu];go_enter Tryz.func187, Tryz.ntmps187;go_wp2_with (go_at_call 186; refine (HB.out _).mono ?_; rintro _ w1 ⟨rfl, hb1⟩; have HB1 := Lib.hid (HB0.out.trans (hb1.mono HB0.out.size)); clear hb1)
  go_ret;exact ⟨rfl, HB1.out⟩
 ·have hu : upto (s, l) m = s := if_neg h
  rw [hu];go_enter Tryz.func187, Tryz.ntmps187;go_wp2_with fail;go_ret;exact ⟨rfl, HB0.out⟩
set_option maxHeartbeats 1000000 in
set_option maxRecDepth 100000 in
theorem clone_any (s : Bs) (w : World) (hs : s.length <= 281474976710656) : Calls Tryz.prog 94 #[sv s] w fun e w' => e = .returned (sv s) /\ Below w.heap.size w w' := by
 have HC := Lib.hid (fun W => S.stringslite_Clone (str s) W (by rw [str_size]; exact hs));unfold sv;clear hs;go_enter Tryz.func94, Tryz.ntmps94;go_wp2_with (go_at_call 134; refine (HC.out _).mono ?_; rintro _ w1 ⟨rfl, hb1⟩; have HB1 := Lib.hid hb1; clear hb1)
 go_ret;exact ⟨rfl, HB1.out⟩
theorem piece_cells {w : World} {N : Nat} {cs : Array Value} (h : w.heap[N]? = some (.cells cs 167 (0, 0))) (j : Nat) (hj : j < cs.size) : w.cell? ⟨N, j, none⟩ = some cs[j] /\ w.frozen? ⟨N, j, none⟩ = false := by
 refine ⟨by rw [cell_of_row _ _ _ _ _ _ h]; simp [hj], (row_cell h hj).choose_spec.2⟩
set_option maxHeartbeats 1000000 in
set_option maxRecDepth 100000 in
theorem number_any (n : Int) (h0 : -9223372036854775808 <= n) (h1 : n <= 9223372036854775807) (w : World) (hg : Glob w) : Calls Tryz.prog 157 #[.int .i64 n] w fun e w' => e = .returned (.agg #[sv (itoa n), .int .i64 (if n < 0 then 2 else 0)]) /\ Below w.heap.size w w' := by
 have HI := Lib.hid (fun W hW => itoa_any n h0 h1 W hW);obtain ⟨s, hs⟩ : ∃ s, itoa n = s := ⟨_, rfl⟩;rw [hs] at HI ⊢;have hb0 := (Below.refl w.heap.size w).alloc (Nat.le_refl _) (.cells #[.string ⟨#[]⟩, .int .i64 0] 167);have HG := Lib.hid (hg.below hb0);have HB0 := Lib.hid hb0;unfold sv at HI ⊢;clear hb0 hg h0 h1 hs;have HI1 := Lib.hid (show (Tryz.prog.info? 167).map (·.size) = some (#[Value.string (str s), .int .i64 0] : Array Value).size by kernel_rfl);by_cases h : n < 0
 ·rw [if_pos h]
  go_enter Tryz.func157, Tryz.ntmps157;go_wp2_with (go_at_call 34; refine (HI.out _ HG.out).mono ?_; rintro _ w1 ⟨rfl, hb1⟩; have hrow := (hb1.block w.heap.size (by simp)).trans (heap_alloc_at w _); have HROW := Lib.hid hrow; have HB1 := Lib.hid hb1; obtain ⟨k0, z0⟩ := piece_cells hrow 0 (by decide); obtain ⟨k1, z1⟩ := piece_cells hrow 1 (by decide); clear hb1 hrow)
  have hr2 := heap_setCell_same _ w.heap.size 1 _ 167 (.int .i64 2) (heap_setCell_same w1 w.heap.size 0 _ 167 (.string (str s)) HROW.out);refine bodyPost_ret (v := .agg #[.string (str s), .int .i64 2]) (results_cell_row rfl _ _ w.heap.size 167 #[.string (str s), .int .i64 2] (0, 0) _ rfl hr2 Tryz.underlying167 rfl HI1.out) rfl ?_;exact ⟨rfl, ((HB0.out.trans (HB1.out.mono HB0.out.size)).setCell (Nat.le_refl _) _).setCell (Nat.le_refl _) _⟩
 ·rw [if_neg h]
  go_enter Tryz.func157, Tryz.ntmps157;go_wp2_with (go_at_call 34; refine (HI.out _ HG.out).mono ?_; rintro _ w1 ⟨rfl, hb1⟩; have hrow := (hb1.block w.heap.size (by simp)).trans (heap_alloc_at w _); have HROW := Lib.hid hrow; have HB1 := Lib.hid hb1; obtain ⟨k0, z0⟩ := piece_cells hrow 0 (by decide); obtain ⟨k1, z1⟩ := piece_cells hrow 1 (by decide); clear hb1 hrow)
  have hr2 := heap_setCell_same _ w.heap.size 1 _ 167 (.int .i64 0) (heap_setCell_same w1 w.heap.size 0 _ 167 (.string (str s)) HROW.out);refine bodyPost_ret (v := .agg #[.string (str s), .int .i64 0]) (results_cell_row rfl _ _ w.heap.size 167 #[.string (str s), .int .i64 0] (0, 0) _ rfl hr2 Tryz.underlying167 rfl HI1.out) rfl ?_;exact ⟨rfl, ((HB0.out.trans (HB1.out.mono HB0.out.size)).setCell (Nat.le_refl _) _).setCell (Nat.le_refl _) _⟩
end Go.Proofs.YtjcajeehgjpmmaaGreatDoor.I
namespace Go.Proofs.YtjcajeehgjpmmaaGreatDoor.T
open Go Go.RowKit B K E R
set_option linter.unusedVariables false
structure Globs (w : World) : Prop where
 glob : I.Glob w
 synt : ∃ t p, w.cell? ⟨5, 0, none⟩ = some (.iface t p)
 rang : ∃ t p, w.cell? ⟨6, 0, none⟩ = some (.iface t p)
theorem Globs.below {w w' : World} (h : Globs w) (hb : Below w.heap.size w w') : Globs w' := by
 obtain ⟨h1, ⟨t, p, h2⟩, ⟨u, q, h3⟩⟩ := h;exact ⟨h1.below hb, ⟨t, p, kept_cell hb h2⟩, ⟨u, q, kept_cell hb h3⟩⟩
theorem itoa_num (n : Int) : I.itoa n = num n := by
 unfold I.itoa num;split
 ·rfl
 ·congr 1; omega
theorem below_bytes (w : World) (t : TypeId) (n : ByteArray) : Below w.heap.size w (Lib.bytesWorld w t n) := Lib.bytesWorld_below _ _ _
theorem numOf_ok (s : Bs) (least n : Int) (h : Lib.atoiAll s = .ok n) : numOf s least = if num n = s /\ least <= n /\ n <= 1099511627776 then (n, 0) else (0, 6) := by unfold numOf; rw [h]
theorem numOf_syn (s : Bs) (least : Int) (h : Lib.atoiAll s = Lib.atoiAll []) : numOf s least = (0, 6) := by unfold numOf; rw [h]; rfl
theorem atoi_ends (s : Bs) : Lib.atoiAll s = Lib.atoiAll [] \/ Lib.atoiAll s = .range \/ ∃ n, Lib.atoiAll s = .ok n := by
 rcases h : Lib.atoiAll s with n | _ | _
 ·exact Or.inr (Or.inr ⟨n, rfl⟩)
 ·exact Or.inl rfl
 ·exact Or.inr (Or.inl rfl)
theorem numOf_rng (s : Bs) (least : Int) (h : Lib.atoiAll s = .range) : numOf s least = (0, 6) := by unfold numOf; rw [h]
set_option maxHeartbeats 2000000 in
theorem number_any (s : Bs) (least : Int) (w : World) (hg : Globs w) (hs : s.length <= 281474976710656) :
 Calls Tryz.prog 98 #[sv s, .int .i64 least] w fun e w' => e = .returned (.tuple #[.int .i64 (numOf s least).1, .int .i64 (numOf s least).2]) /\ Below w.heap.size w w' := by
 have hsd : (str s).data.toList = s := str_data s;have hsz : (str s).size = s.length := str_size s;rcases atoi_ends s with ha | ha | ⟨n, ha⟩
 ·
  obtain ⟨t, p, hv⟩ := hg.synt;have HA := Lib.hid (S.strconv_Atoi_syn (str s) (by rw [hsz]; exact hs) (by rw [hsd]; exact ha) _ w hv (Or.inr ⟨t, p, rfl⟩));rw [numOf_syn s least ha];unfold sv;clear hv hsd hsz ha hs hg;go_enter Tryz.func98, Tryz.ntmps98;go_wp2_with (go_at_call 135; refine HA.out.mono ?_; rintro _ w1 ⟨N, rfl, hN, _, hb1⟩; have HB := Lib.hid hb1; clear hb1 hN)
  go_ret2;exact ⟨rfl, HB.out⟩
 ·
  obtain ⟨t, p, hv⟩ := hg.rang;have HA := Lib.hid (S.strconv_Atoi_range (str s) (by rw [hsz]; exact hs) (by rw [hsd]; exact ha) _ w hv (Or.inr ⟨t, p, rfl⟩));rw [numOf_rng s least ha];unfold sv;clear hv hsd hsz ha hs hg;go_enter Tryz.func98, Tryz.ntmps98;go_wp2_with (go_at_call 135; refine HA.out.mono ?_; rintro _ w1 ⟨N, rfl, hN, _, hb1⟩; have HB := Lib.hid hb1; clear hb1 hN)
  go_ret2;exact ⟨rfl, HB.out⟩
 ·
  have hbd := Lib.atoiAll_bounds ha;have HA : Hid (Calls Tryz.prog 135 #[.string (str s)] w fun e w' => e = .returned (.tuple #[.int .i64 n, .nilIface]) /\ Below w.heap.size w w') := Lib.hid ((S.strconv_Atoi_ok (str s) (by rw [hsz]; omega) n (by rw [hsd]; exact ha) w).mono fun e w' ⟨he, hw⟩ => ⟨he, by
   rcases hw with rfl | ⟨t, rfl⟩
   ·exact Below.refl _ _
   ·exact below_bytes _ _ _⟩)
  have HI := Lib.hid (fun W (hW : I.Glob W) => I.itoa_any n hbd.1 hbd.2 W hW);rw [itoa_num] at HI;have HG := Lib.hid hg.glob;rw [numOf_ok s least n ha];clear hbd hsd hsz ha hs hg;obtain ⟨x, hx⟩ : ∃ x, num n = x := ⟨_, rfl⟩;rw [hx] at HI ⊢;clear hx;unfold sv at HI ⊢;by_cases h1 : x = s
  ·subst h1
   by_cases h2 : n < least
   ·rw [if_neg (fun h => by have := h.2.1; omega)]
    go_enter Tryz.func98, Tryz.ntmps98;go_wp2_with (first | (go_at_call 135; refine HA.out.mono ?_; rintro _ w1 ⟨rfl, hb1⟩; have HB := Lib.hid hb1; clear hb1) | (go_at_call 34; refine (HI.out _ (HG.out.below HB.out)).mono ?_; rintro _ w2 ⟨rfl, hb2⟩; have HB2 := Lib.hid hb2; clear hb2))
    go_ret2;exact ⟨rfl, HB.out.trans (HB2.out.mono HB.out.size)⟩
   ·by_cases h3 : 1099511627776 < n
    ·rw [if_neg (fun h => by have := h.2.2; omega)]
     go_enter Tryz.func98, Tryz.ntmps98;go_wp2_with (first | (go_at_call 135; refine HA.out.mono ?_; rintro _ w1 ⟨rfl, hb1⟩; have HB := Lib.hid hb1; clear hb1) | (go_at_call 34; refine (HI.out _ (HG.out.below HB.out)).mono ?_; rintro _ w2 ⟨rfl, hb2⟩; have HB2 := Lib.hid hb2; clear hb2))
     go_ret2;exact ⟨rfl, HB.out.trans (HB2.out.mono HB.out.size)⟩
    ·rw [if_pos ⟨rfl, by omega, by omega⟩]
     go_enter Tryz.func98, Tryz.ntmps98;go_wp2_with (first | (go_at_call 135; refine HA.out.mono ?_; rintro _ w1 ⟨rfl, hb1⟩; have HB := Lib.hid hb1; clear hb1) | (go_at_call 34; refine (HI.out _ (HG.out.below HB.out)).mono ?_; rintro _ w2 ⟨rfl, hb2⟩; have HB2 := Lib.hid hb2; clear hb2))
     go_ret2;exact ⟨rfl, HB.out.trans (HB2.out.mono HB.out.size)⟩
  ·rw [if_neg (fun h => h1 h.1)]
   have e1 : ((str x).toList == (str s).toList) = false := str_ne h1;have e2 : ((str x).toList != (str s).toList) = true := by rw [bne, e1]; rfl
   go_enter Tryz.func98, Tryz.ntmps98;go_wp2_with (first | (go_at_call 135; refine HA.out.mono ?_; rintro _ w1 ⟨rfl, hb1⟩; have HB := Lib.hid hb1; clear hb1) | (go_at_call 34; refine (HI.out _ (HG.out.below HB.out)).mono ?_; rintro _ w2 ⟨rfl, hb2⟩; have HB2 := Lib.hid hb2; clear hb2))
   go_ret2;exact ⟨rfl, HB.out.trans (HB2.out.mono HB.out.size)⟩
def nameErr (s : Bs) : Int := if I.isName s = true then 0 else 6
set_option maxHeartbeats 1000000 in
theorem unlessName_any (s : Bs) (w : World) (hg : I.Glob w) (hs : s.length <= 9223372036854775807) :
 Calls Tryz.prog 95 #[sv s] w fun e w' => e = .returned (.int .i64 (nameErr s)) /\ w = w' := by
 have HN := Lib.hid (I.name_any s w hg hs);unfold nameErr;cases hn : I.isName s with
 | false =>
  rw [hn] at HN;rw [if_neg (by decide)];unfold sv at HN ⊢;clear hn hs hg;go_enter Tryz.func95, Tryz.ntmps95;go_wp2_with (go_at_call 99; refine HN.out.mono ?_; rintro _ w1 ⟨rfl, rfl⟩)
  go_ret;exact ⟨rfl, rfl⟩
 | true =>
  rw [hn] at HN;rw [if_pos rfl];unfold sv at HN ⊢;clear hn hs hg;go_enter Tryz.func95, Tryz.ntmps95;go_wp2_with (go_at_call 99; refine HN.out.mono ?_; rintro _ w1 ⟨rfl, rfl⟩)
  go_ret;exact ⟨rfl, rfl⟩
theorem refuse_any (v : Value) (w : World) : Calls Tryz.prog 58 #[v] w fun e w' => e = .returned (.int .i64 6) /\ w = w' := by
 go_enter Tryz.func58, Tryz.ntmps58;go_wp2_with fail;go_ret;exact ⟨rfl, rfl⟩
end Go.Proofs.YtjcajeehgjpmmaaGreatDoor.T
