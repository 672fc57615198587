/-
  Contracts of the program's reader of layer 4: constants, arguments, variables.
-/
import Derived.Test.YtbeidmkhpcnbbaaGreatDoorIPLev
import Derived.Lib.AtoiErrMem
namespace Go.Proofs.YtbeidmkhpcnbbaaGreatDoor.I
open Go Go.RowKit Go.Proofs.YtbeidmkhpcnbbaaGreatDoor.B Go.Proofs.YtbeidmkhpcnbbaaGreatDoor.K Go.Proofs.YtbeidmkhpcnbbaaGreatDoor.E
set_option linter.unusedVariables false

theorem atoi_dig (v : Nat) : Lib.decNat (dig v) = some v := by
  have key : ∀ v, Lib.decFrom 0 (dig v) = some v := by
    intro v
    induction v using Nat.strongRecOn with
    | _ v ih =>
      have app : ∀ (l : Bs) (acc n : Nat) (d : UInt8) (x : Nat), Lib.decFrom acc l = some n → Lib.digitVal d = some x → Lib.decFrom acc (l ++ [d]) = some (n * 10 + x) := by
        intro l
        induction l with
        | nil => intro acc n d x h hx; simp only [Lib.decFrom, Option.some.injEq] at h; subst h; simp [Lib.decFrom, hx]
        | cons c r ih2 =>
          intro acc n d x h hx
          simp only [List.cons_append, Lib.decFrom] at h ⊢
          split at h
          · rename_i y hy; exact ih2 _ _ _ _ h hx
          · cases h
      have dv : ∀ x, x < 10 → Lib.digitVal (UInt8.ofNat (48 + x)) = some x := by
        intro x hx
        unfold Lib.digitVal
        rw [UInt8.toNat_ofNat', Nat.mod_eq_of_lt (by omega), if_pos (by omega)]
        congr 1; omega
      by_cases h : v < 10
      · rw [dig_small v h]
        have := app [] 0 0 _ v rfl (dv v h)
        simpa using this
      · rw [dig_big v h]
        have := app (dig (v / 10)) 0 (v / 10) _ (v % 10) (ih (v / 10) (by omega)) (dv _ (by omega))
        rw [this]
        congr 1; omega
  unfold Lib.decNat
  rw [if_neg (by have := dig_ne v; simp [this]), key v]

theorem atoi_pos (v : Nat) : Lib.atoi (dig v) = some (v : Int) := by
  obtain ⟨c, r, h, hd⟩ := dig_head v
  have h1 := atoi_dig v
  rw [h] at h1 ⊢
  have e1 : (c == 45) = false := by rw [beq_eq_false_iff_ne]; rintro rfl; cases hd
  have e2 : (c == 43) = false := by rw [beq_eq_false_iff_ne]; rintro rfl; cases hd
  simp only [Lib.atoi, e1, e2, h1]
  rfl
theorem atoi_neg (v : Nat) : Lib.atoi (45 :: dig v) = some (-(v : Int)) := by
  simp only [Lib.atoi, atoi_dig v]
  rfl

section
variable {f : Nat → Option Obj} {W0 : World} {B a : Nat} {t s : Bs} {v1 : Value} {na : Int} {c0 : List In} {r : List Tk}

set_option maxHeartbeats 1000000 in
set_option maxRecDepth 100000 in
theorem constant_any (v : Int) (hv : Lib.atoi s = some v) (hl : s.length ≤ 18) (hv1 : -1099511627776 ≤ v) (hv2 : v ≤ 1099511627776) (w : World) (hg : Glob W0) (h : Rd f W0 B t v1 na a s c0 0 w) (hle : a + s.length ≤ t.length) (hL : Lx (a + s.length) (t.drop (a + s.length)) r)
    (htl : t.length ≤ 2048) (hb : c0.length ≤ 1000000) :
    Calls Tryz.prog 83 #[.pointer (some ⟨B, 0, none⟩)] w fun z w' => Out f W0 B t v1 na c0 (.ok [(1, v)] r) z w' := by
  obtain ⟨⟨p', s'⟩, r', hr⟩ := lx_cons hL
  subst hr
  have HAT := Lib.hid (fun W => S.strconv_Atoi (str s) v (by rw [str_size]; exact hl) (by rw [str_data]; exact hv) W)
  have HP := Lib.hid (fun W hW => put_any (f := f) (W0 := W0) (B := B) (a := a) (t := t) (s := s) (v1 := v1) (na := na) (e := 0) (c := c0) W 1 v hW (by omega))
  have HA := Lib.hid (fun W c hW => advance_any (f := f) (W0 := W0) (B := B) (a := a) (p := p') (t := t) (s := s) (s' := s') (v1 := v1) (na := na) (e := 0) (c := c) (r := r') W hg hW hle hL htl)
  obtain ⟨_, ⟨_, _, _, _, c4, _, _⟩, _, _⟩ := h.cells
  have d1 : decide (v < -1099511627776) = false := decide_eq_false (by omega)
  have d2 : decide (1099511627776 < v) = false := decide_eq_false (by omega)
  have HH := Lib.hid h
  unfold sv at c4
  clear hv hl hv1 hv2 h hle hL htl hb hg
  go_enter Tryz.func83, Tryz.ntmps83
  go_wp2_with (first | (go_at_call 85; refine (HAT.out _).mono ?_; rintro _ w1 ⟨rfl, tt, hw1⟩; have HR1 := Lib.hid (HH.out.grow (show Below w.heap.size w w1 by rw [hw1]; exact Lib.bytesWorld_below _ _ _)); clear hw1) | (go_at_call 58; refine (HP.out _ HR1.out).mono ?_; rintro _ w2 ⟨rfl, hr2⟩; have HR2 := Lib.hid hr2; clear hr2) | (go_at_call 15; refine (HA.out _ _ HR2.out).mono ?_; rintro _ w3 ⟨rfl, hr3, ha3⟩; have HR3 := Lib.hid hr3; have HA3 := Lib.hid ha3; clear hr3 ha3))
  go_ret
  exact out_ok rfl HA3.out HR3.out

set_option maxHeartbeats 1000000 in
set_option maxRecDepth 100000 in
theorem argument_any (k : Nat) (hk : k < 10) (hs : s = [36] ++ dig k) (hna : (k : Int) < na) (w : World) (hg : Glob W0) (h : Rd f W0 B t v1 na a s c0 0 w) (hle : a + s.length ≤ t.length) (hL : Lx (a + s.length) (t.drop (a + s.length)) r)
    (htl : t.length ≤ 2048) (hb : c0.length ≤ 1000000) :
    Calls Tryz.prog 87 #[.pointer (some ⟨B, 0, none⟩)] w fun z w' => Out f W0 B t v1 na c0 (.ok [(3, (k : Int))] r) z w' := by
  obtain ⟨⟨p', s'⟩, r', hr⟩ := lx_cons hL
  subst hr
  have HP := Lib.hid (fun W hW => put_any (f := f) (W0 := W0) (B := B) (a := a) (t := t) (s := s) (v1 := v1) (na := na) (e := 0) (c := c0) W 3 (k : Int) hW (by omega))
  have HA := Lib.hid (fun W c hW => advance_any (f := f) (W0 := W0) (B := B) (a := a) (p := p') (t := t) (s := s) (s' := s') (v1 := v1) (na := na) (e := 0) (c := c) (r := r') W hg hW hle hL htl)
  obtain ⟨_, ⟨_, _, c2, _, c4, _, _⟩, _, _⟩ := h.cells
  have HH := Lib.hid h
  have hs2 : s = [36, UInt8.ofNat (48 + k)] := by rw [hs, dig_small k hk]; rfl
  have hsz : (str s).size = 2 := by rw [str_size, hs2]; rfl
  have h1 : 1 < (str s).size := by omega
  obtain ⟨d, hd⟩ : ∃ d, UInt8.ofNat (48 + k) = d := ⟨_, rfl⟩
  rw [hd] at hs2
  have hc1 : (str s)[1]'h1 = d := by
    have h2 : s[1]? = some d := by rw [hs2]; rfl
    rw [str_get]
    exact (List.getElem?_eq_some_iff.1 h2).2
  have hto : (d.toNat : Int) = 48 + (k : Int) := by rw [← hd, UInt8.toNat_ofNat']; omega
  have hw8 : IntKind.u8.wrap (48 + (k : Int) - 48) = (k : Int) := by rw [show 48 + (k : Int) - 48 = (k : Int) by omega]; exact IntWalk.u8_in _ (by omega)
  have hw64 : IntKind.i64.wrap (k : Int) = (k : Int) := IntWalk.i64_in _ (by omega)
  have hlt : decide (na ≤ (k : Int)) = false := decide_eq_false (by omega)
  have hlt2 : ¬ na ≤ (k : Int) := by omega
  have hk0 : 0 ≤ (k : Int) := by omega
  unfold sv at c4
  clear hs hs2 h hle hL htl hb hg hna hd
  go_enter Tryz.func87, Tryz.ntmps87
  go_wp2_with (first | (go_at_call 58; refine (HP.out _ HH.out).mono ?_; rintro _ w2 ⟨rfl, hr2⟩; have HR2 := Lib.hid hr2; clear hr2) | (go_at_call 15; refine (HA.out _ _ HR2.out).mono ?_; rintro _ w3 ⟨rfl, hr3, ha3⟩; have HR3 := Lib.hid hr3; have HA3 := Lib.hid ha3; clear hr3 ha3))
  go_ret
  exact out_ok rfl HA3.out HR3.out

theorem idx_str (vs : List Bs) (s : Bs) (k : Nat) (hk : vs[k]? = some s) (hn : ∀ j, j < k → vs[j]? ≠ some s) : Lib.idxOfS (vs.map str) (str s) = (k : Int) := by
  obtain ⟨h1, h2⟩ := List.getElem?_eq_some_iff.1 hk
  have := Lib.idxFromS_hit (str s) (vs.map str) k 0 (by rw [List.length_map]; exact h1) (by rw [List.getD_eq_getElem?_getD, List.getElem?_map, hk]; rfl) (fun j hj => by
    rw [List.getD_eq_getElem?_getD, List.getElem?_map, List.getElem?_eq_getElem (show j < vs.length by omega)]
    show str vs[j] ≠ str s
    intro e
    exact hn j hj (by rw [List.getElem?_eq_getElem (show j < vs.length by omega), str_inj e]))
  unfold Lib.idxOfS
  rw [this]
  omega

set_option maxHeartbeats 1000000 in
set_option maxRecDepth 100000 in
theorem variable_any (vs : List Bs) (hvs : Names W0 v1 vs) (k : Nat) (hk : vs[k]? = some s) (hn : ∀ j, j < k → vs[j]? ≠ some s) (w : World) (hg : Glob W0) (h : Rd f W0 B t v1 na a s c0 0 w) (hle : a + s.length ≤ t.length) (hL : Lx (a + s.length) (t.drop (a + s.length)) r)
    (htl : t.length ≤ 2048) (hb : c0.length ≤ 1000000) (hvl : vs.length ≤ 1000000) :
    Calls Tryz.prog 88 #[.pointer (some ⟨B, 0, none⟩)] w fun z w' => Out f W0 B t v1 na c0 (.ok [(2, (k : Int))] r) z w' := by
  obtain ⟨⟨p', s'⟩, r', hr⟩ := lx_cons hL
  subst hr
  have HP := Lib.hid (fun W hW => put_any (f := f) (W0 := W0) (B := B) (a := a) (t := t) (s := s) (v1 := v1) (na := na) (e := 0) (c := c0) W 2 (k : Int) hW (by omega))
  have HA := Lib.hid (fun W c hW => advance_any (f := f) (W0 := W0) (B := B) (a := a) (p := p') (t := t) (s := s) (s' := s') (v1 := v1) (na := na) (e := 0) (c := c) (r := r') W hg hW hle hL htl)
  obtain ⟨_, ⟨_, c1, _, _, c4, _, _⟩, _, _⟩ := h.cells
  have HH := Lib.hid h
  have hnw := h.names hvs
  obtain ⟨ad, cap, hv1, hcell⟩ := hnw
  obtain ⟨b, off, hab, _⟩ := hcell k (sv s) (by rw [List.getElem?_map, hk]; rfl)
  have hIc : ∀ j, j < (vs.map str).length → w.cell? ⟨b, off + j, none⟩ = some (.string ((vs.map str).getD j ByteArray.empty)) := fun j hj => by
    rw [List.length_map] at hj
    obtain ⟨b', off', e1, e2⟩ := hcell j (sv vs[j]) (by rw [List.getElem?_map, List.getElem?_eq_getElem hj]; rfl)
    rw [hab] at e1
    cases e1
    rw [e2, List.getD_eq_getElem?_getD, List.getElem?_map, List.getElem?_eq_getElem hj]
    rfl
  have hI := fun m => S.slices_Index_string b off vs.length cap (vs.map str) (str s) (w.drewN m) (by rw [List.length_map]; exact Nat.le_refl _) (by omega) hIc
  rw [List.take_of_length_le (by rw [List.length_map]; exact Nat.le_refl _), idx_str vs s k hk hn] at hI
  rw [hab, List.length_map] at hv1
  obtain ⟨n, hnn⟩ : ∃ n, vs.length = n := ⟨_, rfl⟩
  rw [hnn] at hI hv1
  rw [hv1] at c1
  have HI := Lib.hid hI
  have hk0 : ¬ (k : Int) < 0 := by omega
  unfold sv at c4
  clear h hle hL htl hb hg hk hn hcell hI hv1 hnn hvs hvl hab hIc
  go_enter Tryz.func88, Tryz.ntmps88
  go_wp2_with fail
  go_quiet ((go_at_call 92; exact Calls.quiet_of_same (HI.out _)))
  go_wp2_with (first | (go_at_call 58; refine (HP.out _ (HH.out.drewN _)).mono ?_; rintro _ w2 ⟨rfl, hr2⟩; have HR2 := Lib.hid hr2; clear hr2) | (go_at_call 15; refine (HA.out _ _ HR2.out).mono ?_; rintro _ w3 ⟨rfl, hr3, ha3⟩; have HR3 := Lib.hid hr3; have HA3 := Lib.hid ha3; clear hr3 ha3))
  go_ret
  exact out_ok rfl HA3.out HR3.out
end
end Go.Proofs.YtbeidmkhpcnbbaaGreatDoor.I
