/-
  Contract of the program of layer 4: Show.
-/
import Derived.Test.YtbeidmkhpcnbbaaGreatDoorIPShG
import Derived.Test.YtbeidmkhpcnbbaaGreatDoorEPCheck
import Derived.Test.YtbeidmkhpcnbbaaGreatDoorEPStep
namespace Go.Proofs.YtbeidmkhpcnbbaaGreatDoor.I
open Go Go.RowKit Go.Proofs.YtbeidmkhpcnbbaaGreatDoor.B Go.Proofs.YtbeidmkhpcnbbaaGreatDoor.K Go.Proofs.YtbeidmkhpcnbbaaGreatDoor.E
set_option linter.unusedVariables false

theorem putter_any (v1 : Value) (h1 : ∃ a n c, v1 = .slice a n c) (w : World) : Calls Tryz.prog 11 #[v1] w fun e w' => e = .returned (.func (.func 23) #[] #[.pointer (some ⟨w.heap.size, 0, none⟩)]) ∧ w' = w.alloc (.cells #[v1] 23) := by
  obtain ⟨a, n, c, rfl⟩ := h1
  go_enter Tryz.func11, Tryz.ntmps11
  go_wp2_with fail
  go_ret
  exact ⟨rfl, rfl⟩

theorem push_ok (nv na : Int) (st : List Ex) (i : In) (hr : right i nv na = true) (ht0 : 0 ≤ takes i.1) (ht : takes i.1 ≤ (st.length : Int)) (hwf : ∀ e ∈ st, WF nv na e) :
    (∀ e ∈ push st i, WF nv na e) ∧ flat (push st i) = flat st ++ [i] ∧ ((push st i).length : Int) = (st.length : Int) - takes i.1 + 1 := by
  obtain ⟨o, x⟩ := i
  simp only at ht0 ht
  have key : ∀ (e : Ex) (r : List Ex), push st (o, x) = e :: r → WF nv na e → (∀ e ∈ r, WF nv na e) → flat (e :: r) = flat st ++ [(o, x)] → ((r.length : Nat) : Int) = st.length - takes o →
      (∀ e ∈ push st (o, x), WF nv na e) ∧ flat (push st (o, x)) = flat st ++ [(o, x)] ∧ ((push st (o, x)).length : Int) = (st.length : Int) - takes o + 1 := by
    intro e r h1 h2 h3 h4 h5
    rw [h1]
    refine ⟨fun e' he => ?_, h4, by rw [List.length_cons]; omega⟩
    rcases List.mem_cons.1 he with rfl | h
    · exact h2
    · exact h3 e' h
  rcases right_cases (o, x) nv na hr with ⟨h1, h2⟩ | ⟨h1, h2, h3⟩ | ⟨h1, h2, h3⟩ | ⟨n1, n2, n3, h4⟩
  · simp only at h1 h2; subst h1
    exact key (.con x) st rfl h2 hwf (by rw [flat_cons]; rfl) (by rw [show takes 1 = 0 from by decide]; omega)
  · simp only at h1 h2 h3; subst h1
    obtain ⟨k, rfl⟩ := Int.eq_ofNat_of_zero_le h2
    exact key (.var k) st rfl h3 hwf (by rw [flat_cons]; rfl) (by rw [show takes 2 = 0 from by decide]; omega)
  · simp only at h1 h2 h3; subst h1
    obtain ⟨k, rfl⟩ := Int.eq_ofNat_of_zero_le h2
    exact key (.arg k) st rfl h3 hwf (by rw [flat_cons]; rfl) (by rw [show takes 3 = 0 from by decide]; omega)
  · simp only at n1 n2 n3 h4; subst h4
    rcases takes_is o with ⟨h, _⟩ | ⟨h, h5⟩ | ⟨h, h5⟩ | ⟨h, h5⟩ | ⟨_, h5⟩
    · omega
    · match st, ht, hwf with
      | [], ht, _ => simp at ht; omega
      | a :: r, ht, hwf =>
        exact key (.un o a) r (by rcases h with rfl | rfl <;> rfl) ⟨h, hwf a (by simp)⟩ (fun e he => hwf e (by simp [he])) (by rw [flat_cons, flat_cons]; simp [codeOf]) (by rw [h5, List.length_cons]; omega)
    · match st, ht, hwf with
      | [], ht, _ => simp at ht; omega
      | [_], ht, _ => simp at ht; omega
      | b :: a :: r, ht, hwf =>
        exact key (.bin o a b) r (by
          unfold push
          rw [if_neg (by show ¬ takes o = 0; omega), if_neg (by show ¬ takes o = 1; omega), if_pos (show takes o = 2 from h5)]) ⟨h5, hwf a (by simp), hwf b (by simp)⟩ (fun e he => hwf e (by simp [he])) (by rw [flat_cons, flat_cons, flat_cons]; simp [codeOf]) (by rw [h5]; simp only [List.length_cons]; omega)
    · subst h
      match st, ht, hwf with
      | [], ht, _ => simp at ht; omega
      | [_], ht, _ => simp at ht; omega
      | [_, _], ht, _ => simp at ht; omega
      | c :: b :: a :: r, ht, hwf =>
        exact key (.ite a b c) r rfl ⟨hwf a (by simp), hwf b (by simp), hwf c (by simp)⟩ (fun e he => hwf e (by simp [he])) (by rw [flat_cons, flat_cons, flat_cons, flat_cons]; simp [codeOf]) (by rw [h5]; simp only [List.length_cons]; omega)
    · omega

theorem flat_mem (st : List Ex) (e : Ex) (h : e ∈ st) : (codeOf e).length ≤ (flat st).length := by
  induction st with
  | nil => cases h
  | cons a r ih =>
    rw [flat_cons, List.length_append]
    rcases List.mem_cons.1 h with rfl | h
    · omega
    · have := ih h; omega

theorem ret_si' {a a' : ByteArray} {b b' : Int} (h : a = a') (h' : b = b') : Ending.returned (.tuple #[.string a, .int .i64 b]) = .returned (.tuple #[.string a', .int .i64 b']) := by rw [h, h']

set_option maxHeartbeats 4000000 in
set_option maxRecDepth 100000 in
theorem show_any (code : List In) (vs : List Bs) (na : Int) (v v1 : Value) (w : World) (hg : Glob w) (hs : SlI w v code) (hn : Names w v1 vs) (hl : code.length ≤ 9223372036854775807) (hvl : vs.length ≤ 1000000) (hna : na ≤ 9223372036854775807) (hV : ∀ s ∈ vs, s.length ≤ 1099511627776) :
    Calls Tryz.prog 6 #[v, v1, .int .i64 na] w fun e w' => e = .returned (.tuple #[sv (showOf vs na code).1, .int .i64 (showOf vs na code).2]) ∧ Below w.heap.size w w' := by
  have HS := Lib.hid hs
  have HNM := Lib.hid hn
  have HG := Lib.hid hg
  have HV := Lib.hid hV
  have HVL := Lib.hid hvl
  have HNA := Lib.hid hna
  obtain ⟨a, cap, rfl, -⟩ := hs
  obtain ⟨a1, cap1, rfl⟩ : ∃ a1 cap1, v1 = .slice a1 vs.length cap1 := by
    obtain ⟨a1, cap1, rfl, _⟩ := hn
    rw [List.length_map]
    exact ⟨a1, cap1, rfl⟩
  have hck := check_any code (.slice a code.length cap) vs.length na w HS.out hl
  obtain ⟨⟨p, er⟩, hE⟩ : ∃ t, check code vs.length na = t := ⟨_, rfl⟩
  have her : (check code vs.length na).2 = er := by rw [hE]
  rw [hE] at hck
  have HCK := Lib.hid hck
  clear hck hE hn hg hV hvl hna
  by_cases he : er = 0
  · subst he
    have hsh := showOf_good vs na code her
    obtain ⟨hw, hcode⟩ := exOf_is code vs.length na her
    obtain ⟨_, _, h31, hcr⟩ := check_ok code _ _ her
    have hall : code.foldl push [] = [exOf code] := by
      have h := push_code vs.length na (exOf code) hw []
      rw [hcode] at h
      exact h
    rw [hsh]
    obtain ⟨E0, hE0⟩ : ∃ E0, exOf code = E0 := ⟨_, rfl⟩
    rw [hE0] at hall ⊢
    have HALL := Lib.hid hall
    have HCR := Lib.hid hcr
    have HPT := Lib.hid (fun W => putter_any (.slice a1 vs.length cap1) ⟨_, _, _, rfl⟩ W)
    obtain ⟨n, hN⟩ : ∃ n, code.length = n := ⟨_, rfl⟩
    obtain ⟨nv, hNV⟩ : ∃ nv, vs.length = nv := ⟨_, rfl⟩
    rw [hN] at HCK h31 HS ⊢
    rw [hNV] at HCK HPT HNM ⊢
    have HN := Lib.hid hN
    have HNV := Lib.hid hNV
    have HL := Lib.hid h31
    clear hsh hw hcode hcr her hall hE0 hN hNV h31 hl
    unfold sv
    go_enter Tryz.func6, Tryz.ntmps6
    go_wp2_with (first | (go_at_call 10; refine HCK.out.mono ?_; rintro _ w1 ⟨rfl, hb1⟩; have HB1 := Lib.hid hb1; clear hb1) | (go_at_call 11; refine (HPT.out _).mono ?_; rintro _ w2 ⟨rfl, hw2⟩; have HW2 := Lib.hid hw2; clear hw2))
    have hw2 := HW2.out
    have hb2 : Below w.heap.size w w2 := by rw [hw2]; exact HB1.out.alloc HB1.out.size _
    have hbx : w2.cell? ⟨w1.heap.size, 0, none⟩ = some (.slice a1 nv cap1) := by
      rw [hw2, cell_of_row _ _ _ _ _ _ (heap_alloc_at w1 _)]; rfl
    have hlt2 : w1.heap.size < w2.heap.size := by rw [hw2]; simp
    have HB2 := Lib.hid hb2
    have HBX := Lib.hid hbx
    have HLT := Lib.hid hlt2
    clear hw2 hb2 hbx hlt2 HCK HPT HB1 HW2
    go_loopw [11, 29] (fun l k wr => ∃ (K : Nat) (st : List Ex), k = .int .i64 (K : Int) ∧ K ≤ n ∧ Hid (RowP wr w2.heap.size l (st.reverse.map (pc vs))) ∧ Hid (st = (code.take K).foldl push [] ∧ flat st = code.take K ∧ st.length ≤ K) ∧ Hid (∀ e ∈ st, WF vs.length na e) ∧ Hid (crun vs.length na (code.drop K) (st.length : Nat) = .ok 1) ∧ Hid (Below w2.heap.size w2 wr)) (fun _ k _ => n - (intOf k).toNat)
    case atStart => exact ⟨0, [], rfl, Nat.zero_le _, Lib.hid (World.ownsRow_nil _ _ _ _), Lib.hid ⟨rfl, rfl, Nat.le_refl _⟩, Lib.hid (fun e h => by cases h), HCR, Lib.hid (Below.refl _ _)⟩
    case round =>
      obtain ⟨K, st, rfl, hK, HRW, HST, HWF, HC, HBE⟩ := hrel
      by_cases hlt : K < n
      · obtain ⟨⟨o, x⟩, hi⟩ : ∃ i, code[K]? = some i := ⟨_, List.getElem?_eq_getElem (by rw [HN.out]; exact hlt)⟩
        obtain ⟨h1, h2, h3, h4⟩ := crun_at _ _ _ _ _ hi _ _ HC.out
        obtain ⟨q1, q2, q3⟩ := push_ok vs.length na st (o, x) h2 h1 h3 HWF.out
        have hbw : Below w.heap.size w _ := HB2.out.trans (HBE.out.mono HB2.out.size)
        obtain ⟨b, off, rfl, k0, k1⟩ := (HS.out.below hbw).at hi
        have hltI : (K : Int) < (n : Int) := by omega
        have hwK : IntKind.i64.wrap ((K : Int) + 1) = (K : Int) + 1 := IntWalk.i64_in _ (by have := HL.out; omega)
        obtain ⟨X, hX⟩ : ∃ X, (Obj.cells #[.int .i64 o, .int .i64 x] 39 (0, 0)) = X := ⟨_, rfl⟩
        have hlen : ∀ e ∈ st, (text vs e).length ≤ 35184372088832 := by
          intro e he
          have t1 := text_le vs 1099511627776 vs.length na HNA.out HV.out e (HWF.out e he)
          have t2 := flat_mem st e he
          rw [HST.out.2.1, List.length_take] at t2
          have t3 := HL.out
          have t4 : (codeOf e).length ≤ 31 := by omega
          have t5 := Nat.mul_le_mul_left (1099511627776 + 40) t4
          omega
        have hal := (Below.refl wr.heap.size wr).alloc (Nat.le_refl _) X
        have hbw2 : Below w.heap.size w (wr.alloc X) := hbw.trans (hal.mono hbw.size)
        have hgw := HG.out.below hbw2
        have hbxw : (wr.alloc X).cell? ⟨w1.heap.size, 0, none⟩ = some (.slice a1 nv cap1) :=
          cell_kept hal (((bcell HBE.out).1 _ _ HLT.out).trans HBX.out)
        have HSTEP := Lib.hid (step_any (base := w2.heap.size) (bx := w1.heap.size) vs na st (o, x) HNA.out h2 h1 h3 HWF.out hlen (by have := HST.out.2.2; have := HL.out; omega) (Sl.below HNM.out hbw2) HVL.out (fun s hs => by have := HV.out s hs; omega) hgw hbxw (HRW.out.below hal) (by have := HBE.out.size; simp; omega))
        have HNEXT := Lib.hid (show push st (o, x) = (code.take (K + 1)).foldl push [] ∧ flat (push st (o, x)) = code.take (K + 1) ∧ (push st (o, x)).length ≤ K + 1 by
          refine ⟨by rw [List.take_add_one, hi, List.foldl_append, ← HST.out.1]; rfl, by rw [q2, HST.out.2.1, List.take_add_one, hi]; rfl, ?_⟩
          have := HST.out.2.2
          omega)
        have HWF2 := Lib.hid q1
        have HC2 := Lib.hid (show crun vs.length na (code.drop (K + 1)) ((push st (o, x)).length : Nat) = .ok 1 by rw [q3]; exact h4)
        have HBAL := Lib.hid (show Below w2.heap.size w2 (wr.alloc X) from HBE.out.alloc HBE.out.size X)
        subst hX
        clear hi h1 h2 h3 h4 q1 q2 q3 hlen hal hbw2 hgw hbxw hbw
        go_wp2_with (go_at_call 23; refine HSTEP.out.mono ?_; rintro _ w5 ⟨⟨v5, rfl, hr5⟩, hb5⟩; have HR5 := Lib.hid hr5; have HB5 := Lib.hid (HBAL.out.trans hb5); clear hr5 hb5)
        go_roundw
        case rel => exact ⟨K + 1, push st (o, x), by go_num, by omega, HR5, HNEXT, HWF2, HC2, HB5⟩
        case measure => simp [intOf]; omega
      · have hltI : ¬ (K : Int) < (n : Int) := by omega
        obtain rfl : K = n := by omega
        have hst := HST.out.1
        rw [List.take_of_length_le (by rw [HN.out]; exact Nat.le_refl _), HALL.out] at hst
        subst hst
        obtain ⟨g, cp, hv, _, _, _, _, hcells⟩ := row_form HRW.out (by simp)
        obtain ⟨k0, _⟩ := hcells 0 (pc vs E0) rfl
        rw [show ([E0].reverse.map (pc vs)).length = 1 from rfl] at hv
        subst hv
        rw [Nat.zero_mul] at k0
        have k0' : wr.cell? ⟨g, 0, none⟩ = some (.string (str (text vs E0))) := k0
        clear k0 hcells HRW HST HWF HC
        go_wp2_with fail
        go_ret2
        exact ⟨rfl, HB2.out.trans (HBE.out.mono HB2.out.size)⟩
  · have hsh := showOf_bad vs na code (by rw [her]; exact he)
    rw [her] at hsh
    rw [hsh]
    have be : (er != 0) = true := by simp [he]
    clear he hsh her
    unfold sv
    go_enter Tryz.func6, Tryz.ntmps6
    go_wp2_with (go_at_call 10; refine HCK.out.mono ?_; rintro _ w1 ⟨rfl, hb1⟩; have HB1 := Lib.hid hb1; clear hb1)
    go_ret2
    exact ⟨rfl, HB1.out⟩
end Go.Proofs.YtbeidmkhpcnbbaaGreatDoor.I
