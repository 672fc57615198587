/-
  Layer 9, the program: slices.SortFunc of few texts, in order.
-/
import Derived.Test.YtbpphghphfbogaaP9Pf
namespace Go.Proofs.Ytbpphghphfbogaa.P8
open Go Go.RowKit Go.Shelf Go.Proofs Go.Proofs.Ytbpphghphfbogaa.B Go.Proofs.Ytbpphghphfbogaa.K
set_option linter.unusedVariables false
set_option maxRecDepth 100000

def Ord (l : List (List UInt8)) : Prop := l.Pairwise fun a b => lessL b a = false
theorem ent_comp : Ent 61 := fun args w => enters_of Try.func61 (by kernel_rfl) rfl args w
theorem comp_q (a b : List UInt8) (w : World) :
    Calls Try.prog 61 #[.string (str a), .string (str b)] w fun e w' => e = .returned (.int .i64 (Lib.compareBytes a b)) ∧ ∃ m, w' = w.drewN m :=
  (comp_any a b w).mono fun e w' h => ⟨h.1, 0, by rw [← h.2]; rfl⟩
theorem swap_perm (A C D : List (List UInt8)) (x y : List UInt8) : (A ++ [x] ++ [y] ++ C ++ D).Perm (A ++ [y] ++ [x] ++ C ++ D) := by
  refine List.Perm.append_right _ (List.Perm.append_right _ ?_)
  rw [List.append_assoc, List.append_assoc]
  exact List.Perm.append_left _ (List.Perm.swap _ _ _)
theorem two_set (A B : List (List UInt8)) (x y u v : List UInt8) (j : Nat) (hj : A.length = j) : ((A ++ [x] ++ [y] ++ B).set (j + 1) u).set j v = A ++ [v] ++ [u] ++ B := by
  subst hj
  simp

set_option maxHeartbeats 4000000 in
theorem insertion_any (xs : List (List UInt8)) (g cap : Nat) (w : World) (hR : Rw w g cap xs) (hn : xs.length ≤ 12) :
    Calls Try.prog 76 #[.slice (some ⟨g, 0, none⟩) xs.length cap, .int .i64 0, .int .i64 (xs.length : Int), .func (.func 61) #[] #[]] w fun e w' =>
      e = .returned (.tuple #[]) ∧ ∃ ys, Rw w' g cap ys ∧ ys.Perm xs ∧ Ord ys ∧ Tg g w w' := by
  obtain ⟨N, hN⟩ : ∃ N, xs.length = N := ⟨_, rfl⟩
  have HR := Lib.hid hR
  have HN := Lib.hid hN
  rw [hN] at hn ⊢
  have ecmp := ent_comp
  unfold Ent at ecmp
  clear hR hN
  have hw01 : IntKind.i64.wrap ((0 : Int) + 1) = 1 := rfl
  go_enter Try.func76, Try.ntmps76
  go_wp2_with fail
  go_loopg [8] N (fun gg i wr => ∃ (I : Nat) (ys : List (List UInt8)), i = .int .i64 (I : Int) ∧ 1 ≤ I ∧ I + gg = N + 1 ∧ Hid (Rw wr g cap ys ∧ ys.Perm xs ∧ Ord (ys.take I) ∧ Tg g w wr))
  case atStart => exact ⟨1, xs, rfl, Nat.le_refl _, by omega, Lib.hid ⟨HR.out, List.Perm.refl _, by cases xs <;> simp [Ord], Tg.refl _ _⟩⟩
  case round =>
    obtain ⟨I, ys, rfl, h1, hIg, HJ⟩ := hrel
    have HYN := Lib.hid (show ys.length = N by rw [HJ.out.2.1.length_eq, HN.out])
    by_cases hlt : I < N
    · have hltI : (I : Int) < (N : Int) := by omega
      have hwI : IntKind.i64.wrap ((I : Int) + 1) = (I : Int) + 1 := IntWalk.i64_in _ (by omega)
      go_wp2_with fail
      have HLT := Lib.hid (And.intro hlt hIg)
      clear hIg
      obtain ⟨x, hx⟩ : ∃ x, ys[I]? = some x := ⟨_, List.getElem?_eq_getElem (by rw [HYN.out]; exact hlt)⟩
      have hys : ys = ys.take I ++ [x] ++ [] ++ ys.drop (I + 1) := by
        rw [List.append_nil]
        conv => lhs; rw [← List.take_append_drop (I + 1) ys]
        rw [List.take_add_one, hx]; rfl
      have HYS := Lib.hid hys
      have HW := Lib.hid HJ.out.2.2.2
      clear hys hx
      go_loopg [9] I (fun g2 j wi => ∃ (J : Nat) (A C : List (List UInt8)), j = .int .i64 (J : Int) ∧ J ≤ I ∧ J ≤ g2 ∧ Hid (A.length = J ∧ A.length + C.length = I ∧ Rw wi g cap (A ++ [x] ++ C ++ ys.drop (I + 1)) ∧ (A ++ [x] ++ C ++ ys.drop (I + 1)).Perm xs ∧ Ord (A ++ C) ∧ (∀ c ∈ C, lessL x c = true) ∧ Tg g w wi))
      case atStart => exact ⟨I, ys.take I, [], rfl, Nat.le_refl _, Nat.le_refl _, Lib.hid ⟨by rw [List.length_take, HYN.out]; omega, by rw [List.length_take, HYN.out]; simp; omega, by rw [← HYS.out]; exact HJ.out.1, by rw [← HYS.out]; exact HJ.out.2.1, by rw [List.append_nil]; exact HJ.out.2.2.1, (fun c hc => by cases hc), HW.out⟩⟩
      case round =>
        obtain ⟨J, A, C, rfl, hJI, hJg, HI⟩ := hrel
        have OUT := Lib.hid (fun (hA : ∀ y, A.getLast? = some y → lessL x y = false) => show Ord ((A ++ [x] ++ C ++ ys.drop (I + 1)).take (I + 1)) by
          rw [List.take_append_of_le_length (by simp; have := HI.out.2.1; omega), List.take_of_length_le (by simp; have := HI.out.2.1; omega)]
          exact pairwise_ins HI.out.2.2.2.2.1 HI.out.2.2.2.2.2.1 hA)
        by_cases hJ : 0 < J
        · obtain ⟨jp, rfl⟩ : ∃ jp, J = jp + 1 := ⟨J - 1, by omega⟩
          obtain ⟨A', y, rfl⟩ : ∃ A' y, A = A' ++ [y] := by
            rcases List.eq_nil_or_concat A with rfl | ⟨A', y, rfl⟩
            · exact absurd HI.out.1 (by simp)
            · exact ⟨A', y, by rw [List.concat_eq_append]⟩
          have hA' : A'.length = jp := by have := HI.out.1; simp at this; exact this
          have HA := Lib.hid hA'
          have hxs : A' ++ [y] ++ [x] ++ C ++ ys.drop (I + 1) = A' ++ [y] ++ [x] ++ (C ++ ys.drop (I + 1)) := by simp
          have hcx := HI.out.2.2.1.cell (j := jp + 1) (x := x) (by rw [hxs, ← hA']; simp)
          have hcy := HI.out.2.2.1.cell (j := jp) (x := y) (by rw [hxs, ← hA']; simp)
          obtain ⟨hcx1, hcx2⟩ := hcx
          obtain ⟨hcy1, hcy2⟩ := hcy
          have hJ0 : (0 : Int) < (jp : Int) + 1 := by omega
          have hgt : decide ((0 : Int) < (jp : Int) + 1) = true := decide_eq_true hJ0
          have hwp : IntKind.i64.wrap (jp : Int) = (jp : Int) := IntWalk.i64_in _ (by omega)
          have jz : (jp : Int) + 1 < (N : Int) := by omega
          have jz1 : (jp : Int) < (N : Int) := by omega
          have p0 : (0 : Int) ≤ (jp : Int) + 1 := by omega
          have p1 : (0 : Int) ≤ (jp : Int) := by omega
          have e0 : ((jp : Int) + 1).toNat = jp + 1 := by omega
          have HCQ := Lib.hid (fun W => comp_q x y W)
          have hless := cmp_less x y
          obtain ⟨c, hc⟩ : ∃ c, Lib.compareBytes x y = c := ⟨_, rfl⟩
          rw [hc] at HCQ hless
          have HLS := Lib.hid hless
          have HXS := Lib.hid hxs
          clear hless hc hA' hxs
          by_cases hcl : c < 0
          · go_wp2_with fail
            go_quiet (first | (go_at_call 61; exact Calls.quiet_of (HCQ.out _)) | (go_at_fn 61; exact Calls.quiet_of (HCQ.out _)))
            go_wp2_with fail
            go_region
            go_wp2_with fail
            go_roundg jp
            case measure => omega
            case rel =>
              have hb2 := below_drewN wr (nq + 1)
              have hR2 := ((HI.out.2.2.1.below hb2).set (j := jp + 1) y).set (j := jp) x
              have he : ((A' ++ [y] ++ [x] ++ C ++ ys.drop (I + 1)).set (jp + 1) y).set jp x = A' ++ [x] ++ (y :: C) ++ ys.drop (I + 1) := by
                rw [HXS.out, two_set _ _ _ _ _ _ _ HA.out]; simp
              rw [he] at hR2
              refine ⟨jp, A', y :: C, by go_num, by omega, by omega, Lib.hid ⟨HA.out, ?_, hR2, ?_, ?_, ?_, ((HI.out.2.2.2.2.2.2.trans (Tg.of_below hb2)).trans (Tg.set _ _ _ _)).trans (Tg.set _ _ _ _)⟩⟩
              · have := HI.out.2.1
                simp at this ⊢
                omega
              · refine List.Perm.trans ?_ HI.out.2.2.2.1
                have := swap_perm A' C (ys.drop (I + 1)) x y
                simpa using this
              · have := HI.out.2.2.2.2.1
                simpa using this
              · intro c' hc'
                rcases List.mem_cons.1 hc' with rfl | hc'
                · rw [← HLS.out]; exact decide_eq_true hcl
                · exact HI.out.2.2.2.2.2.1 c' hc'
          · go_wp2_with fail
            go_quiet (first | (go_at_call 61; exact Calls.quiet_of (HCQ.out _)) | (go_at_fn 61; exact Calls.quiet_of (HCQ.out _)))
            go_wp2_with fail
            go_roundg (N - I)
            case measure => have := HLT.out; omega
            case rel =>
              have hb2 := below_drewN wr nq
              exact ⟨I + 1, _, by go_num, by omega, by have := HLT.out; omega, Lib.hid ⟨HI.out.2.2.1.below hb2, HI.out.2.2.2.1, OUT.out (fun y' hy' => by
                simp at hy'; subst hy'; rw [← HLS.out]; exact decide_eq_false (by omega)), HI.out.2.2.2.2.2.2.trans (Tg.of_below hb2)⟩⟩
        · obtain rfl : J = 0 := by omega
          have hgt : decide ((0 : Int) < 0) = false := by decide
          go_wp2_with fail
          go_quiet (fail)
          go_wp2_with fail
          go_roundg (N - I)
          case measure => have := HLT.out; omega
          case rel =>
            have hb2 := below_drewN wr nq
            exact ⟨I + 1, _, by go_num, by omega, by have := HLT.out; omega, Lib.hid ⟨HI.out.2.2.1.below hb2, HI.out.2.2.2.1, OUT.out (fun y' hy' => by
              rw [List.length_eq_zero_iff.1 HI.out.1] at hy'; cases hy'), HI.out.2.2.2.2.2.2.trans (Tg.of_below hb2)⟩⟩
    · have hltI : ¬ (I : Int) < (N : Int) := by omega
      have HE := Lib.hid (show I ≥ N by omega)
      clear hltI
      go_wp2_with fail
      go_end0
      exact ⟨rfl, ys, HJ.out.1, HJ.out.2.1, by have := HJ.out.2.2.1; rwa [List.take_of_length_le (by rw [HYN.out]; exact HE.out)] at this, HJ.out.2.2.2⟩

set_option maxHeartbeats 2000000 in
theorem len64_any (n : Nat) (w : World) (hn : n ≤ 8) : Calls Try.prog 85 #[.int .u64 (n : Int)] w fun e w' => ∃ k : Int, e = .returned (.int .i64 k) ∧ w = w' := by
  have h : n = 0 ∨ n = 1 ∨ n = 2 ∨ n = 3 ∨ n = 4 ∨ n = 5 ∨ n = 6 ∨ n = 7 ∨ n = 8 := by omega
  rcases h with rfl | rfl | rfl | rfl | rfl | rfl | rfl | rfl | rfl
  all_goals
    go_enter Try.func85, Try.ntmps85
    go_wp2_with fail
    go_ret
    exact ⟨_, rfl, rfl⟩

set_option maxHeartbeats 1000000 in
theorem len_any (n : Nat) (w : World) (hn : n ≤ 8) : Calls Try.prog 72 #[.int .u64 (n : Int)] w fun e w' => ∃ k : Int, e = .returned (.int .i64 k) ∧ w = w' := by
  have HL := Lib.hid (fun W => len64_any n W hn)
  have hc : IntKind.u64.wrap (n : Int) = (n : Int) := by
    have h : n = 0 ∨ n = 1 ∨ n = 2 ∨ n = 3 ∨ n = 4 ∨ n = 5 ∨ n = 6 ∨ n = 7 ∨ n = 8 := by omega
    rcases h with rfl | rfl | rfl | rfl | rfl | rfl | rfl | rfl | rfl <;> rfl
  go_enter Try.func72, Try.ntmps72
  go_wp2_with (go_at_call 85; refine (HL.out _).mono ?_; rintro _ w1 ⟨k, rfl, rfl⟩)
  go_ret
  exact ⟨_, rfl, rfl⟩

set_option maxHeartbeats 2000000 in
theorem pdq_any (xs : List (List UInt8)) (g cap : Nat) (k : Int) (w : World) (hR : Rw w g cap xs) (hn : xs.length ≤ 12) :
    Calls Try.prog 71 #[.slice (some ⟨g, 0, none⟩) xs.length cap, .int .i64 0, .int .i64 (xs.length : Int), .int .i64 k, .func (.func 61) #[] #[]] w fun e w' =>
      e = .returned (.tuple #[]) ∧ ∃ ys, Rw w' g cap ys ∧ ys.Perm xs ∧ Ord ys ∧ Tg g w w' := by
  have HI := Lib.hid (insertion_any xs g cap w hR hn)
  obtain ⟨N, hN⟩ : ∃ N, xs.length = N := ⟨_, rfl⟩
  rw [hN] at HI hn ⊢
  have hw : IntKind.i64.wrap ((N : Int) - 0) = (N : Int) := by rw [Int.sub_zero]; exact IntWalk.i64_in _ (by omega)
  have hw2 : IntKind.i64.wrap (N : Int) = (N : Int) := IntWalk.i64_in _ (by omega)
  have h12 : (N : Int) ≤ 12 := by omega
  clear hR hN hn
  go_enter Try.func71, Try.ntmps71
  go_wp2_with fail
  go_loopg [1, 2] 0 (fun gg a b wr => a = .int .i64 0 ∧ b = .int .i64 (N : Int) ∧ w = wr)
  case atStart => exact ⟨rfl, rfl, rfl⟩
  case round =>
    obtain ⟨rfl, rfl, rfl⟩ := hrel
    go_wp2_with (go_at_call 76; refine HI.out.mono ?_; rintro _ w1 ⟨rfl, ys, h1, h2, h3, h4⟩; have H := Lib.hid (And.intro h1 (And.intro h2 (And.intro h3 h4))); clear h1 h2 h3 h4)
    refine bodyPost_ret (results_none rfl _ _ _) rfl ?_
    exact ⟨rfl, ys, H.out⟩

set_option maxHeartbeats 2000000 in
theorem sort_any (xs : List (List UInt8)) (g cap : Nat) (w : World) (hR : Rw w g cap xs) (hn : xs.length ≤ 8) :
    Calls Try.prog 60 #[.slice (some ⟨g, 0, none⟩) xs.length cap, .func (.func 61) #[] #[]] w fun e w' =>
      e = .returned (.tuple #[]) ∧ ∃ ys, Rw w' g cap ys ∧ ys.Perm xs ∧ Ord ys ∧ Tg g w w' := by
  have HI := Lib.hid (fun k => pdq_any xs g cap k w hR (by omega))
  obtain ⟨N, hN⟩ : ∃ N, xs.length = N := ⟨_, rfl⟩
  rw [hN] at HI hn ⊢
  have HL := Lib.hid (fun W => len_any N W hn)
  have hc : IntKind.u64.wrap (N : Int) = (N : Int) := by
    have h : N = 0 ∨ N = 1 ∨ N = 2 ∨ N = 3 ∨ N = 4 ∨ N = 5 ∨ N = 6 ∨ N = 7 ∨ N = 8 := by omega
    rcases h with rfl | rfl | rfl | rfl | rfl | rfl | rfl | rfl | rfl <;> rfl
  clear hR hN
  go_enter Try.func60, Try.ntmps60
  go_wp2_with (first
    | (go_at_call 72; refine (HL.out _).mono ?_; rintro _ w1 ⟨k, rfl, rfl⟩)
    | (go_at_call 71; refine (HI.out _).mono ?_; rintro _ w1 ⟨rfl, ys, h1, h2, h3, h4⟩; have H := Lib.hid (And.intro h1 (And.intro h2 (And.intro h3 h4))); clear h1 h2 h3 h4))
  go_end0
  exact ⟨rfl, ys, H.out⟩

set_option maxHeartbeats 1000000 in
theorem insertion_nil (w : World) :
    Calls Try.prog 76 #[.slice none 0 0, .int .i64 0, .int .i64 0, .func (.func 61) #[] #[]] w fun e w' => e = .returned (.tuple #[]) ∧ w = w' := by
  have hw01 : IntKind.i64.wrap ((0 : Int) + 1) = 1 := rfl
  go_enter Try.func76, Try.ntmps76
  go_wp2_with fail
  go_loopg [8] 0 (fun gg i wr => i = .int .i64 1 ∧ w = wr)
  case atStart => exact ⟨rfl, rfl⟩
  case round =>
    obtain ⟨rfl, rfl⟩ := hrel
    go_wp2_with fail
    go_end0
    exact ⟨rfl, rfl⟩

set_option maxHeartbeats 1000000 in
theorem pdq_nil (k : Int) (w : World) :
    Calls Try.prog 71 #[.slice none 0 0, .int .i64 0, .int .i64 0, .int .i64 k, .func (.func 61) #[] #[]] w fun e w' => e = .returned (.tuple #[]) ∧ w = w' := by
  have HI := Lib.hid (fun W => insertion_nil W)
  have hw : IntKind.i64.wrap ((0 : Int) - 0) = 0 := rfl
  go_enter Try.func71, Try.ntmps71
  go_wp2_with fail
  go_loopg [1, 2] 0 (fun gg a b wr => a = .int .i64 0 ∧ b = .int .i64 0 ∧ w = wr)
  case atStart => exact ⟨rfl, rfl, rfl⟩
  case round =>
    obtain ⟨rfl, rfl, rfl⟩ := hrel
    go_wp2_with (go_at_call 76; refine (HI.out _).mono ?_; rintro _ w1 ⟨rfl, rfl⟩)
    refine bodyPost_ret (results_none rfl _ _ _) rfl ?_
    exact ⟨rfl, rfl⟩

set_option maxHeartbeats 1000000 in
theorem sort_nil (w : World) :
    Calls Try.prog 60 #[.slice none 0 0, .func (.func 61) #[] #[]] w fun e w' => e = .returned (.tuple #[]) ∧ w = w' := by
  have HI := Lib.hid (fun k W => pdq_nil k W)
  have HL := Lib.hid (fun W => len_any 0 W (by omega))
  have hc : IntKind.u64.wrap (0 : Int) = 0 := rfl
  go_enter Try.func60, Try.ntmps60
  go_wp2_with (first
    | (go_at_call 72; refine (HL.out _).mono ?_; rintro _ w1 ⟨k, rfl, rfl⟩)
    | (go_at_call 71; refine (HI.out _ _).mono ?_; rintro _ w1 ⟨rfl, rfl⟩))
  go_end0
  exact ⟨rfl, rfl⟩
end Go.Proofs.Ytbpphghphfbogaa.P8
