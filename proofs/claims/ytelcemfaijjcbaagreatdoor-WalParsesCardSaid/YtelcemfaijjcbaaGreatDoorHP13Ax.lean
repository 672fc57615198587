/-
  Layer 13, the program: Append, Sync and Trim of a log as it is told plainly.
  Layer 13, the program: Trim and the looks of a log as it is told plainly.
  Layer 13, plainly: what must come at any rate.
  Layer 13, the laws: a log of one's own; awake.
-/
import Derived.Test.YtelcemfaijjcbaaGreatDoorHP13Ls
import Derived.Test.YtelcemfaijjcbaaGreatDoorHP13Lm
import Derived.Test.YtelcemfaijjcbaaGreatDoorHP13Ll
import Derived.Test.YtelcemfaijjcbaaGreatDoorHP12Lb
namespace Go.Proofs.YtelcemfaijjcbaaGreatDoor.C13
open Go Go.RowKit Go.Proofs Go.Proofs.YtelcemfaijjcbaaGreatDoor.B Go.Proofs.YtelcemfaijjcbaaGreatDoor.K Go.Proofs.YtelcemfaijjcbaaGreatDoor.P8 Go.Proofs.YtelcemfaijjcbaaGreatDoor.C12
set_option linter.unusedVariables false
set_option maxRecDepth 100000
/-- A log as it is told plainly. -/
def OnL (B : Nat) (U : Nat → Prop) (lp d : Nat) (M : Int) (L : Lg) (w : World) : Prop := On B U lp d M L.D (gsOf L.l) (flatS L.l) L.u w
/-- What is small. -/
structure LOk (L : Lg) : Prop where
  link : Linked L.l
  num : ∀ a ∈ L.l, 0 ≤ a.n ∧ a.n < 100
  next : 0 ≤ nextS L.l ∧ nextS L.l < 100
  flat : (flatS L.l).length ≤ 1000
  len : L.l.length ≤ 700
  size : ∀ a ∈ L.l, (encL a.n a.rs).length ≤ 100000
theorem LOk.sm {L : Lg} (h : LOk L) : LSm (gsOf L.l) (flatS L.l) := ⟨by rw [gs_len]; have := h.len; omega, by have := h.flat; omega, by
  rw [gs_first]
  cases e : L.l with
  | nil => exact ⟨Int.le_refl _, by show (0 : Int) ≤ _; omega⟩
  | cons a t =>
    have := h.num a (by rw [e]; exact List.mem_cons_self ..)
    show 0 ≤ a.n ∧ a.n ≤ _
    omega⟩
theorem On.did {B : Nat} {U : Nat → Prop} {lp d : Nat} {M u : Int} {D : Dst} {gs : List (Int × Int)} {rs : List (List UInt8)} {w : World} (h : On B U lp d M D gs rs u w) : ∃ F G sg rv, PAt w F d D ∧ LIn w G lp d M sg rv gs rs u ∧ (∀ i, G i → ¬ F i) ∧
    ∀ D' gs' rs' u' w', LDid F G lp d M D' gs' rs' u' w w' → ∃ U', On B U' lp d M D' gs' rs' u' w' ∧ Chg U U' w w' := by
  obtain ⟨F, G, sg, rv, h1, h2, h3, h4, h5, h6⟩ := h
  refine ⟨F, G, sg, rv, h1, h2, h3, fun D' gs' rs' u' w' hd => ?_⟩
  obtain ⟨F', G', sg', rv', k1, k2, k3, k4⟩ := hd.open
  refine ⟨fun i => F' i ∨ G' i, ⟨F', G', sg', rv', k1, k2, k3, fun i => Iff.rfl, fun i hi => ?_, Nat.le_trans h6 k4.turn.size⟩, ⟨tn_mono k4.turn fun i hi => (h4 i).2 hi, fun i hi => ?_⟩⟩
  · rcases k4.new i hi with h | h
    · exact h5 i ((h4 i).2 h)
    · omega
  · rcases k4.new i hi with h | h
    · exact Or.inl ((h4 i).2 h)
    · exact Or.inr h
theorem gs_app (a b : List Seg) : gsOf (a ++ b) = gsOf a ++ gsOf b := List.map_append ..
theorem flat_app (a b : List Seg) : flatS (a ++ b) = flatS a ++ flatS b := by unfold flatS; exact List.flatMap_append ..
section
variable {w : World} {B lp d : Nat} {U : Nat → Prop} {M : Int} {L : Lg}
theorem on_sync (h : OnL B U lp d M L w) (hok : LOk L) (hu : L.l = [] → L.u = 0) : Calls Tryz.prog 25 #[.pointer (some ⟨lp, 0, none⟩)] w fun e w' => e = .returned (.int .i64 (syncG nmW L).2) ∧ ∃ U', OnL B U' lp d M (syncG nmW L).1 w' ∧ Chg U U' w w' := by
  obtain ⟨F, G, sg, rv, h1, h2, h3, h4⟩ := On.did h
  rcases List.eq_nil_or_concat L.l with e | ⟨i, s, e⟩
  · have hs : syncG nmW L = (⟨L.D, L.l, 0⟩, 0) := by unfold syncG; rw [e]; rfl
    rw [hs]
    rw [e] at h2
    refine (sync_empty h1 h2 h3).mono ?_
    rintro e2 w' ⟨he, hd⟩
    refine ⟨he, ?_⟩
    have hd2 : LDid F G lp d M L.D (gsOf L.l) (flatS L.l) 0 w w' := by
      have := hu e
      rw [e]
      rw [this] at hd
      exact hd
    exact h4 _ _ _ _ _ hd2
  · rw [List.concat_eq_append] at e
    have hm : s ∈ L.l := by rw [e]; exact List.mem_append_right _ (List.mem_singleton.2 rfl)
    obtain ⟨hn0, hn1⟩ := hok.num s hm
    obtain ⟨n, hn⟩ : ∃ n : Nat, s.n = (n : Int) := ⟨s.n.toNat, by omega⟩
    have hg : gsOf L.l = gsOf i ++ [((n : Int), ((encL s.n s.rs).length : Int))] := by rw [e, gs_app, ← hn]; rfl
    refine (sync_any h1 h2 h3 hok.sm hg (by omega)).mono ?_
    rintro e2 w' ⟨he, hd⟩
    have hx : nextG (gsOf L.l) (flatS L.l) = s.n + s.rs.length := by rw [gs_next hok.link, e]; exact next_snoc i s
    rw [hx] at hd
    have hs : syncG nmW L = if (syncD L.D (nmW s.n)).2 = 0 then (⟨(syncD L.D (nmW s.n)).1, L.l, s.n + s.rs.length⟩, 0) else (⟨(syncD L.D (nmW s.n)).1, L.l, L.u⟩, (syncD L.D (nmW s.n)).2) := by
      unfold syncG
      rw [e, List.getLast?_append]
      rfl
    rw [hs]
    rw [← hn] at hd he
    by_cases h0 : (syncD L.D (nmW s.n)).2 = 0
    · rw [if_pos h0] at hd ⊢
      exact ⟨by rw [he, h0], h4 _ _ _ _ _ hd⟩
    · rw [if_neg h0] at hd ⊢
      exact ⟨he, h4 _ _ _ _ _ hd⟩
theorem do_seg0 {F G : Nat → Prop} {D : Dst} {rs : List (List UInt8)} {u : Int} {W : World} (q : Int) (h : LDid F G lp d M D [] rs u w W) : Calls Tryz.prog 41 #[.pointer (some ⟨lp, 0, none⟩), .int .i64 q] W fun e w' => e = .returned (.tuple #[.int .i64 q, .int .i64 0]) ∧ LDid F G lp d M D [] rs u w w' := by
  obtain ⟨F', G', sg, rv, h1, h2, h3, h4⟩ := h.open
  refine (segFor_empty h1 h2 h3 q).mono ?_
  rintro e w' ⟨he, F2, G2, sg2, rv2, k1, k2, k3, k4⟩
  exact ⟨he, F2, G2, sg2, rv2, k1, k2, k3, h4.trans k4⟩
theorem do_segO {F G : Nat → Prop} {D : Dst} {gs : List (Int × Int)} {rs : List (List UInt8)} {u : Int} {W : World} (hl : LSm gs rs) {pre : List (Int × Int)} {n : Nat} {z q : Int} (hg : gs = pre ++ [((n : Int), z)]) (hn : n < 100) (hq : q ≤ 1099511627776) (hz : z < M) (h : LDid F G lp d M D gs rs u w W) : Calls Tryz.prog 41 #[.pointer (some ⟨lp, 0, none⟩), .int .i64 q] W fun e w' => e = .returned (.tuple #[.int .i64 (n : Int), .int .i64 0]) ∧ LDid F G lp d M D gs rs u w w' := by
  obtain ⟨F', G', sg, rv, h1, h2, h3, h4⟩ := h.open
  refine (segFor_old h1 h2 h3 hl hg hn hq hz).mono ?_
  rintro e w' ⟨he, F2, G2, sg2, rv2, k1, k2, k3, k4⟩
  exact ⟨he, F2, G2, sg2, rv2, k1, k2, k3, h4.trans k4⟩
theorem do_segN {F G : Nat → Prop} {D : Dst} {gs : List (Int × Int)} {rs : List (List UInt8)} {u : Int} {W : World} (hl : LSm gs rs) {pre : List (Int × Int)} {n : Nat} {z q : Int} (hg : gs = pre ++ [((n : Int), z)]) (hn : n < 100) (hq : q ≤ 1099511627776) (hz : ¬ z < M) (h : LDid F G lp d M D gs rs u w W) : Calls Tryz.prog 41 #[.pointer (some ⟨lp, 0, none⟩), .int .i64 q] W fun e w' => e = .returned (.tuple #[.int .i64 q, .int .i64 (syncD D (nmW n)).2]) ∧ LDid F G lp d M (syncD D (nmW n)).1 gs rs (if (syncD D (nmW n)).2 = 0 then nextG gs rs else u) w w' := by
  obtain ⟨F', G', sg, rv, h1, h2, h3, h4⟩ := h.open
  refine (segFor_new h1 h2 h3 hl hg hn hq hz).mono ?_
  rintro e w' ⟨he, F2, G2, sg2, rv2, k1, k2, k3, k4⟩
  exact ⟨he, F2, G2, sg2, rv2, k1, k2, k3, h4.trans k4⟩
theorem on_append {Mn : Nat} (h : OnL B U lp d (Mn : Int) L w) (hok : LOk L) (hu : L.l = [] → L.u = 0) (hM : 1 ≤ Mn) (r : List UInt8) (hr : r.length ≤ 1024) : Calls Tryz.prog 24 #[.pointer (some ⟨lp, 0, none⟩), .string (str r)] w fun e w' => e = .returned (.tuple #[.int .i64 (appG nmW Mn L r).2.1, .int .i64 (appG nmW Mn L r).2.2]) ∧ ∃ U', OnL B U' lp d (Mn : Int) (appG nmW Mn L r).1 w' ∧ Chg U U' w w' := by
  obtain ⟨F, G, sg, rv, h1, h2, h3, h4⟩ := On.did h
  rcases List.eq_nil_or_concat L.l with e | ⟨i, s, e⟩
  · have h0 := LDid.mk0 h1 h2 h3
    rw [e, hu e] at h0
    have hl : LSm (gsOf []) (flatS []) := by have := hok.sm; rw [e] at this; exact this
    have hb : appG nmW Mn L r = if (appendD L.D (nmW 0) (recB 0 r)).2 = 0 then (⟨(appendD L.D (nmW 0) (recB 0 r)).1, [⟨0, [r]⟩], 0⟩, 0, 0) else (⟨(appendD L.D (nmW 0) (recB 0 r)).1, [], 0⟩, 0, (appendD L.D (nmW 0) (recB 0 r)).2) := by
      unfold appG; rw [e]; rfl
    rw [hb]
    by_cases hE : (appendD L.D (nmW 0) (recB 0 r)).2 = 0
    · rw [if_pos hE]
      refine (app_new0 (into := 0) (q := 0) hl (by omega) rfl ⟨Int.le_refl _, by omega⟩ r hr h0 (fun W h => do_seg0 0 h) hE).mono ?_
      rintro e2 w' ⟨he, hd⟩
      refine ⟨he, h4 _ _ _ _ _ ?_⟩
      have e3 : gsOf [⟨0, [r]⟩] = [(((0 : Nat) : Int), ((recB 0 r).length : Int))] := by unfold gsOf encL encL; simp
      have e4 : flatS [(⟨0, [r]⟩ : Seg)] = flatS [] ++ [r] := rfl
      rw [e3, e4]
      exact hd
    · rw [if_neg hE]
      refine (app_ref (into := 0) (q := 0) hl (by omega) rfl ⟨Int.le_refl _, by omega⟩ r hr h0 (fun W h => do_seg0 0 h) hE).mono ?_
      rintro e2 w' ⟨he, hd⟩
      exact ⟨he, h4 _ _ _ _ _ hd⟩
  · rw [List.concat_eq_append] at e
    have hm : s ∈ L.l := by rw [e]; exact List.mem_append_right _ (List.mem_singleton.2 rfl)
    obtain ⟨hn0, hn1⟩ := hok.num s hm
    have hsz := hok.size s hm
    have hlen := hok.len
    obtain ⟨n, hn⟩ : ∃ n : Nat, s.n = (n : Int) := ⟨s.n.toNat, by omega⟩
    have hg : gsOf L.l = gsOf i ++ [((n : Int), ((encL s.n s.rs).length : Int))] := by rw [e, gs_app, ← hn]; rfl
    have hil : (gsOf i).length ≤ 800 := by rw [gs_len]; rw [e] at hlen; rw [List.length_append] at hlen; omega
    have hx : nextG (gsOf L.l) (flatS L.l) = s.n + s.rs.length := by rw [gs_next hok.link, e]; exact next_snoc i s
    have hxx : nextS L.l = s.n + s.rs.length := by rw [e]; exact next_snoc i s
    have hnx := hok.next
    rw [hxx] at hnx
    obtain ⟨q, hq⟩ : ∃ q : Nat, s.n + (s.rs.length : Int) = (q : Int) := ⟨(s.n + (s.rs.length : Int)).toNat, by omega⟩
    have h0 := LDid.mk0 h1 h2 h3
    have hl := hok.sm
    have hgl : L.l.getLast? = some s := by rw [e]; simp
    have hdl : L.l.dropLast = i := by rw [e]; simp
    by_cases hz : Mn ≤ (encL s.n s.rs).length
    · have hzI : ¬ ((encL s.n s.rs).length : Int) < (Mn : Int) := by omega
      have hS := fun W (h : LDid F G lp d (Mn : Int) L.D (gsOf L.l) (flatS L.l) L.u w W) => do_segN (q := (q : Int)) hl hg (by omega) (by omega) hzI h
      rw [hx, hq] at hS
      by_cases hy : (syncD L.D (nmW s.n)).2 = 0
      rotate_left 1
      · have hb : appG nmW Mn L r = (⟨(syncD L.D (nmW s.n)).1, L.l, L.u⟩, 0, (syncD L.D (nmW s.n)).2) := by
          unfold appG; rw [hgl]; dsimp only; rw [if_pos hz, if_neg hy]
        rw [hb]
        rw [← hn, if_neg hy] at hS
        refine (app_bad hl (hx.trans hq) r hr h0 hS hy).mono ?_
        rintro e2 w' ⟨he, hd⟩
        exact ⟨he, h4 _ _ _ _ _ hd⟩
      · rw [← hn, if_pos hy, hy] at hS
        by_cases hE : (appendD (syncD L.D (nmW s.n)).1 (nmW (q : Int)) (recB (q : Int) r)).2 = 0
        · have hb : appG nmW Mn L r = (⟨(appendD (syncD L.D (nmW s.n)).1 (nmW (q : Int)) (recB (q : Int) r)).1, L.l ++ [⟨(q : Int), [r]⟩], (q : Int)⟩, (q : Int), 0) := by
            unfold appG; rw [hgl]; dsimp only; rw [if_pos hz, if_pos hy, hq, if_pos hE]
          rw [hb]
          have hne : n ≠ q := by
            intro e5
            have h6 : s.rs.length = 0 := by omega
            rw [List.length_eq_zero_iff.1 h6] at hz
            have : (encL s.n []).length = 0 := rfl
            omega
          rw [hg] at hS h0 hl
          have hx2 := hx
          rw [hg] at hx2
          refine (app_new (pre := gsOf i) (n := n) (into := q) hl (by omega) (hx2.trans hq) ⟨by omega, by omega⟩ r hr h0 hS hil hne hE).mono ?_
          rintro e2 w' ⟨he, hd⟩
          refine ⟨he, h4 _ _ _ _ _ ?_⟩
          have e3 : gsOf (L.l ++ [⟨(q : Int), [r]⟩]) = (gsOf i ++ [((n : Int), ((encL s.n s.rs).length : Int))]) ++ [((q : Int), ((recB q r).length : Int))] := by rw [gs_app, hg]; unfold gsOf encL encL; simp
          have e4 : flatS (L.l ++ [⟨(q : Int), [r]⟩]) = flatS L.l ++ [r] := by rw [flat_app]; rfl
          dsimp only
          rw [e3, e4]
          exact hd
        · have hb : appG nmW Mn L r = (⟨(appendD (syncD L.D (nmW s.n)).1 (nmW (q : Int)) (recB (q : Int) r)).1, L.l, (q : Int)⟩, 0, (appendD (syncD L.D (nmW s.n)).1 (nmW (q : Int)) (recB (q : Int) r)).2) := by
            unfold appG; rw [hgl]; dsimp only; rw [if_pos hz, if_pos hy, hq, if_neg hE]
          rw [hb]
          refine (app_ref (into := q) hl (by omega) (hx.trans hq) ⟨by omega, by omega⟩ r hr h0 hS hE).mono ?_
          rintro e2 w' ⟨he, hd⟩
          exact ⟨he, h4 _ _ _ _ _ hd⟩
    · have hzI : ((encL s.n s.rs).length : Int) < (Mn : Int) := by omega
      have hS := fun W (h : LDid F G lp d (Mn : Int) L.D (gsOf L.l) (flatS L.l) L.u w W) => do_segO (q := (q : Int)) hl hg (by omega) (by omega) hzI h
      by_cases hE : (appendD L.D (nmW (n : Int)) (recB (q : Int) r)).2 = 0
      · have hb : appG nmW Mn L r = (⟨(appendD L.D (nmW (n : Int)) (recB (q : Int) r)).1, i ++ [⟨s.n, s.rs ++ [r]⟩], L.u⟩, (q : Int), 0) := by
          unfold appG; rw [hgl]; dsimp only; rw [if_neg hz, hq, hdl, hn, if_pos hE]
        rw [hb]
        rw [hg] at hS h0 hl
        have hx2 := hx
        rw [hg] at hx2
        refine (app_old (pre := gsOf i) (into := n) hl (by omega) (hx2.trans hq) ⟨by omega, by omega⟩ r hr h0 hS hil ⟨by omega, by omega⟩ hE).mono ?_
        rintro e2 w' ⟨he, hd⟩
        refine ⟨he, h4 _ _ _ _ _ ?_⟩
        have e3 : gsOf (i ++ [⟨s.n, s.rs ++ [r]⟩]) = gsOf i ++ [((n : Int), ((encL s.n s.rs).length : Int) + ((recB q r).length : Int))] := by
          rw [gs_app]
          unfold gsOf
          simp only [List.map_cons, List.map_nil]
          rw [enc_app, List.length_append, hq, hn]
          simp
        have e4 : flatS (i ++ [⟨s.n, s.rs ++ [r]⟩]) = flatS L.l ++ [r] := by
          rw [e, flat_app, flat_app]
          unfold flatS; simp
        dsimp only
        rw [e3, e4]
        exact hd
      · have hb : appG nmW Mn L r = (⟨(appendD L.D (nmW (n : Int)) (recB (q : Int) r)).1, L.l, L.u⟩, 0, (appendD L.D (nmW (n : Int)) (recB (q : Int) r)).2) := by
          unfold appG; rw [hgl]; dsimp only; rw [if_neg hz, hq, hn, if_neg hE]
        rw [hb]
        refine (app_ref (into := n) hl (by omega) (hx.trans hq) ⟨by omega, by omega⟩ r hr h0 hS hE).mono ?_
        rintro e2 w' ⟨he, hd⟩
        exact ⟨he, h4 _ _ _ _ _ hd⟩
end
end Go.Proofs.YtelcemfaijjcbaaGreatDoor.C13

namespace Go.Proofs.YtelcemfaijjcbaaGreatDoor.C13
open Go Go.RowKit Go.Proofs Go.Proofs.YtelcemfaijjcbaaGreatDoor.B Go.Proofs.YtelcemfaijjcbaaGreatDoor.K Go.Proofs.YtelcemfaijjcbaaGreatDoor.P8 Go.Proofs.YtelcemfaijjcbaaGreatDoor.C12
set_option linter.unusedVariables false
set_option maxRecDepth 100000
theorem trim_same (n : Int) : ∀ (l : List Seg) (D : Dst), Linked l → trimP n (gsOf l) (flatS l) D = ⟨gsOf (trimG nmW n l D).1, flatS (trimG nmW n l D).1, (trimG nmW n l D).2.1, (trimG nmW n l D).2.2⟩
  | [], D, _ => rfl
  | [a], D, _ => rfl
  | a :: b :: l, D, h => by
    have e1 : gsOf (a :: b :: l) = (a.n, ((encL a.n a.rs).length : Int)) :: (b.n, ((encL b.n b.rs).length : Int)) :: gsOf l := rfl
    have e2 : flatS (a :: b :: l) = a.rs ++ flatS (b :: l) := by unfold flatS; simp
    have e3 : (b.n - a.n).toNat = a.rs.length := by have := h.2.1; omega
    rw [e1]
    unfold trimP trimG
    by_cases h1 : b.n ≤ n
    · rw [if_pos h1, if_pos h1]
      by_cases h2 : (removeD D (nmW a.n)).2 = 0
      · rw [if_pos h2, if_pos h2, e3, e2, List.drop_left]
        exact trim_same n (b :: l) _ h.2.2
      · rw [if_neg h2, if_neg h2]
        rfl
    · rw [if_neg h1, if_neg h1]
      rfl
theorem tr_ok : ∀ (l : List Seg), Linked l → (∀ a ∈ l, 0 ≤ a.n ∧ a.n < 100) → TrOk (gsOf l) (flatS l).length
  | [], _, _ => trivial
  | [a], _, h => h a (List.mem_cons_self ..)
  | a :: b :: l, hl, h => by
    have e2 : flatS (a :: b :: l) = a.rs ++ flatS (b :: l) := by unfold flatS; simp
    have e3 : (b.n - a.n).toNat = a.rs.length := by have := hl.2.1; omega
    have h1 := h a (List.mem_cons_self ..)
    have h2 := h b (List.mem_cons_of_mem _ (List.mem_cons_self ..))
    have h3 := linked_lt hl b (List.mem_cons_self ..)
    refine ⟨h1.1, h3, h2.2, ?_, ?_⟩
    · rw [e2, List.length_append]
      show (b.n - a.n).toNat ≤ _
      omega
    · have := tr_ok (b :: l) hl.2.2 fun x hx => h x (List.mem_cons_of_mem _ hx)
      rw [e2, List.length_append]
      show TrOk (gsOf (b :: l)) (a.rs.length + (flatS (b :: l)).length - (b.n - a.n).toNat)
      rw [e3, Nat.add_sub_cancel_left]
      exact this
section
variable {w : World} {B lp d : Nat} {U : Nat → Prop} {M : Int} {L : Lg}
theorem on_trim (h : OnL B U lp d M L w) (hok : LOk L) (n : Int) : Calls Tryz.prog 22 #[.pointer (some ⟨lp, 0, none⟩), .int .i64 n] w fun e w' => e = .returned (.int .i64 (trimG nmW n L.l L.D).2.2) ∧ ∃ U', OnL B U' lp d M ⟨(trimG nmW n L.l L.D).2.1, (trimG nmW n L.l L.D).1, L.u⟩ w' ∧ Chg U U' w w' := by
  obtain ⟨F, G, sg, rv, h1, h2, h3, h4⟩ := On.did h
  have hl := hok.len
  have hf := hok.flat
  refine (trim_any n (tr_ok _ hok.link hok.num) (by rw [gs_len]; omega) (by omega) (LDid.mk0 h1 h2 h3)).mono ?_
  rintro e w' ⟨he, hd⟩
  rw [trim_same n _ _ hok.link] at he hd
  exact ⟨he, h4 _ _ _ _ _ hd⟩
theorem On.below {D : Dst} {gs : List (Int × Int)} {rs : List (List UInt8)} {u : Int} {w' : World} (h : On B U lp d M D gs rs u w) (hb : Below w.heap.size w w') : On B U lp d M D gs rs u w' := by
  obtain ⟨F, G, sg, rv, h1, h2, h3, h4, h5, h6⟩ := h
  exact ⟨F, G, sg, rv, h1.below hb, h2.below hb, h3, h4, h5, Nat.le_trans h6 hb.size⟩
theorem On.lt {D : Dst} {gs : List (Int × Int)} {rs : List (List UInt8)} {u : Int} (h : On B U lp d M D gs rs u w) : ∀ i, U i → i < w.heap.size := fun i hi => by
  obtain ⟨F, G, sg, rv, h1, h2, h3, h4, h5, h6⟩ := h
  rcases (h4 i).1 hi with h | h
  · exact h1.lt i h
  · exact h2.lt i h
/-- What a log has in memory: it stands whatever its disk does. -/
def Has0 (G : Nat → Prop) (lp d : Nat) (M : Int) (L : Lg) (w : World) : Prop := ∃ sg rv, LIn w G lp d M sg rv (gsOf L.l) (flatS L.l) L.u
theorem Has0.below {G : Nat → Prop} {w' : World} (h : Has0 G lp d M L w) (hb : Below w.heap.size w w') : Has0 G lp d M L w' := by
  obtain ⟨sg, rv, h⟩ := h
  exact ⟨sg, rv, h.below hb⟩
theorem Has0.tn {G S : Nat → Prop} {w' : World} (h : Has0 G lp d M L w) (t : Tn S w w') (hs : ∀ i, G i → ¬ S i) : Has0 G lp d M L w' := by
  obtain ⟨sg, rv, h⟩ := h
  exact ⟨sg, rv, h.tn t hs⟩
theorem on_first {G : Nat → Prop} (h : Has0 G lp d M L w) (hok : LOk L) : Calls Tryz.prog 18 #[.pointer (some ⟨lp, 0, none⟩)] w fun e w' => e = .returned (.int .i64 (firstS L.l)) ∧ Below w.heap.size w w' := by
  obtain ⟨sg, rv, h⟩ := h
  rw [← gs_first]
  exact (first_any h hok.sm.n1).mono fun e w' ⟨he, hb⟩ => ⟨he, hb ▸ Below.refl _ _⟩
theorem on_next {G : Nat → Prop} (h : Has0 G lp d M L w) (hok : LOk L) : Calls Tryz.prog 19 #[.pointer (some ⟨lp, 0, none⟩)] w fun e w' => e = .returned (.int .i64 (nextS L.l)) ∧ Below w.heap.size w w' := by
  obtain ⟨sg, rv, h⟩ := h
  rw [← gs_next hok.link]
  exact next_any h hok.sm
theorem on_safe {G : Nat → Prop} (h : Has0 G lp d M L w) : Calls Tryz.prog 20 #[.pointer (some ⟨lp, 0, none⟩)] w fun e w' => e = .returned (.int .i64 L.u) ∧ Below w.heap.size w w' := by
  obtain ⟨sg, rv, h⟩ := h
  exact safe_any h
def readS (l : List Seg) (i : Int) : List UInt8 × Int :=
  if i < firstS l then ([], 13) else match (flatS l)[(i - firstS l).toNat]? with
  | none => ([], 8)
  | some r => (r, 0)
theorem on_read {G : Nat → Prop} (h : Has0 G lp d M L w) (hok : LOk L) (i : Int) : Calls Tryz.prog 23 #[.pointer (some ⟨lp, 0, none⟩), .int .i64 i] w fun e w' => e = .returned (.tuple #[.string (str (readS L.l i).1), .int .i64 (readS L.l i).2]) ∧ Below w.heap.size w w' := by
  obtain ⟨sg, rv, h⟩ := h
  have e : readS L.l i = readG (gsOf L.l) (flatS L.l) i := by unfold readS readG; rw [gs_first]; rfl
  rw [e]
  exact read_any h hok.sm i
theorem On.has {w : World} (h : OnL B U lp d M L w) : ∃ G, Has0 G lp d M L w ∧ (∀ i, G i → U i) ∧ ∃ F, PAt w F d L.D ∧ (∀ i, G i → ¬ F i) ∧ (∀ i, F i → B ≤ i) ∧ (∀ i, F i → U i) := by
  obtain ⟨F, G, sg, rv, h1, h2, h3, h4, h5, h6⟩ := h
  exact ⟨G, ⟨sg, rv, h2⟩, fun i hi => (h4 i).2 (Or.inr hi), F, h1, h3, fun i hi => h5 i ((h4 i).2 (Or.inl hi)), fun i hi => (h4 i).2 (Or.inl hi)⟩
theorem On.looks {w : World} {f : FuncId} {args : Array Value} {v : Value} (h : OnL B U lp d M L w) (hc : ∀ G, Has0 G lp d M L w → Calls Tryz.prog f args w fun e w' => e = .returned v ∧ Below w.heap.size w w') : Calls Tryz.prog f args w fun e w' => e = .returned v ∧ OnL B U lp d M L w' ∧ Chg U U w w' := by
  obtain ⟨G, hg, -⟩ := On.has h
  exact (hc G hg).mono fun e w' ⟨he, hb⟩ => ⟨he, On.below h hb, Chg.of_below hb⟩
end
end Go.Proofs.YtelcemfaijjcbaaGreatDoor.C13

namespace Go.Proofs.YtelcemfaijjcbaaGreatDoor.C13
open Go Go.RowKit Go.Proofs Go.Proofs.YtelcemfaijjcbaaGreatDoor.B Go.Proofs.YtelcemfaijjcbaaGreatDoor.K Go.Proofs.YtelcemfaijjcbaaGreatDoor.C12
set_option linter.unusedVariables false
set_option maxRecDepth 100000
def aL0 : Lg := ⟨⟨1000, [], 0, false⟩, [], 0⟩
def aL1 : Lg := (appG nmW 64 aL0 [97]).1
def aL2 : Lg := (appG nmW 64 aL1 [98]).1
def aL3 : Lg := (syncG nmW aL2).1
def aL4 : Lg := (appG nmW 64 aL3 [99]).1
theorem aw_ints : (syncG nmW aL2).2 = 0 ∧ (appG nmW 64 aL3 [99]).2 = (2, 0) ∧ aL4.u = 2 := by decide +kernel
end Go.Proofs.YtelcemfaijjcbaaGreatDoor.C13

namespace Go.Proofs.YtelcemfaijjcbaaGreatDoor.C13
open Go Go.RowKit Go.Proofs Go.Proofs.YtelcemfaijjcbaaGreatDoor.B Go.Proofs.YtelcemfaijjcbaaGreatDoor.K Go.Proofs.YtelcemfaijjcbaaGreatDoor.P8 Go.Proofs.YtelcemfaijjcbaaGreatDoor.C12
set_option linter.unusedVariables false
set_option maxRecDepth 100000
def OnB (B lp d : Nat) (M : Int) (L : Lg) (w : World) : Prop := ∃ U, OnL B U lp d M L w
theorem onb_of {B lp d : Nat} {M : Int} {L L' : Lg} {w : World} {v : Value} {f : FuncId} {args : Array Value} (h : OnB B lp d M L w) (hc : ∀ U, OnL B U lp d M L w → Calls Tryz.prog f args w fun e w' => e = .returned v ∧ ∃ U', OnL B U' lp d M L' w' ∧ Chg U U' w w') :
    Calls Tryz.prog f args w fun e w' => e = .returned v ∧ OnB B lp d M L' w' ∧ Below B w w' := by
  obtain ⟨U, h⟩ := h
  refine (hc U h).mono ?_
  rintro e w' ⟨he, U', h2, h3⟩
  obtain ⟨F, G, sg, rv, x1, x2, x3, x4, x5, x6⟩ := h
  exact ⟨he, ⟨U', h2⟩, (chg_base h3 x5 x6).1⟩
theorem onb_look {B lp d : Nat} {M : Int} {L : Lg} {w : World} {v : Value} {f : FuncId} {args : Array Value} (h : OnB B lp d M L w) (hc : ∀ G, Has0 G lp d M L w → Calls Tryz.prog f args w fun e w' => e = .returned v ∧ Below w.heap.size w w') :
    Calls Tryz.prog f args w fun e w' => e = .returned v ∧ OnB B lp d M L w' ∧ Below B w w' :=
  onb_of h fun U hU => (On.looks hU hc).mono fun e w' ⟨he, h1, h2⟩ => ⟨he, U, h1, h2⟩
theorem OnB.own {B lp d : Nat} {M : Int} {L : Lg} {w : World} (h : OnB B lp d M L w) : C12.Own B w d L.D := by
  obtain ⟨U, F, G, sg, rv, x1, x2, x3, x4, x5, x6⟩ := h
  exact ⟨F, x1, fun i hi => x5 i ((x4 i).2 (Or.inl hi)), x6⟩
theorem own_open {B d : Nat} {M : Int} {D D' : Dst} {w : World} (h : C12.Own B w d D) (hup : D.down = false) (hM : 64 ≤ M ∧ M ≤ 65536) {ns : List Nat} {l : List Seg} {by_ : Int → List UInt8} {T : Bool} (hO : OnDisk D ns l by_ T) (hm : Mend D l T D') :
    Calls Tryz.prog 16 #[.pointer (some ⟨d, 0, none⟩), .string lgS, .int .i64 M] w fun e w' => ∃ lp, e = .returned (.tuple #[.pointer (some ⟨lp, 0, none⟩), .int .i64 0]) ∧ OnB B lp d M ⟨D', l, nextS l⟩ w' ∧ Below B w w' := by
  obtain ⟨F, h1, h2, h3⟩ := h
  refine (open_any h1 h2 h3 hup hM hO hm).mono ?_
  rintro e w' ⟨lp, U', he, k1, k2⟩
  rw [gs_next hO.link] at k1
  exact ⟨lp, he, ⟨U', k1⟩, (chg_base k2 h2 h3).1⟩
/-- A crash, with what it keeps in memory of the caller's. -/
theorem own_crash {B d : Nat} {D : Dst} {w : World} (h : C12.Own B w d D) (keep : List Int) (kv : Value) (hkv : ∀ F, PAt w F d D → (∀ i, F i → B ≤ i) → Kp w F kv keep) (hki : ∀ n ∈ keep, -9223372036854775808 ≤ n ∧ n ≤ 9223372036854775807) :
    Calls Tryz.prog 15 #[.pointer (some ⟨d, 0, none⟩), kv] w fun e w' => e = .returned (.int .i64 0) ∧ C12.Own B w' d (crashD D keep) ∧ Below B w w' := by
  obtain ⟨F, h1, h2, h3⟩ := h
  refine (pcrash_any h1 keep kv (hkv F h1 h2) hki).mono ?_
  rintro e w' ⟨he, F', hp, hc⟩
  obtain ⟨k1, k2⟩ := chg_base hc h2 h3
  exact ⟨he, ⟨F', hp, k2, Nat.le_trans h3 hc.turn.size⟩, k1⟩
theorem kp_new {B d : Nat} {D : Dst} {w : World} (k : Int) : ∀ F, PAt (w.alloc (.cells #[.int .i64 k] 3)) F d D → (∀ i, F i → i < w.heap.size) → Kp (w.alloc (.cells #[.int .i64 k] 3)) F (.slice (some ⟨w.heap.size, 0, none⟩) 1 1) [k] := fun F hp hF => by
  refine ⟨some ⟨w.heap.size, 0, none⟩, 1, rfl, Nat.le_refl _, fun j n hj => ?_⟩
  have hj0 : j = 0 := by
    have := (List.getElem?_eq_some_iff.1 hj).1
    simp at this; exact this
  subst hj0
  cases hj
  exact ⟨w.heap.size, 0, rfl, fun e => by have := hF _ e; omega, alloc_cell w [.int .i64 k] _ 0 _ rfl⟩
theorem own_crash1 {B d : Nat} {D : Dst} {w : World} (h : C12.Own B w d D) (k : Int) (hk : -9223372036854775808 ≤ k ∧ k ≤ 9223372036854775807) :
    Calls Tryz.prog 15 #[.pointer (some ⟨d, 0, none⟩), .slice (some ⟨w.heap.size, 0, none⟩) 1 1] (w.alloc (.cells #[.int .i64 k] 3)) fun e w' => e = .returned (.int .i64 0) ∧ C12.Own B w' d (crashD D [k]) ∧ Below B w w' := by
  obtain ⟨F, h1, h2, h3⟩ := h
  have hb := below_alloc w (.cells #[.int .i64 k] 3)
  refine (pcrash_any (h1.below hb) [k] _ (kp_new (B := B) k F (h1.below hb) h1.lt) (by simpa using hk)).mono ?_
  rintro e w' ⟨he, F', hp, hc⟩
  obtain ⟨k1, k2⟩ := chg_base hc h2 (Nat.le_trans h3 hb.size)
  exact ⟨he, ⟨F', hp, k2, Nat.le_trans (Nat.le_trans h3 hb.size) hc.turn.size⟩, (⟨hb.os, hb.tape, hb.output, hb.size, fun i hi => hb.block i (Nat.lt_of_lt_of_le hi h3)⟩ : Below B w _).trans k1⟩
-- the states of awake
theorem seg_ok {n : Int} {rs : List (List UInt8)} {D : Dst} {u : Int} (hn : 0 ≤ n ∧ n + (rs.length : Int) < 100) (hs : (encL n rs).length ≤ 100000) : LOk ⟨D, [⟨n, rs⟩], u⟩ := by
  refine ⟨trivial, fun a h => ?_, ⟨?_, hn.2⟩, ?_, by show 1 ≤ 700; omega, fun a h => ?_⟩
  · obtain rfl := List.mem_singleton.1 h
    show 0 ≤ n ∧ n < 100
    omega
  · show 0 ≤ n + (rs.length : Int)
    omega
  · unfold flatS
    simp
    omega
  · obtain rfl := List.mem_singleton.1 h
    exact hs
theorem nil_ok {D : Dst} {u : Int} : LOk ⟨D, [], u⟩ := ⟨trivial, fun a h => (by cases h), ⟨Int.le_refl _, by show (0 : Int) < 100; omega⟩, Nat.zero_le _, Nat.zero_le _, fun a h => (by cases h)⟩
def isOne (L : Lg) (rs : List (List UInt8)) : Bool := match L.l with | [s] => s.n == 0 && s.rs == rs | _ => false
theorem is_one {L : Lg} {rs : List (List UInt8)} (h : isOne L rs = true) : L.l = [⟨0, rs⟩] := by
  unfold isOne at h
  split at h
  · rename_i s e
    simp only [Bool.and_eq_true, beq_iff_eq] at h
    rw [e]
    obtain ⟨n, r⟩ := s
    simp only at h
    rw [h.1, h.2]
  · cases h
theorem one_ok {L : Lg} {rs : List (List UInt8)} (h : isOne L rs = true) (hr : rs.length < 50) (hs : (encL 0 rs).length ≤ 100000) : LOk L ∧ (L.l = [] → L.u = 0) := by
  have e := is_one h
  have k := seg_ok (n := 0) (rs := rs) (D := L.D) (u := L.u) ⟨Int.le_refl _, by omega⟩ hs
  rw [← e] at k
  exact ⟨k, fun e2 => by rw [e2] at e; cases e⟩
theorem aw_one : isOne aL1 [[97]] = true ∧ isOne aL2 [[97], [98]] = true ∧ isOne aL3 [[97], [98]] = true ∧ isOne aL4 [[97], [98], [99]] = true := by decide +kernel
theorem aw_enc : (encL 0 [[97]]).length ≤ 100000 ∧ (encL 0 [[97], [98]]).length ≤ 100000 ∧ (encL 0 [[97], [98], [99]]).length ≤ 100000 := by decide +kernel
def aD5 : Dst := crashD aL4.D [2]
def aBp : List UInt8 := (aD5.files.headD ⟨[], [], []⟩).safe
def oneF (D : Dst) (b : List UInt8) : Bool := match D.files with | [f] => f.name == nmW 0 && f.safe == b && f.more == [] | _ => false
theorem one_f {D : Dst} {b : List UInt8} (h : oneF D b = true) : D.files = [⟨nmW 0, b, []⟩] := by
  unfold oneF at h
  split at h
  · rename_i f e
    simp only [Bool.and_eq_true, beq_iff_eq] at h
    rw [e]
    obtain ⟨n, s, m⟩ := f
    simp only at h
    rw [h.1.1, h.1.2, h.2]
  · cases h
theorem aw_five : oneF aD5 aBp = true ∧ parseL aBp 0 = ([[97], [98]], (encL 0 [[97], [98]]).length) ∧ (encL 0 [[97], [98]]).length ≤ aBp.length ∧ aBp.take (encL 0 [[97], [98]]).length = encL 0 [[97], [98]] ∧ aBp.length ≤ 65536 := by decide +kernel
theorem aw_mend : ∃ ns by_ T D', OnDisk aD5 ns [⟨0, [[97], [98]]⟩] by_ T ∧ Mend aD5 [⟨0, [[97], [98]]⟩] T D' := by
  obtain ⟨h1, h2, h3, h4, h5⟩ := aw_five
  have hf := one_f h1
  have hb : But nmW aD5.files [] ⟨0, [[97], [98], [99]]⟩ := by
    rw [hf]
    refine ⟨List.pairwise_singleton _ _, trivial, (fun a h => by cases h), fun f hff => ?_, fun a ha b hb _ => ?_⟩
    · obtain rfl := List.mem_singleton.1 hff
      exact ⟨_, List.mem_singleton.2 rfl, rfl⟩
    · rw [List.mem_singleton.1 ha, List.mem_singleton.1 hb]
  obtain ⟨ns, by_, T, D', k1, k2, -⟩ := mend_some (D := aD5) rfl rfl (fun f hff => by rw [hf] at hff; obtain rfl := List.mem_singleton.1 hff; simpa using h5) (m := 2) (Bp := aBp) hb (by rw [hf]; unfold findF; simp) h2 h3 h4 (fun a h => by cases h) (fun a h => by
    obtain rfl := List.mem_singleton.1 h
    exact ⟨Int.le_refl _, by show (0 : Int) < 100; omega⟩) (by decide)
  exact ⟨ns, by_, T, D', k1, k2⟩
end Go.Proofs.YtelcemfaijjcbaaGreatDoor.C13
