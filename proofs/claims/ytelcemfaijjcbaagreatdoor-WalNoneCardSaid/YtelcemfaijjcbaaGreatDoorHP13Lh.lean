/-
  Layer 13, the program: which segment a record goes to.
-/
import Derived.Test.YtelcemfaijjcbaaGreatDoorHP13Lg
namespace Go.Proofs.YtelcemfaijjcbaaGreatDoor.C13
open Go Go.RowKit Go.Proofs Go.Proofs.YtelcemfaijjcbaaGreatDoor.B Go.Proofs.YtelcemfaijjcbaaGreatDoor.K Go.Proofs.YtelcemfaijjcbaaGreatDoor.P8 Go.Proofs.YtelcemfaijjcbaaGreatDoor.C12
set_option linter.unusedVariables false
set_option maxRecDepth 100000
section
variable {w w' : World} {F G : Nat → Prop} {lp d : Nat} {M u : Int} {sg rv : Value} {gs : List (Int × Int)} {rs : List (List UInt8)} {D : Dst}
theorem LDid.ahead {W : World} (h : LDid F G lp d M D gs rs u W w') (hb : Below w.heap.size w W) : LDid F G lp d M D gs rs u w w' := by
  obtain ⟨F', G', sg, rv, h1, h2, h3, h4⟩ := h
  exact ⟨F', G', sg, rv, h1, h2, h3, (Chg.of_below hb).trans h4⟩
theorem segFor_empty (h : PAt w F d D) (k : LIn w G lp d M sg rv [] rs u) (hFG : ∀ i, G i → ¬ F i) (q : Int) : Calls Tryz.prog 41 #[.pointer (some ⟨lp, 0, none⟩), .int .i64 q] w fun e w' => e = .returned (.tuple #[.int .i64 q, .int .i64 0]) ∧ LDid F G lp d M D [] rs u w w' := by
  have c3 := (row_at k.cell 3 _ rfl).1
  obtain ⟨a, c, rfl⟩ := k.nil
  have HD := Lib.hid (LDid.mk0 h k hFG)
  clear h k hFG
  go_enter Tryz.func41, Tryz.ntmps41
  go_wp2_with fail
  go_ret2
  exact ⟨rfl, HD.out⟩
set_option maxHeartbeats 4000000 in
theorem segFor_old (h : PAt w F d D) (k : LIn w G lp d M sg rv gs rs u) (hFG : ∀ i, G i → ¬ F i) (hl : LSm gs rs) {pre : List (Int × Int)} {n : Nat} {z q : Int} (hg : gs = pre ++ [((n : Int), z)]) (hn : n < 100) (hq : q ≤ 1099511627776) (hzM : z < M) :
    Calls Tryz.prog 41 #[.pointer (some ⟨lp, 0, none⟩), .int .i64 q] w fun e w' => e = .returned (.tuple #[.int .i64 (n : Int), .int .i64 0]) ∧ LDid F G lp d M D gs rs u w w' := by
  obtain ⟨b, cap, hsg, k1, k2⟩ := k.tail hg
  have HK := Lib.hid (show ∀ W, Below w.heap.size w W → W.cell? ⟨b, pre.length * 2, none⟩ = some (.int .i64 (n : Int)) ∧ W.cell? ⟨b, pre.length * 2 + 1, none⟩ = some (.int .i64 z) ∧ W.cell? ⟨lp, 2, none⟩ = some (.int .i64 M) from fun W hb => ⟨kept_cell hb k1, kept_cell hb k2, (row_at (k.below hb).cell 2 _ rfl).1⟩)
  have c3 := (row_at k.cell 3 _ rfl).1
  have c2 := (row_at k.cell 2 _ rfl).1
  have HL := Lib.hid (fun W (hb : Below w.heap.size w W) => last_any (k.below hb) hl.n1 hsg)
  have HS0 := (show ∀ W, Below w.heap.size w W → Calls Tryz.prog 25 #[.pointer (some ⟨lp, 0, none⟩)] W fun e w' => e = .returned (.int .i64 (syncD D (nmW n)).2) ∧ LDid F G lp d M (syncD D (nmW n)).1 gs rs (if (syncD D (nmW n)).2 = 0 then nextG gs rs else u) w w' from fun W hb => by
    refine (sync_any (h.below hb) (k.below hb) hFG hl hg hn).mono ?_
    rintro e w' ⟨he, hd⟩
    exact ⟨he, hd.ahead hb⟩)
  have HD := Lib.hid (show ∀ W, Below w.heap.size w W → LDid F G lp d M D gs rs u w W from fun W hb => (LDid.mk0 h k hFG).below hb)
  have hlen : gs.length = pre.length + 1 := by rw [hg]; simp
  obtain ⟨P, hP⟩ : ∃ P, pre.length = P := ⟨_, rfl⟩
  rw [hP] at hsg k1 k2 HK HL
  subst hsg
  have hz : (((P + 1 : Nat) : Int) == 0) = false := by
    have : ((P + 1 : Nat) : Int) ≠ 0 := by omega
    simpa using this
  clear h k hFG hl hg hlen hP HS0
  go_enter Tryz.func41, Tryz.ntmps41
  go_wp2_with fail
  go_region_with (go_at_call 44; (with_reducible refine (HL.out _ (Below.refl _ w).drew).mono ?_); rintro _ w1 ⟨rfl, hb⟩; have HB1 := Lib.hid ((Below.refl w.heap.size w).drew.trans hb); obtain ⟨m0, m1, m2⟩ := HK.out _ HB1.out; clear hb)
  all_goals go_wp2_with (go_at_call 44; (with_reducible refine (HL.out _ (by first | exact HB1.out | exact HB1.out.drew)).mono ?_); rintro _ w2 ⟨rfl, hb⟩; have HB2 := Lib.hid ((show Below w.heap.size w _ from by first | exact HB1.out | exact HB1.out.drew).trans (hb.mono HB1.out.size)); obtain ⟨n0, n1, n2⟩ := HK.out _ HB2.out; clear hb)
  all_goals (go_ret2; exact ⟨rfl, HD.out _ HB2.out⟩)
set_option maxHeartbeats 4000000 in
theorem segFor_new (h : PAt w F d D) (k : LIn w G lp d M sg rv gs rs u) (hFG : ∀ i, G i → ¬ F i) (hl : LSm gs rs) {pre : List (Int × Int)} {n : Nat} {z q : Int} (hg : gs = pre ++ [((n : Int), z)]) (hn : n < 100) (hq : q ≤ 1099511627776) (hzM : ¬ z < M) :
    Calls Tryz.prog 41 #[.pointer (some ⟨lp, 0, none⟩), .int .i64 q] w fun e w' => e = .returned (.tuple #[.int .i64 q, .int .i64 (syncD D (nmW n)).2]) ∧ LDid F G lp d M (syncD D (nmW n)).1 gs rs (if (syncD D (nmW n)).2 = 0 then nextG gs rs else u) w w' := by
  obtain ⟨b, cap, hsg, k1, k2⟩ := k.tail hg
  have HK := Lib.hid (show ∀ W, Below w.heap.size w W → W.cell? ⟨b, pre.length * 2, none⟩ = some (.int .i64 (n : Int)) ∧ W.cell? ⟨b, pre.length * 2 + 1, none⟩ = some (.int .i64 z) ∧ W.cell? ⟨lp, 2, none⟩ = some (.int .i64 M) from fun W hb => ⟨kept_cell hb k1, kept_cell hb k2, (row_at (k.below hb).cell 2 _ rfl).1⟩)
  have c3 := (row_at k.cell 3 _ rfl).1
  have c2 := (row_at k.cell 2 _ rfl).1
  have HL := Lib.hid (fun W (hb : Below w.heap.size w W) => last_any (k.below hb) hl.n1 hsg)
  have HS := Lib.hid (show ∀ W, Below w.heap.size w W → Calls Tryz.prog 25 #[.pointer (some ⟨lp, 0, none⟩)] W fun e w' => e = .returned (.int .i64 (syncD D (nmW n)).2) ∧ LDid F G lp d M (syncD D (nmW n)).1 gs rs (if (syncD D (nmW n)).2 = 0 then nextG gs rs else u) w w' from fun W hb => by
    refine (sync_any (h.below hb) (k.below hb) hFG hl hg hn).mono ?_
    rintro e w' ⟨he, hd⟩
    exact ⟨he, hd.ahead hb⟩)
  obtain ⟨U, hU⟩ : ∃ U, (if (syncD D (nmW n)).2 = 0 then nextG gs rs else u) = U := ⟨_, rfl⟩
  rw [hU] at HS ⊢
  clear hU
  have HD := Lib.hid (show ∀ W, Below w.heap.size w W → LDid F G lp d M D gs rs u w W from fun W hb => (LDid.mk0 h k hFG).below hb)
  have hlen : gs.length = pre.length + 1 := by rw [hg]; simp
  obtain ⟨P, hP⟩ : ∃ P, pre.length = P := ⟨_, rfl⟩
  rw [hP] at hsg k1 k2 HK HL
  subst hsg
  have hz : (((P + 1 : Nat) : Int) == 0) = false := by
    have : ((P + 1 : Nat) : Int) ≠ 0 := by omega
    simpa using this
  clear h k hFG hl hg hlen hP
  have hqI : ¬ (1099511627776 : Int) < q := by omega
  go_enter Tryz.func41, Tryz.ntmps41
  go_wp2_with fail
  go_region_with (go_at_call 44; (with_reducible refine (HL.out _ (Below.refl _ w).drew).mono ?_); rintro _ w1 ⟨rfl, hb⟩; have HB1 := Lib.hid ((Below.refl w.heap.size w).drew.trans hb); obtain ⟨m0, m1, m2⟩ := HK.out _ HB1.out; clear hb)
  all_goals go_wp2_with (go_at_call 25; (with_reducible refine (HS.out _ (by first | exact HB1.out.drew | exact HB1.out.drew.drew | exact HB1.out)).mono ?_); rintro _ w2 ⟨rfl, hd⟩; have HD2 := Lib.hid hd; clear hd)
  all_goals (go_ret2; exact ⟨rfl, HD2.out⟩)
end
end Go.Proofs.YtelcemfaijjcbaaGreatDoor.C13
