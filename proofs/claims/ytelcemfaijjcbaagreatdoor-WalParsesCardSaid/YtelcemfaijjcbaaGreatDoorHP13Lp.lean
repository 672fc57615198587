/-
  Layer 13, the program: what load does at each segment.
-/
import Derived.Test.YtelcemfaijjcbaaGreatDoorHP13Lo
import Derived.Test.YtelcemfaijjcbaaGreatDoorHP13Lj
namespace Go.Proofs.YtelcemfaijjcbaaGreatDoor.C13
open Go Go.RowKit Go.Proofs Go.Proofs.YtelcemfaijjcbaaGreatDoor.B Go.Proofs.YtelcemfaijjcbaaGreatDoor.K Go.Proofs.YtelcemfaijjcbaaGreatDoor.P8 Go.Proofs.YtelcemfaijjcbaaGreatDoor.C12
set_option linter.unusedVariables false
set_option maxRecDepth 100000
section
variable {w W : World} {F G : Nat → Prop} {lp d : Nat} {M u : Int} {gs : List (Int × Int)} {rs : List (List UInt8)} {D : Dst}
theorem do_read (s : List UInt8) (hs : s.length ≤ 1000000) (h : LDid F G lp d M D gs rs u w W) : Calls Tryz.prog 56 #[.pointer (some ⟨d, 0, none⟩), .string (str s)] W fun e w' => e = .returned (.tuple #[.string (str (readD D s).1), .int .i64 (readD D s).2]) ∧ LDid F G lp d M D gs rs u w w' := by
  obtain ⟨F', G', sg, rv, h1, h2, h3, h4⟩ := h.open
  exact (pread_any h1 s (by unfold maxLen; omega)).mono fun e w' ⟨he, hb⟩ => ⟨he, h.below hb⟩
theorem do_safe (s : List UInt8) (hs : s.length ≤ 1000000) (h : LDid F G lp d M D gs rs u w W) : Calls Tryz.prog 84 #[.pointer (some ⟨d, 0, none⟩), .string (str s)] W fun e w' => e = .returned (.int .i64 (safeD D s)) ∧ LDid F G lp d M D gs rs u w w' := by
  obtain ⟨F', G', sg, rv, h1, h2, h3, h4⟩ := h.open
  exact (psafe_any h1 s (by unfold maxLen; omega)).mono fun e w' ⟨he, hb⟩ => ⟨he, h.below hb⟩
theorem do_sync (s : List UInt8) (hs : s.length ≤ 1000000) (h : LDid F G lp d M D gs rs u w W) : Calls Tryz.prog 45 #[.pointer (some ⟨d, 0, none⟩), .string (str s)] W fun e w' => e = .returned (.int .i64 (syncD D s).2) ∧ LDid F G lp d M (syncD D s).1 gs rs u w w' := by
  obtain ⟨F', G', sg, rv, h1, h2, h3, h4⟩ := h.open
  refine (psync_any h1 s (by unfold maxLen; omega)).mono fun e w' hw => ?_
  obtain ⟨he, F2, G2, sg2, rv2, k1, k2, k3, k4⟩ := LDid.wrote h2 h3 (Below.refl _ _) hw
  exact ⟨he, F2, G2, sg2, rv2, k1, k2, k3, h4.trans k4⟩
theorem do_trunc (s : List UInt8) (m : Int) (hs : s.length ≤ 1000000) (h : LDid F G lp d M D gs rs u w W) : Calls Tryz.prog 83 #[.pointer (some ⟨d, 0, none⟩), .string (str s), .int .i64 m] W fun e w' => e = .returned (.int .i64 (truncD D s m).2) ∧ LDid F G lp d M (truncD D s m).1 gs rs u w w' := by
  obtain ⟨F', G', sg, rv, h1, h2, h3, h4⟩ := h.open
  refine (ptrunc_any h1 s m (by unfold maxLen; omega)).mono fun e w' hw => ?_
  obtain ⟨he, F2, G2, sg2, rv2, k1, k2, k3, k4⟩ := LDid.wrote h2 h3 (Below.refl _ _) hw
  exact ⟨he, F2, G2, sg2, rv2, k1, k2, k3, h4.trans k4⟩
theorem do_behind (a : Option Addr) (c : Nat) (h : LDid F G lp d M D gs rs u w W) : Calls Tryz.prog 57 #[.pointer (some ⟨lp, 0, none⟩), .slice a 0 c] W fun e w' => e = .returned (.int .i64 0) ∧ LDid F G lp d M D gs rs u w w' :=
  (remB_any lp a c W).mono fun e w' ⟨he, hb⟩ => ⟨he, h.below hb⟩
theorem do_mk (s : List UInt8) (first : Int) (hs : s.length ≤ 1000000) (hr : rs.length ≤ 1000000) (hf : 0 ≤ first ∧ first ≤ 4611686018427387904) (h : LDid F G lp d M D gs rs u w W) : Calls Tryz.prog 26 #[.string (str s), .int .i64 first] W fun e w1 => ∃ bs bf, e = .returned (.func (.func 46) #[] #[.pointer (some ⟨bf, 0, none⟩), .pointer (some ⟨bs, 0, none⟩)]) ∧ LDid F G lp d M D gs rs u w w1 ∧
    ∀ W', Below w1.heap.size w1 W' → Calls Tryz.prog 46 #[.func (.func 27) #[.pointer (some ⟨lp, 4, none⟩)] #[], .pointer (some ⟨bf, 0, none⟩), .pointer (some ⟨bs, 0, none⟩)] W' fun e w' => e = .returned (.int .i64 ((parseL s first).2 : Int)) ∧ LDid F G lp d M D gs (rs ++ (parseL s first).1) u w w' := by
  obtain ⟨F', G', sg, rv, h1, h2, h3, h4⟩ := h.open
  refine (through_mk (str s) first W).mono ?_
  rintro e w1 ⟨bs, bf, he, k1, k2, k3, k4⟩
  refine ⟨bs, bf, he, h.below k4, fun W' hb => ?_⟩
  have hb2 : Below W.heap.size W W' := k4.trans (hb.mono k4.size)
  have l2 := h2.below hb2
  refine (thro_any s first lp 4 bs bf _ _ rv rs W' (by omega) (by omega) hf l2.cell (by decide) rfl l2.recs (kept_cell hb k1) (kept_cell hb k2) ⟨?_, ?_⟩).mono ?_
  · have := h2.lt lp h2.ownl; omega
  · intro e
    have := h2.lt bs (h2.ownr bs e); omega
  · rintro e w' ⟨he, ht⟩
    exact ⟨he, LDid.took (h1.below hb2) l2 h3 (h4.below hb2) ht⟩
end
/-- The segments as a log keeps them. -/
def gsOf (l : List Seg) : List (Int × Int) := l.map fun a => (a.n, ((encL a.n a.rs).length : Int))
theorem gs_len (l : List Seg) : (gsOf l).length = l.length := List.length_map ..
theorem gs_first (l : List Seg) : firstG (gsOf l) = firstS l := by cases l <;> rfl
theorem gs_next : ∀ {l : List Seg}, Linked l → nextG (gsOf l) (flatS l) = nextS l
  | [], _ => rfl
  | [a], _ => by show a.n + ((flatS [a]).length : Int) = a.n + (a.rs.length : Int); unfold flatS; simp
  | a :: b :: l, h => by
    have ih := gs_next (l := b :: l) h.2.2
    unfold nextG at ih ⊢
    have e1 : firstG (gsOf (a :: b :: l)) = a.n := rfl
    have e2 : firstG (gsOf (b :: l)) = b.n := rfl
    have e3 : flatS (a :: b :: l) = a.rs ++ flatS (b :: l) := by unfold flatS; simp
    rw [e2] at ih
    rw [e1, e3, List.length_append]
    have := h.2.1
    show _ = nextS (b :: l)
    omega
end Go.Proofs.YtelcemfaijjcbaaGreatDoor.C13
