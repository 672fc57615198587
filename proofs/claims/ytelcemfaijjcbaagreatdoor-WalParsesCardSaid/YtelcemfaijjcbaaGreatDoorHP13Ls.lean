/-
  Layer 13, the program: Open.
-/
import Derived.Test.YtelcemfaijjcbaaGreatDoorHP13Lq
import Derived.Test.YtelcemfaijjcbaaGreatDoorHP13Lr
import Derived.Test.YtelcemfaijjcbaaGreatDoorHP12Pk
namespace Go.Proofs.YtelcemfaijjcbaaGreatDoor.C13
open Go Go.RowKit Go.Proofs Go.Proofs.YtelcemfaijjcbaaGreatDoor.B Go.Proofs.YtelcemfaijjcbaaGreatDoor.K Go.Proofs.YtelcemfaijjcbaaGreatDoor.P8 Go.Proofs.YtelcemfaijjcbaaGreatDoor.C12
set_option linter.unusedVariables false
set_option maxRecDepth 100000
def noLet (R : Nat) : Bool := decide (R < 97) || decide (122 < R)
theorem noLet_any (R : Nat) (w : World) : Calls Tryz.prog 53 #[.int .i32 (R : Int)] w fun e w' => e = .returned (.bool (noLet R)) ∧ w = w' := by
  unfold noLet
  by_cases h1 : R < 97
  · have hI : (R : Int) < 97 := by omega
    rw [decide_eq_true h1, Bool.true_or]
    go_enter Tryz.func53, Tryz.ntmps53
    go_wp2_with fail
    go_ret
    exact ⟨rfl, rfl⟩
  · have hI : ¬ (R : Int) < 97 := by omega
    rw [decide_eq_false h1, Bool.false_or]
    by_cases h2 : 122 < R
    · have hI2 : (122 : Int) < (R : Int) := by omega
      rw [decide_eq_true h2]
      go_enter Tryz.func53, Tryz.ntmps53
      go_wp2_with fail
      go_ret
      exact ⟨rfl, rfl⟩
    · have hI2 : ¬ (122 : Int) < (R : Int) := by omega
      rw [decide_eq_false h2]
      go_enter Tryz.func53, Tryz.ntmps53
      go_wp2_with fail
      go_ret
      exact ⟨rfl, rfl⟩
theorem isName_any (w : World) : Calls Tryz.prog 33 #[.string lgS] w fun e w' => e = .returned (.bool true) ∧ Below w.heap.size w w' := by
  have hC := S12.contains_runes 53 #[] (enters_of Tryz.func53 (by kernel_rfl) rfl) noLet lgS w (fun W x _ _ => (noLet_any x W).mono fun e w' hh => ⟨hh.1, 0, hh.2.symm⟩)
  rw [show decide (0 ≤ Lib.idxFunc noLet true lgS) = false from by decide +kernel] at hC
  have HC := Lib.hid hC
  have hz : lgS.size = 3 := rfl
  obtain ⟨L, hL⟩ : ∃ L, lgS = L := ⟨_, rfl⟩
  rw [hL] at HC hz ⊢
  clear hC hL
  go_enter Tryz.func33, Tryz.ntmps33
  go_wp2_with (go_at_call 52; refine HC.out.mono ?_; rintro _ w1 ⟨rfl, hb⟩)
  go_ret
  exact ⟨rfl, hb⟩
/-- What Open does to the disk. -/
structure Mend (D : Dst) (l : List Seg) (T : Bool) (D' : Dst) : Prop where
  nil_ : l = [] → D' = D
  cons_ : l ≠ [] → ∃ pre n z D1, gsOf l = pre ++ [(((n : Nat) : Int), z)] ∧ n < 100 ∧ cutD D T n z = (D1, 0) ∧ syncD D1 (nmW n) = (D', 0) ∧ ∀ a ∈ pre, 0 ≤ a.1 ∧ a.1 < 100 ∧ safeD D' (nmW a.1) = a.2
theorem Mend.settle {D D' : Dst} {l : List Seg} {T : Bool} (h : Mend D l T D') (hl : l.length ≤ 128) (hne : l ≠ []) {F G : Nat → Prop} {lp d : Nat} {M u : Int} {rs : List (List UInt8)} {w1 W : World} (hd : LDid F G lp d M D (gsOf l) rs u w1 W) :
    Calls Tryz.prog 58 #[.pointer (some ⟨lp, 0, none⟩), .bool T] W fun e w' => e = .returned (.int .i64 0) ∧ LDid F G lp d M D' (gsOf l) rs u w1 w' := by
  obtain ⟨pre, n, z, D1, e, hn, hc, hs, hp⟩ := h.cons_ hne
  obtain ⟨F', G', sg, rv, h1, h2, h3, h4⟩ := hd.open
  have hpl : pre.length + 1 = l.length := by rw [← gs_len l, e]; simp
  refine (settle_any (F := F') (G := G') (w := W) (D1 := D1) e hn (by omega) T ⟨F', h1, h2, h3, Chg.of_below (Below.refl _ _)⟩ hc (by rw [hs]) (by rw [hs]; exact hp)).mono ?_
  rintro e w' ⟨he, ha⟩
  rw [hs] at ha
  obtain ⟨F2, G2, sg2, rv2, k1, k2, k3, k4⟩ := ha.did
  exact ⟨he, F2, G2, sg2, rv2, k1, k2, k3, h4.trans k4⟩
/-- A disk and a log on it, within their blocks. -/
def On (B : Nat) (U : Nat → Prop) (lp d : Nat) (M : Int) (D : Dst) (gs : List (Int × Int)) (rs : List (List UInt8)) (u : Int) (w : World) : Prop :=
  ∃ F G sg rv, PAt w F d D ∧ LIn w G lp d M sg rv gs rs u ∧ (∀ i, G i → ¬ F i) ∧ (∀ i, U i ↔ F i ∨ G i) ∧ (∀ i, U i → B ≤ i) ∧ B ≤ w.heap.size
section
variable {w : World} {F : Nat → Prop} {B d : Nat} {M : Int} {D D' : Dst}
set_option maxHeartbeats 4000000 in
theorem open_any (h : PAt w F d D) (hF : ∀ i, F i → B ≤ i) (hB : B ≤ w.heap.size) (hup : D.down = false) (hM : 64 ≤ M ∧ M ≤ 65536) {ns : List Nat} {l : List Seg} {by_ : Int → List UInt8} {T : Bool} (hO : OnDisk D ns l by_ T) (hm : Mend D l T D') :
    Calls Tryz.prog 16 #[.pointer (some ⟨d, 0, none⟩), .string lgS, .int .i64 M] w fun e w' => ∃ lp U', e = .returned (.tuple #[.pointer (some ⟨lp, 0, none⟩), .int .i64 0]) ∧ On B U' lp d M D' (gsOf l) (flatS l) (nextG (gsOf l) (flatS l)) w' ∧ Chg F U' w w' := by
  have hcnt := hO.count h.fine.ok.count
  have HI := Lib.hid (isName_any w)
  have HD := Lib.hid (fun W (hb : Below w.heap.size w W) => pdown_any (h.below hb))
  rw [hup] at HD
  have HC := Lib.hid (fun W => V.clone_of lgS W (by decide))
  have HLD := Lib.hid (show ∀ W, Below w.heap.size w W → Calls Tryz.prog 36 #[.pointer (some ⟨W.heap.size, 0, none⟩)] (W.alloc (.cells #[.pointer (some ⟨d, 0, none⟩), .string lgS, .int .i64 M, .slice none 0 0, .slice none 0 0, .int .i64 0] 74)) fun e w' => e = .returned (.int .i64 0) ∧ LDid F (fun i => i = W.heap.size) W.heap.size d M D' (gsOf l) (flatS l) 0 (W.alloc (.cells #[.pointer (some ⟨d, 0, none⟩), .string lgS, .int .i64 M, .slice none 0 0, .slice none 0 0, .int .i64 0] 74)) w' from fun W hb => by
    have hb2 := hb.trans ((below_alloc W (.cells #[.pointer (some ⟨d, 0, none⟩), .string lgS, .int .i64 M, .slice none 0 0, .slice none 0 0, .int .i64 0] 74)).mono hb.size)
    have hcell := heap_alloc_at W (.cells #[.pointer (some ⟨d, 0, none⟩), .string lgS, .int .i64 M, .slice none 0 0, .slice none 0 0, .int .i64 0] 74)
    refine load_any (G := fun i => i = W.heap.size) (h.below hb2) (sg := .slice none 0 0) (rv := .slice none 0 0) ⟨hcell, World.ownsRow_nil _ _ _ _, World.ownsRow_nil _ _ _ _, rfl, (fun g hg => by cases hg), (fun g hg => by cases hg), fun i hi => by have hi2 : i = W.heap.size := hi; rw [hi2]; exact (Array.getElem?_eq_some_iff.1 hcell).1⟩ (fun i hi hf => by have hi2 : i = W.heap.size := hi; have := h.lt i hf; have := hb.size; omega) hO (fun hle => ⟨hm.nil_ hle, rfl⟩) fun hne w1 W1 hd => hm.settle hcnt.2 hne hd)
  have hl : LSm (gsOf l) (flatS l) := ⟨by rw [gs_len]; omega, by have := hO.flat; omega, by
    rw [gs_first]
    cases l with
    | nil => exact ⟨Int.le_refl _, by show (0 : Int) ≤ _; omega⟩
    | cons a t =>
      have := hO.num a (List.mem_cons_self ..)
      show 0 ≤ a.n ∧ a.n ≤ _
      omega⟩
  have HL := Lib.hid hl
  have HEND := Lib.hid (show ∀ W W2 (v : Int), Below w.heap.size w W → LDid F (fun i => i = W.heap.size) W.heap.size d M D' (gsOf l) (flatS l) v (W.alloc (.cells #[.pointer (some ⟨d, 0, none⟩), .string lgS, .int .i64 M, .slice none 0 0, .slice none 0 0, .int .i64 0] 74)) W2 → ∃ U', On B U' W.heap.size d M D' (gsOf l) (flatS l) v W2 ∧ Chg F U' w W2 from fun W W2 v hb hd => by
    obtain ⟨F', G', sg, rv, h1, h2, h3, h4⟩ := hd.open
    have hb2 := hb.trans ((below_alloc W (.cells #[.pointer (some ⟨d, 0, none⟩), .string lgS, .int .i64 M, .slice none 0 0, .slice none 0 0, .int .i64 0] 74)).mono hb.size)
    have hnew : ∀ i, (F' i ∨ G' i) → F i ∨ w.heap.size ≤ i := fun i hi => by
      rcases h4.new i hi with (h | h) | h
      · exact Or.inl h
      · exact Or.inr (by rw [h]; exact hb.size)
      · exact Or.inr (Nat.le_trans hb2.size h)
    refine ⟨fun i => F' i ∨ G' i, ⟨F', G', sg, rv, h1, h2, h3, fun i => Iff.rfl, fun i hi => ?_, Nat.le_trans hB (Nat.le_trans hb2.size h4.turn.size)⟩, ⟨?_, hnew⟩⟩
    · rcases hnew i hi with h | h
      · exact hF i h
      · omega
    · exact (Tn.of_below hb2).wide h4.turn fun i hi => by
        rcases hi with h | h
        · exact Or.inl h
        · exact Or.inr (by rw [h]; exact hb.size))
  obtain ⟨NX, hNX⟩ : ∃ x, nextG (gsOf l) (flatS l) = x := ⟨_, rfl⟩
  rw [hNX]
  have HX := Lib.hid (show ∀ F G lp d D w W, LDid F G lp d M D (gsOf l) (flatS l) 0 w W → Calls Tryz.prog 19 #[.pointer (some ⟨lp, 0, none⟩)] W fun e w' => e = .returned (.int .i64 (nextG (gsOf l) (flatS l))) ∧ LDid F G lp d M D (gsOf l) (flatS l) 0 w w' ∧ ∃ v, w'.cell? ⟨lp, 5, none⟩ = some v ∧ w'.frozen? ⟨lp, 5, none⟩ = false from fun F G lp d D w W h => (do_next HL.out h).mono fun e w' ⟨he, hd⟩ => by
    obtain ⟨F', G', sg, rv, h1, h2, h3, h4⟩ := hd.open
    exact ⟨he, hd, _, row_at h2.cell 5 _ rfl⟩)
  rw [hNX] at HX
  have hz : lgS.size = 3 := rfl
  obtain ⟨L, hL⟩ : ∃ L, lgS = L := ⟨_, rfl⟩
  rw [hL] at HI HC HLD HEND hz ⊢
  obtain ⟨hM1, hM2⟩ := hM
  have hm1 : ¬ M < 64 := by omega
  have hm2 : ¬ 65536 < M := by omega
  clear h hF hB hup hO hm hcnt hl hNX hL hM1 hM2
  go_enter Tryz.func16, Tryz.ntmps16
  go_wp2_with (first
    | (go_at_call 33; (with_reducible refine HI.out.mono ?_); rintro _ w1 ⟨rfl, hb⟩; have HB1 := Lib.hid hb; clear hb)
    | (go_at_call 34; (with_reducible refine (HD.out _ HB1.out).mono ?_); rintro _ w2 ⟨rfl, hb⟩; have HB2 := Lib.hid (HB1.out.trans (hb.mono HB1.out.size)); clear hb)
    | (go_at_call 35; (with_reducible refine (HC.out _).mono ?_); rintro _ w3 ⟨rfl, hb⟩; have HB3 := Lib.hid (HB2.out.trans (hb.mono HB2.out.size)); clear hb)
    | (go_at_call 36; (with_reducible refine (HLD.out _ HB3.out).mono ?_); rintro _ w4 ⟨rfl, hd⟩; have H4 := Lib.hid hd; clear hd)
    | (go_at_call 19; (with_reducible refine (HX.out _ _ _ _ _ _ _ H4.out).mono ?_); rintro _ w5 ⟨rfl, hd, v5, e5, f5⟩; have H5 := Lib.hid hd; clear hd))
  all_goals go_ret2
  all_goals obtain ⟨U', h1, h2⟩ := HEND.out _ _ NX HB3.out (H5.out.safe NX)
  all_goals exact ⟨_, U', rfl, h1, h2⟩
end
end Go.Proofs.YtelcemfaijjcbaaGreatDoor.C13
