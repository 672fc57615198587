/-
  Layer 12, the laws: what must come at any rate.
-/
import Derived.Test.YtelcemfaijjcbaaGreatDoorHP12Pt
namespace Go.Proofs.YtelcemfaijjcbaaGreatDoor.C12
open Go Go.RowKit Go.Proofs Go.Proofs.YtelcemfaijjcbaaGreatDoor.B Go.Proofs.YtelcemfaijjcbaaGreatDoor.K Go.Proofs.YtelcemfaijjcbaaGreatDoor.P8
set_option linter.unusedVariables false
set_option maxRecDepth 100000

def aw0 : Dst := ⟨100, [], 0, false⟩
def aw1 : Dst := ⟨100, [⟨[97], [], [97, 98, 99]⟩], 0, false⟩
def aw2 : Dst := ⟨100, [⟨[97], [97, 98, 99], []⟩], 0, false⟩
def aw3 : Dst := ⟨100, [⟨[97], [97, 98, 99], [100, 101, 102, 103]⟩], 0, false⟩
def aw4 : Dst := ⟨100, [⟨[97], [97, 98, 99, 100, 101], []⟩], 0, false⟩
theorem chg_base {B : Nat} {F F' : Nat → Prop} {w w' : World} (h : Chg F F' w w') (hF : ∀ i, F i → B ≤ i) (hB : B ≤ w.heap.size) : Below B w w' ∧ ∀ i, F' i → B ≤ i :=
  ⟨⟨h.turn.os, h.turn.tape, h.turn.output, h.turn.size, fun i hi => h.turn.block i (Nat.lt_of_lt_of_le hi hB) (fun e => by have := hF i e; omega)⟩, fun i hi => (h.new i hi).elim (hF i) (Nat.le_trans hB)⟩
/-- A disk of one's own. -/
def Own (B : Nat) (w : World) (d : Nat) (D : Dst) : Prop := ∃ F, PAt w F d D ∧ (∀ i, F i → B ≤ i) ∧ B ≤ w.heap.size
theorem Own.wrote {B : Nat} {w : World} {d : Nat} {D : Dst} {r : Dst × Int} {f : FuncId} {args : Array Value} (h : Own B w d D) (hc : ∀ F, PAt w F d D → Calls Tryz.prog f args w (PWrote F d r w)) : Calls Tryz.prog f args w fun e w' => e = .returned (.int .i64 r.2) ∧ Own B w' d r.1 ∧ Below B w w' := by
  obtain ⟨F, hp, hF, hB⟩ := h
  refine (hc F hp).mono ?_
  rintro e w' ⟨he, F', hp', hch⟩
  obtain ⟨h1, h2⟩ := chg_base hch hF hB
  exact ⟨he, ⟨F', hp', h2, Nat.le_trans hB hch.turn.size⟩, h1⟩
theorem Own.below {B : Nat} {w w' : World} {d : Nat} {D : Dst} (h : Own B w d D) (hb : Below w.heap.size w w') : Own B w' d D := by
  obtain ⟨F, hp, hF, hB⟩ := h
  exact ⟨F, hp.below hb, hF, Nat.le_trans hB hb.size⟩
theorem Own.looks {B : Nat} {w : World} {d : Nat} {D : Dst} {v : Value} {f : FuncId} {args : Array Value} (h : Own B w d D) (hc : ∀ F, PAt w F d D → Calls Tryz.prog f args w fun e w' => e = .returned v ∧ Below w.heap.size w w') : Calls Tryz.prog f args w fun e w' => e = .returned v ∧ Own B w' d D ∧ Below B w w' := by
  obtain ⟨F, hp, hF, hB⟩ := h
  refine (hc F hp).mono ?_
  rintro e w' ⟨he, hb⟩
  exact ⟨he, ⟨F, hp.below hb, hF, Nat.le_trans hB hb.size⟩, ⟨hb.os, hb.tape, hb.output, hb.size, fun i hi => hb.block i (Nat.lt_of_lt_of_le hi hB)⟩⟩

theorem own_new (room : Int) (w : World) (h : 0 ≤ room ∧ room ≤ 1048576) : Calls Tryz.prog 12 #[.int .i64 room] w fun e w' => ∃ d, e = .returned (.tuple #[.pointer (some ⟨d, 0, none⟩), .int .i64 0]) ∧ Own w.heap.size w' d ⟨room, [], 0, false⟩ ∧ Below w.heap.size w w' := by
  refine (pnew_good room w h).mono ?_
  rintro e w' ⟨d, F, he, hp, hF, hb⟩
  exact ⟨d, he, ⟨F, hp, hF, hb.size⟩, hb⟩
theorem aw_app1 {B : Nat} {w : World} {d : Nat} (h : Own B w d aw0) : Calls Tryz.prog 43 #[.pointer (some ⟨d, 0, none⟩), .string ⟨#[97]⟩, .string ⟨#[97, 98, 99]⟩] w fun e w' => e = .returned (.int .i64 0) ∧ Own B w' d aw1 ∧ Below B w w' :=
  h.wrote (r := (aw1, 0)) fun F hp => pappend_any hp [97] [97, 98, 99] (by decide) (by decide)
theorem aw_sync {B : Nat} {w : World} {d : Nat} (h : Own B w d aw1) : Calls Tryz.prog 45 #[.pointer (some ⟨d, 0, none⟩), .string ⟨#[97]⟩] w fun e w' => e = .returned (.int .i64 0) ∧ Own B w' d aw2 ∧ Below B w w' :=
  h.wrote (r := (aw2, 0)) fun F hp => psync_any hp [97] (by decide)
theorem aw_app2 {B : Nat} {w : World} {d : Nat} (h : Own B w d aw2) : Calls Tryz.prog 43 #[.pointer (some ⟨d, 0, none⟩), .string ⟨#[97]⟩, .string ⟨#[100, 101, 102, 103]⟩] w fun e w' => e = .returned (.int .i64 0) ∧ Own B w' d aw3 ∧ Below B w w' :=
  h.wrote (r := (aw3, 0)) fun F hp => pappend_any hp [97] [100, 101, 102, 103] (by decide) (by decide)
theorem aw_crash {B : Nat} {w : World} {d : Nat} (h : Own B w d aw3) : Calls Tryz.prog 15 #[.pointer (some ⟨d, 0, none⟩), .slice (some ⟨w.heap.size, 0, none⟩) 1 1] (w.alloc (.cells #[.int .i64 7] 3)) fun e w' => e = .returned (.int .i64 0) ∧ Own B w' d aw4 ∧ Below B w w' := by
  obtain ⟨F, hp, hF, hB⟩ := h
  have hb := below_alloc w (.cells #[.int .i64 7] 3)
  have hn : ¬ F w.heap.size := fun e => by have := hp.lt _ e; omega
  refine (pcrash_any (hp.below hb) [7] _ ⟨some ⟨w.heap.size, 0, none⟩, 1, rfl, Nat.le_refl _, fun j k hj => ?_⟩ (by decide)).mono ?_
  · have hj0 : j = 0 := by
      have := (List.getElem?_eq_some_iff.1 hj).1
      simp at this; exact this
    subst hj0
    cases hj
    exact ⟨w.heap.size, 0, rfl, hn, alloc_cell w [.int .i64 7] _ 0 _ rfl⟩
  · rintro e w' ⟨he, F', hp', hch⟩
    obtain ⟨h1, h2⟩ := chg_base hch hF (Nat.le_trans hB hb.size)
    exact ⟨he, ⟨F', hp', h2, Nat.le_trans (Nat.le_trans hB hb.size) hch.turn.size⟩, (⟨hb.os, hb.tape, hb.output, hb.size, fun i hi => hb.block i (Nat.lt_of_lt_of_le hi hB)⟩ : Below B w _).trans h1⟩
theorem aw_read {B : Nat} {w : World} {d : Nat} (h : Own B w d aw4) : Calls Tryz.prog 56 #[.pointer (some ⟨d, 0, none⟩), .string ⟨#[97]⟩] w fun e w' => e = .returned (.tuple #[.string ⟨#[97, 98, 99, 100, 101]⟩, .int .i64 0]) ∧ Own B w' d aw4 ∧ Below B w w' :=
  h.looks fun F hp => pread_any hp [97] (by decide)
theorem aw_safe {B : Nat} {w : World} {d : Nat} (h : Own B w d aw4) : Calls Tryz.prog 84 #[.pointer (some ⟨d, 0, none⟩), .string ⟨#[97]⟩] w fun e w' => e = .returned (.int .i64 5) ∧ Own B w' d aw4 ∧ Below B w w' :=
  h.looks fun F hp => psafe_any hp [97] (by decide)
theorem aw_used {B : Nat} {w : World} {d : Nat} (h : Own B w d aw4) : Calls Tryz.prog 21 #[.pointer (some ⟨d, 0, none⟩)] w fun e w' => e = .returned (.int .i64 5) ∧ Own B w' d aw4 ∧ Below B w w' :=
  h.looks fun F ⟨M, n, Dm, g, bv, hp⟩ => pused_any hp
theorem own_list {B : Nat} {w : World} {d : Nat} {D : Dst} (h : Own B w d D) : Calls Tryz.prog 31 #[.pointer (some ⟨d, 0, none⟩)] w fun e w' => ∃ a c, e = .returned (.slice a D.files.length c) ∧ Own B w' d D ∧ Below B w w' := by
  obtain ⟨F, ⟨M, n, Dm, g, bv, hp⟩, hF, hB⟩ := h
  refine (plist_any hp).mono ?_
  rintro e w' ⟨v, he, ⟨a, c, rfl, _⟩, _, hb⟩
  rw [List.length_map, show (namesOf D.files).length = D.files.length from by unfold namesOf; rw [List.length_map]] at he
  exact ⟨a, c, he, ⟨F, ⟨M, n, Dm, g, bv, hp.below hb⟩, hF, Nat.le_trans hB hb.size⟩, ⟨hb.os, hb.tape, hb.output, hb.size, fun i hi => hb.block i (Nat.lt_of_lt_of_le hi hB)⟩⟩

end Go.Proofs.YtelcemfaijjcbaaGreatDoor.C12
