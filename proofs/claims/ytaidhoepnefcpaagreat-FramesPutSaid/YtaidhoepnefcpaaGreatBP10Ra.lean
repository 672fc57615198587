/-
  Layer 10, the program: the reader, and what reads a field.
-/
import Derived.Test.YtaidhoepnefcpaaGreatBP10Stp
import Derived.Test.YtaidhoepnefcpaaGreatBCRefSeal
namespace Go.Proofs.YtaidhoepnefcpaaGreat.C10
open Go Go.RowKit Go.Proofs B K P8
set_option linter.unusedVariables false
set_option maxRecDepth 100000
def Rdr (w : World) (b : Nat) (s : List UInt8) (p er : Int) : Prop := w.heap[b]? = some (.cells #[.string (str s), .int .i64 p, .int .i64 er] 206 (0, 0))
theorem Rdr.lt {w : World} {b : Nat} {s : List UInt8} {p er : Int} (h : Rdr w b s p er) : b < w.heap.size := (Array.getElem?_eq_some_iff.1 h).1
theorem Rdr.cells {w : World} {b : Nat} {s : List UInt8} {p er : Int} (h : Rdr w b s p er) : w.cell? ⟨b, 0, none⟩ = some (.string (str s)) /\ w.cell? ⟨b, 1, none⟩ = some (.int .i64 p) /\ w.cell? ⟨b, 2, none⟩ = some (.int .i64 er) /\ w.frozen? ⟨b, 1, none⟩ = false /\ w.frozen? ⟨b, 2, none⟩ = false := by
 unfold Rdr at h;refine ⟨?_, ?_, ?_, ?_, ?_⟩ <;> simp [World.cell?, World.frozen?, h]
theorem Rdr.below {w w' : World} {b : Nat} {s : List UInt8} {p er : Int} (h : Rdr w b s p er) (hb : Below w.heap.size w w') : Rdr w' b s p er := (hb.block _ h.lt).trans h
theorem Rdr.place {w : World} {b : Nat} {s : List UInt8} {p er : Int} (h : Rdr w b s p er) (q : Int) : Rdr (w.setCell ⟨b, 1, none⟩ (.int .i64 q)) b s q er := by
 have := heap_setCell_same w b 1 _ _ (.int .i64 q) h;unfold Rdr;rw [this]; rfl
theorem Rdr.err {w : World} {b : Nat} {s : List UInt8} {p er : Int} (h : Rdr w b s p er) (q : Int) : Rdr (w.setCell ⟨b, 2, none⟩ (.int .i64 q)) b s p q := by
 have := heap_setCell_same w b 2 _ _ (.int .i64 q) h;unfold Rdr;rw [this]; rfl
theorem Rdr.tg {w w' : World} {b g : Nat} {s : List UInt8} {p er : Int} (h : Rdr w b s p er) (t : Tg g w w') (hne : b ≠ g) : Rdr w' b s p er := (t.block b h.lt hne).trans h
def FieldIs {X : Type} (N : Nat) (val : X -> Value) (f : List UInt8 -> Int -> X × Int × Int) : Prop :=
 ∀ (s : List UInt8) (p : Int) (w : World), s.length <= 140737488355328 -> Calls Tryz.prog N #[.string (str s), .int .i64 p] w fun e w' => e = .returned (.tuple #[val (f s p).1, .int .i64 (f s p).2.1, .int .i64 (f s p).2.2]) /\ Below w.heap.size w w'
theorem uu : FieldIs 136 (fun x => .int .i64 x) V.rdAt := fun s p w hs => by
 obtain ⟨x, q, e, h⟩ : ∃ x q e, V.rdAt s p = (x, q, e) := ⟨_, _, _, rfl⟩;rw [h];refine (V.yK (s := str s) (p := p) (x := x) (q := q) (e := e) (by rw [show (str s).data.toList = s from V.qA s, h]) w (by rw [zn]; exact hs)).mono ?_;intro e' w' h';exact ⟨h'.1, h'.2 ▸ Below.refl _ _⟩
theorem Zd : FieldIs 142 (fun x => .string (str x)) V.txt := fun s p w hs => by
 have h := V.readText_any (str s) p w (by rw [zn]; exact hs);rw [show (str s).data.toList = s from V.qA s] at h;exact h
set_option maxHeartbeats 2000000 in
theorem readOne_num (b : Nat) (s : List UInt8) (p er : Int) (w : World) (h : Rdr w b s p er) (hs : s.length <= 140737488355328) :
 Calls Tryz.prog 223 #[.pointer (some ⟨b, 0, none⟩), .func (.func 136) #[] #[]] w fun e w' => e = .returned (.int .i64 (sNum s p er).1) /\ Rdr w' b s (sNum s p er).2.1 (sNum s p er).2.2 /\ Tg b w w' := by
 unfold sNum sOne;obtain ⟨h0, h1, h2, h3, h4⟩ := h.cells;by_cases he : er = 0
 ·subst he
  rw [if_pos rfl];have HF := Lib.hid (fun W => uu s p W hs);obtain ⟨x, q, e, hv⟩ : ∃ x q e, V.rdAt s p = (x, q, e) := ⟨_, _, _, rfl⟩;rw [hv] at HF ⊢;dsimp only at HF ⊢;have HR := Lib.hid h;clear hv h;go_enter Tryz.func223, Tryz.ntmps223;go_upto_region 3 with fail
  go_region_with (go_at_call 136; refine (HF.out _).mono ?_; rintro _ w1 ⟨rfl, hb1⟩; have hr1 := Rdr.below (w := w.drew) (show Rdr w.drew b s p 0 from HR.out) hb1; have g0 := hr1.cells.1; have g1 := hr1.cells.2.1; have g2 := hr1.cells.2.2.1; have g3 := hr1.cells.2.2.2.1; have g4 := hr1.cells.2.2.2.2)
  all_goals go_wp2_with fail
  all_goals go_ret
  all_goals exact ⟨rfl, (hr1.place q).err e, ((Tg.of_below ((Below.refl w.heap.size w).drew.trans hb1)).trans (Tg.set _ _ _ _)).trans (Tg.set _ _ _ _)⟩
 ·have hb : (er == 0) = false := beq_eq_false_iff_ne.2 he
  rw [if_neg he];go_enter Tryz.func223, Tryz.ntmps223;go_wp2_with fail;go_ret;exact ⟨rfl, h, Tg.refl _ _⟩
theorem zA (b : Nat) (s : List UInt8) (p er : Int) (w : World) (h : Rdr w b s p er) (hs : s.length <= 140737488355328) :
 Calls Tryz.prog 194 #[.pointer (some ⟨b, 0, none⟩)] w fun e w' => e = .returned (.int .i64 (sNum s p er).1) /\ Rdr w' b s (sNum s p er).2.1 (sNum s p er).2.2 /\ Tg b w w' := by
 have HC := Lib.hid (readOne_num b s p er w h hs);obtain ⟨x, q, e, hv⟩ : ∃ x q e, sNum s p er = (x, q, e) := ⟨_, _, _, rfl⟩;rw [hv] at HC ⊢;clear hv h;dsimp only at HC ⊢;go_enter Tryz.func194, Tryz.ntmps194;go_wp2_with (go_at_call 223; refine HC.out.mono ?_; rintro _ w1 ⟨rfl, h1⟩; have H1 := Lib.hid h1; clear h1)
 go_ret;exact ⟨rfl, H1.out⟩
set_option maxHeartbeats 2000000 in
theorem readOne_txt (b : Nat) (s : List UInt8) (p er : Int) (w : World) (h : Rdr w b s p er) (hs : s.length <= 140737488355328) :
 Calls Tryz.prog 222 #[.pointer (some ⟨b, 0, none⟩), .func (.func 142) #[] #[]] w fun e w' => e = .returned (.string (str (sTxt s p er).1)) /\ Rdr w' b s (sTxt s p er).2.1 (sTxt s p er).2.2 /\ Tg b w w' := by
 unfold sTxt sOne;obtain ⟨h0, h1, h2, h3, h4⟩ := h.cells;by_cases he : er = 0
 ·subst he
  rw [if_pos rfl];have HF := Lib.hid (fun W => Zd s p W hs);obtain ⟨x, q, e, hv⟩ : ∃ x q e, V.txt s p = (x, q, e) := ⟨_, _, _, rfl⟩;rw [hv] at HF ⊢;dsimp only at HF ⊢;have HR := Lib.hid h;clear hv h;go_enter Tryz.func222, Tryz.ntmps222;go_upto_region 3 with fail
  go_region_with (go_at_call 142; refine (HF.out _).mono ?_; rintro _ w1 ⟨rfl, hb1⟩; have hr1 := Rdr.below (w := w.drew) (show Rdr w.drew b s p 0 from HR.out) hb1; have g0 := hr1.cells.1; have g1 := hr1.cells.2.1; have g2 := hr1.cells.2.2.1; have g3 := hr1.cells.2.2.2.1; have g4 := hr1.cells.2.2.2.2)
  all_goals go_wp2_with fail
  all_goals go_ret
  all_goals exact ⟨rfl, (hr1.place q).err e, ((Tg.of_below ((Below.refl w.heap.size w).drew.trans hb1)).trans (Tg.set _ _ _ _)).trans (Tg.set _ _ _ _)⟩
 ·have hb : (er == 0) = false := beq_eq_false_iff_ne.2 he
  rw [if_neg he];go_enter Tryz.func222, Tryz.ntmps222;go_wp2_with fail;go_ret;exact ⟨rfl, h, Tg.refl _ _⟩
theorem Zw (b : Nat) (s : List UInt8) (p er : Int) (w : World) (h : Rdr w b s p er) (hs : s.length <= 140737488355328) :
 Calls Tryz.prog 193 #[.pointer (some ⟨b, 0, none⟩)] w fun e w' => e = .returned (.string (str (sTxt s p er).1)) /\ Rdr w' b s (sTxt s p er).2.1 (sTxt s p er).2.2 /\ Tg b w w' := by
 have HC := Lib.hid (readOne_txt b s p er w h hs);obtain ⟨x, q, e, hv⟩ : ∃ x q e, sTxt s p er = (x, q, e) := ⟨_, _, _, rfl⟩;rw [hv] at HC ⊢;clear hv h;dsimp only at HC ⊢;go_enter Tryz.func193, Tryz.ntmps193;go_wp2_with (go_at_call 222; refine HC.out.mono ?_; rintro _ w1 ⟨rfl, h1⟩; have H1 := Lib.hid h1; clear h1)
 go_ret;exact ⟨rfl, H1.out⟩
end Go.Proofs.YtaidhoepnefcpaaGreat.C10
