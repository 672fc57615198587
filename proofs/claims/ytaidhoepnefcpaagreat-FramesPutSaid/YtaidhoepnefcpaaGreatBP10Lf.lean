/-
  Layer 10, the program: lists read as a whole.
-/
import Derived.Test.YtaidhoepnefcpaaGreatBP10Ri
namespace Go.Proofs.YtaidhoepnefcpaaGreat.C10
open Go Go.RowKit Go.Proofs B K P8
set_option linter.unusedVariables false
set_option maxRecDepth 100000
theorem jS {base : Nat} {w : World} {v : Value} {l : List Ev} (h : LsIs 2 QE base w v l) : EvsIs w v l := h.list.imp fun ds x ⟨u, e, h1, _⟩ => ⟨u, e, h1⟩
theorem jR {base : Nat} {w : World} {v : Value} {l : List It} (h : LsIs 4 QT base w v l) : ItsIs w v l := h.list.imp fun ds x ⟨u, e, h1, _⟩ => ⟨u, e, h1⟩
theorem jU {base : Nat} {w : World} {v : Value} {l : List Vd} (h : LsIs 2 QV base w v l) : VdsIs w v l := h.list.imp fun ds x e => e
theorem jT {base : Nat} {w : World} {v : Value} {l : List (List UInt8)} (h : LsIs 1 QS base w v l) : SlT w v l := slt_of h.list
def RdOut {X : Type} (Is : World -> Value -> List X -> Prop) (rd : Rd (List X)) (s : List UInt8) (p : Int) (w : World) (e : Ending) (w' : World) : Prop :=
 ∃ (l : List X) (u : Value) (q er : Int), e = .returned (.tuple #[u, .int .i64 q, .int .i64 er]) /\ Is w' u l /\ Below w.heap.size w w' /\ (match rd s p with | some r => l = r.1 /\ q = r.2 /\ er = 0 | none => er ≠ 0 /\ q = 0 /\ l = [])
theorem yE {X : Type} {Is : World -> Value -> List X -> Prop} {rd : Rd (List X)} {s : List UInt8} {p : Int} {w w' : World} {er : Int} (h : rd s p = none) (he : er ≠ 0) (hi : Is w' (.slice none 0 0) []) (hb : Below w.heap.size w w') : RdOut Is rd s p w (.returned (.tuple #[.slice none 0 0, .int .i64 0, .int .i64 er])) w' :=
 ⟨[], _, 0, er, rfl, hi, hb, by rw [h]; exact ⟨he, rfl, rfl⟩⟩
theorem qO {X : Type} {Is : World -> Value -> List X -> Prop} {rd : Rd (List X)} {s : List UInt8} {p q : Int} {w w' : World} {l : List X} {u : Value} (h : rd s p = some (l, q)) (hi : Is w' u l) (hb : Below w.heap.size w w') : RdOut Is rd s p w (.returned (.tuple #[u, .int .i64 q, .int .i64 0])) w' :=
 ⟨l, u, q, 0, rfl, hi, hb, by rw [h]; exact ⟨rfl, rfl, rfl⟩⟩
theorem ZX : Sim (fun _ => True) (sThen sEvs (sOk evsP)) rdEvs := by
 unfold rdEvs;refine yB (jW sim_ev 3) (fun l _ => jO _ _) (fun l => jN _ _) (fun l s p y q hl h => ?_);have hk := (zC h).1;refine absurd (fun x hx => ?_) hl;have he := (qg hk).1 x hx;unfold evP at he;rw [Bool.and_eq_true] at he;exact (zZ he.2).2
theorem uQ {base base' : Nat} {w : World} {v : Value} {l : List (List UInt8)} (h : LsIs 1 QS base w v l) (hb : base' <= base) : LsIs 1 QS base' w v l := ⟨h.list.imp fun ds x hq => hq.mono hb, h.fr.mono hb⟩
theorem ZR {base : Nat} {w w' : World} {v : Value} {l : List (List UInt8)} (h : LsIs 1 QS base w v l) (hb : Below w.heap.size w w') : LsIs 1 QS base w' v l := ⟨SlOf.below h.list hb fun ds x q => q, h.fr⟩
theorem qH {base base' : Nat} {w : World} {v : Value} {l : List Ev} (h : LsIs 2 QE base w v l) (hb : base' <= base) : LsIs 2 QE base' w v l := ⟨h.list.imp fun ds x hq => hq.mono hb, h.fr.mono hb⟩
theorem ZF {base : Nat} {w w' : World} {v : Value} {l : List Ev} (h : LsIs 2 QE base w v l) (hb : Below w.heap.size w w') : LsIs 2 QE base w' v l := ⟨SlOf.below h.list hb fun ds x q => let ⟨u, e, h1, h2⟩ := q; ⟨u, e, h1.below hb, h2⟩, h.fr⟩
theorem uS {base base' : Nat} {w : World} {v : Value} {l : List It} (h : LsIs 4 QT base w v l) (hb : base' <= base) : LsIs 4 QT base' w v l := ⟨h.list.imp fun ds x hq => hq.mono hb, h.fr.mono hb⟩
theorem ZJ {base : Nat} {w w' : World} {v : Value} {l : List It} (h : LsIs 4 QT base w v l) (hb : Below w.heap.size w w') : LsIs 4 QT base w' v l := ⟨SlOf.below h.list hb fun ds x q => let ⟨u, e, h1, h2⟩ := q; ⟨u, e, h1.below hb, h2⟩, h.fr⟩
theorem jE {base base' : Nat} {w : World} {v : Value} {l : List Vd} (h : LsIs 2 QV base w v l) (hb : base' <= base) : LsIs 2 QV base' w v l := ⟨h.list.imp fun ds x hq => hq.mono hb, h.fr.mono hb⟩
theorem ZG {base : Nat} {w w' : World} {v : Value} {l : List Vd} (h : LsIs 2 QV base w v l) (hb : Below w.heap.size w w') : LsIs 2 QV base w' v l := ⟨SlOf.below h.list hb fun ds x q => q, h.fr⟩
set_option maxHeartbeats 4000000 in
theorem pReadEvents0 (s : List UInt8) (p : Int) (w : World) (hs : s.length <= 140737488355328) :
 Calls Tryz.prog 197 #[.string (str s), .int .i64 p, .func (.func 198) #[] #[], .func (.func 172) #[] #[]] w (RdOut (fun W u l => LsIs 2 QE w.heap.size W u l) rdEvs s p w) := by
 obtain ⟨g, hg⟩ : ∃ g, w.heap.size = g := ⟨_, rfl⟩;obtain ⟨W0, hW0⟩ : ∃ W0, w.alloc (.cells #[.string (str s), .int .i64 p, .int .i64 0] 206) = W0 := ⟨_, rfl⟩;have hB0 : Below w.heap.size w W0 := by rw [<- hW0]; exact zf _ _
 have hr0 : Rdr W0 g s p 0 := by rw [<- hW0, <- hg]; exact zg _ _
 have HR := Lib.hid (readEvents_any g s hs p 0 W0 hr0);obtain ⟨x, q1, e1, hst⟩ : ∃ x q e, sEvs s p 0 = (x, q, e) := ⟨_, _, _, rfl⟩;have hwf := all_evs s p 0;rw [hst] at HR hwf;dsimp only at HR hwf;have HM := Lib.hid (fun W (v : Value) (hv : EvsIs W v x) => (uw x _ W hv hwf : Calls Tryz.prog 172 #[v] W _));have HB0 := Lib.hid hB0;have hgz : w.heap.size <= g := Nat.le_of_eq hg;by_cases he : e1 = 0
 ·subst he
  cases hok : evsP x with
  | true =>
   have HYES := Lib.hid (jr ZX hst hok);rw [hok] at HM;clear hst hok hwf hr0 hB0;go_enter Tryz.func197, Tryz.ntmps197;go_wp2_with fail;try rw [hg]
   refine HR.out.mono ?_;rintro _ w1 ⟨v, rfl, hv, hr1, ht1⟩;have HV := Lib.hid (qH hv HB0.out.size);have HR1 := Lib.hid hr1;have HB1 := Lib.hid (Tg.onto HB0.out (Nat.le_refl _) hgz ht1);obtain ⟨-, c1, c2, -, -⟩ := hr1.cells;obtain ⟨a, cap, rfl, -⟩ := (jS HV.out).open;clear hv hr1 ht1 HR hW0;go_wp2_with fail;refine (HM.out _ _ (jS HV.out)).mono ?_;rintro _ w2 ⟨rfl, hb2⟩;have HR2 := Lib.hid (HR1.out.below hb2);have HV2 := Lib.hid (ZF HV.out hb2);have HB2 := Lib.hid (HB1.out.trans (hb2.mono HB1.out.size));obtain ⟨-, d1, d2, -, -⟩ := HR2.out.cells;clear hb2 c1 c2 HM;go_wp2_with fail;go_quiet (fail)
   go_wp2_with fail;go_ret3;exact qO HYES.out ⟨HV2.out.list, HV2.out.fr⟩ (HB2.out.trans ((P8.below_drewN w2 nq).mono HB2.out.size))
  | false =>
   have HNO := Lib.hid (yM ZX hst (Or.inr hok));rw [hok] at HM;clear hst hok hwf hr0 hB0;go_enter Tryz.func197, Tryz.ntmps197;go_wp2_with fail;try rw [hg]
   refine HR.out.mono ?_;rintro _ w1 ⟨v, rfl, hv, hr1, ht1⟩;have HV := Lib.hid (qH hv HB0.out.size);have HR1 := Lib.hid hr1;have HB1 := Lib.hid (Tg.onto HB0.out (Nat.le_refl _) hgz ht1);obtain ⟨-, c1, c2, -, -⟩ := hr1.cells;obtain ⟨a, cap, rfl, -⟩ := (jS HV.out).open;clear hv hr1 ht1 HR hW0;go_wp2_with fail;refine (HM.out _ _ (jS HV.out)).mono ?_;rintro _ w2 ⟨rfl, hb2⟩;have HR2 := Lib.hid (HR1.out.below hb2);have HB2 := Lib.hid (HB1.out.trans (hb2.mono HB1.out.size));have HR3 := Lib.hid (HR2.out.err 6);have HB3 := Lib.hid (Tg.onto HB2.out (Nat.le_refl _) hgz (Tg.set w2 g 2 (.int .i64 6)));obtain ⟨-, d1, d2, d3, d4⟩ := HR2.out.cells;obtain ⟨-, f1, f2, f3, f4⟩ := HR3.out.cells;clear hb2 c1 c2 HM HV;go_wp2_with fail;go_quiet (fail)
   go_wp2_with fail;go_ret3;exact yE HNO.out (by decide) (LsIs.nil _ _ _ _) (HB3.out.trans ((P8.below_drewN _ _).mono HB3.out.size))
 ·have HNO := Lib.hid (yM ZX hst (Or.inl he))
  have HE := Lib.hid he;have hbe : (e1 == 0) = false := beq_eq_false_iff_ne.2 he;clear hst hwf hr0 hB0 HM he;go_enter Tryz.func197, Tryz.ntmps197;go_wp2_with fail;try rw [hg]
  refine HR.out.mono ?_;rintro _ w1 ⟨v, rfl, hv, hr1, ht1⟩;have HB1 := Lib.hid (Tg.onto HB0.out (Nat.le_refl _) hgz ht1);obtain ⟨-, c1, c2, -, -⟩ := hr1.cells;obtain ⟨a, cap, rfl, -⟩ := (jS hv).open;clear hv hr1 ht1 HR hW0;go_wp2_with fail;go_quiet (fail)
  go_wp2_with fail;go_ret3;exact yE HNO.out HE.out (LsIs.nil _ _ _ _) (HB1.out.trans ((P8.below_drewN _ _).mono HB1.out.size))
theorem pReadEvents_any (s : List UInt8) (p : Int) (w : World) (hs : s.length <= 140737488355328) :
 Calls Tryz.prog 144 #[.string (str s), .int .i64 p] w (RdOut (fun W u l => LsIs 2 QE w.heap.size W u l) rdEvs s p w) := by
 have H := Lib.hid (pReadEvents0 s p w hs);go_enter Tryz.func144, Tryz.ntmps144;go_wp2_with fail;refine H.out.mono ?_;rintro _ w1 ⟨l, u, q, er, rfl, h1⟩;have H1 := Lib.hid h1;obtain ⟨a, cap, rfl, -⟩ := h1.1.list.open;clear h1;go_wp2_with fail;go_ret3;exact ⟨l, _, q, er, rfl, H1.out⟩
set_option maxHeartbeats 4000000 in
theorem pReadItems0 (s : List UInt8) (p : Int) (w : World) (hs : s.length <= 140737488355328) :
 Calls Tryz.prog 145 #[.string (str s), .int .i64 p, .func (.func 146) #[] #[], .func (.func 123) #[] #[]] w (RdOut (fun W u l => LsIs 4 QT w.heap.size W u l) rdItems s p w) := by
 obtain ⟨g, hg⟩ : ∃ g, w.heap.size = g := ⟨_, rfl⟩;obtain ⟨W0, hW0⟩ : ∃ W0, w.alloc (.cells #[.string (str s), .int .i64 p, .int .i64 0] 206) = W0 := ⟨_, rfl⟩;have hB0 : Below w.heap.size w W0 := by rw [<- hW0]; exact zf _ _
 have hr0 : Rdr W0 g s p 0 := by rw [<- hW0, <- hg]; exact zg _ _
 have HR := Lib.hid (readItems_any g s hs p 0 W0 hr0);obtain ⟨x, q1, e1, hst⟩ : ∃ x q e, sIts s p 0 = (x, q, e) := ⟨_, _, _, rfl⟩;have hwf := all_its s p 0;rw [hst] at HR hwf;dsimp only at HR hwf;have HM := Lib.hid (fun W (v : Value) (hv : ItsIs W v x) => (uG x _ W hv hwf : Calls Tryz.prog 123 #[v] W _));have HB0 := Lib.hid hB0;have hgz : w.heap.size <= g := Nat.le_of_eq hg;by_cases he : e1 = 0
 ·subst he
  cases hok : itemsP x with
  | true =>
   have HYES := Lib.hid (jr uL hst hok);rw [hok] at HM;clear hst hok hwf hr0 hB0;go_enter Tryz.func145, Tryz.ntmps145;go_wp2_with fail;try rw [hg]
   refine HR.out.mono ?_;rintro _ w1 ⟨v, rfl, hv, hr1, ht1⟩;have HV := Lib.hid (uS hv HB0.out.size);have HR1 := Lib.hid hr1;have HB1 := Lib.hid (Tg.onto HB0.out (Nat.le_refl _) hgz ht1);obtain ⟨-, c1, c2, -, -⟩ := hr1.cells;obtain ⟨a, cap, rfl, -⟩ := (jR HV.out).open;clear hv hr1 ht1 HR hW0;go_wp2_with fail;refine (HM.out _ _ (jR HV.out)).mono ?_;rintro _ w2 ⟨rfl, hb2⟩;have HR2 := Lib.hid (HR1.out.below hb2);have HV2 := Lib.hid (ZJ HV.out hb2);have HB2 := Lib.hid (HB1.out.trans (hb2.mono HB1.out.size));obtain ⟨-, d1, d2, -, -⟩ := HR2.out.cells;clear hb2 c1 c2 HM;go_wp2_with fail;go_quiet (fail)
   go_wp2_with fail;go_ret3;exact qO HYES.out ⟨HV2.out.list, HV2.out.fr⟩ (HB2.out.trans ((P8.below_drewN w2 nq).mono HB2.out.size))
  | false =>
   have HNO := Lib.hid (yM uL hst (Or.inr hok));rw [hok] at HM;clear hst hok hwf hr0 hB0;go_enter Tryz.func145, Tryz.ntmps145;go_wp2_with fail;try rw [hg]
   refine HR.out.mono ?_;rintro _ w1 ⟨v, rfl, hv, hr1, ht1⟩;have HV := Lib.hid (uS hv HB0.out.size);have HR1 := Lib.hid hr1;have HB1 := Lib.hid (Tg.onto HB0.out (Nat.le_refl _) hgz ht1);obtain ⟨-, c1, c2, -, -⟩ := hr1.cells;obtain ⟨a, cap, rfl, -⟩ := (jR HV.out).open;clear hv hr1 ht1 HR hW0;go_wp2_with fail;refine (HM.out _ _ (jR HV.out)).mono ?_;rintro _ w2 ⟨rfl, hb2⟩;have HR2 := Lib.hid (HR1.out.below hb2);have HB2 := Lib.hid (HB1.out.trans (hb2.mono HB1.out.size));have HR3 := Lib.hid (HR2.out.err 6);have HB3 := Lib.hid (Tg.onto HB2.out (Nat.le_refl _) hgz (Tg.set w2 g 2 (.int .i64 6)));obtain ⟨-, d1, d2, d3, d4⟩ := HR2.out.cells;obtain ⟨-, f1, f2, f3, f4⟩ := HR3.out.cells;clear hb2 c1 c2 HM HV;go_wp2_with fail;go_quiet (fail)
   go_wp2_with fail;go_ret3;exact yE HNO.out (by decide) (LsIs.nil _ _ _ _) (HB3.out.trans ((P8.below_drewN _ _).mono HB3.out.size))
 ·have HNO := Lib.hid (yM uL hst (Or.inl he))
  have HE := Lib.hid he;have hbe : (e1 == 0) = false := beq_eq_false_iff_ne.2 he;clear hst hwf hr0 hB0 HM he;go_enter Tryz.func145, Tryz.ntmps145;go_wp2_with fail;try rw [hg]
  refine HR.out.mono ?_;rintro _ w1 ⟨v, rfl, hv, hr1, ht1⟩;have HB1 := Lib.hid (Tg.onto HB0.out (Nat.le_refl _) hgz ht1);obtain ⟨-, c1, c2, -, -⟩ := hr1.cells;obtain ⟨a, cap, rfl, -⟩ := (jR hv).open;clear hv hr1 ht1 HR hW0;go_wp2_with fail;go_quiet (fail)
  go_wp2_with fail;go_ret3;exact yE HNO.out HE.out (LsIs.nil _ _ _ _) (HB1.out.trans ((P8.below_drewN _ _).mono HB1.out.size))
theorem pReadItems_any (s : List UInt8) (p : Int) (w : World) (hs : s.length <= 140737488355328) :
 Calls Tryz.prog 91 #[.string (str s), .int .i64 p] w (RdOut (fun W u l => LsIs 4 QT w.heap.size W u l) rdItems s p w) := by
 have H := Lib.hid (pReadItems0 s p w hs);go_enter Tryz.func91, Tryz.ntmps91;go_wp2_with fail;refine H.out.mono ?_;rintro _ w1 ⟨l, u, q, er, rfl, h1⟩;have H1 := Lib.hid h1;obtain ⟨a, cap, rfl, -⟩ := h1.1.list.open;clear h1;go_wp2_with fail;go_ret3;exact ⟨l, _, q, er, rfl, H1.out⟩
set_option maxHeartbeats 4000000 in
theorem pReadVerdicts0 (s : List UInt8) (p : Int) (w : World) (hs : s.length <= 140737488355328) :
 Calls Tryz.prog 147 #[.string (str s), .int .i64 p, .func (.func 148) #[] #[], .func (.func 126) #[] #[]] w (RdOut (fun W u l => LsIs 2 QV w.heap.size W u l) rdVds s p w) := by
 obtain ⟨g, hg⟩ : ∃ g, w.heap.size = g := ⟨_, rfl⟩;obtain ⟨W0, hW0⟩ : ∃ W0, w.alloc (.cells #[.string (str s), .int .i64 p, .int .i64 0] 206) = W0 := ⟨_, rfl⟩;have hB0 : Below w.heap.size w W0 := by rw [<- hW0]; exact zf _ _
 have hr0 : Rdr W0 g s p 0 := by rw [<- hW0, <- hg]; exact zg _ _
 have HR := Lib.hid (readVerdicts_any g s hs p 0 W0 hr0);obtain ⟨x, q1, e1, hst⟩ : ∃ x q e, sVds s p 0 = (x, q, e) := ⟨_, _, _, rfl⟩;have hwf := all_vds s p 0;rw [hst] at HR hwf;dsimp only at HR hwf;have HM := Lib.hid (fun W (v : Value) (hv : VdsIs W v x) => (jy x _ W hv hwf : Calls Tryz.prog 126 #[v] W _));have HB0 := Lib.hid hB0;have hgz : w.heap.size <= g := Nat.le_of_eq hg;by_cases he : e1 = 0
 ·subst he
  cases hok : vdsP x with
  | true =>
   have HYES := Lib.hid (jr Z0 hst hok);rw [hok] at HM;clear hst hok hwf hr0 hB0;go_enter Tryz.func147, Tryz.ntmps147;go_wp2_with fail;try rw [hg]
   refine HR.out.mono ?_;rintro _ w1 ⟨v, rfl, hv, hr1, ht1⟩;have HV := Lib.hid (jE hv HB0.out.size);have HR1 := Lib.hid hr1;have HB1 := Lib.hid (Tg.onto HB0.out (Nat.le_refl _) hgz ht1);obtain ⟨-, c1, c2, -, -⟩ := hr1.cells;obtain ⟨a, cap, rfl, -⟩ := (jU HV.out).open;clear hv hr1 ht1 HR hW0;go_wp2_with fail;refine (HM.out _ _ (jU HV.out)).mono ?_;rintro _ w2 ⟨rfl, hb2⟩;have HR2 := Lib.hid (HR1.out.below hb2);have HV2 := Lib.hid (ZG HV.out hb2);have HB2 := Lib.hid (HB1.out.trans (hb2.mono HB1.out.size));obtain ⟨-, d1, d2, -, -⟩ := HR2.out.cells;clear hb2 c1 c2 HM;go_wp2_with fail;go_quiet (fail)
   go_wp2_with fail;go_ret3;exact qO HYES.out ⟨HV2.out.list, HV2.out.fr⟩ (HB2.out.trans ((P8.below_drewN w2 nq).mono HB2.out.size))
  | false =>
   have HNO := Lib.hid (yM Z0 hst (Or.inr hok));rw [hok] at HM;clear hst hok hwf hr0 hB0;go_enter Tryz.func147, Tryz.ntmps147;go_wp2_with fail;try rw [hg]
   refine HR.out.mono ?_;rintro _ w1 ⟨v, rfl, hv, hr1, ht1⟩;have HV := Lib.hid (jE hv HB0.out.size);have HR1 := Lib.hid hr1;have HB1 := Lib.hid (Tg.onto HB0.out (Nat.le_refl _) hgz ht1);obtain ⟨-, c1, c2, -, -⟩ := hr1.cells;obtain ⟨a, cap, rfl, -⟩ := (jU HV.out).open;clear hv hr1 ht1 HR hW0;go_wp2_with fail;refine (HM.out _ _ (jU HV.out)).mono ?_;rintro _ w2 ⟨rfl, hb2⟩;have HR2 := Lib.hid (HR1.out.below hb2);have HB2 := Lib.hid (HB1.out.trans (hb2.mono HB1.out.size));have HR3 := Lib.hid (HR2.out.err 6);have HB3 := Lib.hid (Tg.onto HB2.out (Nat.le_refl _) hgz (Tg.set w2 g 2 (.int .i64 6)));obtain ⟨-, d1, d2, d3, d4⟩ := HR2.out.cells;obtain ⟨-, f1, f2, f3, f4⟩ := HR3.out.cells;clear hb2 c1 c2 HM HV;go_wp2_with fail;go_quiet (fail)
   go_wp2_with fail;go_ret3;exact yE HNO.out (by decide) (LsIs.nil _ _ _ _) (HB3.out.trans ((P8.below_drewN _ _).mono HB3.out.size))
 ·have HNO := Lib.hid (yM Z0 hst (Or.inl he))
  have HE := Lib.hid he;have hbe : (e1 == 0) = false := beq_eq_false_iff_ne.2 he;clear hst hwf hr0 hB0 HM he;go_enter Tryz.func147, Tryz.ntmps147;go_wp2_with fail;try rw [hg]
  refine HR.out.mono ?_;rintro _ w1 ⟨v, rfl, hv, hr1, ht1⟩;have HB1 := Lib.hid (Tg.onto HB0.out (Nat.le_refl _) hgz ht1);obtain ⟨-, c1, c2, -, -⟩ := hr1.cells;obtain ⟨a, cap, rfl, -⟩ := (jU hv).open;clear hv hr1 ht1 HR hW0;go_wp2_with fail;go_quiet (fail)
  go_wp2_with fail;go_ret3;exact yE HNO.out HE.out (LsIs.nil _ _ _ _) (HB1.out.trans ((P8.below_drewN _ _).mono HB1.out.size))
theorem pReadVerdicts_any (s : List UInt8) (p : Int) (w : World) (hs : s.length <= 140737488355328) :
 Calls Tryz.prog 93 #[.string (str s), .int .i64 p] w (RdOut (fun W u l => LsIs 2 QV w.heap.size W u l) rdVds s p w) := by
 have H := Lib.hid (pReadVerdicts0 s p w hs);go_enter Tryz.func93, Tryz.ntmps93;go_wp2_with fail;refine H.out.mono ?_;rintro _ w1 ⟨l, u, q, er, rfl, h1⟩;have H1 := Lib.hid h1;obtain ⟨a, cap, rfl, -⟩ := h1.1.list.open;clear h1;go_wp2_with fail;go_ret3;exact ⟨l, _, q, er, rfl, H1.out⟩
set_option maxHeartbeats 4000000 in
theorem pReadFilter0 (s : List UInt8) (p : Int) (w : World) (hs : s.length <= 140737488355328) :
 Calls Tryz.prog 137 #[.string (str s), .int .i64 p, .func (.func 138) #[] #[], .func (.func 113) #[] #[]] w (RdOut (fun W u l => LsIs 1 QS w.heap.size W u l) rdFilt s p w) := by
 obtain ⟨g, hg⟩ : ∃ g, w.heap.size = g := ⟨_, rfl⟩;obtain ⟨W0, hW0⟩ : ∃ W0, w.alloc (.cells #[.string (str s), .int .i64 p, .int .i64 0] 206) = W0 := ⟨_, rfl⟩;have hB0 : Below w.heap.size w W0 := by rw [<- hW0]; exact zf _ _
 have hr0 : Rdr W0 g s p 0 := by rw [<- hW0, <- hg]; exact zg _ _
 have HR := Lib.hid (readFilter_any g s hs p 0 W0 hr0);obtain ⟨x, q1, e1, hst⟩ : ∃ x q e, sFilt s p 0 = (x, q, e) := ⟨_, _, _, rfl⟩;have hwf := all_filt s p 0;rw [hst] at HR hwf;dsimp only at HR hwf;have HM := Lib.hid (fun W (v : Value) (hv : SlT W v x) => (uy x _ W hv hwf : Calls Tryz.prog 113 #[v] W _));have HB0 := Lib.hid hB0;have hgz : w.heap.size <= g := Nat.le_of_eq hg;by_cases he : e1 = 0
 ·subst he
  cases hok : filtP x with
  | true =>
   have HYES := Lib.hid (jr Zl hst hok);rw [hok] at HM;clear hst hok hwf hr0 hB0;go_enter Tryz.func137, Tryz.ntmps137;go_wp2_with fail;try rw [hg]
   refine HR.out.mono ?_;rintro _ w1 ⟨v, rfl, hv, hr1, ht1⟩;have HV := Lib.hid (uQ hv HB0.out.size);have HR1 := Lib.hid hr1;have HB1 := Lib.hid (Tg.onto HB0.out (Nat.le_refl _) hgz ht1);obtain ⟨-, c1, c2, -, -⟩ := hr1.cells;obtain ⟨a, cap, rfl, -⟩ := (jT HV.out).open;clear hv hr1 ht1 HR hW0;go_wp2_with fail;refine (HM.out _ _ (jT HV.out)).mono ?_;rintro _ w2 ⟨rfl, hb2⟩;have HR2 := Lib.hid (HR1.out.below hb2);have HV2 := Lib.hid (ZR HV.out hb2);have HB2 := Lib.hid (HB1.out.trans (hb2.mono HB1.out.size));obtain ⟨-, d1, d2, -, -⟩ := HR2.out.cells;clear hb2 c1 c2 HM;go_wp2_with fail;go_quiet (fail)
   go_wp2_with fail;go_ret3;exact qO HYES.out ⟨HV2.out.list, HV2.out.fr⟩ (HB2.out.trans ((P8.below_drewN w2 nq).mono HB2.out.size))
  | false =>
   have HNO := Lib.hid (yM Zl hst (Or.inr hok));rw [hok] at HM;clear hst hok hwf hr0 hB0;go_enter Tryz.func137, Tryz.ntmps137;go_wp2_with fail;try rw [hg]
   refine HR.out.mono ?_;rintro _ w1 ⟨v, rfl, hv, hr1, ht1⟩;have HV := Lib.hid (uQ hv HB0.out.size);have HR1 := Lib.hid hr1;have HB1 := Lib.hid (Tg.onto HB0.out (Nat.le_refl _) hgz ht1);obtain ⟨-, c1, c2, -, -⟩ := hr1.cells;obtain ⟨a, cap, rfl, -⟩ := (jT HV.out).open;clear hv hr1 ht1 HR hW0;go_wp2_with fail;refine (HM.out _ _ (jT HV.out)).mono ?_;rintro _ w2 ⟨rfl, hb2⟩;have HR2 := Lib.hid (HR1.out.below hb2);have HB2 := Lib.hid (HB1.out.trans (hb2.mono HB1.out.size));have HR3 := Lib.hid (HR2.out.err 6);have HB3 := Lib.hid (Tg.onto HB2.out (Nat.le_refl _) hgz (Tg.set w2 g 2 (.int .i64 6)));obtain ⟨-, d1, d2, d3, d4⟩ := HR2.out.cells;obtain ⟨-, f1, f2, f3, f4⟩ := HR3.out.cells;clear hb2 c1 c2 HM HV;go_wp2_with fail;go_quiet (fail)
   go_wp2_with fail;go_ret3;exact yE HNO.out (by decide) (LsIs.nil _ _ _ _) (HB3.out.trans ((P8.below_drewN _ _).mono HB3.out.size))
 ·have HNO := Lib.hid (yM Zl hst (Or.inl he))
  have HE := Lib.hid he;have hbe : (e1 == 0) = false := beq_eq_false_iff_ne.2 he;clear hst hwf hr0 hB0 HM he;go_enter Tryz.func137, Tryz.ntmps137;go_wp2_with fail;try rw [hg]
  refine HR.out.mono ?_;rintro _ w1 ⟨v, rfl, hv, hr1, ht1⟩;have HB1 := Lib.hid (Tg.onto HB0.out (Nat.le_refl _) hgz ht1);obtain ⟨-, c1, c2, -, -⟩ := hr1.cells;obtain ⟨a, cap, rfl, -⟩ := (jT hv).open;clear hv hr1 ht1 HR hW0;go_wp2_with fail;go_quiet (fail)
  go_wp2_with fail;go_ret3;exact yE HNO.out HE.out (LsIs.nil _ _ _ _) (HB1.out.trans ((P8.below_drewN _ _).mono HB1.out.size))
theorem pReadFilter_any (s : List UInt8) (p : Int) (w : World) (hs : s.length <= 140737488355328) :
 Calls Tryz.prog 83 #[.string (str s), .int .i64 p] w (RdOut (fun W u l => LsIs 1 QS w.heap.size W u l) rdFilt s p w) := by
 have H := Lib.hid (pReadFilter0 s p w hs);go_enter Tryz.func83, Tryz.ntmps83;go_wp2_with fail;refine H.out.mono ?_;rintro _ w1 ⟨l, u, q, er, rfl, h1⟩;have H1 := Lib.hid h1;obtain ⟨a, cap, rfl, -⟩ := h1.1.list.open;clear h1;go_wp2_with fail;go_ret3;exact ⟨l, _, q, er, rfl, H1.out⟩
end Go.Proofs.YtaidhoepnefcpaaGreat.C10
