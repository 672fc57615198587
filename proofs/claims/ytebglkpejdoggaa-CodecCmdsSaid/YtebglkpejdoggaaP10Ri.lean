/-
  Layer 10, the program: what reads values, one verdict, one event, one item, and lists of them.
-/
import Derived.Test.YtebglkpejdoggaaP10RlT
namespace Go.Proofs.Ytebglkpejdoggaa.C10
open Go Go.RowKit Go.Proofs Go.Proofs.Ytebglkpejdoggaa.B Go.Proofs.Ytebglkpejdoggaa.K Go.Proofs.Ytebglkpejdoggaa.P8
set_option linter.unusedVariables false
set_option maxRecDepth 100000

theorem num_item (b : Nat) (s : List UInt8) (hs : s.length ≤ 140737488355328) : ∀ (p er : Int) (W : World), Rdr W b s p er → Calls Try.prog 59 #[.pointer (some ⟨b, 0, none⟩)] W fun e w' => ∃ x q er', sNum s p er = (x, q, er') ∧ (e = .returned (.int .i64 x) ∧ Rdr w' b s q er' ∧ Tg b W w') := fun p er W h =>
  (number_any b s p er W h hs).mono fun e w' hh => ⟨_, _, _, rfl, hh⟩
theorem txt_item (b : Nat) (s : List UInt8) (hs : s.length ≤ 140737488355328) : ∀ (p er : Int) (W : World), Rdr W b s p er → Calls Try.prog 60 #[.pointer (some ⟨b, 0, none⟩)] W fun e w' => ∃ x q er', sTxt s p er = (x, q, er') ∧ (e = .returned (.string (str x)) ∧ Rdr w' b s q er' ∧ Tg b W w') := fun p er W h =>
  (name_any b s p er W h hs).mono fun e w' hh => ⟨_, _, _, rfl, hh⟩
/-- A list of numbers that was made. -/
def NsF (base : Nat) (w : World) (v : Value) (xs : List Int) : Prop := SlN w v xs ∧ Fr base v
theorem nsf_of {base : Nat} {w : World} {v : Value} {xs : List Int} (h : LsIs 1 QI base w v xs) : NsF base w v xs := ⟨sln_of h.list, h.fr⟩
theorem NsF.tg {base g : Nat} {w w' : World} {v : Value} {xs : List Int} (h : NsF base w v xs) (t : Tg g w w') (hg : g < base) : NsF base w' v xs := ⟨SlN.tg h.1 t h.2 hg, h.2⟩
theorem NsF.mono {base base' : Nat} {w : World} {v : Value} {xs : List Int} (h : NsF base w v xs) (hb : base' ≤ base) : NsF base' w v xs := ⟨h.1, h.2.mono hb⟩

theorem rdValues_any (b : Nat) (s : List UInt8) (most : Nat) (m : Int) (em : m = (most : Int)) (hm : most ≤ 256) (hs : s.length ≤ 140737488355328) (p er : Int) (w : World) (h : Rdr w b s p er) :
    Calls Try.prog 61 #[.pointer (some ⟨b, 0, none⟩), .int .i64 m] w fun e w' => ∃ v, e = .returned v ∧ NsF w.heap.size w' v (sList sNum most s p er).1 ∧ Rdr w' b s (sList sNum most s p er).2.1 (sList sNum most s p er).2.2 ∧ Tg b w w' := by
  have hmf : ∀ (fn : Fn) (first cap : Array Value) (w : World), (Instr.makeFunc fn first cap).run Try.prog w = .ok (.func fn first cap) w := fun _ _ _ _ => rfl
  have HC := Lib.hid (readList_I b s most hm hs (num_item b s hs) p er w h)
  clear h
  subst em
  go_enter Try.func61, Try.ntmps61
  go_wp2_with (go_at_call 76; refine HC.out.mono ?_; rintro _ w1 ⟨v, rfl, hv, h1⟩; have HV := Lib.hid hv; have H1 := Lib.hid h1; clear hv h1)
  go_ret
  exact ⟨v, rfl, nsf_of HV.out, H1.out⟩

/-- The end of a function whose result lies in a block. -/
theorem row_end {fn : Func} {p g : Nat} {ty : TypeId} {cs : Array Value} {fs : Array Field} {R : Ending → World → Prop} {ac : Act} {w : World} (hres : fn.results = #[.cell p ty]) (hp : ac.tmps.getD p undef = .pointer (some ⟨g, 0, none⟩)) (hd : ac.defers = [])
    (hg : w.heap[g]? = some (.cells cs ty (0, 0))) (hu : Try.prog.underlying ty = some (.struct fs)) (hi : (Try.prog.info? ty).map (·.size) = some cs.size) (hR : R (.returned (.agg cs)) w) : bodyPost Try.prog fn R .ret ac w :=
  bodyPost_ret (v := .agg cs) (results_cell_row hres _ _ g ty _ (0, 0) _ hp hg hu rfl hi) hd hR

end Go.Proofs.Ytebglkpejdoggaa.C10
