/-
  Layer 12, the program: which names may be.
  Layer 12, the program: what an Append does.
  Layer 12, the program: an Append's own function.
-/
import Derived.Test.YtelcemfaijjcbaaGreatDoorHP12Pd
import Derived.Test.YtelcemfaijjcbaaGreatDoorHP12Rs
import Derived.Test.YtelcemfaijjcbaaGreatDoorHP12Sh
import Derived.Laws.RangeAny
import Derived.Laws.RangeString
import Derived.Test.YtelcemfaijjcbaaGreatDoorHP12Pi
import Derived.Deep.RegionHeldLaw
import Derived.Deep.AppendLies
namespace Go.Proofs.YtelcemfaijjcbaaGreatDoor.C12
open Go Go.RowKit Go.Proofs Go.Proofs.YtelcemfaijjcbaaGreatDoor.B Go.Proofs.YtelcemfaijjcbaaGreatDoor.K Go.Proofs.YtelcemfaijjcbaaGreatDoor.P8
set_option linter.unusedVariables false
set_option maxRecDepth 100000

def foreignN (r : Nat) : Bool := !((decide (97 ≤ r) && decide (r ≤ 122)) || ((decide (48 ≤ r) && decide (r ≤ 57)) || (decide (r = 46) || (decide (r = 45) || decide (r = 95)))))
theorem foreign_nameB (b : UInt8) : foreignN b.toNat = !nameB b := rfl
theorem foreign_high {r : Nat} (h : 128 ≤ r) : foreignN r = true := by
  unfold foreignN
  have h1 : decide (r ≤ 122) = false := decide_eq_false (by omega)
  have h2 : decide (r ≤ 57) = false := decide_eq_false (by omega)
  have h3 : decide (r = 46) = false := decide_eq_false (by omega)
  have h4 : decide (r = 45) = false := decide_eq_false (by omega)
  have h5 : decide (r = 95) = false := decide_eq_false (by omega)
  simp [h1, h2, h3, h4, h5]
theorem nameB_high {b : UInt8} (h : 128 ≤ b.toNat) : nameB b = false := by
  have := foreign_high h
  rw [foreign_nameB] at this
  simpa using this

theorem pforeign_any (R : Nat) (w : World) : Calls Tryz.prog 89 #[.int .i32 (R : Int)] w fun e w' => e = .returned (.bool (foreignN R)) ∧ w = w' := by
  rcases (by omega : R < 45 ∨ R = 45 ∨ R = 46 ∨ R = 47 ∨ (48 ≤ R ∧ R ≤ 57) ∨ (58 ≤ R ∧ R ≤ 94) ∨ R = 95 ∨ R = 96 ∨ (97 ≤ R ∧ R ≤ 122) ∨ 123 ≤ R) with h | rfl | rfl | rfl | h | h | rfl | rfl | h | h
  · have n1 : ((R : Int) != 46) = true := by simp; omega
    have n2 : ((R : Int) != 45) = true := by simp; omega
    have n3 : ((R : Int) != 95) = true := by simp; omega
    have a0 : (R : Int) < 97 := by omega
    have a1 : (R : Int) < 48 := by omega
    rw [show foreignN R = true from by
      unfold foreignN
      rw [decide_eq_false (show ¬ R = 46 by omega), decide_eq_false (show ¬ R = 45 by omega), decide_eq_false (show ¬ R = 95 by omega)]
      rw [decide_eq_false (show ¬ 97 ≤ R by omega), decide_eq_false (show ¬ 48 ≤ R by omega)]; rfl]
    clear h
    go_enter Tryz.func89, Tryz.ntmps89
    go_wp2_with fail
    go_ret
    exact ⟨rfl, rfl⟩
  · rw [show foreignN 45 = false from by decide]
    go_enter Tryz.func89, Tryz.ntmps89
    go_wp2_with fail
    go_ret
    exact ⟨rfl, rfl⟩
  · rw [show foreignN 46 = false from by decide]
    go_enter Tryz.func89, Tryz.ntmps89
    go_wp2_with fail
    go_ret
    exact ⟨rfl, rfl⟩
  · rw [show foreignN 47 = true from by decide]
    go_enter Tryz.func89, Tryz.ntmps89
    go_wp2_with fail
    go_ret
    exact ⟨rfl, rfl⟩
  · have n1 : ((R : Int) != 46) = true := by simp; omega
    have n2 : ((R : Int) != 45) = true := by simp; omega
    have n3 : ((R : Int) != 95) = true := by simp; omega
    have a0 : (R : Int) < 97 := by omega
    have a1 : ¬ (R : Int) < 48 := by omega
    have a2 : ¬ (57 : Int) < (R : Int) := by omega
    rw [show foreignN R = false from by
      unfold foreignN
      rw [decide_eq_false (show ¬ R = 46 by omega), decide_eq_false (show ¬ R = 45 by omega), decide_eq_false (show ¬ R = 95 by omega)]
      rw [decide_eq_false (show ¬ 97 ≤ R by omega), decide_eq_true (show 48 ≤ R by omega), decide_eq_true (show R ≤ 57 by omega)]; rfl]
    clear h
    go_enter Tryz.func89, Tryz.ntmps89
    go_wp2_with fail
    go_ret
    exact ⟨rfl, rfl⟩
  · have n1 : ((R : Int) != 46) = true := by simp; omega
    have n2 : ((R : Int) != 45) = true := by simp; omega
    have n3 : ((R : Int) != 95) = true := by simp; omega
    have a0 : (R : Int) < 97 := by omega
    have a1 : ¬ (R : Int) < 48 := by omega
    have a2 : (57 : Int) < (R : Int) := by omega
    rw [show foreignN R = true from by
      unfold foreignN
      rw [decide_eq_false (show ¬ R = 46 by omega), decide_eq_false (show ¬ R = 45 by omega), decide_eq_false (show ¬ R = 95 by omega)]
      rw [decide_eq_false (show ¬ 97 ≤ R by omega), decide_eq_false (show ¬ R ≤ 57 by omega)]; simp]
    clear h
    go_enter Tryz.func89, Tryz.ntmps89
    go_wp2_with fail
    go_ret
    exact ⟨rfl, rfl⟩
  · rw [show foreignN 95 = false from by decide]
    go_enter Tryz.func89, Tryz.ntmps89
    go_wp2_with fail
    go_ret
    exact ⟨rfl, rfl⟩
  · rw [show foreignN 96 = true from by decide]
    go_enter Tryz.func89, Tryz.ntmps89
    go_wp2_with fail
    go_ret
    exact ⟨rfl, rfl⟩
  · have n1 : ((R : Int) != 46) = true := by simp; omega
    have n2 : ((R : Int) != 45) = true := by simp; omega
    have n3 : ((R : Int) != 95) = true := by simp; omega
    have a0 : ¬ (R : Int) < 97 := by omega
    have a1 : ¬ (122 : Int) < (R : Int) := by omega
    rw [show foreignN R = false from by
      unfold foreignN
      rw [decide_eq_false (show ¬ R = 46 by omega), decide_eq_false (show ¬ R = 45 by omega), decide_eq_false (show ¬ R = 95 by omega)]
      rw [decide_eq_true (show 97 ≤ R by omega), decide_eq_true (show R ≤ 122 by omega)]; rfl]
    clear h
    go_enter Tryz.func89, Tryz.ntmps89
    go_wp2_with fail
    go_ret
    exact ⟨rfl, rfl⟩
  · have n1 : ((R : Int) != 46) = true := by simp; omega
    have n2 : ((R : Int) != 45) = true := by simp; omega
    have n3 : ((R : Int) != 95) = true := by simp; omega
    have a0 : ¬ (R : Int) < 97 := by omega
    have a1 : (122 : Int) < (R : Int) := by omega
    have a2 : ¬ (R : Int) < 48 := by omega
    have a3 : (57 : Int) < (R : Int) := by omega
    rw [show foreignN R = true from by
      unfold foreignN
      rw [decide_eq_false (show ¬ R = 46 by omega), decide_eq_false (show ¬ R = 45 by omega), decide_eq_false (show ¬ R = 95 by omega)]
      rw [decide_eq_false (show ¬ R ≤ 122 by omega), decide_eq_false (show ¬ R ≤ 57 by omega)]; simp]
    clear h
    go_enter Tryz.func89, Tryz.ntmps89
    go_wp2_with fail
    go_ret
    exact ⟨rfl, rfl⟩

theorem idx_foreign (s : List UInt8) : ∀ (k pos : Nat), s.length ≤ pos + k → decide (0 ≤ Lib.idxFuncFrom foreignN true (str s) k pos) = !((s.drop pos).all nameB)
  | 0, pos, h => by
    rw [List.drop_of_length_le (by omega)]
    unfold Lib.idxFuncFrom
    rfl
  | k + 1, pos, h => by
    by_cases hp : pos < s.length
    · have hps : pos < (str s).size := by rw [str_size]; exact hp
      have hb : (str s)[pos]'hps = s[pos] := str_get12 (List.getElem?_eq_getElem hp) hps
      rw [Lib.idxFuncFrom, if_pos hps, List.drop_eq_getElem_cons hp, List.all_cons]
      by_cases h128 : (s[pos]).toNat < 128
      · rw [decode_ascii (str s) pos hps (by rw [hb]; exact h128), hb]
        show decide (0 ≤ if foreignN (s[pos]).toNat = true then _ else _) = _
        rw [foreign_nameB]
        cases nameB s[pos] with
        | true =>
          rw [Bool.not_true, if_neg (by simp)]
          exact idx_foreign s k (pos + 1) (by omega)
        | false =>
          rw [Bool.not_false, if_pos rfl, Bool.false_and]
          exact decide_eq_true (by omega)
      · have hh := decode_high (str s) pos hps (by rw [hb]; omega)
        rw [if_pos (foreign_high hh.1), nameB_high (by omega), Bool.false_and]
        exact decide_eq_true (by omega)
    · have hps : ¬ pos < (str s).size := by rw [str_size]; exact hp
      rw [List.drop_of_length_le (by omega), Lib.idxFuncFrom, if_neg hps]
      rfl

theorem pname_any (s : List UInt8) (w : World) (hs : s.length ≤ 140737488355328) : Calls Tryz.prog 67 #[.string (str s)] w fun e w' => e = .returned (.bool (nameOk s)) ∧ Below w.heap.size w w' := by
  have hz : (str s).size = s.length := str_size s
  by_cases h0 : s.length = 0
  · have hr : nameOk s = false := by unfold nameOk; rw [decide_eq_false (show ¬ 1 ≤ s.length by omega)]; simp
    rw [hr]
    have a1 : ¬ (1 : Int) ≤ (s.length : Int) := by omega
    clear hr h0 hs
    go_enter Tryz.func67, Tryz.ntmps67
    go_wp2_with fail
    go_ret
    exact ⟨rfl, Below.refl _ _⟩
  · by_cases h24 : s.length ≤ 24
    · have hC := S12.contains_runes 89 #[] (enters_of Tryz.func89 (by kernel_rfl) rfl) foreignN (str s) w (fun W x _ _ => (pforeign_any x W).mono fun e w' hh => ⟨hh.1, 0, hh.2.symm⟩)
      have hi := idx_foreign s (str s).size 0 (by rw [str_size]; omega)
      rw [List.drop_zero] at hi
      have hC2 : decide (0 ≤ Lib.idxFunc foreignN true (str s)) = !(s.all nameB) := hi
      rw [hC2] at hC
      have hr : nameOk s = s.all nameB := by unfold nameOk; rw [decide_eq_true (show 1 ≤ s.length by omega), decide_eq_true h24]; simp
      rw [hr]
      have HC := Lib.hid hC
      obtain ⟨c, hc⟩ : ∃ c, s.all nameB = c := ⟨_, rfl⟩
      rw [hc] at HC ⊢
      have a1 : (1 : Int) ≤ (s.length : Int) := by omega
      have a2 : (s.length : Int) ≤ 24 := by omega
      clear hr h0 hs hC hC2 hi hc h24
      go_enter Tryz.func67, Tryz.ntmps67
      go_wp2_with (go_at_call 52; refine HC.out.mono ?_; rintro _ w1 ⟨rfl, hb⟩)
      go_ret
      exact ⟨by simp, hb⟩
    · have hr : nameOk s = false := by unfold nameOk; rw [decide_eq_false h24]; simp
      rw [hr]
      have a1 : (1 : Int) ≤ (s.length : Int) := by omega
      have a2 : ¬ (s.length : Int) ≤ 24 := by omega
      clear hr h0 hs h24
      go_enter Tryz.func67, Tryz.ntmps67
      go_wp2_with fail
      go_ret
      exact ⟨rfl, Below.refl _ _⟩
end Go.Proofs.YtelcemfaijjcbaaGreatDoor.C12

namespace Go.Proofs.YtelcemfaijjcbaaGreatDoor.C12
open Go Go.RowKit Go.Proofs Go.Proofs.YtelcemfaijjcbaaGreatDoor.B Go.Proofs.YtelcemfaijjcbaaGreatDoor.K Go.Proofs.YtelcemfaijjcbaaGreatDoor.P8
set_option linter.unusedVariables false
set_option maxRecDepth 100000

/-- An append of a text's bytes, and where what comes of it lies. -/
theorem run_append_text_at (w : World) (ty : TypeId) (v : Value) (n : Nat) (xs : List Value) (hown : w.ownsRow 0 5 1 v n xs) (s : ByteArray) (h63 : n + s.size ≤ 140737488355328) :
    ∃ v' w', (Builtin.append_ #[66, 9] ty #[v, .string s]).run Tryz.prog w = .ok v' w' ∧ w'.ownsRow 0 5 1 v' (n + s.size) (xs ++ Lib.strCells s) ∧ w.grownBy w' v.ownBlock ∧ (v'.ownBlock = v.ownBlock ∨ v'.ownBlock = some w.heap.size) := by
  obtain ⟨i, hi, hz, hsize, hby⟩ := byte_info
  have hm : n + s.size ≤ maxLen := by unfold maxLen; omega
  obtain ⟨v', w', hr, h2, h3, h4⟩ := Lib.run_append_own_string (P := Tryz.prog) w 0 66 9 ty 5 i Tryz.underlying66 Tryz.underlying9 hi hz hsize hby v n xs hown s hm h63 (Nat.zero_le _)
  refine ⟨v', w', hr, h2, h3, ?_⟩
  rcases hown.2 with ⟨rfl, rfl⟩ | ⟨g, cap, cur, rfl, hbg, hg, hnc, hcm, hcs, htake⟩
  · by_cases h0 : s.size = 0
    · rw [h4.2 ⟨rfl, h0⟩]; exact Or.inl rfl
    · have hr2 := run_append_nil_string (P := Tryz.prog) w 66 9 ty 5 i (.int .u8 0) Tryz.underlying66 Tryz.underlying9 hi hz s (by omega) (by omega) (by rw [hby]; omega)
      rw [hr2] at hr
      injection hr with e1 e2
      rw [← e1]; exact Or.inr rfl
  · by_cases hroom : n + s.size ≤ cap
    · have hr2 := Lib.run_append_room_string (P := Tryz.prog) w 66 9 ty 5 i Tryz.underlying66 Tryz.underlying9 hi hsize g n cap cur hg s hroom (by omega)
      rw [hr2] at hr
      injection hr with e1 e2
      rw [← e1]; exact Or.inl rfl
    · have hxl : xs.length = n := by simpa using hown.1
      have holds : ∀ j u, xs[j]? = some u → w.cell? ((⟨g, 0, none⟩ : Addr).add j) = some u := hown.cells (g := g) rfl
      have hr2 := Lib.run_append_grow_string (P := Tryz.prog) w 66 9 ty 5 i (.int .u8 0) Tryz.underlying66 Tryz.underlying9 hi hz ⟨g, 0, none⟩ n cap xs (by rw [hsize]; simpa using hxl) holds s (by omega) (by omega) (by rw [hby]; exact growslice_fits (by omega) (by omega))
      rw [hr2] at hr
      injection hr with e1 e2
      rw [← e1]; exact Or.inr rfl
/-- .. as a step of a region that draws its order. -/
theorem step_append_text {w : World} {ops : Array Oper} {o : Oper} {a : Act} {K : Act → World → Prop} {Q : Exit → Act → World → Prop} {E : Prop} (hgd : o.guard = none) (sl x : Operand)
    (ho : o.op = .call { callee := .builtin .append, args := #[sl, x], argTypes := #[66, 9] }) (v : Value) (n : Nat) (xs : List Value) (hs : a.eval sl = v) (hown : w.ownsRow 0 5 1 v n xs) (s : ByteArray) (hx : a.eval x = .string s)
    (h63 : n + s.size ≤ 140737488355328) (h : ∀ v' w', w'.ownsRow 0 5 1 v' (n + s.size) (xs ++ Lib.strCells s) → w.grownBy w' v.ownBlock → (v'.ownBlock = v.ownBlock ∨ v'.ownBlock = some w.heap.size) → K (a.put o.dst v') w') :
    if Region.wanted o (yielded ops a.tmps) = true then Oper.wp Tryz.prog o a w K Q else E := by
  have hw : Region.wanted o (yielded ops a.tmps) = true := by simp [Region.wanted, hgd]
  rw [if_pos hw]
  obtain ⟨v', w', hr, h2, h3, h4⟩ := run_append_text_at w o.type v n xs hown s h63
  unfold Oper.wp execOp
  simp only [ho, resolve, invoke, builtin, Sem.run_bind, Sem.run_pure, Result.andThen_ok, List.map_toArray, List.map_cons, List.map_nil, hs, hx, hr]
  exact h v' w' h2 h3 h4

/-- .. as an operation of a plain list. -/
theorem wpList_append_text {w : World} {ops : Array Oper} {rest : List Oper} {o : Oper} {a : Act} {Q : Exit → Act → World → Prop} (hgd : o.guard = none) (sl x : Operand)
    (ho : o.op = .call { callee := .builtin .append, args := #[sl, x], argTypes := #[66, 9] }) (v : Value) (n : Nat) (xs : List Value) (hs : a.eval sl = v) (hown : w.ownsRow 0 5 1 v n xs) (s : ByteArray) (hx : a.eval x = .string s)
    (h63 : n + s.size ≤ 140737488355328) (h : ∀ v' w', w'.ownsRow 0 5 1 v' (n + s.size) (xs ++ Lib.strCells s) → w.grownBy w' v.ownBlock → (v'.ownBlock = v.ownBlock ∨ v'.ownBlock = some w.heap.size) → wpList Tryz.prog ops Q rest (a.put o.dst v') w') : wpList Tryz.prog ops Q (o :: rest) a w := by
  refine wpList_plain hgd fun K hK => ?_
  obtain ⟨v', w', hr, h2, h3, h4⟩ := run_append_text_at w o.type v n xs hown s h63
  unfold Oper.wp execOp
  simp only [ho, resolve, invoke, builtin, Sem.run_bind, Sem.run_pure, Result.andThen_ok, List.map_toArray, List.map_cons, List.map_nil, hs, hx, hr]
  exact hK _ _ (h v' w' h2 h3 h4)

theorem pstrclone_any (s : List UInt8) (w : World) (hs : s.length ≤ 281474976710656) : Calls Tryz.prog 35 #[.string (str s)] w fun e w' => e = .returned (.string (str s)) ∧ Below w.heap.size w w' := by
  have HC := Lib.hid (S12.stringslite_Clone (str s) w (by rw [str_size]; exact hs))
  go_enter Tryz.func35, Tryz.ntmps35
  go_wp2_with (go_at_call 54; refine HC.out.mono ?_; rintro _ w1 ⟨rfl, hb⟩)
  go_ret
  exact ⟨rfl, hb⟩

section
variable {w : World} {F : Nat → Prop} {d M n : Nat} {Dm : DataW Nat} {g : List UInt8 → Nat} {bv : List UInt8 → Value} {D : Dst}

/-- A file's block and what was appended, to the end. -/
theorem app_end {X wa : World} {f : Fl} {v' : Value} {t : List UInt8} (h : PIn X F d M n Dm g bv D) (hf : f ∈ D.files) (hfi : Fine (putF D ⟨f.name, f.safe, f.more ++ t⟩)) (ho : wa.ownsRow 0 5 1 v' ((f.safe ++ f.more).length + (str t).size) (Lib.strCells (str (f.safe ++ f.more)) ++ Lib.strCells (str t)))
    (hg : X.grownBy wa (bufB (bv f.name))) (hl : v'.ownBlock = (bv f.name).ownBlock ∨ v'.ownBlock = some X.heap.size) :
    ∃ F', PAt (wa.setCell ⟨g f.name, 0, none⟩ v') F' d (putF D ⟨f.name, f.safe, f.more ++ t⟩) ∧ Chg F F' X (wa.setCell ⟨g f.name, 0, none⟩ v') := by
  have fat := h.each f hf
  have hgl := h.lt _ (h.own f hf).1
  have hne : ∀ q, bufB (bv f.name) = some q → g f.name ≠ q := fun q hq => (h.gd hf).2.2.2 f hf q hq
  have hblk : wa.heap[g f.name]? = X.heap[g f.name]? := hg.block _ hgl (fun e => hne _ e.symm rfl)
  have hrow := heap_setCell_same wa (g f.name) 0 _ _ v' (hblk.trans fat.cell)
  have hlt := ho.lt
  refine file_end h (f' := ⟨f.name, f.safe, f.more ++ t⟩) hf rfl hfi (v' := v') ⟨hrow, ?_⟩ (fun q hq => ?_) ⟨hg.os, hg.tape, hg.output, Nat.le_trans hg.size (size_set _ _ _ _), fun i hi hn => ?_⟩
  · have hB : Buf wa v' (f.safe ++ (f.more ++ t)) := ⟨by
      have e1 : f.safe ++ (f.more ++ t) = (f.safe ++ f.more) ++ t := by rw [List.append_assoc]
      rw [e1, List.length_append (bs := t)]
      rw [str_size] at ho
      have e2 : Lib.strCells (str ((f.safe ++ f.more) ++ t)) = Lib.strCells (str (f.safe ++ f.more)) ++ Lib.strCells (str t) := by rw [cells_str, cells_str, cells_str]; unfold Lib.byteCells; rw [List.map_append]
      rw [e2]
      exact ho⟩
    refine hB.same fun q hq => heap_setCell_other _ ⟨g f.name, 0, none⟩ q _ (fun e => ?_)
    rcases hl with hl | hl
    · exact hne q (hl.symm.trans hq) (Eq.symm e)
    · have : q = X.heap.size := by
        have := hl.symm.trans hq
        exact (Option.some.inj this).symm
      have e' : q = g f.name := e
      omega
  · rcases hl with hl | hl
    · exact Or.inl (hl.symm.trans hq)
    · have e := Option.some.inj (hl.symm.trans hq)
      exact Or.inr ⟨by omega, Nat.lt_of_lt_of_le (hlt q hq).2 (size_set _ _ _ _)⟩
  · rw [heap_setCell_other _ ⟨g f.name, 0, none⟩ i _ (fun e => hn (Or.inl e))]
    exact hg.block i hi (fun e => hn (Or.inr e.symm))
end
end Go.Proofs.YtelcemfaijjcbaaGreatDoor.C12

namespace Go.Proofs.YtelcemfaijjcbaaGreatDoor.C12
open Go Go.RowKit Go.Proofs Go.Proofs.YtelcemfaijjcbaaGreatDoor.B Go.Proofs.YtelcemfaijjcbaaGreatDoor.K Go.Proofs.YtelcemfaijjcbaaGreatDoor.P8
set_option linter.unusedVariables false
set_option maxRecDepth 100000

section
variable {w : World} {F : Nat → Prop} {d M n : Nat} {Dm : DataW Nat} {g : List UInt8 → Nat} {bv : List UInt8 → Value} {D : Dst}

set_option maxHeartbeats 4000000 in
theorem pappend_old (h : PIn w F d M n Dm g bv D) (c0 c1 c2 : Nat) (f : Fl) (t : List UInt8) (hf : f ∈ D.files) (hs : f.name.length ≤ maxLen) (ht : t.length ≤ 65536) (hfi : Fine (putF D ⟨f.name, f.safe, f.more ++ t⟩))
    (k0 : w.cell? ⟨c0, 0, none⟩ = some (.pointer (some ⟨d, 0, none⟩))) (k1 : w.cell? ⟨c1, 0, none⟩ = some (.string (str f.name))) (k2 : w.cell? ⟨c2, 0, none⟩ = some (.string (str t))) (hc2 : ¬ F c2) :
    Calls Tryz.prog 69 #[.pointer (some ⟨c0, 0, none⟩), .pointer (some ⟨c1, 0, none⟩), .pointer (some ⟨c2, 0, none⟩)] w (PDone F d (putF D ⟨f.name, f.safe, f.more ++ t⟩) w) := by
  have H := Lib.hid h
  have HFI := Lib.hid hfi
  have HF := Lib.hid hf
  have cd := (row_at h.disk 1 _ rfl).1
  have hlook : ∀ k, (Instr.lookup 61 (.map (some M)) (.string (str f.name)) false).run Tryz.prog (w.drewN k) = .ok (.pointer (some ⟨g f.name, 0, none⟩)) (w.drewN k) := fun k => by
    obtain ⟨v, hr, hv⟩ := (h.below (drewN_below w k)).look f.name hs
    rcases hv with ⟨h0, _⟩ | ⟨f', _, _, _, rfl⟩
    · rw [rise_find h.fine.rise hf] at h0; cases h0
    · exact hr
  have hl0 := hlook 0
  have fat := h.each f hf
  have f0 := (row_at fat.cell 0 _ rfl).2
  have b0 := (row_at fat.cell 0 _ rfl).1
  obtain ⟨av, cap, hbv, _, _⟩ := fat.buf.at_
  obtain ⟨L, hL⟩ : ∃ L, (f.safe ++ f.more).length = L := ⟨_, rfl⟩
  have HROW := Lib.hid fat.buf.row
  rw [hbv] at b0 HROW
  rw [hL] at b0 HROW
  have hLl : L ≤ 65536 := by rw [← hL, List.length_append]; exact (h.fine.ok.each f hf).2
  have HBV := Lib.hid hbv
  have HLL := Lib.hid hL
  have hgl := h.lt _ (h.own f hf).1
  have hnb : some (g f.name) ≠ Value.ownBlock (.slice av L cap) := fun e => by
    have hbv' := hbv
    rw [hL] at hbv'
    rw [← hbv'] at e
    exact (h.gd hf).2.2.2 f hf _ e.symm rfl
  have HNB := Lib.hid hnb
  have HNC := Lib.hid (show some c2 ≠ Value.ownBlock (.slice av L cap) from fun e => by
    have hbv' := hbv
    rw [hL] at hbv'
    rw [← hbv'] at e
    exact hc2 ((h.own f hf).2 _ e.symm))
  have HCL := Lib.hid (World.block_lt_of_cell? w _ k2)
  clear h hfi hf fat hbv hL
  go_enter Tryz.func69, Tryz.ntmps69
  go_upto_region 0 with fail
  go_quiet (fail)
  go_upto_region 4 with fail
  obtain ⟨X, hX⟩ : ∃ X, w.drewN nq = X := ⟨_, rfl⟩
  have HB := Lib.hid (show Below w.heap.size w X.drew from by rw [← hX]; exact (drewN_below w nq).drew)
  rw [hX]
  have p0 := kept_cell HB.out b0
  have p2 := kept_cell HB.out k2
  have hxb : ∀ i, i < w.heap.size → X.drew.heap[i]? = w.heap[i]? := HB.out.block
  have HROWX := Lib.hid (⟨HROW.out.1, HROW.out.2.imp_right fun ⟨g, cap, cur, e, h1, h2, h3⟩ => ⟨g, cap, cur, e, h1, (HB.out.block g (Array.getElem?_eq_some_iff.1 h2).1).trans h2, h3⟩⟩ : X.drew.ownsRow 0 5 1 (.slice av L cap) L (Lib.strCells (str (f.safe ++ f.more))))
  have HIX := Lib.hid (H.out.below HB.out)
  have HZ : (str t).size = t.length := str_size t
  clear hX hlook hl0 k0 k1 k2 b0 f0 cd hxb
  have hS0 : (X.drew.cell? ⟨g f.name, 0, none⟩ = some (.slice av L cap) ∧ X.drew.cell? ⟨c2, 0, none⟩ = some (Value.string (str t))) := ⟨p0, p2⟩
  have HXS := Lib.hid HB.out.size
  go_region_law (first | (refine step_append_text rfl _ _ rfl (.slice av L cap) L (Lib.strCells (str (f.safe ++ f.more))) rfl HROWX.out (str t) rfl (by rw [HZ]; omega) ?_; intro v' wa ho hg hl; have HO := Lib.hid ho; have HG := Lib.hid hg; have HLo := Lib.hid hl; obtain ⟨a1, cap1, rfl⟩ := shape_own ho; have hbw := (hg.block _ (HIX.out.lt _ (HIX.out.own f HF.out).1) HNB.out).trans (HIX.out.each f HF.out).cell; have q0 := (row_at hbw 0 _ rfl).1; have qf0 := (row_at hbw 0 _ rfl).2; have hS1 : (wa.cell? ⟨g f.name, 0, none⟩ = some (.slice av L cap) ∧ wa.cell? ⟨c2, 0, none⟩ = some (Value.string (str t))) := ⟨(hg.cell_far ⟨g f.name, 0, none⟩ (HIX.out.lt _ (HIX.out.own f HF.out).1) HNB.out).trans hS0.1, (hg.cell_far ⟨c2, 0, none⟩ (Nat.lt_of_lt_of_le HCL.out HXS.out) HNC.out).trans hS0.2⟩; clear ho hg hl hbw))
  all_goals
    go_end0
    obtain ⟨F', hp, hc⟩ := app_end HIX.out HF.out HFI.out (t := t) (by rw [HLL.out]; exact HO.out) (by have := HG.out; have e := HBV.out; rw [HLL.out] at e; unfold bufB; rw [e]; exact this) (by have := HLo.out; have e := HBV.out; rw [HLL.out] at e; rw [e]; exact this)
    exact ⟨rfl, F', hp, (Chg.of_below HB.out).trans hc⟩
end
end Go.Proofs.YtelcemfaijjcbaaGreatDoor.C12
