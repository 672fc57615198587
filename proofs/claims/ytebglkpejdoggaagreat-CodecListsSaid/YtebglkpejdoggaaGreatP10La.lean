/-
  Layer 10, the program: which commands and records may be laid.
  Contracts: texts laid.
  A builder of the call's own, behind calls that leave all that was there alone.
  Layer 10, the program: numbers and texts laid, and lists of them.
-/
import Derived.Test.YtebglkpejdoggaaGreatP10Pn
import Derived.Test.YtebglkpejdoggaaGreatVRdText
import Derived.Test.YtebglkpejdoggaaGreatVInv
import Derived.Lib.Builder
import Derived.Lib.UnsafeStr
import Derived.Test.YtebglkpejdoggaaGreatP10PmV
import Derived.Test.YtebglkpejdoggaaGreatP10RefD
namespace Go.Proofs.YtebglkpejdoggaaGreat.C10
open Go Go.RowKit Go.Proofs Go.Proofs.YtebglkpejdoggaaGreat.B Go.Proofs.YtebglkpejdoggaaGreat.K Go.Proofs.YtebglkpejdoggaaGreat.P8
set_option linter.unusedVariables false
set_option maxRecDepth 100000

set_option maxHeartbeats 2000000 in
theorem mayCmd_any (c : Cm) (u : Value) (w : World) (h : SlN w u c.args) (hw : CmWf c) :
    Calls Tryz.prog 48 #[.agg #[.int .i64 c.client, .int .i64 c.seq, .string (str c.stream), .int .i64 c.rule, u, .int .i64 c.expect]] w fun e w' => e = .returned (.bool (cmdP c)) ∧ Below w.heap.size w w' := by
  obtain ⟨n0, n1, s, n3, ar, n5⟩ := c
  obtain ⟨hw0, hw1, hw2, hw3, hw4, hw5⟩ := hw
  dsimp only at h hw0 hw1 hw2 hw3 hw4 hw5 ⊢
  obtain ⟨au, cu, rfl, -⟩ := id h.open
  obtain ⟨W0, hW0⟩ : ∃ W0, w.alloc (.cells #[.int .i64 n0, .int .i64 n1, .string (str s), .int .i64 n3, .slice au ar.length cu, .int .i64 n5] 41) = W0 := ⟨_, rfl⟩
  have hB0 : Below w.heap.size w W0 := by rw [← hW0]; exact below_alloc _ _
  have k0 : W0.cell? ⟨w.heap.size, 0, none⟩ = some (.int .i64 n0) := by rw [← hW0]; exact alloc_cell w [_, _, _, _, _, _] _ 0 _ rfl
  have k1 : W0.cell? ⟨w.heap.size, 1, none⟩ = some (.int .i64 n1) := by rw [← hW0]; exact alloc_cell w [_, _, _, _, _, _] _ 1 _ rfl
  have k2 : W0.cell? ⟨w.heap.size, 2, none⟩ = some (.string (str s)) := by rw [← hW0]; exact alloc_cell w [_, _, _, _, _, _] _ 2 _ rfl
  have k3 : W0.cell? ⟨w.heap.size, 3, none⟩ = some (.int .i64 n3) := by rw [← hW0]; exact alloc_cell w [_, _, _, _, _, _] _ 3 _ rfl
  have k4 : W0.cell? ⟨w.heap.size, 4, none⟩ = some (.slice au ar.length cu) := by rw [← hW0]; exact alloc_cell w [_, _, _, _, _, _] _ 4 _ rfl
  have k5 : W0.cell? ⟨w.heap.size, 5, none⟩ = some (.int .i64 n5) := by rw [← hW0]; exact alloc_cell w [_, _, _, _, _, _] _ 5 _ rfl
  have H0 := Lib.hid (fun W => mayHead_any n0 n1 s W hw2)
  have H1 := Lib.hid (fun W => within10_any n3 0 11 W)
  have H2 := Lib.hid (fun W (hb : Below w.heap.size w W) => mayValues_any ar 4 4 rfl _ W (h.below hb) (by have := hw4.2; omega))
  have H3 := Lib.hid (fun W => within10_any n5 (-1) 1099511627776 W)
  have hp : cmdP ⟨n0, n1, s, n3, ar, n5⟩ = (headP n0 n1 s && (inn n3 0 11 && (valsP ar 4 && inn n5 (-1) 1099511627776))) := rfl
  rw [hp]
  obtain ⟨b0, e0⟩ : ∃ b, headP n0 n1 s = b := ⟨_, rfl⟩
  obtain ⟨b1, e1⟩ : ∃ b, inn n3 0 11 = b := ⟨_, rfl⟩
  obtain ⟨b2, e2⟩ : ∃ b, valsP ar 4 = b := ⟨_, rfl⟩
  obtain ⟨b3, e3⟩ : ∃ b, inn n5 (-1) 1099511627776 = b := ⟨_, rfl⟩
  rw [e0] at H0; rw [e1] at H1; rw [e2] at H2; rw [e3] at H3
  rw [e0, e1, e2, e3]
  have HB0 := Lib.hid hB0
  clear e0 e1 e2 e3 hp hw0 hw1 hw2 hw3 hw4 hw5 h hB0
  go_enter Tryz.func48, Tryz.ntmps48
  go_wp2_with fail
  refine (H0.out _).mono ?_
  rintro _ w1 ⟨rfl, hb1⟩
  have k3 := kept_cell hb1 k3
  have k4 := kept_cell hb1 k4
  have k5 := kept_cell hb1 k5
  have HB1 := Lib.hid (HB0.out.trans (hb1.mono HB0.out.size))
  clear hb1
  try clear hW0
  cases b0 with
  | false =>
    go_wp2_with fail
    go_ret
    exact ⟨rfl, HB1.out⟩
  | true =>
    go_wp2_with fail
    refine (H1.out _).mono ?_
    rintro _ w2 ⟨rfl, rfl⟩
    cases b1 with
    | false =>
      go_wp2_with fail
      go_ret
      exact ⟨rfl, HB1.out⟩
    | true =>
      go_wp2_with fail
      refine (H2.out _ HB1.out).mono ?_
      rintro _ w3 ⟨rfl, hb3⟩
      have k3 := kept_cell hb3 k3
      have k4 := kept_cell hb3 k4
      have k5 := kept_cell hb3 k5
      have HB3 := Lib.hid (HB1.out.trans (hb3.mono HB1.out.size))
      clear hb3
      cases b2 with
      | false =>
        go_wp2_with fail
        go_ret
        exact ⟨rfl, HB3.out⟩
      | true =>
        go_wp2_with fail
        refine (H3.out _).mono ?_
        rintro _ w4 ⟨rfl, rfl⟩
        go_wp2_with fail
        go_ret
        exact ⟨rfl, HB3.out⟩

set_option maxHeartbeats 2000000 in
theorem mayRecord_any (c : Rc) (u : Value) (w : World) (h : EvsIs w u c.events) (hw : RcWf c) :
    Calls Tryz.prog 54 #[.agg #[.int .i64 c.client, .int .i64 c.seq, .string (str c.stream), .int .i64 c.code, u]] w fun e w' => e = .returned (.bool (recP c)) ∧ Below w.heap.size w w' := by
  obtain ⟨n0, n1, s, n3, ev⟩ := c
  obtain ⟨hw0, hw1, hw2, hw3, hw4⟩ := hw
  dsimp only at h hw0 hw1 hw2 hw3 hw4 ⊢
  obtain ⟨au, cu, rfl, -⟩ := id h.open
  have H0 := Lib.hid (fun W => mayHead_any n0 n1 s W hw2)
  have H1 := Lib.hid (fun W => within10_any n3 0 63 W)
  have H2 := Lib.hid (fun W (hb : Below w.heap.size w W) => mayEvents_any ev _ W (h.below hb) hw4)
  have hp : recP ⟨n0, n1, s, n3, ev⟩ = (headP n0 n1 s && (inn n3 0 63 && (evsP ev && (decide (ev.length = 0) || decide (n3 = 0))))) := rfl
  rw [hp]
  obtain ⟨b0, e0⟩ : ∃ b, headP n0 n1 s = b := ⟨_, rfl⟩
  obtain ⟨b1, e1⟩ : ∃ b, inn n3 0 63 = b := ⟨_, rfl⟩
  obtain ⟨b2, e2⟩ : ∃ b, evsP ev = b := ⟨_, rfl⟩
  rw [e0] at H0; rw [e1] at H1; rw [e2] at H2
  rw [e0, e1, e2]
  obtain ⟨N, hN⟩ : ∃ N, ev.length = N := ⟨_, rfl⟩
  rw [hN] at H2 ⊢
  obtain ⟨W0, hW0⟩ : ∃ W0, w.alloc (.cells #[.int .i64 n0, .int .i64 n1, .string (str s), .int .i64 n3, .slice au N cu] 44) = W0 := ⟨_, rfl⟩
  have hB0 : Below w.heap.size w W0 := by rw [← hW0]; exact below_alloc _ _
  have k0 : W0.cell? ⟨w.heap.size, 0, none⟩ = some (.int .i64 n0) := by rw [← hW0]; exact alloc_cell w [_, _, _, _, _] _ 0 _ rfl
  have k1 : W0.cell? ⟨w.heap.size, 1, none⟩ = some (.int .i64 n1) := by rw [← hW0]; exact alloc_cell w [_, _, _, _, _] _ 1 _ rfl
  have k2 : W0.cell? ⟨w.heap.size, 2, none⟩ = some (.string (str s)) := by rw [← hW0]; exact alloc_cell w [_, _, _, _, _] _ 2 _ rfl
  have k3 : W0.cell? ⟨w.heap.size, 3, none⟩ = some (.int .i64 n3) := by rw [← hW0]; exact alloc_cell w [_, _, _, _, _] _ 3 _ rfl
  have k4 : W0.cell? ⟨w.heap.size, 4, none⟩ = some (.slice au N cu) := by rw [← hW0]; exact alloc_cell w [_, _, _, _, _] _ 4 _ rfl
  have HB0 := Lib.hid hB0
  clear e0 e1 e2 hp hw0 hw1 hw2 hw3 hw4 h hB0 hN
  go_enter Tryz.func54, Tryz.ntmps54
  go_wp2_with fail
  refine (H0.out _).mono ?_
  rintro _ w1 ⟨rfl, hb1⟩
  have k3 := kept_cell hb1 k3
  have k4 := kept_cell hb1 k4
  have HB1 := Lib.hid (HB0.out.trans (hb1.mono HB0.out.size))
  clear hb1
  try clear hW0
  cases b0 with
  | false =>
    go_wp2_with fail
    go_ret
    exact ⟨rfl, HB1.out⟩
  | true =>
    go_wp2_with fail
    refine (H1.out _).mono ?_
    rintro _ w2 ⟨rfl, rfl⟩
    cases b1 with
    | false =>
      go_wp2_with fail
      go_ret
      exact ⟨rfl, HB1.out⟩
    | true =>
      go_wp2_with fail
      refine (H2.out _ HB1.out).mono ?_
      rintro _ w3 ⟨rfl, hb3⟩
      have k3 := kept_cell hb3 k3
      have k4 := kept_cell hb3 k4
      have HB3 := Lib.hid (HB1.out.trans (hb3.mono HB1.out.size))
      clear hb3
      cases b2 with
      | false =>
        go_wp2_with fail
        go_ret
        exact ⟨rfl, HB3.out⟩
      | true =>
        by_cases h3 : n3 = 0
        · subst h3
          go_wp2_with fail
          go_ret
          exact ⟨by simp, HB3.out⟩
        · have h30 : (n3 == 0) = false := beq_eq_false_iff_ne.2 h3
          by_cases hN0 : N = 0
          · subst hN0
            go_wp2_with fail
            go_ret
            exact ⟨by simp, HB3.out⟩
          · have hz : ((N : Int) == 0) = false := beq_eq_false_iff_ne.2 (by omega)
            have hz2 : ¬ (N : Int) = 0 := by omega
            go_wp2_with fail
            go_ret
            exact ⟨by simp [h3, hN0], HB3.out⟩
end Go.Proofs.YtebglkpejdoggaaGreat.C10

namespace Go.Proofs.YtebglkpejdoggaaGreat.V
open Go.RowKit

theorem ret_two {a a' : ByteArray} {b b' : Int} (h : a = a') (h' : b = b') : Ending.returned (.tuple #[.string a, .int .i64 b]) = .returned (.tuple #[.string a', .int .i64 b']) := by rw [h, h']

set_option maxHeartbeats 400000 in
theorem text_any (l : List UInt8) (w : World) (hl : l.length ≤ maxLen) :
    Calls Tryz.prog 113 #[.string (str l)] w fun e w' => e = .returned (.tuple #[.string (str (textOf l).1), .int .i64 (textOf l).2]) ∧ Below w.heap.size w w' := by
  have hsz : (str l).size = l.length := str_size l
  have hl' : l.length ≤ 9223372036854775807 := hl
  have HL := Lib.hid hl'; clear hl hl'
  by_cases h : 4096 < l.length
  · have hv : textOf l = ([], 4) := by simp [textOf, h]
    rw [hv]
    have hlt : 4096 < (l.length : Int) := by omega
    clear hv h
    go_enter Tryz.func113, Tryz.ntmps113
    go_wp2_with fail
    go_ret2
    exact ⟨rfl, Below.refl _ _⟩
  · have hv : textOf l = (num l.length ++ l, 0) := by simp [textOf, h]
    rw [hv]
    have hlt : ¬ 4096 < (l.length : Int) := by omega
    have hn : (str (num l.length)).size ≤ 10 := by rw [str_size]; exact num_len _ (by omega) (by have := HL.out; omega)
    have happ := str_append (num l.length) l
    have HAPP := Lib.hid happ; clear happ
    clear hv h
    go_enter Tryz.func113, Tryz.ntmps113
    go_wp2_with (go_at_call 83; refine (number_any _ _ (by omega) (by have := HL.out; omega)).mono ?_; rintro e w1 ⟨rfl, hb⟩)
    go_ret2
    exact ⟨ret_two HAPP.out rfl, hb⟩

end Go.Proofs.YtebglkpejdoggaaGreat.V

namespace Go.Proofs.YtebglkpejdoggaaGreat.K
open Go Go.RowKit

theorem ownsRow_below {w w' : World} {base : Nat} {e : TypeId} {size : Nat} {v : Value} {n : Nat} {xs : List Value} (h : w.ownsRow base e size v n xs) (hb : Below w.heap.size w w') : w'.ownsRow base e size v n xs := by
  refine ⟨h.1, ?_⟩
  rcases h.2 with h | ⟨g, cap, cur, hv, hg, hh, r⟩
  · exact .inl h
  · exact .inr ⟨g, cap, cur, hv, hg, (hb.block g (Array.getElem?_eq_some_iff.1 hh).1).trans hh, r⟩

theorem builderAt_below {T e : TypeId} {B b : Nat} {p : Value} {bs : List Value} {w w' : World} (h : Lib.BuilderAt T e B b p bs w) (hb : Below w.heap.size w w') : Lib.BuilderAt T e B b p bs w' := by
  obtain ⟨hB, v, hbk, hown, hne⟩ := h
  exact ⟨hB, v, (hb.block b (Array.getElem?_eq_some_iff.1 hbk).1).trans hbk, ownsRow_below hown hb, hne⟩

theorem builder_below {T e : TypeId} {B b : Nat} {bs : List Value} {w w' : World} (h : Lib.IsBuilder T e B b bs w) (hb : Below w.heap.size w w') : Lib.IsBuilder T e B b bs w' :=
  h.elim (fun h => .inl (builderAt_below h hb)) (fun h => .inr (builderAt_below h hb))

/-- 'var b strings.Builder'. -/
theorem builder_new (w : World) (T e : TypeId) : Lib.IsBuilder T e w.heap.size w.heap.size [] (w.alloc (.cells #[.pointer none, .slice none 0 0] T)) := by
  refine .inl ⟨Nat.le_refl _, .slice none 0 0, ?_, World.ownsRow_nil _ _ _ _, by simp [Value.ownBlock]⟩
  show (w.heap.push _)[w.heap.size]? = _
  simp

end Go.Proofs.YtebglkpejdoggaaGreat.K

namespace Go.Proofs.YtebglkpejdoggaaGreat.C10
open Go Go.RowKit Go.Proofs Go.Proofs.YtebglkpejdoggaaGreat.B Go.Proofs.YtebglkpejdoggaaGreat.K Go.Proofs.YtebglkpejdoggaaGreat.P8
set_option linter.unusedVariables false
set_option maxRecDepth 100000

theorem pnum_any (n : Int) (w : World) (h : I64 n) : Calls Tryz.prog 83 #[.int .i64 n] w fun e w' => e = .returned (.string (str (num n))) ∧ Below w.heap.size w w' := V.number_any n w h.1 h.2
theorem textL_of (s : List UInt8) (h : s.length ≤ 4096) : V.textOf s = (textL s, 0) := by
  unfold V.textOf
  rw [if_neg (by omega)]
  rfl
theorem layText_any (s : List UInt8) (w : World) (h : s.length ≤ 4096) : Calls Tryz.prog 75 #[.string (str s)] w fun e w' => e = .returned (.string (str (textL s))) ∧ Below w.heap.size w w' := by
  have H := V.text_any s w (by unfold maxLen; omega)
  rw [textL_of s h] at H
  have HT := Lib.hid (show Calls Tryz.prog 113 #[.string (str s)] w fun e w' => e = .returned (.tuple #[.string (str (textL s)), .int .i64 0]) ∧ Below w.heap.size w w' from H)
  clear H
  go_enter Tryz.func75, Tryz.ntmps75
  go_wp2_with (go_at_call 113; refine HT.out.mono ?_; rintro _ w1 ⟨rfl, hb1⟩; have HB1 := Lib.hid hb1; clear hb1)
  go_ret
  exact ⟨rfl, HB1.out⟩

set_option maxHeartbeats 4000000 in
theorem lays_I (l : List Int) (HM : ∀ (W : World) (v : Value) (x : Int), x ∈ l → (v = .int .i64 x) → Calls Tryz.prog 83 #[v] W fun e w' => e = .returned (.string (str (num x))) ∧ Below W.heap.size W w')
    (hb : ∀ x ∈ l, (num x).length ≤ 8000) (v : Value) (w : World) (h : SlN w v l) (hl : l.length ≤ 256) :
    Calls Tryz.prog 122 #[v, .func (.func 83) #[] #[]] w fun e w' => e = .returned (.string (str (num (l.length : Int) ++ l.flatMap num))) ∧ Below w.heap.size w w' := by
  obtain ⟨a, cap, rfl, hc⟩ := h.open
  obtain ⟨N, hN⟩ : ∃ N, l.length = N := ⟨_, rfl⟩
  have HC := Lib.hid hc
  have HN := Lib.hid hN
  have HM := Lib.hid HM
  have HBD := Lib.hid hb
  rw [hN] at hl ⊢
  have H0 := Lib.hid (fun W => pnum_any (N : Int) W ⟨by omega, by omega⟩)
  have hz := num_len (N : Int) ⟨by omega, by omega⟩
  have HX0 := Lib.hid (show num (N : Int) = num (N : Int) from rfl)
  generalize num (N : Int) = X0 at *
  have HBN := Lib.hid (builder_new w 145 5)
  clear hc h hN hb HX0
  go_enter Tryz.func122, Tryz.ntmps122
  go_wp2_with fail
  refine (H0.out _).mono ?_
  rintro _ w1 ⟨rfl, hb1⟩
  have hbl1 := builder_below HBN.out hb1
  have h1 : Below w.heap.size w w1 := ((Below.refl _ _).alloc (Nat.le_refl _) _).trans (hb1.mono (by simp))
  clear hb1 HBN
  go_wp2_with fail
  refine (S.write_any w.heap.size w.heap.size [] _ _ hbl1 (by rw [str_size, List.length_nil]; omega) h1.size).mono ?_
  rintro _ w2 ⟨rfl, hbl2, hb2⟩
  rw [List.nil_append, show Lib.strCells (str X0) = Lib.byteCells X0 from rfl] at hbl2
  have HBL2 := Lib.hid (Or.inr hbl2 : Lib.IsBuilder 145 5 w.heap.size w.heap.size (Lib.byteCells X0) w2)
  have h2 : Below w.heap.size w w2 := h1.trans hb2
  clear h1 hb2 hbl1 hbl2
  go_wp2_with fail
  go_loopw [14] (fun i wr => ∃ K : Nat, K ≤ N ∧ i = .int .i64 (K : Int) ∧
      Hid (Lib.IsBuilder 145 5 w.heap.size w.heap.size (Lib.byteCells (X0 ++ (l.take K).flatMap num)) wr) ∧ Hid (Below w.heap.size w2 wr)) (fun i _ => N - (intOf i).toNat)
  case atStart => exact ⟨0, Nat.zero_le _, rfl, Lib.hid (by rw [List.take_zero, List.flatMap_nil, List.append_nil]; exact HBL2.out), Lib.hid (Below.refl _ _)⟩
  case round =>
    obtain ⟨K, hK, rfl, HBL, HBE⟩ := hrel
    by_cases hlt : K < N
    · obtain ⟨x, hx⟩ : ∃ x, l[K]? = some x := ⟨_, List.getElem?_eq_getElem (by rw [HN.out]; exact hlt)⟩
      have hbw : Below w.heap.size w wr := h2.trans HBE.out
      obtain ⟨b, off, rfl, hcell⟩ := HC.out K x hx
      have k0 : wr.cell? ⟨b, off + K, none⟩ = some (.int .i64 x) := kept_cell hbw hcell
      have hltI : (K : Int) < (N : Int) := by omega
      have hk0 : 0 ≤ (K : Int) := by omega
      have hw1 : IntKind.i64.wrap ((K : Int) + 1) = (K : Int) + 1 := IntWalk.i64_in _ (by omega)
      have hfl := flat_len num 8000 (l.take K) fun y hy => HBD.out y (List.mem_of_mem_take hy)
      rw [List.length_take] at hfl
      have hxl := HBD.out x (List.mem_of_getElem? hx)
      have HD := Lib.hid (show (l.take (K + 1)).flatMap num = (l.take K).flatMap num ++ num x from flat_take num hx)
      have HV := Lib.hid (fun W => HM.out W _ x (List.mem_of_getElem? hx) rfl)
      clear hcell hx hbw
      go_wp2_with fail
      refine (HV.out _).mono ?_
      rintro _ w3 ⟨rfl, hb3⟩
      have hbl3 := builder_below HBL.out hb3
      have h3 : Below w.heap.size w2 w3 := HBE.out.trans (hb3.mono (Nat.le_trans h2.size HBE.out.size))
      go_wp2_with fail
      refine (S.write_any w.heap.size w.heap.size _ _ _ hbl3 (by rw [str_size, Lib.byteCells_length, List.length_append]; omega) (Nat.le_trans h2.size h3.size)).mono ?_
      rintro _ w4 ⟨rfl, hbl4, hb4⟩
      rw [show Lib.strCells (str (num x)) = Lib.byteCells (num x) from rfl, ← Lib.byteCells_append, List.append_assoc] at hbl4
      have h4 : Below w.heap.size w2 w4 := h3.trans hb4
      have HBL4 := Lib.hid hbl4
      have HB4 := Lib.hid h4
      clear hbl3 hbl4 h3 h4 hb4 hb3
      go_wp2_with fail
      go_roundw
      case rel => exact ⟨K + 1, by omega, by go_num, Lib.hid (Or.inr (by rw [HD.out]; exact HBL4.out)), HB4⟩
      case measure => simp [intOf]; omega
    · have hltI : ¬ (K : Int) < (N : Int) := by omega
      have hd : X0 ++ (l.take K).flatMap num = X0 ++ l.flatMap num := by rw [List.take_of_length_le (by rw [HN.out]; omega)]
      have hbl := HBL.out
      rw [hd] at hbl
      have HBL5 := Lib.hid hbl
      have hbw : Below w.heap.size w wr := h2.trans HBE.out
      clear hbl hd
      go_wp2_with (go_at_call 112; refine (S.string_any w.heap.size w.heap.size _ _ HBL5.out hbw.size).mono ?_; rintro _ w5 ⟨rfl, hb5⟩; have HB5 := Lib.hid hb5; clear hb5)
      go_ret
      exact ⟨rfl, hbw.trans HB5.out⟩

set_option maxHeartbeats 4000000 in
theorem lays_S (l : List (List UInt8)) (HM : ∀ (W : World) (v : Value) (x : (List UInt8)), x ∈ l → (v = .string (str x)) → Calls Tryz.prog 75 #[v] W fun e w' => e = .returned (.string (str (textL x))) ∧ Below W.heap.size W w')
    (hb : ∀ x ∈ l, (textL x).length ≤ 8000) (v : Value) (w : World) (h : SlT w v l) (hl : l.length ≤ 256) :
    Calls Tryz.prog 85 #[v, .func (.func 75) #[] #[]] w fun e w' => e = .returned (.string (str (num (l.length : Int) ++ l.flatMap textL))) ∧ Below w.heap.size w w' := by
  obtain ⟨a, cap, rfl, hc⟩ := h.open
  obtain ⟨N, hN⟩ : ∃ N, l.length = N := ⟨_, rfl⟩
  have HC := Lib.hid hc
  have HN := Lib.hid hN
  have HM := Lib.hid HM
  have HBD := Lib.hid hb
  rw [hN] at hl ⊢
  have H0 := Lib.hid (fun W => pnum_any (N : Int) W ⟨by omega, by omega⟩)
  have hz := num_len (N : Int) ⟨by omega, by omega⟩
  have HX0 := Lib.hid (show num (N : Int) = num (N : Int) from rfl)
  generalize num (N : Int) = X0 at *
  have HBN := Lib.hid (builder_new w 145 5)
  clear hc h hN hb HX0
  go_enter Tryz.func85, Tryz.ntmps85
  go_wp2_with fail
  refine (H0.out _).mono ?_
  rintro _ w1 ⟨rfl, hb1⟩
  have hbl1 := builder_below HBN.out hb1
  have h1 : Below w.heap.size w w1 := ((Below.refl _ _).alloc (Nat.le_refl _) _).trans (hb1.mono (by simp))
  clear hb1 HBN
  go_wp2_with fail
  refine (S.write_any w.heap.size w.heap.size [] _ _ hbl1 (by rw [str_size, List.length_nil]; omega) h1.size).mono ?_
  rintro _ w2 ⟨rfl, hbl2, hb2⟩
  rw [List.nil_append, show Lib.strCells (str X0) = Lib.byteCells X0 from rfl] at hbl2
  have HBL2 := Lib.hid (Or.inr hbl2 : Lib.IsBuilder 145 5 w.heap.size w.heap.size (Lib.byteCells X0) w2)
  have h2 : Below w.heap.size w w2 := h1.trans hb2
  clear h1 hb2 hbl1 hbl2
  go_wp2_with fail
  go_loopw [14] (fun i wr => ∃ K : Nat, K ≤ N ∧ i = .int .i64 (K : Int) ∧
      Hid (Lib.IsBuilder 145 5 w.heap.size w.heap.size (Lib.byteCells (X0 ++ (l.take K).flatMap textL)) wr) ∧ Hid (Below w.heap.size w2 wr)) (fun i _ => N - (intOf i).toNat)
  case atStart => exact ⟨0, Nat.zero_le _, rfl, Lib.hid (by rw [List.take_zero, List.flatMap_nil, List.append_nil]; exact HBL2.out), Lib.hid (Below.refl _ _)⟩
  case round =>
    obtain ⟨K, hK, rfl, HBL, HBE⟩ := hrel
    by_cases hlt : K < N
    · obtain ⟨x, hx⟩ : ∃ x, l[K]? = some x := ⟨_, List.getElem?_eq_getElem (by rw [HN.out]; exact hlt)⟩
      have hbw : Below w.heap.size w wr := h2.trans HBE.out
      obtain ⟨b, off, rfl, hcell⟩ := HC.out K x hx
      have k0 : wr.cell? ⟨b, off + K, none⟩ = some (.string (str x)) := kept_cell hbw hcell
      have hltI : (K : Int) < (N : Int) := by omega
      have hk0 : 0 ≤ (K : Int) := by omega
      have hw1 : IntKind.i64.wrap ((K : Int) + 1) = (K : Int) + 1 := IntWalk.i64_in _ (by omega)
      have hfl := flat_len textL 8000 (l.take K) fun y hy => HBD.out y (List.mem_of_mem_take hy)
      rw [List.length_take] at hfl
      have hxl := HBD.out x (List.mem_of_getElem? hx)
      have HD := Lib.hid (show (l.take (K + 1)).flatMap textL = (l.take K).flatMap textL ++ textL x from flat_take textL hx)
      have HV := Lib.hid (fun W => HM.out W _ x (List.mem_of_getElem? hx) rfl)
      clear hcell hx hbw
      go_wp2_with fail
      refine (HV.out _).mono ?_
      rintro _ w3 ⟨rfl, hb3⟩
      have hbl3 := builder_below HBL.out hb3
      have h3 : Below w.heap.size w2 w3 := HBE.out.trans (hb3.mono (Nat.le_trans h2.size HBE.out.size))
      go_wp2_with fail
      refine (S.write_any w.heap.size w.heap.size _ _ _ hbl3 (by rw [str_size, Lib.byteCells_length, List.length_append]; omega) (Nat.le_trans h2.size h3.size)).mono ?_
      rintro _ w4 ⟨rfl, hbl4, hb4⟩
      rw [show Lib.strCells (str (textL x)) = Lib.byteCells (textL x) from rfl, ← Lib.byteCells_append, List.append_assoc] at hbl4
      have h4 : Below w.heap.size w2 w4 := h3.trans hb4
      have HBL4 := Lib.hid hbl4
      have HB4 := Lib.hid h4
      clear hbl3 hbl4 h3 h4 hb4 hb3
      go_wp2_with fail
      go_roundw
      case rel => exact ⟨K + 1, by omega, by go_num, Lib.hid (Or.inr (by rw [HD.out]; exact HBL4.out)), HB4⟩
      case measure => simp [intOf]; omega
    · have hltI : ¬ (K : Int) < (N : Int) := by omega
      have hd : X0 ++ (l.take K).flatMap textL = X0 ++ l.flatMap textL := by rw [List.take_of_length_le (by rw [HN.out]; omega)]
      have hbl := HBL.out
      rw [hd] at hbl
      have HBL5 := Lib.hid hbl
      have hbw : Below w.heap.size w wr := h2.trans HBE.out
      clear hbl hd
      go_wp2_with (go_at_call 112; refine (S.string_any w.heap.size w.heap.size _ _ HBL5.out hbw.size).mono ?_; rintro _ w5 ⟨rfl, hb5⟩; have HB5 := Lib.hid hb5; clear hb5)
      go_ret
      exact ⟨rfl, hbw.trans HB5.out⟩

theorem layValues_any (l : List Int) (v : Value) (w : World) (h : SlN w v l) (hx : ∀ x ∈ l, I64 x) (hl : l.length ≤ 256) : Calls Tryz.prog 94 #[v] w fun e w' => e = .returned (.string (str (listL l))) ∧ Below w.heap.size w w' := by
  have H := Lib.hid (lays_I l (fun W v x hm hv => by subst hv; exact pnum_any x W (hx x hm)) (fun x hm => by have := num_len x (hx x hm); omega) v w h hl)
  have hd : listL l = num (l.length : Int) ++ l.flatMap num := rfl
  rw [hd]
  generalize num (l.length : Int) ++ l.flatMap num = R at H ⊢
  obtain ⟨a, cap, rfl, -⟩ := h.open
  clear h hx hd
  go_enter Tryz.func94, Tryz.ntmps94
  go_wp2_with (go_at_call 122; refine H.out.mono ?_; rintro _ w1 ⟨rfl, hb1⟩; have HB1 := Lib.hid hb1; clear hb1)
  go_ret
  exact ⟨rfl, HB1.out⟩
theorem layFilter_any (l : List (List UInt8)) (v : Value) (w : World) (h : SlT w v l) (hx : ∀ x ∈ l, x.length ≤ 4096) (hl : l.length ≤ 256) : Calls Tryz.prog 37 #[v] w fun e w' => e = .returned (.string (str (layFilt l))) ∧ Below w.heap.size w w' := by
  have H := Lib.hid (lays_S l (fun W v x hm hv => by subst hv; exact layText_any x W (hx x hm)) (fun x hm => by have := textL_len x (by have := hx x hm; unfold TxWf; omega); have := hx x hm; omega) v w h hl)
  have hd : layFilt l = num (l.length : Int) ++ l.flatMap textL := rfl
  rw [hd]
  generalize num (l.length : Int) ++ l.flatMap textL = R at H ⊢
  obtain ⟨a, cap, rfl, -⟩ := h.open
  clear h hx hd
  go_enter Tryz.func37, Tryz.ntmps37
  go_wp2_with (go_at_call 85; refine H.out.mono ?_; rintro _ w1 ⟨rfl, hb1⟩; have HB1 := Lib.hid hb1; clear hb1)
  go_ret
  exact ⟨rfl, HB1.out⟩
end Go.Proofs.YtebglkpejdoggaaGreat.C10
