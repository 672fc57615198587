/-
  Layer 10, the program: which commands and records may be laid.
  Contracts: texts laid.
  A builder of the call's own, behind calls that leave all that was there alone.
  Layer 10, the program: numbers and texts laid, and lists of them.
  Layer 10, the program: one verdict, event, state, item laid; the head of commands and records.
  Layer 10, the program: lists of verdicts, events, items laid.
-/
import Derived.Test.YtebglkpejdoggaaP10Pn
import Derived.Test.YtebglkpejdoggaaVRdWalk
import Derived.Test.YtebglkpejdoggaaVInv
import Derived.Lib.Builder
import Derived.Lib.UnsafeStr
import Derived.Test.YtebglkpejdoggaaP8RefE
import Derived.Test.YtebglkpejdoggaaP10RefC
import Derived.Test.YtebglkpejdoggaaVRdText
import Derived.Deep.RegionHeldLaw
namespace Go.Proofs.Ytebglkpejdoggaa.C10
open Go Go.RowKit Go.Proofs Go.Proofs.Ytebglkpejdoggaa.B Go.Proofs.Ytebglkpejdoggaa.K Go.Proofs.Ytebglkpejdoggaa.P8
set_option linter.unusedVariables false
set_option maxRecDepth 100000

set_option maxHeartbeats 2000000 in
theorem mayCmd_any (c : Cm) (u : Value) (w : World) (h : SlN w u c.args) (hw : CmWf c) :
    Calls Try.prog 17 #[.agg #[.int .i64 c.client, .int .i64 c.seq, .string (str c.stream), .int .i64 c.rule, u, .int .i64 c.expect]] w fun e w' => e = .returned (.bool (cmdP c)) ∧ Below w.heap.size w w' := by
  obtain ⟨n0, n1, s, n3, ar, n5⟩ := c
  obtain ⟨hw0, hw1, hw2, hw3, hw4, hw5⟩ := hw
  dsimp only at h hw0 hw1 hw2 hw3 hw4 hw5 ⊢
  obtain ⟨au, cu, rfl, -⟩ := id h.open
  obtain ⟨W0, hW0⟩ : ∃ W0, w.alloc (.cells #[.int .i64 n0, .int .i64 n1, .string (str s), .int .i64 n3, .slice au ar.length cu, .int .i64 n5] 24) = W0 := ⟨_, rfl⟩
  have hB0 : Below w.heap.size w W0 := by rw [← hW0]; exact below_alloc _ _
  have k0 : W0.cell? ⟨w.heap.size, 0, none⟩ = some (.int .i64 n0) := by rw [← hW0]; exact alloc_cell w [_, _, _, _, _, _] _ 0 _ rfl
  have k1 : W0.cell? ⟨w.heap.size, 1, none⟩ = some (.int .i64 n1) := by rw [← hW0]; exact alloc_cell w [_, _, _, _, _, _] _ 1 _ rfl
  have k2 : W0.cell? ⟨w.heap.size, 2, none⟩ = some (.string (str s)) := by rw [← hW0]; exact alloc_cell w [_, _, _, _, _, _] _ 2 _ rfl
  have k3 : W0.cell? ⟨w.heap.size, 3, none⟩ = some (.int .i64 n3) := by rw [← hW0]; exact alloc_cell w [_, _, _, _, _, _] _ 3 _ rfl
  have k4 : W0.cell? ⟨w.heap.size, 4, none⟩ = some (.slice au ar.length cu) := by rw [← hW0]; exact alloc_cell w [_, _, _, _, _, _] _ 4 _ rfl
  have k5 : W0.cell? ⟨w.heap.size, 5, none⟩ = some (.int .i64 n5) := by rw [← hW0]; exact alloc_cell w [_, _, _, _, _, _] _ 5 _ rfl
  have H0 := Lib.hid (fun W => mayHead_any n0 n1 s W hw2)
  have H1 := Lib.hid (fun W => within10_any n3 0 11 W)
  have H2 := Lib.hid (fun W (hb : Below w.heap.size w W) => mayValues_any ar 4 4 rfl _ W (h.below hb) (by have := hw4.2; omega))
  have H3 := Lib.hid (fun W => within10_any n5 (-1) 1099511627776 W)
  have hp : cmdP ⟨n0, n1, s, n3, ar, n5⟩ = (headP n0 n1 s && (inn n3 0 11 && (valsP ar 4 && inn n5 (-1) 1099511627776))) := rfl
  rw [hp]
  obtain ⟨b0, e0⟩ : ∃ b, headP n0 n1 s = b := ⟨_, rfl⟩
  obtain ⟨b1, e1⟩ : ∃ b, inn n3 0 11 = b := ⟨_, rfl⟩
  obtain ⟨b2, e2⟩ : ∃ b, valsP ar 4 = b := ⟨_, rfl⟩
  obtain ⟨b3, e3⟩ : ∃ b, inn n5 (-1) 1099511627776 = b := ⟨_, rfl⟩
  rw [e0] at H0; rw [e1] at H1; rw [e2] at H2; rw [e3] at H3
  rw [e0, e1, e2, e3]
  have HB0 := Lib.hid hB0
  clear e0 e1 e2 e3 hp hw0 hw1 hw2 hw3 hw4 hw5 h hB0
  go_enter Try.func17, Try.ntmps17
  go_wp2_with fail
  refine (H0.out _).mono ?_
  rintro _ w1 ⟨rfl, hb1⟩
  have k3 := kept_cell hb1 k3
  have k4 := kept_cell hb1 k4
  have k5 := kept_cell hb1 k5
  have HB1 := Lib.hid (HB0.out.trans (hb1.mono HB0.out.size))
  clear hb1
  try clear hW0
  cases b0 with
  | false =>
    go_wp2_with fail
    go_ret
    exact ⟨rfl, HB1.out⟩
  | true =>
    go_wp2_with fail
    refine (H1.out _).mono ?_
    rintro _ w2 ⟨rfl, rfl⟩
    cases b1 with
    | false =>
      go_wp2_with fail
      go_ret
      exact ⟨rfl, HB1.out⟩
    | true =>
      go_wp2_with fail
      refine (H2.out _ HB1.out).mono ?_
      rintro _ w3 ⟨rfl, hb3⟩
      have k3 := kept_cell hb3 k3
      have k4 := kept_cell hb3 k4
      have k5 := kept_cell hb3 k5
      have HB3 := Lib.hid (HB1.out.trans (hb3.mono HB1.out.size))
      clear hb3
      cases b2 with
      | false =>
        go_wp2_with fail
        go_ret
        exact ⟨rfl, HB3.out⟩
      | true =>
        go_wp2_with fail
        refine (H3.out _).mono ?_
        rintro _ w4 ⟨rfl, rfl⟩
        go_wp2_with fail
        go_ret
        exact ⟨rfl, HB3.out⟩

set_option maxHeartbeats 2000000 in
theorem mayRecord_any (c : Rc) (u : Value) (w : World) (h : EvsIs w u c.events) (hw : RcWf c) :
    Calls Try.prog 20 #[.agg #[.int .i64 c.client, .int .i64 c.seq, .string (str c.stream), .int .i64 c.code, u]] w fun e w' => e = .returned (.bool (recP c)) ∧ Below w.heap.size w w' := by
  obtain ⟨n0, n1, s, n3, ev⟩ := c
  obtain ⟨hw0, hw1, hw2, hw3, hw4⟩ := hw
  dsimp only at h hw0 hw1 hw2 hw3 hw4 ⊢
  obtain ⟨au, cu, rfl, -⟩ := id h.open
  have H0 := Lib.hid (fun W => mayHead_any n0 n1 s W hw2)
  have H1 := Lib.hid (fun W => within10_any n3 0 63 W)
  have H2 := Lib.hid (fun W (hb : Below w.heap.size w W) => mayEvents_any ev _ W (h.below hb) hw4)
  have hp : recP ⟨n0, n1, s, n3, ev⟩ = (headP n0 n1 s && (inn n3 0 63 && (evsP ev && (decide (ev.length = 0) || decide (n3 = 0))))) := rfl
  rw [hp]
  obtain ⟨b0, e0⟩ : ∃ b, headP n0 n1 s = b := ⟨_, rfl⟩
  obtain ⟨b1, e1⟩ : ∃ b, inn n3 0 63 = b := ⟨_, rfl⟩
  obtain ⟨b2, e2⟩ : ∃ b, evsP ev = b := ⟨_, rfl⟩
  rw [e0] at H0; rw [e1] at H1; rw [e2] at H2
  rw [e0, e1, e2]
  obtain ⟨N, hN⟩ : ∃ N, ev.length = N := ⟨_, rfl⟩
  rw [hN] at H2 ⊢
  obtain ⟨W0, hW0⟩ : ∃ W0, w.alloc (.cells #[.int .i64 n0, .int .i64 n1, .string (str s), .int .i64 n3, .slice au N cu] 27) = W0 := ⟨_, rfl⟩
  have hB0 : Below w.heap.size w W0 := by rw [← hW0]; exact below_alloc _ _
  have k0 : W0.cell? ⟨w.heap.size, 0, none⟩ = some (.int .i64 n0) := by rw [← hW0]; exact alloc_cell w [_, _, _, _, _] _ 0 _ rfl
  have k1 : W0.cell? ⟨w.heap.size, 1, none⟩ = some (.int .i64 n1) := by rw [← hW0]; exact alloc_cell w [_, _, _, _, _] _ 1 _ rfl
  have k2 : W0.cell? ⟨w.heap.size, 2, none⟩ = some (.string (str s)) := by rw [← hW0]; exact alloc_cell w [_, _, _, _, _] _ 2 _ rfl
  have k3 : W0.cell? ⟨w.heap.size, 3, none⟩ = some (.int .i64 n3) := by rw [← hW0]; exact alloc_cell w [_, _, _, _, _] _ 3 _ rfl
  have k4 : W0.cell? ⟨w.heap.size, 4, none⟩ = some (.slice au N cu) := by rw [← hW0]; exact alloc_cell w [_, _, _, _, _] _ 4 _ rfl
  have HB0 := Lib.hid hB0
  clear e0 e1 e2 hp hw0 hw1 hw2 hw3 hw4 h hB0 hN
  go_enter Try.func20, Try.ntmps20
  go_wp2_with fail
  refine (H0.out _).mono ?_
  rintro _ w1 ⟨rfl, hb1⟩
  have k3 := kept_cell hb1 k3
  have k4 := kept_cell hb1 k4
  have HB1 := Lib.hid (HB0.out.trans (hb1.mono HB0.out.size))
  clear hb1
  try clear hW0
  cases b0 with
  | false =>
    go_wp2_with fail
    go_ret
    exact ⟨rfl, HB1.out⟩
  | true =>
    go_wp2_with fail
    refine (H1.out _).mono ?_
    rintro _ w2 ⟨rfl, rfl⟩
    cases b1 with
    | false =>
      go_wp2_with fail
      go_ret
      exact ⟨rfl, HB1.out⟩
    | true =>
      go_wp2_with fail
      refine (H2.out _ HB1.out).mono ?_
      rintro _ w3 ⟨rfl, hb3⟩
      have k3 := kept_cell hb3 k3
      have k4 := kept_cell hb3 k4
      have HB3 := Lib.hid (HB1.out.trans (hb3.mono HB1.out.size))
      clear hb3
      cases b2 with
      | false =>
        go_wp2_with fail
        go_ret
        exact ⟨rfl, HB3.out⟩
      | true =>
        by_cases h3 : n3 = 0
        · subst h3
          go_wp2_with fail
          go_ret
          exact ⟨by simp, HB3.out⟩
        · have h30 : (n3 == 0) = false := beq_eq_false_iff_ne.2 h3
          by_cases hN0 : N = 0
          · subst hN0
            go_wp2_with fail
            go_ret
            exact ⟨by simp, HB3.out⟩
          · have hz : ((N : Int) == 0) = false := beq_eq_false_iff_ne.2 (by omega)
            have hz2 : ¬ (N : Int) = 0 := by omega
            go_wp2_with fail
            go_ret
            exact ⟨by simp [h3, hN0], HB3.out⟩
end Go.Proofs.Ytebglkpejdoggaa.C10

namespace Go.Proofs.Ytebglkpejdoggaa.V
open Go.RowKit

theorem ret_two {a a' : ByteArray} {b b' : Int} (h : a = a') (h' : b = b') : Ending.returned (.tuple #[.string a, .int .i64 b]) = .returned (.tuple #[.string a', .int .i64 b']) := by rw [h, h']

set_option maxHeartbeats 400000 in
theorem text_any (l : List UInt8) (w : World) (hl : l.length ≤ maxLen) :
    Calls Try.prog 69 #[.string (str l)] w fun e w' => e = .returned (.tuple #[.string (str (textOf l).1), .int .i64 (textOf l).2]) ∧ Below w.heap.size w w' := by
  have hsz : (str l).size = l.length := str_size l
  have hl' : l.length ≤ 9223372036854775807 := hl
  have HL := Lib.hid hl'; clear hl hl'
  by_cases h : 4096 < l.length
  · have hv : textOf l = ([], 4) := by simp [textOf, h]
    rw [hv]
    have hlt : 4096 < (l.length : Int) := by omega
    clear hv h
    go_enter Try.func69, Try.ntmps69
    go_wp2_with fail
    go_ret2
    exact ⟨rfl, Below.refl _ _⟩
  · have hv : textOf l = (num l.length ++ l, 0) := by simp [textOf, h]
    rw [hv]
    have hlt : ¬ 4096 < (l.length : Int) := by omega
    have hn : (str (num l.length)).size ≤ 10 := by rw [str_size]; exact num_len _ (by omega) (by have := HL.out; omega)
    have happ := str_append (num l.length) l
    have HAPP := Lib.hid happ; clear happ
    clear hv h
    go_enter Try.func69, Try.ntmps69
    go_wp2_with (go_at_call 37; refine (number_any _ _ (by omega) (by have := HL.out; omega)).mono ?_; rintro e w1 ⟨rfl, hb⟩)
    go_ret2
    exact ⟨ret_two HAPP.out rfl, hb⟩

end Go.Proofs.Ytebglkpejdoggaa.V

namespace Go.Proofs.Ytebglkpejdoggaa.K
open Go Go.RowKit

theorem ownsRow_below {w w' : World} {base : Nat} {e : TypeId} {size : Nat} {v : Value} {n : Nat} {xs : List Value} (h : w.ownsRow base e size v n xs) (hb : Below w.heap.size w w') : w'.ownsRow base e size v n xs := by
  refine ⟨h.1, ?_⟩
  rcases h.2 with h | ⟨g, cap, cur, hv, hg, hh, r⟩
  · exact .inl h
  · exact .inr ⟨g, cap, cur, hv, hg, (hb.block g (Array.getElem?_eq_some_iff.1 hh).1).trans hh, r⟩

theorem builderAt_below {T e : TypeId} {B b : Nat} {p : Value} {bs : List Value} {w w' : World} (h : Lib.BuilderAt T e B b p bs w) (hb : Below w.heap.size w w') : Lib.BuilderAt T e B b p bs w' := by
  obtain ⟨hB, v, hbk, hown, hne⟩ := h
  exact ⟨hB, v, (hb.block b (Array.getElem?_eq_some_iff.1 hbk).1).trans hbk, ownsRow_below hown hb, hne⟩

theorem builder_below {T e : TypeId} {B b : Nat} {bs : List Value} {w w' : World} (h : Lib.IsBuilder T e B b bs w) (hb : Below w.heap.size w w') : Lib.IsBuilder T e B b bs w' :=
  h.elim (fun h => .inl (builderAt_below h hb)) (fun h => .inr (builderAt_below h hb))

/-- 'var b strings.Builder'. -/
theorem builder_new (w : World) (T e : TypeId) : Lib.IsBuilder T e w.heap.size w.heap.size [] (w.alloc (.cells #[.pointer none, .slice none 0 0] T)) := by
  refine .inl ⟨Nat.le_refl _, .slice none 0 0, ?_, World.ownsRow_nil _ _ _ _, by simp [Value.ownBlock]⟩
  show (w.heap.push _)[w.heap.size]? = _
  simp

end Go.Proofs.Ytebglkpejdoggaa.K

namespace Go.Proofs.Ytebglkpejdoggaa.C10
open Go Go.RowKit Go.Proofs Go.Proofs.Ytebglkpejdoggaa.B Go.Proofs.Ytebglkpejdoggaa.K Go.Proofs.Ytebglkpejdoggaa.P8
set_option linter.unusedVariables false
set_option maxRecDepth 100000

theorem pnum_any (n : Int) (w : World) (h : I64 n) : Calls Try.prog 37 #[.int .i64 n] w fun e w' => e = .returned (.string (str (num n))) ∧ Below w.heap.size w w' := V.number_any n w h.1 h.2
theorem textL_of (s : List UInt8) (h : s.length ≤ 4096) : V.textOf s = (textL s, 0) := by
  unfold V.textOf
  rw [if_neg (by omega)]
  rfl
theorem layText_any (s : List UInt8) (w : World) (h : s.length ≤ 4096) : Calls Try.prog 52 #[.string (str s)] w fun e w' => e = .returned (.string (str (textL s))) ∧ Below w.heap.size w w' := by
  have H := V.text_any s w (by unfold maxLen; omega)
  rw [textL_of s h] at H
  have HT := Lib.hid (show Calls Try.prog 69 #[.string (str s)] w fun e w' => e = .returned (.tuple #[.string (str (textL s)), .int .i64 0]) ∧ Below w.heap.size w w' from H)
  clear H
  go_enter Try.func52, Try.ntmps52
  go_wp2_with (go_at_call 69; refine HT.out.mono ?_; rintro _ w1 ⟨rfl, hb1⟩; have HB1 := Lib.hid hb1; clear hb1)
  go_ret
  exact ⟨rfl, HB1.out⟩

set_option maxHeartbeats 4000000 in
theorem lays_I (l : List Int) (HM : ∀ (W : World) (v : Value) (x : Int), x ∈ l → (v = .int .i64 x) → Calls Try.prog 37 #[v] W fun e w' => e = .returned (.string (str (num x))) ∧ Below W.heap.size W w')
    (hb : ∀ x ∈ l, (num x).length ≤ 8000) (v : Value) (w : World) (h : SlN w v l) (hl : l.length ≤ 256) :
    Calls Try.prog 54 #[v, .func (.func 37) #[] #[]] w fun e w' => e = .returned (.string (str (num (l.length : Int) ++ l.flatMap num))) ∧ Below w.heap.size w w' := by
  obtain ⟨a, cap, rfl, hc⟩ := h.open
  obtain ⟨N, hN⟩ : ∃ N, l.length = N := ⟨_, rfl⟩
  have HC := Lib.hid hc
  have HN := Lib.hid hN
  have HM := Lib.hid HM
  have HBD := Lib.hid hb
  rw [hN] at hl ⊢
  have H0 := Lib.hid (fun W => pnum_any (N : Int) W ⟨by omega, by omega⟩)
  have hz := num_len (N : Int) ⟨by omega, by omega⟩
  have HX0 := Lib.hid (show num (N : Int) = num (N : Int) from rfl)
  generalize num (N : Int) = X0 at *
  have HBN := Lib.hid (builder_new w 74 5)
  clear hc h hN hb HX0
  go_enter Try.func54, Try.ntmps54
  go_wp2_with fail
  refine (H0.out _).mono ?_
  rintro _ w1 ⟨rfl, hb1⟩
  have hbl1 := builder_below HBN.out hb1
  have h1 : Below w.heap.size w w1 := ((Below.refl _ _).alloc (Nat.le_refl _) _).trans (hb1.mono (by simp))
  clear hb1 HBN
  go_wp2_with fail
  refine (S.write_any w.heap.size w.heap.size [] _ _ hbl1 (by rw [str_size, List.length_nil]; omega) h1.size).mono ?_
  rintro _ w2 ⟨rfl, hbl2, hb2⟩
  rw [List.nil_append, show Lib.strCells (str X0) = Lib.byteCells X0 from rfl] at hbl2
  have HBL2 := Lib.hid (Or.inr hbl2 : Lib.IsBuilder 74 5 w.heap.size w.heap.size (Lib.byteCells X0) w2)
  have h2 : Below w.heap.size w w2 := h1.trans hb2
  clear h1 hb2 hbl1 hbl2
  go_wp2_with fail
  go_loopw [14] (fun i wr => ∃ K : Nat, K ≤ N ∧ i = .int .i64 (K : Int) ∧
      Hid (Lib.IsBuilder 74 5 w.heap.size w.heap.size (Lib.byteCells (X0 ++ (l.take K).flatMap num)) wr) ∧ Hid (Below w.heap.size w2 wr)) (fun i _ => N - (intOf i).toNat)
  case atStart => exact ⟨0, Nat.zero_le _, rfl, Lib.hid (by rw [List.take_zero, List.flatMap_nil, List.append_nil]; exact HBL2.out), Lib.hid (Below.refl _ _)⟩
  case round =>
    obtain ⟨K, hK, rfl, HBL, HBE⟩ := hrel
    by_cases hlt : K < N
    · obtain ⟨x, hx⟩ : ∃ x, l[K]? = some x := ⟨_, List.getElem?_eq_getElem (by rw [HN.out]; exact hlt)⟩
      have hbw : Below w.heap.size w wr := h2.trans HBE.out
      obtain ⟨b, off, rfl, hcell⟩ := HC.out K x hx
      have k0 : wr.cell? ⟨b, off + K, none⟩ = some (.int .i64 x) := kept_cell hbw hcell
      have hltI : (K : Int) < (N : Int) := by omega
      have hk0 : 0 ≤ (K : Int) := by omega
      have hw1 : IntKind.i64.wrap ((K : Int) + 1) = (K : Int) + 1 := IntWalk.i64_in _ (by omega)
      have hfl := flat_len num 8000 (l.take K) fun y hy => HBD.out y (List.mem_of_mem_take hy)
      rw [List.length_take] at hfl
      have hxl := HBD.out x (List.mem_of_getElem? hx)
      have HD := Lib.hid (show (l.take (K + 1)).flatMap num = (l.take K).flatMap num ++ num x from flat_take num hx)
      have HV := Lib.hid (fun W => HM.out W _ x (List.mem_of_getElem? hx) rfl)
      clear hcell hx hbw
      go_wp2_with fail
      refine (HV.out _).mono ?_
      rintro _ w3 ⟨rfl, hb3⟩
      have hbl3 := builder_below HBL.out hb3
      have h3 : Below w.heap.size w2 w3 := HBE.out.trans (hb3.mono (Nat.le_trans h2.size HBE.out.size))
      go_wp2_with fail
      refine (S.write_any w.heap.size w.heap.size _ _ _ hbl3 (by rw [str_size, Lib.byteCells_length, List.length_append]; omega) (Nat.le_trans h2.size h3.size)).mono ?_
      rintro _ w4 ⟨rfl, hbl4, hb4⟩
      rw [show Lib.strCells (str (num x)) = Lib.byteCells (num x) from rfl, ← Lib.byteCells_append, List.append_assoc] at hbl4
      have h4 : Below w.heap.size w2 w4 := h3.trans hb4
      have HBL4 := Lib.hid hbl4
      have HB4 := Lib.hid h4
      clear hbl3 hbl4 h3 h4 hb4 hb3
      go_wp2_with fail
      go_roundw
      case rel => exact ⟨K + 1, by omega, by go_num, Lib.hid (Or.inr (by rw [HD.out]; exact HBL4.out)), HB4⟩
      case measure => simp [intOf]; omega
    · have hltI : ¬ (K : Int) < (N : Int) := by omega
      have hd : X0 ++ (l.take K).flatMap num = X0 ++ l.flatMap num := by rw [List.take_of_length_le (by rw [HN.out]; omega)]
      have hbl := HBL.out
      rw [hd] at hbl
      have HBL5 := Lib.hid hbl
      have hbw : Below w.heap.size w wr := h2.trans HBE.out
      clear hbl hd
      go_wp2_with (go_at_call 58; refine (S.string_any w.heap.size w.heap.size _ _ HBL5.out hbw.size).mono ?_; rintro _ w5 ⟨rfl, hb5⟩; have HB5 := Lib.hid hb5; clear hb5)
      go_ret
      exact ⟨rfl, hbw.trans HB5.out⟩

theorem layValues_any (l : List Int) (v : Value) (w : World) (h : SlN w v l) (hx : ∀ x ∈ l, I64 x) (hl : l.length ≤ 256) : Calls Try.prog 38 #[v] w fun e w' => e = .returned (.string (str (listL l))) ∧ Below w.heap.size w w' := by
  have H := Lib.hid (lays_I l (fun W v x hm hv => by subst hv; exact pnum_any x W (hx x hm)) (fun x hm => by have := num_len x (hx x hm); omega) v w h hl)
  have hd : listL l = num (l.length : Int) ++ l.flatMap num := rfl
  rw [hd]
  generalize num (l.length : Int) ++ l.flatMap num = R at H ⊢
  obtain ⟨a, cap, rfl, -⟩ := h.open
  clear h hx hd
  go_enter Try.func38, Try.ntmps38
  go_wp2_with (go_at_call 54; refine H.out.mono ?_; rintro _ w1 ⟨rfl, hb1⟩; have HB1 := Lib.hid hb1; clear hb1)
  go_ret
  exact ⟨rfl, HB1.out⟩
end Go.Proofs.Ytebglkpejdoggaa.C10

namespace Go.Proofs.Ytebglkpejdoggaa.C10
open Go Go.RowKit Go.Proofs Go.Proofs.Ytebglkpejdoggaa.B Go.Proofs.Ytebglkpejdoggaa.K Go.Proofs.Ytebglkpejdoggaa.P8
set_option linter.unusedVariables false
set_option maxRecDepth 100000

theorem playVd_len (x : Vd) (h : VdWf x) : (layVd x).length ≤ 20 := numsL_len [x.seq, x.code] (by intro y hy; simp at hy; rcases hy with rfl | rfl; exact h.1; exact h.2)
theorem layVd_eq (x : Vd) : layVd x = num x.seq ++ num x.code := by unfold layVd numsL; simp

theorem layEv_eq (x : Ev) : layEv x = num x.pos ++ listL x.vars := rfl
theorem layEv_len8 (x : Ev) (h : EvWf x) (hl : x.vars.length ≤ 256) : (layEv x).length ≤ 3000 := by
  rw [layEv_eq, List.length_append]
  have h1 := num_len x.pos h.1
  have h2 := listL_len x.vars h.2
  omega

set_option maxHeartbeats 4000000 in
theorem layEv1_any (x : Ev) (u : Value) (w : World) (hu : SlN w u x.vars) (h : EvWf x) (hl : x.vars.length ≤ 256) :
    Calls Try.prog 43 #[.agg #[.int .i64 x.pos, u]] w fun e w' => e = .returned (.string (str (layEv x))) ∧ Below w.heap.size w w' := by
  rw [layEv_eq]
  obtain ⟨n0, vs⟩ := x
  obtain ⟨h0, h1, -⟩ := h
  dsimp only at h0 h1 hu hl ⊢
  have l0 := num_len n0 h0
  have l1 := listL_len vs ⟨h1, by omega⟩
  have e1 := add_str (num n0) (listL vs) (by omega)
  obtain ⟨X0, hX0⟩ : ∃ X, num n0 = X := ⟨_, rfl⟩
  obtain ⟨X1, hX1⟩ : ∃ X, listL vs = X := ⟨_, rfl⟩
  rw [hX0, hX1] at e1 ⊢
  obtain ⟨au, cu, rfl, -⟩ := id hu.open
  have P0 := fun W => pnum_any n0 W h0
  have P1 := fun W (hb : Below w.heap.size w W) => layValues_any vs _ W (hu.below hb) h1 hl
  rw [hX0] at P0
  rw [hX1] at P1
  obtain ⟨L, hL⟩ : ∃ L, vs.length = L := ⟨_, rfl⟩
  rw [hL] at P1 ⊢
  generalize X0 ++ X1 = U1 at *
  clear l0 l1 hX0 hX1 hL hu
  obtain ⟨W0, hW0⟩ : ∃ W0, w.alloc (.cells #[.int .i64 n0, .slice au L cu] 54) = W0 := ⟨_, rfl⟩
  obtain ⟨g, hg⟩ : ∃ g, w.heap.size = g := ⟨_, rfl⟩
  have hB0 : Below w.heap.size w W0 := by rw [← hW0]; exact below_alloc _ _
  have k0 : W0.cell? ⟨g, 0, none⟩ = some (.int .i64 n0) := by rw [← hW0, ← hg]; exact alloc_cell w [_, _] _ 0 _ rfl
  have k1 : W0.cell? ⟨g, 1, none⟩ = some (.slice au L cu) := by rw [← hW0, ← hg]; exact alloc_cell w [_, _] _ 1 _ rfl
  have G1 := Lib.hid (fun (W : World) (hS : (W.cell? ⟨g, 0, none⟩ = some (Value.int .i64 n0) ∧ W.cell? ⟨g, 1, none⟩ = some (Value.slice au L cu) ∧ Below w.heap.size w W)) => (show Calls Try.prog 37 #[.int .i64 n0] W (fun e w' => e = .returned (.string (str X0)) ∧ Below W.heap.size W w') from P0 W).mono (fun e (w2 : World) hh => (⟨hh.1, ⟨kept_cell hh.2 hS.1, kept_cell hh.2 hS.2.1, hS.2.2.trans (hh.2.mono hS.2.2.size)⟩⟩ : e = Ending.returned (Value.string (str X0)) ∧ (w2.cell? ⟨g, 0, none⟩ = some (Value.int .i64 n0) ∧ w2.cell? ⟨g, 1, none⟩ = some (Value.slice au L cu) ∧ Below w.heap.size w w2))))
  have G2 := Lib.hid (fun (W : World) (hS : (W.cell? ⟨g, 0, none⟩ = some (Value.int .i64 n0) ∧ W.cell? ⟨g, 1, none⟩ = some (Value.slice au L cu) ∧ Below w.heap.size w W)) => (show Calls Try.prog 38 #[.slice au L cu] W (fun e w' => e = .returned (.string (str X1)) ∧ Below W.heap.size W w') from P1 W hS.2.2).mono (fun e (w2 : World) hh => (⟨hh.1, ⟨kept_cell hh.2 hS.1, kept_cell hh.2 hS.2.1, hS.2.2.trans (hh.2.mono hS.2.2.size)⟩⟩ : e = Ending.returned (Value.string (str X1)) ∧ (w2.cell? ⟨g, 0, none⟩ = some (Value.int .i64 n0) ∧ w2.cell? ⟨g, 1, none⟩ = some (Value.slice au L cu) ∧ Below w.heap.size w w2))))
  have hS0 : (W0.drew.cell? ⟨g, 0, none⟩ = some (Value.int .i64 n0) ∧ W0.drew.cell? ⟨g, 1, none⟩ = some (Value.slice au L cu) ∧ Below w.heap.size w W0.drew) := ⟨k0, k1, hB0.drew⟩
  clear hB0 k0 k1
  go_enter Try.func43, Try.ntmps43
  go_upto_region 1 with fail
  clear hW0
  go_region_held_law (fun W => (W.cell? ⟨g, 0, none⟩ = some (Value.int .i64 n0) ∧ W.cell? ⟨g, 1, none⟩ = some (Value.slice au L cu) ∧ Below w.heap.size w W)) (first | exact hS0 | assumption) (first | (go_at_call 37; ((with_reducible refine (G1.out _ ?_).mono ?_); (first | exact hS0 | assumption)); rintro _ w1 ⟨rfl, hS1⟩) | (go_at_call 38; ((with_reducible refine (G2.out _ ?_).mono ?_); (first | exact hS0 | assumption)); rintro _ w2 ⟨rfl, hS2⟩))
  go_wp2_with fail
  go_ret
  exact ⟨rfl, hS2.2.2⟩

def laySt (s : St) : List UInt8 := num s.pos ++ num s.ver ++ listL s.vars
theorem layIt_eq (x : It) : layIt x = textL x.stream ++ laySt x.st := by
  unfold layIt laySt numsL
  simp
theorem laySt_len (x : St) (h : StWf x) (hl : x.vars.length ≤ 256) : (laySt x).length ≤ 3000 := by
  unfold laySt
  rw [List.length_append, List.length_append]
  have h1 := num_len x.pos h.1
  have h3 := num_len x.ver h.2.1
  have h2 := listL_len x.vars h.2.2
  omega
theorem layIt_len8 (x : It) (h : StWf x.st) (hs : x.stream.length ≤ 4096) (hl : x.st.vars.length ≤ 256) : (layIt x).length ≤ 8000 := by
  rw [layIt_eq, List.length_append]
  have h1 := textL_len x.stream (by unfold TxWf; omega)
  have h2 := laySt_len x.st h hl
  omega

def layHd (c q : Int) (s : List UInt8) : List UInt8 := num c ++ num q ++ textL s
theorem layHd_len (c q : Int) (s : List UInt8) (hc : I64 c) (hq : I64 q) (hs : s.length ≤ 4096) : (layHd c q s).length ≤ 5000 := by
  unfold layHd
  rw [List.length_append, List.length_append]
  have h1 := num_len c hc
  have h2 := num_len q hq
  have h3 := textL_len s (by unfold TxWf; omega)
  omega
set_option maxHeartbeats 1000000 in
theorem layHead_any (c q : Int) (s : List UInt8) (w : World) (hc : I64 c) (hq : I64 q) (hs : s.length ≤ 4096) :
    Calls Try.prog 36 #[.int .i64 c, .int .i64 q, .string (str s)] w fun e w' => e = .returned (.string (str (layHd c q s))) ∧ Below w.heap.size w w' := by
  unfold layHd
  have l0 := num_len c hc
  have l1 := num_len q hq
  have l2 := textL_len s (by unfold TxWf; omega)
  have e1 := add_str (num c) (num q) (by omega)
  have e2 := add_str (num c ++ num q) (textL s) (by rw [List.length_append]; omega)
  have P0 := Lib.hid (fun W => pnum_any c W hc)
  have P1 := Lib.hid (fun W => pnum_any q W hq)
  have P2 := Lib.hid (fun W => layText_any s W hs)
  generalize num c = X0 at *
  generalize num q = X1 at *
  generalize textL s = X2 at *
  generalize X0 ++ X1 = U1 at *
  generalize U1 ++ X2 = U2 at *
  clear l0 l1 l2
  go_enter Try.func36, Try.ntmps36
  go_wp2_with fail
  refine (P0.out _).mono ?_
  rintro _ w1 ⟨rfl, hb1⟩
  go_wp2_with fail
  refine (P1.out _).mono ?_
  rintro _ w2 ⟨rfl, hb2⟩
  have HB2 := Lib.hid (hb1.trans (hb2.mono hb1.size))
  clear hb1 hb2
  go_wp2_with fail
  refine (P2.out _).mono ?_
  rintro _ w3 ⟨rfl, hb3⟩
  have HB3 := Lib.hid (HB2.out.trans (hb3.mono HB2.out.size))
  clear hb3
  go_wp2_with fail
  go_ret
  exact ⟨rfl, HB3.out⟩
end Go.Proofs.Ytebglkpejdoggaa.C10

namespace Go.Proofs.Ytebglkpejdoggaa.C10
open Go Go.RowKit Go.Proofs Go.Proofs.Ytebglkpejdoggaa.B Go.Proofs.Ytebglkpejdoggaa.K Go.Proofs.Ytebglkpejdoggaa.P8
set_option linter.unusedVariables false
set_option maxRecDepth 100000

set_option maxHeartbeats 4000000 in
theorem lays_E (l : List Ev) (HM : ∀ (W : World) (v : Value) (x : Ev), x ∈ l → (∃ u, v = .agg #[.int .i64 x.pos, u] ∧ SlN W u x.vars) → Calls Try.prog 43 #[v] W fun e w' => e = .returned (.string (str (layEv x))) ∧ Below W.heap.size W w')
    (hb : ∀ x ∈ l, (layEv x).length ≤ 8000) (v : Value) (w : World) (h : EvsIs w v l) (hl : l.length ≤ 256) :
    Calls Try.prog 42 #[v, .func (.func 43) #[] #[]] w fun e w' => e = .returned (.string (str (num (l.length : Int) ++ l.flatMap layEv))) ∧ Below w.heap.size w w' := by
  obtain ⟨a, cap, rfl, hc⟩ := h.open
  obtain ⟨N, hN⟩ : ∃ N, l.length = N := ⟨_, rfl⟩
  have HC := Lib.hid hc
  have HN := Lib.hid hN
  have HM := Lib.hid HM
  have HBD := Lib.hid hb
  rw [hN] at hl ⊢
  have H0 := Lib.hid (fun W => pnum_any (N : Int) W ⟨by omega, by omega⟩)
  have hz := num_len (N : Int) ⟨by omega, by omega⟩
  have HX0 := Lib.hid (show num (N : Int) = num (N : Int) from rfl)
  generalize num (N : Int) = X0 at *
  have HBN := Lib.hid (builder_new w 74 5)
  clear hc h hN hb HX0
  go_enter Try.func42, Try.ntmps42
  go_wp2_with fail
  refine (H0.out _).mono ?_
  rintro _ w1 ⟨rfl, hb1⟩
  have hbl1 := builder_below HBN.out hb1
  have h1 : Below w.heap.size w w1 := ((Below.refl _ _).alloc (Nat.le_refl _) _).trans (hb1.mono (by simp))
  clear hb1 HBN
  go_wp2_with fail
  refine (S.write_any w.heap.size w.heap.size [] _ _ hbl1 (by rw [str_size, List.length_nil]; omega) h1.size).mono ?_
  rintro _ w2 ⟨rfl, hbl2, hb2⟩
  rw [List.nil_append, show Lib.strCells (str X0) = Lib.byteCells X0 from rfl] at hbl2
  have HBL2 := Lib.hid (Or.inr hbl2 : Lib.IsBuilder 74 5 w.heap.size w.heap.size (Lib.byteCells X0) w2)
  have h2 : Below w.heap.size w w2 := h1.trans hb2
  clear h1 hb2 hbl1 hbl2
  go_wp2_with fail
  go_loopw [14] (fun i wr => ∃ K : Nat, K ≤ N ∧ i = .int .i64 (K : Int) ∧
      Hid (Lib.IsBuilder 74 5 w.heap.size w.heap.size (Lib.byteCells (X0 ++ (l.take K).flatMap layEv)) wr) ∧ Hid (Below w.heap.size w2 wr)) (fun i _ => N - (intOf i).toNat)
  case atStart => exact ⟨0, Nat.zero_le _, rfl, Lib.hid (by rw [List.take_zero, List.flatMap_nil, List.append_nil]; exact HBL2.out), Lib.hid (Below.refl _ _)⟩
  case round =>
    obtain ⟨K, hK, rfl, HBL, HBE⟩ := hrel
    by_cases hlt : K < N
    · obtain ⟨x, hx⟩ : ∃ x, l[K]? = some x := ⟨_, List.getElem?_eq_getElem (by rw [HN.out]; exact hlt)⟩
      have hbw : Below w.heap.size w wr := h2.trans HBE.out
      obtain ⟨b, off, ea, cs, -, ⟨u, rfl, hu⟩, hcell⟩ := HC.out K x hx
      subst ea
      obtain ⟨au, cu, rfl, -⟩ := id hu.open
      have k0 : wr.cell? ⟨b, off + K * 2, none⟩ = some (.int .i64 x.pos) := kept_cell hbw (hcell 0 _ rfl)
      have k1 : wr.cell? ⟨b, off + K * 2 + 1, none⟩ = some (.slice au x.vars.length cu) := kept_cell hbw (hcell 1 _ rfl)
      have hltI : (K : Int) < (N : Int) := by omega
      have hk0 : 0 ≤ (K : Int) := by omega
      have hw1 : IntKind.i64.wrap ((K : Int) + 1) = (K : Int) + 1 := IntWalk.i64_in _ (by omega)
      have hfl := flat_len layEv 8000 (l.take K) fun y hy => HBD.out y (List.mem_of_mem_take hy)
      rw [List.length_take] at hfl
      have hxl := HBD.out x (List.mem_of_getElem? hx)
      have HD := Lib.hid (show (l.take (K + 1)).flatMap layEv = (l.take K).flatMap layEv ++ layEv x from flat_take layEv hx)
      have HV := Lib.hid (fun W (hb : Below w.heap.size w W) => HM.out W _ x (List.mem_of_getElem? hx) ⟨_, rfl, hu.below hb⟩)
      clear hcell hx hbw hu
      obtain ⟨W3, hW3⟩ : ∃ W3, wr.alloc (.cells #[.int .i64 x.pos, .slice au x.vars.length cu] 54) = W3 := ⟨_, rfl⟩
      have hB3 : Below wr.heap.size wr W3 := by rw [← hW3]; exact below_alloc _ _
      have HB3 := Lib.hid hB3
      clear hB3
      have m0 : W3.cell? ⟨wr.heap.size, 0, none⟩ = some (.int .i64 x.pos) := by rw [← hW3]; exact alloc_cell wr [_, _] _ 0 _ rfl
      have m1 : W3.cell? ⟨wr.heap.size, 1, none⟩ = some (.slice au x.vars.length cu) := by rw [← hW3]; exact alloc_cell wr [_, _] _ 1 _ rfl
      go_wp2_with fail
      refine (HV.out _ ((h2.trans HBE.out).trans (HB3.out.mono (Nat.le_trans h2.size HBE.out.size)))).mono ?_
      rintro _ w3 ⟨rfl, hb3'⟩
      have hb3 : Below wr.heap.size wr w3 := HB3.out.trans (hb3'.mono HB3.out.size)
      have hbl3 := builder_below HBL.out hb3
      have h3 : Below w.heap.size w2 w3 := HBE.out.trans (hb3.mono (Nat.le_trans h2.size HBE.out.size))
      go_wp2_with fail
      refine (S.write_any w.heap.size w.heap.size _ _ _ hbl3 (by rw [str_size, Lib.byteCells_length, List.length_append]; omega) (Nat.le_trans h2.size h3.size)).mono ?_
      rintro _ w4 ⟨rfl, hbl4, hb4⟩
      rw [show Lib.strCells (str (layEv x)) = Lib.byteCells (layEv x) from rfl, ← Lib.byteCells_append, List.append_assoc] at hbl4
      have h4 : Below w.heap.size w2 w4 := h3.trans hb4
      have HBL4 := Lib.hid hbl4
      have HB4 := Lib.hid h4
      clear hbl3 hbl4 h3 h4 hb4 hb3
      go_wp2_with fail
      go_roundw
      case rel => exact ⟨K + 1, by omega, by go_num, Lib.hid (Or.inr (by rw [HD.out]; exact HBL4.out)), HB4⟩
      case measure => simp [intOf]; omega
    · have hltI : ¬ (K : Int) < (N : Int) := by omega
      have hd : X0 ++ (l.take K).flatMap layEv = X0 ++ l.flatMap layEv := by rw [List.take_of_length_le (by rw [HN.out]; omega)]
      have hbl := HBL.out
      rw [hd] at hbl
      have HBL5 := Lib.hid hbl
      have hbw : Below w.heap.size w wr := h2.trans HBE.out
      clear hbl hd
      go_wp2_with (go_at_call 58; refine (S.string_any w.heap.size w.heap.size _ _ HBL5.out hbw.size).mono ?_; rintro _ w5 ⟨rfl, hb5⟩; have HB5 := Lib.hid hb5; clear hb5)
      go_ret
      exact ⟨rfl, hbw.trans HB5.out⟩

theorem playEvents_any (l : List Ev) (v : Value) (w : World) (h : EvsIs w v l) (hx : ∀ x ∈ l, EvWf x ∧ x.vars.length ≤ 256) (hl : l.length ≤ 256) : Calls Try.prog 24 #[v] w fun e w' => e = .returned (.string (str (layEvs l))) ∧ Below w.heap.size w w' := by
  have H := Lib.hid (lays_E l (fun W v x hm hv => by obtain ⟨u, rfl, hu⟩ := hv; exact layEv1_any x u W hu (hx x hm).1 (hx x hm).2) (fun x hm => by have := layEv_len8 x (hx x hm).1 (hx x hm).2; omega) v w h hl)
  have hd : layEvs l = num (l.length : Int) ++ l.flatMap layEv := rfl
  rw [hd]
  generalize num (l.length : Int) ++ l.flatMap layEv = R at H ⊢
  obtain ⟨a, cap, rfl, -⟩ := h.open
  clear h hx hd
  go_enter Try.func24, Try.ntmps24
  go_wp2_with (go_at_call 42; refine H.out.mono ?_; rintro _ w1 ⟨rfl, hb1⟩; have HB1 := Lib.hid hb1; clear hb1)
  go_ret
  exact ⟨rfl, HB1.out⟩

end Go.Proofs.Ytebglkpejdoggaa.C10
