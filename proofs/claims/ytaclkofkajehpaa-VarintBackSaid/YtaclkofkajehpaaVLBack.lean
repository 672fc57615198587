/-
  VarintBack: what was laid, a number, a text, numbers, texts, is read as it was, whatever stands ahead of it and behind (as the statement bounds both: up to 5000 bytes). No condition.
-/
import Derived.Test.YtaclkofkajehpaaRows
import Derived.Test.YtaclkofkajehpaaVLayTexts
import Derived.Test.YtaclkofkajehpaaVSame
import Derived.Test.YtaclkofkajehpaaVInv
import Derived.Test.YtaclkofkajehpaaKArgs
import Derived.Test.YtaclkofkajehpaaKLaw
namespace Go.Proofs.Ytaclkofkajehpaa.varintBack
open Go.ChangeShapes Go.WideShapes Go.ChangeAt Go.RowKit
open Go.Proofs.Ytaclkofkajehpaa.V Go.Proofs.Ytaclkofkajehpaa.K
set_option linter.unusedVariables false

theorem own : ownKnob Try.prog.godebug = none := by kernel_rfl
theorem laidOut : laidOutB Try.prog = true := by kernel_rfl

/-- The struct that came in lies in a new block; its six cells read so ever after. -/
theorem six {w wr : World} {a b c d e f : Value} {T : TypeId} (h : Below (w.alloc (.cells #[a, b, c, d, e, f] T)).heap.size (w.alloc (.cells #[a, b, c, d, e, f] T)) wr) :
    wr.cell? ⟨w.heap.size, 0, none⟩ = some a ∧ wr.cell? ⟨w.heap.size, 1, none⟩ = some b ∧ wr.cell? ⟨w.heap.size, 2, none⟩ = some c ∧ wr.cell? ⟨w.heap.size, 3, none⟩ = some d ∧ wr.cell? ⟨w.heap.size, 4, none⟩ = some e ∧ wr.cell? ⟨w.heap.size, 5, none⟩ = some f := by
  have hh : wr.heap[w.heap.size]? = some (.cells #[a, b, c, d, e, f] T) := (h.block w.heap.size (by simp)).trans (heap_alloc_at w _)
  refine ⟨?_, ?_, ?_, ?_, ?_, ?_⟩ <;> simp [World.cell?, hh]

theorem app3 (A t B : List UInt8) : str A ++ str t = str (A ++ t) ∧ str (A ++ t) ++ str B = str (A ++ (t ++ B)) := by
  rw [str_append, str_append, List.append_assoc]
  exact ⟨rfl, rfl⟩

theorem layAll_len {α : Type} (lay : α → List UInt8 × Int) (m : Nat) : ∀ r : List α, (∀ x ∈ r, (lay x).1.length ≤ m) → (layAll lay r).1.length ≤ r.length * m
  | [], _ => by simp [layAll]
  | x :: r, hm => by
    have h1 := hm x List.mem_cons_self
    have h2 := layAll_len lay m r (fun y hy => hm y (List.mem_cons_of_mem _ hy))
    simp only [layAll]
    split
    · simp
    · unfold comb
      split
      · simp
      · rw [List.length_append, List.length_cons, Nat.add_mul]; omega

theorem layList_len {α : Type} (lay : α → List UInt8 × Int) (m : Nat) (l : List α) (hm : ∀ x ∈ l, (lay x).1.length ≤ m) : (layList lay l).1.length ≤ 10 + 256 * m := by
  unfold layList
  split
  · simp
  · rename_i h
    have h1 := layAll_len lay m l hm
    have h2 : l.length * m ≤ 256 * m := Nat.mul_le_mul_right m (by omega)
    have h3 := num_len l.length (by omega) (by omega)
    unfold comb
    split
    · simp
    · rw [List.length_append]; omega

theorem six_list {cs : List Value} {c0 c1 c2 c3 c4 c5 : Value} (hl : cs.length = 6) (e0 : cs[0]? = some c0) (e1 : cs[1]? = some c1) (e2 : cs[2]? = some c2) (e3 : cs[3]? = some c3) (e4 : cs[4]? = some c4) (e5 : cs[5]? = some c5) : cs = [c0, c1, c2, c3, c4, c5] := by
  match cs, hl with
  | [a, b, c, d, e, f], _ => simp_all

set_option maxHeartbeats 4000000 in
set_option maxRecDepth 100000 in
theorem walk (A B S : List UInt8) (n : Int) (vL vT : Value) (xs : List Int) (ls : List (List UInt8)) (w : World) (n0 : -9223372036854775808 ≤ n) (n1 : n ≤ 9223372036854775807) (hS : S.length ≤ maxLen)
    (hxs : Sl w vL (xs.map (Value.int .i64))) (hxw : ∀ x ∈ xs, -9223372036854775808 ≤ x ∧ x ≤ 9223372036854775807) (hls : Sl w vT (ls.map sv)) (hlw : ∀ x ∈ ls, x.length ≤ maxLen) :
    Calls Try.prog 6 #[.agg #[.string (str A), .string (str B), .int .i64 n, .string (str S), vL, vT]] w fun e w' => e = .returned (.bool true) ∧ Below w.heap.size w w' := by
  have hsA : (str A).size = A.length := str_size A
  have hsB : (str B).size = B.length := str_size B
  have HXW := Lib.hid hxw; clear hxw
  have HLW := Lib.hid hlw; clear hlw
  have HS := Lib.hid hS; clear hS
  have HN := Lib.hid (And.intro n0 n1); clear n0 n1
  have hnew : ∀ wr, Below (w.alloc (.cells #[.string (str A), .string (str B), .int .i64 n, .string (str S), vL, vT] 45)).heap.size (w.alloc (.cells #[.string (str A), .string (str B), .int .i64 n, .string (str S), vL, vT] 45)) wr → Below w.heap.size w wr :=
    fun wr h => ((Below.refl _ _).alloc (Nat.le_refl _) _).trans (h.mono (by simp))
  have HX := Lib.hid (fun wr h => hxs.below (hnew wr h)); clear hxs
  have HL := Lib.hid (fun wr h => hls.below (hnew wr h)); clear hls
  have HNEW := Lib.hid hnew; clear hnew
  by_cases hA : 5000 < A.length
  · have hAI : 5000 < (A.length : Int) := by omega
    go_enter Try.func6, Try.ntmps6
    go_wp2_with fail
    refine (awake_any _).mono ?_
    rintro _ w1 ⟨rfl, h1⟩
    go_wp2_with fail
    go_ret
    exact ⟨rfl, HNEW.out _ h1⟩
  have hAI : ¬ 5000 < (A.length : Int) := by omega
  by_cases hB : 5000 < B.length
  · have hBI : 5000 < (B.length : Int) := by omega
    go_enter Try.func6, Try.ntmps6
    go_wp2_with fail
    refine (awake_any _).mono ?_
    rintro _ w1 ⟨rfl, h1⟩
    go_wp2_with fail
    go_ret
    exact ⟨rfl, HNEW.out _ h1⟩
  have hBI : ¬ 5000 < (B.length : Int) := by omega
  obtain ⟨p1, p2⟩ := app3 A (num n) B
  have hn10 := num_len n HN.out.1 HN.out.2
  have hsN : (str (num n)).size = (num n).length := str_size _
  have hsAN : (str (A ++ num n)).size ≤ 6000 := by rw [str_size, List.length_append]; omega
  have hrd : rdAt (str (A ++ (num n ++ B))).data.toList (A.length : Int) = (n, (A.length : Int) + ((num n).length : Int), 0) := by rw [str_data]; exact rdAt_num A B n HN.out.1 HN.out.2
  have HRD := Lib.hid hrd; clear hrd
  have hbig : (str (A ++ (num n ++ B))).size ≤ 140737488355328 := by rw [str_size, List.length_append, List.length_append]; omega
  have HBIG := Lib.hid hbig; clear hbig
  go_enter Try.func6, Try.ntmps6
  go_wp2_with fail
  refine (awake_any _).mono ?_
  rintro _ w1 ⟨rfl, h1⟩
  obtain ⟨c0, c1, c2, c3, c4, c5⟩ := six h1
  go_wp2_with fail
  refine (number_any n _ HN.out.1 HN.out.2).mono ?_
  rintro _ w2 ⟨rfl, hb2⟩
  have h2 := h1.trans (hb2.mono h1.size)
  clear c0 c1 c2 c3 c4 c5 h1 hb2
  obtain ⟨c0, c1, c2, c3, c4, c5⟩ := six h2
  go_wp2_with fail
  refine (readNumber_of HRD.out _ HBIG.out).mono ?_
  rintro _ w3 ⟨rfl, rfl⟩
  go_wp2_with fail
  refine (text_any S _ HS.out).mono ?_
  obtain ⟨⟨t, e⟩, ht⟩ : ∃ q, textOf S = q := ⟨_, rfl⟩
  have htl : t.length ≤ 4106 := by have := textOf_len S HS.out; rw [ht] at this; exact this
  rw [ht]
  rintro _ w4 ⟨rfl, hb4⟩
  have h4 := h2.trans (hb4.mono h2.size)
  clear c0 c1 c2 c3 c4 c5 h2 hb4 p1 p2 hsAN HRD HBIG hsN hn10
  obtain ⟨c0, c1, c2, c3, c4, c5⟩ := six h4
  by_cases he : e = 0
  focus
    subst he
    obtain ⟨hS4, htS⟩ : S.length ≤ 4096 ∧ t = num S.length ++ S := by
      unfold textOf at ht
      by_cases h : 4096 < S.length
      · rw [if_pos h] at ht; simp at ht
      · rw [if_neg h] at ht; simp at ht; exact ⟨by omega, ht.symm⟩
    obtain ⟨p1, p2⟩ := app3 A t B
    have hsN : (str t).size = t.length := str_size _
    have hsAN : (str (A ++ t)).size ≤ 16000 := by rw [str_size, List.length_append]; omega
    have hrd : txt (str (A ++ (t ++ B))).data.toList (A.length : Int) = (S, (A.length : Int) + (t.length : Int), 0) := by rw [str_data, htS]; exact txt_text A B S hS4
    have HRD := Lib.hid hrd; clear hrd
    have hbig : (str (A ++ (t ++ B))).size ≤ 140737488355328 := by rw [str_size, List.length_append, List.length_append]; omega
    have HBIG := Lib.hid hbig; clear hbig
    clear ht htS hS4
    go_wp2_with fail
    refine (readText_of HRD.out _ HBIG.out).mono ?_
    rintro _ w5 ⟨rfl, hb5⟩
    have h5 := h4.trans (hb5.mono h4.size)
    clear c0 c1 c2 c3 c4 c5 h4 hb5
    obtain ⟨c0, c1, c2, c3, c4, c5⟩ := six h5
    go_wp2_with fail
    clear p1 p2 hsN hsAN HRD HBIG htl c0 c1 c2 c3 c4 c5
    have hz := h5
    clear h5
  rotate_left
  focus
    have hb : (e == 0) = false := by simp [he]
    clear ht he htl
    go_wp2_with fail
    clear hb c0 c1 c2 c3 c4 c5
    have hz := h4
    clear h4
  all_goals
    refine (numbers_any vL xs _ HXW.out (HX.out _ hz)).mono ?_
    obtain ⟨⟨t, e⟩, ht⟩ : ∃ q, layList numOf xs = q := ⟨_, rfl⟩
    have htl : t.length ≤ 10 + 256 * 10 := by have := layList_len numOf 10 xs (fun x hx => num_len x (HXW.out x hx).1 (HXW.out x hx).2); rw [ht] at this; exact this
    rw [ht]
    rintro _ wn ⟨rfl, hbn⟩
    have hn := hz.trans (hbn.mono hz.size)
    clear hz hbn
    obtain ⟨c0, c1, c2, c3, c4, c5⟩ := six hn
    by_cases he : e = 0
    focus
      subst he
      have hl256 := (layList_ok _ _ ht).1
      obtain ⟨p1, p2⟩ := app3 A t B
      have hsN : (str t).size = t.length := str_size _
      have hsAN : (str (A ++ t)).size ≤ 2000000 := by rw [str_size, List.length_append]; omega
      have hrd : nums (str (A ++ (t ++ B))).data.toList (A.length : Int) = (xs, (A.length : Int) + (t.length : Int), 0) := by rw [str_data]; exact nums_back xs HXW.out t ht A B
      have HRD := Lib.hid hrd; clear hrd
      have hbig : (str (A ++ (t ++ B))).size ≤ 140737488355328 := by rw [str_size, List.length_append, List.length_append]; omega
      have HBIG := Lib.hid hbig; clear hbig
      clear ht
      go_wp2_with fail
      refine (readNumbers_any _ _ _ HBIG.out).mono ?_
      rw [HRD.out]
      rintro _ wm ⟨v, rfl, hv, hbm⟩
      have hm := hn.trans (hbm.mono hn.size)
      clear c0 c1 c2 c3 c4 c5 hn hbm
      obtain ⟨c0, c1, c2, c3, c4, c5⟩ := six hm
      have HV := Lib.hid hv; clear hv
      go_wp2_with fail
      refine (ints_same _ _ xs _ (by omega) HV.out (HX.out _ hm)).mono ?_
      rintro _ wk ⟨rfl, hbk⟩
      have hk := hm.trans (hbk.mono hm.size)
      clear c0 c1 c2 c3 c4 c5 hm hbk HV
      obtain ⟨c0, c1, c2, c3, c4, c5⟩ := six hk
      go_wp2_with fail
      clear p1 p2 hsN hsAN HRD HBIG htl c0 c1 c2 c3 c4 c5 hl256
      have hz := hk
      clear hk
    rotate_left
    focus
      have hb : (e == 0) = false := by simp [he]
      clear ht he htl
      go_wp2_with fail
      clear hb c0 c1 c2 c3 c4 c5
      have hz := hn
      clear hn
    all_goals
      refine (texts_any vT ls _ HLW.out (HL.out _ hz)).mono ?_
      obtain ⟨⟨t, e⟩, ht⟩ : ∃ q, layList textOf ls = q := ⟨_, rfl⟩
      have htl : t.length ≤ 10 + 256 * 4106 := by have := layList_len textOf 4106 ls (fun x hx => textOf_len x (HLW.out x hx)); rw [ht] at this; exact this
      rw [ht]
      rintro _ wn ⟨rfl, hbn⟩
      have hn := hz.trans (hbn.mono hz.size)
      clear hz hbn
      obtain ⟨c0, c1, c2, c3, c4, c5⟩ := six hn
      by_cases he : e = 0
      focus
        subst he
        have hl256 := (layList_ok _ _ ht).1
        obtain ⟨p1, p2⟩ := app3 A t B
        have hsN : (str t).size = t.length := str_size _
        have hsAN : (str (A ++ t)).size ≤ 2000000 := by rw [str_size, List.length_append]; omega
        have hrd : txts (str (A ++ (t ++ B))).data.toList (A.length : Int) = (ls, (A.length : Int) + (t.length : Int), 0) := by rw [str_data]; exact txts_back ls t ht A B
        have HRD := Lib.hid hrd; clear hrd
        have hbig : (str (A ++ (t ++ B))).size ≤ 140737488355328 := by rw [str_size, List.length_append, List.length_append]; omega
        have HBIG := Lib.hid hbig; clear hbig
        clear ht
        go_wp2_with fail
        refine (readTexts_any _ _ _ HBIG.out).mono ?_
        rw [HRD.out]
        rintro _ wm ⟨v, rfl, hv, hbm⟩
        have hm := hn.trans (hbm.mono hn.size)
        clear c0 c1 c2 c3 c4 c5 hn hbm
        obtain ⟨c0, c1, c2, c3, c4, c5⟩ := six hm
        have HV := Lib.hid hv; clear hv
        go_wp2_with fail
        refine (same_same _ _ ls _ (by omega) HV.out (HL.out _ hm)).mono ?_
        rintro _ wk ⟨rfl, hbk⟩
        have hk := hm.trans (hbk.mono hm.size)
        clear c0 c1 c2 c3 c4 c5 hm hbk HV
        obtain ⟨c0, c1, c2, c3, c4, c5⟩ := six hk
        go_wp2_with fail
        go_ret
        exact ⟨rfl, HNEW.out _ hk⟩
      have hb : (e == 0) = false := by simp [he]
      clear ht he htl
      go_wp2_with fail
      go_ret
      exact ⟨rfl, HNEW.out _ hn⟩

set_option maxRecDepth 100000 in
theorem lifted (os : Os) (started : os.Started) (H : Type) (enc : TypeId × Value → H) :
    ReturnsInHanded {} Try.checked os 6 .any (Rows.varintBackSpec.pre6 enc Try.prog Try.f6 Rows.varintBackRow.domain false) (Rows.varintBackSpec.post enc Try.prog Try.f6 false true false false) := by
  refine returnsInHanded_of_change (C := Try.checked) own started (by kernel_rfl) Try.func6
    (ChangeSpec.witness6 (enc := enc) (C := Try.checked) false ⟨#[], #[.agg #[.string ⟨#[]⟩, .string ⟨#[]⟩, .int .i64 0, .string ⟨#[]⟩, .slice none 0 0, .slice none 0 0]], []⟩ 8 (by kernel_rfl) (by kernel_rfl) (by kernel_rfl) (by kernel_rfl)) ?_
  intro W base args ds gs before hval0 hW hcnd _
  have hval : ∀ (j : Nat) t v, Try.f6.params[j]? = some t → args[j]? = some v → Value.okWide Try.prog W .any base t v := hval0
  have hW' := hW
  obtain ⟨p, q, hA0, hV, rfl, hfz, hnd⟩ := hW
  have hA : DataW.TrodAll enc Try.prog W 0 (fun _ => true) true Try.f6.params.toList args.toList ds p := hA0
  rw [Try.params6] at hA hval
  obtain ⟨v0, vs0, d0, ds0, p0, q0, hargs, rfl, rfl, h0, r0⟩ := trodAll_cons hA
  obtain ⟨rfl, rfl, rfl⟩ := trodAll_nil r0
  obtain rfl : args = #[v0] := by cases args; simp_all
  obtain ⟨cs, rfl, hlen, n, hf⟩ := agg_fields Try.underlying45 (by kernel_rfl) (by kernel_rfl) (hval 0 45 v0 rfl rfl) h0
  obtain ⟨c0, y0, e0, t0⟩ := hf 0 _ rfl
  obtain ⟨c1, y1, e1, t1⟩ := hf 1 _ rfl
  obtain ⟨c2, y2, e2, t2⟩ := hf 2 _ rfl
  obtain ⟨c3, y3, e3, t3⟩ := hf 3 _ rfl
  obtain ⟨c4, y4, e4, t4⟩ := hf 4 _ rfl
  obtain ⟨c5, y5, e5, t5⟩ := hf 5 _ rfl
  obtain rfl : cs = [c0, c1, c2, c3, c4, c5] := six_list hlen e0 e1 e2 e3 e4 e5
  obtain ⟨s0, g0, _, ws0⟩ := DataW.trod_string Try.underlying9 t0
  obtain ⟨s1, g1, _, ws1⟩ := DataW.trod_string Try.underlying9 t1
  obtain ⟨m, g2, _, wm⟩ := DataW.trod_int Try.underlying3 t2
  obtain ⟨s3, g3, _, ws3⟩ := DataW.trod_string Try.underlying9 t3
  simp only [List.cons.injEq, and_true] at g0 g1 g2 g3
  subst g0 g1 g2 g3
  obtain ⟨xs, hxs, hxw, _⟩ := ints_field Try.underlying25 Try.underlying3 (by kernel_rfl) t4
  obtain ⟨ls, hls, hlw, _⟩ := strs_field Try.underlying26 Try.underlying9 (by kernel_rfl) t5
  obtain ⟨A, rfl⟩ : ∃ l, s0 = str l := ⟨_, (str_eq s0).symm⟩
  obtain ⟨B, rfl⟩ : ∃ l, s1 = str l := ⟨_, (str_eq s1).symm⟩
  obtain ⟨S, rfl⟩ : ∃ l, s3 = str l := ⟨_, (str_eq s3).symm⟩
  rw [str_size] at ws3
  have hm : -9223372036854775808 ≤ m ∧ m ≤ 9223372036854775807 := by simpa [Lit.wf, IntKind.min, IntKind.max, IntKind.signed, IntKind.bits] using wm
  refine (walk A B S m c4 c5 xs ls W hm.1 hm.2 ws3 hxs hxw hls hlw).mono fun e W' ⟨he, hb⟩ => ?_
  subst he
  exact ⟨_, rfl, post_law hW' hb laidOut rfl rfl rfl Try.underlying4 (by rw [Try.params6]; decide +kernel)⟩

theorem over : Rows.varintBackRow.holds Try.pinned (OpenSpec.ofChange Rows.varintBackSpec) :=
  OpenClaim.holds_of_wide 6 Try.f6 rfl rfl rfl rfl rfl rfl rfl ⟨rfl, rfl, rfl, rfl, rfl⟩ rfl rfl rfl rfl rfl (by kernel_rfl) Try.func6 (by kernel_rfl)
    (of_decide_eq_true (by kernel_rfl)) (by unfold Func.isWrapper; first | (rw [if_pos (by decide +kernel)]; kernel_rfl) | (rw [if_neg (by decide +kernel)]; exact ⟨rfl, rfl⟩))
    (fun os started H enc _ => lifted os started H enc)

theorem proved : Rows.VarintBackSaid := over
#print axioms proved
end Go.Proofs.Ytaclkofkajehpaa.varintBack
