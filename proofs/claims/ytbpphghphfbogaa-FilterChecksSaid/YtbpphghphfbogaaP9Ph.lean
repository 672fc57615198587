/-
  Layer 9, the program: what asks a filter for what is needed of it, one by one.
-/
import Derived.Test.YtbpphghphfbogaaP9Pf
namespace Go.Proofs.Ytbpphghphfbogaa.P8
open Go Go.RowKit Go.Shelf Go.Proofs Go.Proofs.Ytbpphghphfbogaa.B Go.Proofs.Ytbpphghphfbogaa.K
set_option linter.unusedVariables false
set_option maxRecDepth 100000

/-- Nothing but these blocks has turned. -/
structure Tn (S : Nat → Prop) (W W' : World) : Prop where
  os : W'.os = W.os
  tape : W'.tape = W.tape
  output : W'.output = W.output
  size : W.heap.size ≤ W'.heap.size
  block : ∀ b, b < W.heap.size → ¬ S b → W'.heap[b]? = W.heap[b]?
theorem Tn.trans {S : Nat → Prop} {a b c : World} (h : Tn S a b) (k : Tn S b c) : Tn S a c :=
  ⟨k.os.trans h.os, k.tape.trans h.tape, k.output.trans h.output, Nat.le_trans h.size k.size, fun i hi hne => (k.block i (Nat.lt_of_lt_of_le hi h.size) hne).trans (h.block i hi hne)⟩
theorem Tn.of_below {S : Nat → Prop} {a b : World} (h : Below a.heap.size a b) : Tn S a b := ⟨h.os, h.tape, h.output, h.size, fun i hi _ => h.block i hi⟩
theorem Tn.of_tg {S : Nat → Prop} {g : Nat} {a b : World} (h : Tg g a b) (hg : S g) : Tn S a b := ⟨h.os, h.tape, h.output, h.size, fun i hi hs => h.block i hi (fun e => hs (e ▸ hg))⟩
theorem Tn.onto {S : Nat → Prop} {n : Nat} {w a b : World} (h : Below n w a) (hn : n ≤ w.heap.size) (hS : ∀ i, S i → n ≤ i) (k : Tn S a b) : Below n w b :=
  ⟨k.os.trans h.os, k.tape.trans h.tape, k.output.trans h.output, Nat.le_trans h.size k.size, fun i hi => (k.block i (Nat.lt_of_lt_of_le hi (Nat.le_trans hn h.size)) (fun e => by have := hS i e; omega)).trans (h.block i hi)⟩
theorem Tn.owns {S : Nat → Prop} {W W' : World} {base : Nat} {e : TypeId} {k : Nat} {v : Value} {n : Nat} {xs : List Value} (t : Tn S W W') (h : W.ownsRow base e k v n xs) (hS : ∀ i, S i → i < base) : W'.ownsRow base e k v n xs := by
  refine ⟨h.1, ?_⟩
  rcases h.2 with h | ⟨g, cap, cur, h1, h2, h3, h4⟩
  · exact Or.inl h
  · exact Or.inr ⟨g, cap, cur, h1, h2, (t.block g (Array.getElem?_eq_some_iff.1 h3).1 (fun e => by have := hS g e; omega)).trans h3, h4⟩

/-- What is left lies in cell B, its texts in a block of their own. -/
structure Nd (W : World) (B base : Nat) (l : List (List UInt8)) (v : Value) : Prop where
  cell : W.heap[B]? = some (.cells #[v] 22 (0, 0))
  row : W.ownsRow base 9 1 v l.length (l.map sv)
  apart : ∀ g, v.ownBlock = some g → g < B
theorem Nd.cell_lt {W : World} {B base : Nat} {l : List (List UInt8)} {v : Value} (h : Nd W B base l v) : B < W.heap.size := (Array.getElem?_eq_some_iff.1 h.cell).1
theorem Nd.below {W W' : World} {B base : Nat} {l : List (List UInt8)} {v : Value} (h : Nd W B base l v) (hb : Below W.heap.size W W') : Nd W' B base l v :=
  ⟨(hb.block _ (Array.getElem?_eq_some_iff.1 h.cell).1).trans h.cell, own_keep h.row hb, h.apart⟩
theorem Nd.keep {W W' : World} {B base n : Nat} {l : List (List UInt8)} {v : Value} (h : Nd W B base l v) (hB : B < n) (hb : Below n W W') (hn : n ≤ W.heap.size) : Nd W' B base l v := by
  refine ⟨(hb.block _ hB).trans h.cell, ⟨h.row.1, ?_⟩, h.apart⟩
  rcases h.row.2 with h' | ⟨g, cap, cur, h1, h2, h3, h4⟩
  · exact Or.inl h'
  · exact Or.inr ⟨g, cap, cur, h1, h2, (hb.block g (by have := h.apart g (by rw [h1]; rfl); omega)).trans h3, h4⟩

theorem ent_del : Ent 68 := fun args w => enters_of Try.func68 (by kernel_rfl) rfl args w
theorem ent_next : Ent 66 := fun args w => enters_of Try.func66 (by kernel_rfl) rfl args w

set_option maxHeartbeats 1000000 in
theorem del_any (C : Nat) (m x : List UInt8) (w : World) (hB : Box w C m) (hm : m.length ≤ 9223372036854775807) (hx : x.length ≤ 9223372036854775807) :
    Calls Try.prog 68 #[.string (str x), .pointer (some ⟨C, 0, none⟩)] w fun e w' => e = .returned (.bool (covT m x)) ∧ Below w.heap.size w w' := by
  obtain ⟨h1, h2⟩ := hB.cell
  simp only [sv] at h1
  have HC := Lib.hid (covers_any m x hm hx w)
  obtain ⟨c, hc⟩ : ∃ c, covT m x = c := ⟨_, rfl⟩
  rw [hc] at HC ⊢
  go_enter Try.func68, Try.ntmps68
  go_wp2_with (go_at_call 32; refine HC.out.mono ?_; rintro _ w1 ⟨rfl, hb1⟩; have HB1 := Lib.hid hb1; clear hb1)
  go_ret
  exact ⟨rfl, HB1.out⟩

set_option maxHeartbeats 1000000 in
theorem needed_any9 (v : Value) (w : World) (a : Option Addr) (n cap : Nat) (hv : v = .slice a n cap) :
    Calls Try.prog 57 #[v] w fun e w' => e = .returned (.func (.func 66) #[] #[.pointer (some ⟨w.heap.size, 0, none⟩)]) ∧ w'.heap[w.heap.size]? = some (.cells #[v] 22 (0, 0)) ∧ Below w.heap.size w w' := by
  subst hv
  go_enter Try.func57, Try.ntmps57
  go_wp2_with fail
  go_ret
  exact ⟨rfl, heap_alloc_at _ _, below_new w _⟩

theorem wideGo_drop {l : List (List UInt8)} {K : Nat} {p m : List UInt8} (h : l[K]? = some p) : wideGo (l.drop K) m = wideGo (l.drop (K + 1)) (if covT p m then p else m) := by
  obtain ⟨hlt, rfl⟩ := List.getElem?_eq_some_iff.1 h
  rw [List.drop_eq_getElem_cons hlt, wideGo]

set_option maxHeartbeats 2000000 in
theorem next9_nil (B base : Nat) (v : Value) (w : World) (hN : Nd w B base [] v) :
    Calls Try.prog 66 #[.pointer (some ⟨B, 0, none⟩)] w fun e w' => e = .returned (.tuple #[.string ⟨#[]⟩, .bool false]) ∧ w = w' := by
  have h1 := cell_one hN.cell
  obtain ⟨a, cap, rfl⟩ := shape_own hN.row
  clear hN
  go_enter Try.func66, Try.ntmps66
  go_wp2_with fail
  go_ret2
  exact ⟨rfl, rfl⟩

set_option maxHeartbeats 4000000 in
theorem next9_any (B base : Nat) (l : List (List UInt8)) (v : Value) (w : World) (hN : Nd w B base l v) (hne : l ≠ []) (hl : l.length ≤ 1000000) (hx : ∀ x ∈ l, x.length ≤ 9223372036854775807) :
    Calls Try.prog 66 #[.pointer (some ⟨B, 0, none⟩)] w fun e w' => e = .returned (.tuple #[.string (str (wide l)), .bool true]) ∧ ∃ v', Nd w' B base (rest l) v' ∧ v'.ownBlock = v.ownBlock ∧ Tn (fun b => b = B ∨ v.ownBlock = some b) w w' := by
  have h1 := cell_one hN.cell
  rcases rw_of hN.row with ⟨rfl, h0⟩ | ⟨g, cap, rfl, hbg, hcm, hR⟩
  · exact absurd h0 hne
  obtain ⟨N, hNN⟩ : ∃ N, l.length = N := ⟨_, rfl⟩
  have hNpos : 0 < N := by rw [← hNN]; exact List.length_pos_iff.2 hne
  have HN := Lib.hid hNN
  have HX := Lib.hid hx
  have HR := Lib.hid hR
  have HD := Lib.hid hN
  have hgB := hN.apart g rfl
  rw [hNN] at h1 hl ⊢
  obtain ⟨m0, hm0⟩ : ∃ m, l[0]? = some m := ⟨_, List.getElem?_eq_getElem (by omega)⟩
  have HW := Lib.hid (show wide l = wideGo (l.drop 0) m0 by
    cases l with
    | nil => exact absurd rfl hne
    | cons y l => simp at hm0; subst hm0; rfl)
  have HM0 := Lib.hid (List.mem_of_getElem? hm0)
  obtain ⟨hc0, hf0⟩ := hR.cell hm0
  have hBlt := (Array.getElem?_eq_some_iff.1 hN.cell).1
  have hne0 : ((N : Int) == 0) = false := beq_eq_false_iff_ne.2 (by omega)
  have hN0 : (0 : Int) < (N : Int) := by omega
  have hst := run_store_new Try.prog w (.string ⟨#[]⟩) (.string (str m0)) 9 rfl
  have hBx : Box (w.alloc (.cells #[.string (str m0)] 9)) w.heap.size m0 := heap_alloc_at _ _
  have hbn := below_new w (.cells #[.string (str m0)] 9)
  clear hN hNN hm0 hR hx
  go_enter Try.func66, Try.ntmps66
  go_wp2_with fail
  try rw [alloc_set]
  obtain ⟨W1, hW1⟩ : ∃ W, w.alloc (.cells #[.string (str m0)] 9) = W := ⟨_, rfl⟩
  obtain ⟨C, hC⟩ : ∃ C, w.heap.size = C := ⟨_, rfl⟩
  rw [hW1, hC] at hBx hbn
  rw [hW1, hC]
  have HC := Lib.hid hC
  have HBX := Lib.hid hBx
  have HBN := Lib.hid hbn
  clear hst hBx hbn hW1 hc0 hf0
  go_loopw [14] (fun i wr => ∃ (K : Nat) (m : List UInt8), i = .int .i64 (K : Int) ∧ K ≤ N ∧ Hid (wide l = wideGo (l.drop K) m ∧ m ∈ l ∧ Box wr C m ∧ Below C w wr)) (fun i _ => N - (intOf i).toNat)
  case atStart => exact ⟨0, m0, rfl, Nat.zero_le _, Lib.hid ⟨HW.out, HM0.out, HBX.out, HBN.out⟩⟩
  case round =>
    obtain ⟨K, m, rfl, hK, HJ⟩ := hrel
    have HBW := Lib.hid (show Below w.heap.size w wr by rw [HC.out]; exact HJ.out.2.2.2)
    by_cases hlt : K < N
    · have hltI : (K : Int) < (N : Int) := by omega
      have hk0 : 0 ≤ (K : Int) := by omega
      have hw1 : IntKind.i64.wrap ((K : Int) + 1) = (K : Int) + 1 := IntWalk.i64_in _ (by omega)
      obtain ⟨p, hp⟩ : ∃ p, l[K]? = some p := ⟨_, List.getElem?_eq_getElem (by rw [HN.out]; exact hlt)⟩
      obtain ⟨hcp, hfp⟩ := (HR.out.below HBW.out).cell hp
      obtain ⟨hcb, hfb⟩ := HJ.out.2.2.1.cell
      simp only [sv] at hcb
      have hd := HJ.out.1
      rw [wideGo_drop hp] at hd
      have HPM := Lib.hid (List.mem_of_getElem? hp)
      have HV := Lib.hid (covers_any p m (HX.out p HPM.out) (HX.out m HJ.out.2.1) wr)
      obtain ⟨c, hc⟩ : ∃ c, covT p m = c := ⟨_, rfl⟩
      rw [hc] at HV hd
      have HDR := Lib.hid hd
      clear hd hp hc
      cases c with
      | false =>
        go_wp2_with (go_at_call 32; refine HV.out.mono ?_; rintro _ w2 ⟨rfl, hb2⟩; have HB2 := Lib.hid hb2; clear hb2)
        go_roundw
        case rel => exact ⟨K + 1, m, by go_num, by omega, Lib.hid ⟨HDR.out, HJ.out.2.1, HJ.out.2.2.1.below HB2.out, HJ.out.2.2.2.trans (HB2.out.mono (Nat.le_of_lt HJ.out.2.2.1.lt))⟩⟩
        case measure => simp [intOf]; omega
      | true =>
        go_wp2_with (go_at_call 32; refine HV.out.mono ?_; rintro _ w2 ⟨rfl, hb2⟩; have HB2 := Lib.hid hb2; obtain ⟨hcb2, hfb2⟩ := (HJ.out.2.2.1.below hb2).cell; simp only [sv] at hcb2; clear hb2)
        go_roundw
        case rel => exact ⟨K + 1, p, by go_num, by omega, Lib.hid ⟨HDR.out, HPM.out, (HJ.out.2.2.1.below HB2.out).set p, (HJ.out.2.2.2.trans (HB2.out.mono (Nat.le_of_lt HJ.out.2.2.1.lt))).setCell (p := ⟨C, 0, none⟩) (Nat.le_refl _) _⟩⟩
        case measure => simp [intOf]; omega
    · have hltI : ¬ (K : Int) < (N : Int) := by omega
      have hd := HJ.out.1
      rw [List.drop_of_length_le (i := K) (by rw [HN.out]; omega)] at hd
      obtain rfl : m = wide l := hd.symm
      have hD2 := HD.out.below HBW.out
      have hB2 := cell_one hD2.cell
      rw [HN.out] at hB2
      have HDL := Lib.hid (deleteFunc_row (fun W => Box W C (wide l)) 68 #[.pointer (some ⟨C, 0, none⟩)] (fun p => covT (wide l) p) ent_del l g cap wr (HR.out.below HBW.out) hcm (by rw [HN.out]; exact hl)
        (fun W x hx hO => del_any C (wide l) x W hO (HX.out _ HJ.out.2.1) (HX.out x hx)) HJ.out.2.2.1 (fun W W' hO hb => hO.below hb)
        (fun W j x hO => by
          have := (Tg.set W g j x).box hO (by have := HR.out.lt; have := HC.out; omega)
          exact this))
      rw [show (l.filter fun x => !covT (wide l) x) = rest l from rfl] at HDL
      obtain ⟨M, hM⟩ : ∃ M, (rest l).length = M := ⟨_, rfl⟩
      rw [HN.out, hM] at HDL
      have HM := Lib.hid hM
      have HD2 := Lib.hid hD2
      have hCB : C ≠ B := by have := HC.out; omega
      have hgB' : B ≠ g := by omega
      have HCG := Lib.hid (show C ≠ g by have := HR.out.lt; have := HC.out; omega)
      have HHG := Lib.hid hgB'
      have HCM := Lib.hid hcm
      clear hd hD2 hM hcm
      go_wp2_with (go_at_call 67; with_reducible refine HDL.out.mono ?_; rintro _ w2 ⟨rfl, hr2, ht2⟩; have HR2 := Lib.hid hr2; have HT2 := Lib.hid ht2; have hcellB := (ht2.block B HD2.out.cell_lt HHG.out).trans HD2.out.cell; have hb3 := cell_one hcellB; have hf3 := frozen_one hcellB; have hbx3 := ht2.box HJ.out.2.2.1 HCG.out; have HBX3 := Lib.hid hbx3; have HCB3 := Lib.hid hcellB; obtain ⟨hcc, hcf⟩ := hbx3.cell; simp only [sv] at hcc; clear hr2 ht2 hbx3 hcellB)
      go_ret2
      refine ⟨rfl, .slice (some ⟨g, 0, none⟩) M cap, ⟨?_, ?_, fun g' hg' => by cases hg'; exact hgB⟩, rfl, ?_⟩
      · rw [heap_setCell_same _ B 0 _ _ _ HCB3.out]; rfl
      · have h := (HR2.out.tg (Tg.set w2 B 0 (.slice (some ⟨g, 0, none⟩) M cap)) (Ne.symm HHG.out)).owns hbg HCM.out
        rw [HM.out] at h ⊢
        exact h
      · refine ((Tn.of_below HBW.out).trans (Tn.of_tg HT2.out (Or.inr rfl))).trans (Tn.of_tg (Tg.set w2 B 0 _) (Or.inl rfl))
end Go.Proofs.Ytbpphghphfbogaa.P8
