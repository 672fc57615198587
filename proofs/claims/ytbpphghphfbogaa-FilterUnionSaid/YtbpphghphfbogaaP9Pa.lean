/-
  Layer 9, the program: Check, firstError.
-/
import Derived.Test.YtbpphghphfbogaaP9Con
namespace Go.Proofs.Ytbpphghphfbogaa.P8
open Go Go.RowKit Go.Shelf Go.Proofs Go.Proofs.Ytbpphghphfbogaa.B Go.Proofs.Ytbpphghphfbogaa.K
set_option linter.unusedVariables false
set_option maxRecDepth 100000

set_option maxHeartbeats 1000000 in
theorem check9_any (l : List (List UInt8)) (v : Value) (w : World) (h : Ts w v l) (hl : ∀ x ∈ l, x.length ≤ 9223372036854775807) :
    Calls Try.prog 8 #[v] w fun e w' => e = .returned (.tuple #[.int .i64 (check9 l).1, .int .i64 (check9 l).2]) ∧ Below w.heap.size w w' := by
  obtain ⟨a, cap, rfl, hc⟩ := h.open
  obtain ⟨N, hN⟩ : ∃ N, l.length = N := ⟨_, rfl⟩
  have HC := Lib.hid hc
  have HN := Lib.hid hN
  have HL := Lib.hid hl
  have hck : check9 l = if 8 < N then ((0 : Int), (4 : Int)) else match firstBad9 (l.drop 0) 0 with | some k => ((k : Int), (6 : Int)) | none => ((0 : Int), (0 : Int)) := by unfold check9; rw [hN]; rfl
  rw [hN]
  clear hc hl h hN
  by_cases h8 : 8 < N
  · have h8I : (8 : Int) < (N : Int) := by omega
    rw [if_pos h8] at hck
    have HK := Lib.hid hck
    clear hck h8
    go_enter Try.func8, Try.ntmps8
    go_wp2_with fail
    go_ret2
    exact ⟨ret_ii (by rw [HK.out]) (by rw [HK.out]), Below.refl _ _⟩
  · have h8I : ¬ (8 : Int) < (N : Int) := by omega
    rw [if_neg h8] at hck
    have HK := Lib.hid hck
    have H8 := Lib.hid h8
    clear hck h8
    go_enter Try.func8, Try.ntmps8
    go_wp2_with fail
    go_loopw [11] (fun i wr => ∃ K : Nat, i = .int .i64 (K : Int) ∧ K ≤ N ∧ Hid (firstBad9 (l.drop 0) 0 = firstBad9 (l.drop K) K ∧ Below w.heap.size w wr)) (fun i _ => N - (intOf i).toNat)
    case atStart => exact ⟨0, rfl, Nat.zero_le _, Lib.hid ⟨rfl, Below.refl _ _⟩⟩
    case round =>
      obtain ⟨K, rfl, hK, HJ⟩ := hrel
      by_cases hlt : K < N
      · have hltI : (K : Int) < (N : Int) := by omega
        have hk0 : 0 ≤ (K : Int) := by omega
        have hw1 : IntKind.i64.wrap ((K : Int) + 1) = (K : Int) + 1 := IntWalk.i64_in _ (by have := H8.out; omega)
        obtain ⟨x, hx⟩ : ∃ x, l[K]? = some x := ⟨_, List.getElem?_eq_getElem (by rw [HN.out]; exact hlt)⟩
        obtain ⟨b, off, rfl, hcell⟩ := HC.out K x hx
        have hc1 := cell_b HJ.out.2 hcell
        have hd := HJ.out.1.trans (firstBad_drop hx)
        have HP := Lib.hid (fun W => pattern_any x (HL.out x (List.mem_of_getElem? hx)) W)
        obtain ⟨p, hp⟩ : ∃ p, patP x = p := ⟨_, rfl⟩
        rw [hp] at HP hd
        have HD := Lib.hid hd
        clear hd hp hcell hx
        cases p with
        | true =>
          go_wp2_with (go_at_call 23; refine (HP.out _).mono ?_; rintro _ w1 ⟨rfl, hb1⟩; have HB1 := Lib.hid hb1; clear hb1)
          go_roundw
          case rel => exact ⟨K + 1, by go_num, by omega, Lib.hid ⟨HD.out, HJ.out.2.trans (HB1.out.mono HJ.out.2.size)⟩⟩
          case measure => simp [intOf]; omega
        | false =>
          go_wp2_with (go_at_call 23; refine (HP.out _).mono ?_; rintro _ w1 ⟨rfl, hb1⟩; have HB1 := Lib.hid hb1; clear hb1)
          go_ret2
          have hd := HD.out
          simp only [Bool.false_eq_true, if_false] at hd
          exact ⟨ret_ii (by rw [HK.out, hd]) (by rw [HK.out, hd]), HJ.out.2.trans (HB1.out.mono HJ.out.2.size)⟩
      · have hltI : ¬ (K : Int) < (N : Int) := by omega
        have hd := HJ.out.1
        rw [List.drop_of_length_le (i := K) (by rw [HN.out]; omega)] at hd
        have HD := Lib.hid hd
        clear hd
        go_wp2_with fail
        go_ret2
        exact ⟨ret_ii (by rw [HK.out, HD.out]; rfl) (by rw [HK.out, HD.out]; rfl), HJ.out.2⟩

/-- The error of the first filter that may not be. -/
def errF (ls : List (List (List UInt8))) : Int := match ls.find? fun l => !right9 l with
  | some l => (check9 l).2
  | none => 0
theorem errF_drop {ls : List (List (List UInt8))} {K : Nat} {l : List (List UInt8)} (h : ls[K]? = some l) : errF (ls.drop K) = if (check9 l).2 = 0 then errF (ls.drop (K + 1)) else (check9 l).2 := by
  obtain ⟨hlt, rfl⟩ := List.getElem?_eq_some_iff.1 h
  rw [List.drop_eq_getElem_cons hlt]
  unfold errF
  by_cases hr : right9 ls[K] = true
  · rw [if_pos ((check9_right _).2 hr), List.find?_cons_of_neg (by rw [hr]; simp)]
  · rw [if_neg (fun e => hr ((check9_right _).1 e)), List.find?_cons_of_pos (by simp [hr])]
theorem errF_zero {ls : List (List (List UInt8))} : errF ls = 0 ↔ ∀ l ∈ ls, right9 l = true := by
  unfold errF
  cases h : ls.find? fun l => !right9 l with
  | none =>
    simp only [true_iff]
    intro l hl
    have := List.find?_eq_none.1 h l hl
    simpa using this
  | some l =>
    have h1 := List.find?_some h
    have h2 := List.mem_of_find?_eq_some h
    simp only [Bool.not_eq_true'] at h1
    constructor
    · intro e
      have := (check9_right l).1 e
      rw [h1] at this; cases this
    · intro e
      rw [e l h2] at h1; cases h1

theorem Tss.below {w w' : World} {v : Value} {ls : List (List (List UInt8))} (h : Tss w v ls) (hb : Below w.heap.size w w') : Tss w' v ls := by
  obtain ⟨vs, h1, h2, h3⟩ := h
  exact ⟨vs, h1.below hb, h2, fun j u l hu hl => (h3 j u l hu hl).below hb⟩
/-- A list of lists, opened. -/
theorem Tss.open {w : World} {v : Value} {ls : List (List (List UInt8))} (h : Tss w v ls) : ∃ a cap, v = .slice a ls.length cap ∧ ∀ (j : Nat) l, ls[j]? = some l → ∃ b off u, a = some ⟨b, off, none⟩ ∧ w.cell? ⟨b, off + j, none⟩ = some u ∧ Ts w u l := by
  obtain ⟨vs, ⟨a, cap, rfl, hc⟩, hl, h3⟩ := h
  refine ⟨a, cap, by rw [hl], fun j l hj => ?_⟩
  obtain ⟨u, hu⟩ : ∃ u, vs[j]? = some u := ⟨_, List.getElem?_eq_getElem (by rw [hl]; exact (List.getElem?_eq_some_iff.1 hj).1)⟩
  obtain ⟨b, off, ha, hcell⟩ := hc j u hu
  exact ⟨b, off, u, ha, hcell, h3 j u l hu hj⟩

set_option maxHeartbeats 1000000 in
theorem firstError_any (ls : List (List (List UInt8))) (v : Value) (w : World) (h : Tss w v ls) (hn : ls.length ≤ 1000) (hl : ∀ l ∈ ls, ∀ x ∈ l, x.length ≤ 9223372036854775807) :
    Calls Try.prog 25 #[v] w fun e w' => e = .returned (.int .i64 (errF ls)) ∧ Below w.heap.size w w' := by
  obtain ⟨a, cap, rfl, hc⟩ := h.open
  obtain ⟨N, hN⟩ : ∃ N, ls.length = N := ⟨_, rfl⟩
  have HC := Lib.hid hc
  have HN := Lib.hid hN
  have HL := Lib.hid hl
  rw [hN] at hn ⊢
  clear hc hl h hN
  go_enter Try.func25, Try.ntmps25
  go_wp2_with fail
  go_loopw [9] (fun i wr => ∃ K : Nat, i = .int .i64 (K : Int) ∧ K ≤ N ∧ Hid (errF ls = errF (ls.drop K) ∧ Below w.heap.size w wr)) (fun i _ => N - (intOf i).toNat)
  case atStart => exact ⟨0, rfl, Nat.zero_le _, Lib.hid ⟨rfl, Below.refl _ _⟩⟩
  case round =>
    obtain ⟨K, rfl, hK, HJ⟩ := hrel
    by_cases hlt : K < N
    · have hltI : (K : Int) < (N : Int) := by omega
      have hk0 : 0 ≤ (K : Int) := by omega
      have hw1 : IntKind.i64.wrap ((K : Int) + 1) = (K : Int) + 1 := IntWalk.i64_in _ (by omega)
      obtain ⟨l, hx⟩ : ∃ x, ls[K]? = some x := ⟨_, List.getElem?_eq_getElem (by rw [HN.out]; exact hlt)⟩
      obtain ⟨b, off, u, rfl, hcell, hu⟩ := HC.out K l hx
      have hc1 := cell_b HJ.out.2 hcell
      have hd := HJ.out.1.trans (errF_drop hx)
      have HP := Lib.hid (fun (W : World) (hW : Below w.heap.size w W) => check9_any l u W (hu.below hW) (HL.out l (List.mem_of_getElem? hx)))
      obtain ⟨⟨at9, e9⟩, hp⟩ : ∃ p, check9 l = p := ⟨_, rfl⟩
      rw [hp] at HP hd
      have HD := Lib.hid hd
      clear hd hp hcell hx hu
      by_cases he : e9 = 0
      · subst he
        go_wp2_with (go_at_call 8; refine (HP.out _ HJ.out.2).mono ?_; rintro _ w1 ⟨rfl, hb1⟩; have HB1 := Lib.hid hb1; clear hb1)
        go_roundw
        case rel => exact ⟨K + 1, by go_num, by omega, Lib.hid ⟨by simpa using HD.out, HJ.out.2.trans (HB1.out.mono HJ.out.2.size)⟩⟩
        case measure => simp [intOf]; omega
      · have he1 : (e9 == 0) = false := beq_eq_false_iff_ne.2 he
        have he2 : (e9 != 0) = true := by simp [bne, he1]
        go_wp2_with (go_at_call 8; refine (HP.out _ HJ.out.2).mono ?_; rintro _ w1 ⟨rfl, hb1⟩; have HB1 := Lib.hid hb1; clear hb1)
        go_ret
        exact ⟨ret_int (by have := HD.out; rw [if_neg he] at this; exact this.symm), HJ.out.2.trans (HB1.out.mono HJ.out.2.size)⟩
    · have hltI : ¬ (K : Int) < (N : Int) := by omega
      have hd := HJ.out.1
      rw [List.drop_of_length_le (i := K) (by rw [HN.out]; omega)] at hd
      have HD := Lib.hid hd
      clear hd
      go_wp2_with fail
      go_ret
      exact ⟨ret_int (by rw [HD.out]; rfl), HJ.out.2⟩
end Go.Proofs.Ytbpphghphfbogaa.P8
