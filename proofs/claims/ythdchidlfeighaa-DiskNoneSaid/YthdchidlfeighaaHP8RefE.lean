/-
  Layer 8, the document's answer: what covers and what meets what.
  Layer 8, the document's answer: Stream, Pattern, Match, Covers, Meets, Less.
  Layer 8, the document's answer: Match, Covers, Meets, Less; and the law's awake.
-/
import Derived.Test.YthdchidlfeighaaHP8RefB
namespace Go.Proofs.Ythdchidlfeighaa.P8
open Go Go.RowKit Go.Shelf Go.Proofs Go.Proofs.Ythdchidlfeighaa.B Go.Proofs.Ythdchidlfeighaa.K
set_option linter.unusedVariables false

theorem len_one (P : List (List UInt8)) (n : Nat) (h : P.length = n) : (((n : Int) + 1) == 1) = P.isEmpty ∧ (((n : Int) + 1) == 0) = false := by
  refine ⟨?_, by rw [beq_eq_false_iff_ne]; omega⟩
  cases P with
  | nil => simp at h; subst h; rfl
  | cons a b => simp at h; rw [List.isEmpty_cons, beq_eq_false_iff_ne]; omega

theorem many_alone (q : List UInt8) (Q : List (List UInt8)) : ((q :: Q) == [many]) = (Q.isEmpty && q == many) := by
  rw [Bool.eq_iff_iff]
  cases Q <;> simp

end Go.Proofs.Ythdchidlfeighaa.P8

namespace Go.Proofs.Ythdchidlfeighaa.P8
open Go Go.RowKit Go.Shelf Go.Proofs Go.Proofs.Ythdchidlfeighaa.B Go.Proofs.Ythdchidlfeighaa.K
set_option linter.unusedVariables false

theorem allL_step (r : List UInt8 → Bool → Bool) {P : List (List UInt8)} {K : Nat} {x : List UInt8} (h : P[K]? = some x) : allL r (P.drop K) = (r x (decide (P.length ≤ K + 1)) && allL r (P.drop (K + 1))) := by
  obtain ⟨hk, rfl⟩ := List.getElem?_eq_some_iff.1 h
  rw [List.drop_eq_getElem_cons hk]
  have : (P.drop (K + 1)).isEmpty = decide (P.length ≤ K + 1) := by
    rw [Bool.eq_iff_iff, List.isEmpty_iff, List.drop_eq_nil_iff, decide_eq_true_eq]
  show (r P[K] (P.drop (K + 1)).isEmpty && allL r (P.drop (K + 1))) = _
  rw [this]

theorem part_len {l : List UInt8} {x : List UInt8} (h : x ∈ parts l) : x.length ≤ l.length := by
  induction l generalizing x with
  | nil => simp [parts] at h; subst h; simp
  | cons b l ih =>
    unfold parts at h
    split at h
    · rcases List.mem_cons.1 h with rfl | h
      · simp
      · have := ih h; simp; omega
    · cases hp : parts l with
      | nil => exact absurd hp (parts_ne l)
      | cons y ys =>
        rw [hp] at h ih
        simp only [onFirst] at h
        rcases List.mem_cons.1 h with rfl | h
        · have := ih (x := y) (by simp); simp; omega
        · have := ih (x := x) (List.mem_cons_of_mem _ h); simp; omega

theorem parts_len (l : List UInt8) : (parts l).length ≤ l.length + 1 := by
  induction l with
  | nil => simp [parts]
  | cons b l ih =>
    unfold parts
    split
    · simp; omega
    · cases hp : parts l with
      | nil => simp [onFirst]
      | cons y ys => rw [hp] at ih; simp [onFirst] at ih ⊢; omega

theorem four (n : Nat) : decide ((n : Int) ≤ 4) = decide (n ≤ 4) := by
  rw [Bool.eq_iff_iff, decide_eq_true_eq, decide_eq_true_eq]; omega

end Go.Proofs.Ythdchidlfeighaa.P8

namespace Go.Proofs.Ythdchidlfeighaa.P8
open Go Go.RowKit Go.Shelf Go.Proofs Go.Proofs.Ythdchidlfeighaa.B Go.Proofs.Ythdchidlfeighaa.K
set_option linter.unusedVariables false

theorem quiet_below {w w' : World} (h : ∃ m, w' = w.drewN m) : Below w.heap.size w w' := by
  obtain ⟨m, rfl⟩ := h
  exact below_drewN w m

theorem parts_four {l : List UInt8} (h : patP l = true) : (parts l).length ≤ 1000 := by have := (pat_all h).2.2; omega

theorem less_step {a b : List UInt8} {K : Nat} {x y : UInt8} (hx : a[K]? = some x) (hy : b[K]? = some y) : lessL (a.drop K) (b.drop K) = if x = y then lessL (a.drop (K + 1)) (b.drop (K + 1)) else decide (x.toNat < y.toNat) := by
  obtain ⟨h1, rfl⟩ := List.getElem?_eq_some_iff.1 hx
  obtain ⟨h2, rfl⟩ := List.getElem?_eq_some_iff.1 hy
  rw [List.drop_eq_getElem_cons h1, List.drop_eq_getElem_cons h2]
  rfl

theorem less_end {a b : List UInt8} {K : Nat} (ha : K ≤ a.length) (hb : K ≤ b.length) (h : ¬ (K < a.length ∧ K < b.length)) : lessL (a.drop K) (b.drop K) = decide (a.length < b.length) := by
  rcases Nat.lt_or_ge K b.length with hb' | hb'
  · have : a.length = K := by omega
    rw [List.drop_of_length_le (by omega), List.drop_eq_getElem_cons hb']
    rw [decide_eq_true (by omega)]; rfl
  · rw [List.drop_of_length_le hb', decide_eq_false (by omega)]
    cases a.drop K <;> rfl

set_option maxHeartbeats 2000000 in
set_option maxRecDepth 100000 in
theorem less_any (a b : List UInt8) (ha : a.length ≤ 9223372036854775806) (hb : b.length ≤ 9223372036854775806) (w : World) :
    Calls Try.prog 72 #[.string (str a), .string (str b)] w fun e w' => e = .returned (.bool (lessL a b)) ∧ Below w.heap.size w w' := by
  have hsa : (str a).size = a.length := str_size a
  have hsb : (str b).size = b.length := str_size b
  go_enter Try.func72, Try.ntmps72
  go_wp2_with fail
  go_loopw [5] (fun k wr => ∃ K : Nat, k = .int .i64 (K : Int) ∧ K ≤ a.length ∧ K ≤ b.length ∧ Hid (lessL a b = lessL (a.drop K) (b.drop K)) ∧ Below w.heap.size w wr) (fun k _ => a.length - (intOf k).toNat)
  case atStart => exact ⟨0, rfl, Nat.zero_le _, Nat.zero_le _, rfl, Below.refl _ _⟩
  case round =>
    obtain ⟨K, rfl, hKa, hKb, HL, HB⟩ := hrel
    have hw1 : IntKind.i64.wrap ((K : Int) + 1) = (K : Int) + 1 := IntWalk.i64_in _ (by omega)
    by_cases hlt : K < a.length ∧ K < b.length
    · obtain ⟨hla, hlb⟩ := hlt
      have hltA : (K : Int) < (a.length : Int) := by omega
      have hltB : (K : Int) < (b.length : Int) := by omega
      have hlsA : (K : Int) < ((str a).size : Int) := by omega
      have hlsB : (K : Int) < ((str b).size : Int) := by omega
      have hk0 : (0 : Int) ≤ (K : Int) := by omega
      have hkA : K < (str a).size := by omega
      have hkB : K < (str b).size := by omega
      obtain ⟨x, hx⟩ : ∃ x, a[K]? = some x := ⟨_, List.getElem?_eq_getElem hla⟩
      obtain ⟨y, hy⟩ : ∃ x, b[K]? = some x := ⟨_, List.getElem?_eq_getElem hlb⟩
      have hgx : ((str a)[K]'hkA) = x := str_get8 hx hkA
      have hgy : ((str b)[K]'hkB) = y := str_get8 hy hkB
      have hst := less_step hx hy
      by_cases hxy : x = y
      · subst hxy
        rw [if_pos rfl] at hst
        have HS := Lib.hid hst
        clear hst hx hy
        go_wp2_with fail
        go_quiet (fail)
        go_wp2_with fail
        go_roundw
        case rel => exact ⟨K + 1, by go_num, by omega, by omega, by show _ = _; rw [HL.out, HS.out], HB.trans ((below_drewN _ _).mono HB.size)⟩
        case measure => simp [intOf]; omega
      · rw [if_neg hxy] at hst
        have HS := Lib.hid hst
        have hne : (((x.toNat : Int)) == (y.toNat : Int)) = false := by
          rw [beq_eq_false_iff_ne]; intro h; exact hxy (UInt8.toNat_inj.1 (by omega))
        have hne2 : ((x.toNat : Int) != (y.toNat : Int)) = true := by
          rw [bne_iff_ne]; intro h; exact hxy (UInt8.toNat_inj.1 (by omega))
        clear hst hx hy hxy
        go_wp2_with fail
        go_quiet (fail)
        go_wp2_with fail
        go_quiet (fail)
        go_wp2_with fail
        go_ret
        rw [HL.out, HS.out]
        refine ⟨rfl, ?_⟩
        first | exact HB.trans ((below_drewN _ _).mono HB.size) | (rw [World.drewN_drewN]; exact HB.trans ((below_drewN _ _).mono HB.size))
    · have he := less_end hKa hKb hlt
      have HS := Lib.hid he
      clear he
      by_cases hla : K < a.length
      · have hltA : (K : Int) < (a.length : Int) := by omega
        have hltB : ¬ (K : Int) < (b.length : Int) := by omega
        go_wp2_with fail
        go_ret
        rw [HL.out, HS.out]
        exact ⟨by simp, HB⟩
      · have hltA : ¬ (K : Int) < (a.length : Int) := by omega
        go_wp2_with fail
        go_ret
        rw [HL.out, HS.out]
        exact ⟨by simp, HB⟩

end Go.Proofs.Ythdchidlfeighaa.P8
