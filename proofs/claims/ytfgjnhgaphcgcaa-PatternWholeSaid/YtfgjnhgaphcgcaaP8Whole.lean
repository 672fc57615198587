/-
  Layer 8, PatternWhole's own helpers: a letter that no text has, and a name that a pattern matches.
-/
import Derived.Test.YtfgjnhgaphcgcaaP8RefE
namespace Go.Proofs.Ytfgjnhgaphcgcaa.P8
open Go Go.RowKit Go.Shelf Go.Proofs Go.Proofs.Ytfgjnhgaphcgcaa.B Go.Proofs.Ytfgjnhgaphcgcaa.K
set_option linter.unusedVariables false

/-- 'string([]byte{c})'. -/
theorem run_one_byte (W : World) (q : Addr) (c : Nat) (hc : c < 256) (h : W.cell? q = some (.int .u8 (c : Int))) :
    (convert 35 9 (.slice (some q) 1 1)).run Try.prog W = .ok (.string (str [UInt8.ofNat c])) W := by
  have hl : ([UInt8.ofNat c] : List UInt8).length = 1 := rfl
  have := run_convert_bytes_back (P := Try.prog) W 35 9 5 q 1 [UInt8.ofNat c] Try.underlying35 Try.underlying5 Try.underlying9 (fun j hj => by
    obtain rfl : j = 0 := by simpa using hj
    simp only [List.getElem_cons_zero]
    rw [show (UInt8.ofNat c).toNat = c by rw [UInt8.toNat_ofNat']; omega]
    simpa [Addr.add] using h)
  exact this

/-- Does a text have the byte? -/
def has (l : List UInt8) (c : Nat) : Bool := l.any fun b => decide (b.toNat = c)

theorem has_step {l : List UInt8} {K : Nat} {b : UInt8} (h : l[K]? = some b) (c : Nat) : has (l.take (K + 1)) c = (has (l.take K) c || decide (b.toNat = c)) := by
  unfold has
  rw [List.take_add_one, h, List.any_append]
  simp

theorem has_not {l : List UInt8} {c : Nat} (hc : c < 256) (h : has l c = false) : UInt8.ofNat c ∉ l := by
  intro hm
  unfold has at h
  rw [List.any_eq_false] at h
  have := h _ hm
  rw [UInt8.toNat_ofNat'] at this
  simp at this
  omega

theorem beq_dec (a c : Nat) : ((a : Int) == (c : Int)) = decide (a = c) := by
  rw [Bool.eq_iff_iff, beq_iff_eq, decide_eq_true_eq]; omega

/-- What 'other' answers: nothing, or a letter that neither text has. -/
def Oth (p q r : List UInt8) : Prop := r = [] ∨ ∃ c : UInt8, r = [c] ∧ 97 ≤ c.toNat ∧ c.toNat ≤ 122 ∧ c ∉ p ∧ c ∉ q

set_option maxHeartbeats 4000000 in
set_option maxRecDepth 100000 in
theorem other_any (p q : List UInt8) (hp : p.length ≤ 1000) (hq : q.length ≤ 1000) (w : World) :
    Calls Try.prog 19 #[.string (str p), .string (str q)] w fun e w' => (∃ r, e = .returned (.string (str r)) ∧ Oth p q r) ∧ Below w.heap.size w w' := by
  have hsp : (str p).size = p.length := str_size p
  have hsq : (str q).size = q.length := str_size q
  go_enter Try.func19, Try.ntmps19
  go_wp2_with fail
  go_loopg [5, 6, 7, 8] 27 (fun g c _ _ _ wr => ∃ C : Nat, c = .int .u8 (C : Int) ∧ 97 ≤ C ∧ C + g = 124 ∧ wr = w)
  case atStart => exact ⟨97, rfl, by omega, by omega, rfl⟩
  case round =>
    obtain ⟨C, rfl, hC1, hC2, rfl⟩ := hrel
    by_cases hlt : C ≤ 122
    · have hltI : (C : Int) ≤ 122 := by omega
      have hw8 : IntKind.u8.wrap ((C : Int) + 1) = (C : Int) + 1 := IntWalk.u8_in _ (by omega)
      go_wp2_with fail
      go_loopg [6, 7] (p.length + 1) (fun g2 f k wx => ∃ K : Nat, k = .int .i64 (K : Int) ∧ K + g2 = p.length + 1 ∧ f = .bool (has (p.take K) C) ∧ wx = wr)
      case atStart => exact ⟨0, rfl, by omega, rfl, rfl⟩
      case round =>
        obtain ⟨K, rfl, hK, rfl, rfl⟩ := hrel
        by_cases hlp : K < p.length
        · have hlpI : (K : Int) < (p.length : Int) := by omega
          have hlpS : (K : Int) < ((str p).size : Int) := by omega
          have hkp : K < (str p).size := by omega
          have hw1 : IntKind.i64.wrap ((K : Int) + 1) = (K : Int) + 1 := IntWalk.i64_in _ (by omega)
          obtain ⟨b, hb⟩ : ∃ b, p[K]? = some b := ⟨_, List.getElem?_eq_getElem hlp⟩
          have hg : ((str p)[K]'hkp) = b := str_get8 hb hkp
          have hst := has_step hb C
          have hbd := beq_dec b.toNat C
          obtain ⟨f, hf⟩ : ∃ f, has (p.take K) C = f := ⟨_, rfl⟩
          obtain ⟨d, hd⟩ : ∃ d, decide (b.toNat = C) = d := ⟨_, rfl⟩
          rw [hf, hd] at hst
          rw [hd] at hbd
          rw [hf]
          clear hf hd hb
          cases f with
          | true =>
            go_wp2_with fail
            go_roundg (p.length - K)
            case measure => omega
            case rel => exact ⟨K + 1, by go_num, by omega, by rw [hst]; rfl, by first | trivial | rfl⟩
          | false =>
            cases d with
            | true =>
              go_wp2_with fail
              go_roundg (p.length - K)
              case measure => omega
              case rel => exact ⟨K + 1, by go_num, by omega, by rw [hst]; rfl, by first | trivial | rfl⟩
            | false =>
              go_wp2_with fail
              go_roundg (p.length - K)
              case measure => omega
              case rel => exact ⟨K + 1, by go_num, by omega, by rw [hst]; rfl, by first | trivial | rfl⟩
        · have hlpI : ¬ (K : Int) < (p.length : Int) := by omega
          have hpt : p.take K = p := List.take_of_length_le (by omega)
          rw [hpt]
          clear hpt
          go_wp2_with fail
          go_loopg [6, 8] (q.length + 1) (fun g2 f k wx => ∃ K : Nat, k = .int .i64 (K : Int) ∧ K + g2 = q.length + 1 ∧ f = .bool (has p C || has (q.take K) C) ∧ wx = wr)
          case atStart => exact ⟨0, rfl, by omega, by rw [List.take_zero]; simp [has], rfl⟩
          case round =>
            obtain ⟨J, rfl, hJ, rfl, rfl⟩ := hrel
            by_cases hlq : J < q.length
            · have hlqI : (J : Int) < (q.length : Int) := by omega
              have hlqS : (J : Int) < ((str q).size : Int) := by omega
              have hkq : J < (str q).size := by omega
              have hw1 : IntKind.i64.wrap ((J : Int) + 1) = (J : Int) + 1 := IntWalk.i64_in _ (by omega)
              obtain ⟨b, hb⟩ : ∃ b, q[J]? = some b := ⟨_, List.getElem?_eq_getElem hlq⟩
              have hg : ((str q)[J]'hkq) = b := str_get8 hb hkq
              have hst : (has p C || has (q.take (J + 1)) C) = ((has p C || has (q.take J) C) || decide (b.toNat = C)) := by rw [has_step hb C, Bool.or_assoc]
              have hbd := beq_dec b.toNat C
              obtain ⟨f, hf⟩ : ∃ f, (has p C || has (q.take J) C) = f := ⟨_, rfl⟩
              obtain ⟨d, hd⟩ : ∃ d, decide (b.toNat = C) = d := ⟨_, rfl⟩
              rw [hf, hd] at hst
              rw [hd] at hbd
              rw [hf]
              clear hf hd hb
              cases f with
              | true =>
                go_wp2_with fail
                go_roundg (q.length - J)
                case measure => omega
                case rel => exact ⟨J + 1, by go_num, by omega, by rw [hst]; rfl, by first | trivial | rfl⟩
              | false =>
                cases d with
                | true =>
                  go_wp2_with fail
                  go_roundg (q.length - J)
                  case measure => omega
                  case rel => exact ⟨J + 1, by go_num, by omega, by rw [hst]; rfl, by first | trivial | rfl⟩
                | false =>
                  go_wp2_with fail
                  go_roundg (q.length - J)
                  case measure => omega
                  case rel => exact ⟨J + 1, by go_num, by omega, by rw [hst]; rfl, by first | trivial | rfl⟩
            · have hlqI : ¬ (J : Int) < (q.length : Int) := by omega
              have hqt : q.take J = q := List.take_of_length_le (by omega)
              rw [hqt]
              clear hqt
              obtain ⟨f, hf⟩ : ∃ f, (has p C || has q C) = f := ⟨_, rfl⟩
              rw [hf]
              have HF := Lib.hid hf
              clear hf
              cases f with
              | true =>
                go_wp2_with fail
                go_roundg (123 - C)
                case measure => omega
                case rel => exact ⟨C + 1, by go_num, by omega, by omega, by first | trivial | rfl⟩
              | false =>
                have hcv := fun W : World => run_one_byte (W.alloc (.cells #[.int .u8 (C : Int)] 5)) ⟨W.heap.size, 0, none⟩ C (by omega) (by rw [World.cell?_alloc_at _ _ _ _ rfl]; rfl)
                go_wp2_with fail
                go_ret
                have hff := HF.out
                rw [Bool.or_eq_false_iff] at hff
                refine ⟨⟨[UInt8.ofNat C], rfl, Or.inr ⟨UInt8.ofNat C, rfl, ?_, ?_, has_not (by omega) hff.1, has_not (by omega) hff.2⟩⟩, (Below.refl _ _).alloc (Nat.le_refl _) _⟩
                · rw [UInt8.toNat_ofNat']; omega
                · rw [UInt8.toNat_ofNat']; omega
    · have hltI : ¬ (C : Int) ≤ 122 := by omega
      go_wp2_with fail
      go_ret
      exact ⟨⟨[], rfl, Or.inl rfl⟩, Below.refl _ _⟩
end Go.Proofs.Ytfgjnhgaphcgcaa.P8
