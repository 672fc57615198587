/-
  Layer 9, the document's answers: which filters may be, the normal form, what a filter has, covers and meets.
-/
import Derived.Test.YtbpphghphfbogaaP8RefE
import Derived.Test.YtbpphghphfbogaaP9Math
import Derived.Deep.RegionLaw
import Derived.Deep.AppendLies
namespace Go.Proofs.Ytbpphghphfbogaa.P8
open Go Go.RowKit Go.Shelf Go.Proofs Go.Proofs.Ytbpphghphfbogaa.B Go.Proofs.Ytbpphghphfbogaa.K
set_option linter.unusedVariables false
set_option maxRecDepth 100000

/-- A list of texts in memory. -/
def Ts (w : World) (v : Value) (l : List (List UInt8)) : Prop := Sl w v (l.map sv)
theorem Ts.below {w w' : World} {v : Value} {l : List (List UInt8)} (h : Ts w v l) (hb : Below w.heap.size w w') : Ts w' v l := Sl.below h hb
theorem Ts.open {w : World} {v : Value} {l : List (List UInt8)} (h : Ts w v l) : ∃ a cap, v = .slice a l.length cap ∧ ∀ (j : Nat) x, l[j]? = some x → ∃ b off, a = some ⟨b, off, none⟩ ∧ w.cell? ⟨b, off + j, none⟩ = some (.string (str x)) := by
  obtain ⟨a, cap, e, hc⟩ := h
  rw [List.length_map] at e
  exact ⟨a, cap, e, fun j x hx => hc j (sv x) (by rw [List.getElem?_map, hx]; rfl)⟩
theorem cell_b {w w' : World} {b o : Nat} {u : Value} (hb : Below w.heap.size w w') (h : w.cell? ⟨b, o, none⟩ = some u) : w'.cell? ⟨b, o, none⟩ = some u :=
  (hb.cell (p := ⟨b, o, none⟩) (World.block_lt_of_cell? w _ h)).trans h

/-- Is a text in a list? -/
def inL (l : List (List UInt8)) (s : List UInt8) : Bool := l.contains s
/-- The first that is no pattern. -/
def firstBad9 : List (List UInt8) → Nat → Option Nat
  | [], _ => none
  | x :: l, k => if patP x then firstBad9 l (k + 1) else some k
def check9 (l : List (List UInt8)) : Int × Int := if 8 < l.length then (0, 4) else match firstBad9 l 0 with
  | some k => ((k : Int), 6)
  | none => (0, 0)
theorem firstBad_drop {l : List (List UInt8)} {k : Nat} {x : List UInt8} (h : l[k]? = some x) : firstBad9 (l.drop k) k = if patP x then firstBad9 (l.drop (k + 1)) (k + 1) else some k := by
  obtain ⟨hlt, rfl⟩ := List.getElem?_eq_some_iff.1 h
  rw [List.drop_eq_getElem_cons hlt]; rfl
theorem firstBad_none : ∀ (l : List (List UInt8)) (k : Nat), firstBad9 l k = none ↔ l.all patP = true
  | [], k => by simp [firstBad9]
  | x :: l, k => by
    unfold firstBad9
    cases hx : patP x with
    | true => simp [hx, firstBad_none l (k + 1)]
    | false => simp [hx]
theorem check9_right (l : List (List UInt8)) : ((check9 l).2 = 0) ↔ right9 l = true := by
  unfold check9 right9
  by_cases h : 8 < l.length
  · rw [if_pos h]
    simp; omega
  · rw [if_neg h]
    cases hf : firstBad9 l 0 with
    | none => simp [(firstBad_none l 0).1 hf]; omega
    | some k =>
      have : ¬ l.all patP = true := fun e => by rw [(firstBad_none l 0).2 e] at hf; cases hf
      simp only [Bool.not_eq_true] at this
      simp [this]

theorem ret_ii {a a' b b' : Int} (h : a = a') (h' : b = b') : Ending.returned (.tuple #[.int .i64 a, .int .i64 b]) = .returned (.tuple #[.int .i64 a', .int .i64 b']) := by rw [h, h']

set_option maxHeartbeats 1000000 in
theorem refCheck9_any (l : List (List UInt8)) (v : Value) (w : World) (h : Ts w v l) (hl : ∀ x ∈ l, x.length ≤ 9223372036854775807) :
    Calls Try.prog 9 #[v] w fun e w' => e = .returned (.tuple #[.int .i64 (check9 l).1, .int .i64 (check9 l).2]) ∧ Below w.heap.size w w' := by
  obtain ⟨a, cap, rfl, hc⟩ := h.open
  obtain ⟨N, hN⟩ : ∃ N, l.length = N := ⟨_, rfl⟩
  have HC := Lib.hid hc
  have HN := Lib.hid hN
  have HL := Lib.hid hl
  have hck : check9 l = if 8 < N then ((0 : Int), (4 : Int)) else match firstBad9 (l.drop 0) 0 with | some k => ((k : Int), (6 : Int)) | none => ((0 : Int), (0 : Int)) := by unfold check9; rw [hN]; rfl
  rw [hN]
  clear hc hl h hN
  by_cases h8 : 8 < N
  · have h8I : (8 : Int) < (N : Int) := by omega
    rw [if_pos h8] at hck
    have HK := Lib.hid hck
    clear hck h8
    go_enter Try.func9, Try.ntmps9
    go_wp2_with fail
    go_ret2
    exact ⟨ret_ii (by rw [HK.out]) (by rw [HK.out]), Below.refl _ _⟩
  · have h8I : ¬ (8 : Int) < (N : Int) := by omega
    rw [if_neg h8] at hck
    have HK := Lib.hid hck
    have H8 := Lib.hid h8
    clear hck h8
    go_enter Try.func9, Try.ntmps9
    go_wp2_with fail
    go_loopw [4] (fun i wr => ∃ K : Nat, i = .int .i64 (K : Int) ∧ K ≤ N ∧ Hid (firstBad9 (l.drop 0) 0 = firstBad9 (l.drop K) K ∧ Below w.heap.size w wr)) (fun i _ => N - (intOf i).toNat)
    case atStart => exact ⟨0, rfl, Nat.zero_le _, Lib.hid ⟨rfl, Below.refl _ _⟩⟩
    case round =>
      obtain ⟨K, rfl, hK, HJ⟩ := hrel
      by_cases hlt : K < N
      · have hltI : (K : Int) < (N : Int) := by omega
        have hk0 : 0 ≤ (K : Int) := by omega
        have hw1 : IntKind.i64.wrap ((K : Int) + 1) = (K : Int) + 1 := IntWalk.i64_in _ (by have := H8.out; omega)
        obtain ⟨x, hx⟩ : ∃ x, l[K]? = some x := ⟨_, List.getElem?_eq_getElem (by rw [HN.out]; exact hlt)⟩
        obtain ⟨b, off, rfl, hcell⟩ := HC.out K x hx
        have hc1 := cell_b HJ.out.2 hcell
        have hd := HJ.out.1.trans (firstBad_drop hx)
        have HP := Lib.hid (fun W => refPattern_any x (HL.out x (List.mem_of_getElem? hx)) W)
        obtain ⟨p, hp⟩ : ∃ p, patP x = p := ⟨_, rfl⟩
        rw [hp] at HP hd
        have HD := Lib.hid hd
        clear hd hp hcell hx
        cases p with
        | true =>
          go_wp2_with (go_at_call 24; refine (HP.out _).mono ?_; rintro _ w1 ⟨rfl, hb1⟩; have HB1 := Lib.hid hb1; clear hb1)
          go_roundw
          case rel => exact ⟨K + 1, by go_num, by omega, Lib.hid ⟨HD.out, HJ.out.2.trans (HB1.out.mono HJ.out.2.size)⟩⟩
          case measure => simp [intOf]; omega
        | false =>
          go_wp2_with (go_at_call 24; refine (HP.out _).mono ?_; rintro _ w1 ⟨rfl, hb1⟩; have HB1 := Lib.hid hb1; clear hb1)
          go_ret2
          have hd := HD.out
          simp only [Bool.false_eq_true, if_false] at hd
          exact ⟨ret_ii (by rw [HK.out, hd]) (by rw [HK.out, hd]), HJ.out.2.trans (HB1.out.mono HJ.out.2.size)⟩
      · have hltI : ¬ (K : Int) < (N : Int) := by omega
        have hd := HJ.out.1
        rw [List.drop_of_length_le (i := K) (by rw [HN.out]; omega)] at hd
        have HD := Lib.hid hd
        clear hd
        go_wp2_with fail
        go_ret2
        exact ⟨ret_ii (by rw [HK.out, HD.out]; rfl) (by rw [HK.out, HD.out]; rfl), HJ.out.2⟩

theorem refRight9_any (l : List (List UInt8)) (v : Value) (w : World) (h : Ts w v l) (hl : ∀ x ∈ l, x.length ≤ 9223372036854775807) :
    Calls Try.prog 21 #[v] w fun e w' => e = .returned (.bool (right9 l)) ∧ Below w.heap.size w w' := by
  have HK := Lib.hid (refCheck9_any l v w h hl)
  have hr := check9_right l
  obtain ⟨a, cap, rfl, -⟩ := h.open
  obtain ⟨N, hN⟩ : ∃ N, l.length = N := ⟨_, rfl⟩
  rw [hN] at HK ⊢
  obtain ⟨⟨k, e⟩, hke⟩ : ∃ c, check9 l = c := ⟨_, rfl⟩
  rw [hke] at HK hr
  have he : right9 l = (e == 0) := by
    rw [Bool.eq_iff_iff, beq_iff_eq]
    exact hr.symm
  have HE := Lib.hid he
  clear hr hke hN h he hl
  go_enter Try.func21, Try.ntmps21
  go_wp2_with (go_at_call 9; refine HK.out.mono ?_; rintro _ w1 ⟨rfl, hb1⟩; have HB1 := Lib.hid hb1; clear hb1)
  go_ret
  exact ⟨by rw [HE.out]; rfl, HB1.out⟩

set_option maxHeartbeats 1000000 in
theorem refHas1_any (l : List (List UInt8)) (s : List UInt8) (v : Value) (w : World) (h : Ts w v l) (hn : l.length ≤ 4611686018427387904) :
    Calls Try.prog 28 #[v, .string (str s)] w fun e w' => e = .returned (.bool (inL l s)) ∧ w = w' := by
  obtain ⟨a, cap, rfl, hc⟩ := h.open
  obtain ⟨N, hN⟩ : ∃ N, l.length = N := ⟨_, rfl⟩
  have HC := Lib.hid hc
  have HN := Lib.hid hN
  rw [hN] at hn ⊢
  clear hc h hN
  go_enter Try.func28, Try.ntmps28
  go_wp2_with fail
  go_loopw [5] (fun i wr => ∃ K : Nat, i = .int .i64 (K : Int) ∧ K ≤ N ∧ Hid (inL l s = inL (l.drop K) s) ∧ wr = w) (fun i _ => N - (intOf i).toNat)
  case atStart => exact ⟨0, rfl, Nat.zero_le _, Lib.hid rfl, rfl⟩
  case round =>
    obtain ⟨K, rfl, hK, HJ, rfl⟩ := hrel
    by_cases hlt : K < N
    · have hltI : (K : Int) < (N : Int) := by omega
      have hk0 : 0 ≤ (K : Int) := by omega
      have hw1 : IntKind.i64.wrap ((K : Int) + 1) = (K : Int) + 1 := IntWalk.i64_in _ (by omega)
      obtain ⟨x, hx⟩ : ∃ x, l[K]? = some x := ⟨_, List.getElem?_eq_getElem (by rw [HN.out]; exact hlt)⟩
      obtain ⟨b, off, rfl, hcell⟩ := HC.out K x hx
      have hd : inL l s = (s == x || inL (l.drop (K + 1)) s) := by
        rw [HJ.out]
        obtain ⟨hlt', rfl⟩ := List.getElem?_eq_some_iff.1 hx
        unfold inL; rw [List.drop_eq_getElem_cons hlt', List.contains_cons]
      by_cases hxs : x = s
      · subst hxs
        have HD := Lib.hid (show inL l x = true by rw [hd]; simp)
        have hee : ((str x).toList == (str x).toList) = true := beq_self_eq_true _
        clear hd hx
        go_wp2_with fail
        go_ret
        exact ⟨by rw [HD.out]; rfl, by first | rfl | trivial⟩
      · have HD := Lib.hid (show inL l s = inL (l.drop (K + 1)) s by rw [hd, beq_eq_false_iff_ne.2 (Ne.symm hxs), Bool.false_or])
        have hee : ((str x).toList == (str s).toList) = false := by rw [eq_bool]; exact beq_eq_false_iff_ne.2 hxs
        clear hd hx hxs
        go_wp2_with fail
        go_roundw
        case rel => exact ⟨K + 1, by go_num, by omega, HD, by first | rfl | trivial⟩
        case measure => simp [intOf]; omega
    · have hltI : ¬ (K : Int) < (N : Int) := by omega
      have hd := HJ.out
      rw [List.drop_of_length_le (i := K) (by rw [HN.out]; omega)] at hd
      have HD := Lib.hid hd
      clear hd
      go_wp2_with fail
      go_ret
      exact ⟨by rw [HD.out]; rfl, by first | rfl | trivial⟩

theorem needed_drop {l m : List (List UInt8)} {p x : List UInt8} {K : Nat} (h : m[K]? = some x) : ((m.drop K).all fun x => x == p || !covT x p) = ((x == p || !covT x p) && (m.drop (K + 1)).all fun x => x == p || !covT x p) := by
  obtain ⟨hlt, rfl⟩ := List.getElem?_eq_some_iff.1 h
  rw [List.drop_eq_getElem_cons hlt, List.all_cons]
theorem all_drop {X : Type} {m : List X} {x : X} {K : Nat} (f : X → Bool) (h : m[K]? = some x) : (m.drop K).all f = (f x && (m.drop (K + 1)).all f) := by
  obtain ⟨hlt, rfl⟩ := List.getElem?_eq_some_iff.1 h
  rw [List.drop_eq_getElem_cons hlt, List.all_cons]
theorem any_drop {X : Type} {m : List X} {x : X} {K : Nat} (f : X → Bool) (h : m[K]? = some x) : (m.drop K).any f = (f x || (m.drop (K + 1)).any f) := by
  obtain ⟨hlt, rfl⟩ := List.getElem?_eq_some_iff.1 h
  rw [List.drop_eq_getElem_cons hlt, List.any_cons]

set_option maxHeartbeats 1000000 in
theorem refNeeded_any (l : List (List UInt8)) (p : List UInt8) (v : Value) (w : World) (h : Ts w v l) (hn : l.length ≤ 4611686018427387904) (hl : ∀ x ∈ l, x.length ≤ 9223372036854775807) (hp : p.length ≤ 9223372036854775807) :
    Calls Try.prog 29 #[v, .string (str p)] w fun e w' => e = .returned (.bool (needed l p)) ∧ Below w.heap.size w w' := by
  obtain ⟨a, cap, rfl, hc⟩ := h.open
  obtain ⟨N, hN⟩ : ∃ N, l.length = N := ⟨_, rfl⟩
  have HC := Lib.hid hc
  have HN := Lib.hid hN
  have HL := Lib.hid hl
  have HP := Lib.hid hp
  rw [hN] at hn ⊢
  clear hc h hN hl hp
  go_enter Try.func29, Try.ntmps29
  go_wp2_with fail
  go_loopw [5] (fun i wr => ∃ K : Nat, i = .int .i64 (K : Int) ∧ K ≤ N ∧ Hid (needed l p = ((l.drop K).all fun x => x == p || !covT x p) ∧ Below w.heap.size w wr)) (fun i _ => N - (intOf i).toNat)
  case atStart => exact ⟨0, rfl, Nat.zero_le _, Lib.hid ⟨rfl, Below.refl _ _⟩⟩
  case round =>
    obtain ⟨K, rfl, hK, HJ⟩ := hrel
    by_cases hlt : K < N
    · have hltI : (K : Int) < (N : Int) := by omega
      have hk0 : 0 ≤ (K : Int) := by omega
      have hw1 : IntKind.i64.wrap ((K : Int) + 1) = (K : Int) + 1 := IntWalk.i64_in _ (by omega)
      obtain ⟨x, hx⟩ : ∃ x, l[K]? = some x := ⟨_, List.getElem?_eq_getElem (by rw [HN.out]; exact hlt)⟩
      obtain ⟨b, off, rfl, hcell⟩ := HC.out K x hx
      have hc1 := cell_b HJ.out.2 hcell
      have hd := HJ.out.1.trans (all_drop _ hx)
      have HV := Lib.hid (fun W => refCoversT_any x p (HL.out x (List.mem_of_getElem? hx)) HP.out W)
      by_cases hxp : x = p
      · subst hxp
        have HD := Lib.hid (show needed l x = ((l.drop (K + 1)).all fun y => y == x || !covT y x) by rw [hd]; simp)
        have hee : (!((str x).toList == (str x).toList)) = false := by rw [beq_self_eq_true]; rfl
        have hee2 : ((str x).toList == (str x).toList) = true := beq_self_eq_true _
        clear hd hx hcell
        go_wp2_with fail
        go_roundw
        case rel => exact ⟨K + 1, by go_num, by omega, Lib.hid ⟨HD.out, HJ.out.2⟩⟩
        case measure => simp [intOf]; omega
      · have hee : (!((str x).toList == (str p).toList)) = true := by rw [eq_bool, beq_eq_false_iff_ne.2 hxp]; rfl
        have hee2 : ((str x).toList == (str p).toList) = false := by rw [eq_bool, beq_eq_false_iff_ne.2 hxp]
        rw [beq_eq_false_iff_ne.2 hxp, Bool.false_or] at hd
        obtain ⟨c, hcv⟩ : ∃ c, covT x p = c := ⟨_, rfl⟩
        rw [hcv] at HV hd
        have HD := Lib.hid hd
        clear hd hx hcell hcv hxp
        cases c with
        | true =>
          go_wp2_with (go_at_call 35; refine (HV.out _).mono ?_; rintro _ w1 ⟨rfl, hb1⟩; have HB1 := Lib.hid hb1; clear hb1)
          go_ret
          exact ⟨by rw [HD.out]; rfl, HJ.out.2.trans (HB1.out.mono HJ.out.2.size)⟩
        | false =>
          go_wp2_with (go_at_call 35; refine (HV.out _).mono ?_; rintro _ w1 ⟨rfl, hb1⟩; have HB1 := Lib.hid hb1; clear hb1)
          go_roundw
          case rel => exact ⟨K + 1, by go_num, by omega, Lib.hid ⟨by rw [HD.out]; rfl, HJ.out.2.trans (HB1.out.mono HJ.out.2.size)⟩⟩
          case measure => simp [intOf]; omega
    · have hltI : ¬ (K : Int) < (N : Int) := by omega
      have hd := HJ.out.1
      rw [List.drop_of_length_le (i := K) (by rw [HN.out]; omega)] at hd
      have HD := Lib.hid hd
      clear hd
      go_wp2_with fail
      go_ret
      exact ⟨by rw [HD.out]; rfl, HJ.out.2⟩

set_option maxHeartbeats 1000000 in
theorem refHas9_any (l : List (List UInt8)) (s : List UInt8) (v : Value) (w : World) (h : Ts w v l) (hn : l.length ≤ 4611686018427387904) (hl : ∀ x ∈ l, x.length ≤ 9223372036854775807) (hs : s.length ≤ 9223372036854775807) :
    Calls Try.prog 15 #[v, .string (str s)] w fun e w' => e = .returned (.bool (hasF l s)) ∧ Below w.heap.size w w' := by
  have HRT := Lib.hid (fun (W : World) (hb : Below w.heap.size w W) => refRight9_any l v W (h.below hb) hl)
  obtain ⟨a, cap, rfl, hc⟩ := h.open
  obtain ⟨N, hN⟩ : ∃ N, l.length = N := ⟨_, rfl⟩
  have HC := Lib.hid hc
  have HN := Lib.hid hN
  have HL := Lib.hid hl
  have HS := Lib.hid hs
  rw [hN] at hn HRT ⊢
  clear hc h hN hl hs
  go_enter Try.func15, Try.ntmps15
  go_wp2_with fail
  go_loopw [5, 6] (fun o i wr => ∃ (K : Nat) (is : Bool), o = .bool is ∧ i = .int .i64 (K : Int) ∧ K ≤ N ∧ Hid ((l.any fun x => matT x s) = (is || (l.drop K).any fun x => matT x s) ∧ Below w.heap.size w wr)) (fun _ i _ => N - (intOf i).toNat)
  case atStart => exact ⟨0, false, rfl, rfl, Nat.zero_le _, Lib.hid ⟨rfl, Below.refl _ _⟩⟩
  case round =>
    obtain ⟨K, is, rfl, rfl, hK, HJ⟩ := hrel
    by_cases hlt : K < N
    · have hltI : (K : Int) < (N : Int) := by omega
      have hk0 : 0 ≤ (K : Int) := by omega
      have hw1 : IntKind.i64.wrap ((K : Int) + 1) = (K : Int) + 1 := IntWalk.i64_in _ (by omega)
      obtain ⟨x, hx⟩ : ∃ x, l[K]? = some x := ⟨_, List.getElem?_eq_getElem (by rw [HN.out]; exact hlt)⟩
      obtain ⟨b, off, rfl, hcell⟩ := HC.out K x hx
      have hc1 := cell_b HJ.out.2 hcell
      have hd := HJ.out.1
      rw [any_drop _ hx] at hd
      have HV := Lib.hid (fun W => refMatchT_any x s (HL.out x (List.mem_of_getElem? hx)) HS.out W)
      obtain ⟨c, hcv⟩ : ∃ c, matT x s = c := ⟨_, rfl⟩
      rw [hcv] at HV hd
      have HD := Lib.hid hd
      clear hd hx hcell hcv
      cases is with
      | true =>
        go_wp2_with fail
        go_roundw
        case rel => exact ⟨K + 1, true, rfl, by go_num, by omega, Lib.hid ⟨by rw [HD.out]; simp, HJ.out.2⟩⟩
        case measure => simp [intOf]; omega
      | false =>
        go_wp2_with (go_at_call 31; refine (HV.out _).mono ?_; rintro _ w1 ⟨rfl, hb1⟩; have HB1 := Lib.hid hb1; clear hb1)
        go_roundw
        case rel => exact ⟨K + 1, c, rfl, by go_num, by omega, Lib.hid ⟨by rw [HD.out]; simp, HJ.out.2.trans (HB1.out.mono HJ.out.2.size)⟩⟩
        case measure => simp [intOf]; omega
    · have hltI : ¬ (K : Int) < (N : Int) := by omega
      have hd := HJ.out.1
      rw [List.drop_of_length_le (i := K) (by rw [HN.out]; omega)] at hd
      have HD := Lib.hid (show (l.any fun x => matT x s) = is by rw [hd]; simp)
      clear hd
      cases is with
      | true =>
        go_wp2_with (go_at_call 21; refine (HRT.out _ HJ.out.2).mono ?_; rintro _ w1 ⟨rfl, hb1⟩; have HB1 := Lib.hid hb1; clear hb1)
        go_ret
        exact ⟨by unfold hasF; rw [HD.out]; simp, HJ.out.2.trans (HB1.out.mono HJ.out.2.size)⟩
      | false =>
        go_wp2_with fail
        go_ret
        exact ⟨by unfold hasF; rw [HD.out]; simp, HJ.out.2⟩
end Go.Proofs.Ytbpphghphfbogaa.P8
