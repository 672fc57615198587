/-
  Layer 9, the program: slices.IndexFunc and ContainsFunc over texts, oneOf and its closures.
-/
import Derived.Test.YtbpphghphfbogaaP9Con
namespace Go.Proofs.Ytbpphghphfbogaa.P8
open Go Go.RowKit Go.Shelf Go.Proofs Go.Proofs.Ytbpphghphfbogaa.B Go.Proofs.Ytbpphghphfbogaa.K
set_option linter.unusedVariables false
set_option maxRecDepth 100000

/-- What a function that is asked of texts answers, wherever w stands. -/
def PredIs (g : Nat) (lb : Array Value) (p : List UInt8 → Bool) (w : World) (l : List (List UInt8)) : Prop :=
  ∀ (W : World) (x : List UInt8), x ∈ l → Below w.heap.size w W → Calls Try.prog g (#[.string (str x)] ++ lb) W fun e w' => e = .returned (.bool (p x)) ∧ Below W.heap.size W w'
/-- The place of the first. -/
def idxF (p : List UInt8 → Bool) : List (List UInt8) → Nat → Int
  | [], _ => -1
  | x :: l, k => if p x then (k : Int) else idxF p l (k + 1)
theorem idxF_drop {p : List UInt8 → Bool} {l : List (List UInt8)} {K : Nat} {x : List UInt8} (h : l[K]? = some x) : idxF p (l.drop K) K = if p x then (K : Int) else idxF p (l.drop (K + 1)) (K + 1) := by
  obtain ⟨hlt, rfl⟩ := List.getElem?_eq_some_iff.1 h
  rw [List.drop_eq_getElem_cons hlt, idxF]
theorem idxF_any (p : List UInt8 → Bool) : ∀ (l : List (List UInt8)) (k : Nat), decide (0 ≤ idxF p l k) = l.any p
  | [], _ => by simp [idxF]
  | x :: l, k => by
    unfold idxF
    rw [List.any_cons]
    cases p x with
    | true => simp
    | false => simp only [Bool.false_eq_true, if_false, Bool.false_or]; exact idxF_any p l (k + 1)

set_option maxHeartbeats 1000000 in
theorem indexFunc_any (l : List (List UInt8)) (v : Value) (g : Nat) (lb : Array Value) (p : List UInt8 → Bool) (w : World) (h : Ts w v l) (hn : l.length ≤ 4611686018427387904) (eg : Ent g) (hp : PredIs g lb p w l) :
    Calls Try.prog 52 #[v, .func (.func g) #[] lb] w fun e w' => e = .returned (.int .i64 (idxF p l 0)) ∧ Below w.heap.size w w' := by
  obtain ⟨a, cap, rfl, hc⟩ := h.open
  obtain ⟨N, hN⟩ : ∃ N, l.length = N := ⟨_, rfl⟩
  have HC := Lib.hid hc
  have HN := Lib.hid hN
  have HP := Lib.hid hp
  rw [hN] at hn ⊢
  clear hc h hN hp
  unfold Ent at eg
  go_enter Try.func52, Try.ntmps52
  go_wp2_with fail
  go_loopw [8] (fun i wr => ∃ K : Nat, i = .int .i64 (K : Int) ∧ K ≤ N ∧ Hid (idxF p l 0 = idxF p (l.drop K) K ∧ Below w.heap.size w wr)) (fun i _ => N - (intOf i).toNat)
  case atStart => exact ⟨0, rfl, Nat.zero_le _, Lib.hid ⟨rfl, Below.refl _ _⟩⟩
  case round =>
    obtain ⟨K, rfl, hK, HJ⟩ := hrel
    by_cases hlt : K < N
    · have hltI : (K : Int) < (N : Int) := by omega
      have hk0 : 0 ≤ (K : Int) := by omega
      have hw1 : IntKind.i64.wrap ((K : Int) + 1) = (K : Int) + 1 := IntWalk.i64_in _ (by omega)
      obtain ⟨x, hx⟩ : ∃ x, l[K]? = some x := ⟨_, List.getElem?_eq_getElem (by rw [HN.out]; exact hlt)⟩
      obtain ⟨b, off, rfl, hcell⟩ := HC.out K x hx
      have hc1 := cell_b HJ.out.2 hcell
      have hd := HJ.out.1.trans (idxF_drop hx)
      have HV := Lib.hid (HP.out wr x (List.mem_of_getElem? hx) HJ.out.2)
      obtain ⟨c, hcv⟩ : ∃ c, p x = c := ⟨_, rfl⟩
      rw [hcv] at HV hd
      have HD := Lib.hid hd
      clear hd hx hcell hcv
      cases c with
      | true =>
        go_wp2_with (go_at_fn g; refine HV.out.mono ?_; rintro _ w1 ⟨rfl, hb1⟩; have HB1 := Lib.hid hb1; clear hb1)
        go_ret
        exact ⟨ret_int (by rw [HD.out]; rfl), HJ.out.2.trans (HB1.out.mono HJ.out.2.size)⟩
      | false =>
        go_wp2_with (go_at_fn g; refine HV.out.mono ?_; rintro _ w1 ⟨rfl, hb1⟩; have HB1 := Lib.hid hb1; clear hb1)
        go_roundw
        case rel => exact ⟨K + 1, by go_num, by omega, Lib.hid ⟨by rw [HD.out]; rfl, HJ.out.2.trans (HB1.out.mono HJ.out.2.size)⟩⟩
        case measure => simp [intOf]; omega
    · have hltI : ¬ (K : Int) < (N : Int) := by omega
      have hd := HJ.out.1
      rw [List.drop_of_length_le (i := K) (by rw [HN.out]; omega)] at hd
      have HD := Lib.hid hd
      clear hd
      go_wp2_with fail
      go_ret
      exact ⟨ret_int (by rw [HD.out]; rfl), HJ.out.2⟩

set_option maxHeartbeats 1000000 in
theorem containsFunc_any (l : List (List UInt8)) (v : Value) (g : Nat) (lb : Array Value) (p : List UInt8 → Bool) (w : World) (h : Ts w v l) (hn : l.length ≤ 4611686018427387904) (eg : Ent g) (hp : PredIs g lb p w l) :
    Calls Try.prog 34 #[v, .func (.func g) #[] lb] w fun e w' => e = .returned (.bool (l.any p)) ∧ Below w.heap.size w w' := by
  have HI := indexFunc_any l v g lb p w h hn eg hp
  have ha := idxF_any p l 0
  obtain ⟨i, hi⟩ : ∃ i, idxF p l 0 = i := ⟨_, rfl⟩
  rw [hi] at HI ha
  rw [← ha]
  clear ha hi hp
  obtain ⟨a, cap, rfl, -⟩ := h.open
  go_enter Try.func34, Try.ntmps34
  go_wp2_with fail
  refine HI.mono ?_
  rintro _ w1 ⟨rfl, hb⟩
  go_wp2_with fail
  go_ret
  exact ⟨rfl, hb⟩

/-- What oneOf keeps: a filter and a function, each in a cell of its own. -/
structure OneIs (W : World) (A B : Nat) (v : Value) (h : Nat) : Prop where
  filt : ∃ e, W.heap[A]? = some (.cells #[v] e (0, 0))
  holds : ∃ e, W.heap[B]? = some (.cells #[.func (.func h) #[] #[]] e (0, 0))
theorem OneIs.below {w w' : World} {A B h : Nat} {v : Value} (H : OneIs w A B v h) (hb : Below w.heap.size w w') : OneIs w' A B v h := by
  obtain ⟨⟨e, h1⟩, ⟨e', h2⟩⟩ := H
  exact ⟨⟨e, (hb.block _ (Array.getElem?_eq_some_iff.1 h1).1).trans h1⟩, ⟨e', (hb.block _ (Array.getElem?_eq_some_iff.1 h2).1).trans h2⟩⟩
theorem cell_one {w : World} {A : Nat} {v : Value} {e : TypeId} (h : w.heap[A]? = some (.cells #[v] e (0, 0))) : w.cell? ⟨A, 0, none⟩ = some v := by simp [World.cell?, h]

set_option maxHeartbeats 1000000 in
theorem oneOf_any (a : Option Addr) (n cap h : Nat) (w : World) :
    Calls Try.prog 26 #[.slice a n cap, .func (.func h) #[] #[]] w fun e w' => ∃ A B, e = .returned (.func (.func 44) #[] #[.pointer (some ⟨A, 0, none⟩), .pointer (some ⟨B, 0, none⟩)]) ∧ OneIs w' A B (.slice a n cap) h ∧ Below w.heap.size w w' := by
  go_enter Try.func26, Try.ntmps26
  go_wp2_with fail
  go_ret
  refine ⟨_, _, rfl, ⟨⟨22, ?_⟩, ⟨42, ?_⟩⟩, ((Below.refl _ _).alloc (Nat.le_refl _) _).alloc (by simp) _⟩
  · exact ((below_new (w.alloc _) _).block w.heap.size (by show w.heap.size < (w.heap.push _).size; rw [Array.size_push]; exact Nat.lt_succ_self _)).trans (heap_alloc_at w _)
  · have := heap_alloc_at (w.alloc (.cells #[.slice a n cap] 22)) (.cells #[.func (.func h) #[] #[]] 42)
    rw [show (w.alloc (.cells #[.slice a n cap] 22)).heap.size = w.heap.size + 1 from Array.size_push _] at this
    exact this

/-- What a function of two texts answers. -/
def HoldsIs (h : Nat) (f : List UInt8 → List UInt8 → Bool) : Prop :=
  ∀ (p s : List UInt8) (W : World), p.length ≤ 9223372036854775807 → s.length ≤ 9223372036854775807 → Calls Try.prog h #[.string (str p), .string (str s)] W fun e w' => e = .returned (.bool (f p s)) ∧ Below W.heap.size W w'

theorem ent_one1 : Ent 44 := fun args w => enters_of Try.func44 (by kernel_rfl) rfl args w
theorem ent_one2 : Ent 45 := fun args w => enters_of Try.func45 (by kernel_rfl) rfl args w

set_option maxHeartbeats 1000000 in
theorem one2_any (h B C : Nat) (f : List UInt8 → List UInt8 → Bool) (eh : Ent h) (H : HoldsIs h f) (x s : List UInt8) (w : World) (eB eC : TypeId) (hB : w.heap[B]? = some (.cells #[.func (.func h) #[] #[]] eB (0, 0))) (hC : w.heap[C]? = some (.cells #[.string (str s)] eC (0, 0)))
    (hx : x.length ≤ 9223372036854775807) (hs : s.length ≤ 9223372036854775807) :
    Calls Try.prog 45 #[.string (str x), .pointer (some ⟨B, 0, none⟩), .pointer (some ⟨C, 0, none⟩)] w fun e w' => e = .returned (.bool (f x s)) ∧ Below w.heap.size w w' := by
  have h1 := cell_one hB
  have h2 := cell_one hC
  have HH := Lib.hid (H x s w hx hs)
  unfold Ent at eh
  clear H hB hC
  obtain ⟨c, hc⟩ : ∃ c, f x s = c := ⟨_, rfl⟩
  rw [hc] at HH ⊢
  go_enter Try.func45, Try.ntmps45
  go_wp2_with (go_at_fn h; refine HH.out.mono ?_; rintro _ w1 ⟨rfl, hb1⟩; have HB1 := Lib.hid hb1; clear hb1)
  go_ret
  exact ⟨rfl, HB1.out⟩

set_option maxHeartbeats 1000000 in
/-- What oneOf makes. -/
theorem one1_any (h A B : Nat) (f : List UInt8 → List UInt8 → Bool) (eh : Ent h) (H : HoldsIs h f) (l : List (List UInt8)) (s : List UInt8) (v : Value) (w : World) (hO : OneIs w A B v h) (hT : Ts w v l) (hB : Bd l) (hs : s.length ≤ 9223372036854775807) :
    Calls Try.prog 44 #[.string (str s), .pointer (some ⟨A, 0, none⟩), .pointer (some ⟨B, 0, none⟩)] w fun e w' => e = .returned (.bool (l.any fun x => f x s)) ∧ Below w.heap.size w w' := by
  obtain ⟨eA, hA0⟩ := hO.filt
  obtain ⟨eB, hB0⟩ := hO.holds
  have hb1 := below_new w (.cells #[.string (str s)] 9)
  have h1 := cell_b hb1 (show w.cell? ⟨A, 0 + 0, none⟩ = some v from cell_one hA0)
  have HB0 : (w.alloc (.cells #[.string (str s)] 9)).heap[B]? = some (.cells #[.func (.func h) #[] #[]] eB (0, 0)) := (hb1.block _ (Array.getElem?_eq_some_iff.1 hB0).1).trans hB0
  have HC0 : (w.alloc (.cells #[.string (str s)] 9)).heap[w.heap.size]? = some (.cells #[.string (str s)] 9 (0, 0)) := heap_alloc_at _ _
  have HF := Lib.hid (containsFunc_any l v 45 #[.pointer (some ⟨B, 0, none⟩), .pointer (some ⟨w.heap.size, 0, none⟩)] (fun x => f x s) (w.alloc (.cells #[.string (str s)] 9)) (hT.below hb1) hB.1 ent_one2
    (fun W x hx hW => one2_any h B w.heap.size f eh H x s W eB _ ((hW.block _ (Array.getElem?_eq_some_iff.1 HB0).1).trans HB0) ((hW.block _ (Array.getElem?_eq_some_iff.1 HC0).1).trans HC0) (hB.big x hx) hs))
  clear HB0 HC0 hA0 hB0 hO H
  obtain ⟨c, hc⟩ : ∃ c, (l.any fun x => f x s) = c := ⟨_, rfl⟩
  rw [hc] at HF ⊢
  obtain ⟨a, cap, rfl, -⟩ := hT.open
  have HBN := Lib.hid hb1
  clear hb1 hT hB
  go_enter Try.func44, Try.ntmps44
  go_wp2_with (go_at_call 34; refine HF.out.mono ?_; rintro _ w1 ⟨rfl, hb2⟩; have HB2 := Lib.hid hb2; clear hb2)
  go_ret
  exact ⟨rfl, HBN.out.trans (HB2.out.mono HBN.out.size)⟩
end Go.Proofs.Ytbpphghphfbogaa.P8
