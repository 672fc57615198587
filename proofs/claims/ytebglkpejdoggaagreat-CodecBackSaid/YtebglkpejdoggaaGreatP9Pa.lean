/-
  Layer 9: what the program's functions answer (the laws are proved from this alone), the laws' own helpers, and their awake.
  Layer 9, the program: Check, firstError.
-/
import Derived.Test.YtebglkpejdoggaaGreatIArgs
import Derived.SizedLaws
import Derived.Deep.QuietTactic
import Derived.BigQuiet
import Derived.Laws.AppendOwnNone
namespace Go.Proofs.YtebglkpejdoggaaGreat.P8
open Go Go.RowKit Go.Shelf Go.Proofs Go.Proofs.YtebglkpejdoggaaGreat.B Go.Proofs.YtebglkpejdoggaaGreat.K
set_option linter.unusedVariables false
set_option maxRecDepth 100000

/-- Lists of texts such as machines hold. -/
def Bd (l : List (List UInt8)) : Prop := l.length ≤ 4611686018427387904 ∧ ∀ x ∈ l, x.length ≤ 140737488355328
theorem Bd.big {l : List (List UInt8)} (h : Bd l) : ∀ x ∈ l, x.length ≤ 9223372036854775807 := fun x hx => by have := h.2 x hx; omega
theorem Bd.big1 {l : List (List UInt8)} (h : Bd l) : ∀ x ∈ l, x.length ≤ 9223372036854775806 := fun x hx => by have := h.2 x hx; omega
theorem Bd.take {l : List (List UInt8)} (h : Bd l) (n : Nat) : Bd (l.take n) := ⟨by rw [List.length_take]; have := h.1; omega, fun x hx => h.2 x (List.mem_of_mem_take hx)⟩
theorem Bd.sub {l m : List (List UInt8)} (h : Bd l) (hl : m.length ≤ l.length) (hm : ∀ x ∈ m, x ∈ l) : Bd m := ⟨Nat.le_trans hl h.1, fun x hx => h.2 x (hm x hx)⟩
theorem Bd.least {l : List (List UInt8)} (h : Bd l) : Bd (leastL l) := h.sub (least_len l) fun _ hx => least_sub hx
def normF (l : List (List UInt8)) : List (List UInt8) := if right9 l then leastL l else []
theorem Bd.norm {l : List (List UInt8)} (h : Bd l) : Bd (normF l) := by
  unfold normF
  split
  · exact h.least
  · exact ⟨by simp, fun x hx => by cases hx⟩
def unionF (ls : List (List (List UInt8))) : List (List UInt8) × Int := match ls.find? fun l => !right9 l with
  | some l => ([], (check9 l).2)
  | none => if 8 < (leastL ls.flatten).length then ([], 4) else (leastL ls.flatten, 0)
/-- A list of lists of texts in memory. -/
def Tss (w : World) (v : Value) (ls : List (List (List UInt8))) : Prop := ∃ vs : List Value, Sl w v vs ∧ vs.length = ls.length ∧ ∀ (j : Nat) u l, vs[j]? = some u → ls[j]? = some l → Ts w u l

/-- What the program's functions answer. -/
structure Filt : Prop where
  check : ∀ (l : List (List UInt8)) (v : Value) (w : World), Ts w v l → Bd l → Calls Tryz.prog 84 #[v] w fun e w' => e = .returned (.tuple #[.int .i64 (check9 l).1, .int .i64 (check9 l).2]) ∧ Below w.heap.size w w'

set_option maxHeartbeats 1000000 in
theorem same9_any (xs : List (List UInt8)) (v v' : Value) (w : World) (hn : xs.length ≤ 4611686018427387904) (h : Ts w v xs) (h' : Ts w v' xs) :
    Calls Tryz.prog 28 #[v, v'] w fun e w' => e = .returned (.bool true) ∧ Below w.heap.size w w' := by
  obtain ⟨a, cap, rfl, hc⟩ := h
  obtain ⟨a', cap', rfl, hc'⟩ := h'
  rw [List.length_map]
  have hnn : ((xs.length : Int) != (xs.length : Int)) = false := by simp
  have HC := Lib.hid hc; clear hc
  have HC' := Lib.hid hc'; clear hc'
  obtain ⟨n, hN⟩ : ∃ n, xs.length = n := ⟨_, rfl⟩
  rw [hN] at hn hnn ⊢
  have HN := Lib.hid hN; clear hN
  go_enter Tryz.func28, Tryz.ntmps28
  go_wp2_with fail
  go_loopw [5] (fun i wr => ∃ k : Nat, k ≤ n ∧ i = .int .i64 (k : Int) ∧ Below w.heap.size w wr) (fun i _ => n - (intOf i).toNat)
  case atStart => exact ⟨0, Nat.zero_le _, rfl, Below.refl _ _⟩
  case round =>
    obtain ⟨k, hk, rfl, hbel⟩ := hrel
    by_cases hlt : k < n
    · obtain ⟨x, hx⟩ : ∃ x, xs[k]? = some x := ⟨_, List.getElem?_eq_getElem (by rw [HN.out]; exact hlt)⟩
      obtain ⟨b, off, rfl, hcell⟩ := HC.out k (.string (str x)) (by rw [List.getElem?_map, hx]; rfl)
      obtain ⟨b', off', rfl, hcell'⟩ := HC'.out k (.string (str x)) (by rw [List.getElem?_map, hx]; rfl)
      have hc1 : wr.cell? ⟨b, off + k, none⟩ = some (.string (str x)) := (hbel.cell (World.block_lt_of_cell? w _ hcell)).trans hcell
      have hc2 : wr.cell? ⟨b', off' + k, none⟩ = some (.string (str x)) := (hbel.cell (World.block_lt_of_cell? w _ hcell')).trans hcell'
      have hltI : (k : Int) < (n : Int) := by omega
      have hk0 : 0 ≤ (k : Int) := by omega
      clear hcell hcell' hx
      go_wp2_with fail
      go_quiet (fail)
      go_wp2_with fail
      go_roundw
      case rel => exact ⟨k + 1, by omega, by go_num, by first | exact hbel.trans ((below_drewN _ _).mono hbel.size) | exact hbel.drew | exact hbel⟩
      case measure => simp [intOf]; omega
    · have hltI : ¬ (k : Int) < (n : Int) := by omega
      go_wp2_with fail
      go_ret
      exact ⟨rfl, hbel⟩

theorem ts_few {l : List (List UInt8)} {a : Option Addr} {n cap : Nat} {w : World} (h : Ts w (.slice a n cap) l) : Ts w (.slice a (min 40 n) cap) (l.take 40) := by
  obtain ⟨a', cap', e, hx⟩ := h.open
  cases e
  refine ⟨a, cap, by rw [List.length_map, List.length_take], fun j u hj => ?_⟩
  rw [List.getElem?_map] at hj
  cases hz : (l.take 40)[j]? with
  | none => rw [hz] at hj; cases hj
  | some x =>
    rw [hz] at hj
    cases hj
    have hj40 : j < 40 := by
      have := (List.getElem?_eq_some_iff.1 hz).1
      rw [List.length_take] at this
      omega
    exact hx j x (by rw [List.getElem?_take_of_lt hj40] at hz; exact hz)
/-- append(s, x...), x a list of texts. -/
theorem wpList_append_ts {P : Program} (w : World) {ops : Array Oper} {rest : List Oper} {o : Oper} {a : Act} {Q : Exit → Act → World → Prop} (hgd : o.guard = none) (s x : Operand) (t e : TypeId)
    (ho : o.op = .call { callee := .builtin .append, args := #[s, x], argTypes := #[t, t] }) (base : Nat) (i : TypeInfo) (ht : P.underlying t = some (.slice e)) (hi : P.info? e = some i) (hz : i.zero = some (.string ⟨#[]⟩)) (hsize : i.size = 1) (hby : i.bytes = 16)
    (v : Value) (n : Nat) (xs : List Value) (hs : a.eval s = v) (hown : w.ownsRow base e 1 v n xs) (l : List (List UInt8)) (ax : Option Addr) (m c : Nat) (hx : a.eval x = .slice ax m c) (hT : Ts w (.slice ax m c) l) (hn : ax = none → c = 0)
    (hl : n + l.length ≤ 1000000) (hbase : base ≤ w.heap.size)
    (h : ∀ v' w', w'.ownsRow base e 1 v' (n + l.length) (xs ++ l.map sv) → Below base w w' → wpList P ops Q rest (a.put o.dst v') w') : wpList P ops Q (o :: rest) a w := by
  obtain ⟨a', cap', he, hc⟩ := hT.open
  cases he
  cases ax with
  | none =>
    obtain rfl := hn rfl
    obtain rfl : l = [] := by
      cases l with
      | nil => rfl
      | cons y l =>
        obtain ⟨b, off, hb, _⟩ := hc 0 y rfl
        cases hb
    refine wpList_append_own_none hgd s x t ho base e i 1 ht hi v n xs hs hown hx ?_
    have := h v w (by simpa using hown) (Below.refl _ _)
    exact this
  | some ad =>
    refine wpList_append_own w hgd s x t ho base e i (.string ⟨#[]⟩) 1 16 ht hi hz hsize hby rfl (by decide) v n xs hs hown ad l.length c (l.map sv) hx (by rw [List.length_map, Nat.mul_one]) (fun j u hj => ?_) (fun u hu => ?_) (by unfold maxLen; omega) (by omega) hbase fun v' w' h1 h2 _ => h v' w' h1 ((Below.refl _ _).grown h2 hbase (owns_block hown))
    · rw [List.getElem?_map] at hj
      cases hz' : l[j]? with
      | none => rw [hz'] at hj; cases hj
      | some y =>
        rw [hz'] at hj
        cases hj
        obtain ⟨b, off, hb, hcell⟩ := hc j y hz'
        cases hb
        rw [Lib.addr_add]
        exact hcell
    · obtain ⟨y, _, rfl⟩ := List.mem_map.1 hu
      rfl

theorem bd_small (l : List (List UInt8)) (h : l.length ≤ 100 ∧ (l.all fun x => decide (x.length ≤ 100)) = true) : Bd l :=
  ⟨by omega, fun x hx => by have := List.all_eq_true.1 h.2 x hx; simp at this; omega⟩
theorem below_new (w : World) (o : Obj) : Below w.heap.size w (w.alloc o) := (Below.refl _ _).alloc (Nat.le_refl _) _
theorem awake_facts : normF [[98], [97, 47, 42], [97, 47, 98], [98]] = [[97, 47, 42], [98]] ∧ hasF [[97, 47, 42], [98]] [97, 47, 99] = true ∧ hasF [[97, 47, 42], [98]] [97] = false ∧ covF [[42, 42]] [[97, 47, 42], [98]] = true ∧ metF [[97, 47, 42], [98]] [[42]] = true := by decide +kernel

theorem ts_built (w : World) (l : List (List UInt8)) (e : TypeId) (n : Nat) (hn : l.length = n) (cur : Array Value) (hc : cur.toList = l.map sv) (cap : Nat) : Ts (w.alloc (.cells cur e)) (.slice (some ⟨w.heap.size, 0, none⟩) n cap) l := by
  subst hn
  have h := Sl.row (w := w.alloc (.cells cur e)) (g := w.heap.size) (cap := cap) (xs := l.map sv) (heap_alloc_at w _) (by rw [hc, List.take_length])
  rw [List.length_map] at h
  exact h

section
open Go.ChangeShapes Go.WideShapes Go.ChangeAt
variable {H : Type} {enc : TypeId × Value → H} {P : Program} {W : World}
/-- A value that reads as a slice of texts, none of it longer than memory is. -/
theorem strs_all {t e : TypeId} (ht : P.underlying t = some (.slice e)) (he : P.underlying e = some .string) (hc : P.cellsOf e = 1) (hb : P.bytesOf e = 16) {fuel : Nat} {v : Value} {d : DataW H} {p : List MemPlace}
    (hf : DataW.trod enc P W 0 (fun _ => true) true fuel t [v] = some (d, p)) (hsz : ∀ n ∈ DataW.weights P t d, n ≤ reachBytes) :
    ∃ (a : Option Addr) (n cap : Nat) (xs : List (List UInt8)), v = .slice a n cap ∧ n ≤ cap ∧ Ts W v xs ∧ Bd xs ∧ (a = none → cap = 0) := by
  have hr : reachBytes = 140737488351232 := by decide
  rcases open_strings ht he hc hf with ⟨hcs, _⟩ | ⟨a, len, cap, ss, hcs, _, hl, hm, hz, hx, hcell, hws⟩
  · simp at hcs
    subst hcs
    exact ⟨none, 0, 0, [], rfl, Nat.le_refl _, Sl.nil W, ⟨by simp, by simp⟩, fun _ => rfl⟩
  · simp at hcs
    subst hcs
    simp only [if_true] at hz
    have hd : d = .slice (strs (ss.take len)) (strs (ss.drop len)) := by cases hx; rfl
    have hlen : ss.length * 16 ≤ reachBytes := by
      have h := hsz ((ss.take len).length * 16 + (ss.drop len).length * 16) (by
        rw [hd]
        unfold DataW.weights
        rw [ht]
        simp only [List.mem_cons]
        left
        rw [hb]
        simp [strs]
        omega)
      simp at h
      omega
    have hsl : Ts W (.slice (some a) len cap) ((ss.map (fun s => s.data.toList)).take len) := by
      unfold Ts
      rw [List.map_take]
      refine Sl.args (by rw [List.length_map, List.length_map]; omega) rfl (fun i u hi => ?_)
      rw [List.getElem?_map, List.getElem?_map] at hi
      cases hzi : ss[i]? with
      | none => rw [hzi] at hi; cases hi
      | some z =>
        rw [hzi] at hi
        obtain ⟨hil, hze⟩ := List.getElem?_eq_some_iff.1 hzi
        have := hcell i hil
        rw [this, ← hi]
        simp [List.getD, hzi, sv, str_eq]
    refine ⟨_, _, _, _, rfl, hl, hsl, ⟨by rw [List.length_take, List.length_map]; omega, fun x hx' => ?_⟩, fun h => by cases h⟩
    rw [← List.map_take] at hx'
    obtain ⟨s, hs, rfl⟩ := List.mem_map.1 hx'
    have hm : (.lit (.string s.data.toList) : DataW H) ∈ strs (ss.take len) := List.mem_map.2 ⟨s, hs, rfl⟩
    have h := hsz s.data.toList.length (by
      rw [hd]
      unfold DataW.weights
      rw [ht]
      simp only [List.mem_cons, List.mem_append]
      right; left
      exact weights_all hm)
    omega
/-- An argument of type []string. -/
theorem strs_argd {t e : TypeId} (ht : P.underlying t = some (.slice e)) (he : P.underlying e = some .string) (hc : P.cellsOf e = 1) (hb : P.bytesOf e = 16) {base : Nat} {v : Value} {d : DataW H} {p : List MemPlace}
    (hval : Value.okWide P W .any base t v) (hd : DataW.Trod enc P W 0 (fun _ => true) true t v d p) {ts : List TypeId} {ds : List (DataW H)} {j : Nat} (hts : ts[j]? = some t) (hds : ds[j]? = some d)
    (hsz : (DataW.weightsEach P ts ds).all (· ≤ reachBytes) = true) :
    ∃ (a : Option Addr) (n cap : Nat) (xs : List (List UInt8)), v = .slice a n cap ∧ n ≤ cap ∧ Ts W v xs ∧ Bd xs ∧ (a = none → cap = 0) := by
  obtain ⟨a0, len, cap, rfl⟩ := okWide_slice ht hval
  obtain ⟨fuel, hf⟩ := hd
  exact strs_all ht he hc hb (by simpa [Value.cells] using hf) fun n hn => by
    have := List.all_eq_true.1 hsz n (DataW.weights_mem_each hts hds n hn)
    simpa using this
end

end Go.Proofs.YtebglkpejdoggaaGreat.P8

namespace Go.Proofs.YtebglkpejdoggaaGreat.P8
open Go Go.RowKit Go.Shelf Go.Proofs Go.Proofs.YtebglkpejdoggaaGreat.B Go.Proofs.YtebglkpejdoggaaGreat.K
set_option linter.unusedVariables false
set_option maxRecDepth 100000

set_option maxHeartbeats 1000000 in
theorem check9_any (l : List (List UInt8)) (v : Value) (w : World) (h : Ts w v l) (hl : ∀ x ∈ l, x.length ≤ 9223372036854775807) :
    Calls Tryz.prog 84 #[v] w fun e w' => e = .returned (.tuple #[.int .i64 (check9 l).1, .int .i64 (check9 l).2]) ∧ Below w.heap.size w w' := by
  obtain ⟨a, cap, rfl, hc⟩ := h.open
  obtain ⟨N, hN⟩ : ∃ N, l.length = N := ⟨_, rfl⟩
  have HC := Lib.hid hc
  have HN := Lib.hid hN
  have HL := Lib.hid hl
  have hck : check9 l = if 8 < N then ((0 : Int), (4 : Int)) else match firstBad9 (l.drop 0) 0 with | some k => ((k : Int), (6 : Int)) | none => ((0 : Int), (0 : Int)) := by unfold check9; rw [hN]; rfl
  rw [hN]
  clear hc hl h hN
  by_cases h8 : 8 < N
  · have h8I : (8 : Int) < (N : Int) := by omega
    rw [if_pos h8] at hck
    have HK := Lib.hid hck
    clear hck h8
    go_enter Tryz.func84, Tryz.ntmps84
    go_wp2_with fail
    go_ret2
    exact ⟨ret_ii (by rw [HK.out]) (by rw [HK.out]), Below.refl _ _⟩
  · have h8I : ¬ (8 : Int) < (N : Int) := by omega
    rw [if_neg h8] at hck
    have HK := Lib.hid hck
    have H8 := Lib.hid h8
    clear hck h8
    go_enter Tryz.func84, Tryz.ntmps84
    go_wp2_with fail
    go_loopw [11] (fun i wr => ∃ K : Nat, i = .int .i64 (K : Int) ∧ K ≤ N ∧ Hid (firstBad9 (l.drop 0) 0 = firstBad9 (l.drop K) K ∧ Below w.heap.size w wr)) (fun i _ => N - (intOf i).toNat)
    case atStart => exact ⟨0, rfl, Nat.zero_le _, Lib.hid ⟨rfl, Below.refl _ _⟩⟩
    case round =>
      obtain ⟨K, rfl, hK, HJ⟩ := hrel
      by_cases hlt : K < N
      · have hltI : (K : Int) < (N : Int) := by omega
        have hk0 : 0 ≤ (K : Int) := by omega
        have hw1 : IntKind.i64.wrap ((K : Int) + 1) = (K : Int) + 1 := IntWalk.i64_in _ (by have := H8.out; omega)
        obtain ⟨x, hx⟩ : ∃ x, l[K]? = some x := ⟨_, List.getElem?_eq_getElem (by rw [HN.out]; exact hlt)⟩
        obtain ⟨b, off, rfl, hcell⟩ := HC.out K x hx
        have hc1 := cell_b HJ.out.2 hcell
        have hd := HJ.out.1.trans (firstBad_drop hx)
        have HP := Lib.hid (fun W => pattern_any x (HL.out x (List.mem_of_getElem? hx)) W)
        obtain ⟨p, hp⟩ : ∃ p, patP x = p := ⟨_, rfl⟩
        rw [hp] at HP hd
        have HD := Lib.hid hd
        clear hd hp hcell hx
        cases p with
        | true =>
          go_wp2_with (go_at_call 117; refine (HP.out _).mono ?_; rintro _ w1 ⟨rfl, hb1⟩; have HB1 := Lib.hid hb1; clear hb1)
          go_roundw
          case rel => exact ⟨K + 1, by go_num, by omega, Lib.hid ⟨HD.out, HJ.out.2.trans (HB1.out.mono HJ.out.2.size)⟩⟩
          case measure => simp [intOf]; omega
        | false =>
          go_wp2_with (go_at_call 117; refine (HP.out _).mono ?_; rintro _ w1 ⟨rfl, hb1⟩; have HB1 := Lib.hid hb1; clear hb1)
          go_ret2
          have hd := HD.out
          simp only [Bool.false_eq_true, if_false] at hd
          exact ⟨ret_ii (by rw [HK.out, hd]) (by rw [HK.out, hd]), HJ.out.2.trans (HB1.out.mono HJ.out.2.size)⟩
      · have hltI : ¬ (K : Int) < (N : Int) := by omega
        have hd := HJ.out.1
        rw [List.drop_of_length_le (i := K) (by rw [HN.out]; omega)] at hd
        have HD := Lib.hid hd
        clear hd
        go_wp2_with fail
        go_ret2
        exact ⟨ret_ii (by rw [HK.out, HD.out]; rfl) (by rw [HK.out, HD.out]; rfl), HJ.out.2⟩

/-- The error of the first filter that may not be. -/
def errF (ls : List (List (List UInt8))) : Int := match ls.find? fun l => !right9 l with
  | some l => (check9 l).2
  | none => 0
theorem errF_drop {ls : List (List (List UInt8))} {K : Nat} {l : List (List UInt8)} (h : ls[K]? = some l) : errF (ls.drop K) = if (check9 l).2 = 0 then errF (ls.drop (K + 1)) else (check9 l).2 := by
  obtain ⟨hlt, rfl⟩ := List.getElem?_eq_some_iff.1 h
  rw [List.drop_eq_getElem_cons hlt]
  unfold errF
  by_cases hr : right9 ls[K] = true
  · rw [if_pos ((check9_right _).2 hr), List.find?_cons_of_neg (by rw [hr]; simp)]
  · rw [if_neg (fun e => hr ((check9_right _).1 e)), List.find?_cons_of_pos (by simp [hr])]
theorem errF_zero {ls : List (List (List UInt8))} : errF ls = 0 ↔ ∀ l ∈ ls, right9 l = true := by
  unfold errF
  cases h : ls.find? fun l => !right9 l with
  | none =>
    simp only [true_iff]
    intro l hl
    have := List.find?_eq_none.1 h l hl
    simpa using this
  | some l =>
    have h1 := List.find?_some h
    have h2 := List.mem_of_find?_eq_some h
    simp only [Bool.not_eq_true'] at h1
    constructor
    · intro e
      have := (check9_right l).1 e
      rw [h1] at this; cases this
    · intro e
      rw [e l h2] at h1; cases h1

theorem Tss.below {w w' : World} {v : Value} {ls : List (List (List UInt8))} (h : Tss w v ls) (hb : Below w.heap.size w w') : Tss w' v ls := by
  obtain ⟨vs, h1, h2, h3⟩ := h
  exact ⟨vs, h1.below hb, h2, fun j u l hu hl => (h3 j u l hu hl).below hb⟩
/-- A list of lists, opened. -/
theorem Tss.open {w : World} {v : Value} {ls : List (List (List UInt8))} (h : Tss w v ls) : ∃ a cap, v = .slice a ls.length cap ∧ ∀ (j : Nat) l, ls[j]? = some l → ∃ b off u, a = some ⟨b, off, none⟩ ∧ w.cell? ⟨b, off + j, none⟩ = some u ∧ Ts w u l := by
  obtain ⟨vs, ⟨a, cap, rfl, hc⟩, hl, h3⟩ := h
  refine ⟨a, cap, by rw [hl], fun j l hj => ?_⟩
  obtain ⟨u, hu⟩ : ∃ u, vs[j]? = some u := ⟨_, List.getElem?_eq_getElem (by rw [hl]; exact (List.getElem?_eq_some_iff.1 hj).1)⟩
  obtain ⟨b, off, ha, hcell⟩ := hc j u hu
  exact ⟨b, off, u, ha, hcell, h3 j u l hu hj⟩

end Go.Proofs.YtebglkpejdoggaaGreat.P8
