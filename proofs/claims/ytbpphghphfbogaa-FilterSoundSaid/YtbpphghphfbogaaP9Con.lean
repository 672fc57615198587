/-
  Layer 9: what the program's functions answer (the laws are proved from this alone), the laws' own helpers, and their awake.
-/
import Derived.Test.YtbpphghphfbogaaP9RefB
import Derived.Test.YtbpphghphfbogaaIArgs
import Derived.SizedLaws
import Derived.Deep.QuietTactic
import Derived.BigQuiet
import Derived.Laws.AppendOwnNone
namespace Go.Proofs.Ytbpphghphfbogaa.P8
open Go Go.RowKit Go.Shelf Go.Proofs Go.Proofs.Ytbpphghphfbogaa.B Go.Proofs.Ytbpphghphfbogaa.K
set_option linter.unusedVariables false
set_option maxRecDepth 100000

/-- Lists of texts such as machines hold. -/
def Bd (l : List (List UInt8)) : Prop := l.length ≤ 4611686018427387904 ∧ ∀ x ∈ l, x.length ≤ 140737488355328
theorem Bd.big {l : List (List UInt8)} (h : Bd l) : ∀ x ∈ l, x.length ≤ 9223372036854775807 := fun x hx => by have := h.2 x hx; omega
theorem Bd.big1 {l : List (List UInt8)} (h : Bd l) : ∀ x ∈ l, x.length ≤ 9223372036854775806 := fun x hx => by have := h.2 x hx; omega
theorem Bd.take {l : List (List UInt8)} (h : Bd l) (n : Nat) : Bd (l.take n) := ⟨by rw [List.length_take]; have := h.1; omega, fun x hx => h.2 x (List.mem_of_mem_take hx)⟩
theorem Bd.sub {l m : List (List UInt8)} (h : Bd l) (hl : m.length ≤ l.length) (hm : ∀ x ∈ m, x ∈ l) : Bd m := ⟨Nat.le_trans hl h.1, fun x hx => h.2 x (hm x hx)⟩
theorem Bd.least {l : List (List UInt8)} (h : Bd l) : Bd (leastL l) := h.sub (least_len l) fun _ hx => least_sub hx
def normF (l : List (List UInt8)) : List (List UInt8) := if right9 l then leastL l else []
theorem Bd.norm {l : List (List UInt8)} (h : Bd l) : Bd (normF l) := by
  unfold normF
  split
  · exact h.least
  · exact ⟨by simp, fun x hx => by cases hx⟩
def unionF (ls : List (List (List UInt8))) : List (List UInt8) × Int := match ls.find? fun l => !right9 l with
  | some l => ([], (check9 l).2)
  | none => if 8 < (leastL ls.flatten).length then ([], 4) else (leastL ls.flatten, 0)
/-- A list of lists of texts in memory. -/
def Tss (w : World) (v : Value) (ls : List (List (List UInt8))) : Prop := ∃ vs : List Value, Sl w v vs ∧ vs.length = ls.length ∧ ∀ (j : Nat) u l, vs[j]? = some u → ls[j]? = some l → Ts w u l

/-- What the program's functions answer. -/
structure Filt : Prop where
  check : ∀ (l : List (List UInt8)) (v : Value) (w : World), Ts w v l → Bd l → Calls Try.prog 8 #[v] w fun e w' => e = .returned (.tuple #[.int .i64 (check9 l).1, .int .i64 (check9 l).2]) ∧ Below w.heap.size w w'
  normal : ∀ (l : List (List UInt8)) (v : Value) (w : World), Ts w v l → Bd l → Calls Try.prog 11 #[v] w fun e w' => ∃ u, e = .returned u ∧ Ts w' u (normF l) ∧ Below w.heap.size w w'
  has : ∀ (l : List (List UInt8)) (s : List UInt8) (v : Value) (w : World), Ts w v l → Bd l → s.length ≤ 140737488355328 → Calls Try.prog 12 #[v, .string (str s)] w fun e w' => e = .returned (.bool (hasF l s)) ∧ Below w.heap.size w w'
  covers : ∀ (l m : List (List UInt8)) (v u : Value) (w : World), Ts w v l → Ts w u m → Bd l → Bd m → Calls Try.prog 17 #[v, u] w fun e w' => e = .returned (.bool (covF l m)) ∧ Below w.heap.size w w'
  meet : ∀ (l m : List (List UInt8)) (v u : Value) (w : World), Ts w v l → Ts w u m → Bd l → Bd m → Calls Try.prog 19 #[v, u] w fun e w' => e = .returned (.bool (metF l m)) ∧ Below w.heap.size w w'
  union : ∀ (ls : List (List (List UInt8))) (v : Value) (w : World), Tss w v ls → ls.length ≤ 1000 → (∀ l ∈ ls, l.length ≤ 1000 ∧ Bd l) → Calls Try.prog 22 #[v] w fun e w' => ∃ u, e = .returned (.tuple #[u, .int .i64 (unionF ls).2]) ∧ Ts w' u (unionF ls).1 ∧ Below w.heap.size w w'

set_option maxHeartbeats 1000000 in
theorem same9_any (xs : List (List UInt8)) (v v' : Value) (w : World) (hn : xs.length ≤ 4611686018427387904) (h : Ts w v xs) (h' : Ts w v' xs) :
    Calls Try.prog 13 #[v, v'] w fun e w' => e = .returned (.bool true) ∧ Below w.heap.size w w' := by
  obtain ⟨a, cap, rfl, hc⟩ := h
  obtain ⟨a', cap', rfl, hc'⟩ := h'
  rw [List.length_map]
  have hnn : ((xs.length : Int) != (xs.length : Int)) = false := by simp
  have HC := Lib.hid hc; clear hc
  have HC' := Lib.hid hc'; clear hc'
  obtain ⟨n, hN⟩ : ∃ n, xs.length = n := ⟨_, rfl⟩
  rw [hN] at hn hnn ⊢
  have HN := Lib.hid hN; clear hN
  go_enter Try.func13, Try.ntmps13
  go_wp2_with fail
  go_loopw [5] (fun i wr => ∃ k : Nat, k ≤ n ∧ i = .int .i64 (k : Int) ∧ Below w.heap.size w wr) (fun i _ => n - (intOf i).toNat)
  case atStart => exact ⟨0, Nat.zero_le _, rfl, Below.refl _ _⟩
  case round =>
    obtain ⟨k, hk, rfl, hbel⟩ := hrel
    by_cases hlt : k < n
    · obtain ⟨x, hx⟩ : ∃ x, xs[k]? = some x := ⟨_, List.getElem?_eq_getElem (by rw [HN.out]; exact hlt)⟩
      obtain ⟨b, off, rfl, hcell⟩ := HC.out k (.string (str x)) (by rw [List.getElem?_map, hx]; rfl)
      obtain ⟨b', off', rfl, hcell'⟩ := HC'.out k (.string (str x)) (by rw [List.getElem?_map, hx]; rfl)
      have hc1 : wr.cell? ⟨b, off + k, none⟩ = some (.string (str x)) := (hbel.cell (World.block_lt_of_cell? w _ hcell)).trans hcell
      have hc2 : wr.cell? ⟨b', off' + k, none⟩ = some (.string (str x)) := (hbel.cell (World.block_lt_of_cell? w _ hcell')).trans hcell'
      have hltI : (k : Int) < (n : Int) := by omega
      have hk0 : 0 ≤ (k : Int) := by omega
      clear hcell hcell' hx
      go_wp2_with fail
      go_quiet (fail)
      go_wp2_with fail
      go_roundw
      case rel => exact ⟨k + 1, by omega, by go_num, by first | exact hbel.trans ((below_drewN _ _).mono hbel.size) | exact hbel.drew | exact hbel⟩
      case measure => simp [intOf]; omega
    · have hltI : ¬ (k : Int) < (n : Int) := by omega
      go_wp2_with fail
      go_ret
      exact ⟨rfl, hbel⟩

theorem ts_few {l : List (List UInt8)} {a : Option Addr} {n cap : Nat} {w : World} (h : Ts w (.slice a n cap) l) : Ts w (.slice a (min 40 n) cap) (l.take 40) := by
  obtain ⟨a', cap', e, hx⟩ := h.open
  cases e
  refine ⟨a, cap, by rw [List.length_map, List.length_take], fun j u hj => ?_⟩
  rw [List.getElem?_map] at hj
  cases hz : (l.take 40)[j]? with
  | none => rw [hz] at hj; cases hj
  | some x =>
    rw [hz] at hj
    cases hj
    have hj40 : j < 40 := by
      have := (List.getElem?_eq_some_iff.1 hz).1
      rw [List.length_take] at this
      omega
    exact hx j x (by rw [List.getElem?_take_of_lt hj40] at hz; exact hz)
/-- At most forty of a list. -/
theorem few_pure (a : Option Addr) (n cap : Nat) (w : World) (hc : n ≤ cap) :
    Calls Try.prog 16 #[.slice a n cap] w fun e w' => e = .returned (.slice a (min 40 n) cap) ∧ w = w' := by
  by_cases h40 : 40 < n
  · have h1 : (40 : Int) < (n : Int) := by omega
    have h2 : 40 ≤ cap := by omega
    have h3 : (40 : Int) ≤ (cap : Int) := by omega
    have hne : ¬ cap = 0 := by omega
    rw [show min 40 n = 40 by omega]
    go_enter Try.func16, Try.ntmps16
    go_wp2_with fail
    go_ret
    exact ⟨rfl, rfl⟩
  · have h1 : ¬ (40 : Int) < (n : Int) := by omega
    rw [show min 40 n = n by omega]
    go_enter Try.func16, Try.ntmps16
    go_wp2_with fail
    go_ret
    exact ⟨rfl, rfl⟩
theorem few_any (l : List (List UInt8)) (a : Option Addr) (n cap : Nat) (w : World) (h : Ts w (.slice a n cap) l) (hc : n ≤ cap) :
    Calls Try.prog 16 #[.slice a n cap] w fun e w' => ∃ m k, e = .returned (.slice a m k) ∧ Ts w (.slice a m k) (l.take 40) ∧ w = w' :=
  (few_pure a n cap w hc).mono fun e w' ⟨h1, h2⟩ => ⟨_, _, h1, ts_few h, h2⟩

/-- append(s, x...), x a list of texts. -/
theorem wpList_append_ts {P : Program} (w : World) {ops : Array Oper} {rest : List Oper} {o : Oper} {a : Act} {Q : Exit → Act → World → Prop} (hgd : o.guard = none) (s x : Operand) (t e : TypeId)
    (ho : o.op = .call { callee := .builtin .append, args := #[s, x], argTypes := #[t, t] }) (base : Nat) (i : TypeInfo) (ht : P.underlying t = some (.slice e)) (hi : P.info? e = some i) (hz : i.zero = some (.string ⟨#[]⟩)) (hsize : i.size = 1) (hby : i.bytes = 16)
    (v : Value) (n : Nat) (xs : List Value) (hs : a.eval s = v) (hown : w.ownsRow base e 1 v n xs) (l : List (List UInt8)) (ax : Option Addr) (m c : Nat) (hx : a.eval x = .slice ax m c) (hT : Ts w (.slice ax m c) l) (hn : ax = none → c = 0)
    (hl : n + l.length ≤ 1000000) (hbase : base ≤ w.heap.size)
    (h : ∀ v' w', w'.ownsRow base e 1 v' (n + l.length) (xs ++ l.map sv) → Below base w w' → wpList P ops Q rest (a.put o.dst v') w') : wpList P ops Q (o :: rest) a w := by
  obtain ⟨a', cap', he, hc⟩ := hT.open
  cases he
  cases ax with
  | none =>
    obtain rfl := hn rfl
    obtain rfl : l = [] := by
      cases l with
      | nil => rfl
      | cons y l =>
        obtain ⟨b, off, hb, _⟩ := hc 0 y rfl
        cases hb
    refine wpList_append_own_none hgd s x t ho base e i 1 ht hi v n xs hs hown hx ?_
    have := h v w (by simpa using hown) (Below.refl _ _)
    exact this
  | some ad =>
    refine wpList_append_own w hgd s x t ho base e i (.string ⟨#[]⟩) 1 16 ht hi hz hsize hby rfl (by decide) v n xs hs hown ad l.length c (l.map sv) hx (by rw [List.length_map, Nat.mul_one]) (fun j u hj => ?_) (fun u hu => ?_) (by unfold maxLen; omega) (by omega) hbase fun v' w' h1 h2 _ => h v' w' h1 ((Below.refl _ _).grown h2 hbase (owns_block hown))
    · rw [List.getElem?_map] at hj
      cases hz' : l[j]? with
      | none => rw [hz'] at hj; cases hj
      | some y =>
        rw [hz'] at hj
        cases hj
        obtain ⟨b, off, hb, hcell⟩ := hc j y hz'
        cases hb
        rw [Lib.addr_add]
        exact hcell
    · obtain ⟨y, _, rfl⟩ := List.mem_map.1 hu
      rfl

theorem bd_small (l : List (List UInt8)) (h : l.length ≤ 100 ∧ (l.all fun x => decide (x.length ≤ 100)) = true) : Bd l :=
  ⟨by omega, fun x hx => by have := List.all_eq_true.1 h.2 x hx; simp at this; omega⟩
theorem below_new (w : World) (o : Obj) : Below w.heap.size w (w.alloc o) := (Below.refl _ _).alloc (Nat.le_refl _) _
theorem awake_facts : normF [[98], [97, 47, 42], [97, 47, 98], [98]] = [[97, 47, 42], [98]] ∧ hasF [[97, 47, 42], [98]] [97, 47, 99] = true ∧ hasF [[97, 47, 42], [98]] [97] = false ∧ covF [[42, 42]] [[97, 47, 42], [98]] = true ∧ metF [[97, 47, 42], [98]] [[42]] = true := by decide +kernel

theorem ts_built (w : World) (l : List (List UInt8)) (e : TypeId) (n : Nat) (hn : l.length = n) (cur : Array Value) (hc : cur.toList = l.map sv) (cap : Nat) : Ts (w.alloc (.cells cur e)) (.slice (some ⟨w.heap.size, 0, none⟩) n cap) l := by
  subst hn
  have h := Sl.row (w := w.alloc (.cells cur e)) (g := w.heap.size) (cap := cap) (xs := l.map sv) (heap_alloc_at w _) (by rw [hc, List.take_length])
  rw [List.length_map] at h
  exact h

section
open Go.ChangeShapes Go.WideShapes Go.ChangeAt
variable {H : Type} {enc : TypeId × Value → H} {P : Program} {W : World}
/-- A value that reads as a slice of texts, none of it longer than memory is. -/
theorem strs_all {t e : TypeId} (ht : P.underlying t = some (.slice e)) (he : P.underlying e = some .string) (hc : P.cellsOf e = 1) (hb : P.bytesOf e = 16) {fuel : Nat} {v : Value} {d : DataW H} {p : List MemPlace}
    (hf : DataW.trod enc P W 0 (fun _ => true) true fuel t [v] = some (d, p)) (hsz : ∀ n ∈ DataW.weights P t d, n ≤ reachBytes) :
    ∃ (a : Option Addr) (n cap : Nat) (xs : List (List UInt8)), v = .slice a n cap ∧ n ≤ cap ∧ Ts W v xs ∧ Bd xs ∧ (a = none → cap = 0) := by
  have hr : reachBytes = 140737488351232 := by decide
  rcases open_strings ht he hc hf with ⟨hcs, _⟩ | ⟨a, len, cap, ss, hcs, _, hl, hm, hz, hx, hcell, hws⟩
  · simp at hcs
    subst hcs
    exact ⟨none, 0, 0, [], rfl, Nat.le_refl _, Sl.nil W, ⟨by simp, by simp⟩, fun _ => rfl⟩
  · simp at hcs
    subst hcs
    simp only [if_true] at hz
    have hd : d = .slice (strs (ss.take len)) (strs (ss.drop len)) := by cases hx; rfl
    have hlen : ss.length * 16 ≤ reachBytes := by
      have h := hsz ((ss.take len).length * 16 + (ss.drop len).length * 16) (by
        rw [hd]
        unfold DataW.weights
        rw [ht]
        simp only [List.mem_cons]
        left
        rw [hb]
        simp [strs]
        omega)
      simp at h
      omega
    have hsl : Ts W (.slice (some a) len cap) ((ss.map (fun s => s.data.toList)).take len) := by
      unfold Ts
      rw [List.map_take]
      refine Sl.args (by rw [List.length_map, List.length_map]; omega) rfl (fun i u hi => ?_)
      rw [List.getElem?_map, List.getElem?_map] at hi
      cases hzi : ss[i]? with
      | none => rw [hzi] at hi; cases hi
      | some z =>
        rw [hzi] at hi
        obtain ⟨hil, hze⟩ := List.getElem?_eq_some_iff.1 hzi
        have := hcell i hil
        rw [this, ← hi]
        simp [List.getD, hzi, sv, str_eq]
    refine ⟨_, _, _, _, rfl, hl, hsl, ⟨by rw [List.length_take, List.length_map]; omega, fun x hx' => ?_⟩, fun h => by cases h⟩
    rw [← List.map_take] at hx'
    obtain ⟨s, hs, rfl⟩ := List.mem_map.1 hx'
    have hm : (.lit (.string s.data.toList) : DataW H) ∈ strs (ss.take len) := List.mem_map.2 ⟨s, hs, rfl⟩
    have h := hsz s.data.toList.length (by
      rw [hd]
      unfold DataW.weights
      rw [ht]
      simp only [List.mem_cons, List.mem_append]
      right; left
      exact weights_all hm)
    omega
/-- An argument of type []string. -/
theorem strs_argd {t e : TypeId} (ht : P.underlying t = some (.slice e)) (he : P.underlying e = some .string) (hc : P.cellsOf e = 1) (hb : P.bytesOf e = 16) {base : Nat} {v : Value} {d : DataW H} {p : List MemPlace}
    (hval : Value.okWide P W .any base t v) (hd : DataW.Trod enc P W 0 (fun _ => true) true t v d p) {ts : List TypeId} {ds : List (DataW H)} {j : Nat} (hts : ts[j]? = some t) (hds : ds[j]? = some d)
    (hsz : (DataW.weightsEach P ts ds).all (· ≤ reachBytes) = true) :
    ∃ (a : Option Addr) (n cap : Nat) (xs : List (List UInt8)), v = .slice a n cap ∧ n ≤ cap ∧ Ts W v xs ∧ Bd xs ∧ (a = none → cap = 0) := by
  obtain ⟨a0, len, cap, rfl⟩ := okWide_slice ht hval
  obtain ⟨fuel, hf⟩ := hd
  exact strs_all ht he hc hb (by simpa [Value.cells] using hf) fun n hn => by
    have := List.all_eq_true.1 hsz n (DataW.weights_mem_each hts hds n hn)
    simpa using this
end

set_option maxHeartbeats 1000000 in
/-- The laws' awake. -/
theorem awake9_any (F : Filt) (w : World) :
    Calls Try.prog 10 #[] w fun e w' => e = .returned (.bool true) ∧ Below w.heap.size w w' := by
  obtain ⟨f1, f2, f3, f4, f5⟩ := awake_facts
  have h0 := Below.refl w.heap.size w
  go_enter Try.func10, Try.ntmps10
  go_wp2_with fail
  refine (F.normal [[98], [97, 47, 42], [97, 47, 98], [98]] _ _ (ts_built w _ _ 4 rfl _ rfl 4) (bd_small _ (by decide))).mono ?_
  rintro _ w1 ⟨u, rfl, hu, hb1⟩
  rw [f1] at hu
  have h1 := (below_new w _).trans (hb1.mono (below_new w _).size)
  clear hb1 h0
  have hB : Bd [[97, 47, 42], [98]] := bd_small _ (by decide)
  obtain ⟨au, cu, rfl, -⟩ := id hu.open
  go_wp2_with fail
  refine (same9_any [[97, 47, 42], [98]] _ _ _ (by decide) (hu.below (below_new w1 _)) (ts_built w1 _ _ 2 rfl _ rfl 2)).mono ?_
  rintro _ w2 ⟨rfl, hb2⟩
  have h12 := (below_new w1 _).trans (hb2.mono (below_new w1 _).size)
  have h2 := h1.trans (h12.mono h1.size)
  have hu2 := hu.below h12
  clear hb2 h12 hu h1
  go_wp2_with fail
  refine (F.has _ [97, 47, 99] _ _ hu2 hB (by decide)).mono ?_
  rintro _ w3 ⟨rfl, hb3⟩
  rw [f2]
  have h3 := h2.trans (hb3.mono h2.size)
  have hu3 := hu2.below hb3
  clear hb3 hu2 h2
  go_wp2_with fail
  refine (F.has _ [97] _ _ hu3 hB (by decide)).mono ?_
  rintro _ w4 ⟨rfl, hb4⟩
  rw [f3]
  have h4 := h3.trans (hb4.mono h3.size)
  have hu4 := hu3.below hb4
  clear hb4 hu3 h3
  go_wp2_with fail
  refine (F.covers [[42, 42]] _ _ _ _ (ts_built w4 _ _ 1 rfl _ rfl 1) (hu4.below (below_new w4 _)) (bd_small _ (by decide)) hB).mono ?_
  rintro _ w5 ⟨rfl, hb5⟩
  rw [f4]
  have h45 := (below_new w4 _).trans (hb5.mono (below_new w4 _).size)
  have h5 := h4.trans (h45.mono h4.size)
  have hu5 := hu4.below h45
  clear hb5 h45 hu4 h4
  go_wp2_with fail
  refine (F.meet _ [[42]] _ _ _ (hu5.below (below_new w5 _)) (ts_built w5 _ _ 1 rfl _ rfl 1) hB (bd_small _ (by decide))).mono ?_
  rintro _ w6 ⟨rfl, hb6⟩
  rw [f5]
  have h56 := (below_new w5 _).trans (hb6.mono (below_new w5 _).size)
  have h6 := h5.trans (h56.mono h5.size)
  clear hb6 h56 hu5 h5
  go_wp2_with fail
  go_ret
  exact ⟨rfl, h6⟩

end Go.Proofs.Ytbpphghphfbogaa.P8
