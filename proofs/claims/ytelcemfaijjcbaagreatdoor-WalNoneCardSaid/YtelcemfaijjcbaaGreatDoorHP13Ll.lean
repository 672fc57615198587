/-
  Layer 13, plainly: what is safe grows; a log that is good goes on through calls, or is left as it may be.
  Layer 13, plainly: what Open finds behind a crash, and what it leaves.
  Layer 13, the program: slices.Delete: the first elements of a row of one's own are taken away.
  Layer 13, the program: Trim.
-/
import Derived.Test.YtelcemfaijjcbaaGreatDoorHP13Nm
import Derived.Test.YtelcemfaijjcbaaGreatDoorHP13Ls
import Derived.Test.YtelcemfaijjcbaaGreatDoorHP12Pl
import Derived.Test.YtelcemfaijjcbaaGreatDoorHP13Lb
import Derived.Test.YtelcemfaijjcbaaGreatDoorHP13Lo
import Derived.Deep.RegionLaw
import Derived.Lib.SliceRun
import Derived.Test.YtelcemfaijjcbaaGreatDoorHP13Li
import Derived.Test.YtelcemfaijjcbaaGreatDoorHP12Pp
import Derived.Deep.LoopGhost
namespace Go.Proofs.YtelcemfaijjcbaaGreatDoor.C13
open Go Go.RowKit Go.Proofs Go.Proofs.YtelcemfaijjcbaaGreatDoor.B Go.Proofs.YtelcemfaijjcbaaGreatDoor.K Go.Proofs.YtelcemfaijjcbaaGreatDoor.C12
set_option linter.unusedVariables false

section
variable {nm : Int → List UInt8} {recs : List (List UInt8)}
theorem Good.low {L : Lg} (h : Good nm recs L) : 0 ≤ L.u ∧ L.u ≤ recs.length := by
  cases h with
  | none D h hf hd => exact ⟨Int.le_refl _, by show (0 : Int) ≤ _; omega⟩
  | some D i s u h hl hd =>
    have h1 := (h.has s h.mem).low
    have h2 := h.low
    have h3 := h.high
    exact ⟨by show 0 ≤ u; omega, by show u ≤ _; omega⟩
theorem app_grows {L : Lg} (h : Good nm recs L) (M : Nat) (r : List UInt8) : L.u ≤ (appG nm M L r).1.u := by
  cases h with
  | none D h hf hd =>
    unfold appG
    simp only [List.getLast?_nil]
    split <;> exact Int.le_refl _
  | some D i s u h hl hd =>
    have h3 := h.high
    unfold appG
    simp only [List.getLast?_append, List.getLast?_singleton, Option.some_or]
    split
    · split
      · split <;> exact h3
      · exact Int.le_refl _
    · split <;> exact Int.le_refl _
theorem sync_grows {L : Lg} (h : Good nm recs L) : L.u ≤ (syncG nm L).1.u := by
  cases h with
  | none D h hf hd => exact Int.le_refl _
  | some D i s u h hl hd =>
    have h3 := h.high
    unfold syncG
    simp only [List.getLast?_append, List.getLast?_singleton, Option.some_or]
    split
    · exact h3
    · exact Int.le_refl _
theorem trim_good {L : Lg} (h : Good nm recs L) (n : Int) : ((trimG nm n L.l L.D).2.2 = 0 ∧ Good nm recs ⟨(trimG nm n L.l L.D).2.1, (trimG nm n L.l L.D).1, L.u⟩) ∨ ((trimG nm n L.l L.D).2.2 ≠ 0 ∧ Left nm recs (trimG nm n L.l L.D).2.1 L.u) := by
  cases h with
  | none D h hf hd => exact Or.inl ⟨rfl, Good.none D h hf hd⟩
  | some D i s u h hl hd =>
    obtain ⟨i', D', e, e1, e2, e3, e4, e5⟩ := trim_keeps (n := n) i D h hd
    show ((trimG nm n (i ++ [s]) D).2.2 = 0 ∧ _) ∨ _
    dsimp only
    rw [e1]
    rcases e3 with ⟨rfl, e3⟩ | ⟨rfl, e3⟩
    · exact Or.inl ⟨rfl, Good.some D' i' s u e2 hl e3⟩
    · exact Or.inr ⟨by show (11 : Int) ≠ 0; decide, Left.some recs i' s (List.prefix_refl _) e2⟩
/-- What an Open finds behind a crash of a log that was left: nothing, or records of those, at least what was safe. -/
theorem Left.crash {D : Dst} {u : Int} (h : Left nm recs D u) (keep : List Int) : (D.files = [] ∧ crashGo D.files keep = [] ∧ u = 0) ∨
    ∃ (r : List (List UInt8)) (i : List Seg) (s : Seg) (p m : Nat), r <+: recs ∧ m ≤ s.rs.length ∧ But nm (crashGo D.files keep) i s ∧ findF (crashGo D.files keep) (nm s.n) = Option.some ⟨nm s.n, (encL s.n s.rs).take p, []⟩ ∧ p ≤ (encL s.n s.rs).length ∧
      parseL ((encL s.n s.rs).take p) s.n = (s.rs.take m, (encL s.n (s.rs.take m)).length) ∧ (encL s.n (s.rs.take m)).length ≤ p ∧ (∀ a ∈ i, parseL (encL a.n a.rs) a.n = (a.rs, (encL a.n a.rs).length)) ∧
      Keeps nm r (setF (crashGo D.files keep) ⟨nm s.n, encL s.n (s.rs.take m), []⟩) i ⟨s.n, s.rs.take m⟩ (s.n + m) ∧
      firstS (i ++ [⟨s.n, s.rs.take m⟩]) ≤ u ∧ u ≤ nextS (i ++ [⟨s.n, s.rs.take m⟩]) ∧ nextS (i ++ [⟨s.n, s.rs.take m⟩]) ≤ recs.length := by
  cases h with
  | none hf hu => exact Or.inl ⟨hf, by rw [hf]; rfl, hu⟩
  | some r i s hr h =>
    obtain ⟨p, m, h1, h2, h3, h4, h5, h6, h7, h8, h9⟩ := h.open keep
    obtain ⟨f1, f2, f3⟩ := firm_crash h h1 h2
    have := hr.length_le
    exact Or.inr ⟨r, i, s, p, m, hr, h1, h3, h4, h5, h6, h7, h8, h9, f1, f2, by omega⟩
end
end Go.Proofs.YtelcemfaijjcbaaGreatDoor.C13

namespace Go.Proofs.YtelcemfaijjcbaaGreatDoor.C13
open Go Go.RowKit Go.Proofs Go.Proofs.YtelcemfaijjcbaaGreatDoor.B Go.Proofs.YtelcemfaijjcbaaGreatDoor.K Go.Proofs.YtelcemfaijjcbaaGreatDoor.C12
set_option linter.unusedVariables false

theorem names_nums : ∀ (fs : List Fl), (∀ f ∈ fs, ∃ n : Nat, n < 100 ∧ f.name = nmW (n : Int)) → ∃ ns : List Nat, namesOf fs = ns.map (fun n : Nat => nmW (n : Int)) ∧ ∀ n ∈ ns, n < 100
  | [], _ => ⟨[], rfl, fun n hn => by cases hn⟩
  | f :: fs, h => by
    obtain ⟨n, h1, h2⟩ := h f (List.mem_cons_self ..)
    obtain ⟨ns, h3, h4⟩ := names_nums fs fun g hg => h g (List.mem_cons_of_mem _ hg)
    refine ⟨n :: ns, ?_, fun k hk => ?_⟩
    · show f.name :: namesOf fs = _
      rw [h2, h3]; rfl
    · rcases List.mem_cons.1 hk with rfl | hk'
      · exact h1
      · exact h4 k hk'
theorem goes_no {D : Dst} (ha : D.armed = 0) : goesD D = (D, false) := by unfold goesD; rw [if_pos ha]
theorem go_no {D : Dst} (ha : D.armed = 0) (k : Dst → Dst) : goD D k = (k D, 0) := by unfold goD; rw [goes_no ha]; rfl
theorem sync_no {D : Dst} (hd : D.down = false) (ha : D.armed = 0) {s : List UInt8} {f : Fl} (hf : findF D.files s = some f) : syncD D s = (putF D ⟨s, f.safe ++ f.more, []⟩, 0) := by
  unfold syncD someD
  rw [hd, if_neg (by simp), hf]
  exact go_no ha _
theorem trunc_no {D : Dst} (hd : D.down = false) (ha : D.armed = 0) {s : List UInt8} {b : List UInt8} (hf : findF D.files s = some ⟨s, b, []⟩) {n : Nat} (hn : n ≤ b.length) : truncD D s n = (putF D ⟨s, b.take n, []⟩, 0) := by
  unfold truncD someD
  rw [hd, if_neg (by simp), hf]
  (try dsimp only)
  rw [if_neg (by simp; omega), go_no ha, if_pos (by omega), Int.toNat_natCast]
theorem sort_nums {ns : List Nat} {l : List Int} (hl : l.Pairwise (· < ·)) (hnd : ns.Nodup) (hm : ∀ x : Int, x ∈ ns.map (fun n : Nat => (n : Int)) ↔ x ∈ l) : sortI (ns.map fun n : Nat => (n : Int)) = l := by
  have hp : (sortI (ns.map fun n : Nat => (n : Int))).Pairwise (· < ·) := by
    have h1 : (sortI (ns.map fun n : Nat => (n : Int))).Pairwise fun a b => decide (a ≤ b) = true := List.pairwise_mergeSort (fun a b c h1 h2 => by simp at h1 h2 ⊢; omega) (fun a b => by simp; omega) _
    have h2 : (sortI (ns.map fun n : Nat => (n : Int))).Nodup := (List.mergeSort_perm _ _).nodup_iff.2 (List.Pairwise.map _ (fun a b h e => h (by have e2 : (a : Int) = (b : Int) := e; omega)) hnd)
    exact (h1.and h2).imp fun ⟨h3, h4⟩ => by simp at h3; omega
  exact sorted_eq hp hl fun x => by rw [← hm x]; exact (List.mergeSort_perm _ _).mem_iff
set_option maxHeartbeats 1000000 in
theorem mend_some {D : Dst} (hd : D.down = false) (ha : D.armed = 0) (hok : ∀ f ∈ D.files, f.safe.length + f.more.length ≤ 65536) {i : List Seg} {s : Seg} {m : Nat} {Bp : List UInt8} (hb : But nmW D.files i s) (hf : findF D.files (nmW s.n) = some ⟨nmW s.n, Bp, []⟩)
    (hp : parseL Bp s.n = (s.rs.take m, (encL s.n (s.rs.take m)).length)) (hE : (encL s.n (s.rs.take m)).length ≤ Bp.length) (ht : Bp.take (encL s.n (s.rs.take m)).length = encL s.n (s.rs.take m)) (hpi : ∀ a ∈ i, parseL (encL a.n a.rs) a.n = (a.rs, (encL a.n a.rs).length))
    (hn : ∀ a ∈ i ++ [s], 0 ≤ a.n ∧ a.n < 100) (hfl : (flatS (i ++ [⟨s.n, s.rs.take m⟩])).length ≤ 1000) :
    ∃ ns by_ T D', OnDisk D ns (i ++ [⟨s.n, s.rs.take m⟩]) by_ T ∧ Mend D (i ++ [⟨s.n, s.rs.take m⟩]) T D' ∧ D' = { D with files := setF D.files ⟨nmW s.n, encL s.n (s.rs.take m), []⟩ } := by
  obtain ⟨E, hEe⟩ : ∃ E, (encL s.n (s.rs.take m)).length = E := ⟨_, rfl⟩
  rw [hEe] at hp hE ht
  have hsm : s ∈ i ++ [s] := List.mem_append_right _ (List.mem_singleton.2 rfl)
  have hlink := linked_put (s' := ⟨s.n, s.rs.take m⟩) hb.link rfl
  have hnum : ∀ a ∈ i ++ [(⟨s.n, s.rs.take m⟩ : Seg)], 0 ≤ a.n ∧ a.n < 100 := fun a h => by
    rcases List.mem_append.1 h with h1 | h1
    · exact hn a (List.mem_append_left _ h1)
    · obtain rfl := List.mem_singleton.1 h1
      exact hn s hsm
  obtain ⟨ns, hns, h100⟩ := names_nums D.files fun f hff => by
    obtain ⟨a, ha', e⟩ := hb.only f hff
    obtain ⟨h0, h1⟩ := hn a ha'
    exact ⟨a.n.toNat, by omega, by rw [e, Int.toNat_of_nonneg h0]⟩
  have hread : ∀ a ∈ i ++ [(⟨s.n, s.rs.take m⟩ : Seg)], ∃ b, findF D.files (nmW a.n) = some ⟨nmW a.n, b, []⟩ := fun a h => by
    rcases List.mem_append.1 h with h1 | h1
    · exact ⟨_, hb.each a h1⟩
    · obtain rfl := List.mem_singleton.1 h1
      exact ⟨_, hf⟩
  have hby : ∀ x b, findF D.files (nmW x) = some ⟨nmW x, b, []⟩ → readD D (nmW x) = (b, 0) := fun x b h => by rw [read_file hd h]; simp
  refine ⟨ns, fun x => (readD D (nmW x)).1, decide ((E : Int) < (Bp.length : Int)), _, ⟨hns, h100, ?_, hlink, hnum, fun a h => ?_, fun a h => ?_, fun a h => ?_, fun K y hy => ?_, hfl⟩, ⟨fun e => by simp at e, fun _ => ?_⟩, rfl⟩
  · refine sort_nums (List.pairwise_map.2 (linked_apart hlink)) ?_ fun x => ?_
    · have h1 : (namesOf D.files).Nodup := List.pairwise_map.2 hb.rise.ne
      rw [hns] at h1
      exact (List.pairwise_map.1 h1).imp fun h e => h (by rw [e])
    · constructor
      · intro hx
        obtain ⟨n, hn1, rfl⟩ := List.mem_map.1 hx
        have : nmW (n : Int) ∈ namesOf D.files := by rw [hns]; exact List.mem_map.2 ⟨n, hn1, rfl⟩
        obtain ⟨f, hff, e⟩ := List.mem_map.1 this
        obtain ⟨a, ha', e2⟩ := hb.only f hff
        have e3 := nmW_inj (n : Int) a.n (by omega) (hn a ha').1 (by rw [← e, e2])
        rcases List.mem_append.1 ha' with h1 | h1
        · exact List.mem_map.2 ⟨a, List.mem_append_left _ h1, e3.symm⟩
        · obtain rfl := List.mem_singleton.1 h1
          exact List.mem_map.2 ⟨⟨a.n, a.rs.take m⟩, List.mem_append_right _ (List.mem_singleton.2 rfl), e3.symm⟩
      · intro hx
        obtain ⟨a, ha', rfl⟩ := List.mem_map.1 hx
        obtain ⟨b, hfb⟩ := hread a ha'
        obtain ⟨h1, h2⟩ := find_facts hfb
        have : nmW a.n ∈ namesOf D.files := List.mem_map.2 ⟨_, h1, rfl⟩
        rw [hns] at this
        obtain ⟨n, hn1, e⟩ := List.mem_map.1 this
        exact List.mem_map.2 ⟨n, hn1, nmW_inj (n : Int) a.n (by omega) (hnum a ha').1 e⟩
  · obtain ⟨b, hfb⟩ := hread a h
    rw [hby _ _ hfb]
  · rcases List.mem_append.1 h with h1 | h1
    · rw [hby _ _ (hb.each a h1)]; exact hpi a h1
    · obtain rfl := List.mem_singleton.1 h1
      (try dsimp only)
      rw [hby _ _ hf, hp, hEe]
  · obtain ⟨b, hfb⟩ := hread a h
    rw [hby _ _ hfb]
    have := hok _ (find_facts hfb).1
    simpa using this
  · by_cases hK : K < i.length
    · have h1 : y ∈ i := by
        rw [List.getElem?_append_left hK] at hy
        exact List.mem_of_getElem? hy
      rw [hby _ _ (hb.each y h1), if_neg (by rw [List.length_append]; simp; omega)]
      simp
    · have hKl := (List.getElem?_eq_some_iff.1 hy).1
      rw [List.length_append] at hKl
      simp only [List.length_singleton] at hKl
      have hKe : K = i.length := by omega
      subst hKe
      rw [List.getElem?_append_right (Nat.le_refl _), Nat.sub_self] at hy
      obtain rfl : (⟨s.n, s.rs.take m⟩ : Seg) = y := by simpa using hy
      rw [if_pos (by rw [List.length_append]; rfl)]
      (try dsimp only)
      rw [hby _ _ hf, hEe]
  · obtain ⟨n, hnn⟩ : ∃ n : Nat, s.n = (n : Int) := ⟨s.n.toNat, by have := (hn s hsm).1; omega⟩
    have hset : ∀ f : Fl, f.name = nmW s.n → setF (setF D.files f) ⟨nmW s.n, encL s.n (s.rs.take m), []⟩ = setF D.files ⟨nmW s.n, encL s.n (s.rs.take m), []⟩ := fun f e => set_set hb.rise f _ e
    refine ⟨gsOf i, n, (E : Int), if E < Bp.length then putF D ⟨nmW s.n, Bp.take E, []⟩ else D, ?_, by have := (hn s hsm).2; omega, ?_, ?_, fun a h => ?_⟩
    · unfold gsOf
      rw [List.map_append]
      simp only [List.map_cons, List.map_nil]
      rw [hEe, hnn]
    · unfold cutD
      by_cases hlt : E < Bp.length
      · rw [if_pos (by simpa using hlt), if_pos hlt, ← hnn]
        exact trunc_no hd ha hf hE
      · rw [if_neg (by simpa using hlt), if_neg hlt]
    · rw [← hnn]
      by_cases hlt : E < Bp.length
      · rw [if_pos hlt]
        have h1 : findF (putF D ⟨nmW s.n, Bp.take E, []⟩).files (nmW s.n) = some ⟨nmW s.n, Bp.take E, []⟩ := find_set_self hb.rise ⟨nmW s.n, Bp.take E, []⟩
        rw [sync_no (D := putF D ⟨nmW s.n, Bp.take E, []⟩) hd ha h1]
        unfold putF
        (try dsimp only)
        rw [List.append_nil, ht, hset _ rfl]
      · rw [if_neg hlt]
        rw [sync_no hd ha hf]
        unfold putF
        (try dsimp only)
        have : Bp = encL s.n (s.rs.take m) := by rw [← ht, List.take_of_length_le (by omega)]
        rw [List.append_nil, ← this]
    · obtain ⟨x, hx, rfl⟩ := List.mem_map.1 h
      have h1 := hn x (List.mem_append_left _ hx)
      refine ⟨h1.1, h1.2, ?_⟩
      (try dsimp only)
      unfold safeD
      (try dsimp only)
      have hne : nmW s.n ≠ nmW x.n := fun e => by
        have e2 := hb.inj s hsm x (List.mem_append_left _ hx) e
        have hp2 := linked_apart hb.link
        rw [List.pairwise_append] at hp2
        have := hp2.2.2 x hx s (List.mem_singleton.2 rfl)
        omega
      rw [find_set_other hb.rise (by exact hne), hb.each x hx]
theorem mend_none {D : Dst} (hf : D.files = []) : OnDisk D [] [] (fun _ => []) false ∧ Mend D [] false D := by
  refine ⟨⟨by rw [hf]; rfl, (fun n h => by cases h), ?_, trivial, (fun a h => by cases h), (fun a h => by cases h), (fun a h => by cases h), (fun a h => by cases h), (fun K y h => by simp at h), Nat.zero_le _⟩, ⟨fun _ => rfl, fun h => absurd rfl h⟩⟩
  show sortI [] = []
  unfold sortI; rw [List.mergeSort_nil]
end Go.Proofs.YtelcemfaijjcbaaGreatDoor.C13

namespace Go.Proofs.YtelcemfaijjcbaaGreatDoor.C13
open Go Go.RowKit Go.Proofs Go.Proofs.YtelcemfaijjcbaaGreatDoor.B Go.Proofs.YtelcemfaijjcbaaGreatDoor.K Go.Proofs.YtelcemfaijjcbaaGreatDoor.P8 Go.Proofs.YtelcemfaijjcbaaGreatDoor.C12
set_option linter.unusedVariables false
set_option maxRecDepth 100000
theorem seg_infoD : ∃ i, Tryz.prog.info? 76 = some i ∧ i.zero = some (.agg #[.int .i64 0, .int .i64 0]) ∧ i.size = 2 ∧ i.bytes = 16 := by
  have h : (Tryz.prog.info? 76).map (fun i => (i.zero, i.size, i.bytes)) = some (some (.agg #[.int .i64 0, .int .i64 0]), 2, 16) := by kernel_rfl
  obtain ⟨i, hi, e⟩ := Option.map_eq_some_iff.1 h
  simp only [Prod.mk.injEq] at e
  exact ⟨i, hi, e.1, e.2.1, e.2.2⟩
theorem tn_cells (g : Nat) : ∀ (vs : List Value) (o : Nat) (w : World), Tn (fun i => i = g) w (w.setCells g o vs)
  | [], _, w => Tn.refl _ _
  | v :: r, o, w => (tn_set w g o v).trans (tn_cells g r (o + 1) _)
theorem heap_cells (g : Nat) (T : TypeId) : ∀ (vs : List Value) (o : Nat) (w : World) (cur : Array Value), w.heap[g]? = some (.cells cur T (0, 0)) →
    ∃ cur', (w.setCells g o vs).heap[g]? = some (.cells cur' T (0, 0)) ∧ cur'.size = cur.size ∧ ∀ j, cur'[j]? = if o ≤ j ∧ j < o + vs.length ∧ j < cur.size then vs[j - o]? else cur[j]?
  | [], o, w, cur, h => ⟨cur, h, rfl, fun j => by rw [if_neg (by simp; omega)]⟩
  | v :: r, o, w, cur, h => by
    obtain ⟨cur', h1, h2, h3⟩ := heap_cells g T r (o + 1) (w.setCell ⟨g, o, none⟩ v) _ (cells_set w g o cur T v h)
    rw [Array.size_setIfInBounds] at h2 h3
    refine ⟨cur', h1, h2, fun j => ?_⟩
    rw [h3 j, List.length_cons]
    by_cases hj : j = o
    · subst hj
      rw [if_neg (by omega), Array.getElem?_setIfInBounds, if_pos rfl]
      by_cases hs : j < cur.size
      · rw [if_pos hs, if_pos ⟨Nat.le_refl _, by omega, hs⟩]; simp
      · rw [if_neg hs, if_neg (by omega), Array.getElem?_eq_none (by omega)]
    · by_cases hc : o + 1 ≤ j ∧ j < o + 1 + r.length ∧ j < cur.size
      · rw [if_pos hc, if_pos ⟨by omega, by omega, hc.2.2⟩, show j - o = (j - (o + 1)) + 1 from by omega, List.getElem?_cons_succ]
      · rw [if_neg hc, if_neg (by omega), Array.getElem?_setIfInBounds, if_neg (fun e => hj e.symm)]
theorem run_clear_any {P : Program} (w : World) (t e ty : TypeId) (z : Value) (ht : P.underlying t = some (.slice e)) (hv : ∀ w, (zeroValue e).run P w = .ok z w) (b o n c : Nat) (hn : 0 < n) (cs : List Value) (hzc : (Builtin.zeroCells z.cells n).toList = cs) (h1 : ∀ v ∈ cs, v.oneCell' = true)
    (hc : ∀ j, j < cs.length → (w.cell? ⟨b, o + j, none⟩).isSome = true) (hf : ∀ j, j < cs.length → w.frozen? ⟨b, o + j, none⟩ = false) :
    (Builtin.clear_ #[t] ty #[.slice (some ⟨b, o, none⟩) n c]).run P w = .ok (.tuple #[]) (w.setCells b o cs) := by
  have hst := run_storeCells_cells (P := P) b o cs 0 w (by simpa using hc) (by simpa using hf) h1
  simp only [Nat.add_zero] at hst
  obtain ⟨m, rfl⟩ : ∃ m, n = m + 1 := ⟨n - 1, by omega⟩
  simp [Builtin.clear_, run_underlying ht, hv, hzc, hst]
theorem zero_cells (z : List Value) (n : Nat) (hz : 0 < z.length) : (Builtin.zeroCells z.toArray n).toList.length = n * z.length ∧ ∀ v ∈ (Builtin.zeroCells z.toArray n).toList, v ∈ z := by
  constructor
  · simp [Builtin.zeroCells]
  · intro v hv
    simp [Builtin.zeroCells] at hv
    obtain ⟨a, ha, rfl⟩ := hv
    rw [List.getElem?_eq_getElem (Nat.mod_lt a hz)]
    exact List.getElem_mem _

set_option maxHeartbeats 4000000 in
theorem del_str {w : World} {g n cap k : Nat} {xs : List Value} (h : w.ownsRow 0 9 1 (.slice (some ⟨g, 0, none⟩) n cap) n xs) (h1 : ∀ v ∈ xs, v.oneCell' = true) (hk : 1 ≤ k) (hkn : k ≤ n) :
    Calls Tryz.prog 40 #[.slice (some ⟨g, 0, none⟩) n cap, .int .i64 0, .int .i64 (k : Int)] w fun e w' => e = .returned (.slice (some ⟨g, 0, none⟩) (n - k) cap) ∧ w'.ownsRow 0 9 1 (.slice (some ⟨g, 0, none⟩) (n - k) cap) (n - k) (xs.drop (k * 1)) ∧ Tn (fun i => i = g) w w' := by
  obtain ⟨i0, hi0, hz0, hz1, hz2⟩ := str_info
  have hl := h.1
  rcases h.2 with ⟨e0, _⟩ | ⟨g', cap', cur, e0, hb, hg, hn, hm, hs, ht⟩
  · cases e0
  cases e0
  obtain ⟨news, hnews⟩ : ∃ news, xs.drop (k * 1) = news := ⟨_, rfl⟩
  rw [hnews]
  have hlen : news.length = (n - k) * 1 := by rw [← hnews, List.length_drop, hl]; omega
  have hxs : ∀ j u, xs[j]? = some u → cur[j]? = some u := fun j u hj => by
    have hlt : j < n * 1 := by rw [← hl]; exact (List.getElem?_eq_some_iff.1 hj).1
    rw [← ht, List.getElem?_take, if_pos hlt, Array.getElem?_toList] at hj
    exact hj
  have hcc : ∀ j u, cur[j]? = some u → w.drew.cell? ⟨g, j, none⟩ = some u := fun j u hj => (row_at hg j u hj).1
  obtain ⟨A, hA, hsrc⟩ : ∃ A : Addr, (if cap = k then some (⟨g, 0, none⟩ : Addr) else some ⟨g, k, none⟩) = some A ∧ Hid (∀ t u, news[t]? = some u → w.drew.cell? (A.add t) = some u) := by
    by_cases hck : cap = k
    · refine ⟨⟨g, 0, none⟩, by simp [hck], fun t u hu => ?_⟩
      have h0 : news.length = 0 := by rw [hlen]; omega
      rw [List.length_eq_zero_iff.1 h0] at hu
      simp at hu
    · refine ⟨⟨g, k, none⟩, by simp [hck], fun t u hu => ?_⟩
      rw [← hnews, List.getElem?_drop] at hu
      rw [show (⟨g, k, none⟩ : Addr).add t = ⟨g, k * 1 + t, none⟩ by unfold Addr.add; split <;> simp_all]
      exact hcc _ _ (hxs _ _ hu)
  have s1 : Hid (news.length = (n - k) * 1) := hlen
  have s2 : Hid (∀ u ∈ news, u.oneCell' = true) := fun u hu => h1 u (by rw [← hnews] at hu; exact List.mem_of_mem_drop hu)
  have s3 : Hid (∀ t, t < news.length → (w.drew.cell? ⟨g, 0 + 0 * 1 + t, none⟩).isSome = true ∧ w.drew.frozen? ⟨g, 0 + 0 * 1 + t, none⟩ = false) := fun t ht' => by
    rw [hlen] at ht'
    have htc : t < cur.size := by rw [hs]; have := Nat.mul_le_mul_right 1 hn; have : (n - k) * 1 ≤ n * 1 := Nat.mul_le_mul_right _ (Nat.sub_le _ _); omega
    have := row_at hg t _ (Array.getElem?_eq_getElem htc)
    rw [Nat.zero_mul, Nat.zero_add]
    exact ⟨by rw [show w.drew.cell? ⟨g, t, none⟩ = _ from this.1]; rfl, this.2⟩
  obtain ⟨W1, hW1⟩ : ∃ W1, w.drew.setCells g (0 + 0 * 1) news = W1 := ⟨_, rfl⟩
  obtain ⟨cur1, c1, c2, c3⟩ := heap_cells g 9 news (0 + 0 * 1) w.drew cur hg
  rw [hW1] at c1
  have hT1 : Tn (fun i => i = g) w W1 := (Tn.of_below (Below.refl _ _).drew).trans (hW1 ▸ tn_cells g news _ _)
  obtain ⟨zs, hzs⟩ : ∃ zs, (Builtin.zeroCells #[.string ⟨#[]⟩] k).toList = zs := ⟨_, rfl⟩
  have hzc := zero_cells [.string ⟨#[]⟩] k (by simp)
  rw [show ([.string ⟨#[]⟩] : List Value).toArray = #[.string ⟨#[]⟩] from rfl, hzs] at hzc
  have hz1' : ∀ v ∈ zs, v.oneCell' = true := fun v hv => by
    have := hzc.2 v hv
    simp at this
    first | (rcases this with rfl | rfl <;> rfl) | (subst this; rfl)
  have hcl : ∀ ty, (Builtin.clear_ #[54] ty #[.slice (some ⟨g, n - k, none⟩) k (cap - (n - k))]).run Tryz.prog W1 = .ok (.tuple #[]) (W1.setCells g (n - k) zs) := fun ty =>
    run_clear_any W1 _ _ ty _ Tryz.underlying54 Tryz.zeroValue9 g (n - k) k _ (by omega) zs hzs hz1' (fun t ht' => by
      have htc : n - k + t < cur1.size := by
        rw [c2, hs]
        rw [hzc.1] at ht'
        simp at ht'
        omega
      rw [(row_at c1 _ _ (Array.getElem?_eq_getElem htc)).1]; rfl) (fun t ht' => by
      have htc : n - k + t < cur1.size := by
        rw [c2, hs]
        rw [hzc.1] at ht'
        simp at ht'
        omega
      exact (row_at c1 _ _ (Array.getElem?_eq_getElem htc)).2)
  obtain ⟨cur2, d1, d2, d3⟩ := heap_cells g 9 zs (n - k) W1 cur1 c1
  have HEND := Lib.hid (show (W1.setCells g (n - k) zs).ownsRow 0 9 1 (.slice (some ⟨g, 0, none⟩) (n - k) cap) (n - k) news ∧ Tn (fun i => i = g) w (W1.setCells g (n - k) zs) from by
    refine ⟨⟨hlen, .inr ⟨g, cap, cur2, rfl, Nat.zero_le _, d1, by omega, hm, by rw [d2, c2]; exact hs, ?_⟩⟩, hT1.trans (tn_cells g zs _ _)⟩
    apply List.ext_getElem?
    intro j
    rw [List.getElem?_take]
    by_cases hj : j < (n - k) * 1
    · have hjs : j < cur.size := by rw [hs]; have := Nat.mul_le_mul_right 1 hn; have : (n - k) * 1 ≤ n * 1 := Nat.mul_le_mul_right _ (Nat.sub_le _ _); omega
      rw [if_pos hj, Array.getElem?_toList, d3 j, if_neg (by omega), c3 j, if_pos ⟨by omega, by rw [hlen]; omega, hjs⟩]
      simp
    · rw [if_neg hj, List.getElem?_eq_none (by omega)])
  have hW : Hid (w.drew.setCells g (0 + 0 * 1) news = W1) := hW1
  have hkc : k ≤ cap := by omega
  clear hW1 hb hg hm hs ht hl h hxs hcc hnews hlen c1 c2 c3 d1 d2 d3 hT1 hzs hzc hz1' h1
  have hkI : ((0 : Int) == (k : Int)) = false := by
    have : (0 : Int) ≠ (k : Int) := by omega
    simpa using this
  have hknI : (k : Int) ≤ (n : Int) := by omega
  have hk0I : (0 : Int) ≤ (k : Int) := by omega
  have hnk : n - (n - k) = k := by omega
  have hcnk : ¬ cap = n - k := by omega
  have hnkI : (n : Int) - (n - k : Nat) = (k : Int) := by omega
  have hnkI2 : ((n - k : Nat) : Int) ≤ (n : Int) := by omega
  go_enter Tryz.func40, Tryz.ntmps40
  go_wp2_with fail
  go_region_law (refine step_append_room rfl (.tmp 22) (.tmp 25) 54 rfl 9 i0 1 Tryz.underlying54 hi0 hz1 g 0 0 cap (by simp [Act.eval, Act.put]) A (n - k) (cap - k) news (by simp [Act.eval, Act.put]; try exact hA) s1.out hsrc.out s2.out (by omega) s3.out ?_; rw [hW.out])
  go_wp2
  go_ret
  exact ⟨rfl, HEND.out⟩

set_option maxHeartbeats 4000000 in
theorem del_seg {w : World} {g n cap k : Nat} {xs : List Value} (h : w.ownsRow 0 76 2 (.slice (some ⟨g, 0, none⟩) n cap) n xs) (h1 : ∀ v ∈ xs, v.oneCell' = true) (hk : 1 ≤ k) (hkn : k ≤ n) :
    Calls Tryz.prog 39 #[.slice (some ⟨g, 0, none⟩) n cap, .int .i64 0, .int .i64 (k : Int)] w fun e w' => e = .returned (.slice (some ⟨g, 0, none⟩) (n - k) cap) ∧ w'.ownsRow 0 76 2 (.slice (some ⟨g, 0, none⟩) (n - k) cap) (n - k) (xs.drop (k * 2)) ∧ Tn (fun i => i = g) w w' := by
  obtain ⟨i0, hi0, hz0, hz1, hz2⟩ := seg_infoD
  have hl := h.1
  rcases h.2 with ⟨e0, _⟩ | ⟨g', cap', cur, e0, hb, hg, hn, hm, hs, ht⟩
  · cases e0
  cases e0
  obtain ⟨news, hnews⟩ : ∃ news, xs.drop (k * 2) = news := ⟨_, rfl⟩
  rw [hnews]
  have hlen : news.length = (n - k) * 2 := by rw [← hnews, List.length_drop, hl]; omega
  have hxs : ∀ j u, xs[j]? = some u → cur[j]? = some u := fun j u hj => by
    have hlt : j < n * 2 := by rw [← hl]; exact (List.getElem?_eq_some_iff.1 hj).1
    rw [← ht, List.getElem?_take, if_pos hlt, Array.getElem?_toList] at hj
    exact hj
  have hcc : ∀ j u, cur[j]? = some u → w.drew.cell? ⟨g, j, none⟩ = some u := fun j u hj => (row_at hg j u hj).1
  obtain ⟨A, hA, hsrc⟩ : ∃ A : Addr, (if cap = k then some (⟨g, 0, none⟩ : Addr) else some ⟨g, k * 2, none⟩) = some A ∧ Hid (∀ t u, news[t]? = some u → w.drew.cell? (A.add t) = some u) := by
    by_cases hck : cap = k
    · refine ⟨⟨g, 0, none⟩, by simp [hck], fun t u hu => ?_⟩
      have h0 : news.length = 0 := by rw [hlen]; omega
      rw [List.length_eq_zero_iff.1 h0] at hu
      simp at hu
    · refine ⟨⟨g, k * 2, none⟩, by simp [hck], fun t u hu => ?_⟩
      rw [← hnews, List.getElem?_drop] at hu
      rw [show (⟨g, k * 2, none⟩ : Addr).add t = ⟨g, k * 2 + t, none⟩ by unfold Addr.add; split <;> simp_all]
      exact hcc _ _ (hxs _ _ hu)
  have s1 : Hid (news.length = (n - k) * 2) := hlen
  have s2 : Hid (∀ u ∈ news, u.oneCell' = true) := fun u hu => h1 u (by rw [← hnews] at hu; exact List.mem_of_mem_drop hu)
  have s3 : Hid (∀ t, t < news.length → (w.drew.cell? ⟨g, 0 + 0 * 2 + t, none⟩).isSome = true ∧ w.drew.frozen? ⟨g, 0 + 0 * 2 + t, none⟩ = false) := fun t ht' => by
    rw [hlen] at ht'
    have htc : t < cur.size := by rw [hs]; have := Nat.mul_le_mul_right 2 hn; have : (n - k) * 2 ≤ n * 2 := Nat.mul_le_mul_right _ (Nat.sub_le _ _); omega
    have := row_at hg t _ (Array.getElem?_eq_getElem htc)
    rw [Nat.zero_mul, Nat.zero_add]
    exact ⟨by rw [show w.drew.cell? ⟨g, t, none⟩ = _ from this.1]; rfl, this.2⟩
  obtain ⟨W1, hW1⟩ : ∃ W1, w.drew.setCells g (0 + 0 * 2) news = W1 := ⟨_, rfl⟩
  obtain ⟨cur1, c1, c2, c3⟩ := heap_cells g 76 news (0 + 0 * 2) w.drew cur hg
  rw [hW1] at c1
  have hT1 : Tn (fun i => i = g) w W1 := (Tn.of_below (Below.refl _ _).drew).trans (hW1 ▸ tn_cells g news _ _)
  obtain ⟨zs, hzs⟩ : ∃ zs, (Builtin.zeroCells #[.int .i64 0, .int .i64 0] k).toList = zs := ⟨_, rfl⟩
  have hzc := zero_cells [.int .i64 0, .int .i64 0] k (by simp)
  rw [show ([.int .i64 0, .int .i64 0] : List Value).toArray = #[.int .i64 0, .int .i64 0] from rfl, hzs] at hzc
  have hz1' : ∀ v ∈ zs, v.oneCell' = true := fun v hv => by
    have := hzc.2 v hv
    simp at this
    first | (rcases this with rfl | rfl <;> rfl) | (subst this; rfl)
  have hcl : ∀ ty, (Builtin.clear_ #[72] ty #[.slice (some ⟨g, (n - k) * 2, none⟩) k (cap - (n - k))]).run Tryz.prog W1 = .ok (.tuple #[]) (W1.setCells g ((n - k) * 2) zs) := fun ty =>
    run_clear_any W1 _ _ ty _ Tryz.underlying72 Tryz.zeroValue76 g ((n - k) * 2) k _ (by omega) zs hzs hz1' (fun t ht' => by
      have htc : (n - k) * 2 + t < cur1.size := by
        rw [c2, hs]
        rw [hzc.1] at ht'
        simp at ht'
        omega
      rw [(row_at c1 _ _ (Array.getElem?_eq_getElem htc)).1]; rfl) (fun t ht' => by
      have htc : (n - k) * 2 + t < cur1.size := by
        rw [c2, hs]
        rw [hzc.1] at ht'
        simp at ht'
        omega
      exact (row_at c1 _ _ (Array.getElem?_eq_getElem htc)).2)
  obtain ⟨cur2, d1, d2, d3⟩ := heap_cells g 76 zs ((n - k) * 2) W1 cur1 c1
  have HEND := Lib.hid (show (W1.setCells g ((n - k) * 2) zs).ownsRow 0 76 2 (.slice (some ⟨g, 0, none⟩) (n - k) cap) (n - k) news ∧ Tn (fun i => i = g) w (W1.setCells g ((n - k) * 2) zs) from by
    refine ⟨⟨hlen, .inr ⟨g, cap, cur2, rfl, Nat.zero_le _, d1, by omega, hm, by rw [d2, c2]; exact hs, ?_⟩⟩, hT1.trans (tn_cells g zs _ _)⟩
    apply List.ext_getElem?
    intro j
    rw [List.getElem?_take]
    by_cases hj : j < (n - k) * 2
    · have hjs : j < cur.size := by rw [hs]; have := Nat.mul_le_mul_right 2 hn; have : (n - k) * 2 ≤ n * 2 := Nat.mul_le_mul_right _ (Nat.sub_le _ _); omega
      rw [if_pos hj, Array.getElem?_toList, d3 j, if_neg (by omega), c3 j, if_pos ⟨by omega, by rw [hlen]; omega, hjs⟩]
      simp
    · rw [if_neg hj, List.getElem?_eq_none (by omega)])
  have hW : Hid (w.drew.setCells g (0 + 0 * 2) news = W1) := hW1
  have hkc : k ≤ cap := by omega
  clear hW1 hb hg hm hs ht hl h hxs hcc hnews hlen c1 c2 c3 d1 d2 d3 hT1 hzs hzc hz1' h1
  have hkI : ((0 : Int) == (k : Int)) = false := by
    have : (0 : Int) ≠ (k : Int) := by omega
    simpa using this
  have hknI : (k : Int) ≤ (n : Int) := by omega
  have hk0I : (0 : Int) ≤ (k : Int) := by omega
  have hnk : n - (n - k) = k := by omega
  have hcnk : ¬ cap = n - k := by omega
  have hnkI : (n : Int) - (n - k : Nat) = (k : Int) := by omega
  have hnkI2 : ((n - k : Nat) : Int) ≤ (n : Int) := by omega
  go_enter Tryz.func39, Tryz.ntmps39
  go_wp2_with fail
  go_region_law (refine step_append_room rfl (.tmp 22) (.tmp 25) 72 rfl 76 i0 2 Tryz.underlying72 hi0 hz1 g 0 0 cap (by simp [Act.eval, Act.put]) A (n - k) (cap - k) news (by simp [Act.eval, Act.put]; try exact hA) s1.out hsrc.out s2.out (by omega) s3.out ?_; rw [hW.out])
  go_wp2
  go_ret
  exact ⟨rfl, HEND.out⟩
end Go.Proofs.YtelcemfaijjcbaaGreatDoor.C13

namespace Go.Proofs.YtelcemfaijjcbaaGreatDoor.C13
open Go Go.RowKit Go.Proofs Go.Proofs.YtelcemfaijjcbaaGreatDoor.B Go.Proofs.YtelcemfaijjcbaaGreatDoor.K Go.Proofs.YtelcemfaijjcbaaGreatDoor.P8 Go.Proofs.YtelcemfaijjcbaaGreatDoor.C12
set_option linter.unusedVariables false
set_option maxRecDepth 100000
section
variable {w W W' : World} {F G : Nat → Prop} {lp d : Nat} {M u : Int} {sg rv : Value} {gs : List (Int × Int)} {rs : List (List UInt8)} {D : Dst}
/-- Segments and records stand anew, in blocks of one's own. -/
theorem LDid.anew {F' G' : Nat → Prop} {gs' : List (Int × Int)} {rs' : List (List UInt8)} {sg' rv' : Value} {j : Nat} {x : Value} (h1 : PAt W F' d D) (h2 : LIn W G' lp d M sg rv gs rs u) (h3 : ∀ i, G' i → ¬ F' i) (h4 : Chg (fun i => F i ∨ G i) (fun i => F' i ∨ G' i) w W)
    (t : Tn (fun i => sg.ownBlock = some i ∨ rv.ownBlock = some i) W W') (hs : W'.ownsRow 0 76 2 sg' gs'.length (pairCells gs')) (hr : W'.ownsRow 0 9 1 rv' rs'.length (rs'.map sv)) (es : sg'.ownBlock = sg.ownBlock) (er : rv'.ownBlock = rv.ownBlock)
    (hx : (#[.pointer (some ⟨d, 0, none⟩), .string lgS, .int .i64 M, sg, rv, .int .i64 u] : Array Value).setIfInBounds j x = #[.pointer (some ⟨d, 0, none⟩), .string lgS, .int .i64 M, sg', rv', .int .i64 u]) : LDid F G lp d M D gs' rs' u w (W'.setCell ⟨lp, j, none⟩ x) := by
  obtain ⟨o1, o2⟩ := h2.offs
  have hc : W'.heap[lp]? = some (.cells #[.pointer (some ⟨d, 0, none⟩), .string lgS, .int .i64 M, sg, rv, .int .i64 u] 74 (0, 0)) := (t.block lp (h2.lt lp h2.ownl) (by rintro (h | h); exact o1 h; exact o2 h)).trans h2.cell
  have t1 : Tn G' W (W'.setCell ⟨lp, j, none⟩ x) := (tn_mono t fun i hi => by
    rcases hi with h | h
    · exact h2.owns i h
    · exact h2.ownr i h).trans (tn_mono (tn_set W' lp j x) fun i e => e ▸ h2.ownl)
  refine ⟨F', G', sg', rv', h1.tn t1 fun i hi e => h3 i e hi, ⟨?_, row_keep hs fun g hg => cells_far _ _ _ _ _ fun e => o1 (by rw [← es, hg, e]), row_keep hr fun g hg => cells_far _ _ _ _ _ fun e => o2 (by rw [← er, hg, e]), h2.ownl, fun g hg => h2.owns g (es ▸ hg), fun g hg => h2.ownr g (er ▸ hg), fun i hi => Nat.lt_of_lt_of_le (h2.lt i hi) t1.size⟩, h3, h4.trans ⟨tn_mono t1 fun i hi => Or.inr hi, fun i hi => Or.inl hi⟩⟩
  have := cells_set W' lp j _ _ x hc
  rwa [hx] at this
theorem pair_one (l : List (Int × Int)) : ∀ v ∈ pairCells l, v.oneCell' = true := pairCells_one l
theorem do_delseg {a : Int × Int} (h : LDid F G lp d M D (a :: gs) rs u w W) (hc : W.cell? ⟨lp, 3, none⟩ = some sg) : Calls Tryz.prog 39 #[sg, .int .i64 0, .int .i64 1] W fun e w' => ∃ x c, e = .returned (.slice x gs.length c) ∧ (w'.cell? ⟨lp, 3, none⟩ = some sg ∧ w'.frozen? ⟨lp, 3, none⟩ = false) ∧ LDid F G lp d M D gs rs u w (w'.setCell ⟨lp, 3, none⟩ (.slice x gs.length c)) := by
  obtain ⟨F', G', sg0, rv, h1, h2, h3, h4⟩ := h.open
  have e := (row_at h2.cell 3 _ rfl).1
  rw [hc] at e
  obtain rfl : sg0 = sg := (Option.some.inj e).symm
  obtain ⟨b, cap, rfl, -, -, -, -⟩ := h2.seg (by simp)
  obtain ⟨o1, o2⟩ := h2.offs
  refine (del_seg (k := 1) h2.segs (pair_one _) (Nat.le_refl _) (by simp)).mono ?_
  rintro e w' ⟨he, k1, k2⟩
  have t : Tn (fun i => (Value.slice (some ⟨b, 0, none⟩) (a :: gs).length cap).ownBlock = some i ∨ rv.ownBlock = some i) W w' := tn_mono k2 fun i e => Or.inl (by rw [e]; rfl)
  have hcell : w'.heap[lp]? = _ := (t.block lp (h2.lt lp h2.ownl) (by rintro (h | h); exact o1 h; exact o2 h)).trans h2.cell
  refine ⟨_, _, he, row_at hcell 3 _ rfl, LDid.anew h1 h2 h3 h4 t (sg' := .slice (some ⟨b, 0, none⟩) ((a :: gs).length - 1) cap) (rv' := rv) ?_ ?_ rfl rfl rfl⟩
  · have e2 : pairCells (a :: gs) = .int .i64 a.1 :: .int .i64 a.2 :: pairCells gs := by simp [pairCells]
    rw [e2] at k1
    simpa using k1
  · exact row_keep h2.recs fun g hg => k2.block g (h2.lt g (h2.ownr g hg)) fun e => h2.apart (g := b) rfl (by rw [hg, e])
theorem do_delrec {k : Nat} (h : LDid F G lp d M D gs rs u w W) (hk : 1 ≤ k) (hkn : k ≤ rs.length) (hc : W.cell? ⟨lp, 4, none⟩ = some rv) : Calls Tryz.prog 40 #[rv, .int .i64 0, .int .i64 (k : Int)] W fun e w' => ∃ x c, e = .returned (.slice x (rs.length - k) c) ∧ (w'.cell? ⟨lp, 4, none⟩ = some rv ∧ w'.frozen? ⟨lp, 4, none⟩ = false) ∧ LDid F G lp d M D gs (rs.drop k) u w (w'.setCell ⟨lp, 4, none⟩ (.slice x (rs.length - k) c)) := by
  obtain ⟨F', G', sg, rv0, h1, h2, h3, h4⟩ := h.open
  have e := (row_at h2.cell 4 _ rfl).1
  rw [hc] at e
  obtain rfl : rv0 = rv := (Option.some.inj e).symm
  obtain ⟨b, cap, rfl⟩ : ∃ b cap, rv0 = .slice (some ⟨b, 0, none⟩) rs.length cap := by
    rcases h2.recs.2 with ⟨_, h0⟩ | ⟨b, cap, cur, e, _⟩
    · omega
    · exact ⟨b, cap, e⟩
  obtain ⟨o1, o2⟩ := h2.offs
  refine (del_str (k := k) h2.recs (fun v hv => by obtain ⟨x, _, rfl⟩ := List.mem_map.1 hv; rfl) hk hkn).mono ?_
  rintro e w' ⟨he, k1, k2⟩
  have t : Tn (fun i => sg.ownBlock = some i ∨ (Value.slice (some ⟨b, 0, none⟩) rs.length cap).ownBlock = some i) W w' := tn_mono k2 fun i e => Or.inr (by rw [e]; rfl)
  have hcell : w'.heap[lp]? = _ := (t.block lp (h2.lt lp h2.ownl) (by rintro (h | h); exact o1 h; exact o2 h)).trans h2.cell
  refine ⟨_, _, he, row_at hcell 4 _ rfl, LDid.anew h1 h2 h3 h4 t (sg' := sg) (rv' := .slice (some ⟨b, 0, none⟩) (rs.length - k) cap) ?_ ?_ rfl rfl rfl⟩
  · exact row_keep h2.segs fun g hg => k2.block g (h2.lt g (h2.owns g hg)) fun e => h2.apart hg (by rw [e]; rfl)
  · rw [List.length_drop, List.map_drop]
    simpa using k1
theorem do_remove (s : List UInt8) (hs : s.length ≤ 1000000) (h : LDid F G lp d M D gs rs u w W) : Calls Tryz.prog 37 #[.pointer (some ⟨d, 0, none⟩), .string (str s)] W fun e w' => e = .returned (.int .i64 (removeD D s).2) ∧ LDid F G lp d M (removeD D s).1 gs rs u w w' := by
  obtain ⟨F', G', sg, rv, h1, h2, h3, h4⟩ := h.open
  refine (premove_any h1 s (by unfold maxLen; omega)).mono fun e w' hw => ?_
  obtain ⟨he, F2, G2, sg2, rv2, k1, k2, k3, k4⟩ := LDid.wrote h2 h3 (Below.refl _ _) hw
  exact ⟨he, F2, G2, sg2, rv2, k1, k2, k3, h4.trans k4⟩
theorem LDid.recs (h : LDid F G lp d M D gs rs u w W) : ∃ a c, W.cell? ⟨lp, 4, none⟩ = some (.slice a rs.length c) := by
  obtain ⟨F', G', sg, rv, h1, h2, h3, h4⟩ := h.open
  obtain ⟨a, c, rfl⟩ := shape_own h2.recs
  exact ⟨a, c, (row_at h2.cell 4 _ rfl).1⟩
/-- The cells that Trim's test reads. -/
theorem LDid.second {a b : Int × Int} (h : LDid F G lp d M D (a :: b :: gs) rs u w W) : ∃ x c, W.cell? ⟨lp, 3, none⟩ = some (.slice (some ⟨x, 0, none⟩) (gs.length + 2) c) ∧ W.cell? ⟨x, 2, none⟩ = some (.int .i64 b.1) := by
  obtain ⟨F', G', sg, rv, h1, h2, h3, h4⟩ := h.open
  obtain ⟨x, c, rfl, -, -, -, hc⟩ := h2.seg (by simp)
  exact ⟨x, c, (row_at h2.cell 3 _ rfl).1, (hc 1 b rfl).1⟩
end
end Go.Proofs.YtelcemfaijjcbaaGreatDoor.C13
