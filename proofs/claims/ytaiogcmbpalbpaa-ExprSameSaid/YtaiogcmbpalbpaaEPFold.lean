/-
  Contract of the program of layer 3: Fold.
-/
import Derived.Test.YtaiogcmbpalbpaaEPFoldM
import Derived.Test.YtaiogcmbpalbpaaEPEval
import Derived.Deep.LoopGhost
import Derived.Deep.AppendLies
import Derived.Deep.RegionLaw
namespace Go.Proofs.Ytaiogcmbpalbpaa.E
open Go Go.RowKit Go.Proofs.Ytaiogcmbpalbpaa.B Go.Proofs.Ytaiogcmbpalbpaa.K
set_option linter.unusedVariables false

/-- As many variables and arguments as there can be. -/
def most : Int := 9223372036854775807

theorem Try.info47 : (Try.prog.info? 47).map (fun i => (i.zero, i.size, i.bytes)) = some (some (.agg #[.int .i64 0, .int .i64 0]), 2, 16) := by kernel_rfl

/-- The cells of a slice of pairs, for an append. -/
theorem pair_news {w : World} {a : Option Addr} {len cap : Nat} {xs : List In} (h : SlI w (.slice a len cap) xs) : ∀ ad, a = some ad → ∀ j u, (pairCells xs)[j]? = some u → w.cell? (ad.add j) = some u := by
  intro ad ha j u hj
  have hlt : j < xs.length * 2 := by have := (List.getElem?_eq_some_iff.1 hj).1; rwa [pairCells_length] at this
  obtain ⟨i, hi⟩ : ∃ i, xs[j / 2]? = some i := ⟨_, List.getElem?_eq_getElem (by omega)⟩
  have hp := pairCells_at xs (j / 2) i hi
  obtain ⟨b, off, hb, h1, h2⟩ := h.at hi
  rw [hb] at ha
  cases ha
  rw [Lib.addr_add]
  rcases Nat.mod_two_eq_zero_or_one j with hm | hm
  · have e : j = j / 2 * 2 := by omega
    rw [e] at hj ⊢
    rw [hp.1] at hj
    cases hj
    exact h1
  · have e : j = j / 2 * 2 + 1 := by omega
    rw [e] at hj ⊢
    rw [hp.2] at hj
    cases hj
    exact h2

/-- Nothing appended, whatever capacity is told. -/
theorem run_append_none_cap {P : Program} {w : World} (base : Nat) (t ty e : TypeId) (i : TypeInfo) (size : Nat) (ht : P.underlying t = some (.slice e)) (hi : P.info? e = some i)
    (v : Value) (n c : Nat) (xs : List Value) (hown : w.ownsRow base e size v n xs) :
    (Builtin.append_ #[t, t] ty #[v, .slice none 0 c]).run P w = .ok v w := by
  rcases hown.2 with ⟨rfl, rfl⟩ | ⟨g, cap, cur, rfl, _, _, hnc, _⟩
  · simp [Builtin.append_, run_underlying ht, sizeOf, typeInfo, hi, Builtin.lenOf, Builtin.firstCells]
  · simp [Builtin.append_, run_underlying ht, sizeOf, typeInfo, hi, Builtin.lenOf, Builtin.firstCells, hnc, storeCells]

/-- An append within the room, of a slice that may be none. -/
theorem wpList_append_within {P : Program} (w : World) {ops : Array Oper} {rest : List Oper} {o : Oper} {a : Act} {Q : Exit → Act → World → Prop}
    (hg : o.guard = none) (s x : Operand) (t : TypeId) (hop : o.op = Op.call { callee := Callee.builtin Builtin.append, args := #[s, x], argTypes := #[t, t] })
    (base : Nat) (e : TypeId) (i : TypeInfo) (size : Nat) (h1 : P.underlying t = some (.slice e)) (h2 : P.info? e = some i) (h4 : i.size = size)
    (g k cap : Nat) (xs : List Value) (hs : a.eval s = .slice (some ⟨g, 0, none⟩) k cap) (hown : w.ownsRow base e size (.slice (some ⟨g, 0, none⟩) k cap) k xs) (ao : Option Addr) (m c : Nat) (news : List Value) (hx : a.eval x = .slice ao m c) (hn : news.length = m * size)
    (hnone : ao = none → m = 0) (hc : ∀ ad, ao = some ad → ∀ j u, news[j]? = some u → w.cell? (ad.add j) = some u) (h1c : ∀ u ∈ news, u.oneCell' = true) (b1 : k + m ≤ cap)
    (hK : ∀ w', w'.ownsRow base e size (.slice (some ⟨g, 0, none⟩) (k + m) cap) (k + m) (xs ++ news) → w.grownBy w' (some g) → wpList P ops Q rest (a.put o.dst (.slice (some ⟨g, 0, none⟩) (k + m) cap)) w') :
    wpList P ops Q (o :: rest) a w := by
  cases ao with
  | some ad => exact wpList_append_fits w hg s x t hop base e i size h1 h2 h4 g k cap xs hs hown ad m c news hx hn (hc ad rfl) h1c b1 hK
  | none =>
    obtain rfl := hnone rfl
    have hnews : news = [] := List.eq_nil_of_length_eq_zero (by simpa using hn)
    subst hnews
    refine wpList_plain hg fun K hK' => ?_
    have hrun := run_append_none_cap (P := P) base t o.type e i size h1 h2 _ k c xs hown
    unfold Oper.wp
    simp [execOp, hop, resolve, invoke, builtin, hs, hx, hrun, Result.andThen]
    exact hK' _ _ (by simpa using hK w (by simpa using hown) (World.grownBy.refl _ _))

theorem pair_none {w : World} {a : Option Addr} {n cap : Nat} {xs : List In} (h : SlI w (.slice a n cap) xs) (hn : xs.length = n) : a = none → n = 0 := by
  intro ha
  match xs, hn, h with
  | [], hn, _ => exact hn.symm
  | i :: r, _, h =>
    obtain ⟨b, off, hb, _⟩ := h.at (j := 0) rfl
    rw [ha] at hb
    cases hb

set_option maxHeartbeats 4000000 in
set_option maxRecDepth 100000 in
theorem fold_bad (code : List In) (v : Value) (w : World) (hs : SlI w v code) (hreach : code.length * 16 ≤ 140737488351232) (he : (check code most most).2 ≠ 0) :
    Calls Try.prog 13 #[v] w fun e w' => (∃ v', e = .returned v' ∧ SlI w' v' code) ∧ Below w.heap.size w w' := by
  obtain ⟨i0, hi, hz0, hz1, hz2⟩ := info_parts Try.info47
  have HS := Lib.hid hs
  obtain ⟨a, cap, rfl, -⟩ := hs
  have hck := fun W (h : Below w.heap.size w W) => check_any code (.slice a code.length cap) most most W (HS.out.below h) (by omega)
  obtain ⟨⟨p, er⟩, hE⟩ : ∃ t, check code most most = t := ⟨_, rfl⟩
  rw [hE] at hck he
  simp only at he hck
  have be : (er != 0) = true := by simp [he]
  have HCK := Lib.hid (show ∀ W, Below w.heap.size w W → Calls Try.prog 8 #[.slice a code.length cap, .int .i64 9223372036854775807, .int .i64 9223372036854775807] W fun e w' => e = .returned (.tuple #[.int .i64 p, .int .i64 er]) ∧ Below W.heap.size W w' from hck)
  obtain ⟨n, hN⟩ : ∃ n, code.length = n := ⟨_, rfl⟩
  rw [hN] at HS HCK hreach ⊢
  have HN := Lib.hid hN
  have HNONE := Lib.hid (pair_none HS.out hN)
  have hmk := run_make_own (P := Try.prog) (w := w) w.heap.size 22 47 i0 (.agg #[.int .i64 0, .int .i64 0]) 2 Try.underlying22 hi hz0 hz1 .i64 .i64 n (by rw [hz2]; omega) (by unfold maxLen; omega) (Nat.le_refl _)
  obtain ⟨w1, hmk, hown0, hg0⟩ := hmk
  have HO := Lib.hid hown0
  have HB1 := Lib.hid ((Below.refl w.heap.size w).grown hg0 (Nat.le_refl _) (by simp))
  clear he hE hck hN hown0 hg0
  go_enter Try.func13, Try.ntmps13
  go_wp2_with fail
  go_step3
  go_wp2_with fail
  refine (HCK.out _ HB1.out).mono ?_
  rintro _ w2 ⟨rfl, hb2⟩
  have HB2 := Lib.hid (HB1.out.trans (hb2.mono HB1.out.size))
  have HO2 := Lib.hid (own_kept HO.out hb2)
  clear hb2 hmk
  go_wp2_with (at_builtin; refine wpList_append_within _ rfl _ _ 22 rfl w.heap.size 47 i0 2 Try.underlying22 hi hz1 w.heap.size 0 n [] rfl HO2.out _ n _ (pairCells code) rfl (by rw [pairCells_length, HN.out]) HNONE.out (pair_news (HS.out.below HB2.out)) (pairCells_one _) (by omega) ?_; intro w3 hown3 hgrow3)
  have HO3 := Lib.hid hown3
  have HB3 := Lib.hid (HB2.out.grown hgrow3 HB2.out.size (fun k hk => by cases hk; exact Nat.le_refl _))
  clear hown3 hgrow3
  try rw [Exit.noGoto_ret]
  go_ret
  exact ⟨⟨_, rfl, by have h := HO3.out; rw [Nat.zero_add, List.nil_append] at h; exact SlI.owns h⟩, HB3.out⟩
end Go.Proofs.Ytaiogcmbpalbpaa.E
