/-
  Layer 8, the document's answer: parts, names, patterns.
-/
import Derived.Test.YtbpphghphfbogaaP8Prog
namespace Go.Proofs.Ytbpphghphfbogaa.P8
open Go Go.RowKit Go.Shelf Go.Proofs Go.Proofs.Ytbpphghphfbogaa.B Go.Proofs.Ytbpphghphfbogaa.K
set_option linter.unusedVariables false

theorem all_step {l : List UInt8} {k : Nat} {b : UInt8} (h : l[k]? = some b) : (l.drop k).all okB = (okB b && (l.drop (k + 1)).all okB) := by
  obtain ⟨hk, rfl⟩ := List.getElem?_eq_some_iff.1 h
  rw [List.drop_eq_getElem_cons hk, List.all_cons]

theorem all_on {l : List UInt8} {K y : Nat} (HP : l.all okB = (l.drop K).all okB) (HS : (l.drop K).all okB = (okN y && (l.drop (K + 1)).all okB))
    (h : (97 ≤ y ∧ y ≤ 122) ∨ (48 ≤ y ∧ y ≤ 57) ∨ y = 45 ∨ y = 95) : l.all okB = (l.drop (K + 1)).all okB := by
  rw [(okN_iff y).2 h, Bool.true_and] at HS; exact HP.trans HS

theorem all_off {l : List UInt8} {K y : Nat} (HP : l.all okB = (l.drop K).all okB) (HS : (l.drop K).all okB = (okN y && (l.drop (K + 1)).all okB))
    (h : ¬ ((97 ≤ y ∧ y ≤ 122) ∨ (48 ≤ y ∧ y ≤ 57) ∨ y = 45 ∨ y = 95)) : plainP l = false := by
  have : okN y = false := by
    cases ho : okN y with
    | false => rfl
    | true => exact absurd ((okN_iff y).1 ho) h
  rw [this, Bool.false_and] at HS
  unfold plainP
  rw [HP, HS, Bool.and_false]

theorem plain_end {l : List UInt8} {K : Nat} (HP : l.all okB = (l.drop K).all okB) (h : l.length ≤ K) : plainP l = decide (0 < l.length) := by
  rw [List.drop_of_length_le h] at HP
  unfold plainP
  rw [HP]
  cases l with
  | nil => rfl
  | cons b l =>
    have : 0 < (b :: l).length := by simp
    rw [decide_eq_true this]; rfl

set_option maxHeartbeats 2000000 in
set_option maxRecDepth 100000 in
theorem refPlain_any (l : List UInt8) (hl : l.length ≤ 1000) (w : World) :
    Calls Try.prog 43 #[.string (str l)] w fun e w' => e = .returned (.bool (plainP l)) ∧ w = w' := by
  have hsz : (str l).size = l.length := str_size l
  go_enter Try.func43, Try.ntmps43
  go_wp2_with fail
  go_loopw [3, 4] (fun n _ wr => ∃ K : Nat, n = .int .i64 (K : Int) ∧ K ≤ l.length ∧ Hid (l.all okB = (l.drop K).all okB) ∧ wr = w) (fun n _ _ => l.length - (intOf n).toNat)
  case atStart => exact ⟨0, rfl, Nat.zero_le _, rfl, rfl⟩
  case round =>
    obtain ⟨K, rfl, hK, HP, rfl⟩ := hrel
    by_cases hlt : K < l.length
    · have hltI : (K : Int) < ((str l).size : Int) := by omega
      have hk' : K < (str l).size := by omega
      obtain ⟨b, hb⟩ : ∃ b, l[K]? = some b := ⟨_, List.getElem?_eq_getElem hlt⟩
      have hs := all_step hb
      have hg : ((str l)[K]'hk') = b := str_get8 hb hk'
      unfold okB at hs
      obtain ⟨y, hy⟩ : ∃ y, b.toNat = y := ⟨_, rfl⟩
      rw [hy] at hs
      have HS := Lib.hid (show (l.drop K).all okB = (okN y && (l.drop (K + 1)).all okB) from hs); clear hs
      have hw1 : IntKind.i64.wrap ((K : Int) + 1) = (K : Int) + 1 := IntWalk.i64_in _ (by omega)
      by_cases hy0 : (97 ≤ y ∧ y ≤ 122) ∨ (48 ≤ y ∧ y ≤ 57) ∨ y = 45 ∨ y = 95
      · have HP2 := Lib.hid (all_on HP.out HS.out hy0)
        go_wp2_with fail
        all_goals (try simp only [bne_iff_ne, bne_eq_false_iff_eq, ne_eq] at *)
        all_goals first
          | (exfalso; omega)
          | (exact ⟨⟨K + 1, by go_num, by omega, HP2.out, by first | trivial | rfl⟩, by simp [intOf]; omega⟩)
      · have ho := all_off HP.out HS.out hy0
        go_wp2_with fail
        all_goals (try simp only [bne_iff_ne, bne_eq_false_iff_eq, ne_eq] at *)
        all_goals first
          | (exfalso; omega)
          | (go_ret; first | exact ⟨rfl, rfl⟩ | (rw [ho]; exact ⟨rfl, rfl⟩))
    · have hltI : ¬ (K : Int) < ((str l).size : Int) := by omega
      have hp := plain_end HP.out (by omega)
      go_wp2_with fail
      go_ret
      first | exact ⟨rfl, rfl⟩ | (rw [hp]; exact ⟨rfl, rfl⟩)

/-- A text ahead of the first part. -/
def glue (cur : List UInt8) (P : List (List UInt8)) : List (List UInt8) := (cur ++ hd P) :: P.tail

theorem glue_nil (l : List UInt8) : glue [] (parts l) = parts l := by
  have := parts_ne l
  cases h : parts l with
  | nil => exact absurd h this
  | cons x xs => rfl

theorem glue_slash {l : List UInt8} {k : Nat} (h : l[k]? = some 47) (cur : List UInt8) : glue cur (parts (l.drop k)) = cur :: glue [] (parts (l.drop (k + 1))) := by
  obtain ⟨hk, hb⟩ := List.getElem?_eq_some_iff.1 h
  rw [List.drop_eq_getElem_cons hk, hb, glue_nil]
  simp [parts, glue, hd]

theorem glue_byte {l : List UInt8} {k : Nat} {b : UInt8} (h : l[k]? = some b) (hb : b ≠ 47) (cur : List UInt8) : glue cur (parts (l.drop k)) = glue (cur ++ [b]) (parts (l.drop (k + 1))) := by
  obtain ⟨hk, rfl⟩ := List.getElem?_eq_some_iff.1 h
  rw [List.drop_eq_getElem_cons hk]
  have : (l[k] == 47) = false := beq_eq_false_iff_ne.2 hb
  have hne := parts_ne (l.drop (k + 1))
  rw [show parts (l[k] :: l.drop (k + 1)) = if l[k] == 47 then [] :: parts (l.drop (k + 1)) else onFirst l[k] (parts (l.drop (k + 1))) from rfl, this]
  simp only [Bool.false_eq_true, if_false]
  cases hp : parts (l.drop (k + 1)) with
  | nil => exact absurd hp hne
  | cons x xs => simp [onFirst, glue, hd]

theorem glue_end (cur l : List UInt8) {k : Nat} (h : l.length ≤ k) : glue cur (parts (l.drop k)) = [cur] := by
  rw [List.drop_of_length_le h]; simp [parts, glue, hd]

theorem Try.info9 : (Try.prog.info? 9).map (fun i => (i.zero, i.size, i.bytes)) = some (some (.string ⟨#[]⟩), 1, 16) := by kernel_rfl

theorem one_cell_str (s : ByteArray) : ∀ u ∈ [Value.string s], u.oneCell' = true := by intro u hu; simp at hu; subst hu; rfl

theorem str_one {l : List UInt8} {k : Nat} {b : UInt8} (h : l[k]? = some b) (cur : List UInt8) : str cur ++ (str l).extract k (k + 1) = str (cur ++ [b]) := by
  obtain ⟨hk, rfl⟩ := List.getElem?_eq_some_iff.1 h
  rw [str_extract, str_append, show k + 1 - k = 1 by omega, List.drop_eq_getElem_cons hk]
  rfl

/-- A slice of parts in memory. -/
def Pt (w : World) (v : Value) (P : List (List UInt8)) : Prop :=
  ∃ b off cap, v = .slice (some ⟨b, off, none⟩) P.length cap ∧ P.length ≤ cap ∧ ∀ j x, P[j]? = some x → w.cell? ⟨b, off + j, none⟩ = some (sv x)

theorem Pt.below {w w' : World} {v : Value} {P : List (List UInt8)} (h : Pt w v P) (hb : Below w.heap.size w w') : Pt w' v P := by
  obtain ⟨b, off, cap, rfl, hc, hx⟩ := h
  exact ⟨b, off, cap, rfl, hc, fun j x hj => (hb.cell (p := ⟨b, off + j, none⟩) (World.block_lt_of_cell? w _ (hx j x hj))).trans (hx j x hj)⟩

theorem pt_owns {w : World} {base n : Nat} {v : Value} {P : List (List UInt8)} (h : w.ownsRow base 9 1 v n (P.map sv)) (hn : P.length = n) (h0 : 0 < n) : Pt w v P := by
  obtain ⟨hl, h⟩ := h
  rcases h with ⟨rfl, h0'⟩ | ⟨g, cap, cur, rfl, _, hg, h1, h2, h3, ht⟩
  · omega
  · subst hn
    rw [Nat.mul_one] at ht
    refine ⟨g, 0, cap, rfl, by omega, fun j x hj => ?_⟩
    have := Lib.cells_of_row hg P.length j (sv x) (by rw [ht, List.getElem?_map, hj]; rfl)
    rw [Lib.addr_add] at this
    exact this

set_option maxHeartbeats 2000000 in
set_option maxRecDepth 100000 in
theorem split_any (l : List UInt8) (hl : l.length ≤ 1000) (w : World) :
    Calls Try.prog 64 #[.string (str l), .int .u8 47] w fun e w' => ∃ v, e = .returned v ∧ Pt w' v (parts l) ∧ Below w.heap.size w w' := by
  obtain ⟨i0, hi, hz0, hz1, hz2⟩ := info_parts Try.info9
  have hsz : (str l).size = l.length := str_size l
  go_enter Try.func64, Try.ntmps64
  go_wp2_with fail
  go_loopw [5, 6, 7] (fun out c k wr => ∃ (K : Nat) (n : Nat) (done : List (List UInt8)) (cur : List UInt8), k = .int .i64 (K : Int) ∧ c = .string (str cur) ∧ K ≤ l.length ∧ n ≤ K ∧ cur.length ≤ K ∧ Hid (done.length = n) ∧
      Hid (parts l = done ++ glue cur (parts (l.drop K))) ∧ wr.ownsRow w.heap.size 9 1 out n (done.map sv) ∧ Below w.heap.size w wr) (fun _ _ k _ => l.length - (intOf k).toNat)
  case atStart => exact ⟨0, 0, [], [], rfl, rfl, Nat.zero_le _, Nat.le_refl _, Nat.le_refl _, rfl, (glue_nil l).symm, World.ownsRow_nil _ _ _ _, Below.refl _ _⟩
  case round =>
    obtain ⟨K, n, done, cur, rfl, rfl, hK, hn, hcur, HD, HG, hown, hbel⟩ := hrel
    have hc4 : (n + 1) * 16 ≤ 140737488355328 := by omega
    have hc5 : w.heap.size ≤ (wr.alloc (.cells #[.string (str cur)] 9)).heap.size := by have := hbel.size; simp; omega
    have HC4 := Lib.hid hc4; clear hc4
    have HC5 := Lib.hid hc5; clear hc5
    by_cases hlt : K < l.length
    · have hltI : (K : Int) < ((str l).size : Int) := by omega
      have hk' : K < (str l).size := by omega
      obtain ⟨b, hb⟩ : ∃ b, l[K]? = some b := ⟨_, List.getElem?_eq_getElem hlt⟩
      have hg : ((str l)[K]'hk') = b := str_get8 hb hk'
      have hw1 : IntKind.i64.wrap ((K : Int) + 1) = (K : Int) + 1 := IntWalk.i64_in _ (by omega)
      by_cases h47 : b = 47
      · subst h47
        have HG2 := Lib.hid (HG.out.trans (congrArg (done ++ ·) (glue_slash hb cur)))
        go_wp2_with (at_builtin; refine wpList_append_own _ rfl _ _ 22 rfl w.heap.size 9 i0 (.string ⟨#[]⟩) 1 16 Try.underlying22 hi hz0 hz1 hz2 rfl (by decide) _ _ _ rfl (hown.alloc _) ⟨wr.heap.size, 0, none⟩ 1 1 [.string (str cur)] rfl rfl (one_new _ _ _) (one_cell_str _) (by unfold maxLen; omega) HC4.out HC5.out ?_; intro v' w1 hown' hgrow hnn; clear hnn)
        have hb1 : Below w.heap.size w w1 := (hbel.alloc hbel.size _).grown hgrow HC5.out (owns_block hown)
        clear hgrow hown
        go_wp2_with fail
        refine ⟨⟨K + 1, n + 1, done ++ [cur], [], by go_num, rfl, by omega, by omega, by simp, ?_, ?_, ?_, hb1⟩, by simp [intOf]; omega⟩
        · show _ = _
          rw [List.length_append, HD.out]; rfl
        · show _ = _
          rw [HG2.out]; simp
        · rw [List.map_append]; exact hown'
      · have HG2 := Lib.hid (HG.out.trans (congrArg (done ++ ·) (glue_byte hb h47 cur)))
        have hbI : ((b.toNat : Int) == 47) = false := by
          rw [beq_eq_false_iff_ne]; intro h
          exact h47 (UInt8.toNat_inj.1 (by show b.toNat = 47; omega))
        have hsum := str_one hb cur
        have hs1 : (str cur).size ≤ 1000 := by rw [str_size]; omega
        have hs2 : ((str l).extract K (K + 1)).size ≤ 1 := by rw [ByteArray.size_extract]; omega
        go_wp2_with fail
        exact ⟨⟨K + 1, n, done, cur ++ [b], by go_num, rfl, by omega, by omega, by simp; omega, HD.out, HG2.out, hown, hbel⟩, by simp [intOf]; omega⟩
    · have hltI : ¬ (K : Int) < ((str l).size : Int) := by omega
      have HG2 := Lib.hid (HG.out.trans (congrArg (done ++ ·) (glue_end cur l (by omega))))
      go_wp2_with (at_builtin; refine wpList_append_own _ rfl _ _ 22 rfl w.heap.size 9 i0 (.string ⟨#[]⟩) 1 16 Try.underlying22 hi hz0 hz1 hz2 rfl (by decide) _ _ _ rfl (hown.alloc _) ⟨wr.heap.size, 0, none⟩ 1 1 [.string (str cur)] rfl rfl (one_new _ _ _) (one_cell_str _) (by unfold maxLen; omega) HC4.out HC5.out ?_; intro v' w1 hown' hgrow hnn; clear hnn)
      have hb1 : Below w.heap.size w w1 := (hbel.alloc hbel.size _).grown hgrow HC5.out (owns_block hown)
      go_ret
      refine ⟨_, rfl, ?_, hb1⟩
      rw [HG2.out]
      exact pt_owns (by rw [List.map_append]; exact hown') (by rw [List.length_append, HD.out]; rfl) (by omega)

end Go.Proofs.Ytbpphghphfbogaa.P8
