/-
  Layer 12, the document's answers: which names may be, a file's place, how many bytes there are, does the disk go down.
  Layer 12, the document's answers: which names may be.
  Layer 12, the document's answers: a file is there no more.
  Layer 8: strings.Cut at '/', strings.Compare, and the function that goes through a text part by part.
  Layer 8: names and patterns, as the program tells them.
  Layer 8: two patterns side by side; what covers, matches and meets, as the program tells it.
  Layer 8: the program's functions.
  Layer 8, the document's answer: parts, names, patterns.
  Layer 8, the document's answer: what covers, matches and meets what.
-/
import Derived.Test.YthdchidlfeighaaHP12Mem
import Derived.BigQuiet
import Derived.Laws.AppendOwn
import Derived.Test.YthdchidlfeighaaHP8Math
import Derived.Lib.Bytealg
import Derived.WalkMore
import Derived.Shelf.Abstract
import Derived.Deep.LoopGhost
namespace Go.Proofs.Ythdchidlfeighaa.C12
open Go Go.RowKit Go.Proofs Go.Proofs.Ythdchidlfeighaa.B Go.Proofs.Ythdchidlfeighaa.K Go.Proofs.Ythdchidlfeighaa.P8
set_option linter.unusedVariables false
set_option maxRecDepth 100000

theorem placeGo_drop {l : List Fl} {K : Nat} {y : Fl} (s : List UInt8) (h : l[K]? = some y) : placeGo s (l.drop K) K = if y.name = s then (K : Int) else placeGo s (l.drop (K + 1)) (K + 1) := by
  obtain ⟨hlt, rfl⟩ := List.getElem?_eq_some_iff.1 h
  rw [List.drop_eq_getElem_cons hlt, placeGo]
/-- A place and the file at it belong together. -/
theorem placeGo_find (s : List UInt8) : ∀ (l : List Fl) (k : Nat), (placeGo s l k = -1 ∧ findF l s = none) ∨ ∃ (j : Nat) (f : Fl), placeGo s l k = ((k + j : Nat) : Int) ∧ l[j]? = some f ∧ findF l s = some f ∧ f.name = s
  | [], k => Or.inl ⟨rfl, rfl⟩
  | y :: l, k => by
    unfold placeGo findF
    by_cases hn : y.name = s
    · refine Or.inr ⟨0, y, ?_, rfl, ?_, hn⟩
      · rw [if_pos hn]; rfl
      · rw [List.find?_cons_of_pos (by simpa using hn)]
    · rw [if_neg hn, List.find?_cons_of_neg (by simpa using hn)]
      rcases placeGo_find s l (k + 1) with ⟨h1, h2⟩ | ⟨j, f, h1, h2, h3, h4⟩
      · exact Or.inl ⟨h1, h2⟩
      · exact Or.inr ⟨j + 1, f, by rw [h1]; congr 1; omega, by simpa using h2, h3, h4⟩
theorem place_find (l : List Fl) (s : List UInt8) : (place l s = -1 ∧ findF l s = none) ∨ ∃ (j : Nat) (f : Fl), place l s = (j : Int) ∧ l[j]? = some f ∧ findF l s = some f ∧ f.name = s := by
  have := placeGo_find s l 0
  unfold place
  simpa using this

set_option maxHeartbeats 2000000 in
theorem at_any (s : List UInt8) (b : Nat) (G : Nat → Prop) (D : Dst) (w : World) (h : RAt w G b D) :
    Calls Try.prog 25 #[.pointer (some ⟨b, 0, none⟩), .string (str s)] w fun e w' => e = .returned (.int .i64 (place D.files s)) ∧ w = w' := by
  obtain ⟨v, hrow, hfl, -⟩ := h.cell
  have hn := h.ok.count
  obtain ⟨a, cap, rfl, hc⟩ := hfl.open
  obtain ⟨N, hN⟩ : ∃ N, D.files.length = N := ⟨_, rfl⟩
  rw [hN] at hrow hn
  obtain ⟨c1, -⟩ := row_at hrow 1 _ rfl
  have HC := Lib.hid hc
  have HN := Lib.hid hN
  unfold place
  clear hc h hN hfl hrow
  go_enter Try.func25, Try.ntmps25
  go_wp2_with fail
  go_loopw [5] (fun i wr => ∃ K : Nat, i = .int .i64 (K : Int) ∧ K ≤ N ∧ Hid (placeGo s D.files 0 = placeGo s (D.files.drop K) K) ∧ wr = w) (fun i _ => N - (intOf i).toNat)
  case atStart => exact ⟨0, rfl, Nat.zero_le _, Lib.hid rfl, rfl⟩
  case round =>
    obtain ⟨K, rfl, hK, HJ, rfl⟩ := hrel
    by_cases hlt : K < N
    · have hltI : (K : Int) < (N : Int) := by omega
      have hk0 : 0 ≤ (K : Int) := by omega
      have hw1 : IntKind.i64.wrap ((K : Int) + 1) = (K : Int) + 1 := IntWalk.i64_in _ (by omega)
      obtain ⟨y, hy⟩ : ∃ y, D.files[K]? = some y := ⟨_, List.getElem?_eq_getElem (by rw [HN.out]; exact hlt)⟩
      obtain ⟨b', off, rfl, k0, -, -⟩ := HC.out K y hy
      have hd := HJ.out.trans (placeGo_drop s hy)
      by_cases hs : y.name = s
      · rw [if_pos hs] at hd
        have HD := Lib.hid hd
        have t1 : ((str y.name).toList == (str s).toList) = true := by rw [hs]; simp
        clear hd hy hs
        go_wp2_with fail
        go_ret
        exact ⟨by rw [HD.out]; rfl, rfl⟩
      · rw [if_neg hs] at hd
        have HD := Lib.hid hd
        have t1 : ((str y.name).toList == (str s).toList) = false := by rw [str_toList, str_toList]; simpa using hs
        clear hd hy hs
        go_wp2_with fail
        go_roundw
        case rel => exact ⟨K + 1, by go_num, by omega, HD, by first | rfl | trivial⟩
        case measure => simp [intOf]; omega
    · have hltI : ¬ (K : Int) < (N : Int) := by omega
      have hd := HJ.out
      rw [List.drop_of_length_le (i := K) (by rw [HN.out]; omega)] at hd
      rw [hd]
      go_wp2_with fail
      go_ret
      exact ⟨rfl, rfl⟩

theorem drewN_below (w : World) (n : Nat) : Below w.heap.size w (w.drewN n) := by
  induction n with
  | zero => exact Below.refl _ _
  | succ n ih => exact ih.drew
theorem size_set (w : World) (b i : Nat) (v : Value) : w.heap.size ≤ (w.setCell ⟨b, i, none⟩ v).heap.size := ((Below.refl 0 w).setCell (p := ⟨b, i, none⟩) (Nat.zero_le _) v).size
theorem used_take {l : List Fl} {K : Nat} {y : Fl} (h : l[K]? = some y) : usedF (l.take (K + 1)) = usedF (l.take K) + (y.safe.length + y.more.length) := by
  unfold usedF
  rw [List.take_add_one, h, List.map_append, List.sum_append]
  simp
theorem used_le {l : List Fl} (h : ∀ f ∈ l, f.safe.length + f.more.length ≤ 65536) : usedF l ≤ 65536 * l.length := by
  unfold usedF
  induction l with
  | nil => simp
  | cons y l ih =>
    rw [List.map_cons, List.sum_cons, List.length_cons]
    have h1 := h y (List.mem_cons_self ..)
    have h2 := ih fun f hf => h f (List.mem_cons_of_mem _ hf)
    omega
theorem OkD.used {D : Dst} (h : OkD D) : usedF D.files ≤ 8388608 := by
  have h1 := used_le fun f hf => (h.each f hf).2
  have h2 := h.count
  omega

set_option maxHeartbeats 2000000 in
theorem used_any (b : Nat) (G : Nat → Prop) (D : Dst) (w : World) (h : RAt w G b D) :
    Calls Try.prog 31 #[.pointer (some ⟨b, 0, none⟩)] w fun e w' => e = .returned (.int .i64 (usedF D.files : Int)) ∧ Below w.heap.size w w' := by
  obtain ⟨v, hrow, hfl, -⟩ := h.cell
  have hn := h.ok.count
  have HE := Lib.hid h.ok.each
  obtain ⟨a, cap, rfl, hc⟩ := hfl.open
  obtain ⟨N, hN⟩ : ∃ N, D.files.length = N := ⟨_, rfl⟩
  rw [hN] at hrow hn
  obtain ⟨c1, -⟩ := row_at hrow 1 _ rfl
  have HC := Lib.hid hc
  have HN := Lib.hid hN
  clear hc h hN hfl hrow
  go_enter Try.func31, Try.ntmps31
  go_wp2_with fail
  go_loopw [3, 4] (fun n i wr => ∃ K : Nat, i = .int .i64 (K : Int) ∧ K ≤ N ∧ n = .int .i64 (usedF (D.files.take K) : Int) ∧ Hid (Below w.heap.size w wr)) (fun _ i _ => N - (intOf i).toNat)
  case atStart => exact ⟨0, rfl, Nat.zero_le _, rfl, Lib.hid (Below.refl _ _)⟩
  case round =>
    obtain ⟨K, rfl, hK, rfl, HB⟩ := hrel
    have c1' := kept_cell HB.out c1
    by_cases hlt : K < N
    · have hltI : (K : Int) < (N : Int) := by omega
      have hk0 : 0 ≤ (K : Int) := by omega
      have hw1 : IntKind.i64.wrap ((K : Int) + 1) = (K : Int) + 1 := IntWalk.i64_in _ (by omega)
      obtain ⟨y, hy⟩ : ∃ y, D.files[K]? = some y := ⟨_, List.getElem?_eq_getElem (by rw [HN.out]; exact hlt)⟩
      obtain ⟨b', off, rfl, -, k1, k2⟩ := HC.out K y hy
      have k1' := kept_cell HB.out k1
      have k2' := kept_cell HB.out k2
      have hul := used_le (l := D.files.take K) fun f hf => (HE.out f (List.mem_of_mem_take hf)).2
      rw [List.length_take] at hul
      have hye := (HE.out y (List.mem_of_getElem? hy)).2
      have HD := Lib.hid (used_take hy)
      have z1 : (str y.safe).size = y.safe.length := str_size _
      have z2 : (str y.more).size = y.more.length := str_size _
      obtain ⟨U, hU⟩ : ∃ U, usedF (D.files.take K) = U := ⟨_, rfl⟩
      obtain ⟨S, hS⟩ : ∃ U, y.safe.length = U := ⟨_, rfl⟩
      obtain ⟨M, hM⟩ : ∃ U, y.more.length = U := ⟨_, rfl⟩
      rw [hU, hS, hM] at HD
      rw [hU] at hul ⊢
      rw [hS, hM] at hye
      rw [hS] at z1
      rw [hM] at z2
      have a1 : IntKind.i64.wrap ((U : Int) + (S : Int)) = (U : Int) + (S : Int) := IntWalk.i64_in _ (by omega)
      have a2 : IntKind.i64.wrap ((U : Int) + (S : Int) + (M : Int)) = (U : Int) + (S : Int) + (M : Int) := IntWalk.i64_in _ (by omega)
      clear k1 k2 hy hU hS hM hul hye
      go_wp2_with fail
      go_quiet (fail)
      go_wp2_with fail
      go_roundw
      case rel => exact ⟨K + 1, by go_num, by omega, by rw [HD.out]; congr 1; omega, Lib.hid (by exact HB.out.trans ((drewN_below _ _).mono HB.out.size))⟩
      case measure => simp [intOf]; omega
    · have hltI : ¬ (K : Int) < (N : Int) := by omega
      rw [List.take_of_length_le (i := K) (by rw [HN.out]; omega)]
      go_wp2_with fail
      go_ret
      exact ⟨rfl, HB.out⟩

set_option maxHeartbeats 2000000 in
theorem goes_any (b : Nat) (G : Nat → Prop) (D : Dst) (w : World) (h : RAt w G b D) :
    Calls Try.prog 66 #[.pointer (some ⟨b, 0, none⟩)] w fun e w' => e = .returned (.bool (goesD D).2) ∧ RAt w' G b (goesD D).1 ∧ Chg G G w w' := by
  obtain ⟨v, hrow, hfl, hg⟩ := h.cell
  obtain ⟨h1, h2⟩ := h.ok.armed
  obtain ⟨c2, f2⟩ := row_at hrow 2 _ rfl
  obtain ⟨c3, f3⟩ := row_at hrow 3 _ rfl
  unfold goesD
  by_cases h0 : D.armed = 0
  · rw [if_pos h0]
    rw [h0] at c2
    go_enter Try.func66, Try.ntmps66
    go_wp2_with fail
    go_ret
    exact ⟨rfl, h, Chg.of_below (Below.refl _ _)⟩
  · rw [if_neg h0]
    have hz : (D.armed == 0) = false := beq_eq_false_iff_ne.2 h0
    have hw1 : IntKind.i64.wrap (D.armed - 1) = D.armed - 1 := IntWalk.i64_in _ (by omega)
    have hz2 : (D.armed - 1 == 0) = decide (D.armed - 1 = 0) := by
      by_cases hq : D.armed - 1 = 0
      · rw [hq]; rfl
      · rw [beq_eq_false_iff_ne.2 hq, decide_eq_false hq]
    obtain ⟨z, hzq⟩ : ∃ z, decide (D.armed - 1 = 0) = z := ⟨_, rfl⟩
    rw [hzq] at hz2 ⊢
    obtain ⟨v0, hv0⟩ : ∃ z, D.armed = z := ⟨_, rfl⟩
    have HROW := Lib.hid hrow
    have HG := Lib.hid hg
    have HF := Lib.hid hfl
    have H := Lib.hid h
    have HV0 := Lib.hid hv0
    have HH := Lib.hid (show 1 ≤ v0 ∧ v0 ≤ 9223372036854775807 by omega)
    rw [hv0] at c2 hz hw1 hz2
    clear h0 hzq h1 h2 hrow h hg hfl hv0
    go_enter Try.func66, Try.ntmps66
    go_wp2_with fail
    go_ret
    rw [HV0.out]
    have hrow2 := heap_setCell_same _ b 3 _ _ (.bool z) (heap_setCell_same w b 2 _ _ (.int .i64 (v0 - 1)) HROW.out)
    have ht : Tn G w ((w.setCell ⟨b, 2, none⟩ (.int .i64 (v0 - 1))).setCell ⟨b, 3, none⟩ (.bool z)) := ⟨rfl, rfl, rfl, Nat.le_trans (size_set _ _ _ _) (size_set _ _ _ _), fun i hi hne => by
      rw [heap_setCell_other _ ⟨b, 3, none⟩ i _ (fun e => hne (e ▸ H.out.own)), heap_setCell_other _ ⟨b, 2, none⟩ i _ (fun e => hne (e ▸ H.out.own))]⟩
    refine ⟨rfl, ⟨⟨v, hrow2, HF.out.same fun a n c e => ?_, HG.out⟩, H.out.own, fun i hi => Nat.lt_of_lt_of_le (H.out.lt i hi) ht.size, ?_⟩, ⟨ht, fun i hi => Or.inl hi⟩⟩
    · have hne := (HG.out a n c e).2
      rw [heap_setCell_other _ ⟨b, 3, none⟩ _ _ hne, heap_setCell_other _ ⟨b, 2, none⟩ _ _ hne]
    · have h1 := H.out.ok.armed
      have h2 := HH.out
      exact ⟨H.out.ok.room, ⟨by show 0 ≤ v0 - 1; omega, by show v0 - 1 ≤ _; omega⟩, H.out.ok.count, H.out.ok.each⟩
end Go.Proofs.Ythdchidlfeighaa.C12

namespace Go.Proofs.Ythdchidlfeighaa.C12
open Go Go.RowKit Go.Proofs Go.Proofs.Ythdchidlfeighaa.B Go.Proofs.Ythdchidlfeighaa.K Go.Proofs.Ythdchidlfeighaa.P8
set_option linter.unusedVariables false
set_option maxRecDepth 100000

theorem str_get12 {l : List UInt8} {k : Nat} {b : UInt8} (h : l[k]? = some b) (hk : k < (str l).size) : ((str l)[k]'hk) = b := by
  obtain ⟨hk', rfl⟩ := List.getElem?_eq_some_iff.1 h
  show (str l).data[k]'_ = _
  simp only [str, List.getElem_toArray]
theorem nameB_iff (b : UInt8) : nameB b = true ↔ (97 ≤ b.toNat ∧ b.toNat ≤ 122) ∨ (48 ≤ b.toNat ∧ b.toNat ≤ 57) ∨ b.toNat = 46 ∨ b.toNat = 45 ∨ b.toNat = 95 := by
  unfold nameB
  simp only [Bool.or_eq_true, Bool.and_eq_true, decide_eq_true_eq]
theorem all_next {s : List UInt8} {K y : Nat} {b : UInt8} (h : s[K]? = some b) (hy : b.toNat = y) (H : s.all nameB = (s.drop K).all nameB) (hc : (97 ≤ y ∧ y ≤ 122) ∨ (48 ≤ y ∧ y ≤ 57) ∨ y = 46 ∨ y = 45 ∨ y = 95) : s.all nameB = (s.drop (K + 1)).all nameB := by
  obtain ⟨hlt, rfl⟩ := List.getElem?_eq_some_iff.1 h
  rw [H, List.drop_eq_getElem_cons hlt, List.all_cons, (nameB_iff _).2 (by rw [hy]; exact hc), Bool.true_and]
theorem all_not {s : List UInt8} {K y : Nat} {b : UInt8} (h : s[K]? = some b) (hy : b.toNat = y) (hc : ¬ ((97 ≤ y ∧ y ≤ 122) ∨ (48 ≤ y ∧ y ≤ 57) ∨ y = 46 ∨ y = 45 ∨ y = 95)) : nameOk s = false := by
  unfold nameOk
  have : s.all nameB = false := by
    rw [List.all_eq_false]
    exact ⟨b, List.mem_of_getElem? h, fun e => hc (by rw [← hy]; exact (nameB_iff b).1 e)⟩
  rw [this, Bool.false_and]

set_option maxHeartbeats 4000000 in
theorem name_any (s : List UInt8) (w : World) (hs : s.length ≤ 140737488355328) :
    Calls Try.prog 64 #[.string (str s)] w fun e w' => e = .returned (.bool (nameOk s)) ∧ w = w' := by
  have hsz : (str s).size = s.length := str_size s
  go_enter Try.func64, Try.ntmps64
  go_wp2_with fail
  go_loopw [3] (fun n wr => ∃ K : Nat, n = .int .i64 (K : Int) ∧ K ≤ s.length ∧ Hid (s.all nameB = (s.drop K).all nameB) ∧ wr = w) (fun n _ => s.length - (intOf n).toNat)
  case atStart => exact ⟨0, rfl, Nat.zero_le _, Lib.hid rfl, rfl⟩
  case round =>
    obtain ⟨K, rfl, hK, HP, rfl⟩ := hrel
    by_cases hlt : K < s.length
    · have hltI : (K : Int) < ((str s).size : Int) := by omega
      have hltI2 : (K : Int) < (s.length : Int) := by omega
      have hk' : K < (str s).size := by omega
      obtain ⟨b, hb⟩ : ∃ b, s[K]? = some b := ⟨_, List.getElem?_eq_getElem hlt⟩
      have hg : ((str s)[K]'hk') = b := str_get12 hb hk'
      obtain ⟨y, hy⟩ : ∃ y, b.toNat = y := ⟨_, rfl⟩
      have HB := Lib.hid hb
      have HY := Lib.hid hy
      have hw1 : IntKind.i64.wrap ((K : Int) + 1) = (K : Int) + 1 := IntWalk.i64_in _ (by omega)
      clear hb
      go_wp2_with fail
      all_goals (try simp only [bne_iff_ne, ne_eq, bne_eq_false_iff_eq, Bool.not_eq_eq_eq_not, Bool.not_true, Bool.not_false, decide_eq_false_iff_not, decide_eq_true_eq] at *)
      all_goals first
        | (refine ⟨⟨K + 1, by go_num, by omega, Lib.hid (all_next HB.out HY.out HP.out (by omega)), by first | trivial | rfl⟩, by simp [intOf]; omega⟩)
        | (have ho := all_not HB.out HY.out (by omega)
           go_ret
           rw [ho]
           exact ⟨rfl, rfl⟩)
    · have hltI : ¬ (K : Int) < ((str s).size : Int) := by omega
      have hltI2 : ¬ (K : Int) < (s.length : Int) := by omega
      have hd := HP.out
      rw [List.drop_of_length_le (by omega)] at hd
      have HN := Lib.hid (show nameOk s = (decide (1 ≤ s.length) && decide (s.length ≤ 24)) by unfold nameOk; rw [hd]; rfl)
      obtain ⟨S, hS⟩ : ∃ S, s.length = S := ⟨_, rfl⟩
      rw [hS] at HN hsz
      clear hd HP hK hlt hs hS
      by_cases h1 : 1 ≤ S
      · have i1 : 1 ≤ (S : Int) := by omega
        have d1 : decide (1 ≤ (S : Int)) = true := decide_eq_true i1
        by_cases h2 : S ≤ 24
        · have i2 : (S : Int) ≤ 24 := by omega
          have d2 : decide ((S : Int) ≤ 24) = true := decide_eq_true i2
          go_wp2_with fail
          go_ret
          exact ⟨by rw [HN.out, decide_eq_true h1, decide_eq_true h2]; rfl, rfl⟩
        · have i2 : ¬ (S : Int) ≤ 24 := by omega
          have d2 : decide ((S : Int) ≤ 24) = false := decide_eq_false i2
          go_wp2_with fail
          go_ret
          exact ⟨by rw [HN.out, decide_eq_true h1, decide_eq_false h2]; rfl, rfl⟩
      · have i1 : ¬ 1 ≤ (S : Int) := by omega
        have d1 : decide (1 ≤ (S : Int)) = false := decide_eq_false i1
        go_wp2_with fail
        go_ret
        exact ⟨by rw [HN.out, decide_eq_false h1]; rfl, rfl⟩
end Go.Proofs.Ythdchidlfeighaa.C12

namespace Go.Proofs.Ythdchidlfeighaa.C12
open Go Go.RowKit Go.Proofs Go.Proofs.Ythdchidlfeighaa.B Go.Proofs.Ythdchidlfeighaa.K Go.Proofs.Ythdchidlfeighaa.P8
set_option linter.unusedVariables false
set_option maxRecDepth 100000

def flC (f : Fl) : List Value := [.string (str f.name), .string (str f.safe), .string (str f.more)]
theorem flat3_len : ∀ l : List Fl, (l.flatMap flC).length = l.length * 3
  | [] => rfl
  | f :: l => by rw [List.flatMap_cons, List.length_append, flat3_len l, List.length_cons]; simp [flC]; omega
theorem flat3_at : ∀ (l : List Fl) (j : Nat) (f : Fl) (i : Nat) (c : Value), l[j]? = some f → (flC f)[i]? = some c → (l.flatMap flC)[j * 3 + i]? = some c
  | [], j, f, i, c, h, _ => by simp at h
  | y :: l, 0, f, i, c, h, hc => by
    simp at h
    subst h
    rw [List.flatMap_cons, Nat.zero_mul, Nat.zero_add, List.getElem?_append_left (List.getElem?_eq_some_iff.1 hc).1]
    exact hc
  | y :: l, j + 1, f, i, c, h, hc => by
    rw [List.flatMap_cons, List.getElem?_append_right (by simp [flC]; omega)]
    have := flat3_at l j f i c (by simpa using h) hc
    rw [show (j + 1) * 3 + i - (flC y).length = j * 3 + i by simp [flC]; omega]
    exact this
theorem fls_own {w : World} {base : Nat} {v : Value} {l : List Fl} (h : w.ownsRow base 41 3 v l.length (l.flatMap flC)) : FlsIs w v l := by
  rcases h.2 with ⟨rfl, h0⟩ | ⟨g, cap, cur, rfl, h1, h2, h3, h4, h5, h6⟩
  · have : l = [] := List.eq_nil_of_length_eq_zero h0
    subst this
    exact FlsIs.nil w
  · refine ⟨_, cap, rfl, fun j f hj => ⟨g, 0, rfl, ?_⟩⟩
    have hcell : ∀ i c, (flC f)[i]? = some c → w.cell? ⟨g, 0 + j * 3 + i, none⟩ = some c := fun i c hc => by
      have h7 := flat3_at l j f i c hj hc
      have hlt := (List.getElem?_eq_some_iff.1 h7).1
      rw [← h6, List.getElem?_take_of_lt (by rw [flat3_len] at hlt; omega), Array.getElem?_toList] at h7
      rw [Nat.zero_add]
      simp [World.cell?, h2, h7]
    exact ⟨hcell 0 _ rfl, hcell 1 _ rfl, hcell 2 _ rfl⟩
theorem new_three (w : World) (a b c : Value) (e : TypeId) : ∀ (j : Nat) (u : Value), [a, b, c][j]? = some u → (w.alloc (.cells #[a, b, c] e)).cell? ((⟨w.heap.size, 0, none⟩ : Addr).add j) = some u := by
  intro j u hj
  rw [show (⟨w.heap.size, 0, none⟩ : Addr).add j = ⟨w.heap.size, j, none⟩ by unfold Addr.add; split <;> simp_all]
  exact alloc_cell w [a, b, c] e j u hj
theorem three_one (a b c : ByteArray) : ∀ u ∈ [Value.string a, .string b, .string c], u.oneCell' = true := by intro u hu; simp at hu; rcases hu with rfl | rfl | rfl <;> rfl
theorem file_info : ∃ i z, Try.prog.info? 41 = some i ∧ i.zero = some z ∧ i.size = 3 ∧ i.bytes = 48 ∧ z.cells.size = 3 := by
  have h : (Try.prog.info? 41).map (fun i => (i.zero.map (fun z => z.cells.size), i.size, i.bytes)) = some (some 3, 3, 48) := by kernel_rfl
  obtain ⟨i, hi, e⟩ := Option.map_eq_some_iff.1 h
  simp only [Prod.mk.injEq] at e
  obtain ⟨z, hz, hc⟩ := Option.map_eq_some_iff.1 e.1
  exact ⟨i, z, hi, hz, e.2.1, e.2.2, hc⟩
/-- The disk with another list of files. -/
theorem RAt.files {w wr : World} {G : Nat → Prop} {b q : Nat} {D : Dst} {v : Value} {l : List Fl} (h : RAt w G b D) (hB : Below w.heap.size w wr) (hq : w.heap.size ≤ q) (ho : wr.ownsRow q 41 3 v l.length (l.flatMap flC)) (hl : l.length ≤ 128) (he : ∀ f ∈ l, f.name.length ≤ 24 ∧ f.safe.length + f.more.length ≤ 65536) :
    RAt (wr.setCell ⟨b, 1, none⟩ v) (fun i => i = b ∨ ∃ a n c, v = .slice (some a) n c ∧ a.block = i) b { D with files := l } ∧ Chg G (fun i => i = b ∨ ∃ a n c, v = .slice (some a) n c ∧ a.block = i) w (wr.setCell ⟨b, 1, none⟩ v) := by
  have hbl := h.lt b h.own
  have hfl := fls_own ho
  have hblk : ∀ a n c, v = .slice (some a) n c → q ≤ a.block ∧ a.block < wr.heap.size := fun a n c e => by
    rcases ho.2 with ⟨e2, -⟩ | ⟨g, cap, cur, e2, h1, h2, -⟩
    · rw [e2] at e; cases e
    · rw [e2] at e; cases e; exact ⟨h1, (Array.getElem?_eq_some_iff.1 h2).1⟩
  obtain ⟨v0, hrow, -, -⟩ := (h.below hB).cell
  have hrow2 := heap_setCell_same wr b 1 _ _ v hrow
  have hsz : wr.heap.size ≤ (wr.setCell ⟨b, 1, none⟩ v).heap.size := size_set _ _ _ _
  have ht : Tn G w (wr.setCell ⟨b, 1, none⟩ v) := ⟨(hB.os : _), hB.tape, hB.output, Nat.le_trans hB.size hsz, fun i hi hne => by
    rw [heap_setCell_other _ ⟨b, 1, none⟩ i _ (fun e => hne (e ▸ h.own))]
    exact hB.block i hi⟩
  refine ⟨⟨⟨v, hrow2, hfl.same fun a n c e => ?_, fun a n c e => ⟨Or.inr ⟨a, n, c, e, rfl⟩, ?_⟩⟩, Or.inl rfl, fun i hi => ?_, ⟨h.ok.room, h.ok.armed, hl, he⟩⟩, ht, fun i hi => ?_⟩
  · have := (hblk a n c e).1
    exact heap_setCell_other _ ⟨b, 1, none⟩ _ _ (by show a.block ≠ b; omega)
  · have := (hblk a n c e).1
    omega
  · rcases hi with rfl | ⟨a, n, c, e, rfl⟩
    · exact Nat.lt_of_lt_of_le hbl (Nat.le_trans hB.size hsz)
    · exact Nat.lt_of_lt_of_le (hblk a n c e).2 hsz
  · rcases hi with rfl | ⟨a, n, c, e, rfl⟩
    · exact Or.inl h.own
    · exact Or.inr (Nat.le_trans hq (hblk a n c e).1)

theorem owns_blk {w : World} {base : Nat} {e : TypeId} {size : Nat} {v : Value} {n : Nat} {xs : List Value} (h : w.ownsRow base e size v n xs) : ∀ k, v.ownBlock = some k → base ≤ k := by
  intro k hk
  rcases h.2 with ⟨rfl, _⟩ | ⟨g, cap, cur, rfl, hg, _⟩
  · cases hk
  · simp only [Value.ownBlock, Option.some.injEq] at hk
    omega
theorem shape_own {w : World} {base : Nat} {e : TypeId} {s : Nat} {v : Value} {n : Nat} {xs : List Value} (h : w.ownsRow base e s v n xs) : ∃ a cap, v = .slice a n cap := by
  rcases h.2 with ⟨rfl, h0⟩ | ⟨g, cap, cur, rfl, _⟩
  · exact ⟨none, 0, by rw [h0]⟩
  · exact ⟨_, _, rfl⟩
theorem drop_next {l : List Fl} {K : Nat} {y : Fl} (s : List UInt8) (h : l[K]? = some y) : dropF (l.drop K) s = (if y.name = s then [] else [y]) ++ dropF (l.drop (K + 1)) s := by
  obtain ⟨hlt, rfl⟩ := List.getElem?_eq_some_iff.1 h
  unfold dropF
  rw [List.drop_eq_getElem_cons hlt]
  by_cases hs : l[K].name = s
  · rw [if_pos hs, List.filter_cons_of_neg (by simpa using hs)]; rfl
  · rw [if_neg hs, List.filter_cons_of_pos (by simpa using hs)]; rfl
theorem own_snoc {w : World} {q : Nat} {v : Value} {xs : List Fl} {y : Fl} (h : w.ownsRow q 41 3 v (xs.length + 1) (xs.flatMap flC ++ [.string (str y.name), .string (str y.safe), .string (str y.more)])) : w.ownsRow q 41 3 v (xs ++ [y]).length ((xs ++ [y]).flatMap flC) := by
  rw [List.length_append, List.flatMap_append]
  simpa [flC] using h

set_option maxHeartbeats 4000000 in
theorem drop_any (s : List UInt8) (b : Nat) (G : Nat → Prop) (D : Dst) (w : World) (h : RAt w G b D) :
    Calls Try.prog 67 #[.pointer (some ⟨b, 0, none⟩), .string (str s)] w fun e w' => ∃ G', e = .returned (.tuple #[]) ∧ RAt w' G' b { D with files := dropF D.files s } ∧ Chg G G' w w' := by
  obtain ⟨v, hrow, hfl, -⟩ := h.cell
  obtain ⟨i0, z0, hi, hz0, hz1, hz2, hzc⟩ := file_info
  have hn := h.ok.count
  obtain ⟨a, cap, rfl, hc⟩ := hfl.open
  obtain ⟨N, hN⟩ : ∃ N, D.files.length = N := ⟨_, rfl⟩
  rw [hN] at hrow hn
  obtain ⟨c1, f1⟩ := row_at hrow 1 _ rfl
  have H := Lib.hid h
  have HC := Lib.hid hc
  have HN := Lib.hid hN
  clear hc hN hfl hrow h
  go_enter Try.func67, Try.ntmps67
  go_wp2_with fail
  go_loopw [4, 5] (fun o i wr => ∃ (K : Nat) (xs : List Fl), i = .int .i64 (K : Int) ∧ K ≤ N ∧ wr.ownsRow w.heap.size 41 3 o xs.length (xs.flatMap flC) ∧ Hid (dropF D.files s = xs ++ dropF (D.files.drop K) s) ∧ Hid (xs.length ≤ K) ∧ Hid (Below w.heap.size w wr)) (fun _ i _ => N - (intOf i).toNat)
  case atStart => exact ⟨0, [], rfl, Nat.zero_le _, World.ownsRow_nil _ _ _ _, Lib.hid rfl, Lib.hid (Nat.zero_le _), Lib.hid (Below.refl _ _)⟩
  case round =>
    obtain ⟨K, xs, rfl, hK, hown, HJ, HX, HB⟩ := hrel
    have c1' := kept_cell HB.out c1
    by_cases hlt : K < N
    · have hltI : (K : Int) < (N : Int) := by omega
      have hk0 : 0 ≤ (K : Int) := by omega
      have hw1 : IntKind.i64.wrap ((K : Int) + 1) = (K : Int) + 1 := IntWalk.i64_in _ (by omega)
      obtain ⟨y, hy⟩ : ∃ y, D.files[K]? = some y := ⟨_, List.getElem?_eq_getElem (by rw [HN.out]; exact hlt)⟩
      obtain ⟨b', off, rfl, k0, k1, k2⟩ := HC.out K y hy
      have k0' := kept_cell HB.out k0
      have k1' := kept_cell HB.out k1
      have k2' := kept_cell HB.out k2
      have hd := HJ.out
      rw [drop_next s hy] at hd
      by_cases hs : y.name = s
      · rw [if_pos hs] at hd
        have HD := Lib.hid hd
        have t1 : (!(str y.name).toList == (str s).toList) = false := by rw [hs]; simp
        have HO := Lib.hid hown
        clear hd hy hs k0 k1 k2 hown
        go_wp2_with fail
        go_roundw
        case rel => exact ⟨K + 1, xs, by go_num, by omega, HO.out, HD, Lib.hid (by have := HX.out; omega), HB⟩
        case measure => simp [intOf]; omega
      · rw [if_neg hs] at hd
        have HD := Lib.hid hd
        have t1 : (!(str y.name).toList == (str s).toList) = true := by rw [str_toList, str_toList]; simpa using hs
        have hX := HX.out
        have HC4 := Lib.hid (show (xs.length + 1) * 48 ≤ 140737488355328 by omega)
        have HC5 := Lib.hid (show w.heap.size ≤ (wr.alloc (.cells #[.string (str y.name), .string (str y.safe), .string (str y.more)] 41)).heap.size from Nat.le_trans HB.out.size (below_alloc _ _).size)
        have HO := Lib.hid (hown.alloc (.cells #[.string (str y.name), .string (str y.safe), .string (str y.more)] 41))
        clear hd hy hs k0 k1 k2 hown
        go_wp2_with (at_builtin; refine wpList_append_own _ rfl _ _ 31 rfl w.heap.size 41 i0 z0 3 48 Try.underlying31 hi hz0 hz1 hz2 hzc (by decide) _ _ _ rfl HO.out ⟨wr.heap.size, 0, none⟩ 1 1 [.string (str y.name), .string (str y.safe), .string (str y.more)] rfl rfl (new_three _ _ _ _ _) (three_one _ _ _) (by unfold maxLen; omega) HC4.out HC5.out ?_; intro v' w5 hown' hgrow hnn; have HB5 := Lib.hid ((HB.out.alloc HB.out.size _).grown hgrow HC5.out (owns_blk HO.out)); have HOW := Lib.hid hown'; clear hnn hown' hgrow)
        go_roundw
        case rel => exact ⟨K + 1, xs ++ [y], by go_num, by omega, own_snoc HOW.out, Lib.hid (by rw [HD.out, List.append_assoc]), Lib.hid (by rw [List.length_append]; simp; omega), HB5⟩
        case measure => simp [intOf]; omega
    · have hltI : ¬ (K : Int) < (N : Int) := by omega
      have hd := HJ.out
      rw [List.drop_of_length_le (i := K) (by rw [HN.out]; omega)] at hd
      have hd2 : dropF D.files s = xs := by rw [hd]; simp [dropF]
      have HD := Lib.hid hd2
      obtain ⟨av, cv, rfl⟩ := shape_own hown
      have HO := Lib.hid hown
      have f1' : wr.frozen? ⟨b, 1, none⟩ = false := (row_at (H.out.below HB.out).cell.choose_spec.1 1 _ rfl).2
      clear hd hd2 hown
      go_wp2_with fail
      go_end0
      obtain ⟨hr, hc⟩ := H.out.files HB.out (Nat.le_refl _) HO.out (by have := HX.out; omega) (fun f hf => H.out.ok.each f (by rw [← HD.out] at hf; exact (List.mem_filter.1 hf).1))
      rw [HD.out]
      exact ⟨rfl, _, hr, hc⟩
end Go.Proofs.Ythdchidlfeighaa.C12

namespace Go.Proofs.Ythdchidlfeighaa.P8
open Go Go.RowKit Go.Proofs.Ythdchidlfeighaa.B Go.Proofs.Ythdchidlfeighaa.K
set_option linter.unusedVariables false

theorem cut_idx : ∀ l : List UInt8, (Lib.indexByte l 47 = -1 ∧ cutP l = (l, [], false)) ∨ ∃ i : Nat, Lib.indexByte l 47 = (i : Int) ∧ i < l.length ∧ cutP l = (l.take i, l.drop (i + 1), true)
  | [] => Or.inl ⟨rfl, rfl⟩
  | b :: l => by
    by_cases hb : (b == 47) = true
    · refine Or.inr ⟨0, ?_, by simp, ?_⟩
      · unfold Lib.indexByte; rw [if_pos hb]; rfl
      · unfold cutP; rw [if_pos hb]; rfl
    · rcases cut_idx l with ⟨h1, h2⟩ | ⟨i, h1, h2, h3⟩
      · refine Or.inl ⟨?_, ?_⟩
        · unfold Lib.indexByte; rw [if_neg hb, h1]; rfl
        · unfold cutP; rw [if_neg hb, h2]
      · refine Or.inr ⟨i + 1, ?_, by simp; omega, ?_⟩
        · unfold Lib.indexByte
          have : ¬ ((i : Int) == -1) = true := by simp
          rw [if_neg hb, h1, if_neg this]; rfl
        · unfold cutP; rw [if_neg hb, h3]; rfl

theorem below_drewN (w : World) (n : Nat) : Below w.heap.size w (w.drewN n) := by
  induction n with
  | zero => exact Below.refl _ _
  | succ n ih => first | exact ih.drew | exact ih

/-- A cell that holds a text. -/
def Box (w : World) (B : Nat) (l : List UInt8) : Prop := w.heap[B]? = some (.cells #[sv l] 9 (0, 0))

theorem Box.cell {w : World} {B : Nat} {l : List UInt8} (h : Box w B l) : w.cell? ⟨B, 0, none⟩ = some (sv l) ∧ w.frozen? ⟨B, 0, none⟩ = false := by
  unfold Box at h
  exact ⟨by simp [World.cell?, h], by simp [World.frozen?, h]⟩
theorem Box.lt {w : World} {B : Nat} {l : List UInt8} (h : Box w B l) : B < w.heap.size := (Array.getElem?_eq_some_iff.1 h).1
theorem Box.below {w w' : World} {B : Nat} {l : List UInt8} (h : Box w B l) (hb : Below w.heap.size w w') : Box w' B l := (hb.block _ h.lt).trans h
theorem Box.set {w : World} {B : Nat} {l : List UInt8} (h : Box w B l) (m : List UInt8) : Box (w.setCell ⟨B, 0, none⟩ (.string (str m))) B m := by
  unfold Box at h ⊢
  rw [heap_setCell_same w B 0 _ _ _ h]
  rfl

/-- Nothing but block g has turned. -/
structure Tg (g : Nat) (W W' : World) : Prop where
  os : W'.os = W.os
  tape : W'.tape = W.tape
  output : W'.output = W.output
  size : W.heap.size ≤ W'.heap.size
  block : ∀ b, b < W.heap.size → b ≠ g → W'.heap[b]? = W.heap[b]?

theorem Tg.refl (g : Nat) (W : World) : Tg g W W := ⟨rfl, rfl, rfl, Nat.le_refl _, fun _ _ _ => rfl⟩
theorem Tg.trans {g : Nat} {a b c : World} (h : Tg g a b) (k : Tg g b c) : Tg g a c :=
  ⟨k.os.trans h.os, k.tape.trans h.tape, k.output.trans h.output, Nat.le_trans h.size k.size, fun i hi hne => (k.block i (Nat.lt_of_lt_of_le hi h.size) hne).trans (h.block i hi hne)⟩
theorem Tg.of_below {g : Nat} {a b : World} (h : Below a.heap.size a b) : Tg g a b := ⟨h.os, h.tape, h.output, h.size, fun i hi _ => h.block i hi⟩
theorem Tg.onto {g n : Nat} {w a b : World} (h : Below n w a) (hn : n ≤ w.heap.size) (hg : n ≤ g) (k : Tg g a b) : Below n w b :=
  ⟨k.os.trans h.os, k.tape.trans h.tape, k.output.trans h.output, Nat.le_trans h.size k.size, fun i hi => (k.block i (Nat.lt_of_lt_of_le hi (Nat.le_trans hn h.size)) (by omega)).trans (h.block i hi)⟩
theorem Tg.set (W : World) (g k : Nat) (v : Value) : Tg g W (W.setCell ⟨g, k, none⟩ v) := by
  have hb := (Below.refl g W).setCell (p := ⟨g, k, none⟩) (Nat.le_refl _) v
  refine ⟨hb.os, hb.tape, hb.output, hb.size, fun b hb hne => ?_⟩
  rw [heap_setCell_other W ⟨g, k, none⟩ b _ hne]
theorem Tg.box {g B : Nat} {W W' : World} {l : List UInt8} (h : Tg g W W') (hB : Box W B l) (hne : B ≠ g) : Box W' B l := (h.block B hB.lt hne).trans hB

end Go.Proofs.Ythdchidlfeighaa.P8

namespace Go.Proofs.Ythdchidlfeighaa.P8
open Go Go.RowKit Go.Shelf Go.Proofs Go.Proofs.Ythdchidlfeighaa.B Go.Proofs.Ythdchidlfeighaa.K
set_option linter.unusedVariables false

/-- How many bytes a text begins with that parts have. -/
def pre (l : List UInt8) : Nat := (l.takeWhile okB).length

theorem pre_le (l : List UInt8) : pre l ≤ l.length := by
  unfold pre
  induction l with
  | nil => simp
  | cons b l ih => rw [List.takeWhile_cons]; split <;> simp <;> omega

theorem pre_step {l : List UInt8} {k : Nat} {b : UInt8} (h : l[k]? = some b) : pre (l.drop k) = if okB b = true then 1 + pre (l.drop (k + 1)) else 0 := by
  obtain ⟨hk, rfl⟩ := List.getElem?_eq_some_iff.1 h
  rw [List.drop_eq_getElem_cons hk]
  unfold pre
  rw [List.takeWhile_cons]
  split
  · simp; omega
  · rfl

theorem plain_pre (l : List UInt8) : plainP l = (!l.isEmpty && decide (pre l = l.length)) := by
  unfold plainP
  congr 1
  unfold pre
  induction l with
  | nil => rfl
  | cons b l ih =>
    rw [List.takeWhile_cons, List.all_cons, ih]
    cases okB b <;> simp

theorem str_get8 {l : List UInt8} {k : Nat} {b : UInt8} (h : l[k]? = some b) (hk : k < (str l).size) : ((str l)[k]'hk) = b := by
  obtain ⟨hk', rfl⟩ := List.getElem?_eq_some_iff.1 h
  show (str l).data[k]'_ = _
  simp only [str, List.getElem_toArray]

theorem okN_iff (y : Nat) : okN y = true ↔ (97 ≤ y ∧ y ≤ 122) ∨ (48 ≤ y ∧ y ≤ 57) ∨ y = 45 ∨ y = 95 := by
  simp [okN]

theorem pre_on {l : List UInt8} {K y : Nat} (HP : pre l = K + pre (l.drop K)) (HS : pre (l.drop K) = if okN y = true then 1 + pre (l.drop (K + 1)) else 0)
    (h : (97 ≤ y ∧ y ≤ 122) ∨ (48 ≤ y ∧ y ≤ 57) ∨ y = 45 ∨ y = 95) : pre l = (K + 1) + pre (l.drop (K + 1)) := by
  rw [if_pos ((okN_iff y).2 h)] at HS; omega

theorem pre_off {l : List UInt8} {K y : Nat} (HP : pre l = K + pre (l.drop K)) (HS : pre (l.drop K) = if okN y = true then 1 + pre (l.drop (K + 1)) else 0)
    (h : ¬ ((97 ≤ y ∧ y ≤ 122) ∨ (48 ≤ y ∧ y ≤ 57) ∨ y = 45 ∨ y = 95)) : pre l = K := by
  rw [if_neg (fun h' => h ((okN_iff y).1 h'))] at HS; omega

theorem pre_end {l : List UInt8} {K : Nat} (HP : pre l = K + pre (l.drop K)) (h : l.length ≤ K) : pre l = K := by
  rw [List.drop_of_length_le h] at HP; exact HP

theorem rowGo_succ (r : List UInt8 → Bool → Bool) (n : Nat) (l : List UInt8) : rowGo r (n + 1) l = (r (cutP l).1 (!(cutP l).2.2) && (!(cutP l).2.2 || rowGo r n (cutP l).2.1)) := rfl

/-- A call of function N begins. -/
def Ent (N : Nat) : Prop := ∀ args w, (callFunc N args).run Try.prog w = .ok (.enter N args) w

end Go.Proofs.Ythdchidlfeighaa.P8

namespace Go.Proofs.Ythdchidlfeighaa.P8
open Go Go.RowKit Go.Shelf Go.Proofs Go.Proofs.Ythdchidlfeighaa.B Go.Proofs.Ythdchidlfeighaa.K
set_option linter.unusedVariables false

theorem eq_bool (a b : List UInt8) : ((str a).toList == (str b).toList) = (a == b) := by rw [str_toList, str_toList]
theorem eq_one (a : List UInt8) : ((str a).toList == [42]) = (a == one) := by rw [str_toList]; rfl
theorem eq_many (a : List UInt8) : ((str a).toList == [42, 42]) = (a == many) := by rw [str_toList]; rfl
theorem eq_none (a : List UInt8) : (str a).toList.isEmpty = a.isEmpty := by rw [str_toList]

theorem tog_succ (free right : List UInt8 → List UInt8 → Bool) (n : Nat) (l m : List UInt8) : tog free right (n + 1) l m = (free (cutP l).1 (cutP m).1 || (right (cutP l).1 (cutP m).1 && ((cutP l).1.isEmpty || tog free right n (cutP l).2.1 (cutP m).2.1))) := rfl

end Go.Proofs.Ythdchidlfeighaa.P8

namespace Go.Proofs.Ythdchidlfeighaa.P8
open Go Go.RowKit Go.Shelf Go.Proofs Go.Proofs.Ythdchidlfeighaa.B Go.Proofs.Ythdchidlfeighaa.K
set_option linter.unusedVariables false

/-- As the document says it, over texts. -/
def covT (p q : List UInt8) : Bool := patP p && (patP q && coversL (parts p) (parts q))
def metT (p q : List UInt8) : Bool := patP p && (patP q && meetsL (parts p) (parts q))
def matT (p s : List UInt8) : Bool := patP p && (streamP s && matchL (parts p) (parts s))

theorem pat_all {l : List UInt8} (h : patP l = true) : l.length ≤ 32 ∧ allL rP (parts l) = true ∧ (parts l).length ≤ 4 := rowOk_parts h
theorem stream_all {l : List UInt8} (h : streamP l = true) : l.length ≤ 32 ∧ allL rS (parts l) = true ∧ (parts l).length ≤ 4 := rowOk_parts h
theorem stream_isPat {l : List UInt8} (h : streamP l = true) : patP l = true := by
  obtain ⟨h1, h2, h3⟩ := stream_all h
  unfold patP rowOk
  rw [decide_eq_true h1, decide_eq_true h3, stream_pat _ h2]; rfl

theorem cov_tog {p q : List UInt8} (hp : patP p = true) (hq : patP q = true) : tog freeC takes 40 p q = coversL (parts p) (parts q) := by
  rw [tog_parts _ _ _ _ _ (by have := (pat_all hp).2.2; omega), covers_tog _ _ (pat_all hp).2.1 (pat_all hq).2.1]
theorem met_tog {p q : List UInt8} (hp : patP p = true) (hq : patP q = true) : tog freeM meet 40 p q = meetsL (parts p) (parts q) := by
  rw [tog_parts _ _ _ _ _ (by have := (pat_all hp).2.2; omega), meets_tog _ _ (pat_all hp).2.1 (pat_all hq).2.1]

theorem mat_cov (p s : List UInt8) : matT p s = (streamP s && covT p s) := by
  unfold matT covT
  cases hp : patP p
  · simp
  · cases hs : streamP s
    · simp
    · rw [stream_isPat hs, match_covers _ _ (pat_all hp).2.1 (stream_all hs).2.1]; simp

end Go.Proofs.Ythdchidlfeighaa.P8

namespace Go.Proofs.Ythdchidlfeighaa.P8
open Go Go.RowKit Go.Shelf Go.Proofs Go.Proofs.Ythdchidlfeighaa.B Go.Proofs.Ythdchidlfeighaa.K
set_option linter.unusedVariables false

theorem all_step {l : List UInt8} {k : Nat} {b : UInt8} (h : l[k]? = some b) : (l.drop k).all okB = (okB b && (l.drop (k + 1)).all okB) := by
  obtain ⟨hk, rfl⟩ := List.getElem?_eq_some_iff.1 h
  rw [List.drop_eq_getElem_cons hk, List.all_cons]

theorem all_on {l : List UInt8} {K y : Nat} (HP : l.all okB = (l.drop K).all okB) (HS : (l.drop K).all okB = (okN y && (l.drop (K + 1)).all okB))
    (h : (97 ≤ y ∧ y ≤ 122) ∨ (48 ≤ y ∧ y ≤ 57) ∨ y = 45 ∨ y = 95) : l.all okB = (l.drop (K + 1)).all okB := by
  rw [(okN_iff y).2 h, Bool.true_and] at HS; exact HP.trans HS

theorem all_off {l : List UInt8} {K y : Nat} (HP : l.all okB = (l.drop K).all okB) (HS : (l.drop K).all okB = (okN y && (l.drop (K + 1)).all okB))
    (h : ¬ ((97 ≤ y ∧ y ≤ 122) ∨ (48 ≤ y ∧ y ≤ 57) ∨ y = 45 ∨ y = 95)) : plainP l = false := by
  have : okN y = false := by
    cases ho : okN y with
    | false => rfl
    | true => exact absurd ((okN_iff y).1 ho) h
  rw [this, Bool.false_and] at HS
  unfold plainP
  rw [HP, HS, Bool.and_false]

theorem plain_end {l : List UInt8} {K : Nat} (HP : l.all okB = (l.drop K).all okB) (h : l.length ≤ K) : plainP l = decide (0 < l.length) := by
  rw [List.drop_of_length_le h] at HP
  unfold plainP
  rw [HP]
  cases l with
  | nil => rfl
  | cons b l =>
    have : 0 < (b :: l).length := by simp
    rw [decide_eq_true this]; rfl

/-- A text ahead of the first part. -/
def glue (cur : List UInt8) (P : List (List UInt8)) : List (List UInt8) := (cur ++ hd P) :: P.tail

theorem glue_nil (l : List UInt8) : glue [] (parts l) = parts l := by
  have := parts_ne l
  cases h : parts l with
  | nil => exact absurd h this
  | cons x xs => rfl

theorem glue_slash {l : List UInt8} {k : Nat} (h : l[k]? = some 47) (cur : List UInt8) : glue cur (parts (l.drop k)) = cur :: glue [] (parts (l.drop (k + 1))) := by
  obtain ⟨hk, hb⟩ := List.getElem?_eq_some_iff.1 h
  rw [List.drop_eq_getElem_cons hk, hb, glue_nil]
  simp [parts, glue, hd]

theorem glue_byte {l : List UInt8} {k : Nat} {b : UInt8} (h : l[k]? = some b) (hb : b ≠ 47) (cur : List UInt8) : glue cur (parts (l.drop k)) = glue (cur ++ [b]) (parts (l.drop (k + 1))) := by
  obtain ⟨hk, rfl⟩ := List.getElem?_eq_some_iff.1 h
  rw [List.drop_eq_getElem_cons hk]
  have : (l[k] == 47) = false := beq_eq_false_iff_ne.2 hb
  have hne := parts_ne (l.drop (k + 1))
  rw [show parts (l[k] :: l.drop (k + 1)) = if l[k] == 47 then [] :: parts (l.drop (k + 1)) else onFirst l[k] (parts (l.drop (k + 1))) from rfl, this]
  simp only [Bool.false_eq_true, if_false]
  cases hp : parts (l.drop (k + 1)) with
  | nil => exact absurd hp hne
  | cons x xs => simp [onFirst, glue, hd]

theorem glue_end (cur l : List UInt8) {k : Nat} (h : l.length ≤ k) : glue cur (parts (l.drop k)) = [cur] := by
  rw [List.drop_of_length_le h]; simp [parts, glue, hd]

theorem Try.info9 : (Try.prog.info? 9).map (fun i => (i.zero, i.size, i.bytes)) = some (some (.string ⟨#[]⟩), 1, 16) := by kernel_rfl

theorem one_cell_str (s : ByteArray) : ∀ u ∈ [Value.string s], u.oneCell' = true := by intro u hu; simp at hu; subst hu; rfl

theorem str_one {l : List UInt8} {k : Nat} {b : UInt8} (h : l[k]? = some b) (cur : List UInt8) : str cur ++ (str l).extract k (k + 1) = str (cur ++ [b]) := by
  obtain ⟨hk, rfl⟩ := List.getElem?_eq_some_iff.1 h
  rw [str_extract, str_append, show k + 1 - k = 1 by omega, List.drop_eq_getElem_cons hk]
  rfl

/-- A slice of parts in memory. -/
def Pt (w : World) (v : Value) (P : List (List UInt8)) : Prop :=
  ∃ b off cap, v = .slice (some ⟨b, off, none⟩) P.length cap ∧ P.length ≤ cap ∧ ∀ j x, P[j]? = some x → w.cell? ⟨b, off + j, none⟩ = some (sv x)

theorem Pt.below {w w' : World} {v : Value} {P : List (List UInt8)} (h : Pt w v P) (hb : Below w.heap.size w w') : Pt w' v P := by
  obtain ⟨b, off, cap, rfl, hc, hx⟩ := h
  exact ⟨b, off, cap, rfl, hc, fun j x hj => (hb.cell (p := ⟨b, off + j, none⟩) (World.block_lt_of_cell? w _ (hx j x hj))).trans (hx j x hj)⟩

theorem pt_owns {w : World} {base n : Nat} {v : Value} {P : List (List UInt8)} (h : w.ownsRow base 9 1 v n (P.map sv)) (hn : P.length = n) (h0 : 0 < n) : Pt w v P := by
  obtain ⟨hl, h⟩ := h
  rcases h with ⟨rfl, h0'⟩ | ⟨g, cap, cur, rfl, _, hg, h1, h2, h3, ht⟩
  · omega
  · subst hn
    rw [Nat.mul_one] at ht
    refine ⟨g, 0, cap, rfl, by omega, fun j x hj => ?_⟩
    have := Lib.cells_of_row hg P.length j (sv x) (by rw [ht, List.getElem?_map, hj]; rfl)
    rw [Lib.addr_add] at this
    exact this

end Go.Proofs.Ythdchidlfeighaa.P8

namespace Go.Proofs.Ythdchidlfeighaa.P8
open Go Go.RowKit Go.Shelf Go.Proofs Go.Proofs.Ythdchidlfeighaa.B Go.Proofs.Ythdchidlfeighaa.K
set_option linter.unusedVariables false

/-- 'p[1:]'. -/
theorem cut_first (b off L cap : Nat) (hL : L + 1 ≤ cap) :
    ∃ o2, (L ≠ 0 → o2 = off + 1) ∧ ∀ W : World, (Instr.sliceAt 36 (.slice (some ⟨b, off, none⟩) (L + 1) cap) (some (.int .i64 1)) none none).run Try.prog W = .ok (.slice (some ⟨b, o2, none⟩) L (cap - 1)) W := by
  by_cases h : cap = 1
  · refine ⟨off, fun h2 => by omega, fun W => ?_⟩
    have he : Try.prog.underlying 36 = some (.slice (Try.prog.elem 36)) := by kernel_rfl
    have hs : (sizeOf (Try.prog.elem 36)).run Try.prog W = .ok 1 W := by kernel_rfl
    rw [run_sliceAt_slice W 36 _ _ _ _ he, run_slice_l W 36 _ _ _ he .i64 (1 : Int) (by omega) (by omega), hs]
    simp only [Result.andThen, sliced]
    rw [if_pos (by simp; omega)]
    simp
  · refine ⟨off + 1, fun _ => rfl, fun W => ?_⟩
    have he : Try.prog.underlying 36 = some (.slice (Try.prog.elem 36)) := by kernel_rfl
    have hs : (sizeOf (Try.prog.elem 36)).run Try.prog W = .ok 1 W := by kernel_rfl
    rw [run_sliceAt_slice W 36 _ _ _ _ he, run_slice_l W 36 _ _ _ he .i64 (1 : Int) (by omega) (by omega), hs]
    simp only [Result.andThen, sliced]
    rw [if_neg (by simp; omega)]
    simp [Option.map, Go.WideShapes.add_plain]

theorem Pt.cons {w : World} {v : Value} {p : List UInt8} {P : List (List UInt8)} (h : Pt w v (p :: P)) :
    ∃ b off cap v2, v = .slice (some ⟨b, off, none⟩) (P.length + 1) cap ∧ w.cell? ⟨b, off, none⟩ = some (.string (str p)) ∧ Pt w v2 P ∧
      ∀ W : World, (Instr.sliceAt 36 (.slice (some ⟨b, off, none⟩) (P.length + 1) cap) (some (.int .i64 1)) none none).run Try.prog W = .ok v2 W := by
  obtain ⟨b, off, cap, rfl, hc, hx⟩ := h
  obtain ⟨o2, h2, h3⟩ := cut_first b off P.length cap hc
  refine ⟨b, off, cap, _, rfl, hx 0 p rfl, ⟨b, o2, cap - 1, rfl, by simp at hc; omega, fun j x hj => ?_⟩, h3⟩
  have hl : P.length ≠ 0 := by
    intro h0
    have := List.eq_nil_of_length_eq_zero h0
    subst this
    simp at hj
  rw [h2 hl, Nat.add_assoc, Nat.add_comm 1 j]
  exact hx (j + 1) x (by simpa using hj)

theorem Pt.nil {w : World} {v : Value} (h : Pt w v []) : ∃ b off cap, v = .slice (some ⟨b, off, none⟩) 0 cap := by
  obtain ⟨b, off, cap, rfl, _, _⟩ := h
  exact ⟨b, off, cap, rfl⟩

end Go.Proofs.Ythdchidlfeighaa.P8
