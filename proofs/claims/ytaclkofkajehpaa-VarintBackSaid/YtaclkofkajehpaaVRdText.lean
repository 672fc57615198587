/-
  Contracts: counts and texts, the program's and the reference's.
-/
import Derived.Test.YtaclkofkajehpaaVAwake
import Derived.Test.YtaclkofkajehpaaVListMath
import Derived.Test.YtaclkofkajehpaaShBuild
namespace Go.Proofs.Ytaclkofkajehpaa.V
open Go.RowKit

theorem ret_three_eq {k k' k'' : IntKind} {r t : Int × Int × Int} (h : r = t) : Ending.returned (.tuple #[.int k r.1, .int k' r.2.1, .int k'' r.2.2]) = .returned (.tuple #[.int k t.1, .int k' t.2.1, .int k'' t.2.2]) := by rw [h]

/-- ReadNumber's contract where its answer has a name. -/
theorem readNumber_of {s : ByteArray} {p x q e : Int} (h : rdAt s.data.toList p = (x, q, e)) (w : World) (hs : s.size ≤ 140737488355328) :
    Calls Try.prog 18 #[.string s, .int .i64 p] w fun e' w' => e' = .returned (.tuple #[.int .i64 x, .int .i64 q, .int .i64 e]) ∧ w = w' := by
  have := readNumber_any s p w hs
  rw [h] at this
  exact this
theorem refReadNumber_of {s : ByteArray} {p x q e : Int} (h : rdAt s.data.toList p = (x, q, e)) (w : World) (hs : s.size ≤ 140737488355328) :
    Calls Try.prog 19 #[.string s, .int .i64 p] w fun e' w' => e' = .returned (.tuple #[.int .i64 x, .int .i64 q, .int .i64 e]) ∧ w = w' := by
  have := refReadNumber_any s p w hs
  rw [h] at this
  exact this

set_option maxHeartbeats 400000 in
theorem readCount_any (s : ByteArray) (p most : Int) (w : World) (hs : s.size ≤ 140737488355328) :
    Calls Try.prog 34 #[.string s, .int .i64 p, .int .i64 most] w fun e w' => e = .returned (.tuple #[.int .i64 (count s.data.toList p most).1, .int .i64 (count s.data.toList p most).2.1, .int .i64 (count s.data.toList p most).2.2]) ∧ w = w' := by
  obtain ⟨⟨x, q, e⟩, hr⟩ : ∃ t, rdAt s.data.toList p = t := ⟨_, rfl⟩
  have hc : count s.data.toList p most = countOf (x, q, e) most := by unfold count; rw [hr]
  rw [hc]
  clear hc
  have HR := Lib.hid hr; clear hr
  by_cases he : e = 0
  · subst he
    by_cases h1 : x < 0
    · have hv : countOf (x, q, 0) most = (0, 0, 6) := by simp [countOf, h1]
      rw [hv]
      clear hv
      go_enter Try.func34, Try.ntmps34
      go_wp2_with (go_at_call 18; refine (readNumber_of HR.out _ hs).mono ?_; rintro e w' ⟨rfl, rfl⟩)
      go_ret3
      exact ⟨rfl, rfl⟩
    · by_cases h2 : most < x
      · have hv : countOf (x, q, 0) most = (0, 0, 4) := by simp [countOf, h1, h2]
        rw [hv]
        clear hv
        go_enter Try.func34, Try.ntmps34
        go_wp2_with (go_at_call 18; refine (readNumber_of HR.out _ hs).mono ?_; rintro e w' ⟨rfl, rfl⟩)
        go_ret3
        exact ⟨rfl, rfl⟩
      · have hv : countOf (x, q, 0) most = (x, q, 0) := by simp [countOf, h1, h2]
        rw [hv]
        clear hv
        go_enter Try.func34, Try.ntmps34
        go_wp2_with (go_at_call 18; refine (readNumber_of HR.out _ hs).mono ?_; rintro e w' ⟨rfl, rfl⟩)
        go_ret3
        exact ⟨rfl, rfl⟩
  · have hv : countOf (x, q, e) most = (0, 0, e) := by simp [countOf, he]
    rw [hv]
    have hb : (e == 0) = false := by simp [he]
    clear hv he
    go_enter Try.func34, Try.ntmps34
    go_wp2_with (go_at_call 18; refine (readNumber_of HR.out _ hs).mono ?_; rintro e w' ⟨rfl, rfl⟩)
    go_ret3
    exact ⟨rfl, rfl⟩

set_option maxHeartbeats 400000 in
theorem refCount_any (s : ByteArray) (p most : Int) (w : World) (hs : s.size ≤ 140737488355328) :
    Calls Try.prog 36 #[.string s, .int .i64 p, .int .i64 most] w fun e w' => e = .returned (.tuple #[.int .i64 (count s.data.toList p most).1, .int .i64 (count s.data.toList p most).2.1, .int .i64 (count s.data.toList p most).2.2]) ∧ w = w' := by
  obtain ⟨⟨x, q, e⟩, hr⟩ : ∃ t, rdAt s.data.toList p = t := ⟨_, rfl⟩
  have hc : count s.data.toList p most = countOf (x, q, e) most := by unfold count; rw [hr]
  rw [hc]
  clear hc
  have HR := Lib.hid hr; clear hr
  by_cases he : e = 0
  · subst he
    by_cases h1 : x < 0
    · have hv : countOf (x, q, 0) most = (0, 0, 6) := by simp [countOf, h1]
      rw [hv]
      clear hv
      go_enter Try.func36, Try.ntmps36
      go_wp2_with (go_at_call 19; refine (refReadNumber_of HR.out _ hs).mono ?_; rintro e w' ⟨rfl, rfl⟩)
      go_ret3
      exact ⟨rfl, rfl⟩
    · by_cases h2 : most < x
      · have hv : countOf (x, q, 0) most = (0, 0, 4) := by simp [countOf, h1, h2]
        rw [hv]
        clear hv
        go_enter Try.func36, Try.ntmps36
        go_wp2_with (go_at_call 19; refine (refReadNumber_of HR.out _ hs).mono ?_; rintro e w' ⟨rfl, rfl⟩)
        go_ret3
        exact ⟨rfl, rfl⟩
      · have hv : countOf (x, q, 0) most = (x, q, 0) := by simp [countOf, h1, h2]
        rw [hv]
        clear hv
        go_enter Try.func36, Try.ntmps36
        go_wp2_with (go_at_call 19; refine (refReadNumber_of HR.out _ hs).mono ?_; rintro e w' ⟨rfl, rfl⟩)
        go_ret3
        exact ⟨rfl, rfl⟩
  · have hv : countOf (x, q, e) most = (0, 0, e) := by simp [countOf, he]
    rw [hv]
    have hb : (e == 0) = false := by simp [he]
    clear hv he
    go_enter Try.func36, Try.ntmps36
    go_wp2_with (go_at_call 19; refine (refReadNumber_of HR.out _ hs).mono ?_; rintro e w' ⟨rfl, rfl⟩)
    go_ret3
    exact ⟨rfl, rfl⟩

theorem readCount_of {s : ByteArray} {p most x q e : Int} (h : count s.data.toList p most = (x, q, e)) (w : World) (hs : s.size ≤ 140737488355328) :
    Calls Try.prog 34 #[.string s, .int .i64 p, .int .i64 most] w fun e' w' => e' = .returned (.tuple #[.int .i64 x, .int .i64 q, .int .i64 e]) ∧ w = w' := by
  have := readCount_any s p most w hs
  rw [h] at this
  exact this
theorem refCount_of {s : ByteArray} {p most x q e : Int} (h : count s.data.toList p most = (x, q, e)) (w : World) (hs : s.size ≤ 140737488355328) :
    Calls Try.prog 36 #[.string s, .int .i64 p, .int .i64 most] w fun e' w' => e' = .returned (.tuple #[.int .i64 x, .int .i64 q, .int .i64 e]) ∧ w = w' := by
  have := refCount_any s p most w hs
  rw [h] at this
  exact this

theorem clone_of (s : ByteArray) (w : World) (hs : s.size ≤ 281474976710656) :
    Calls Try.prog 35 #[.string s] w fun e w' => e = .returned (.string s) ∧ Below w.heap.size w w' := by
  go_enter Try.func35, Try.ntmps35
  go_wp2_with (go_at_call 43; refine (S.clone_any s _ hs).mono ?_; rintro e w' ⟨rfl, hb⟩)
  go_ret
  exact ⟨rfl, hb⟩

theorem count_err (s : List UInt8) (p most : Int) {x q e : Int} (h : count s p most = (x, q, e)) (he : e ≠ 0) : x = 0 ∧ q = 0 := by
  unfold count countOf at h
  split at h
  · simp only [Prod.mk.injEq] at h; exact ⟨h.1.symm, h.2.1.symm⟩
  · split at h
    · simp only [Prod.mk.injEq] at h; exact ⟨h.1.symm, h.2.1.symm⟩
    · split at h
      · simp only [Prod.mk.injEq] at h; exact ⟨h.1.symm, h.2.1.symm⟩
      · simp only [Prod.mk.injEq] at h; exact absurd h.2.2.symm he

theorem str_cut (s : ByteArray) (a n : Nat) : s.extract a (a + n) = str ((s.data.toList.drop a).take n) := by
  unfold str
  rw [Lib.extract_eq, Nat.add_sub_cancel_left]

set_option maxHeartbeats 400000 in
theorem readText_any (s : ByteArray) (p : Int) (w : World) (hs : s.size ≤ 140737488355328) :
    Calls Try.prog 20 #[.string s, .int .i64 p] w fun e w' => e = .returned (.tuple #[.string (str (txt s.data.toList p).1), .int .i64 (txt s.data.toList p).2.1, .int .i64 (txt s.data.toList p).2.2]) ∧ Below w.heap.size w w' := by
  obtain ⟨⟨x, q, e⟩, hr⟩ : ∃ t, count s.data.toList p 4096 = t := ⟨_, rfl⟩
  have hc : txt s.data.toList p = txtOf s.data.toList (x, q, e) := by unfold txt; rw [hr]
  rw [hc]
  clear hc
  by_cases he : e = 0
  · subst he
    obtain ⟨c1, c2, c3, c4, c5, _⟩ := count_ok _ _ _ hr
    rw [← size_list] at c5
    have HR := Lib.hid hr; clear hr
    by_cases h1 : (s.size : Int) - q < x
    · have hv : txtOf s.data.toList (x, q, 0) = ([], 0, 5) := by unfold txtOf; rw [if_neg (by simp), if_pos (by rw [← size_list]; exact h1)]
      rw [hv]
      clear hv c3
      go_enter Try.func20, Try.ntmps20
      go_wp2_with (go_at_call 34; refine (readCount_of HR.out _ hs).mono ?_; rintro e w' ⟨rfl, rfl⟩)
      go_ret3
      exact ⟨rfl, Below.refl _ _⟩
    · obtain ⟨n, rfl⟩ := Int.eq_ofNat_of_zero_le c1
      obtain ⟨a, rfl⟩ := Int.eq_ofNat_of_zero_le c4
      have hv : txtOf s.data.toList ((n : Int), (a : Int), 0) = ((s.data.toList.drop a).take n, (a : Int) + (n : Int), 0) := by unfold txtOf; rw [if_neg (by simp), if_neg (by rw [← size_list]; exact h1)]; simp
      rw [hv]
      have hcut := str_cut s a n
      have HC := Lib.hid hcut; clear hcut
      clear hv c3
      go_enter Try.func20, Try.ntmps20
      go_wp2_with (go_at_call 34; refine (readCount_of HR.out _ hs).mono ?_; rintro e w' ⟨rfl, rfl⟩)
      rw [HC.out]
      refine (clone_of _ _ (by rw [str_size, List.length_take]; omega)).mono ?_
      rintro e w1 ⟨rfl, hb1⟩
      go_wp2_with fail
      go_ret3
      exact ⟨rfl, hb1⟩
  · have hz := count_err _ _ _ hr he
    have hv : txtOf s.data.toList (x, q, e) = ([], 0, e) := by simp [txtOf, he]
    rw [hv]
    have HR := Lib.hid hr; clear hr
    have hb : (e == 0) = false := by simp [he]
    clear hv he hz
    go_enter Try.func20, Try.ntmps20
    go_wp2_with (go_at_call 34; refine (readCount_of HR.out _ hs).mono ?_; rintro e w' ⟨rfl, rfl⟩)
    go_ret3
    exact ⟨rfl, Below.refl _ _⟩
set_option maxHeartbeats 400000 in
theorem refReadText_any (s : ByteArray) (p : Int) (w : World) (hs : s.size ≤ 140737488355328) :
    Calls Try.prog 21 #[.string s, .int .i64 p] w fun e w' => e = .returned (.tuple #[.string (str (txt s.data.toList p).1), .int .i64 (txt s.data.toList p).2.1, .int .i64 (txt s.data.toList p).2.2]) ∧ w = w' := by
  obtain ⟨⟨x, q, e⟩, hr⟩ : ∃ t, count s.data.toList p 4096 = t := ⟨_, rfl⟩
  have hc : txt s.data.toList p = txtOf s.data.toList (x, q, e) := by unfold txt; rw [hr]
  rw [hc]
  clear hc
  by_cases he : e = 0
  · subst he
    obtain ⟨c1, c2, c3, c4, c5, _⟩ := count_ok _ _ _ hr
    rw [← size_list] at c5
    have HR := Lib.hid hr; clear hr
    by_cases h1 : (s.size : Int) - q < x
    · have hv : txtOf s.data.toList (x, q, 0) = ([], 0, 5) := by unfold txtOf; rw [if_neg (by simp), if_pos (by rw [← size_list]; exact h1)]
      rw [hv]
      clear hv c3
      go_enter Try.func21, Try.ntmps21
      go_wp2_with (go_at_call 36; refine (refCount_of HR.out _ hs).mono ?_; rintro e w' ⟨rfl, rfl⟩)
      go_ret3
      exact ⟨rfl, rfl⟩
    · obtain ⟨n, rfl⟩ := Int.eq_ofNat_of_zero_le c1
      obtain ⟨a, rfl⟩ := Int.eq_ofNat_of_zero_le c4
      have hv : txtOf s.data.toList ((n : Int), (a : Int), 0) = ((s.data.toList.drop a).take n, (a : Int) + (n : Int), 0) := by unfold txtOf; rw [if_neg (by simp), if_neg (by rw [← size_list]; exact h1)]; simp
      rw [hv]
      have hcut := str_cut s a n
      have HC := Lib.hid hcut; clear hcut
      clear hv c3
      go_enter Try.func21, Try.ntmps21
      go_wp2_with (go_at_call 36; refine (refCount_of HR.out _ hs).mono ?_; rintro e w' ⟨rfl, rfl⟩)
      go_ret3
      exact ⟨by rw [← HC.out]; rfl, rfl⟩
  · have hz := count_err _ _ _ hr he
    have hv : txtOf s.data.toList (x, q, e) = ([], 0, e) := by simp [txtOf, he]
    rw [hv]
    have HR := Lib.hid hr; clear hr
    have hb : (e == 0) = false := by simp [he]
    clear hv he hz
    go_enter Try.func21, Try.ntmps21
    go_wp2_with (go_at_call 36; refine (refCount_of HR.out _ hs).mono ?_; rintro e w' ⟨rfl, rfl⟩)
    go_ret3
    exact ⟨rfl, rfl⟩

theorem readText_of {s : ByteArray} {p : Int} {x : List UInt8} {q e : Int} (h : txt s.data.toList p = (x, q, e)) (w : World) (hs : s.size ≤ 140737488355328) :
    Calls Try.prog 20 #[.string s, .int .i64 p] w fun e' w' => e' = .returned (.tuple #[.string (str x), .int .i64 q, .int .i64 e]) ∧ Below w.heap.size w w' := by
  have := readText_any s p w hs
  rw [h] at this
  exact this
theorem refReadText_of {s : ByteArray} {p : Int} {x : List UInt8} {q e : Int} (h : txt s.data.toList p = (x, q, e)) (w : World) (hs : s.size ≤ 140737488355328) :
    Calls Try.prog 21 #[.string s, .int .i64 p] w fun e' w' => e' = .returned (.tuple #[.string (str x), .int .i64 q, .int .i64 e]) ∧ w = w' := by
  have := refReadText_any s p w hs
  rw [h] at this
  exact this
end Go.Proofs.Ytaclkofkajehpaa.V
