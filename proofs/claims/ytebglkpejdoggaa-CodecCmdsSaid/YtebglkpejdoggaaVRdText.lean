/-
  Contract: the reference's ReadNumber.
  Contracts at any place; the statement's 'awake'.
  The library's strings.Builder (WriteString, String) and Clone at this dump: each one application of the shelf's own theorem.
  Contracts: counts and texts, the program's and the reference's.
-/
import Derived.Test.YtebglkpejdoggaaVRdWalk
import Derived.Shelf.Strings.Builder1
import Derived.Shelf.LaysM
import Derived.Shelf.Strconv.Clone
import Derived.Test.YtebglkpejdoggaaProg
import Derived.Test.YtebglkpejdoggaaVInv
namespace Go.Proofs.Ytebglkpejdoggaa.V
open Go.RowKit

/-- What one step from the top does: at the place j of the digits. -/
theorem horner_of (s : ByteArray) (p k V : Nat) (hlt : p + k < s.size) (hV : val ((s.data.toList.drop p).take (k + 1)) = V) (hVL : V < 18446744073709551616) (_hs : s.size ≤ 140737488355328) :
    ∀ m, m ≤ k → ∃ (b U U' : Nat) (h : p + m < s.size), (s[p + m]'h).toNat = b ∧ b < 256 ∧ val (((s.data.toList.drop p).take (k + 1)).drop (m + 1)) = U ∧ val (((s.data.toList.drop p).take (k + 1)).drop m) = U' ∧
      IntKind.u64.wrap ((U : Int) * 128) = (U : Int) * 128 ∧ IntKind.u64.wrap ((U : Int) * 128 + (b : Int) % 128) = (U' : Int) := by
  intro m hm
  have hp : p + m < s.size := by omega
  have hlen : ((s.data.toList.drop p).take (k + 1)).length = k + 1 := by rw [List.length_take, List.length_drop, ← size_list]; omega
  have h1 := val_drop ((s.data.toList.drop p).take (k + 1)) m (by omega)
  have h2 := val_drop_le ((s.data.toList.drop p).take (k + 1)) m
  have hb : (((s.data.toList.drop p).take (k + 1))[m]'(by omega)).toNat = (s[p + m]'hp).toNat := by
    rw [List.getElem_take, List.getElem_drop]; rfl
  rw [hb] at h1
  rw [hV] at h2
  have hb256 := (s[p + m]'hp).toNat_lt
  refine ⟨_, _, _, hp, rfl, hb256, rfl, rfl, IntWalk.u64_in _ (by omega), ?_⟩
  rw [IntWalk.u64_in _ (by omega), h1]
  omega

end Go.Proofs.Ytebglkpejdoggaa.V

namespace Go.Proofs.Ytebglkpejdoggaa.V
open Go.RowKit

theorem rdAt_out (l : List UInt8) (p : Int) (h : p < 0 ∨ (l.length : Int) < p) : rdAt l p = (0, 0, 3) := by unfold rdAt; rw [if_pos h]

theorem readNumber_any (s : ByteArray) (p : Int) (w : World) (hs : s.size ≤ 140737488355328) :
    Calls Try.prog 73 #[.string s, .int .i64 p] w fun e w' => 
      e = .returned (.tuple #[.int .i64 (rdAt s.data.toList p).1, .int .i64 (rdAt s.data.toList p).2.1, .int .i64 (rdAt s.data.toList p).2.2]) ∧ w = w' := by
  by_cases h : p < 0 ∨ (s.size : Int) < p
  · rw [rdAt_out _ _ (by rw [← size_list]; exact h)]
    exact readNumber_out s p w h
  · obtain ⟨k, rfl⟩ := Int.eq_ofNat_of_zero_le (show 0 ≤ p by omega)
    exact readNumber_in s k w (by omega) hs

theorem rd_first : rdAt [216, 4] 0 = (300, 2, 0) := by decide
theorem rd_second : rdAt [128, 0] 0 = (0, 0, 6) := by decide
theorem num_first : num (-1) = [1] := by
  unfold num
  rw [show Lib.zigzag (-1) = 1 by decide, Lib.uvarint_small (by decide)]
  rfl
theorem num_second : num 64 = [128, 1] := by
  unfold num
  rw [show Lib.zigzag 64 = 128 by decide, Lib.uvarint_big (by decide), Lib.uvarint_small (by decide)]
  rfl

end Go.Proofs.Ytebglkpejdoggaa.V

namespace Go.Proofs.Ytebglkpejdoggaa.S
open Go.Shelf Go.RowKit Go.Proofs
def lays166_ren : Go.Shelf.Ren := ⟨fun | 166 => 57 | 240 => 71 | 276 => 81 | n => n, fun | 0 => 0 | 3 => 3 | 4 => 4 | 9 => 9 | 20 => 20 | 37 => 69 | 70 => 72 | 72 => 74 | 75 => 76 | 80 => 79 | 164 => 104 | 5 => 5 | n => n, fun | n => n⟩
theorem lays166 : Go.Proofs.Lays.n166 Try.prog lays166_ren := {
  mixed := by kernel_rfl
  f166 := Try.func57.trans (congrArg some (by kernel_rfl))
  f240 := Try.func71.trans (congrArg some (by kernel_rfl))
  f276 := Try.func81.trans (congrArg some (by kernel_rfl))
  t0 := Try.underlying0
  a0 := Try.isAgg0
  z0 := Try.sizeOf0
  v0 := Try.zeroValue0
  t3 := Try.underlying3
  a3 := Try.isAgg3
  z3 := Try.sizeOf3
  v3 := Try.zeroValue3
  t4 := Try.underlying4
  a4 := Try.isAgg4
  z4 := Try.sizeOf4
  v4 := Try.zeroValue4
  t9 := Try.underlying9
  a9 := Try.isAgg9
  z9 := Try.sizeOf9
  v9 := Try.zeroValue9
  t20 := Try.underlying20
  a20 := Try.isAgg20
  z20 := Try.sizeOf20
  v20 := Try.zeroValue20
  t37 := Try.underlying69
  a37 := Try.isAgg69
  z37 := Try.sizeOf69
  v37 := Try.zeroValue69
  t70 := Try.underlying72
  a70 := Try.isAgg72
  z70 := Try.sizeOf72
  v70 := Try.zeroValue72
  t72 := Try.underlying74
  a72 := Try.isAgg74
  z72 := Try.sizeOf74
  v72 := Try.zeroValue74
  t75 := Try.underlying76
  a75 := Try.isAgg76
  z75 := Try.sizeOf76
  v75 := Try.zeroValue76
  t164 := Try.underlying104
  a164 := Try.isAgg104
  z164 := Try.sizeOf104
  v164 := Try.zeroValue104 }
theorem extra166 : Builder.Extra Try.prog lays166_ren := {
  sizeBuilder := by kernel_rfl
  liesBuilder := by kernel_rfl
  t5 := Try.underlying5
  a5 := Try.isAgg5
  z5 := Try.sizeOf5
  v5 := Try.zeroValue5
  infoByte := by kernel_rfl
  cellsByte := by kernel_rfl
  sizeByte := by kernel_rfl
  neB5 := by decide }
theorem write_any (B b : Nat) (bs : List Value) (s : ByteArray) (w : World) (h : Lib.IsBuilder 74 5 B b bs w) (hlen : bs.length + s.size ≤ 140737488355328) (hBw : B ≤ w.heap.size) :
    Calls Try.prog 57 #[.pointer (some ⟨b, 0, none⟩), .string s] w fun e w' => e = .returned (.tuple #[.int .i64 s.size, .nilIface]) ∧ (Lib.BuilderAt 74 5 B b (.pointer (some ⟨b, 0, none⟩)) (bs ++ Lib.strCells s) w' ∧ Below B w w') :=
  Any.Builder_WriteString lays166 extra166 B b bs s w h hlen hBw
def lays169_ren : Go.Shelf.Ren := ⟨fun | 169 => 58 | n => n, fun | 0 => 0 | 3 => 3 | 9 => 9 | 37 => 69 | 70 => 72 | 72 => 74 | 127 => 92 | 5 => 5 | n => n, fun | n => n⟩
theorem lays169 : Go.Proofs.Lays.n169 Try.prog lays169_ren := {
  mixed := by kernel_rfl
  f169 := Try.func58.trans (congrArg some (by kernel_rfl))
  t0 := Try.underlying0
  a0 := Try.isAgg0
  z0 := Try.sizeOf0
  v0 := Try.zeroValue0
  t3 := Try.underlying3
  a3 := Try.isAgg3
  z3 := Try.sizeOf3
  v3 := Try.zeroValue3
  t9 := Try.underlying9
  a9 := Try.isAgg9
  z9 := Try.sizeOf9
  v9 := Try.zeroValue9
  t37 := Try.underlying69
  a37 := Try.isAgg69
  z37 := Try.sizeOf69
  v37 := Try.zeroValue69
  t70 := Try.underlying72
  a70 := Try.isAgg72
  z70 := Try.sizeOf72
  v70 := Try.zeroValue72
  t72 := Try.underlying74
  a72 := Try.isAgg74
  z72 := Try.sizeOf74
  v72 := Try.zeroValue74
  t127 := Try.underlying92
  a127 := Try.isAgg92
  z127 := Try.sizeOf92
  v127 := Try.zeroValue92 }
theorem extra169 : Builder.Extra Try.prog lays169_ren := {
  sizeBuilder := by kernel_rfl
  liesBuilder := by kernel_rfl
  t5 := Try.underlying5
  a5 := Try.isAgg5
  z5 := Try.sizeOf5
  v5 := Try.zeroValue5
  infoByte := by kernel_rfl
  cellsByte := by kernel_rfl
  sizeByte := by kernel_rfl
  neB5 := by decide }
theorem string_any (B b : Nat) (l : List UInt8) (w : World) (h : Lib.IsBuilder 74 5 B b (Lib.byteCells l) w) (hBw : B ≤ w.heap.size) :
    Calls Try.prog 58 #[.pointer (some ⟨b, 0, none⟩)] w fun e w' => e = .returned (.string ⟨l.toArray⟩) ∧ Below B w w' :=
  Any.Builder_String_any lays169 extra169 B b l w h hBw
def laysM316_ren : Go.Shelf.Ren := ⟨fun | 316 => 87 | n => n, fun | 0 => 0 | 3 => 3 | 4 => 4 | 9 => 9 | 37 => 69 | 127 => 92 | 5 => 5 | n => n, fun | n => n⟩
theorem laysM316 : Go.Proofs.LaysM.n316 Try.prog laysM316_ren := {
  mixed := by kernel_rfl
  f316 := Try.func87.trans (congrArg some (by kernel_rfl))
  t0 := Try.underlying0
  a0 := Try.isAgg0
  z0 := Try.sizeOf0
  v0 := Try.zeroValue0
  t3 := Try.underlying3
  a3 := Try.isAgg3
  z3 := Try.sizeOf3
  v3 := Try.zeroValue3
  t4 := Try.underlying4
  a4 := Try.isAgg4
  z4 := Try.sizeOf4
  v4 := Try.zeroValue4
  t9 := Try.underlying9
  a9 := Try.isAgg9
  z9 := Try.sizeOf9
  v9 := Try.zeroValue9
  t37 := Try.underlying69
  a37 := Try.isAgg69
  z37 := Try.sizeOf69
  v37 := Try.zeroValue69
  t127 := Try.underlying92
  a127 := Try.isAgg92
  z127 := Try.sizeOf92
  v127 := Try.zeroValue92
  t5 := Try.underlying5
  a5 := Try.isAgg5
  z5 := Try.sizeOf5
  v5 := Try.zeroValue5
  i0 := by kernel_rfl
  i3 := by kernel_rfl
  i4 := by kernel_rfl
  i5 := by kernel_rfl
  i9 := by kernel_rfl
  i37 := by kernel_rfl
  i127 := by kernel_rfl }
theorem clone_any (s : ByteArray) (w : World) (hlim : s.size ≤ 281474976710656) :
    Calls Try.prog 87 #[.string s] w fun e w' => e = .returned (.string s) ∧ Below w.heap.size w w' :=
  Any.stringslite_Clone laysM316 s w hlim
end Go.Proofs.Ytebglkpejdoggaa.S

namespace Go.Proofs.Ytebglkpejdoggaa.V
open Go.RowKit

theorem ret_three_eq {k k' k'' : IntKind} {r t : Int × Int × Int} (h : r = t) : Ending.returned (.tuple #[.int k r.1, .int k' r.2.1, .int k'' r.2.2]) = .returned (.tuple #[.int k t.1, .int k' t.2.1, .int k'' t.2.2]) := by rw [h]

/-- ReadNumber's contract where its answer has a name. -/
theorem readNumber_of {s : ByteArray} {p x q e : Int} (h : rdAt s.data.toList p = (x, q, e)) (w : World) (hs : s.size ≤ 140737488355328) :
    Calls Try.prog 73 #[.string s, .int .i64 p] w fun e' w' => e' = .returned (.tuple #[.int .i64 x, .int .i64 q, .int .i64 e]) ∧ w = w' := by
  have := readNumber_any s p w hs
  rw [h] at this
  exact this
set_option maxHeartbeats 400000 in
theorem readCount_any (s : ByteArray) (p most : Int) (w : World) (hs : s.size ≤ 140737488355328) :
    Calls Try.prog 83 #[.string s, .int .i64 p, .int .i64 most] w fun e w' => e = .returned (.tuple #[.int .i64 (count s.data.toList p most).1, .int .i64 (count s.data.toList p most).2.1, .int .i64 (count s.data.toList p most).2.2]) ∧ w = w' := by
  obtain ⟨⟨x, q, e⟩, hr⟩ : ∃ t, rdAt s.data.toList p = t := ⟨_, rfl⟩
  have hc : count s.data.toList p most = countOf (x, q, e) most := by unfold count; rw [hr]
  rw [hc]
  clear hc
  have HR := Lib.hid hr; clear hr
  by_cases he : e = 0
  · subst he
    by_cases h1 : x < 0
    · have hv : countOf (x, q, 0) most = (0, 0, 6) := by simp [countOf, h1]
      rw [hv]
      clear hv
      go_enter Try.func83, Try.ntmps83
      go_wp2_with (go_at_call 73; refine (readNumber_of HR.out _ hs).mono ?_; rintro e w' ⟨rfl, rfl⟩)
      go_ret3
      exact ⟨rfl, rfl⟩
    · by_cases h2 : most < x
      · have hv : countOf (x, q, 0) most = (0, 0, 4) := by simp [countOf, h1, h2]
        rw [hv]
        clear hv
        go_enter Try.func83, Try.ntmps83
        go_wp2_with (go_at_call 73; refine (readNumber_of HR.out _ hs).mono ?_; rintro e w' ⟨rfl, rfl⟩)
        go_ret3
        exact ⟨rfl, rfl⟩
      · have hv : countOf (x, q, 0) most = (x, q, 0) := by simp [countOf, h1, h2]
        rw [hv]
        clear hv
        go_enter Try.func83, Try.ntmps83
        go_wp2_with (go_at_call 73; refine (readNumber_of HR.out _ hs).mono ?_; rintro e w' ⟨rfl, rfl⟩)
        go_ret3
        exact ⟨rfl, rfl⟩
  · have hv : countOf (x, q, e) most = (0, 0, e) := by simp [countOf, he]
    rw [hv]
    have hb : (e == 0) = false := by simp [he]
    clear hv he
    go_enter Try.func83, Try.ntmps83
    go_wp2_with (go_at_call 73; refine (readNumber_of HR.out _ hs).mono ?_; rintro e w' ⟨rfl, rfl⟩)
    go_ret3
    exact ⟨rfl, rfl⟩

theorem readCount_of {s : ByteArray} {p most x q e : Int} (h : count s.data.toList p most = (x, q, e)) (w : World) (hs : s.size ≤ 140737488355328) :
    Calls Try.prog 83 #[.string s, .int .i64 p, .int .i64 most] w fun e' w' => e' = .returned (.tuple #[.int .i64 x, .int .i64 q, .int .i64 e]) ∧ w = w' := by
  have := readCount_any s p most w hs
  rw [h] at this
  exact this
theorem clone_of (s : ByteArray) (w : World) (hs : s.size ≤ 281474976710656) :
    Calls Try.prog 84 #[.string s] w fun e w' => e = .returned (.string s) ∧ Below w.heap.size w w' := by
  go_enter Try.func84, Try.ntmps84
  go_wp2_with (go_at_call 87; refine (S.clone_any s _ hs).mono ?_; rintro e w' ⟨rfl, hb⟩)
  go_ret
  exact ⟨rfl, hb⟩

theorem count_err (s : List UInt8) (p most : Int) {x q e : Int} (h : count s p most = (x, q, e)) (he : e ≠ 0) : x = 0 ∧ q = 0 := by
  unfold count countOf at h
  split at h
  · simp only [Prod.mk.injEq] at h; exact ⟨h.1.symm, h.2.1.symm⟩
  · split at h
    · simp only [Prod.mk.injEq] at h; exact ⟨h.1.symm, h.2.1.symm⟩
    · split at h
      · simp only [Prod.mk.injEq] at h; exact ⟨h.1.symm, h.2.1.symm⟩
      · simp only [Prod.mk.injEq] at h; exact absurd h.2.2.symm he

theorem str_cut (s : ByteArray) (a n : Nat) : s.extract a (a + n) = str ((s.data.toList.drop a).take n) := by
  unfold str
  rw [Lib.extract_eq, Nat.add_sub_cancel_left]

set_option maxHeartbeats 400000 in
theorem readText_any (s : ByteArray) (p : Int) (w : World) (hs : s.size ≤ 140737488355328) :
    Calls Try.prog 75 #[.string s, .int .i64 p] w fun e w' => e = .returned (.tuple #[.string (str (txt s.data.toList p).1), .int .i64 (txt s.data.toList p).2.1, .int .i64 (txt s.data.toList p).2.2]) ∧ Below w.heap.size w w' := by
  obtain ⟨⟨x, q, e⟩, hr⟩ : ∃ t, count s.data.toList p 4096 = t := ⟨_, rfl⟩
  have hc : txt s.data.toList p = txtOf s.data.toList (x, q, e) := by unfold txt; rw [hr]
  rw [hc]
  clear hc
  by_cases he : e = 0
  · subst he
    obtain ⟨c1, c2, c3, c4, c5, _⟩ := count_ok _ _ _ hr
    rw [← size_list] at c5
    have HR := Lib.hid hr; clear hr
    by_cases h1 : (s.size : Int) - q < x
    · have hv : txtOf s.data.toList (x, q, 0) = ([], 0, 5) := by unfold txtOf; rw [if_neg (by simp), if_pos (by rw [← size_list]; exact h1)]
      rw [hv]
      clear hv c3
      go_enter Try.func75, Try.ntmps75
      go_wp2_with (go_at_call 83; refine (readCount_of HR.out _ hs).mono ?_; rintro e w' ⟨rfl, rfl⟩)
      go_ret3
      exact ⟨rfl, Below.refl _ _⟩
    · obtain ⟨n, rfl⟩ := Int.eq_ofNat_of_zero_le c1
      obtain ⟨a, rfl⟩ := Int.eq_ofNat_of_zero_le c4
      have hv : txtOf s.data.toList ((n : Int), (a : Int), 0) = ((s.data.toList.drop a).take n, (a : Int) + (n : Int), 0) := by unfold txtOf; rw [if_neg (by simp), if_neg (by rw [← size_list]; exact h1)]; simp
      rw [hv]
      have hcut := str_cut s a n
      have HC := Lib.hid hcut; clear hcut
      clear hv c3
      go_enter Try.func75, Try.ntmps75
      go_wp2_with (go_at_call 83; refine (readCount_of HR.out _ hs).mono ?_; rintro e w' ⟨rfl, rfl⟩)
      rw [HC.out]
      refine (clone_of _ _ (by rw [str_size, List.length_take]; omega)).mono ?_
      rintro e w1 ⟨rfl, hb1⟩
      go_wp2_with fail
      go_ret3
      exact ⟨rfl, hb1⟩
  · have hz := count_err _ _ _ hr he
    have hv : txtOf s.data.toList (x, q, e) = ([], 0, e) := by simp [txtOf, he]
    rw [hv]
    have HR := Lib.hid hr; clear hr
    have hb : (e == 0) = false := by simp [he]
    clear hv he hz
    go_enter Try.func75, Try.ntmps75
    go_wp2_with (go_at_call 83; refine (readCount_of HR.out _ hs).mono ?_; rintro e w' ⟨rfl, rfl⟩)
    go_ret3
    exact ⟨rfl, Below.refl _ _⟩
theorem readText_of {s : ByteArray} {p : Int} {x : List UInt8} {q e : Int} (h : txt s.data.toList p = (x, q, e)) (w : World) (hs : s.size ≤ 140737488355328) :
    Calls Try.prog 75 #[.string s, .int .i64 p] w fun e' w' => e' = .returned (.tuple #[.string (str x), .int .i64 q, .int .i64 e]) ∧ Below w.heap.size w w' := by
  have := readText_any s p w hs
  rw [h] at this
  exact this
end Go.Proofs.Ytebglkpejdoggaa.V
