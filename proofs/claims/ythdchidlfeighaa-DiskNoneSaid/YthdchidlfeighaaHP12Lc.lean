/-
  Layer 12, the laws: both disks behind some calls.
-/
import Derived.Test.YthdchidlfeighaaHP12La
import Derived.Test.YthdchidlfeighaaHP12Lb
import Derived.Handy
namespace Go.Proofs.Ythdchidlfeighaa.C12
open Go Go.RowKit Go.Proofs Go.Proofs.Ythdchidlfeighaa.B Go.Proofs.Ythdchidlfeighaa.K Go.Proofs.Ythdchidlfeighaa.P8
set_option linter.unusedVariables false
set_option maxRecDepth 100000

/-- One call as it lies in memory. -/
def ActIs (w : World) (B : Nat) (cs : List Value) (a : ActL) : Prop := ∃ kv, cs = [.int .i64 a.kind, .string (str a.name), .string (str a.s), .string (str a.tox), .int .i64 a.n, kv] ∧ Kp0 w B kv a.keep ∧ ActWf a
/-- Calls in a slice that was there ahead. -/
def ActsIs (w : World) (B : Nat) (v : Value) (l : List ActL) : Prop :=
  ∃ a cap, v = .slice a l.length cap ∧ ∀ (j : Nat) (y : ActL), l[j]? = some y → ∃ b off cs, a = some ⟨b, off, none⟩ ∧ b < B ∧ ActIs w B cs y ∧ ∀ i u, cs[i]? = some u → w.cell? ⟨b, off + j * 6 + i, none⟩ = some u
theorem ActIs.below {w w' : World} {B : Nat} {cs : List Value} {a : ActL} (h : ActIs w B cs a) (hb : Below B w w') : ActIs w' B cs a := by
  obtain ⟨kv, e, h1, h2⟩ := h
  exact ⟨kv, e, h1.below hb, h2⟩
theorem ActsIs.below {w w' : World} {B : Nat} {v : Value} {l : List ActL} (h : ActsIs w B v l) (hb : Below B w w') : ActsIs w' B v l := by
  obtain ⟨a, cap, rfl, h1⟩ := h
  refine ⟨a, cap, rfl, fun j y hj => ?_⟩
  obtain ⟨b, off, cs, rfl, hlt, h2, h3⟩ := h1 j y hj
  exact ⟨b, off, cs, rfl, hlt, h2.below hb, fun i u hi => cell_same (hb.block b hlt) (h3 i u hi)⟩
def runD : Dst → List ActL → Dst
  | D, [] => D
  | D, a :: l => runD (stepD D a).1 l
theorem runD_snoc (a : ActL) : ∀ (l : List ActL) (D : Dst), runD D (l ++ [a]) = (stepD (runD D l) a).1
  | [], D => rfl
  | b :: l, D => runD_snoc a l _

theorem made_bad (room : Int) (l : List ActL) (lv : Value) (w : World) (hl : ActsIs w w.heap.size lv l) (h : room < 0 ∨ 1048576 < room) :
    Calls Try.prog 9 #[.int .i64 room, lv] w fun e w' => e = .returned (.tuple #[.pointer none, .pointer none, .bool true]) ∧ Below w.heap.size w w' := by
  have HP := Lib.hid (pnew_bad room w h)
  have HR := Lib.hid (fun W => new_bad room W h)
  obtain ⟨la, lc, rfl, -⟩ := hl
  clear h
  go_enter Try.func9, Try.ntmps9
  go_wp2_with (first
    | (go_at_call 19; refine HP.out.mono ?_; rintro _ w1 ⟨rfl, hb1⟩; have HB1 := Lib.hid hb1; clear hb1)
    | (go_at_call 23; refine (HR.out _).mono ?_; rintro _ w2 ⟨rfl, rfl⟩))
  go_loopw [11] (fun i wr => i = .int .i64 0 ∧ wr = w1) (fun _ _ => 0)
  case atStart => exact ⟨rfl, rfl⟩
  case round =>
    obtain ⟨rfl, rfl⟩ := hrel
    go_wp2_with fail
    go_ret3
    exact ⟨rfl, HB1.out⟩

set_option maxHeartbeats 4000000 in
theorem made_good (room : Int) (l : List ActL) (lv : Value) (w : World) (hl : ActsIs w w.heap.size lv l) (h : 0 ≤ room ∧ room ≤ 1048576) :
    Calls Try.prog 9 #[.int .i64 room, lv] w fun e w' => ∃ d x, e = .returned (.tuple #[.pointer (some ⟨d, 0, none⟩), .pointer (some ⟨x, 0, none⟩), .bool true]) ∧ Two w.heap.size w' d x (runD ⟨room, [], 0, false⟩ (l.take 200)) (runD ⟨room, [], 0, false⟩ (l.take 200)) ∧ Below w.heap.size w w' := by
  have HP := Lib.hid (pnew_good room w h)
  have HR := Lib.hid (fun W => new_good room W h)
  have HL := Lib.hid hl
  obtain ⟨la, lc, rfl, -⟩ := hl
  obtain ⟨N, hN⟩ : ∃ N, l.length = N := ⟨_, rfl⟩
  rw [hN] at HL ⊢
  have HN := Lib.hid hN
  clear h hN
  go_enter Try.func9, Try.ntmps9
  go_wp2_with (first
    | (go_at_call 19; refine HP.out.mono ?_; rintro _ w1 ⟨d, F, rfl, hp1, hF1, hb1⟩; have HB1 := Lib.hid hb1; have HP1 := Lib.hid hp1; have HF1 := Lib.hid hF1; clear hb1 hp1 hF1)
    | (go_at_call 23; refine (HR.out _).mono ?_; rintro _ w2 ⟨rfl, hr2, hb2⟩; have HR2 := Lib.hid hr2; have HB2 := Lib.hid hb2; clear hr2 hb2))
  obtain ⟨x, hx⟩ : ∃ x, w1.heap.size = x := ⟨_, rfl⟩
  have HT := Lib.hid (show Two w.heap.size w2 d x ⟨room, [], 0, false⟩ ⟨room, [], 0, false⟩ from by
    rw [← hx]
    exact ⟨F, fun i => i = w1.heap.size, HP1.out.below HB2.out, HR2.out, fun i hi e => by have := HP1.out.lt i hi; omega, HF1.out, fun i hi => by rw [hi]; exact HB1.out.size, Nat.le_trans HB1.out.size HB2.out.size⟩)
  have HB := Lib.hid (HB1.out.trans (HB2.out.mono HB1.out.size))
  clear HP1 HF1 HR2
  rw [hx]
  clear hx
  go_loopw [11] (fun i wr => ∃ K : Nat, i = .int .i64 (K : Int) ∧ K ≤ N ∧ K ≤ 200 ∧ Hid (Two w.heap.size wr d x (runD ⟨room, [], 0, false⟩ (l.take K)) (runD ⟨room, [], 0, false⟩ (l.take K))) ∧ Hid (Below w.heap.size w wr)) (fun i _ => N - (intOf i).toNat)
  case atStart => exact ⟨0, rfl, Nat.zero_le _, Nat.zero_le _, HT, HB⟩
  case round =>
    obtain ⟨K, rfl, hK, hK2, HTK, HBK⟩ := hrel
    have hk0 : 0 ≤ (K : Int) := by omega
    have hw1 : IntKind.i64.wrap ((K : Int) + 1) = (K : Int) + 1 := IntWalk.i64_in _ (by omega)
    by_cases hlt : K < N
    · have hltI : (K : Int) < (N : Int) := by omega
      by_cases h200 : K < 200
      · have h2I : (K : Int) < 200 := by omega
        obtain ⟨y, hy⟩ : ∃ y, l[K]? = some y := ⟨_, List.getElem?_eq_getElem (by rw [HN.out]; exact hlt)⟩
        obtain ⟨a', cap', he, hc⟩ := HL.out.below HBK.out
        obtain ⟨b, off, cs, rfl, -, hact, hcs⟩ := hc K y hy
        rw [HN.out] at he
        cases he
        obtain ⟨kv, rfl, hkv, hwf⟩ := hact
        have m0 := hcs 0 _ rfl
        have m1 := hcs 1 _ rfl
        have m2 := hcs 2 _ rfl
        have m3 := hcs 3 _ rfl
        have m4 := hcs 4 _ rfl
        have m5 := hcs 5 _ rfl
        rw [Nat.add_zero] at m0
        have HD := Lib.hid (do_any w.heap.size wr d x _ _ y kv HTK.out hkv hwf)
        rw [doB_same] at HD
        have HRU := Lib.hid (show runD ⟨room, [], 0, false⟩ (l.take (K + 1)) = (stepD (runD ⟨room, [], 0, false⟩ (l.take K)) y).1 from by
          rw [List.take_add_one, hy]
          exact runD_snoc y _ _)
        obtain ⟨ka, kc, rfl, -⟩ := hkv
        clear hy hc hcs hwf
        go_wp2_with (go_at_call 24; refine HD.out.mono ?_; rintro _ w3 ⟨rfl, ht3, hb3⟩; have HT3 := Lib.hid ht3; have HB3 := Lib.hid hb3; clear ht3 hb3)
        go_roundw
        case rel => exact ⟨K + 1, by go_num, by omega, by omega, Lib.hid (by rw [HRU.out]; exact HT3.out), Lib.hid (HBK.out.trans HB3.out)⟩
        case measure => simp [intOf]; omega
      · have h2I : ¬ (K : Int) < 200 := by omega
        have hK200 : K = 200 := by omega
        have HE := Lib.hid hK200
        clear hK200
        go_wp2_with fail
        go_ret3
        exact ⟨d, x, rfl, by rw [← HE.out]; exact HTK.out, HBK.out⟩
    · have hltI : ¬ (K : Int) < (N : Int) := by omega
      have HE := Lib.hid (show l.take 200 = l.take K from by rw [List.take_of_length_le (i := 200) (by rw [HN.out]; omega), List.take_of_length_le (i := K) (by rw [HN.out]; omega)])
      go_wp2_with fail
      go_ret3
      exact ⟨d, x, rfl, by rw [HE.out]; exact HTK.out, HBK.out⟩
end Go.Proofs.Ythdchidlfeighaa.C12
