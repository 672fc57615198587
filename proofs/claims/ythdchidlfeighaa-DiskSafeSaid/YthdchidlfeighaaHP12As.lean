/-
  Layer 12, plainly: what a crash leaves of each file; is a text a beginning of another one?
-/
import Derived.Test.YthdchidlfeighaaHP12Aw
namespace Go.Proofs.Ythdchidlfeighaa.C12
open Go Go.RowKit Go.Proofs Go.Proofs.Ythdchidlfeighaa.B Go.Proofs.Ythdchidlfeighaa.K Go.Proofs.Ythdchidlfeighaa.P8
set_option linter.unusedVariables false
set_option maxRecDepth 100000

theorem crash_one (y : Fl) (l : List Fl) (keep : List Int) : ∃ k r, crashGo (y :: l) keep = kept y k :: crashGo l r := by
  by_cases hm : y.more = []
  · exact ⟨0, keep, crash_nil hm⟩
  · cases keep with
    | nil => exact ⟨0, [], crash_none hm⟩
    | cons k r =>
      by_cases hk : 0 < k
      · exact ⟨_, r, crash_some hm hk⟩
      · exact ⟨0, r, crash_low hm hk⟩
theorem crash_at : ∀ (l : List Fl) (keep : List Int) (i : Nat) (y : Fl), l[i]? = some y → ∃ k, (crashGo l keep)[i]? = some (kept y k)
  | [], _, i, y, h => by simp at h
  | z :: l, keep, i, y, h => by
    obtain ⟨k, r, e⟩ := crash_one z l keep
    rw [e]
    cases i with
    | zero => simp at h; subst h; exact ⟨k, rfl⟩
    | succ i => simpa using crash_at l r i y (by simpa using h)
theorem crash_names : ∀ (l : List Fl) (keep : List Int), namesOf (crashGo l keep) = namesOf l
  | [], _ => rfl
  | y :: l, keep => by
    obtain ⟨k, r, e⟩ := crash_one y l keep
    rw [e]
    show (kept y k).name :: namesOf (crashGo l r) = y.name :: namesOf l
    rw [crash_names l r]
    rfl
theorem crash_len (l : List Fl) (keep : List Int) : (crashGo l keep).length = l.length := by
  have := congrArg List.length (crash_names l keep)
  unfold namesOf at this
  simpa using this
theorem crash_safe : ∀ (l : List Fl) (keep : List Int), ∀ f ∈ crashGo l keep, f.more = []
  | [], _, f, h => by cases h
  | y :: l, keep, f, h => by
    obtain ⟨k, r, e⟩ := crash_one y l keep
    rw [e] at h
    rcases List.mem_cons.1 h with rfl | h
    · rfl
    · exact crash_safe l r f h
theorem crash_idle : ∀ (l : List Fl) (keep : List Int), (∀ f ∈ l, f.more = []) → crashGo l keep = l
  | [], _, _ => rfl
  | y :: l, keep, h => by
    have hm := h y (List.mem_cons_self ..)
    rw [crash_nil hm, crash_idle l keep fun f hf => h f (List.mem_cons_of_mem _ hf)]
    unfold kept
    rw [hm]
    congr 1
    obtain ⟨n, s, m⟩ := y
    cases hm
    simp
/-- What is told of a file behind a crash. -/
theorem crash_tells {D : Dst} (h : Rise D.files) (keep : List Int) {i : Nat} {y : Fl} (hy : D.files[i]? = some y) : ∃ k, readD (crashD D keep) y.name = (y.safe ++ y.more.take k, 0) ∧ safeD (crashD D keep) y.name = ((y.safe ++ y.more.take k).length : Int) := by
  obtain ⟨k, hk⟩ := crash_at D.files keep i y hy
  have hr : Rise (crashGo D.files keep) := rise_names h (crash_names _ _)
  have hf : findF (crashD D keep).files y.name = some (kept y k) := rise_find hr (f := kept y k) (List.mem_of_getElem? hk)
  refine ⟨k, ?_, ?_⟩
  · unfold readD
    rw [show (crashD D keep).down = false from rfl, if_neg (by simp), hf]
    show ((y.safe ++ y.more.take k) ++ [], (0 : Int)) = _
    rw [List.append_nil]
  · unfold safeD
    rw [hf]
    rfl
set_option maxHeartbeats 1000000 in
theorem begins_any (a b : List UInt8) (w : World) (h : a = b.take a.length) (hl : a.length ≤ b.length) (hb : b.length ≤ 140737488355328) :
    Calls Try.prog 15 #[.string (str a), .string (str b)] w fun e w' => e = .returned (.bool true) ∧ Below w.heap.size w w' := by
  obtain ⟨A, hA⟩ : ∃ A, a.length = A := ⟨_, rfl⟩
  obtain ⟨L, hL⟩ : ∃ L, b.length = L := ⟨_, rfl⟩
  rw [hA] at h
  have z1 : (str a).size = A := by rw [str_size, hA]
  have z2 : (str b).size = L := by rw [str_size, hL]
  have hle : (A : Int) ≤ (L : Int) := by omega
  have hA0 : 0 ≤ (A : Int) := by omega
  have hx : (str b).extract 0 A = str a := by rw [str_take, ← h]
  have t1 : ((str a).toList == (str a).toList) = true := by simp
  have hls : (A : Int) ≤ ((str b).size : Int) := by rw [z2]; exact hle
  clear h hA hL hl hb
  go_enter Try.func15, Try.ntmps15
  go_wp2_with fail
  go_ret
  exact ⟨by simp, Below.refl _ _⟩
theorem o_read {B : Nat} {w : World} {d : Nat} {D : Dst} (h : Own B w d D) (s : List UInt8) (hs : s.length ≤ maxLen) : Calls Try.prog 14 #[.pointer (some ⟨d, 0, none⟩), .string (str s)] w fun e w' => e = .returned (.tuple #[.string (str (readD D s).1), .int .i64 (readD D s).2]) ∧ Below w.heap.size w w' := by
  obtain ⟨F, hp, _⟩ := h
  exact pread_any hp s hs
theorem o_safe {B : Nat} {w : World} {d : Nat} {D : Dst} (h : Own B w d D) (s : List UInt8) (hs : s.length ≤ maxLen) : Calls Try.prog 16 #[.pointer (some ⟨d, 0, none⟩), .string (str s)] w fun e w' => e = .returned (.int .i64 (safeD D s)) ∧ Below w.heap.size w w' := by
  obtain ⟨F, hp, _⟩ := h
  exact psafe_any hp s hs
theorem o_down {B : Nat} {w : World} {d : Nat} {D : Dst} (h : Own B w d D) : Calls Try.prog 18 #[.pointer (some ⟨d, 0, none⟩)] w fun e w' => e = .returned (.bool D.down) ∧ Below w.heap.size w w' := by
  obtain ⟨F, hp, _⟩ := h
  exact pdown_any hp
theorem o_crash {B : Nat} {w : World} {d : Nat} {D : Dst} (h : Own B w d D) (keep : List Int) (kv : Value) (hk : Kp0 w B kv keep) (hki : ∀ n ∈ keep, -9223372036854775808 ≤ n ∧ n ≤ 9223372036854775807) : Calls Try.prog 12 #[.pointer (some ⟨d, 0, none⟩), kv] w fun e w' => e = .returned (.int .i64 0) ∧ Own B w' d (crashD D keep) ∧ Below B w w' := by
  obtain ⟨F, hp, hF, hB⟩ := h
  refine (pcrash_any hp keep kv (hk.kp hF) hki).mono ?_
  rintro e w' ⟨he, F', hp', hch⟩
  obtain ⟨h1, h2⟩ := chg_base hch hF hB
  exact ⟨he, ⟨F', hp', h2, Nat.le_trans hB hch.turn.size⟩, h1⟩
end Go.Proofs.Ythdchidlfeighaa.C12
