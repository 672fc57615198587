/-
  Contract of the program of layer 4: Name.
-/
import Derived.Test.YtfcdkjhabdpijaaDoorIPWord
namespace Go.Proofs.YtfcdkjhabdpijaaDoor.I
open Go Go.RowKit Go.Proofs.YtfcdkjhabdpijaaDoor.B Go.Proofs.YtfcdkjhabdpijaaDoor.K Go.Proofs.YtfcdkjhabdpijaaDoor.E
set_option linter.unusedVariables false

theorem takeWhile_self {p : UInt8 → Bool} (l : Bs) : l.takeWhile p = l ↔ l.all p = true := by
  constructor
  · intro h
    rw [← h]
    exact List.all_takeWhile
  · intro h
    have := takeWhile_all (p := p) (a := l) (b := []) (fun a ha => List.all_eq_true.1 h a ha) rfl
    simpa using this

theorem wd_name (c : UInt8) (r : Bs) (hc : letter c = true) : wd (c :: r) = c :: r ↔ (c :: r).length ≤ 24 ∧ (c :: r).all idc = true := by
  rw [wd_cons, if_pos hc]
  constructor
  · intro h
    have h1 : (c :: r).length ≤ 24 := by
      have := congrArg List.length h
      have h2 := (List.takeWhile_sublist (l := (c :: r).take 24) idc).length_le
      rw [List.length_take] at h2; omega
    rw [List.take_of_length_le h1] at h
    exact ⟨h1, (takeWhile_self _).1 h⟩
  · rintro ⟨h1, h2⟩
    rw [List.take_of_length_le h1]
    exact (takeWhile_self _).2 h2

theorem name_is (c : UInt8) (r : Bs) (hc : letter c = true) (hw : wd (c :: r) = c :: r) : isName (c :: r) = decide (calledOf (c :: r) = 0) := by
  obtain ⟨h1, h2⟩ := (wd_name c r hc).1 hw
  rw [isName_cons, h2, hc, decide_eq_true (by rw [List.length_cons] at h1; omega)]
  unfold calledOf
  by_cases k1 : c :: r = wmin
  · simp [k1]
  by_cases k2 : c :: r = wmax
  · simp [k2, show wmax ≠ wmin by decide]
  by_cases k3 : c :: r = wif
  · simp [k3, show wif ≠ wmin by decide, show wif ≠ wmax by decide]
  simp [k1, k2, k3]

theorem name_no (c : UInt8) (r : Bs) (hw : wd (c :: r) ≠ c :: r) : isName (c :: r) = false := by
  cases hc : letter c with
  | false => rw [isName_cons, hc]; simp
  | true =>
    have h := fun h => hw ((wd_name c r hc).2 h)
    rw [isName_cons]
    by_cases h1 : (c :: r).length ≤ 24
    · have h2 : (c :: r).all idc = false := by
        cases h2 : (c :: r).all idc with
        | false => rfl
        | true => exact absurd ⟨h1, h2⟩ h
      rw [h2]; simp
    · rw [decide_eq_false (by rw [List.length_cons] at h1; omega)]; simp

set_option maxHeartbeats 1000000 in
set_option maxRecDepth 100000 in
theorem name_any (s : Bs) (w : World) (hg : Glob w) (hl : s.length ≤ 9223372036854775807) :
    Calls Tryd.prog 65 #[sv s] w fun e w' => e = .returned (.bool (isName s)) ∧ w = w' := by
  have HG := Lib.hid hg
  have HLU := Lib.hid hl
  clear hg hl
  match s with
  | [] =>
    have he : (str []).toList.isEmpty = true := by rw [str_toList]; rfl
    unfold sv
    go_enter Tryd.func65, Tryd.ntmps65
    go_wp2_with fail
    go_ret
    exact ⟨rfl, rfl⟩
  | c :: r =>
    obtain ⟨s, hs⟩ : ∃ s, c :: r = s := ⟨_, rfl⟩
    have he : (str s).toList.isEmpty = false := by rw [str_toList, ← hs]; rfl
    have hsz : (str s).size = s.length := str_size s
    have h0 : 0 < (str s).size := by rw [str_size, ← hs]; simp
    have hc0 : (str s)[0]'h0 = c := by rw [str_get]; subst hs; rfl
    have hpos : (0 : Int) < (s.length : Int) := by rw [← hs]; simp only [List.length_cons]; omega
    have HL := Lib.hid (fun W => isLetter_any c W)
    have HW := Lib.hid (fun W hW => wordAt_any s s 0 W hW (Nat.zero_le _) rfl (hs ▸ HLU.out))
    have HC := Lib.hid (fun W hW => called_any s W hW)
    rw [hs]
    cases hlc : letter c with
    | false =>
      have hn : isName s = false := by rw [← hs, isName_cons, hlc]; simp
      rw [hn]
      rw [hlc] at HL
      clear hs hlc hn
      unfold sv
      go_enter Tryd.func65, Tryd.ntmps65
      go_wp2_with (go_at_call 73; refine (HL.out _).mono ?_; rintro _ w1 ⟨rfl, rfl⟩)
      go_ret
      exact ⟨rfl, rfl⟩
    | true =>
      rw [hlc] at HL
      by_cases hw : wd s = s
      · have hn : isName s = decide (calledOf s = 0) := by subst hs; exact name_is c r hlc hw
        rw [hn]
        rw [hw] at HW
        have he2 : ((str s).toList == (str s).toList) = true := by simp
        obtain ⟨k, hk⟩ : ∃ k, calledOf s = k := ⟨_, rfl⟩
        rw [hk] at HC ⊢
        clear hs hlc hn hw hk
        unfold sv at HW HC ⊢
        go_enter Tryd.func65, Tryd.ntmps65
        go_wp2_with (first | (go_at_call 73; refine (HL.out _).mono ?_; rintro _ w1 ⟨rfl, rfl⟩) | (go_at_call 74; refine (HW.out _ HG.out).mono ?_; rintro _ w1 ⟨rfl, rfl⟩) | (go_at_call 75; refine (HC.out _ HG.out).mono ?_; rintro _ w1 ⟨rfl, rfl⟩))
        go_ret
        exact ⟨ret_bool (by (rw [Bool.eq_iff_iff]; simp)), rfl⟩
      · have hn : isName s = false := by subst hs; exact name_no c r hw
        rw [hn]
        have he2 : ((str (wd s)).toList == (str s).toList) = false := by rw [str_toList, str_toList]; exact beq_eq_false_iff_ne.2 hw
        obtain ⟨x, hx⟩ : ∃ x, wd s = x := ⟨_, rfl⟩
        rw [hx] at HW he2
        clear hs hlc hn hw hx
        unfold sv at HW ⊢
        go_enter Tryd.func65, Tryd.ntmps65
        go_wp2_with (first | (go_at_call 73; refine (HL.out _).mono ?_; rintro _ w1 ⟨rfl, rfl⟩) | (go_at_call 74; refine (HW.out _ HG.out).mono ?_; rintro _ w1 ⟨rfl, rfl⟩))
        go_ret
        exact ⟨rfl, rfl⟩
end Go.Proofs.YtfcdkjhabdpijaaDoor.I
