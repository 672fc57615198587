/-
  Contracts of the reference of layer 4: letter, digit, Name.
-/
import Derived.Test.YtfcdkjhabdpijaaDoorIMem
namespace Go.Proofs.YtfcdkjhabdpijaaDoor.I
open Go Go.RowKit Go.Proofs.YtfcdkjhabdpijaaDoor.B Go.Proofs.YtfcdkjhabdpijaaDoor.K Go.Proofs.YtfcdkjhabdpijaaDoor.E
set_option linter.unusedVariables false

set_option maxHeartbeats 400000 in
theorem refLetter_any (c : UInt8) (w : World) : Calls Tryd.prog 57 #[.int .u8 (c.toNat : Int)] w fun e w' => e = .returned (.bool (letter c)) ∧ w = w' := by
  obtain ⟨n, hn⟩ : ∃ n, c.toNat = n := ⟨_, rfl⟩
  have hv : letter c = decide (97 ≤ n ∧ n ≤ 122) := by unfold letter; rw [hn]
  rw [hv, hn]
  clear hv hn
  by_cases h1 : 97 ≤ n
  · have hd : decide (97 ≤ n ∧ n ≤ 122) = decide (n ≤ 122) := by (rw [Bool.eq_iff_iff]; simp [h1])
    have h1' : 97 ≤ (n : Int) := by omega
    rw [hd]
    clear hd
    go_enter Tryd.func57, Tryd.ntmps57
    go_wp2_with fail
    go_ret
    exact ⟨ret_bool (by (rw [Bool.eq_iff_iff]; simp <;> omega)), rfl⟩
  · have hd : decide (97 ≤ n ∧ n ≤ 122) = false := decide_eq_false (by omega)
    have b1 : decide (97 ≤ (n : Int)) = false := decide_eq_false (by omega)
    rw [hd]
    clear hd h1
    go_enter Tryd.func57, Tryd.ntmps57
    go_wp2_with fail
    go_ret
    exact ⟨rfl, rfl⟩

set_option maxHeartbeats 400000 in
theorem refDigit_any (c : UInt8) (w : World) : Calls Tryd.prog 58 #[.int .u8 (c.toNat : Int)] w fun e w' => e = .returned (.bool (digit c)) ∧ w = w' := by
  obtain ⟨n, hn⟩ : ∃ n, c.toNat = n := ⟨_, rfl⟩
  have hv : digit c = decide (48 ≤ n ∧ n ≤ 57) := by unfold digit; rw [hn]
  rw [hv, hn]
  clear hv hn
  by_cases h1 : 48 ≤ n
  · have hd : decide (48 ≤ n ∧ n ≤ 57) = decide (n ≤ 57) := by (rw [Bool.eq_iff_iff]; simp [h1])
    have h1' : 48 ≤ (n : Int) := by omega
    rw [hd]
    clear hd
    go_enter Tryd.func58, Tryd.ntmps58
    go_wp2_with fail
    go_ret
    exact ⟨ret_bool (by (rw [Bool.eq_iff_iff]; simp <;> omega)), rfl⟩
  · have hd : decide (48 ≤ n ∧ n ≤ 57) = false := decide_eq_false (by omega)
    have b1 : decide (48 ≤ (n : Int)) = false := decide_eq_false (by omega)
    rw [hd]
    clear hd h1
    go_enter Tryd.func58, Tryd.ntmps58
    go_wp2_with fail
    go_ret
    exact ⟨rfl, rfl⟩
set_option maxHeartbeats 1000000 in
theorem refName_any (s : Bs) (w : World) (hl : s.length ≤ 9223372036854775807) : Calls Tryd.prog 33 #[sv s] w fun e w' => e = .returned (.bool (isName s)) ∧ w = w' := by
  have hsz : (str s).size = s.length := str_size s
  by_cases h0 : s = []
  · subst h0
    show Calls Tryd.prog 33 #[sv []] w fun e w' => e = .returned (.bool false) ∧ w = w'
    unfold sv
    go_enter Tryd.func33, Tryd.ntmps33
    go_wp2_with fail
    go_ret
    exact ⟨rfl, rfl⟩
  have hpos : 0 < s.length := List.length_pos_iff.2 h0
  by_cases h24 : 24 < s.length
  · have hn : isName s = false := by
      match s, h24 with
      | c :: r, h24 => rw [isName_cons, decide_eq_false (by rw [List.length_cons] at h24; omega)]; rfl
    rw [hn]
    have h24' : 24 < (s.length : Int) := by omega
    clear hn
    unfold sv
    go_enter Tryd.func33, Tryd.ntmps33
    go_wp2_with fail
    go_ret
    exact ⟨rfl, rfl⟩
  have hle : (s.length : Int) ≤ 24 := by omega
  by_cases h1 : s = wmin
  · subst h1
    have e1 : (str wmin).toList = [109, 105, 110] := str_toList wmin
    show Calls Tryd.prog 33 #[sv wmin] w fun e w' => e = .returned (.bool false) ∧ w = w'
    unfold sv
    clear h0 h24
    go_enter Tryd.func33, Tryd.ntmps33
    go_wp2_with fail
    go_ret
    exact ⟨rfl, rfl⟩
  by_cases h2 : s = wmax
  · subst h2
    have e1 : (str wmax).toList = [109, 97, 120] := str_toList wmax
    show Calls Tryd.prog 33 #[sv wmax] w fun e w' => e = .returned (.bool false) ∧ w = w'
    unfold sv
    clear h0 h24 h1
    go_enter Tryd.func33, Tryd.ntmps33
    go_wp2_with fail
    go_ret
    exact ⟨rfl, rfl⟩
  by_cases h3 : s = wif
  · subst h3
    have e1 : (str wif).toList = [105, 102] := str_toList wif
    show Calls Tryd.prog 33 #[sv wif] w fun e w' => e = .returned (.bool false) ∧ w = w'
    unfold sv
    clear h0 h24 h1 h2
    go_enter Tryd.func33, Tryd.ntmps33
    go_wp2_with fail
    go_ret
    exact ⟨rfl, rfl⟩
  have n1 : ((str s).toList == [109, 105, 110]) = false := by rw [str_toList]; exact beq_eq_false_iff_ne.2 h1
  have n2 : ((str s).toList == [109, 97, 120]) = false := by rw [str_toList]; exact beq_eq_false_iff_ne.2 h2
  have n3 : ((str s).toList == [105, 102]) = false := by rw [str_toList]; exact beq_eq_false_iff_ne.2 h3
  have n4 : ((s.length : Int) == 0) = false := by simp; exact h0
  have n5 : decide (24 < (s.length : Int)) = false := decide_eq_false (by omega)
  have H1 := Lib.hid h1
  have H2 := Lib.hid h2
  have H3 := Lib.hid h3
  have H24 := Lib.hid h24
  have H0 := Lib.hid h0
  have g0 := str_get s 0 (by rw [hsz]; exact hpos)
  have hle2 : s.length ≤ 24 := by omega
  clear h1 h2 h3 h24 h0
  cases hlc : letter (s[0]'hpos) with
  | false =>
    have hn : isName s = false := by
      match s, hpos, hlc with
      | c :: r, hpos, hlc => rw [isName_cons, show letter c = false from hlc, Bool.and_false]; rfl
    rw [hn]
    have HL := Lib.hid (fun W => (show Calls Tryd.prog 57 #[.int .u8 (((s[0]'hpos).toNat : Nat) : Int)] W fun e w' => e = .returned (.bool false) ∧ W = w' by rw [← hlc]; exact refLetter_any _ W))
    clear hn hlc
    unfold sv
    go_enter Tryd.func33, Tryd.ntmps33
    go_wp2_with fail
    refine (HL.out _).mono ?_
    rintro _ w1 ⟨rfl, rfl⟩
    go_wp2_with fail
    go_ret
    exact ⟨rfl, rfl⟩
  | true =>
    have HL := Lib.hid (fun W => (show Calls Tryd.prog 57 #[.int .u8 (((s[0]'hpos).toNat : Nat) : Int)] W fun e w' => e = .returned (.bool true) ∧ W = w' by rw [← hlc]; exact refLetter_any _ W))
    have HLC := Lib.hid hlc
    have HPOS := Lib.hid hpos
    clear hlc
    unfold sv
    go_enter Tryd.func33, Tryd.ntmps33
    go_wp2_with fail
    refine (HL.out _).mono ?_
    rintro _ w1 ⟨rfl, rfl⟩
    clear g0 HL
    go_wp2_with fail
    go_loop [3] (fun k => ∃ (K : Nat), k = .int .i64 (K : Int) ∧ K ≤ s.length ∧ Hid (∀ j (h : j < s.length), j < K → idc s[j] = true)) (fun k => s.length - (intOf k).toNat)
    case atStart => exact ⟨0, rfl, Nat.zero_le _, fun j _ h => by omega⟩
    case round =>
      obtain ⟨K, rfl, hK, HA⟩ := hrel
      by_cases hlt : K < s.length
      · have gk := str_get s K (by rw [hsz]; exact hlt)
        have hwK : IntKind.i64.wrap ((K : Int) + 1) = (K : Int) + 1 := IntWalk.i64_in _ (by omega)
        have hltI : (K : Int) < (s.length : Int) := by omega
        have next : idc (s[K]'hlt) = true → Hid (∀ j (h : j < s.length), j < K + 1 → idc s[j] = true) := by
          intro hi j h hj
          rcases Nat.lt_or_ge j K with h' | h'
          · exact HA.out j h h'
          · obtain rfl : j = K := by omega
            exact hi
        have HNEXT := Lib.hid next
        have HBAD := Lib.hid (name_all s K hlt)
        obtain ⟨c, hc⟩ : ∃ c, s[K]'hlt = c := ⟨_, rfl⟩
        rw [hc] at gk HNEXT HBAD
        have HC := Lib.hid hc
        clear next hc
        cases hl1 : letter c with
        | true =>
          have HL1 := Lib.hid (fun W => (show Calls Tryd.prog 57 #[.int .u8 ((c.toNat : Nat) : Int)] W fun e w' => e = .returned (.bool true) ∧ W = w' by rw [← hl1]; exact refLetter_any _ W))
          have hid := HNEXT.out (by rw [idc_of, hl1]; rfl)
          have HIDC := Lib.hid hid
          clear hl1 hid
          go_wp2_with fail
          refine (HL1.out _).mono ?_
          rintro _ w1 ⟨rfl, rfl⟩
          go_wp2_with fail
          go_round
          case rel => exact ⟨K + 1, by go_num, by omega, HIDC.out⟩
          case measure => simp [intOf]; omega
        | false =>
          have HL1 := Lib.hid (fun W => (show Calls Tryd.prog 57 #[.int .u8 ((c.toNat : Nat) : Int)] W fun e w' => e = .returned (.bool false) ∧ W = w' by rw [← hl1]; exact refLetter_any _ W))
          cases hd1 : digit c with
          | true =>
            have HD1 := Lib.hid (fun W => (show Calls Tryd.prog 58 #[.int .u8 ((c.toNat : Nat) : Int)] W fun e w' => e = .returned (.bool true) ∧ W = w' by rw [← hd1]; exact refDigit_any _ W))
            have hid := HNEXT.out (by rw [idc_of, hl1, hd1]; rfl)
            have HIDC := Lib.hid hid
            clear hl1 hd1 hid
            go_wp2_with fail
            refine (HL1.out _).mono ?_
            rintro _ w1 ⟨rfl, rfl⟩
            go_wp2_with fail
            refine (HD1.out _).mono ?_
            rintro _ w1 ⟨rfl, rfl⟩
            go_wp2_with fail
            go_round
            case rel => exact ⟨K + 1, by go_num, by omega, HIDC.out⟩
            case measure => simp [intOf]; omega
          | false =>
            have HD1 := Lib.hid (fun W => (show Calls Tryd.prog 58 #[.int .u8 ((c.toNat : Nat) : Int)] W fun e w' => e = .returned (.bool false) ∧ W = w' by rw [← hd1]; exact refDigit_any _ W))
            by_cases h95 : c = 95
            · have hid := HNEXT.out (by rw [idc_of, hl1, hd1, decide_eq_true h95]; rfl)
              have HIDC := Lib.hid hid
              have hn95 : ((c.toNat : Int) != 95) = false := by rw [h95]; rfl
              clear hl1 hd1 h95 hid
              go_wp2_with fail
              refine (HL1.out _).mono ?_
              rintro _ w1 ⟨rfl, rfl⟩
              go_wp2_with fail
              refine (HD1.out _).mono ?_
              rintro _ w1 ⟨rfl, rfl⟩
              go_wp2_with fail
              go_round
              case rel => exact ⟨K + 1, by go_num, by omega, HIDC.out⟩
              case measure => simp [intOf]; omega
            · have hbad := HBAD.out (by rw [idc_of, hl1, hd1, decide_eq_false h95]; rfl)
              have HB := Lib.hid hbad
              have hn95 : ((c.toNat : Int) != 95) = true := by
                have h : c.toNat ≠ 95 := fun h => h95 (UInt8.toNat_inj.1 h)
                simp; omega
              clear hl1 hd1 h95 hbad
              go_wp2_with fail
              refine (HL1.out _).mono ?_
              rintro _ w1 ⟨rfl, rfl⟩
              go_wp2_with fail
              refine (HD1.out _).mono ?_
              rintro _ w1 ⟨rfl, rfl⟩
              go_wp2_with fail
              go_ret
              exact ⟨ret_bool HB.out.symm, rfl⟩
      · have hn : isName s = true := by
          have hall : s.all idc = true := by
            rw [List.all_eq_true]
            intro c hc
            obtain ⟨j, hj, rfl⟩ := List.getElem_of_mem hc
            exact HA.out j hj (by omega)
          exact name_yes s HPOS.out HLC.out hall H1.out H2.out H3.out hle2
        have HN := Lib.hid hn
        have hltI : ¬ (K : Int) < (s.length : Int) := by omega
        clear hn
        go_wp2_with fail
        go_ret
        exact ⟨ret_bool HN.out.symm, rfl⟩
end Go.Proofs.YtfcdkjhabdpijaaDoor.I
