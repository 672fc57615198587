/-
  Layer 13, the program: a segment is gone through: each record is put behind the others.
-/
import Derived.Test.YtelcemfaijjcbaaGreatDoorHP13Lb
namespace Go.Proofs.YtelcemfaijjcbaaGreatDoor.C13
open Go Go.RowKit Go.Proofs Go.Proofs.YtelcemfaijjcbaaGreatDoor.B Go.Proofs.YtelcemfaijjcbaaGreatDoor.K Go.Proofs.YtelcemfaijjcbaaGreatDoor.P8 Go.Proofs.YtelcemfaijjcbaaGreatDoor.C12
set_option linter.unusedVariables false
set_option maxRecDepth 100000

set_option maxHeartbeats 4000000 in
theorem thro_any (s : List UInt8) (first : Int) (b j bs bf : Nat) (cs : Array Value) (T : TypeId) (rv : Value) (rs : List (List UInt8)) (w : World) (hs : s.length ≤ 1000000000) (hr : rs.length ≤ 1000000000) (hf : 0 ≤ first ∧ first ≤ 4611686018427387904)
    (hb : w.heap[b]? = some (.cells cs T (0, 0))) (hT : T ≠ 9) (hj : cs[j]? = some rv) (hown : w.ownsRow 0 9 1 rv rs.length (rs.map sv))
    (hcs : w.cell? ⟨bs, 0, none⟩ = some (.string (str s))) (hcf : w.cell? ⟨bf, 0, none⟩ = some (.int .i64 first)) (hbs : bs ≠ b ∧ rv.ownBlock ≠ some bs) :
    Calls Tryz.prog 46 #[.func (.func 27) #[.pointer (some ⟨b, j, none⟩)] #[], .pointer (some ⟨bf, 0, none⟩), .pointer (some ⟨bs, 0, none⟩)] w fun e w' => e = .returned (.int .i64 ((parseL s first).2 : Int)) ∧ Took w b j cs T rv (rs ++ (parseL s first).1) w' := by
  have hp : parseL s first = parseGo s (s.length + 1) first 0 := by unfold parseL; rw [if_neg (by omega)]
  rw [hp]
  obtain ⟨PP, hPP⟩ : ∃ PP, parseGo s (s.length + 1) first 0 = PP := ⟨_, rfl⟩
  rw [hPP]
  obtain ⟨N, hN⟩ : ∃ N, s.length = N := ⟨_, rfl⟩
  have HN := Lib.hid hN
  rw [hN] at hPP hs
  have HPP := Lib.hid hPP
  have HR := Lib.hid (fun A W => readRec_any s A W (by omega))
  have H0 := Lib.hid (Took.same hb hj hown)
  have hlt : b < w.heap.size := (Array.getElem?_eq_some_iff.1 hb).1
  have hltb : bs < w.heap.size := World.block_lt_of_cell? w _ hcs
  have HC := Lib.hid (show ∀ rs' W, Took w b j cs T rv rs' W → W.cell? ⟨bs, 0, none⟩ = some (.string (str s)) from fun rs' W h => by
    obtain ⟨rv', h1, h2, h3, h4⟩ := h
    exact cell_same (h3.block bs hltb (by rintro (h | h); exact hbs.1 h; exact hbs.2 h)) hcs)
  have HT := Lib.hid (show ∀ done r W, Took w b j cs T rv (rs ++ done) W → done.length ≤ N → Calls Tryz.prog 27 #[.pointer (some ⟨b, j, none⟩), .string (str r)] W fun e W' => e = .returned (.tuple #[]) ∧ Took w b j cs T rv (rs ++ (done ++ [r])) W' from fun done r W h hd => by
    have h' := h
    obtain ⟨rv', h1, h2, h3, h4⟩ := h
    have hjb := (Array.getElem?_eq_some_iff.1 hj).1
    refine (take_any b j _ T rv' (rs ++ done) r W h1 hT (by simp [hjb]) h2 (by rw [List.length_append]; omega)).mono ?_
    rintro e W' ⟨he, hk⟩
    rw [List.append_assoc] at hk
    refine ⟨he, h'.trans hlt fun rv2 hrv2 => ?_⟩
    rw [h1] at hrv2
    obtain rfl : rv' = rv2 := by
      simp only [Option.some.injEq, Obj.cells.injEq] at hrv2
      have := congrArg (fun a => a[j]?) hrv2.1
      simpa [hjb] using this
    exact hk)
  have hf0 := hf.1
  have hf1 := hf.2
  clear hp hPP hN hf hb hj hown hT hcs hbs hlt hltb hr
  go_enter Tryz.func46, Tryz.ntmps46
  go_wp2_with fail
  go_step3
  go_wp2_with fail
  go_step3
  go_wp2_with fail
  go_loopw [5, 6] (fun a i wr => ∃ (K A n : Nat) (done : List (List UInt8)), a = .int .i64 (A : Int) ∧ i = .int .i64 (first + (K : Int)) ∧ K ≤ A ∧ A ≤ N ∧ N < A + n ∧ Hid (done.length = K) ∧ Hid (PP = (done ++ (parseGo s n (first + (K : Int)) A).1, (parseGo s n (first + (K : Int)) A).2)) ∧ Hid (Took w b j cs T rv (rs ++ done) wr)) (fun a _ _ => N - (intOf a).toNat)
  case atStart => exact ⟨0, 0, N + 1, [], rfl, by simp, Nat.le_refl _, Nat.zero_le _, by omega, Lib.hid rfl, Lib.hid (by rw [← HPP.out]; simp), Lib.hid (by rw [List.append_nil]; exact H0.out)⟩
  case round =>
    obtain ⟨K, A, n, done, rfl, rfl, hKA, hA, hn, HK, HG, HTK⟩ := hrel
    obtain ⟨F, hF⟩ : ∃ F, first + (K : Int) = F := ⟨_, rfl⟩
    rw [hF] at HG ⊢
    have hF0 : 0 ≤ F := by omega
    have hFl : F ≤ 4611686019427387904 := by omega
    have HF := Lib.hid hF
    have c2 := HC.out _ _ HTK.out
    have hrec := recT_rec s F A
    obtain ⟨⟨y, r, q, e⟩, hrt⟩ : ∃ t, recT s A = t := ⟨_, rfl⟩
    have HRA := Lib.hid (fun W => by
      have := HR.out A W
      rw [hrt] at this
      exact this)
    dsimp only at HRA
    have hrl := recT_len s A
    rw [hrt] at hrec hrl
    dsimp only at hrec hrl
    rw [HN.out] at hrec hrl
    have hsz : (str r).size = r.length := str_size r
    rcases hrec with ⟨hbad, hno⟩ | ⟨he, hy, hlen, hyes, hq1, hq2⟩
    · have HE := Lib.hid (show PP = (done, A) from by rw [HG.out, parse_none hno, List.append_nil])
      by_cases he : e = 0
      rotate_left 1
      · have hb : (e != 0) = true := bne_iff_ne.2 he
        clear hbad hno hrt he hF hrl
        go_wp2_with (go_at_call 47; (with_reducible refine (HRA.out _).mono ?_); rintro _ w1 ⟨rfl, hb1⟩; have HB1 := Lib.hid hb1; clear hb1)
        (try rw [Exit.noGoto_ret])
        go_ret
        exact ⟨by rw [HE.out]; rfl, by rw [HE.out]; exact HTK.out.below HB1.out⟩
      have hb : (e != 0) = false := by simp [he]
      by_cases hy : y = F
      rotate_left 1
      · have hb2 : (y != F) = true := bne_iff_ne.2 hy
        clear hbad hno hrt he hF hrl hy
        go_wp2_with (go_at_call 47; (with_reducible refine (HRA.out _).mono ?_); rintro _ w1 ⟨rfl, hb1⟩; have HB1 := Lib.hid hb1; clear hb1)
        (try rw [Exit.noGoto_ret])
        go_ret
        exact ⟨by rw [HE.out]; rfl, by rw [HE.out]; exact HTK.out.below HB1.out⟩
      have hb2 : (y != F) = false := by simp [hy]
      have hbig : 1024 < r.length := by
        rcases hbad with h | h | h
        · exact absurd he h
        · exact absurd hy h
        · exact h
      obtain ⟨RL, hRL⟩ : ∃ RL, r.length = RL := ⟨_, rfl⟩
      rw [hRL] at hsz hbig hrl
      have hbI : (1024 : Int) < (RL : Int) := by omega
      clear hbad hno hrt he hF hy hRL hbig
      go_wp2_with (go_at_call 47; (with_reducible refine (HRA.out _).mono ?_); rintro _ w1 ⟨rfl, hb1⟩; have HB1 := Lib.hid hb1; clear hb1)
      (try rw [Exit.noGoto_ret])
      go_ret
      exact ⟨by rw [HE.out]; rfl, by rw [HE.out]; exact HTK.out.below HB1.out⟩
    · subst he
      subst hy
      obtain ⟨Q, rfl⟩ : ∃ Q : Nat, q = (Q : Int) := ⟨q.toNat, by omega⟩
      rw [Int.toNat_natCast] at hyes
      obtain ⟨n, rfl⟩ : ∃ m, n = m + 1 := ⟨n - 1, by omega⟩
      have HNX := Lib.hid (show PP = ((done ++ [r]) ++ (parseGo s n (y + 1) Q).1, (parseGo s n (y + 1) Q).2) from by rw [HG.out, parse_some hyes]; simp)
      have HTT := Lib.hid (fun W h => HT.out done r W h (by have := HK.out; omega))
      have hmx : (y == 9223372036854775807) = false := by
        have : y ≠ 9223372036854775807 := by omega
        simpa using this
      have hyy : (y != y) = false := by simp
      have hw3 : IntKind.i64.wrap (y + 1) = y + 1 := IntWalk.i64_in _ (by omega)
      obtain ⟨RL, hRL⟩ : ∃ RL, r.length = RL := ⟨_, rfl⟩
      rw [hRL] at hsz hlen hrl
      have hbI : ¬ (1024 : Int) < (RL : Int) := by omega
      clear hyes hrt hF hRL
      go_wp2_with (first
        | (go_at_call 47; (with_reducible refine (HRA.out _).mono ?_); rintro _ w1 ⟨rfl, hb1⟩; have HB1 := Lib.hid (HTK.out.below hb1); clear hb1)
        | (go_at_call 27; (with_reducible refine (HTT.out _ HB1.out).mono ?_); rintro _ w2 ⟨rfl, ht⟩; have HT2 := Lib.hid ht; clear ht))
      go_roundw
      case rel => exact ⟨K + 1, Q, n, done ++ [r], by go_num, by have := HF.out; go_num, by omega, by omega, by omega, Lib.hid (by rw [List.length_append, HK.out]; rfl), Lib.hid (by rw [HNX.out]; have := HF.out; rw [show first + ((K + 1 : Nat) : Int) = y + 1 from by omega]), HT2⟩
      case measure => simp [intOf]; omega
end Go.Proofs.YtelcemfaijjcbaaGreatDoor.C13
