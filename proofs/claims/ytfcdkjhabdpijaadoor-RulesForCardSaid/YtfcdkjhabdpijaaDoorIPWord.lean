/-
  Contracts of the program of layer 4: the word at a place; names.
-/
import Derived.Test.YtfcdkjhabdpijaaDoorIPSign
namespace Go.Proofs.YtfcdkjhabdpijaaDoor.I
open Go Go.RowKit Go.Proofs.YtfcdkjhabdpijaaDoor.B Go.Proofs.YtfcdkjhabdpijaaDoor.K Go.Proofs.YtfcdkjhabdpijaaDoor.E
set_option linter.unusedVariables false

/-- Does a digit stand first? -/
def dh : Bs → Bool | d :: _ => digit d | [] => false
/-- The word that a text begins with, as the program has it. -/
def wd (u : Bs) : Bs := match u with
  | [] => []
  | c :: r => if letter c = true then ((c :: r).take 24).takeWhile idc else if digit c = true then (c :: r).takeWhile digit
    else if c = 36 ∧ dh r = true then (c :: r).take 2
    else if c = 40 ∨ c = 41 ∨ c = 44 then [c] else sgn (c :: r)

theorem wd_cons (c : UInt8) (r : Bs) : wd (c :: r) = if letter c = true then ((c :: r).take 24).takeWhile idc else if digit c = true then (c :: r).takeWhile digit
    else if c = 36 ∧ dh r = true then (c :: r).take 2
    else if c = 40 ∨ c = 41 ∨ c = 44 then [c] else sgn (c :: r) := rfl

theorem byte_eq (c : UInt8) (k : Nat) (hk : k < 256) : c = UInt8.ofNat k ↔ c.toNat = k := by
  constructor
  · rintro rfl; rw [UInt8.toNat_ofNat']; omega
  · intro h; rw [← h]; simp

theorem three_index (c : UInt8) : (c = 40 ∨ c = 41 ∨ c = 44) ∧ 0 ≤ Lib.indexByte [40, 41, 44] c ∨ ¬ (c = 40 ∨ c = 41 ∨ c = 44) ∧ Lib.indexByte [40, 41, 44] c = -1 := by
  unfold Lib.indexByte Lib.indexByte Lib.indexByte Lib.indexByte
  by_cases h1 : c = 40
  · subst h1; left; exact ⟨Or.inl rfl, by decide⟩
  by_cases h2 : c = 41
  · subst h2; left; exact ⟨Or.inr (Or.inl rfl), by decide⟩
  by_cases h3 : c = 44
  · subst h3; left; exact ⟨Or.inr (Or.inr rfl), by decide⟩
  right
  refine ⟨by simp [h1, h2, h3], ?_⟩
  have e1 : ((40 : UInt8) == c) = false := beq_eq_false_iff_ne.2 (Ne.symm h1)
  have e2 : ((41 : UInt8) == c) = false := beq_eq_false_iff_ne.2 (Ne.symm h2)
  have e3 : ((44 : UInt8) == c) = false := beq_eq_false_iff_ne.2 (Ne.symm h3)
  simp [e1, e2, e3]

theorem take_two (u : Bs) (c d : UInt8) (h0 : 0 < (str u).size) (h1 : 1 < (str u).size) (e0 : (str u)[0]'h0 = c) (e1 : (str u)[1]'h1 = d) : u.take 2 = [c, d] := by
  rw [str_get] at e0 e1
  rw [str_size] at h1
  cases u with
  | nil => simp at h1
  | cons a r =>
    cases r with
    | nil => simp at h1
    | cons b r' =>
      simp only [List.getElem_cons_zero, List.getElem_cons_succ] at e0 e1
      subst e0; subst e1; rfl

theorem u8_back (c : UInt8) : (c.toNat : Int).toNat.toUInt8 = c := by simp

set_option maxHeartbeats 1000000 in
set_option maxRecDepth 100000 in
theorem wordAt_np (t u : Bs) (at_ n : Nat) (c : UInt8) (w : World) (hg : Glob w) (haI : (at_ : Int) ≤ (t.length : Int)) (hx : (str t).extract at_ t.length = str u) (hn : u.length = n) (h1n : 1 ≤ n) (hl : n ≤ 9223372036854775807)
    (h0 : 0 < (str u).size) (hc0 : (str u)[0]'h0 = c) (hlc : letter c = false) (hdc : digit c = false)
    (h3 : c = 40 ∨ c = 41 ∨ c = 44) (h36 : c ≠ 36) :
    Calls Tryd.prog 74 #[sv t, .int .i64 (at_ : Int)] w fun e w' => e = .returned (sv ([c])) ∧ w = w' := by
  have hsz : (str t).size = t.length := str_size t
  have hszu : (str u).size = n := by rw [str_size, hn]
  have he : (str u).toList.isEmpty = false := by
    rw [str_toList]; cases u with
    | nil => simp at hn; omega
    | cons a b => rfl
  have hpos : (0 : Int) < (n : Int) := by omega
  have HL := Lib.hid (fun W => isLetter_any c W)
  have HD := Lib.hid (fun W => isDigit_any c W)
  have HG := Lib.hid hg
  rw [hlc] at HL
  rw [hdc] at HD
  have hb36 : ((c.toNat : Int) == 36) = false := by
    rw [beq_eq_false_iff_ne]; intro h; exact h36 ((byte_eq c 36 (by decide)).2 (by omega))
  clear h36
  have HI := Lib.hid (fun W => S.strings_IndexByte ⟨#[40, 41, 44]⟩ (c.toNat : Int) W)
  rw [u8_back] at HI
  obtain ⟨ix, hix⟩ : ∃ ix, Lib.indexByte [40, 41, 44] c = ix := ⟨_, rfl⟩
  rw [show (⟨#[40, 41, 44]⟩ : ByteArray).data.toList = [40, 41, 44] from rfl, hix] at HI
  have h3i := (three_index c)
  rw [hix] at h3i
  replace h3i : 0 ≤ ix := by rcases h3i with h | h; exact h.2; exact absurd h3 h.1
  have h1x : (str u).extract 0 1 = str [c] := by
    rw [str_take]; rw [str_get] at hc0; cases u with
    | nil => simp at hn; omega
    | cons a b => cases hc0; rfl
  have h1l : (1 : Int) ≤ (n : Int) := by omega
  unfold sv
  clear hix h3 hlc hdc hn hl hg h1n
  go_enter Tryd.func74, Tryd.ntmps74
  go_wp2_with (first | (go_at_call 73; refine (HL.out _).mono ?_; rintro _ w1 ⟨rfl, rfl⟩) | (go_at_call 84; refine (HD.out _).mono ?_; rintro _ w1 ⟨rfl, rfl⟩) | (go_at_call 85; refine (HI.out _).mono ?_; rintro _ w1 ⟨rfl, rfl⟩))
  go_ret
  exact ⟨rfl, rfl⟩

set_option maxHeartbeats 1000000 in
set_option maxRecDepth 100000 in
theorem wordAt_ns (t u : Bs) (at_ n : Nat) (c : UInt8) (w : World) (hg : Glob w) (haI : (at_ : Int) ≤ (t.length : Int)) (hx : (str t).extract at_ t.length = str u) (hn : u.length = n) (h1n : 1 ≤ n) (hl : n ≤ 9223372036854775807)
    (h0 : 0 < (str u).size) (hc0 : (str u)[0]'h0 = c) (hlc : letter c = false) (hdc : digit c = false)
    (h3 : ¬ (c = 40 ∨ c = 41 ∨ c = 44)) (h36 : c ≠ 36) :
    Calls Tryd.prog 74 #[sv t, .int .i64 (at_ : Int)] w fun e w' => e = .returned (sv (sgn u)) ∧ w = w' := by
  have hsz : (str t).size = t.length := str_size t
  have hszu : (str u).size = n := by rw [str_size, hn]
  have he : (str u).toList.isEmpty = false := by
    rw [str_toList]; cases u with
    | nil => simp at hn; omega
    | cons a b => rfl
  have hpos : (0 : Int) < (n : Int) := by omega
  have HL := Lib.hid (fun W => isLetter_any c W)
  have HD := Lib.hid (fun W => isDigit_any c W)
  have HG := Lib.hid hg
  rw [hlc] at HL
  rw [hdc] at HD
  have hb36 : ((c.toNat : Int) == 36) = false := by
    rw [beq_eq_false_iff_ne]; intro h; exact h36 ((byte_eq c 36 (by decide)).2 (by omega))
  clear h36
  have HI := Lib.hid (fun W => S.strings_IndexByte ⟨#[40, 41, 44]⟩ (c.toNat : Int) W)
  rw [u8_back] at HI
  obtain ⟨ix, hix⟩ : ∃ ix, Lib.indexByte [40, 41, 44] c = ix := ⟨_, rfl⟩
  rw [show (⟨#[40, 41, 44]⟩ : ByteArray).data.toList = [40, 41, 44] from rfl, hix] at HI
  have h3i := (three_index c)
  rw [hix] at h3i
  replace h3i : ix = -1 := by rcases h3i with h | h; exact absurd h.1 h3; exact h.2
  subst h3i
  have HS := Lib.hid (fun W hW => signAt_any u W hW (by rw [hn]; exact hl))
  unfold sv at HS ⊢
  clear hix h3 hlc hdc hn hl hg h1n
  go_enter Tryd.func74, Tryd.ntmps74
  go_wp2_with (first | (go_at_call 73; refine (HL.out _).mono ?_; rintro _ w1 ⟨rfl, rfl⟩) | (go_at_call 84; refine (HD.out _).mono ?_; rintro _ w1 ⟨rfl, rfl⟩) | (go_at_call 85; refine (HI.out _).mono ?_; rintro _ w1 ⟨rfl, rfl⟩) | (go_at_call 86; refine (HS.out _ HG.out).mono ?_; rintro _ w1 ⟨rfl, rfl⟩))
  go_ret
  exact ⟨rfl, rfl⟩

set_option maxHeartbeats 1000000 in
set_option maxRecDepth 100000 in
theorem wordAt_es (t u : Bs) (at_ n : Nat) (c : UInt8) (w : World) (hg : Glob w) (haI : (at_ : Int) ≤ (t.length : Int)) (hx : (str t).extract at_ t.length = str u) (hn : u.length = n) (h1n : 1 ≤ n) (hl : n ≤ 9223372036854775807)
    (h0 : 0 < (str u).size) (hc0 : (str u)[0]'h0 = c) (hlc : letter c = false) (hdc : digit c = false)
    (h3 : ¬ (c = 40 ∨ c = 41 ∨ c = 44)) (h36 : c = 36) (h1 : n = 1) :
    Calls Tryd.prog 74 #[sv t, .int .i64 (at_ : Int)] w fun e w' => e = .returned (sv (sgn u)) ∧ w = w' := by
  have hsz : (str t).size = t.length := str_size t
  have hszu : (str u).size = n := by rw [str_size, hn]
  have he : (str u).toList.isEmpty = false := by
    rw [str_toList]; cases u with
    | nil => simp at hn; omega
    | cons a b => rfl
  have hpos : (0 : Int) < (n : Int) := by omega
  have HL := Lib.hid (fun W => isLetter_any c W)
  have HD := Lib.hid (fun W => isDigit_any c W)
  have HG := Lib.hid hg
  rw [hlc] at HL
  rw [hdc] at HD
  have hb36 : ((c.toNat : Int) == 36) = true := by rw [h36]; rfl
  have hd1 : decide ((1 : Int) < (n : Int)) = false := decide_eq_false (by omega)
  clear h36 h1
  have HI := Lib.hid (fun W => S.strings_IndexByte ⟨#[40, 41, 44]⟩ (c.toNat : Int) W)
  rw [u8_back] at HI
  obtain ⟨ix, hix⟩ : ∃ ix, Lib.indexByte [40, 41, 44] c = ix := ⟨_, rfl⟩
  rw [show (⟨#[40, 41, 44]⟩ : ByteArray).data.toList = [40, 41, 44] from rfl, hix] at HI
  have h3i := (three_index c)
  rw [hix] at h3i
  replace h3i : ix = -1 := by rcases h3i with h | h; exact absurd h.1 h3; exact h.2
  subst h3i
  have HS := Lib.hid (fun W hW => signAt_any u W hW (by rw [hn]; exact hl))
  unfold sv at HS ⊢
  clear hix h3 hlc hdc hn hl hg h1n
  go_enter Tryd.func74, Tryd.ntmps74
  go_wp2_with (first | (go_at_call 73; refine (HL.out _).mono ?_; rintro _ w1 ⟨rfl, rfl⟩) | (go_at_call 84; refine (HD.out _).mono ?_; rintro _ w1 ⟨rfl, rfl⟩) | (go_at_call 85; refine (HI.out _).mono ?_; rintro _ w1 ⟨rfl, rfl⟩) | (go_at_call 86; refine (HS.out _ HG.out).mono ?_; rintro _ w1 ⟨rfl, rfl⟩))
  go_ret
  exact ⟨rfl, rfl⟩

set_option maxHeartbeats 1000000 in
set_option maxRecDepth 100000 in
theorem wordAt_ds (t u : Bs) (at_ n : Nat) (c : UInt8) (w : World) (hg : Glob w) (haI : (at_ : Int) ≤ (t.length : Int)) (hx : (str t).extract at_ t.length = str u) (hn : u.length = n) (h1n : 1 ≤ n) (hl : n ≤ 9223372036854775807)
    (h0 : 0 < (str u).size) (hc0 : (str u)[0]'h0 = c) (hlc : letter c = false) (hdc : digit c = false)
    (h3 : ¬ (c = 40 ∨ c = 41 ∨ c = 44)) (h36 : c = 36) (h1 : 1 < n) (d : UInt8) (h1s : 1 < (str u).size) (hc1 : (str u)[1]'h1s = d) (hdd : digit d = false) :
    Calls Tryd.prog 74 #[sv t, .int .i64 (at_ : Int)] w fun e w' => e = .returned (sv (sgn u)) ∧ w = w' := by
  have hsz : (str t).size = t.length := str_size t
  have hszu : (str u).size = n := by rw [str_size, hn]
  have he : (str u).toList.isEmpty = false := by
    rw [str_toList]; cases u with
    | nil => simp at hn; omega
    | cons a b => rfl
  have hpos : (0 : Int) < (n : Int) := by omega
  have HL := Lib.hid (fun W => isLetter_any c W)
  have HD := Lib.hid (fun W => isDigit_any c W)
  have HG := Lib.hid hg
  rw [hlc] at HL
  rw [hdc] at HD
  have hb36 : ((c.toNat : Int) == 36) = true := by rw [h36]; rfl
  have hd1 : (1 : Int) < (n : Int) := by omega
  have HDD := Lib.hid (fun W => isDigit_any d W)
  rw [hdd] at HDD
  clear h36 h1 hdd
  have HI := Lib.hid (fun W => S.strings_IndexByte ⟨#[40, 41, 44]⟩ (c.toNat : Int) W)
  rw [u8_back] at HI
  obtain ⟨ix, hix⟩ : ∃ ix, Lib.indexByte [40, 41, 44] c = ix := ⟨_, rfl⟩
  rw [show (⟨#[40, 41, 44]⟩ : ByteArray).data.toList = [40, 41, 44] from rfl, hix] at HI
  have h3i := (three_index c)
  rw [hix] at h3i
  replace h3i : ix = -1 := by rcases h3i with h | h; exact absurd h.1 h3; exact h.2
  subst h3i
  have HS := Lib.hid (fun W hW => signAt_any u W hW (by rw [hn]; exact hl))
  unfold sv at HS ⊢
  clear hix h3 hlc hdc hn hl hg h1n
  go_enter Tryd.func74, Tryd.ntmps74
  go_wp2_with (first | (go_at_call 73; refine (HL.out _).mono ?_; rintro _ w1 ⟨rfl, rfl⟩) | (go_at_call 84; first | (refine (HD.out _).mono ?_; rintro _ w1 ⟨rfl, rfl⟩) | (refine (HDD.out _).mono ?_; rintro _ w1 ⟨rfl, rfl⟩)) | (go_at_call 85; refine (HI.out _).mono ?_; rintro _ w1 ⟨rfl, rfl⟩) | (go_at_call 86; refine (HS.out _ HG.out).mono ?_; rintro _ w1 ⟨rfl, rfl⟩))
  go_ret
  exact ⟨rfl, rfl⟩

set_option maxHeartbeats 1000000 in
set_option maxRecDepth 100000 in
theorem wordAt_arg (t u : Bs) (at_ n : Nat) (c : UInt8) (w : World) (hg : Glob w) (haI : (at_ : Int) ≤ (t.length : Int)) (hx : (str t).extract at_ t.length = str u) (hn : u.length = n) (h1n : 1 ≤ n) (hl : n ≤ 9223372036854775807)
    (h0 : 0 < (str u).size) (hc0 : (str u)[0]'h0 = c) (hlc : letter c = false) (hdc : digit c = false)
    (h36 : c = 36) (h1 : 1 < n) (d : UInt8) (h1s : 1 < (str u).size) (hc1 : (str u)[1]'h1s = d) (hdd : digit d = true) :
    Calls Tryd.prog 74 #[sv t, .int .i64 (at_ : Int)] w fun e w' => e = .returned (sv [c, d]) ∧ w = w' := by
  have hsz : (str t).size = t.length := str_size t
  have hszu : (str u).size = n := by rw [str_size, hn]
  have he : (str u).toList.isEmpty = false := by
    rw [str_toList]; cases u with
    | nil => simp at hn; omega
    | cons a b => rfl
  have hpos : (0 : Int) < (n : Int) := by omega
  have HL := Lib.hid (fun W => isLetter_any c W)
  have HD := Lib.hid (fun W => isDigit_any c W)
  have HG := Lib.hid hg
  rw [hlc] at HL
  rw [hdc] at HD
  have hb36 : ((c.toNat : Int) == 36) = true := by rw [h36]; rfl
  have hd1 : (1 : Int) < (n : Int) := by omega
  have HDD := Lib.hid (fun W => isDigit_any d W)
  rw [hdd] at HDD
  have h2x : (str u).extract 0 2 = str [c, d] := by
    rw [str_take, take_two u c d h0 h1s hc0 hc1]
  have h2l : (2 : Int) ≤ (n : Int) := by omega
  unfold sv
  clear hlc hdc hn hl hg h1n h36 h1 hdd
  go_enter Tryd.func74, Tryd.ntmps74
  go_wp2_with (first | (go_at_call 73; refine (HL.out _).mono ?_; rintro _ w1 ⟨rfl, rfl⟩) | (go_at_call 84; first | (refine (HD.out _).mono ?_; rintro _ w1 ⟨rfl, rfl⟩) | (refine (HDD.out _).mono ?_; rintro _ w1 ⟨rfl, rfl⟩)))
  go_ret
  exact ⟨rfl, rfl⟩

set_option maxHeartbeats 1000000 in
set_option maxRecDepth 100000 in
theorem wordAt_any (t u : Bs) (at_ : Nat) (w : World) (hg : Glob w) (ha : at_ ≤ t.length) (hu : t.drop at_ = u) (hl : t.length ≤ 9223372036854775807) :
    Calls Tryd.prog 74 #[sv t, .int .i64 (at_ : Int)] w fun e w' => e = .returned (sv (wd u)) ∧ w = w' := by
  have hsz : (str t).size = t.length := str_size t
  have hlu : u.length ≤ 9223372036854775807 := by rw [← hu, List.length_drop]; omega
  have hx : (str t).extract at_ t.length = str u := by rw [str_extract, hu, List.take_of_length_le (by rw [← hu, List.length_drop]; exact Nat.le_refl _)]
  have hszu : (str u).size = u.length := str_size u
  have HG := Lib.hid hg
  have HLU := Lib.hid hlu
  have haI : (at_ : Int) ≤ (t.length : Int) := by omega
  clear hl hlu hg hu
  match u with
  | [] =>
    have he : (str []).toList.isEmpty = true := by rw [str_toList]; rfl
    unfold sv
    go_enter Tryd.func74, Tryd.ntmps74
    go_wp2_with fail
    go_ret
    exact ⟨rfl, rfl⟩
  | c :: r =>
    have he : (str (c :: r)).toList.isEmpty = false := by rw [str_toList]; rfl
    have h0 : 0 < (str (c :: r)).size := by rw [str_size]; simp
    have hc0 : (str (c :: r))[0]'h0 = c := by rw [str_get]; rfl
    have hpos : (0 : Int) < ((c :: r).length : Int) := by simp
    have HL := Lib.hid (fun W => isLetter_any c W)
    have HD := Lib.hid (fun W => isDigit_any c W)
    cases hlc : letter c with
    | true =>
      have HB := Lib.hid (fun W => beginName_any (c :: r) 24 W HLU.out (by decide))
      have hw : wd (c :: r) = ((c :: r).take 24).takeWhile idc := by rw [wd_cons, if_pos hlc]
      rw [hw]
      rw [hlc] at HL
      unfold sv at HB ⊢
      clear hlc hw HD
      go_enter Tryd.func74, Tryd.ntmps74
      go_wp2_with (first | (go_at_call 73; refine (HL.out _).mono ?_; rintro _ w1 ⟨rfl, rfl⟩) | (go_at_call 82; refine (HB.out _).mono ?_; rintro _ w1 ⟨rfl, rfl⟩))
      go_ret
      exact ⟨rfl, rfl⟩
    | false =>
      rw [hlc] at HL
      cases hdc : digit c with
      | true =>
        have HB := Lib.hid (fun W => beginDigit_any (c :: r) (c :: r).length W HLU.out HLU.out)
        have hw : wd (c :: r) = (c :: r).takeWhile digit := by rw [wd_cons, if_neg (by rw [hlc]; decide), if_pos hdc]
        rw [hw]
        rw [List.take_length] at HB
        rw [hdc] at HD
        unfold sv at HB ⊢
        clear hlc hdc hw
        go_enter Tryd.func74, Tryd.ntmps74
        go_wp2_with (first | (go_at_call 73; refine (HL.out _).mono ?_; rintro _ w1 ⟨rfl, rfl⟩) | (go_at_call 84; refine (HD.out _).mono ?_; rintro _ w1 ⟨rfl, rfl⟩) | (go_at_call 82; refine (HB.out _).mono ?_; rintro _ w1 ⟨rfl, rfl⟩))
        go_ret
        exact ⟨rfl, rfl⟩
      | false =>
        rw [hdc] at HD
        have hw0 : wd (c :: r) = if c = 36 ∧ dh r = true then (c :: r).take 2 else if c = 40 ∨ c = 41 ∨ c = 44 then [c] else sgn (c :: r) := by
          rw [wd_cons, if_neg (by rw [hlc]; decide), if_neg (by rw [hdc]; decide)]
        clear HL HD he hpos
        by_cases h3 : c = 40 ∨ c = 41 ∨ c = 44
        · have h36 : c ≠ 36 := by rcases h3 with rfl | rfl | rfl <;> decide
          rw [hw0, if_neg (fun h => h36 h.1), if_pos h3]
          exact wordAt_np t (c :: r) at_ _ c w HG.out haI hx rfl (by simp) HLU.out h0 hc0 hlc hdc h3 h36
        · by_cases h36 : c = 36
          · match r with
            | [] =>
              rw [hw0, if_neg (fun h => by cases h.2), if_neg h3]
              exact wordAt_es t [c] at_ _ c w HG.out haI hx rfl (by simp) HLU.out h0 hc0 hlc hdc h3 h36 rfl
            | d :: r' =>
              have h1s : 1 < (str (c :: d :: r')).size := by rw [str_size]; simp only [List.length_cons]; omega
              have hc1 : (str (c :: d :: r'))[1]'h1s = d := by rw [str_get]; rfl
              have h1n : 1 < (c :: d :: r').length := by simp only [List.length_cons]; omega
              cases hdd : digit d with
              | true =>
                rw [hw0, if_pos ⟨h36, hdd⟩]
                exact wordAt_arg t (c :: d :: r') at_ _ c w HG.out haI hx rfl (by simp) HLU.out h0 hc0 hlc hdc h36 h1n d h1s hc1 hdd
              | false =>
                rw [hw0, if_neg (fun h => by have := h.2; rw [show dh (d :: r') = digit d from rfl, hdd] at this; cases this), if_neg h3]
                exact wordAt_ds t (c :: d :: r') at_ _ c w HG.out haI hx rfl (by simp) HLU.out h0 hc0 hlc hdc h3 h36 h1n d h1s hc1 hdd
          · rw [hw0, if_neg (fun h => h36 h.1), if_neg h3]
            exact wordAt_ns t (c :: r) at_ _ c w HG.out haI hx rfl (by simp) HLU.out h0 hc0 hlc hdc h3 h36
end Go.Proofs.YtfcdkjhabdpijaaDoor.I
