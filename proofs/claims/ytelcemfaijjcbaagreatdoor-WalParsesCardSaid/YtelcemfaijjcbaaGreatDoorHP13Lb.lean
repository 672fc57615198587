/-
  Layer 13, plainly: a record's bytes; what is read of a segment that is torn anywhere.
  Layer 13, the program: one record's bytes read, and laid.
  Layer 13: a row of one's own beside what others write.
  Layer 13, the program: a log's own memory; a record put behind the others.
-/
import Derived.Test.YtelcemfaijjcbaaGreatDoorHP13Pm
import Derived.Test.YtelcemfaijjcbaaGreatDoorHVText
import Derived.Test.YtelcemfaijjcbaaGreatDoorHCSpec
import Derived.Test.YtelcemfaijjcbaaGreatDoorHVRdText
import Derived.Test.YtelcemfaijjcbaaGreatDoorHCLaid
import Derived.Test.YtelcemfaijjcbaaGreatDoorHP12Rs
import Derived.Test.YtelcemfaijjcbaaGreatDoorHP12Rz
import Derived.Maps.AppendAt
import Derived.Lib.OwnKind
namespace Go.Proofs.YtelcemfaijjcbaaGreatDoor.C13
open Go Go.RowKit Go.Proofs Go.Proofs.YtelcemfaijjcbaaGreatDoor.B Go.Proofs.YtelcemfaijjcbaaGreatDoor.K
set_option linter.unusedVariables false

def recB (n : Int) (r : List UInt8) : List UInt8 := V.num ((C.sealed (V.num n ++ r)).length : Int) ++ C.sealed (V.num n ++ r)
def encL : Int → List (List UInt8) → List UInt8
  | _, [] => []
  | n, r :: l => recB n r ++ encL (n + 1) l
theorem good_high : ∀ (p : List UInt8), V.good p → ∀ (j : Nat) (h : j < p.length), j + 1 < p.length → 128 ≤ p[j].toNat
  | [], h, _, _, _ => h.elim
  | [b], _, j, _, h => by simp at h
  | b :: c :: r, h, 0, _, _ => h.1
  | b :: c :: r, h, j + 1, h1, h2 => good_high (c :: r) h.2.1 j (by simpa using h1) (by simpa using h2)
/-- A number's beginning is none. -/
theorem num_torn (a : List UInt8) (n : Int) (h0 : -9223372036854775808 ≤ n) (h1 : n ≤ 9223372036854775807) (p : Nat) (hp : p < (V.num n).length) : (V.rdAt (a ++ (V.num n).take p) a.length).2.2 ≠ 0 := by
  have hl := V.num_len n h0 h1
  have hg : V.good (V.num n) := V.good_uvarint _
  have hlen : ((V.num n).take p).length = p := by rw [List.length_take]; omega
  have hr : V.rd ((V.num n).take p) = (5, 0, 0) := V.rd_end _ p (by omega) (fun j hj hk => by
    rw [List.getElem_take]
    exact good_high _ hg j (by omega) (by omega)) hlen
  unfold V.rdAt
  rw [if_neg (by rw [List.length_append]; omega), Int.toNat_natCast, List.drop_left, hr]
  simp
theorem rec_len (n : Int) (r : List UInt8) : (recB n r).length = (V.num ((C.sealed (V.num n ++ r)).length : Int)).length + (C.sealed (V.num n ++ r)).length := by unfold recB; rw [List.length_append]
theorem rec_pos (n : Int) (r : List UInt8) : 1 ≤ (recB n r).length := by
  rw [rec_len]
  have := V.num_pos ((C.sealed (V.num n ++ r)).length : Int)
  omega
theorem body_len (n : Int) (h0 : 0 ≤ n) (h1 : n ≤ 4611686018427387904) (r : List UInt8) (hr : r.length ≤ 1024) : (C.sealed (V.num n ++ r)).length ≤ 1038 := by
  rw [C.sealed_length, List.length_append]
  have := V.num_len n (by omega) (by omega)
  omega
theorem rec_whole (pre rest r : List UInt8) (n : Int) (h0 : 0 ≤ n) (h1 : n ≤ 4611686018427387904) (hr : r.length ≤ 1024) : recAt (pre ++ (recB n r ++ rest)) n pre.length = some (r, pre.length + (recB n r).length) := by
  have hb := body_len n h0 h1 r hr
  obtain ⟨T, hT⟩ : ∃ T, V.num n ++ r = T := ⟨_, rfl⟩
  obtain ⟨S, hS⟩ : ∃ S, C.sealed T = S := ⟨_, rfl⟩
  have e0 : recB n r = V.num (S.length : Int) ++ S := by unfold recB; rw [hT, hS]
  rw [hT, hS] at hb
  have e1 : V.rdAt (pre ++ (recB n r ++ rest)) pre.length = ((S.length : Int), (pre.length : Int) + ((V.num (S.length : Int)).length : Int), 0) := by
    rw [e0, List.append_assoc]
    exact V.rdAt_num pre (S ++ rest) (S.length : Int) (by omega) (by omega)
  have e2 : V.rdAt T 0 = (n, ((V.num n).length : Int), 0) := by
    have := V.rdAt_num [] r n (by omega) (by omega)
    rw [← hT]
    simpa using this
  have e3 : ((pre ++ (recB n r ++ rest)).drop (pre.length + (V.num (S.length : Int)).length)).take S.length = S := by
    rw [e0, ← List.drop_drop, List.drop_left, List.append_assoc, List.drop_left, List.take_left]
  have e4 : C.openOf S = (T, 0) := by rw [← hS]; exact C.open_sealed T
  have e5 : ((pre.length : Int) + ((V.num (S.length : Int)).length : Int)).toNat = pre.length + (V.num (S.length : Int)).length := by omega
  have hlen : (pre ++ (recB n r ++ rest)).length = pre.length + ((V.num (S.length : Int)).length + S.length + rest.length) := by rw [e0]; simp; omega
  have hTl : T.length = (V.num n).length + r.length := by rw [← hT, List.length_append]
  have e6 : T.drop (V.num n).length = r := by rw [← hT, List.drop_left]
  unfold recAt
  simp only [e1, e5, Int.toNat_natCast, e3, e4, e2]
  rw [if_neg (by rw [hlen]; simp; omega), if_neg (by simp), if_neg (by rw [hTl]; simp; omega), e6, e0, List.length_append, Nat.add_assoc]
theorem rec_torn (pre r : List UInt8) (n : Int) (h0 : 0 ≤ n) (h1 : n ≤ 4611686018427387904) (hr : r.length ≤ 1024) (p : Nat) (hp : p < (recB n r).length) (F : Int) : recAt (pre ++ (recB n r).take p) F pre.length = none := by
  have hb := body_len n h0 h1 r hr
  rw [rec_len] at hp
  obtain ⟨S, hS⟩ : ∃ S, C.sealed (V.num n ++ r) = S := ⟨_, rfl⟩
  have e0 : recB n r = V.num (S.length : Int) ++ S := by unfold recB; rw [hS]
  rw [hS] at hb hp
  unfold recAt
  by_cases h : p < (V.num (S.length : Int)).length
  · have e1 : (recB n r).take p = (V.num (S.length : Int)).take p := by rw [e0, List.take_append_of_le_length (by omega)]
    rw [e1]
    exact if_pos (Or.inl (num_torn pre (S.length : Int) (by omega) (by omega) p h))
  · have e1 : (recB n r).take p = V.num (S.length : Int) ++ S.take (p - (V.num (S.length : Int)).length) := by
      rw [e0, List.take_append, List.take_of_length_le (by omega)]
    rw [e1]
    have e2 := V.rdAt_num pre (S.take (p - (V.num (S.length : Int)).length)) (S.length : Int) (by omega) (by omega)
    rw [e2]
    refine if_pos (Or.inr (Or.inr ?_))
    simp only [List.length_append, List.length_take]
    omega
theorem enc_app : ∀ (l : List (List UInt8)) (n : Int) (r : List UInt8), encL n (l ++ [r]) = encL n l ++ recB (n + l.length) r
  | [], n, r => by simp [encL]
  | a :: l, n, r => by
    simp only [List.cons_append, encL, enc_app l (n + 1) r, List.append_assoc, List.length_cons]
    rw [show n + 1 + (l.length : Int) = n + ((l.length + 1 : Nat) : Int) from by omega]
/-- A segment whose bytes end anywhere has just the records that are whole. -/
theorem parse_torn : ∀ (rs : List (List UInt8)) (n : Int) (pre : List UInt8) (p N : Nat), 0 ≤ n → n + rs.length ≤ 4611686018427387904 → (∀ r ∈ rs, r.length ≤ 1024) → p ≤ (encL n rs).length → rs.length < N →
    ∃ m, m ≤ rs.length ∧ parseGo (pre ++ (encL n rs).take p) N n pre.length = (rs.take m, pre.length + (encL n (rs.take m)).length) ∧ (encL n (rs.take m)).length ≤ p ∧ (m < rs.length → p < (encL n (rs.take (m + 1))).length)
  | [], n, pre, p, N, h0, h1, hr, hp, hN => by
    refine ⟨0, Nat.le_refl _, ?_, Nat.zero_le _, fun h => absurd h (by simp)⟩
    have hz : p = 0 := by simpa [encL] using hp
    subst hz
    rw [parse_none]
    · simp [encL]
    · unfold recAt
      refine if_pos (Or.inl ?_)
      have : V.rdAt (pre ++ (encL n []).take 0) pre.length = (0, 0, 5) := by
        unfold V.rdAt
        rw [if_neg (by rw [List.length_append]; omega), Int.toNat_natCast, List.drop_left]
        rfl
      rw [this]
      simp
  | r :: rs, n, pre, p, N + 1, h0, h1, hr, hp, hN => by
    have hr0 := hr r (List.mem_cons_self ..)
    have hn1 : n ≤ 4611686018427387904 := by simp only [List.length_cons] at h1; omega
    by_cases h : p < (recB n r).length
    · refine ⟨0, Nat.zero_le _, ?_, Nat.zero_le _, fun _ => ?_⟩
      · rw [show (encL n (r :: rs)).take p = (recB n r).take p from by simp only [encL]; rw [List.take_append_of_le_length (by omega)], parse_none (rec_torn pre r n h0 hn1 hr0 p h n)]
        simp [encL]
      · simpa [encL] using h
    · have e1 : (encL n (r :: rs)).take p = recB n r ++ (encL (n + 1) rs).take (p - (recB n r).length) := by
        simp only [encL]
        rw [List.take_append, List.take_of_length_le (by omega)]
      rw [e1]
      have hp' : p - (recB n r).length ≤ (encL (n + 1) rs).length := by simp only [encL, List.length_append] at hp; omega
      obtain ⟨m, hm, ih, i1, i2⟩ := parse_torn rs (n + 1) (pre ++ recB n r) (p - (recB n r).length) N (by omega) (by simp only [List.length_cons] at h1; omega) (fun x hx => hr x (List.mem_cons_of_mem _ hx)) hp' (by simp only [List.length_cons] at hN; omega)
      refine ⟨m + 1, by simp only [List.length_cons]; omega, ?_, ?_, fun hlt => ?_⟩
      · rw [parse_some (rec_whole pre _ r n h0 hn1 hr0)]
        rw [List.append_assoc, List.length_append] at ih
        rw [ih]
        simp only [List.take_succ_cons, encL, List.length_append, Nat.add_assoc]
      · simp only [List.take_succ_cons, encL, List.length_append]; omega
      · have := i2 (by simp only [List.length_cons] at hlt; omega)
        simp only [List.take_succ_cons, encL, List.length_append] at this ⊢
        omega
end Go.Proofs.YtelcemfaijjcbaaGreatDoor.C13

namespace Go.Proofs.YtelcemfaijjcbaaGreatDoor.C13
open Go Go.RowKit Go.Proofs Go.Proofs.YtelcemfaijjcbaaGreatDoor.B Go.Proofs.YtelcemfaijjcbaaGreatDoor.K
set_option linter.unusedVariables false
set_option maxRecDepth 100000

theorem results_tmp4 {fn : Func} {t u v x : Tmp} (h : fn.results = #[.tmp t, .tmp u, .tmp v, .tmp x]) (tmps : Array Value) (P : Program) (w : World) :
    (results fn tmps).run P w = .ok (.tuple #[tmps.getD t undef, tmps.getD u undef, tmps.getD v undef, tmps.getD x undef]) w := by
  simp [results, h]
theorem str_toList (l : List UInt8) : (str l).data.toList = l := by simp [str]
set_option maxHeartbeats 2000000 in
theorem readRec_any (s : List UInt8) (A : Int) (w : World) (hs : s.length ≤ 8796093022000) :
    Calls Tryz.prog 47 #[.string (str s), .int .i64 A] w fun e w' => e = .returned (.tuple #[.int .i64 (recT s A).n, .string (str (recT s A).r), .int .i64 (recT s A).q, .int .i64 (recT s A).e]) ∧ Below w.heap.size w w' := by
  obtain ⟨⟨x, q, e⟩, ht⟩ : ∃ t, V.txt s A = t := ⟨_, rfl⟩
  have HT := Lib.hid (fun W => V.readText_of (s := str s) (p := A) (x := x) (q := q) (e := e) (by rw [str_toList]; exact ht) W (by rw [str_size]; omega))
  have hxl : x.length ≤ s.length := by
    have : x = (V.txt s A).1 := by rw [ht]
    rw [this]
    unfold V.txt V.txtOf
    split
    · simp
    · split
      · simp
      · rw [List.length_take, List.length_drop]; omega
  unfold recT
  rw [ht]
  dsimp only
  by_cases he : e = 0
  rotate_left 1
  · rw [if_pos he]
    have hb : (e != 0) = true := bne_iff_ne.2 he
    clear ht hs hxl he
    go_enter Tryz.func47, Tryz.ntmps47
    go_wp2_with (go_at_call 71; (with_reducible refine (HT.out _).mono ?_); rintro _ w1 ⟨rfl, hb1⟩; have HB1 := Lib.hid hb1; clear hb1)
    (try simp only [Exit.inBlock, Exit.then]); refine bodyPost_ret (results_tmp4 rfl _ _ _) rfl ?_
    exact ⟨rfl, HB1.out⟩
  subst he
  rw [if_neg (by simp)]
  obtain ⟨⟨T, f⟩, ho⟩ : ∃ p, C.openOf x = p := ⟨_, rfl⟩
  have HO := Lib.hid (fun W => by
    have := C.open_any x W (by omega)
    rw [ho] at this
    exact this)
  dsimp only at HO
  have hTl : T.length ≤ s.length := by
    have := open_len x
    rw [ho] at this
    dsimp only at this
    omega
  rw [ho]
  dsimp only
  by_cases hf : f = 0
  rotate_left 1
  · rw [if_pos hf]
    have hb : (f != 0) = true := bne_iff_ne.2 hf
    clear ht hs hxl ho hf
    go_enter Tryz.func47, Tryz.ntmps47
    go_wp2_with (first
      | (go_at_call 71; (with_reducible refine (HT.out _).mono ?_); rintro _ w1 ⟨rfl, hb1⟩; have HB1 := Lib.hid hb1; clear hb1)
      | (go_at_call 72; (refine (HO.out _).mono ?_); rintro _ w2 ⟨rfl, hb2⟩; have HB2 := Lib.hid (HB1.out.trans (hb2.mono HB1.out.size)); clear hb2))
    (try simp only [Exit.inBlock, Exit.then]); refine bodyPost_ret (results_tmp4 rfl _ _ _) rfl ?_
    exact ⟨rfl, HB2.out⟩
  subst hf
  rw [if_neg (by simp)]
  obtain ⟨⟨y, i, g⟩, hy⟩ : ∃ p, V.rdAt T 0 = p := ⟨_, rfl⟩
  have HR := Lib.hid (fun W => V.readNumber_of (s := str T) (p := 0) (x := y) (q := i) (e := g) (by rw [str_toList]; exact hy) W (by rw [str_size]; omega))
  rw [hy]
  dsimp only
  by_cases hg : g = 0
  rotate_left 1
  · rw [if_pos hg]
    have hb : (g != 0) = true := bne_iff_ne.2 hg
    clear ht hs hxl ho hy hg hTl
    go_enter Tryz.func47, Tryz.ntmps47
    go_wp2_with (first
      | (go_at_call 71; (with_reducible refine (HT.out _).mono ?_); rintro _ w1 ⟨rfl, hb1⟩; have HB1 := Lib.hid hb1; clear hb1)
      | (go_at_call 72; (refine (HO.out _).mono ?_); rintro _ w2 ⟨rfl, hb2⟩; have HB2 := Lib.hid (HB1.out.trans (hb2.mono HB1.out.size)); clear hb2)
      | (go_at_call 73; (with_reducible refine (HR.out _).mono ?_); rintro _ w3 ⟨rfl, rfl⟩))
    (try simp only [Exit.inBlock, Exit.then]); refine bodyPost_ret (results_tmp4 rfl _ _ _) rfl ?_
    exact ⟨rfl, HB2.out⟩
  subst hg
  rw [if_neg (by simp)]
  obtain ⟨-, hi1, hi2, -⟩ := V.rdAt_ok T 0 hy
  obtain ⟨J, rfl⟩ : ∃ J : Nat, i = (J : Int) := ⟨i.toNat, by omega⟩
  obtain ⟨M, hM⟩ : ∃ M, T.length = M := ⟨_, rfl⟩
  have hTs : (str T).size = M := by rw [str_size, hM]
  rw [hM] at hi2
  have hx2 : (str T).extract J M = str (T.drop J) := by rw [str_extract, List.take_of_length_le (by rw [List.length_drop, hM]; omega)]
  have hJM : (J : Int) ≤ (M : Int) := by omega
  have hJ0 : (0 : Int) ≤ (J : Int) := by omega
  rw [Int.toNat_natCast]
  clear ht hs hxl ho hy hTl hM hi1
  go_enter Tryz.func47, Tryz.ntmps47
  go_wp2_with (first
    | (go_at_call 71; (with_reducible refine (HT.out _).mono ?_); rintro _ w1 ⟨rfl, hb1⟩; have HB1 := Lib.hid hb1; clear hb1)
    | (go_at_call 72; (refine (HO.out _).mono ?_); rintro _ w2 ⟨rfl, hb2⟩; have HB2 := Lib.hid (HB1.out.trans (hb2.mono HB1.out.size)); clear hb2)
    | (go_at_call 73; (with_reducible refine (HR.out _).mono ?_); rintro _ w3 ⟨rfl, rfl⟩))
  go_region
  all_goals go_wp2
  (try simp only [Exit.inBlock, Exit.then]); refine bodyPost_ret (results_tmp4 rfl _ _ _) rfl ?_
  exact ⟨rfl, HB2.out.drew⟩
set_option maxHeartbeats 2000000 in
theorem layRec_any (n : Int) (r : List UInt8) (w : World) (hn : 0 ≤ n ∧ n ≤ 4611686018427387904) (hr : r.length ≤ 1024) :
    Calls Tryz.prog 42 #[.int .i64 n, .string (str r)] w fun e w' => e = .returned (.tuple #[.string (str (recB n r)), .int .i64 0]) ∧ Below w.heap.size w w' := by
  have hb := body_len n hn.1 hn.2 r hr
  have HN := Lib.hid (fun W => V.number_any n W (by omega) (by omega))
  have hl := V.num_len n (by omega) (by omega)
  obtain ⟨T, hT⟩ : ∃ T, V.num n ++ r = T := ⟨_, rfl⟩
  have hTl : T.length ≤ 1100 := by rw [← hT, List.length_append]; omega
  have happ : V.str (V.num n) ++ str r = str T := by rw [show V.str (V.num n) = str (V.num n) from rfl, str_append, hT]
  have hsz : (V.str (V.num n)).size ≤ 10 := by rw [show V.str (V.num n) = str (V.num n) from rfl, str_size]; exact hl
  have hsz2 : (str r).size ≤ 1024 := by rw [str_size]; exact hr
  have HS := Lib.hid (fun W => C.seal_any T W (by omega))
  have HT := Lib.hid (fun W => by
    have h := V.text_any (C.sealed T) W (by rw [hT] at hb; unfold maxLen; omega)
    have e : V.textOf (C.sealed T) = (recB n r, 0) := by
      unfold V.textOf recB
      rw [hT] at hb ⊢
      rw [if_neg (by omega)]
    rw [e] at h
    exact h)
  dsimp only at HT
  clear hn hb hl hT hTl hr
  go_enter Tryz.func42, Tryz.ntmps42
  go_wp2_with (first
    | (go_at_call 66; (with_reducible refine (HN.out _).mono ?_); rintro _ w1 ⟨rfl, hb1⟩; have HB1 := Lib.hid hb1; clear hb1)
    | (go_at_call 65; (refine (HS.out _).mono ?_); rintro _ w2 ⟨rfl, hb2⟩; have HB2 := Lib.hid (HB1.out.trans (hb2.mono HB1.out.size)); clear hb2)
    | (go_at_call 64; (refine (HT.out _).mono ?_); rintro _ w3 ⟨rfl, hb3⟩; have HB3 := Lib.hid (HB2.out.trans (hb3.mono HB2.out.size)); clear hb3))
  go_ret2
  exact ⟨rfl, HB3.out⟩
end Go.Proofs.YtelcemfaijjcbaaGreatDoor.C13

namespace Go.Proofs.YtelcemfaijjcbaaGreatDoor.C13
open Go Go.RowKit Go.Proofs Go.Proofs.YtelcemfaijjcbaaGreatDoor.C12
set_option linter.unusedVariables false

section
variable {w w' : World} {B : Nat} {e : TypeId} {k : Nat} {v : Value} {n : Nat} {xs : List Value}
theorem row_keep (h : w.ownsRow B e k v n xs) (hb : ∀ g, v.ownBlock = some g → w'.heap[g]? = w.heap[g]?) : w'.ownsRow B e k v n xs := by
  refine ⟨h.1, ?_⟩
  rcases h.2 with hn | ⟨g, cap, cur, e1, b, hg, rest⟩
  · exact Or.inl hn
  · exact Or.inr ⟨g, cap, cur, e1, b, (hb g (by rw [e1]; rfl)).trans hg, rest⟩
/-- Under a call that turns blocks of its own alone: the row stays, and is not of those. -/
theorem row_chg {F F' : Nat → Prop} (h : w.ownsRow B e k v n xs) (hc : Chg F F' w w') (hF : ∀ g, v.ownBlock = some g → ¬ F g) : w'.ownsRow B e k v n xs ∧ ∀ g, v.ownBlock = some g → ¬ F' g := by
  refine ⟨row_keep h fun g hg => hc.turn.block g (h.lt g hg).2 (hF g hg), fun g hg hf => ?_⟩
  rcases hc.new g hf with h1 | h1
  · exact hF g hg h1
  · have := (h.lt g hg).2; omega
/-- A row that has grown: of new memory, or where it was. -/
theorem row_off {F : Nat → Prop} {v' : Value} (hF : ∀ i, F i → i < w.heap.size) (h : ∀ g, v.ownBlock = some g → ¬ F g) (hg : ∀ g, v'.ownBlock = some g → v.ownBlock = some g ∨ w.heap.size ≤ g) : ∀ g, v'.ownBlock = some g → ¬ F g := fun g hv hf => by
  rcases hg g hv with h1 | h1
  · exact h g h1 hf
  · have := hF g hf; omega
end
end Go.Proofs.YtelcemfaijjcbaaGreatDoor.C13

namespace Go.Proofs.YtelcemfaijjcbaaGreatDoor.C13
open Go Go.RowKit Go.Lib Go.Proofs Go.Proofs.YtelcemfaijjcbaaGreatDoor.B Go.Proofs.YtelcemfaijjcbaaGreatDoor.K Go.Proofs.YtelcemfaijjcbaaGreatDoor.P8 Go.Proofs.YtelcemfaijjcbaaGreatDoor.C12
set_option linter.unusedVariables false
set_option maxRecDepth 100000

theorem cells_set (w : World) (b j : Nat) (cs : Array Value) (T : TypeId) (u : Value) (h : w.heap[b]? = some (.cells cs T (0, 0))) : (w.setCell ⟨b, j, none⟩ u).heap[b]? = some (.cells (cs.setIfInBounds j u) T (0, 0)) := heap_setCell_same w b j _ _ u h
theorem cells_far (w : World) (b j i : Nat) (u : Value) (h : i ≠ b) : (w.setCell ⟨b, j, none⟩ u).heap[i]? = w.heap[i]? := heap_setCell_other _ ⟨b, j, none⟩ i _ h
theorem tn_set (w : World) (b j : Nat) (u : Value) : Tn (fun i => i = b) w (w.setCell ⟨b, j, none⟩ u) := ⟨rfl, rfl, rfl, size_set _ _ _ _, fun i _ hne => cells_far w b j i u hne⟩
theorem tn_mono {S S' : Nat → Prop} {a b : World} (h : Tn S a b) (hs : ∀ i, S i → S' i) : Tn S' a b := ⟨h.os, h.tape, h.output, h.size, fun i hi hn => h.block i hi fun e => hn (hs i e)⟩
theorem tn_grown {a b : World} {row : Option Nat} (h : a.grownBy b row) : Tn (fun i => row = some i) a b := ⟨h.os, h.tape, h.output, h.size, fun i hi hn => h.block i hi fun e => hn e.symm⟩
/-- A row's block is of its kind. -/
theorem row_off_kind {w : World} {B n k : Nat} {e T : TypeId} {v : Value} {xs : List Value} {b : Nat} {cs : Array Value} (h : w.ownsRow B e k v n xs) (hb : w.heap[b]? = some (.cells cs T (0, 0))) (hT : T ≠ e) : v.ownBlock ≠ some b := fun hv => by
  obtain ⟨c, fz, hg⟩ := ownsRow_kind h b hv
  rw [hb] at hg
  simp only [Option.some.injEq, Obj.cells.injEq] at hg
  exact hT hg.2.1

/-- What a record put behind the others leaves: the cell's row has grown. -/
def Took (w : World) (b j : Nat) (cs : Array Value) (T : TypeId) (rv : Value) (rs : List (List UInt8)) (w' : World) : Prop :=
  ∃ rv', w'.heap[b]? = some (.cells (cs.setIfInBounds j rv') T (0, 0)) ∧ w'.ownsRow 0 9 1 rv' rs.length (rs.map sv) ∧ Tn (fun i => i = b ∨ rv.ownBlock = some i) w w' ∧ ∀ g, rv'.ownBlock = some g → rv.ownBlock = some g ∨ w.heap.size ≤ g
set_option maxHeartbeats 2000000 in
theorem take_any (b j : Nat) (cs : Array Value) (T : TypeId) (rv : Value) (rs : List (List UInt8)) (r : List UInt8) (w : World) (hb : w.heap[b]? = some (.cells cs T (0, 0))) (hT : T ≠ 9) (hj : cs[j]? = some rv)
    (hown : w.ownsRow 0 9 1 rv rs.length (rs.map sv)) (hn : (rs.length + 1) * 16 ≤ 140737488355328) :
    Calls Tryz.prog 27 #[.pointer (some ⟨b, j, none⟩), .string (str r)] w fun e w' => e = .returned (.tuple #[]) ∧ Took w b j cs T rv (rs ++ [r]) w' := by
  obtain ⟨i0, hi, hz0, hz1, hz2⟩ := str_info
  obtain ⟨hc, hf⟩ := row_at hb j rv hj
  have HB := Lib.hid hb
  have HO := Lib.hid hown
  have HJ := Lib.hid hj
  have hlt : b < w.heap.size := (Array.getElem?_eq_some_iff.1 hb).1
  have HL := Lib.hid hlt
  have HK := Lib.hid (row_off_kind hown hb hT)
  obtain ⟨N, hN⟩ : ∃ N, rs.length = N := ⟨_, rfl⟩
  have HN := Lib.hid hN
  rw [hN] at hn hown
  obtain ⟨av, cv, rfl⟩ := shape_own hown
  have HC4 := Lib.hid hn
  have HO2 := Lib.hid hown
  have HC63 := Lib.hid (show N + 1 ≤ maxLen by unfold maxLen; omega)
  have HMX := Lib.hid (show (rs ++ [r]).map sv = rs.map sv ++ [.string (str r)] from by simp [sv])
  clear hb hown hN hn hlt hj
  go_enter Tryz.func27, Tryz.ntmps27
  go_wp2_with (at_builtin; have HO3 := Lib.hid (HO2.out.alloc (.cells #[.string (str r)] 9)); refine wpList_append_own_at _ rfl _ _ 54 rfl 0 9 i0 (.string ⟨#[]⟩) 1 16 Tryz.underlying54 hi hz0 hz1 hz2 rfl (by decide) _ _ _ rfl HO3.out ⟨w.heap.size, 0, none⟩ 1 1 [.string (str r)] rfl rfl (new_one _ _ _) (by intro u hu; simp at hu; subst hu; rfl) HC63.out HC4.out (Nat.zero_le _) ?_; intro v' w5 hown' hgrow hnn hat; obtain ⟨av2, cv2, rfl⟩ := shape_own hown'; have HGR := Lib.hid hgrow; have HOW := Lib.hid hown'; have HAT := Lib.hid hat; have hb5 := ((HGR.out.block b (Nat.lt_of_lt_of_le HL.out (below_alloc _ _).size) (by have := HK.out; exact fun e => this e.symm)).trans ((below_alloc w (.cells #[.string (str r)] 9)).block b HL.out)).trans HB.out; have HB5 := Lib.hid hb5; obtain ⟨c5, f5⟩ := row_at hb5 j _ HJ.out; clear hnn hown' hgrow hat hb5)

  go_end0
  refine ⟨rfl, _, cells_set w5 b j _ _ _ HB5.out, ?_, ?_, fun g hg => ?_⟩
  · have h5 := HOW.out
    rw [HMX.out, List.length_append, HN.out]
    refine row_keep h5 fun g hg => cells_far w5 b j g _ fun e => ?_
    rw [e] at hg
    exact row_off_kind h5 HB5.out hT hg
  · exact ((Tn.of_below (below_alloc w (.cells #[.string (str r)] 9))).trans (tn_mono (tn_grown HGR.out) fun i h => Or.inr h)).trans (tn_mono (tn_set w5 b j _) fun i h => Or.inl h)
  · rcases HAT.out with h | h
    · exact Or.inl (h ▸ hg)
    · rw [h] at hg
      have := (below_alloc w (.cells #[.string (str r)] 9)).size
      obtain rfl := Option.some.inj hg
      exact Or.inr this
theorem Took.same {w : World} {b j : Nat} {cs : Array Value} {T : TypeId} {rv : Value} {rs : List (List UInt8)} (hb : w.heap[b]? = some (.cells cs T (0, 0))) (hj : cs[j]? = some rv) (hown : w.ownsRow 0 9 1 rv rs.length (rs.map sv)) : Took w b j cs T rv rs w := by
  refine ⟨rv, ?_, hown, Tn.refl _ _, fun g hg => Or.inl hg⟩
  rw [hb]
  congr 2
  apply Array.ext_getElem?
  intro i
  rw [Array.getElem?_setIfInBounds]
  split
  · subst_vars
    rw [hj, if_pos (Array.getElem?_eq_some_iff.1 hj).1]
  · rfl
theorem Took.below {w W W' : World} {b j : Nat} {cs : Array Value} {T : TypeId} {rv : Value} {rs : List (List UInt8)} (h : Took w b j cs T rv rs W) (hb : Below W.heap.size W W') : Took w b j cs T rv rs W' := by
  obtain ⟨rv', h1, h2, h3, h4⟩ := h
  exact ⟨rv', (hb.block b (Array.getElem?_eq_some_iff.1 h1).1).trans h1, row_new h2 hb, h3.trans (Tn.of_below hb), h4⟩
theorem Took.trans {w W W' : World} {b j : Nat} {cs : Array Value} {T : TypeId} {rv : Value} {rs rs' : List (List UInt8)} (hw : b < w.heap.size) (h : Took w b j cs T rv rs W)
    (k : ∀ rv', W.heap[b]? = some (.cells (cs.setIfInBounds j rv') T (0, 0)) → Took W b j (cs.setIfInBounds j rv') T rv' rs' W') : Took w b j cs T rv rs' W' := by
  obtain ⟨rv1, h1, h2, h3, h4⟩ := h
  obtain ⟨rv2, k1, k2, k3, k4⟩ := k rv1 h1
  refine ⟨rv2, by rw [k1]; simp, k2, h3.wide k3 fun i hi => ?_, fun g hg => ?_⟩
  · rcases hi with rfl | hi
    · exact Or.inl (Or.inl rfl)
    · rcases h4 i hi with h | h
      · exact Or.inl (Or.inr h)
      · exact Or.inr h
  · rcases k4 g hg with h | h
    · exact h4 g h
    · exact Or.inr (Nat.le_trans h3.size h)
end Go.Proofs.YtelcemfaijjcbaaGreatDoor.C13
