/-
  Layer 12, the program: Crash.
-/
import Derived.Test.YtelcemfaijjcbaaGreatDoorHP12Pq
import Derived.Test.YtelcemfaijjcbaaGreatDoorHP12Rz
namespace Go.Proofs.YtelcemfaijjcbaaGreatDoor.C12
open Go Go.RowKit Go.Proofs Go.Proofs.YtelcemfaijjcbaaGreatDoor.B Go.Proofs.YtelcemfaijjcbaaGreatDoor.K Go.Proofs.YtelcemfaijjcbaaGreatDoor.P8
set_option linter.unusedVariables false
set_option maxRecDepth 100000

theorem box_keep2 {G G' : Nat → Prop} {w w' : World} {g i : Nat} {v : Value} (h : Chg G G' w w') (hg : ¬ G g) (hc : w.cell? ⟨g, i, none⟩ = some v) : w'.cell? ⟨g, i, none⟩ = some v :=
  cell_same (h.turn.block g (World.block_lt_of_cell? w _ hc) hg) hc
theorem rise_names {l l' : List Fl} (h : Rise l) (e : namesOf l' = namesOf l) : Rise l' := by
  have h1 : (namesOf l).Pairwise fun a b => lessL a b = true := List.pairwise_map.2 h
  rw [← e] at h1
  exact List.pairwise_map.1 h1
theorem kept_size (y : Fl) (k : Nat) : szF (kept y k) ≤ szF y := by
  unfold szF kept
  simp only [List.length_append, List.length_take, List.length_nil]
  omega
/-- One file in another's place. -/
theorem Fine.swap {D : Dst} {xs r : List Fl} {y z : Fl} (h : Fine D) (e : D.files = xs ++ y :: r) (hn : z.name = y.name) (hz : szF z ≤ szF y) : Fine { D with files := xs ++ z :: r } := by
  have hu : usedF (xs ++ z :: r) ≤ usedF D.files := by rw [e, used_append, used_append, used_cons, used_cons]; omega
  have hc := h.ok.count
  rw [e] at hc
  refine h.files (rise_names h.rise (by rw [e]; unfold namesOf; simp [hn])) hu (by simpa using hc) fun f hf => ?_
  rcases List.mem_append.1 hf with h1 | h1
  · exact h.ok.each f (by rw [e]; exact List.mem_append_left _ h1)
  · rcases List.mem_cons.1 h1 with rfl | h2
    · have := h.ok.each y (by rw [e]; exact List.mem_append_right _ (List.mem_cons_self ..))
      unfold szF at hz
      exact ⟨by rw [hn]; exact this.1, by omega⟩
    · exact h.ok.each f (by rw [e]; exact List.mem_append_right _ (List.mem_cons_of_mem _ h2))
theorem swap_mem {xs r : List Fl} {y z : Fl} (h : Rise (xs ++ y :: r)) (hn : z.name = y.name) (x : Fl) : x ∈ xs ++ z :: r ↔ (x ∈ xs ++ y :: r ∧ x.name ≠ y.name) ∨ x = z := by
  obtain ⟨h1, h2, h3⟩ := List.pairwise_append.1 h
  obtain ⟨h4, h5⟩ := List.pairwise_cons.1 h2
  simp only [List.mem_append, List.mem_cons]
  constructor
  · rintro (hx | rfl | hx)
    · exact Or.inl ⟨Or.inl hx, less_ne (h3 x hx y (List.mem_cons_self ..))⟩
    · exact Or.inr rfl
    · exact Or.inl ⟨Or.inr (Or.inr hx), (less_ne (h4 x hx)).symm⟩
  · rintro (⟨hx | rfl | hx, hne⟩ | rfl)
    · exact Or.inl hx
    · exact absurd rfl hne
    · exact Or.inr (Or.inr hx)
    · exact Or.inr (Or.inl rfl)

section
variable {w : World} {F : Nat → Prop} {d M n : Nat} {Dm : DataW Nat} {g : List UInt8 → Nat} {bv : List UInt8 → Value} {D : Dst}
/-- A round of a crash, to the end. -/
theorem crash_round {w' : World} {xs r : List Fl} {y z : Fl} {v' : Value} (h : PIn w F d M n Dm g bv D) (e : D.files = xs ++ y :: r) (hn : z.name = y.name) (hz : szF z ≤ szF y) (hat : FAt w' (g y.name) v' z) (hnew : ∀ q, bufB v' = some q → bufB (bv y.name) = some q ∨ (w.heap.size ≤ q ∧ q < w'.heap.size))
    (ht : Tn (fun i => i = g y.name) w w') : ∃ F', PAt w' F' d { D with files := xs ++ z :: r } ∧ Chg F F' w w' := by
  have hf : y ∈ D.files := by rw [e]; exact List.mem_append_right _ (List.mem_cons_self ..)
  have hr := h.fine.rise
  rw [e] at hr
  refine ⟨_, ⟨M, n, Dm, g, _, h.file (D' := { D with files := xs ++ z :: r }) hf hn (fun x => by rw [e]; exact swap_mem hr hn x) ⟨rfl, rfl, rfl⟩ (h.fine.swap e hn hz) ht.size (fun i hi h1 h2 => ht.block i (h.lt i hi) h1) hat hnew⟩, ⟨⟨ht.os, ht.tape, ht.output, ht.size, fun i hi hne => ht.block i hi (fun e => hne (e ▸ (h.own y hf).1))⟩, fun i hi => ?_⟩⟩
  rcases hi with hi | hi
  · exact Or.inl hi
  · rcases hnew i hi with h1 | h1
    · exact Or.inl ((h.own y hf).2 i h1)
    · exact Or.inr h1.1
end
/-- All of a file's bytes are safe. -/
theorem FAt.safe {w : World} {b : Nat} {v : Value} {f : Fl} (h : FAt w b v f) {L : Nat} (hL : (f.safe ++ f.more).length = L) : FAt (w.setCell ⟨b, 1, none⟩ (.int .i64 (L : Int))) b v ⟨f.name, f.safe ++ f.more, []⟩ := by
  have hr := heap_setCell_same w b 1 _ _ (.int .i64 (L : Int)) h.cell
  refine ⟨?_, ?_⟩
  · show _ = some (Obj.cells #[v, .int .i64 ((f.safe ++ f.more).length : Int)] _ (0, 0))
    rw [hL]; exact hr
  · show Buf _ v ((f.safe ++ f.more) ++ [])
    rw [List.append_nil]
    refine h.buf.same fun q hq => heap_setCell_other w ⟨b, 1, none⟩ q _ fun e => ?_
    obtain ⟨cur, hc⟩ := h.buf.type hq
    have := h.cell
    rw [show q = b from e] at hc
    rw [hc] at this
    simp at this
theorem cut_kept (y : Fl) (k : Nat) : (⟨(cutF y (y.safe.length + k)).name, (cutF y (y.safe.length + k)).safe ++ (cutF y (y.safe.length + k)).more, []⟩ : Fl) = kept y k := by
  rw [cutF_all, cutF_name]
  unfold kept
  rw [List.take_append, List.take_of_length_le (l := y.safe) (by omega), show y.safe.length + k - y.safe.length = k by omega]
theorem pcrash_nil (kv : Value) (w : World) : Calls Tryz.prog 15 #[.pointer none, kv] w fun e w' => e = .returned (.int .i64 1) ∧ Below w.heap.size w w' := by
  go_enter Tryz.func15, Tryz.ntmps15
  go_wp2_with fail
  go_ret
  exact ⟨rfl, Below.refl _ _⟩

/-- A cut behind the safe bytes. -/
theorem pcut_kept (b : Nat) (v : Value) (y : Fl) (kk P : Nat) (w : World) (hat : FAt w b v y) (hl : y.safe.length + y.more.length ≤ 65536) (hP : y.safe.length + kk = P) (hk : kk ≤ y.more.length) :
    Calls Tryz.prog 32 #[.pointer (some ⟨b, 0, none⟩), .int .i64 (P : Int)] w fun e w' => ∃ a c, e = .returned (.tuple #[]) ∧ FAt w' b (.slice a P c) (cutF y P) ∧ (∀ q, bufB (.slice a P c) = some q → w.heap.size ≤ q ∧ q < w'.heap.size) ∧ Tn (fun i => i = b) w w' := by
  refine (pcut_any b v y P w hat hl (by rw [List.length_append]; omega)).mono ?_
  rintro e w' ⟨v', he, h1, h2, h3⟩
  obtain ⟨a, c, hv, _, _⟩ := h1.buf.at_
  have hlen : ((cutF y P).safe ++ (cutF y P).more).length = P := by rw [cutF_all, List.length_take, List.length_append]; omega
  rw [hlen] at hv
  subst hv
  exact ⟨a, c, he, h1, h2, h3⟩
section
variable {w : World} {F : Nat → Prop} {d M n : Nat} {Dm : DataW Nat} {g : List UInt8 → Nat} {bv : List UInt8 → Value} {D : Dst}
theorem crash_cut {X w2 : World} {xs r : List Fl} {y : Fl} {kk P : Nat} {a : Option Addr} {c : Nat} (h : PIn X F d M n Dm g bv D) (e : D.files = xs ++ y :: r) (hP : y.safe.length + kk = P) (hk : kk ≤ y.more.length) (h1 : FAt w2 (g y.name) (.slice a P c) (cutF y P)) (h2 : ∀ q, bufB (.slice a P c) = some q → X.heap.size ≤ q ∧ q < w2.heap.size) (h3 : Tn (fun i => i = g y.name) X w2) :
    ∃ F', PAt (w2.setCell ⟨g y.name, 1, none⟩ (.int .i64 (P : Int))) F' d { D with files := xs ++ kept y kk :: r } ∧ Chg F F' X (w2.setCell ⟨g y.name, 1, none⟩ (.int .i64 (P : Int))) := by
  have hlen : ((cutF y P).safe ++ (cutF y P).more).length = P := by rw [cutF_all, List.length_take, List.length_append]; omega
  have fx := h1.safe hlen
  have ek := cut_kept y kk
  rw [hP] at ek
  rw [ek] at fx
  exact crash_round h e rfl (kept_size y kk) fx (fun q hq => Or.inr ⟨(h2 q hq).1, Nat.lt_of_lt_of_le (h2 q hq).2 (size_set _ _ _ _)⟩) ⟨h3.os, h3.tape, h3.output, Nat.le_trans h3.size (size_set _ _ _ _), fun i hi hne => (heap_setCell_other _ ⟨_, 1, none⟩ i _ hne).trans (h3.block i hi hne)⟩
end
/-- Numbers in a slice that none of these blocks holds. -/
def Kp (w : World) (F : Nat → Prop) (v : Value) (l : List Int) : Prop :=
  ∃ a cap, v = .slice a l.length cap ∧ l.length ≤ cap ∧ ∀ (j : Nat) (k : Int), l[j]? = some k → ∃ b off, a = some ⟨b, off, none⟩ ∧ ¬ F b ∧ w.cell? ⟨b, off + j, none⟩ = some (.int .i64 k)
theorem Kp.tail {w : World} {F : Nat → Prop} {kb koff cap : Nat} {k : Int} {r : List Int} (hl : (k :: r).length ≤ cap) (h : ∀ (j : Nat) (u : Int), (k :: r)[j]? = some u → ∃ b off, (some ⟨kb, koff, none⟩ : Option Addr) = some ⟨b, off, none⟩ ∧ ¬ F b ∧ w.cell? ⟨b, off + j, none⟩ = some (.int .i64 u)) :
    Kp w F (.slice (if cap = 1 then some ⟨kb, koff, none⟩ else some ⟨kb, koff + 1, none⟩) r.length (cap - 1)) r := by
  refine ⟨_, _, rfl, by simp at hl; omega, fun j u hj => ?_⟩
  obtain ⟨b, off, e, h1, h2⟩ := h (j + 1) u (by simpa using hj)
  cases e
  have hc : ¬ cap = 1 := fun e => by
    have := (List.getElem?_eq_some_iff.1 hj).1
    simp at hl
    omega
  rw [if_neg hc]
  exact ⟨kb, koff + 1, rfl, h1, by rw [← h2]; congr 2; omega⟩
theorem Kp.below {w w' : World} {F : Nat → Prop} {v : Value} {l : List Int} (h : Kp w F v l) (hb : Below w.heap.size w w') : Kp w' F v l := by
  obtain ⟨a, cap, rfl, h1, h2⟩ := h
  refine ⟨a, cap, rfl, h1, fun j k hj => ?_⟩
  obtain ⟨b, off, rfl, h3, h4⟩ := h2 j k hj
  exact ⟨b, off, rfl, h3, kept_cell hb h4⟩
theorem Kp.chg {w w' : World} {F F' : Nat → Prop} {v : Value} {l : List Int} (h : Kp w F v l) (hb : Chg F F' w w') : Kp w' F v l := by
  obtain ⟨a, cap, rfl, h1, h2⟩ := h
  refine ⟨a, cap, rfl, h1, fun j k hj => ?_⟩
  obtain ⟨b, off, rfl, h3, h4⟩ := h2 j k hj
  exact ⟨b, off, rfl, h3, box_keep2 hb h3 h4⟩

section
variable {w : World} {F : Nat → Prop} {d : Nat} {D : Dst}
set_option maxHeartbeats 16000000 in
theorem pcrash_any (h : PAt w F d D) (keep : List Int) (kv : Value) (hkv : Kp w F kv keep) (hki : ∀ n ∈ keep, -9223372036854775808 ≤ n ∧ n ≤ 9223372036854775807) :
    Calls Tryz.prog 15 #[.pointer (some ⟨d, 0, none⟩), kv] w (PWrote F d (crashD D keep, 0) w) := by
  have HP := Lib.hid h
  obtain ⟨M, n, Dm, g, bv, h⟩ := h
  have HL := Lib.hid (plist_any h)
  obtain ⟨N, hN⟩ : ∃ N, D.files.length = N := ⟨_, rfl⟩
  have hNc : N ≤ 128 := by rw [← hN]; exact h.fine.ok.count
  have HN := Lib.hid hN
  have HKI := Lib.hid hki
  have HLT := Lib.hid h.lt
  have HKV := Lib.hid hkv
  obtain ⟨ka, kcap, rfl, -⟩ := hkv
  have HNL := Lib.hid (show (List.map sv (namesOf D.files)).length = N from by rw [← HN.out]; unfold namesOf; rw [List.length_map, List.length_map])
  clear h hN hki
  go_enter Tryz.func15, Tryz.ntmps15
  go_wp2_with (go_at_call 31; refine HL.out.mono ?_; rintro _ w1 ⟨nv, rfl, hsl, hnb, hb1⟩; obtain ⟨na, ncap, hve, hnc⟩ := hsl; rw [HNL.out] at hve; subst hve; have HNB := Lib.hid hnb; have HB1 := Lib.hid hb1; have HNC := Lib.hid hnc; clear hnb hb1 hnc)
  go_loopw [1, 15] (fun kp i wr => ∃ (K : Nat) (xs : List Fl) (rest : List Int), i = .int .i64 (K : Int) ∧ K ≤ N ∧ Kp w1 F kp rest ∧ Hid (crashGo D.files keep = xs ++ crashGo (D.files.drop K) rest) ∧ Hid (xs.length = K) ∧ Hid (∃ F', PAt wr F' d { D with files := xs ++ D.files.drop K } ∧ Chg F F' w1 wr) ∧ Hid (∀ n ∈ rest, -9223372036854775808 ≤ n ∧ n ≤ 9223372036854775807)) (fun _ i _ => N - (intOf i).toNat)
  case atStart => exact ⟨0, [], keep, rfl, Nat.zero_le _, HKV.out.below HB1.out, Lib.hid rfl, Lib.hid rfl, Lib.hid ⟨F, HP.out.below HB1.out, Chg.of_below (Below.refl _ _)⟩, HKI⟩
  case round =>
    obtain ⟨K, xs, rest, rfl, hK, hkp, HJ, HX, HPP, HRI⟩ := hrel
    by_cases hlt : K < N
    · have hltI : (K : Int) < (N : Int) := by omega
      have hk0 : 0 ≤ (K : Int) := by omega
      have hw1 : IntKind.i64.wrap ((K : Int) + 1) = (K : Int) + 1 := IntWalk.i64_in _ (by omega)
      obtain ⟨y, hy⟩ : ∃ y, D.files[K]? = some y := ⟨_, List.getElem?_eq_getElem (by rw [HN.out]; exact hlt)⟩
      obtain ⟨nb, noff, rfl, hnc⟩ := HNC.out K (sv y.name) (by unfold namesOf; simp [hy])
      have hnF : ¬ F nb := fun e => by have := HLT.out nb e; have := HNB.out ⟨nb, noff, none⟩ _ _ rfl; dsimp only at this; omega
      obtain ⟨F', hp, hcw⟩ := HPP.out
      have c0 : wr.cell? ⟨nb, noff + K, none⟩ = some (.string (str y.name)) := box_keep2 hcw hnF hnc
      have hdr := crash_next keep hy
      rw [hdr] at hp
      obtain ⟨M', n', Dm', g', bv', hI⟩ := hp
      have hyf : y ∈ (xs ++ y :: D.files.drop (K + 1)) := List.mem_append_right _ (List.mem_cons_self ..)
      have cd := (row_at hI.disk 1 _ rfl).1
      have hye := hI.fine.ok.each y hyf
      have hlook : (Instr.lookup 61 (.map (some M')) (.string (str y.name)) false).run Tryz.prog wr = .ok (.pointer (some ⟨g' y.name, 0, none⟩)) wr := by
        obtain ⟨v, hr, hv⟩ := hI.look y.name (by unfold maxLen; omega)
        rcases hv with ⟨h0, _⟩ | ⟨f', _, _, _, rfl⟩
        · rw [rise_find hI.fine.rise hyf] at h0; cases h0
        · exact hr
      have fat := hI.each y hyf
      have f1 := (row_at fat.cell 1 _ rfl).2
      have b0 := (row_at fat.cell 0 _ rfl).1
      have b1 := (row_at fat.cell 1 _ rfl).1
      obtain ⟨av, cap, hbv, _, _⟩ := fat.buf.at_
      obtain ⟨Z, hZ⟩ : ∃ Z, y.safe.length = Z := ⟨_, rfl⟩
      obtain ⟨O, hO⟩ : ∃ O, y.more.length = O := ⟨_, rfl⟩
      obtain ⟨L, hLd⟩ : ∃ L, Z + O = L := ⟨_, rfl⟩
      have hL : (y.safe ++ y.more).length = L := by rw [List.length_append, hZ, hO, hLd]
      rw [hbv, hL] at b0
      rw [hZ] at b1
      have hZO : Z + O ≤ 65536 := by have := hye.2; omega
      have a1 : IntKind.i64.wrap ((L : Int) - (Z : Int)) = (O : Int) := by rw [IntWalk.i64_in _ (by omega)]; omega
      have HI := Lib.hid hI
      have HFT := Lib.hid fat
      have HCW := Lib.hid hcw
      have HKP := Lib.hid hkp
      have hd := HJ.out
      rw [hdr] at hd
      have HZL := Lib.hid (show y.safe.length = Z ∧ y.more.length = O ∧ (y.safe ++ y.more).length = L ∧ Z + O = L from ⟨hZ, hO, hL, hLd⟩)
      have HFTX := Lib.hid (fun W (hb : Below wr.heap.size wr W) => HFT.out.same (hb.block _ (HI.out.lt _ (HI.out.own y (List.mem_append_right _ (List.mem_cons_self ..))).1)) fun q hq => hb.block _ (HI.out.lt _ ((HI.out.own y (List.mem_append_right _ (List.mem_cons_self ..))).2 q hq)))
      have HYE := Lib.hid hye
      by_cases hm : y.more = []
      · have hO0 : ¬ (0 : Int) < (O : Int) := by rw [hm] at hO; simp at hO; omega
        rw [crash_nil hm] at hd
        have HD := Lib.hid hd
        obtain ⟨ka1, kc1, rfl, -⟩ := hkp
        clear hd hy hnc hnF hcw hdr hI hyf hye fat hbv hZ hO hL hLd hZO
        go_wp2_with fail
        go_quiet (fail)
        have HBX := Lib.hid (drewN_below wr nq)
        have f1x : (wr.drewN nq).frozen? ⟨g' y.name, 1, none⟩ = false := f1
        obtain ⟨X, hX⟩ : ∃ X, wr.drewN nq = X := ⟨_, rfl⟩
        rw [hX] at HBX f1x ⊢
        have b0x := kept_cell HBX.out b0
        have b1x := kept_cell HBX.out b1
        clear hX
        go_wp2_with fail
        go_roundw
        case rel =>
          have fx := (HFTX.out X HBX.out).safe HZL.out.2.2.1
          have e : (⟨y.name, y.safe ++ y.more, []⟩ : Fl) = kept y 0 := by unfold kept; rw [hm]; simp
          rw [e] at fx
          obtain ⟨F'', hp2, hc2⟩ := crash_round (w' := X.setCell ⟨g' y.name, 1, none⟩ (.int .i64 (L : Int))) (HI.out.below HBX.out) (z := kept y 0) rfl rfl (kept_size y 0) (v' := bv' y.name) fx (fun q hq => Or.inl hq) ⟨rfl, rfl, rfl, size_set _ _ _ _, fun i hi hne => heap_setCell_other _ ⟨_, 1, none⟩ i _ hne⟩
          exact ⟨K + 1, xs ++ [kept y 0], rest, by go_num, by omega, HKP.out, Lib.hid (by rw [HD.out]; simp), Lib.hid (by rw [List.length_append, HX.out]; rfl), Lib.hid ⟨F'', by rw [List.append_assoc]; exact hp2, HCW.out.trans ((Chg.of_below HBX.out).trans hc2)⟩, HRI⟩
        case measure => simp [intOf]; omega
      · have hO0 : (0 : Int) < (O : Int) := by
          have : 0 < y.more.length := List.length_pos_iff.2 hm
          omega
        cases rest with
        | nil =>
          rw [crash_none hm] at hd
          have HD := Lib.hid hd
          have HCUT := Lib.hid (fun W (hb : Below wr.heap.size wr W) => pcut_kept (g' y.name) (bv' y.name) y 0 Z W (HFTX.out W hb) hye.2 (by rw [hZ]; rfl) (Nat.zero_le _))
          have a2 : IntKind.i64.wrap (Z : Int) = (Z : Int) := IntWalk.i64_in _ (by omega)
          obtain ⟨ka1, kc1, rfl, -⟩ := hkp
          clear hd hy hnc hnF hcw hdr hI hyf hye fat hbv hZ hO hL hLd hZO
          go_wp2_with fail
          go_quiet (fail)
          have HBX := Lib.hid (drewN_below wr nq)
          obtain ⟨X, hX⟩ : ∃ X, wr.drewN nq = X := ⟨_, rfl⟩
          rw [hX] at HBX ⊢
          have b0x := kept_cell HBX.out b0
          have b1x := kept_cell HBX.out b1
          clear hX
          go_wp2_with (go_at_call 32; refine (HCUT.out _ HBX.out).mono ?_; rintro _ w2 ⟨a2', c2', rfl, h1, h2, h3⟩; have H1 := Lib.hid h1; have H2 := Lib.hid h2; have H3 := Lib.hid h3; have z0 := (row_at h1.cell 0 _ rfl).1; have z1 := (row_at h1.cell 1 _ rfl).1; have zf := (row_at h1.cell 1 _ rfl).2; clear h1 h2 h3)
          go_roundw
          case rel =>
            obtain ⟨F'', hp2, hc2⟩ := crash_cut (HI.out.below HBX.out) rfl (kk := 0) (by rw [HZL.out.1]; rfl) (Nat.zero_le _) H1.out H2.out H3.out
            exact ⟨K + 1, xs ++ [kept y 0], [], by go_num, by omega, HKP.out, Lib.hid (by rw [HD.out]; simp), Lib.hid (by rw [List.length_append, HX.out]; rfl), Lib.hid ⟨F'', by rw [List.append_assoc]; exact hp2, HCW.out.trans ((Chg.of_below HBX.out).trans hc2)⟩, HRI⟩
          case measure => simp [intOf]; omega
        | cons k r =>
          obtain ⟨ka1, kc1, rfl, hkl, hkc⟩ := hkp
          obtain ⟨kb, koff, rfl, hkF, hkcell⟩ := hkc 0 k rfl
          have kcell : wr.cell? ⟨kb, koff, none⟩ = some (.int .i64 k) := by have := box_keep2 hcw hkF hkcell; simpa using this
          obtain ⟨kk, hkk⟩ : ∃ kk : Nat, (if 0 < k then (k % ((y.more.length : Int) + 1)).toNat else 0) = kk := ⟨_, rfl⟩
          have hd2 : crashGo D.files keep = xs ++ kept y kk :: crashGo (D.files.drop (K + 1)) r := by
            rw [hd, ← hkk]
            by_cases hk : 0 < k
            · rw [crash_some hm hk, if_pos hk]
            · rw [crash_low hm hk, if_neg hk]
          have hkb : kk ≤ O ∧ Int.tmod (max k 0) ((O : Int) + 1) = (kk : Int) := by
            rw [hO] at hkk
            by_cases hk : 0 < k
            · rw [if_pos hk] at hkk
              have h1 := Int.emod_nonneg k (show ((O : Int) + 1) ≠ 0 by omega)
              have h2 := Int.emod_lt_of_pos k (show (0 : Int) < (O : Int) + 1 by omega)
              rw [show max k 0 = k by omega, Int.tmod_eq_emod_of_nonneg (by omega)]
              omega
            · rw [if_neg hk] at hkk
              rw [show max k 0 = 0 by omega, Int.zero_tmod]
              omega
          obtain ⟨hkO, hkm⟩ := hkb
          obtain ⟨P, hP⟩ : ∃ P, Z + kk = P := ⟨_, rfl⟩
          have HPP2 := Lib.hid (show y.safe.length + kk = P ∧ kk ≤ y.more.length from ⟨by rw [hZ]; exact hP, by rw [hO]; exact hkO⟩)
          have HD := Lib.hid hd2
          have HCUT := Lib.hid (fun W (hb : Below wr.heap.size wr W) => pcut_kept (g' y.name) (bv' y.name) y kk P W (HFTX.out W hb) hye.2 HPP2.out.1 HPP2.out.2)
          have a2 : IntKind.i64.wrap ((O : Int) + 1) = (O : Int) + 1 := IntWalk.i64_in _ (by omega)
          have a3 : IntKind.i64.wrap (kk : Int) = (kk : Int) := IntWalk.i64_in _ (by omega)
          have a4 : IntKind.i64.wrap ((Z : Int) + (kk : Int)) = (P : Int) := by rw [IntWalk.i64_in _ (by omega)]; omega
          have a5 : ¬ ((O : Int) + 1 = 0) := by omega
          have hr0 : (0 : Int) < ((r.length : Int) + 1) := by omega
          have HKR := Lib.hid (fun n hn => HRI.out n (List.mem_cons_of_mem k hn))
          have HKC := Lib.hid hkc
          have HKL := Lib.hid hkl
          clear hd hd2 hy hnc hnF hcw hdr hI hyf hye fat hbv hZ hO hL hLd hZO hkk hkO hP hkcell hkc
          go_wp2_with fail
          go_quiet (fail)
          have HBX := Lib.hid (drewN_below wr nq)
          obtain ⟨X, hX⟩ : ∃ X, wr.drewN nq = X := ⟨_, rfl⟩
          rw [hX] at HBX ⊢
          have b0x := kept_cell HBX.out b0
          have b1x := kept_cell HBX.out b1
          have kcx := kept_cell HBX.out kcell
          clear hX
          go_wp2_with (go_at_call 32; refine (HCUT.out _ HBX.out).mono ?_; rintro _ w2 ⟨a2', c2', rfl, h1, h2, h3⟩; have H1 := Lib.hid h1; have H2 := Lib.hid h2; have H3 := Lib.hid h3; have z0 := (row_at h1.cell 0 _ rfl).1; have z1 := (row_at h1.cell 1 _ rfl).1; have zf := (row_at h1.cell 1 _ rfl).2; clear h1 h2 h3)
          go_roundw
          case rel =>
            obtain ⟨F'', hp2, hc2⟩ := crash_cut (HI.out.below HBX.out) rfl HPP2.out.1 HPP2.out.2 H1.out H2.out H3.out
            exact ⟨K + 1, xs ++ [kept y kk], r, by go_num, by omega, Kp.tail HKL.out HKC.out, Lib.hid (by rw [HD.out]; simp), Lib.hid (by rw [List.length_append, HX.out]; rfl), Lib.hid ⟨F'', by rw [List.append_assoc]; exact hp2, HCW.out.trans ((Chg.of_below HBX.out).trans hc2)⟩, HKR⟩
          case measure => simp [intOf]; omega
    · have hltI : ¬ (K : Int) < (N : Int) := by omega
      obtain ⟨F', hp, hcw⟩ := HPP.out
      have hd := HJ.out
      rw [List.drop_of_length_le (i := K) (by rw [HN.out]; omega)] at hd hp
      rw [List.append_nil] at hp
      have hd2 : crashGo D.files keep = xs := by rw [hd]; unfold crashGo; simp
      obtain ⟨M', n', Dm', g', bv', hI⟩ := hp
      have f2 := (row_at hI.disk 2 _ rfl).2
      have f3 := (row_at hI.disk 3 _ rfl).2
      have c2 := (row_at hI.disk 2 _ rfl).1
      have c3 := (row_at hI.disk 3 _ rfl).1
      have HI := Lib.hid hI
      have HCW := Lib.hid hcw
      have HD := Lib.hid hd2
      obtain ⟨ka1, kc1, rfl, -⟩ := hkp
      clear hI hcw hd hd2
      go_wp2_with fail
      go_ret
      have hrow2 := heap_setCell_same _ d 2 _ _ (.int .i64 0) (heap_setCell_same wr d 3 _ _ (.bool false) HI.out.disk)
      have hf := HI.out.fine
      have hok : Fine ⟨D.room, xs, 0, false⟩ := ⟨⟨hf.ok.room, ⟨Int.le_refl _, by show (0 : Int) ≤ 9223372036854775807; decide⟩, hf.ok.count, hf.ok.each⟩, hf.rise, hf.used⟩
      have hp2 := HI.out.cells (w' := (wr.setCell ⟨d, 3, none⟩ (.bool false)).setCell ⟨d, 2, none⟩ (.int .i64 0)) (D' := ⟨D.room, xs, 0, false⟩) rfl hok (Nat.le_trans (size_set _ _ _ _) (size_set _ _ _ _)) (fun i hi hne => by rw [heap_setCell_other _ ⟨d, 2, none⟩ i _ hne, heap_setCell_other _ ⟨d, 3, none⟩ i _ hne]) hrow2
      refine ⟨rfl, F', ⟨M', n', Dm', g', bv', ?_⟩, (Chg.of_below HB1.out).trans (HCW.out.trans ⟨⟨rfl, rfl, rfl, Nat.le_trans (size_set _ _ _ _) (size_set _ _ _ _), fun i hi hne => ?_⟩, fun i hi => Or.inl hi⟩)⟩
      · unfold crashD
        rw [HD.out]
        exact hp2
      · rw [heap_setCell_other _ ⟨d, 2, none⟩ i _ (fun e => hne (e ▸ HI.out.ownd)), heap_setCell_other _ ⟨d, 3, none⟩ i _ (fun e => hne (e ▸ HI.out.ownd))]
end
end Go.Proofs.YtelcemfaijjcbaaGreatDoor.C12
