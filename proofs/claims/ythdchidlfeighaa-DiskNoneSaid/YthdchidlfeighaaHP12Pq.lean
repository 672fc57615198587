/-
  Layer 12, the program: Rename's own function, and Rename.
-/
import Derived.Test.YthdchidlfeighaaHP12Pp
namespace Go.Proofs.Ythdchidlfeighaa.C12
open Go Go.RowKit Go.Proofs Go.Proofs.Ythdchidlfeighaa.B Go.Proofs.Ythdchidlfeighaa.K Go.Proofs.Ythdchidlfeighaa.P8
set_option linter.unusedVariables false
set_option maxRecDepth 100000

section
variable {w : World} {F : Nat → Prop} {d M n : Nat} {Dm : DataW Nat} {g : List UInt8 → Nat} {bv : List UInt8 → Value} {D : Dst}

/-- A file under its new name. -/
theorem ren_end {w1 w2 w3 : World} {f : Fl} {t : List UInt8} {n1 n' : Nat} {D1 : Dst} {Dm1 : DataW Nat} (h : PIn w F d M n Dm g bv D) (hf : f ∈ D.files) (hm : f.more = []) (ht : t.length ≤ 24) (hD1 : D1 = { D with files := dropF D.files f.name }) (h1 : PIn w1 F d M n1 Dm1 g bv D1) (hfile : w1.heap[g f.name]? = w.heap[g f.name]? ∧ ∀ q, bufB (bv f.name) = some q → w1.heap[q]? = w.heap[q]?)
    (hs1 : w.heap.size ≤ w1.heap.size) (hb : Below w1.heap.size w1 w2) (ho : w3.ownsMap Try.prog 9 fileE M n' (Dm1.put (.string t) (.lit (.int .i64 (g f.name : Int))))) (hg : w2.grownBy w3 (some M)) :
    PIn w3 F d M n' (Dm1.put (.string t) (.lit (.int .i64 (g f.name : Int)))) (fun x => if x = t then g f.name else g x) (fun x => if x = t then bv f.name else bv x) (putF D1 ⟨t, f.safe, []⟩) ∧ Chg F F w1 w3 := by
  have hMl := h1.lt _ h1.ownM
  have fo := h.own f hf
  obtain ⟨k1, k2, k3, k4⟩ := h.gd hf
  have hk : ∀ i, i < w1.heap.size → i ≠ M → w3.heap[i]? = w1.heap[i]? := fun i hi hne => (hg.block i (Nat.lt_of_lt_of_le hi hb.size) (fun e => hne (Option.some.inj e))).trans (hb.block i hi)
  have fat := h.each f hf
  have fat3 : FAt w3 (g f.name) (bv f.name) ⟨t, f.safe, []⟩ := by
    have := fat.same (w' := w3) ((hk _ (h1.lt _ fo.1) k2).trans hfile.1) fun q hq => (hk q (h1.lt _ (fo.2 q hq)) (k3 q hq).2).trans (hfile.2 q hq)
    refine ⟨this.cell, ?_⟩
    have hb := this.buf
    rw [hm] at hb
    exact hb
  refine ⟨PIn.put (f := ⟨t, f.safe, []⟩) (v := bv f.name) h1 (by show t.length ≤ maxLen; unfold maxLen; omega) (fun x => mem_set) ⟨rfl, rfl, rfl⟩ (by rw [hD1]; exact h.fine.rename hf hm ht) (Nat.le_trans hb.size hg.size) (fun i hi hne => hk i (h1.lt i hi) hne) ho fat3 (fun x hx hne => ?_) (fun i hi => hi) fo.1 fo.2 (fun i hi => Nat.lt_of_lt_of_le (h1.lt i hi) (Nat.le_trans hb.size hg.size)), ⟨⟨hg.os.trans hb.os, hg.tape.trans hb.tape, hg.output.trans hb.output, Nat.le_trans hb.size hg.size, fun i hi hne => hk i hi (fun e => hne (e ▸ h1.ownM))⟩, fun i hi => Or.inl hi⟩⟩
  rw [hD1] at hx
  obtain ⟨hx', hxn⟩ := mem_drop.1 hx
  have := h.apart f hf x hx' (Ne.symm hxn)
  exact ⟨Ne.symm this.1, this.2⟩

set_option maxHeartbeats 4000000 in
theorem prename1 (h : PIn w F d M n Dm g bv D) (c0 c1 c2 c3 : Nat) (f : Fl) (t : List UInt8) (hf : f ∈ D.files) (hm : f.more = []) (hs : f.name.length ≤ maxLen) (ht : t.length ≤ 24) (k0 : w.cell? ⟨c0, 0, none⟩ = some (.pointer (some ⟨d, 0, none⟩))) (k1 : w.cell? ⟨c1, 0, none⟩ = some (.string (str f.name)))
    (k2 : w.cell? ⟨c2, 0, none⟩ = some (.pointer (some ⟨g f.name, 0, none⟩))) (k3 : w.cell? ⟨c3, 0, none⟩ = some (.string (str t))) (hc : ¬ F c0 ∧ ¬ F c1 ∧ ¬ F c2 ∧ ¬ F c3) :
    Calls Try.prog 53 #[.pointer (some ⟨c0, 0, none⟩), .pointer (some ⟨c1, 0, none⟩), .pointer (some ⟨c2, 0, none⟩), .pointer (some ⟨c3, 0, none⟩)] w (PDone F d (putF { D with files := dropF D.files f.name } ⟨t, f.safe, []⟩) w) := by
  have H := Lib.hid h
  have HM := Lib.hid (show f ∈ D.files ∧ f.more = [] from ⟨hf, hm⟩)
  have HC := Lib.hid hc
  have cd : w.drew.cell? ⟨d, 1, none⟩ = some (.map (some M)) := (row_at h.disk 1 _ rfl).1
  have k0' : w.drew.cell? ⟨c0, 0, none⟩ = some (.pointer (some ⟨d, 0, none⟩)) := k0
  have k1' : w.drew.cell? ⟨c1, 0, none⟩ = some (.string (str f.name)) := k1
  have k2' : w.drew.cell? ⟨c2, 0, none⟩ = some (.pointer (some ⟨g f.name, 0, none⟩)) := k2
  have k3' : w.drew.cell? ⟨c3, 0, none⟩ = some (.string (str t)) := k3
  have HD := Lib.hid (h.narrow.below (Below.refl _ w).drew)
  have HS := Lib.hid hs
  have HT := Lib.hid ht
  have HK := Lib.hid (show w.drew.cell? ⟨c0, 0, none⟩ = some (.pointer (some ⟨d, 0, none⟩)) ∧ w.drew.cell? ⟨c2, 0, none⟩ = some (.pointer (some ⟨g f.name, 0, none⟩)) ∧ w.drew.cell? ⟨c3, 0, none⟩ = some (.string (str t)) from ⟨k0', k2', k3'⟩)
  have HCC := Lib.hid (fun W => pstrclone_any t W (by have := HT.out; omega))
  obtain ⟨D1, hD1⟩ : ∃ D1 : Dst, { D with files := dropF D.files f.name } = D1 := ⟨_, rfl⟩
  rw [hD1]
  have HD1 := Lib.hid hD1
  clear h hs hf hm hc k0 k1 k2 k3 ht hD1
  go_enter Try.func53, Try.ntmps53
  go_upto_region 0 with fail
  go_still_tail 5, (by kernel_rfl)
  change wpList _ _ _ _ _ w.drew
  go_wp2_with (at_delete; refine wpList_delete_own _ rfl _ _ 64 9 rfl 63 keyed Try.underlying64 _ M _ Dm rfl HD.out.map _ _ rfl (key_str f.name HS.out) ?_; intro w1 hown1 hturn1; have HO := Lib.hid hown1; have HTU := Lib.hid hturn1; clear hown1 hturn1)
  have HP1 := Lib.hid (del_end HD.out f.name HO.out HTU.out)
  rw [HD1.out] at HP1
  have hfar : ∀ c v, ¬ F c → w.drew.cell? ⟨c, 0, none⟩ = some v → w1.drew.cell? ⟨c, 0, none⟩ = some v := fun c v hn hv => box_keep (HP1.out.2.trans (Chg.of_below (Below.refl _ w1).drew)) hn hv
  have HALL := Lib.hid (show ∀ w2 : World, Below w1.drew.heap.size w1.drew w2 → w2.cell? ⟨c0, 0, none⟩ = some (.pointer (some ⟨d, 0, none⟩)) ∧ w2.cell? ⟨c2, 0, none⟩ = some (.pointer (some ⟨g f.name, 0, none⟩)) ∧ w2.cell? ⟨c3, 0, none⟩ = some (.string (str t)) ∧ w2.cell? ⟨d, 1, none⟩ = some (.map (some M)) ∧
      ∃ w3, (Instr.mapUpdate 64 (.map (some M)) (.string (str t)) (.pointer (some ⟨g f.name, 0, none⟩))).run Try.prog w2 = .ok () w3 ∧ PAt w3 F d (putF D1 ⟨t, f.safe, []⟩) ∧ Chg F F w w3 from fun w2 hb => by
    have hI1 := HP1.out.1.below (Below.refl _ w1).drew
    have hcd := (row_at hI1.disk 1 _ rfl).1
    refine ⟨kept_cell hb (hfar _ _ HC.out.1 HK.out.1), kept_cell hb (hfar _ _ HC.out.2.2.1 HK.out.2.1), kept_cell hb (hfar _ _ HC.out.2.2.2 HK.out.2.2), kept_cell hb hcd, ?_⟩
    obtain ⟨w3, hr, ho, hg⟩ := (hI1.below hb).map.update keyed Try.underlying64 (by have := H.out.fine.ok.count; unfold maxLen; omega) (key_str t (by have := HT.out; unfold maxLen; omega)) (show fileE (.pointer (some ⟨g f.name, 0, none⟩)) = some (.lit (.int .i64 (g f.name : Int)), []) from rfl)
    have hgt := HTU.out.grown
    have hsz : w.heap.size ≤ w1.drew.heap.size := hgt.size
    obtain ⟨z1, z2, z3, z4⟩ := H.out.gd HM.out.1
    have fo := H.out.own f HM.out.1
    obtain ⟨hp, hcg⟩ := ren_end (w := w) (w1 := w1.drew) H.out HM.out.1 HM.out.2 HT.out HD1.out.symm hI1 ⟨hgt.block _ (H.out.lt _ fo.1) (fun e => z2 (Option.some.inj e)), fun q hq => hgt.block _ (H.out.lt _ (fo.2 q hq)) (fun e => (z3 q hq).2 (Option.some.inj e))⟩ hsz hb ho hg
    exact ⟨w3, hr, ⟨_, _, _, _, _, hp⟩, (Chg.of_below (Below.refl _ w).drew).trans (HP1.out.2.trans ((Chg.of_below (Below.refl _ w1).drew).trans hcg))⟩)
  obtain ⟨u0, u2, u3, ud, -⟩ := HALL.out w1.drew (Below.refl _ _)
  clear cd k0' k1' k2' k3' hfar
  go_upto_region 1 with fail
  go_region_law (first | (go_simp; go_at_call 41; refine (HCC.out _).mono ?_; rintro _ w2 ⟨rfl, hb2⟩; obtain ⟨r0, r1, r2, r3, w3, hr3, hp3, hc3⟩ := HALL.out w2 hb2; have HP3 := Lib.hid hp3; have HC3 := Lib.hid hc3; clear hp3 hc3 hb2))
  all_goals
    go_end0
    exact ⟨rfl, F, HP3.out, HC3.out⟩

set_option maxHeartbeats 4000000 in
theorem prename_any (h : PAt w F d D) (s t : List UInt8) (hs : s.length ≤ 140737488355328) (ht : t.length ≤ 140737488355328) : Calls Try.prog 27 #[.pointer (some ⟨d, 0, none⟩), .string (str s), .string (str t)] w (PWrote F d (renameD D s t) w) := by
  have HP := Lib.hid h
  obtain ⟨q0, q1, q2⟩ := cells3 w (.pointer (some ⟨d, 0, none⟩)) (.string (str s)) (.string (str t)) 23 9 9
  obtain ⟨M, n, Dm, g, bv, h⟩ := h
  obtain ⟨W3, hW3⟩ : ∃ W3, ((w.alloc (.cells #[.pointer (some ⟨d, 0, none⟩)] 23)).alloc (.cells #[.string (str s)] 9)).alloc (.cells #[.string (str t)] 9) = W3 := ⟨_, rfl⟩
  have HB := Lib.hid (show Below w.heap.size w W3 from by rw [← hW3]; exact below3 _ _ _ _)
  rw [hW3] at q0 q1 q2
  have HU := Lib.hid (pup_any (h.below HB.out))
  have HN := Lib.hid (fun W => pname_any s W hs)
  have HM := Lib.hid (fun W => pname_any t W ht)
  have HK := Lib.hid (show ∀ W, Below W3.heap.size W3 W → W.cell? ⟨w.heap.size, 0, none⟩ = some (.pointer (some ⟨d, 0, none⟩)) ∧ W.cell? ⟨w.heap.size + 1, 0, none⟩ = some (.string (str s)) ∧ W.cell? ⟨w.heap.size + 2, 0, none⟩ = some (.string (str t)) from fun W hb => ⟨kept_cell hb q0, kept_cell hb q1, kept_cell hb q2⟩)
  unfold renameD someD
  cases hd : D.down with
  | true =>
    rw [hd, if_pos rfl] at HU
    rw [if_pos rfl]
    clear hd h HN HM
    go_enter Try.func27, Try.ntmps27
    go_wp2_with (go_at_call 37; (try rw [hW3]); refine HU.out.mono ?_; rintro _ w1 ⟨rfl, rfl⟩)
    go_ret
    exact PWrote.bad HP.out HB.out
  | false =>
    rw [hd, if_neg (by simp)] at HU
    rw [if_neg (by simp)]
    cases hns : nameOk s with
    | false =>
      rw [hns] at HN
      rw [if_pos (Or.inl rfl)]
      clear hd h hns HM
      go_enter Try.func27, Try.ntmps27
      go_wp2_with (first
        | (go_at_call 37; (try rw [hW3]); refine HU.out.mono ?_; rintro _ w1 ⟨rfl, rfl⟩)
        | (go_at_call 38; refine (HN.out _).mono ?_; rintro _ w1 ⟨rfl, hb1⟩; have HB1 := Lib.hid hb1; clear hb1))
      go_ret
      exact PWrote.bad HP.out (HB.out.trans (HB1.out.mono HB.out.size))
    | true =>
      rw [hns] at HN
      cases hnt : nameOk t with
      | false =>
        rw [hnt] at HM
        rw [if_pos (Or.inr rfl)]
        clear hd h hns hnt
        go_enter Try.func27, Try.ntmps27
        go_wp2_with (first
          | (go_at_call 37; (try rw [hW3]); refine HU.out.mono ?_; rintro _ w1 ⟨rfl, rfl⟩)
          | (go_at_call 38; with_reducible refine (HN.out _).mono ?_; rintro _ w1 ⟨rfl, hb1⟩; have HB1 := Lib.hid hb1; obtain ⟨r0, r1, r2⟩ := HK.out _ hb1; clear hb1)
          | (go_at_call 38; with_reducible refine (HM.out _).mono ?_; rintro _ w2 ⟨rfl, hb2⟩; have HB2 := Lib.hid hb2; clear hb2))
        go_ret
        exact PWrote.bad HP.out (HB.out.trans ((HB1.out.trans (HB2.out.mono HB1.out.size)).mono HB.out.size))
      | true =>
        rw [hnt] at HM
        rw [if_neg (by simp)]
        have hs24 : s.length ≤ 24 := by
          unfold nameOk at hns
          simp only [Bool.and_eq_true, decide_eq_true_eq] at hns
          exact hns.2.2
        have ht24 : t.length ≤ 24 := by
          unfold nameOk at hnt
          simp only [Bool.and_eq_true, decide_eq_true_eq] at hnt
          exact hnt.2.2
        have HF := Lib.hid (fun W (hb : Below W3.heap.size W3 W) => pfind_any (h.below (HB.out.trans (hb.mono HB.out.size))) s (by unfold maxLen; omega))
        unfold findR at HF
        rw [hd] at HF
        simp only [Bool.false_eq_true, if_false] at HF ⊢
        cases hf : findF D.files s with
        | none =>
          rw [hf] at HF
          dsimp only at HF
          clear hd h hns hnt hf
          go_enter Try.func27, Try.ntmps27
          go_wp2_with (first
            | (go_at_call 37; (try rw [hW3]); refine HU.out.mono ?_; rintro _ w1 ⟨rfl, rfl⟩)
            | (go_at_call 38; with_reducible refine (HN.out _).mono ?_; rintro _ w1 ⟨rfl, hb1⟩; have HB1 := Lib.hid hb1; obtain ⟨r0, r1, r2⟩ := HK.out _ hb1; clear hb1)
            | (go_at_call 38; with_reducible refine (HM.out _).mono ?_; rintro _ w2 ⟨rfl, hb2⟩; have HB2 := Lib.hid (HB1.out.trans (hb2.mono HB1.out.size)); obtain ⟨r3, r4, r5⟩ := HK.out _ HB2.out; clear hb2)
            | (go_at_call 36; refine (HF.out _ HB2.out).mono ?_; rintro _ w4 ⟨rfl, rfl⟩))
          go_ret
          exact PWrote.bad HP.out (HB.out.trans ((HB2.out.trans ((below_alloc _ _).mono HB2.out.size)).mono HB.out.size))
        | some f =>
          rw [hf] at HF
          dsimp only at HF ⊢
          obtain ⟨hm, hn⟩ := find_facts hf
          have fat := h.each f hm
          rw [hn] at fat
          obtain ⟨av, cap, hbv, _, _⟩ := fat.buf.at_
          have b0 := (row_at fat.cell 0 _ rfl).1
          have b1 := (row_at fat.cell 1 _ rfl).1
          rw [hbv] at b0
          obtain ⟨L, hL⟩ : ∃ L, (f.safe ++ f.more).length = L := ⟨_, rfl⟩
          obtain ⟨Z, hZ⟩ : ∃ Z, f.safe.length = Z := ⟨_, rfl⟩
          rw [hL] at b0
          rw [hZ] at b1
          have hLZ : L = Z + f.more.length := by rw [← hL, ← hZ, List.length_append]
          have HKB := Lib.hid (show ∀ W, Below W3.heap.size W3 W → W.cell? ⟨g s, 0, none⟩ = some (.slice av L cap) ∧ W.cell? ⟨g s, 1, none⟩ = some (.int .i64 (Z : Int)) from fun W hb => ⟨kept_cell (HB.out.trans (hb.mono HB.out.size)) b0, kept_cell (HB.out.trans (hb.mono HB.out.size)) b1⟩)
          by_cases hmore : f.more = []
          · rw [if_neg (by simpa using hmore)]
            have hlt : ¬ (Z : Int) < (L : Int) := by rw [hmore] at hLZ; simp at hLZ; omega
            have HW := Lib.hid (fun (W : World) (c : Nat) (hb : Below W3.heap.size W3 W) (hcl : W3.heap.size ≤ c) (hcc : W.cell? ⟨c, 0, none⟩ = some (.pointer (some ⟨g s, 0, none⟩))) =>
              pwrite_go (h.below (HB.out.trans (hb.mono HB.out.size))) hd 53 #[.pointer (some ⟨w.heap.size, 0, none⟩), .pointer (some ⟨w.heap.size + 1, 0, none⟩), .pointer (some ⟨c, 0, none⟩), .pointer (some ⟨w.heap.size + 2, 0, none⟩)] (enters_of Try.func53 (by kernel_rfl) rfl) (fun E => putF { E with files := dropF E.files s } ⟨t, f.safe, []⟩) (fun hz w1 hp1 hc1 => by
                obtain ⟨r0, r1, r2⟩ := HK.out W hb
                have n0 : ¬ F w.heap.size := fun e => by have := h.lt _ e; omega
                have n1 : ¬ F (w.heap.size + 1) := fun e => by have := h.lt _ e; omega
                have n2 : ¬ F (w.heap.size + 2) := fun e => by have := h.lt _ e; omega
                have n3 : ¬ F c := fun e => by have := h.lt _ e; have := HB.out.size; omega
                have := prename1 hp1 w.heap.size (w.heap.size + 1) c (w.heap.size + 2) f t (by rw [goes_files]; exact hm) hmore (by rw [hn]; unfold maxLen; omega) ht24 (box_keep hc1 n0 r0) (by rw [hn]; exact box_keep hc1 n1 r1) (by rw [hn]; exact box_keep hc1 n3 hcc) (box_keep hc1 n2 r2) ⟨n0, n1, n3, n2⟩
                rw [hn] at this
                exact this))
            clear hd h hns hnt hf hm hn fat hbv hL hZ hLZ hmore b0 b1 hs24 ht24
            go_enter Try.func27, Try.ntmps27
            go_upto_region 9 with (first
              | (go_at_call 37; (try rw [hW3]); refine HU.out.mono ?_; rintro _ w1 ⟨rfl, rfl⟩)
              | (go_at_call 38; with_reducible refine (HN.out _).mono ?_; rintro _ w1 ⟨rfl, hb1⟩; have HB1 := Lib.hid hb1; obtain ⟨r0, r1, r2⟩ := HK.out _ hb1; clear hb1)
              | (go_at_call 38; with_reducible refine (HM.out _).mono ?_; rintro _ w2 ⟨rfl, hb2⟩; have HB2 := Lib.hid (HB1.out.trans (hb2.mono HB1.out.size)); obtain ⟨r3, r4, r5⟩ := HK.out _ HB2.out; clear hb2)
              | (go_at_call 36; refine (HF.out _ HB2.out).mono ?_; rintro _ w4 ⟨rfl, rfl⟩))
            have HB4 := Lib.hid (HB2.out.trans ((below_alloc w2 (.cells #[.pointer (some ⟨g s, 0, none⟩)] 63)).mono HB2.out.size))
            have z0 := alloc_cell w2 [.pointer (some ⟨g s, 0, none⟩)] 63 0 _ rfl
            obtain ⟨z1, z2⟩ := HKB.out _ HB4.out
            obtain ⟨r6, r7, r8⟩ := HK.out _ HB4.out
            go_quiet (fail)
            have HBQ := Lib.hid (HB4.out.trans ((drewN_below (w2.alloc (.cells #[.pointer (some ⟨g s, 0, none⟩)] 63)) nq).mono HB4.out.size))
            obtain ⟨x6, x7, x8⟩ := HK.out _ HBQ.out
            have z0' := kept_cell (drewN_below (w2.alloc (.cells #[.pointer (some ⟨g s, 0, none⟩)] 63)) nq) z0
            go_wp2_with (go_at_call 42; refine (HW.out _ w2.heap.size HBQ.out HB2.out.size z0').mono ?_; rintro _ w5 ⟨rfl, hp⟩; have HD := Lib.hid hp; clear hp)
            go_ret
            exact PWrote.good (HB.out.trans (HBQ.out.mono HB.out.size)) ⟨rfl, HD.out⟩
          · rw [if_pos hmore]
            have hlt : (Z : Int) < (L : Int) := by
              have : 0 < f.more.length := List.length_pos_iff.2 hmore
              omega
            clear hd h hns hnt hf hm hn fat hbv hL hZ hLZ hmore b0 b1 hs24 ht24
            go_enter Try.func27, Try.ntmps27
            go_upto_region 9 with (first
              | (go_at_call 37; (try rw [hW3]); refine HU.out.mono ?_; rintro _ w1 ⟨rfl, rfl⟩)
              | (go_at_call 38; with_reducible refine (HN.out _).mono ?_; rintro _ w1 ⟨rfl, hb1⟩; have HB1 := Lib.hid hb1; obtain ⟨r0, r1, r2⟩ := HK.out _ hb1; clear hb1)
              | (go_at_call 38; with_reducible refine (HM.out _).mono ?_; rintro _ w2 ⟨rfl, hb2⟩; have HB2 := Lib.hid (HB1.out.trans (hb2.mono HB1.out.size)); obtain ⟨r3, r4, r5⟩ := HK.out _ HB2.out; clear hb2)
              | (go_at_call 36; refine (HF.out _ HB2.out).mono ?_; rintro _ w4 ⟨rfl, rfl⟩))
            have HB4 := Lib.hid (HB2.out.trans ((below_alloc w2 (.cells #[.pointer (some ⟨g s, 0, none⟩)] 63)).mono HB2.out.size))
            have z0 := alloc_cell w2 [.pointer (some ⟨g s, 0, none⟩)] 63 0 _ rfl
            obtain ⟨z1, z2⟩ := HKB.out _ HB4.out
            obtain ⟨r6, r7, r8⟩ := HK.out _ HB4.out
            go_quiet (fail)
            have HBQ := Lib.hid (HB4.out.trans ((drewN_below (w2.alloc (.cells #[.pointer (some ⟨g s, 0, none⟩)] 63)) nq).mono HB4.out.size))
            obtain ⟨x6, x7, x8⟩ := HK.out _ HBQ.out
            have z0' := kept_cell (drewN_below (w2.alloc (.cells #[.pointer (some ⟨g s, 0, none⟩)] 63)) nq) z0
            go_wp2_with fail
            go_ret
            exact PWrote.bad HP.out (HB.out.trans (HBQ.out.mono HB.out.size))
end
end Go.Proofs.Ythdchidlfeighaa.C12
