/-
  Layer 9, the program: normalOf, Union, Normal; all that the laws ask of the program.
-/
import Derived.Test.YtbpphghphfbogaaP9Pe
import Derived.Test.YtbpphghphfbogaaP9Pg
import Derived.Test.YtbpphghphfbogaaP9Ph
import Derived.Test.YtbpphghphfbogaaShClone
namespace Go.Proofs.Ytbpphghphfbogaa.P8
open Go Go.RowKit Go.Shelf Go.Proofs Go.Proofs.Ytbpphghphfbogaa.B Go.Proofs.Ytbpphghphfbogaa.K
set_option linter.unusedVariables false
set_option maxRecDepth 100000

set_option maxHeartbeats 1000000 in
theorem sclone_any (l : List UInt8) (w : World) (hl : l.length ≤ 281474976710656) :
    Calls Try.prog 59 #[.string (str l)] w fun e w' => e = .returned (.string (str l)) ∧ Below w.heap.size w w' := by
  have HC := Lib.hid (S.clone_any (str l) w (by rw [str_size]; exact hl))
  go_enter Try.func59, Try.ntmps59
  go_wp2_with (go_at_call 70; refine HC.out.mono ?_; rintro _ w1 ⟨rfl, hb1⟩; have HB1 := Lib.hid hb1; clear hb1)
  go_ret
  exact ⟨rfl, HB1.out⟩

def more (l : List (List UInt8)) : Bool := !l.isEmpty
theorem next9_all (B base : Nat) (l : List (List UInt8)) (v : Value) (w : World) (hN : Nd w B base l v) (hl : l.length ≤ 1000000) (hx : ∀ x ∈ l, x.length ≤ 9223372036854775807) :
    Calls Try.prog 66 #[.pointer (some ⟨B, 0, none⟩)] w fun e w' => e = .returned (.tuple #[.string (str (wide l)), .bool (more l)]) ∧ ∃ v', Nd w' B base (rest l) v' ∧ v'.ownBlock = v.ownBlock ∧ Tn (fun b => b = B ∨ v.ownBlock = some b) w w' := by
  by_cases hne : l = []
  · subst hne
    exact (next9_nil B base v w hN).mono fun e w' h => ⟨h.1, v, by rw [← h.2]; exact hN, rfl, by rw [← h.2]; exact Tn.of_below (Below.refl _ _)⟩
  · have hm : more l = true := by cases l with
      | nil => exact absurd rfl hne
      | cons _ _ => rfl
    rw [hm]
    exact next9_any B base l v w hN hne hl hx

/-- The normal form of a list, if that is a filter. -/
def fewF (l : List (List UInt8)) : List (List UInt8) × Int := if 8 < (leastL l).length then ([], 4) else (leastL l, 0)

theorem row_nil {w : World} {base : Nat} {e : TypeId} {v : Value} (h : w.ownsRow base e 1 v 0 []) : Ts w v [] := by
  obtain ⟨a, cap, rfl⟩ := shape_own h
  exact ⟨a, cap, rfl, fun j u hj => by cases hj⟩
theorem keep_base {w : World} {base g : Nat} {e : TypeId} {k n : Nat} {v : Value} {xs : List Value} (h : w.ownsRow base e k v n xs) (hg : v.ownBlock = some g) : base ≤ g ∧ g < w.heap.size := h.lt g hg

set_option maxHeartbeats 4000000 in
theorem normalOf_any (ls : List (List (List UInt8))) (v : Value) (w : World) (h : Tss w v ls) (hn : ls.length ≤ 1000) (hr : ∀ l ∈ ls, right9 l = true) :
    Calls Try.prog 38 #[v] w fun e w' => ∃ u, e = .returned (.tuple #[u, .int .i64 (fewF ls.flatten).2]) ∧ Ts w' u (fewF ls.flatten).1 ∧ Below w.heap.size w w' := by
  obtain ⟨i0, hinf, hz0, hz1, hz2⟩ := info_parts Try.info9
  have HCC := Lib.hid (concat_any ls v w h hn fun l hl => (right_all (hr l hl)).1)
  have hpat : ∀ x ∈ ls.flatten, patP x = true := fun x hx => by
    obtain ⟨l, hl, hx⟩ := List.mem_flatten.1 hx
    exact (right_all (hr l hl)).2 x hx
  have hlen : (catL ls).length ≤ 8000 := Nat.le_trans (sumLen_le fun l hl => (right_all (hr l hl)).1) (by omega)
  have hf : catL ls = ls.flatten := rfl
  rw [← hf] at hpat ⊢
  obtain ⟨L, hL⟩ : ∃ L, catL ls = L := ⟨_, rfl⟩
  rw [hL] at HCC hpat hlen ⊢
  obtain ⟨N, hN⟩ : ∃ N, L.length = N := ⟨_, rfl⟩
  have HPL := Lib.hid (picks_len (n := L.length) hpat (Nat.le_refl _))
  have HPAT := Lib.hid hpat
  have HSL := Lib.hid (fun s hs ho => sorted_least (n := L.length) (s := s) hpat (Nat.le_refl _) hs ho)
  have HN := Lib.hid hN
  rw [hN] at hlen HPL HSL
  rw [hN] at HCC
  have enext := ent_next
  unfold Ent at enext
  obtain ⟨a, cap, rfl, -⟩ := h.open
  clear hf hL hpat hr h hN
  go_enter Try.func38, Try.ntmps38
  go_wp2_with fail
  refine HCC.out.mono ?_
  rintro _ w1 ⟨u1, rfl, hO1, hb1⟩
  obtain ⟨a1, cap1, rfl⟩ := shape_own hO1
  go_wp2_with fail
  refine (needed_any9 _ w1 a1 N cap1 rfl).mono ?_
  rintro _ w2 ⟨rfl, hB2, hb2⟩
  obtain ⟨B, hB⟩ : ∃ B, w1.heap.size = B := ⟨_, rfl⟩
  have hND : Nd w2 B w.heap.size L (.slice a1 N cap1) := ⟨by rw [← hB]; exact hB2, by rw [HN.out]; exact own_keep hO1 hb2, fun g hg => by rw [← hB]; exact (hO1.lt g hg).2⟩
  have HND := Lib.hid hND
  have HB2 := Lib.hid (hb1.trans (hb2.mono hb1.size))
  have HBw := Lib.hid (show w.heap.size ≤ B by rw [← hB]; exact hb1.size)
  have HBlt := Lib.hid hND.cell_lt
  rw [hB]
  clear hND hb1 hb2 hO1 hB2 hB
  go_wp2_with fail
  refine (next9_all B _ L _ w2 HND.out (by rw [HN.out]; omega) (fun x hx => by have := (pat_all (HPAT.out x hx)).1; omega)).mono ?_
  rintro _ w3 ⟨rfl, v3, hN3, ho3, ht3⟩
  obtain ⟨n2, hn2⟩ : ∃ n, w2.heap.size = n := ⟨_, rfl⟩
  have HN2 := Lib.hid hn2
  have HO := Lib.hid ho3
  have HS := Lib.hid (show ∀ (vv : Value) (l : List (List UInt8)) (W : World), Nd W B w.heap.size l vv → ∀ b, (b = B ∨ vv.ownBlock = some b) → w.heap.size ≤ b ∧ b < n2 from fun vv l W hd b hb => by
    rcases hb with rfl | hb
    · exact ⟨HBw.out, by rw [← hn2]; exact HBlt.out⟩
    · have h1 := hd.apart b hb
      have h2 := (keep_base hd.row hb).1
      have := HBlt.out
      omega)
  have HN3 := Lib.hid hN3
  have HB3 := Lib.hid (Tn.onto HB2.out (Nat.le_refl _) (fun i hi => (HS.out _ _ _ HND.out i hi).1) ht3)
  have HZ3 := Lib.hid (show n2 ≤ w3.heap.size by rw [← hn2]; exact ht3.size)
  have HX := Lib.hid (show ∀ x ∈ L, x.length ≤ 32 from fun x hx => (pat_all (HPAT.out x hx)).1)
  clear hN3 ho3 ht3 hn2
  go_wp2_with fail
  go_loopg [5, 6, 7] N (fun gg kv p m wr => ∃ (ks Rp : List (List UInt8)) (v' : Value), p = .string (str (wide Rp)) ∧ m = .bool (more Rp) ∧ Rp.length ≤ gg ∧ Hid (∃ f, Rp.length ≤ f ∧ ks ++ picks f Rp = picks N L) ∧ Hid ((∀ x ∈ Rp, x ∈ L) ∧ Rp.length ≤ N) ∧ Hid (Nd wr B w.heap.size (rest Rp) v') ∧ Hid (wr.ownsRow n2 9 1 kv ks.length (ks.map sv) ∧ Below w.heap.size w wr ∧ n2 ≤ wr.heap.size ∧ ks.length ≤ 8))
  case atStart => exact ⟨[], L, v3, rfl, rfl, by rw [HN.out]; exact Nat.le_refl _, ⟨N, by rw [HN.out]; exact Nat.le_refl _, rfl⟩, ⟨fun x hx => hx, by rw [HN.out]; exact Nat.le_refl _⟩, HN3.out, ⟨World.ownsRow_nil _ _ _ _, HB3.out, HZ3.out, Nat.zero_le _⟩⟩
  case round =>
    obtain ⟨ks, Rp, v', rfl, rfl, hRg, HF, HI, HD, HJ⟩ := hrel
    obtain ⟨K, hK⟩ : ∃ K, ks.length = K := ⟨_, rfl⟩
    have HKL := Lib.hid hK
    rw [hK] at HJ
    obtain ⟨ak, ck, hkv⟩ := shape_own HJ.out.1
    subst hkv
    clear hK
    by_cases hne : Rp = []
    · subst hne
      have HP := Lib.hid (show ks = picks N L by
        obtain ⟨f, _, h⟩ := HF.out
        rw [picks_nil, List.append_nil] at h
        exact h)
      have hmf : more [] = false := rfl
      have HLE := Lib.hid (show (leastL L).length ≤ 8 by rw [← HPL.out, ← HP.out, HKL.out]; exact HJ.out.2.2.2)
      have HFW := Lib.hid (show fewF L = (leastL L, 0) by unfold fewF; rw [if_neg (by have := HLE.out; omega)])
      rcases rw_of (xs := ks) (by rw [HKL.out]; exact HJ.out.1) with ⟨hnil, hks⟩ | ⟨g, cap, hsl, hbg, hcm, hR⟩
      · have HSN := Lib.hid (sort_nil wr)
        have HE := Lib.hid (show leastL L = [] by
          have := HSL.out [] (by rw [← HP.out, hks]) List.Pairwise.nil
          exact this.symm)
        cases hnil
        clear hks
        go_wp2_with (go_at_call 60; refine HSN.out.mono ?_; rintro _ w5 ⟨rfl, rfl⟩)
        go_ret2
        exact ⟨_, by rw [HFW.out]; rfl, by rw [HFW.out, HE.out]; exact Sl.nil _, HJ.out.2.1⟩
      · have HSO := Lib.hid (sort_any ks g cap wr hR (by rw [HKL.out]; exact HJ.out.2.2.2))
        rw [HKL.out] at HSO hsl
        cases hsl
        have HBG := Lib.hid hbg
        have HCM := Lib.hid hcm
        clear hR hbg hcm
        go_wp2_with (go_at_call 60; refine HSO.out.mono ?_; rintro _ w5 ⟨rfl, ys, hys⟩; have HYS := Lib.hid hys; clear hys)
        go_ret2
        have hE : ys = leastL L := HSL.out ys (by rw [← HP.out]; exact HYS.out.2.1) HYS.out.2.2.1
        have hl : ys.length = K := by rw [HYS.out.2.1.length_eq, HKL.out]
        refine ⟨_, by rw [HFW.out]; rfl, ?_, Tn.onto HJ.out.2.1 (Nat.le_refl _) (fun i hi => ?_) (Tn.of_tg (S := fun b => b = g) HYS.out.2.2.2 rfl)⟩
        · rw [HFW.out, ← hE]
          have h := (HYS.out.1.owns HBG.out HCM.out)
          rw [hl] at h
          exact ts_own h
        · subst hi
          have := HBG.out
          have := HN2.out
          have := HB2.out.size
          omega
    · have hmt : more Rp = true := by cases Rp with
        | nil => exact absurd rfl hne
        | cons _ _ => rfl
      obtain ⟨p, hp⟩ : ∃ p, wide Rp = p := ⟨_, rfl⟩
      have HPM := Lib.hid (show p ∈ L by rw [← hp]; exact HI.out.1 _ (wide_mem hne))
      have HF2 := Lib.hid (show ∃ f, (rest Rp).length ≤ f ∧ (ks ++ [p]) ++ picks f (rest Rp) = picks N L by
        obtain ⟨f, h1, h2⟩ := HF.out
        have hpos : 0 < Rp.length := List.length_pos_iff.2 hne
        have hlt := rest_lt hne (fun x hx => HPAT.out x (HI.out.1 x hx))
        obtain ⟨f', rfl⟩ : ∃ f', f = f' + 1 := ⟨f - 1, by omega⟩
        refine ⟨f', by omega, ?_⟩
        rw [picks_cons hne, hp] at h2
        rw [← h2]; simp)
      have HRL := Lib.hid (rest_lt hne (fun x hx => HPAT.out x (HI.out.1 x hx)))
      rw [hmt, hp]
      by_cases h8 : K = 8
      · subst h8
        have HFW := Lib.hid (show fewF L = ([], 4) by
          unfold fewF
          rw [if_pos]
          obtain ⟨f, _, h⟩ := HF2.out
          have := congrArg List.length h
          rw [List.length_append, List.length_append, HKL.out, HPL.out] at this
          simp at this
          omega)
        go_wp2_with fail
        go_ret2
        exact ⟨_, by rw [HFW.out]; rfl, by rw [HFW.out]; exact Sl.nil _, HJ.out.2.1⟩
      · have h8b : ((K : Int) == 8) = false := beq_eq_false_iff_ne.2 (by omega)
        have HK8 := Lib.hid (show K < 8 by have := HJ.out.2.2.2; omega)
        have HCL := Lib.hid (sclone_any p wr (by have := HX.out p HPM.out; omega))
        have HNX := Lib.hid (fun (W : World) (hW : Nd W B w.heap.size (rest Rp) v') => next9_all B _ (rest Rp) v' W hW (by have := HRL.out; have := HI.out.2; omega) (fun x hx => by have := HX.out x (HI.out.1 x (List.mem_filter.1 hx).1); omega))
        clear hp h8
        go_wp2_with (first
          | (go_at_call 59; refine HCL.out.mono ?_; rintro _ w5 ⟨rfl, hb5⟩; have HB5 := Lib.hid hb5; have HO5 := Lib.hid (own_keep HJ.out.1 hb5); have HZ5 := Lib.hid (Nat.le_trans HJ.out.2.2.1 hb5.size); clear hb5)
          | (at_builtin; refine wpList_append_own _ rfl _ _ 22 rfl n2 9 i0 (.string ⟨#[]⟩) 1 16 Try.underlying22 hinf hz0 hz1 hz2 rfl (by decide) _ _ _ rfl (HO5.out.alloc _) ⟨w5.heap.size, 0, none⟩ 1 1 [.string (str p)] rfl rfl (one_new _ _ _) (one_cell_str _) (by have := HK8.out; unfold maxLen; omega) (by have := HK8.out; omega) (by have := HZ5.out; simp; omega) ?_; intro v8 w8 hown' hgrow hnn; clear hnn; have HB8 := Lib.hid ((((Below.refl n2 wr).trans (HB5.out.mono HJ.out.2.2.1)).alloc HZ5.out _).grown hgrow (by have := HZ5.out; simp; omega) (owns_block HO5.out)); obtain ⟨aw8, kw8, rfl⟩ := shape_own hown'; have HO8 := Lib.hid hown'; have HD8 := Lib.hid (HD.out.keep (by rw [← HN2.out]; exact HBlt.out) HB8.out HJ.out.2.2.1); clear hown' hgrow))
        refine (HNX.out _ HD8.out).mono ?_
        rintro _ w9 ⟨rfl, v9, hN9, ho9, ht9⟩
        have HN9 := Lib.hid hN9
        have HT9 := Lib.hid ht9
        have HO9 := Lib.hid (ht9.owns HO8.out fun i hi => (HS.out _ _ _ HD8.out i hi).2)
        have HB9 := Lib.hid (Tn.onto (HJ.out.2.1.trans (HB8.out.mono (by have := HBw.out; have := HN2.out; have := HBlt.out; omega))) (Nat.le_refl _) (fun i hi => (HS.out _ _ _ HD8.out i hi).1) ht9)
        have HZ9 := Lib.hid (show n2 ≤ w9.heap.size from Nat.le_trans HJ.out.2.2.1 (Nat.le_trans HB8.out.size ht9.size))
        clear hN9 ho9 ht9
        go_wp2_with fail
        go_roundg ((rest Rp).length)
        case measure => have := HRL.out; omega
        case rel => exact ⟨ks ++ [p], rest Rp, v9, rfl, rfl, Nat.le_refl _, HF2, Lib.hid ⟨fun x hx => HI.out.1 x (List.mem_filter.1 hx).1, by have := HRL.out; have := HI.out.2; omega⟩, HN9, Lib.hid ⟨by rw [List.length_append, HKL.out, List.map_append]; exact HO9.out, HB9.out, HZ9.out, by rw [List.length_append, HKL.out]; exact HK8.out⟩⟩

set_option maxHeartbeats 1000000 in
theorem union_any (ls : List (List (List UInt8))) (v : Value) (w : World) (h : Tss w v ls) (hn : ls.length ≤ 1000) (hl : ∀ l ∈ ls, ∀ x ∈ l, x.length ≤ 9223372036854775807) :
    Calls Try.prog 22 #[v] w fun e w' => ∃ u, e = .returned (.tuple #[u, .int .i64 (unionF ls).2]) ∧ Ts w' u (unionF ls).1 ∧ Below w.heap.size w w' := by
  have HF := Lib.hid (firstError_any ls v w h hn hl)
  obtain ⟨e9, he⟩ : ∃ e, errF ls = e := ⟨_, rfl⟩
  rw [he] at HF
  obtain ⟨a, cap, rfl, -⟩ := id h.open
  by_cases h0 : e9 = 0
  · subst h0
    have hr := errF_zero.1 he
    have hu : unionF ls = fewF ls.flatten := by
      unfold unionF fewF
      rw [List.find?_eq_none.2 (fun l hl => by rw [hr l hl]; simp)]
    have HNO := Lib.hid (fun (W : World) (hb : Below w.heap.size w W) => normalOf_any ls _ W (h.below hb) hn hr)
    rw [hu]
    obtain ⟨⟨R, E⟩, hRE⟩ : ∃ p, fewF ls.flatten = p := ⟨_, rfl⟩
    rw [hRE] at HNO ⊢
    clear hu hRE hr h hl he
    go_enter Try.func22, Try.ntmps22
    go_wp2_with (first
      | (go_at_call 25; refine HF.out.mono ?_; rintro _ w1 ⟨rfl, hb1⟩; have HB1 := Lib.hid hb1; clear hb1)
      | (go_at_call 38; refine (HNO.out _ HB1.out).mono ?_; rintro _ w2 ⟨u, rfl, hu, hb2⟩; have HU := Lib.hid hu; have HB2 := Lib.hid hb2; clear hu hb2))
    go_ret2
    exact ⟨_, rfl, HU.out, HB1.out.trans (HB2.out.mono HB1.out.size)⟩
  · have hu : unionF ls = ([], e9) := by
      unfold unionF
      unfold errF at he
      cases hf : ls.find? fun l => !right9 l with
      | none => rw [hf] at he; exact absurd he.symm h0
      | some l => rw [hf] at he; simp only at he ⊢; rw [he]
    rw [hu]
    have he1 : (e9 != 0) = true := by simp [bne, h0]
    have he2 : (e9 == 0) = false := beq_eq_false_iff_ne.2 h0
    clear hu h hl he
    go_enter Try.func22, Try.ntmps22
    go_wp2_with (go_at_call 25; refine HF.out.mono ?_; rintro _ w1 ⟨rfl, hb1⟩; have HB1 := Lib.hid hb1; clear hb1)
    go_ret2
    exact ⟨_, rfl, Sl.nil _, HB1.out⟩

set_option maxHeartbeats 1000000 in
theorem normal_any (l : List (List UInt8)) (v : Value) (w : World) (h : Ts w v l) (hB : Bd l) :
    Calls Try.prog 11 #[v] w fun e w' => ∃ u, e = .returned u ∧ Ts w' u (normF l) ∧ Below w.heap.size w w' := by
  obtain ⟨a, cap, rfl, -⟩ := id h.open
  obtain ⟨N, hN⟩ : ∃ N, l.length = N := ⟨_, rfl⟩
  rw [hN] at h ⊢
  have HU := Lib.hid (union_any [l] _ _ (tss1 h) (by simp) (fun m hm x hx => by simp at hm; subst hm; exact hB.big x hx))
  have HB0 := Lib.hid (below_new w (.cells #[.slice a N cap] 22))
  have hR : (unionF [l]).1 = normF l := by
    unfold unionF normF
    by_cases hr : right9 l = true
    · rw [List.find?_cons_of_neg (by rw [hr]; simp), List.find?_nil, if_pos hr]
      have hle := least_len l
      have h8 := (right_all hr).1
      simp only [List.flatten_cons, List.flatten_nil, List.append_nil]
      rw [if_neg (by omega)]
    · rw [List.find?_cons_of_pos (by simp [hr]), if_neg hr]
  obtain ⟨⟨R, E⟩, hRE⟩ : ∃ p, unionF [l] = p := ⟨_, rfl⟩
  rw [hRE] at HU hR
  rw [← hR]
  clear hR hRE h hB hN
  go_enter Try.func11, Try.ntmps11
  go_wp2_with (go_at_call 22; refine HU.out.mono ?_; rintro _ w1 ⟨u, rfl, hu, hb1⟩; have HU1 := Lib.hid hu; have HB1 := Lib.hid hb1; clear hu hb1)
  go_ret
  exact ⟨_, rfl, HU1.out, HB0.out.trans (HB1.out.mono HB0.out.size)⟩

theorem filt : Filt where
  check l v w h hB := check9_any l v w h hB.big
  normal l v w h hB := normal_any l v w h hB
  has l s v w h hB hs := has_any l s v w h hB (by omega)
  covers l m v u w h h' hB hB' := covers9_any l m v u w h h' hB hB'
  meet l m v u w h h' hB hB' := meet9_any l m v u w h h' hB hB'
  union ls v w h hn hl := union_any ls v w h hn fun l hm x hx => (hl l hm).2.big x hx
end Go.Proofs.Ytbpphghphfbogaa.P8
