/-
  Layer 6: the lines ahead of the rules, shown.
-/
import Derived.Test.YtfooiggedgcjcaaGreatDoorTSb
namespace Go.Proofs.YtfooiggedgcjcaaGreatDoor.T
open Go Go.RowKit Go.Proofs.YtfooiggedgcjcaaGreatDoor.B Go.Proofs.YtfooiggedgcjcaaGreatDoor.K Go.Proofs.YtfooiggedgcjcaaGreatDoor.E Go.Proofs.YtfooiggedgcjcaaGreatDoor.R
set_option linter.unusedVariables false

/-- Words that are put together: the row, the table's box. -/
structure TbJ (w : World) (s x n r : Value) (rows : List Bs) (v : Value) (wr : World) : Prop where
  own : wr.ownsRow (w.heap.size + 1) 9 1 v rows.length (rows.map sv)
  bel : Below w.heap.size w wr
  bx : wr.heap[w.heap.size]? = some (.cells #[s, x, n, r] 26 (0, 0))

section
variable {w : World} {s x n r : Value} {rows : List Bs} {v : Value} {wr w2 : World}
theorem TbJ.size (h : TbJ w s x n r rows v wr) : w.heap.size < wr.heap.size := (Array.getElem?_eq_some_iff.1 h.bx).1
theorem TbJ.push (h : TbJ w s x n r rows v wr) (y : Bs) {v' : Value} (a : App w.heap.size wr w2 v v' 9 1 (rows.length + 1) (rows.map sv ++ [sv y])) : TbJ w s x n r (rows ++ [y]) v' w2 := by
  have hlt : ∀ k, v.ownBlock = some k → w.heap.size + 1 ≤ k := fun k hk => (own_block_lt h.own hk).1
  refine ⟨?_, h.bel.trans (a.chg.below (fun k hk => by have := hlt k hk; omega) h.bel.size), a.chg.heap h.bx (fun e => by have := hlt _ e; omega)⟩
  rw [List.length_append, List.map_append]
  exact a.own
theorem TbJ.grow (h : TbJ w s x n r rows v wr) (hb : Below wr.heap.size wr w2) : TbJ w s x n r rows v w2 :=
  ⟨own_kept h.own hb, h.bel.trans (hb.mono h.bel.size), (Chg.of (S := fun _ => False) hb).heap h.bx (fun h => h)⟩
end

def tableLines (t : Tb) : List Bs := [wStates ++ (32 :: Lib.join t.states [32]), Lib.join (wVars :: starts t) [32]]

set_option maxHeartbeats 4000000 in
set_option maxRecDepth 100000 in
theorem ofTable_any (w : World) (s x n r : Value) (t : Tb) (hg : I.Glob w) (hs : SlB w s t.states) (hx : SlB w x t.vars) (hn : SlN w n t.start) (hlen : t.start.length = t.vars.length) (hsv : ∀ y ∈ t.start, isVal y = true) (hvl : t.vars.length ≤ 1000000) (hvn : ∀ y ∈ t.vars, y.length ≤ 1000000) (hsl : t.states.length ≤ 1000000)
    (hcs : ∀ a l c, s = .slice a l c → l ≤ c) (hj1 : (Lib.join t.states [32]).length ≤ 140737488355328) (hj2 : (Lib.join (wVars :: starts t) [32]).length ≤ 140737488355328) :
    Calls Tryz.prog 21 #[.agg #[s, x, n, r]] w fun z w' => ∃ v, z = .returned v ∧ w'.ownsRow w.heap.size 9 1 v 2 ((tableLines t).map sv) ∧ Below w.heap.size w w' := by
  have HG := Lib.hid hg
  have HJ1 := Lib.hid hj1
  have HJ2 := Lib.hid hj2
  have HL := Lib.hid (And.intro hlen (And.intro hsv (And.intro hvl (And.intro hsl hvn))))
  obtain ⟨aS, ks, hse, hsc⟩ := hs
  obtain ⟨aV, kv, hve, hvc⟩ := hx
  obtain ⟨aN, kn, hne, hnc⟩ := hn
  rw [List.length_map] at hse hve hne
  subst hse
  subst hve
  subst hne
  have HCS := Lib.hid (hcs _ _ _ rfl)
  have HSC := Lib.hid (show SlB w (.slice aS t.states.length ks) t.states from ⟨aS, ks, by rw [List.length_map], hsc⟩)
  have HVC := Lib.hid hvc
  have HNC := Lib.hid hnc
  rw [hlen]
  obtain ⟨ns, hns⟩ : ∃ k, t.states.length = k := ⟨_, rfl⟩
  obtain ⟨nv, hnv⟩ : ∃ k, t.vars.length = k := ⟨_, rfl⟩
  rw [hns, hnv]
  have HN := Lib.hid (And.intro hns hnv)
  obtain ⟨i0, hi, hz0, hz1, hz2⟩ := info_string
  obtain ⟨W1, hW1⟩ : ∃ W, w.alloc (.cells #[.slice aS ns ks, .slice aV nv kv, .slice aN nv kn, r] 26) = W := ⟨_, rfl⟩
  have hb1 : Below w.heap.size w W1 := by rw [← hW1]; exact grown_al w _
  have hx1 : W1.heap[w.heap.size]? = some (.cells #[.slice aS ns ks, .slice aV nv kv, .slice aN nv kn, r] 26 (0, 0)) := by rw [← hW1]; exact heap_alloc_at w _
  have hz : W1.heap.size = w.heap.size + 1 := by rw [← hW1]; simp
  have HJ := Lib.hid (show TbJ w (.slice aS ns ks) (.slice aV nv kv) (.slice aN nv kn) r [wVars] (.slice (some ⟨W1.heap.size, 0, none⟩) 1 1) (W1.alloc (.cells #[sv wVars] 9)) from
    (⟨row_built W1 _ 1 [sv wVars] _ (by omega) rfl (by decide), hb1.trans ((grown_al W1 _).mono hb1.size), (Chg.alloc (S := fun _ => False) _ _).heap hx1 (fun h => h)⟩))
  clear hg hlen hsv hvl hvn hsl hcs hj1 hj2 hsc hvc hnc hns hnv hb1 hx1 hz
  have cx : (W1.alloc (.cells #[.string ⟨#[118, 97, 114, 115]⟩] 9)).cell? ⟨w.heap.size, 1, none⟩ = some (.slice aV nv kv) := by
    rw [cell_of_row _ _ _ _ _ _ (show (W1.alloc (.cells #[.string ⟨#[118, 97, 114, 115]⟩] 9)).heap[w.heap.size]? = _ from HJ.out.bx)]; rfl
  go_enter Tryz.func21, Tryz.ntmps21
  go_wp2_with fail
  go_loopg [10, 3] (nv) (fun gg i v wr => ∃ k : Nat, i = .int .i64 (k : Int) ∧ k + gg = nv ∧ Hid (TbJ w (.slice aS ns ks) (.slice aV nv kv) (.slice aN nv kn) r (wVars :: (starts t).take k) v wr))
  case atStart => exact ⟨0, rfl, by omega, Lib.hid HJ.out⟩
  case round =>
    obtain ⟨k, rfl, hkg, HJ6⟩ := hrel
    obtain ⟨a7, k7, hv7⟩ := own_shape5 HJ6.out.own
    subst hv7
    clear cx
    have hnv : nv ≤ 1000000 := by have := HL.out.2.2.1; have := HN.out; omega
    have hwk : IntKind.i64.wrap ((k : Int) + 1) = (k : Int) + 1 := IntWalk.i64_in _ (by omega)
    by_cases hlt : k < nv
    · have hltI : (k : Int) < (nv : Int) := by omega
      have hk0 : 0 ≤ (k : Int) := by omega
      obtain ⟨y, hy⟩ : ∃ y, t.vars[k]? = some y := ⟨_, List.getElem?_eq_getElem (by rw [HN.out.2]; exact hlt)⟩
      obtain ⟨m, hm⟩ : ∃ m, t.start[k]? = some m := ⟨_, List.getElem?_eq_getElem (by rw [HL.out.1, HN.out.2]; exact hlt)⟩
      obtain ⟨b, off, haV, hcell⟩ := HVC.out k (sv y) (by rw [List.getElem?_map, hy]; rfl)
      obtain ⟨b2, off2, haN, hcell2⟩ := HNC.out k (.int .i64 m) (by rw [List.getElem?_map, hm]; rfl)
      subst haV
      subst haN
      have hc1 : wr.cell? ⟨b, off + k, none⟩ = some (.string (str y)) := kept_cell HJ6.out.bel hcell
      have hc2 := kept_cell HJ6.out.bel hcell2
      have hcn : wr.cell? ⟨w.heap.size, 2, none⟩ = some (.slice (some ⟨b2, off2, none⟩) nv kn) := by rw [cell_of_row _ _ _ _ _ _ HJ6.out.bx]; rfl
      have hval := HL.out.2.1 m (List.mem_of_getElem? hm)
      have hval' : -1099511627776 ≤ m ∧ m ≤ 1099511627776 := of_decide_eq_true hval
      have HI := Lib.hid (I.itoa_any m (by omega) (by omega) wr (HG.out.below HJ6.out.bel))
      have hst : (starts t)[k]? = some (y ++ 61 :: num m) := by
        unfold starts
        rw [List.getElem?_map]
        have : (t.vars.zip t.start)[k]? = some (y, m) := by rw [List.getElem?_zip_eq_some]; exact ⟨hy, hm⟩
        rw [this]; rfl
      have hyl := HL.out.2.2.2.2 y (List.mem_of_getElem? hy)
      have hnl : (num m).length ≤ 20 := by
        unfold num
        have := I.dig_length m.natAbs (by omega)
        split
        · simp only [List.length_cons]; omega
        · omega
      rw [itoa_num] at HI
      obtain ⟨A, hA⟩ : ∃ A, num m = A := ⟨_, rfl⟩
      rw [hA] at HI hst hnl
      have h1 : (str y).size + (str [61]).size ≤ 281474976710656 := by rw [str_size, str_size]; simp only [List.length_cons, List.length_nil]; omega
      have e1 : str y ++ str [61] = str (y ++ [61]) := str_append _ _
      have h2 : (str (y ++ [61])).size + (str A).size ≤ 281474976710656 := by rw [str_size, str_size]; simp only [List.length_append, List.length_cons, List.length_nil]; omega
      have e2 : str (y ++ [61]) ++ str A = str (y ++ [61] ++ A) := str_append _ _
      have HTK := Lib.hid (show wVars :: (starts t).take (k + 1) = (wVars :: (starts t).take k) ++ [y ++ [61] ++ A] by rw [List.take_add_one, hst]; simp)
      obtain ⟨rows, hrows⟩ : ∃ rows, wVars :: (starts t).take k = rows := ⟨_, rfl⟩
      have hrl : rows.length ≤ 1000004 := by rw [← hrows]; simp only [List.length_cons, List.length_take]; omega
      rw [hrows] at HJ6 HTK ⊢
      have HR1 := Lib.hid (show rows.length + 1 ≤ maxLen by unfold maxLen; omega)
      have HR2 := Lib.hid (show (rows.length + 1) * 16 ≤ 140737488355328 by omega)
      unfold sv at HI
      clear hy hm hcell hcell2 hval hval' hst hyl hnl hA hrows hrl
      go_wp2_with (first | (go_at_call 50; refine HI.out.mono ?_; rintro _ w5 ⟨rfl, hb5⟩; have HB5 := Lib.hid hb5; have HO5 := Lib.hid (own_kept HJ6.out.own hb5); have HS1 := Lib.hid (show w.heap.size + 1 ≤ (w5.alloc (.cells #[.string (str (y ++ [61] ++ A))] 9)).heap.size by have := HJ6.out.size; have := hb5.size; simp; omega); clear hb5) | (at_builtin; go_must (refine wpList_append_lies _ rfl _ _ 22 rfl (w.heap.size + 1) 9 i0 (.string ⟨#[]⟩) 1 16 Tryz.underlying22 hi hz0 hz1 hz2 rfl (by decide) _ _ _ rfl (World.ownsRow.alloc HO5.out _) ⟨w5.heap.size, 0, none⟩ 1 1 [.string (str (y ++ [61] ++ A))] rfl rfl (fun j u hj => one_new _ _ _ j u hj) (one_str _) (by decide) HR1.out HR2.out HS1.out _ rfl ?_); intro g7 cap7 w7 hown7 hgrow7 hblk7 hlt7; have HA7 := Lib.hid (App.of (D := w.heap.size) (grown_al w5 _) hown7 hgrow7 (hblk7.elim (fun e => Or.inl e.symm) (fun e => Or.inr (by rw [e]; rfl)))); clear hown7 hgrow7 hblk7 hlt7))
      have HJ7 := Lib.hid ((HJ6.out.grow HB5.out).push (y ++ [61] ++ A) HA7.out)
      go_roundg (nv - (k + 1))
      case measure => omega
      case rel => exact ⟨k + 1, by go_num, by omega, by rw [HTK.out]; exact HJ7⟩
    · have hltI : ¬ (k : Int) < (nv : Int) := by omega
      have hk : k = nv := by omega
      have hstl : (starts t).length = nv := by
        unfold starts
        rw [List.length_map, List.length_zip, HL.out.1, HN.out.2]
        omega
      have hfin : wVars :: (starts t).take k = wVars :: starts t := by rw [hk, ← hstl, List.take_length]
      rw [hfin] at HJ6
      rw [hfin]
      have cs : wr.cell? ⟨w.heap.size, 0, none⟩ = some (.slice aS ns ks) := by rw [cell_of_row _ _ _ _ _ _ HJ6.out.bx]; rfl
      have hcap : (wVars :: starts t).length ≤ k7 := by
        rcases HJ6.out.own.2 with ⟨e, h0⟩ | ⟨_, _, _, e, _, _, h1, _⟩
        · injection e with _ e2 e3
          omega
        · injection e with _ _ e3
          omega
      have hwl : (wVars :: starts t).length ≤ 140737488355328 := by rw [List.length_cons, hstl]; omega
      have HSL := Lib.hid (Sl.owns HJ6.out.own)
      have HJA := Lib.hid (fun W (hb : Below wr.heap.size wr W) => join_any aS ks t.states [32] W (Sl.below HSC.out (HJ6.out.bel.trans (hb.mono HJ6.out.bel.size))) HCS.out (by have := HL.out.2.2.2.1; omega) HJ1.out)
      have HJB := Lib.hid (fun W (hb : Below wr.heap.size wr W) => join_any a7 k7 (wVars :: starts t) [32] W (Sl.below HSL.out hb) hcap hwl HJ2.out)
      have HLS := Lib.hid (show tableLines t = [wStates ++ (32 :: Lib.join t.states [32]), Lib.join (wVars :: starts t) [32]] from rfl)
      have hr1 := HJ1.out
      obtain ⟨res1, hres1⟩ : ∃ res, Lib.join t.states [32] = res := ⟨_, rfl⟩
      rw [hres1] at HJA HLS hr1
      obtain ⟨res2, hres2⟩ : ∃ res, Lib.join (wVars :: starts t) [32] = res := ⟨_, rfl⟩
      rw [hres2] at HJB HLS
      rw [HN.out.1] at HJA
      obtain ⟨lw, hlw⟩ : ∃ l, (wVars :: starts t).length = l := ⟨_, rfl⟩
      rw [hlw] at HJB
      rw [hlw]
      have h1 : (str [115, 116, 97, 116, 101, 115, 32]).size + (str res1).size ≤ 281474976710656 := by rw [str_size, str_size]; simp only [List.length_cons, List.length_nil]; omega
      have e1 : str [115, 116, 97, 116, 101, 115, 32] ++ str res1 = str ([115, 116, 97, 116, 101, 115, 32] ++ res1) := str_append _ _
      have HW := Lib.hid (show wStates ++ (32 :: res1) = [115, 116, 97, 116, 101, 115, 32] ++ res1 from rfl)
      unfold sv at HJA HJB
      clear hfin hcap hwl hk hlw hres1 hres2 hr1 hstl
      go_wp2_with (go_at_call 23; first | (refine (HJB.out _ HB8.out).mono ?_; rintro _ w9 ⟨rfl, hb9⟩; have HB9 := Lib.hid hb9; clear hb9) | (refine (HJA.out _ (Below.refl _ _)).mono ?_; rintro _ w8 ⟨rfl, hb8⟩; have HB8 := Lib.hid hb8; clear hb8))
      go_ret
      have hz9 : Below w.heap.size w w9 := (HJ6.out.bel.trans (HB8.out.mono HJ6.out.bel.size)).trans (HB9.out.mono (Nat.le_trans HJ6.out.bel.size HB8.out.size))
      refine ⟨_, rfl, ?_, hz9.trans ((grown_al w9 _).mono hz9.size)⟩
      rw [HLS.out, HW.out]
      exact row_built w9 _ 2 [sv ([115, 116, 97, 116, 101, 115, 32] ++ res1), sv res2] _ hz9.size rfl (by decide)
end Go.Proofs.YtfooiggedgcjcaaGreatDoor.T
