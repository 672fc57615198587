/-
  Contract of the program of layer 4: Show.
-/
import Derived.Test.YtjcajeehgjpmmaaGreatDoorIPShC
import Derived.Deep.RegionLaw
namespace Go.Proofs.YtjcajeehgjpmmaaGreatDoor.I
open Go Go.RowKit B K E
set_option linter.unusedVariables false
def RowP (w : World) (base : Nat) (v : Value) (ps : List Pc) : Prop := w.ownsRow base 167 2 v ps.length (cellsP ps)
theorem RowP.below {w w' : World} {base : Nat} {v : Value} {ps : List Pc} (h : RowP w base v ps) (hb : Below w.heap.size w w') : RowP w' base v ps := own_kept h hb
theorem pieceInfo : ∃ i, Tryz.prog.info? 167 = some i /\ i.zero = some (.agg #[.string ⟨#[]⟩, .int .i64 0]) /\ i.size = 2 /\ i.bytes = 24 := by
 have h : (Tryz.prog.info? 167).map (fun i => (i.zero, i.size, i.bytes)) = some (some (.agg #[.string ⟨#[]⟩, .int .i64 0]), 2, 24) := by kernel_rfl
 obtain ⟨i, h1, h2⟩ := Option.map_eq_some_iff.1 h;simp only [Prod.mk.injEq] at h2;exact ⟨i, h1, h2.1, h2.2.1, h2.2.2⟩
theorem piece_new (W : World) (s : ByteArray) (l : Int) : ∀ j u, [Value.string s, .int .i64 l][j]? = some u -> (W.alloc (.cells #[.string s, .int .i64 l] 167)).cell? ((⟨W.heap.size, 0, none⟩ : Addr).add j) = some u :=
 World.news_of_block (cs := #[.string s, .int .i64 l]) (heap_alloc_at W _)
theorem piece_cell (s : ByteArray) (l : Int) : ∀ u ∈ [Value.string s, .int .i64 l], u.oneCell' = true := by
 intro u hu; simp at hu; rcases hu with rfl | rfl <;> rfl
theorem row_push {w w1 w3 : World} {base g cap : Nat} {v : Value} {ps : List Pc} {s : Bs} {l : Int} {X : Obj} (hb : Below base w w1) (hs : base <= w1.heap.size) (hr : RowP w1 base v ps)
 (ho : w3.ownsRow base 167 2 (.slice (some ⟨g, 0, none⟩) (ps.length + 1) cap) (ps.length + 1) (cellsP ps ++ [.string (str s), .int .i64 l])) (hg : (w1.alloc X).grownBy w3 v.ownBlock) :
 RowP w3 base (.slice (some ⟨g, 0, none⟩) (ps.length + 1) cap) (ps ++ [(s, l)]) /\ Below base w w3 := by
 refine ⟨?_, (hb.alloc hs X).grown hg (by simp; omega) (fun k hk => owns_block hr k hk)⟩;unfold RowP;rw [cellsP_append, List.length_append];exact ho
section
variable {w : World} {base bx : Nat} {v v1 : Value} {ps : List Pc}
set_option maxHeartbeats 2000000 in
set_option maxRecDepth 100000 in
theorem put_con (x : Int) (hx0 : -9223372036854775808 <= x) (hx1 : x <= 9223372036854775807) (hg : Glob w) (hr : RowP w base v ps) (hbs : base <= w.heap.size) (hn : ps.length <= 1000) :
 Calls Tryz.prog 156 #[v, .agg #[.int .i64 1, .int .i64 x], .pointer (some ⟨bx, 0, none⟩)] w fun e w' => (∃ v', e = .returned v' /\ RowP w' base v' (ps ++ [(itoa x, if x < 0 then 2 else 0)])) /\ Below base w w' := by
 obtain ⟨i0, hi, hz0, hz1, hz2⟩ := pieceInfo;have hal := (Below.refl w.heap.size w).alloc (Nat.le_refl _) (.cells #[.int .i64 1, .int .i64 x] 100);have HN := Lib.hid (number_any x hx0 hx1 _ (hg.below hal));obtain ⟨l, hl⟩ : ∃ l : Int, (if x < 0 then 2 else 0) = l := ⟨_, rfl⟩;obtain ⟨s, hs⟩ : ∃ s, itoa x = s := ⟨_, rfl⟩;rw [hl, hs] at HN ⊢;have HAL := Lib.hid (hal.mono hbs);have HR := Lib.hid (hr.below hal);have HBS := Lib.hid hbs;have HR1 := Lib.hid (show ps.length + 1 <= maxLen by unfold maxLen; omega);have HR2 := Lib.hid (show (ps.length + 1) * 24 <= 140737488355328 by omega);unfold sv at HN;clear hg hr hal hl hs hbs hn hx0 hx1;go_enter Tryz.func156, Tryz.ntmps156;go_wp2_with (first | (go_at_call 157; refine HN.out.mono ?_; rintro _ w1 ⟨rfl, hb1⟩; have HO := Lib.hid (HR.out.below hb1); have HB1 := Lib.hid (HAL.out.trans (hb1.mono (by have := HBS.out; simp; omega))); have HS1 := Lib.hid (show base <= w1.heap.size by have := hb1.size; have := HBS.out; simp at *; omega); have HS2 := Lib.hid (show base <= (w1.alloc (.cells #[.string (str s), .int .i64 l] 167)).heap.size by have := HS1.out; simp; omega); clear hb1) | (at_builtin; go_must (refine wpList_append_lies _ rfl _ _ 165 rfl base 167 i0 (.agg #[.string ⟨#[]⟩, .int .i64 0]) 2 24 Tryz.underlying165 hi hz0 hz1 hz2 rfl (by decide) _ _ _ rfl (World.ownsRow.alloc HO.out _) ⟨w1.heap.size, 0, none⟩ 1 1 [.string (str s), .int .i64 l] rfl rfl (piece_new _ _ _) (piece_cell _ _) (by decide) HR1.out HR2.out HS2.out _ rfl ?_); intro g' cap' w3 hown3 hgrow3 hblk3 hlt3; have HF := Lib.hid (row_push HB1.out HS1.out HO.out hown3 hgrow3); clear hown3 hgrow3 hblk3))
 go_ret;exact ⟨⟨_, rfl, HF.out.1⟩, HF.out.2⟩
set_option maxHeartbeats 2000000 in
set_option maxRecDepth 100000 in
theorem put_arg (x : Int) (hx0 : -9223372036854775808 <= x) (hx1 : x <= 9223372036854775807) (hlen : (itoa x).length <= 1000) (hg : Glob w) (hr : RowP w base v ps) (hbs : base <= w.heap.size) (hn : ps.length <= 1000) :
 Calls Tryz.prog 156 #[v, .agg #[.int .i64 3, .int .i64 x], .pointer (some ⟨bx, 0, none⟩)] w fun e w' => (∃ v', e = .returned v' /\ RowP w' base v' (ps ++ [([36] ++ itoa x, 1)])) /\ Below base w w' := by
 obtain ⟨i0, hi, hz0, hz1, hz2⟩ := pieceInfo;have hal := (Below.refl w.heap.size w).alloc (Nat.le_refl _) (.cells #[.int .i64 3, .int .i64 x] 100);have HN := Lib.hid (itoa_any x hx0 hx1 _ (hg.below hal));obtain ⟨s, hs⟩ : ∃ s, itoa x = s := ⟨_, rfl⟩;rw [hs] at HN hlen ⊢;obtain ⟨U, hU⟩ : ∃ U, ([36] : Bs) ++ s = U := ⟨_, rfl⟩;rw [hU];have e1 := sum_is [36] s (by simp only [List.length_cons, List.length_nil]; omega) U hU ⟨#[36]⟩ (str s) rfl rfl;have HAL := Lib.hid (hal.mono hbs);have HR := Lib.hid (hr.below hal);have HBS := Lib.hid hbs;have HR1 := Lib.hid (show ps.length + 1 <= maxLen by unfold maxLen; omega);have HR2 := Lib.hid (show (ps.length + 1) * 24 <= 140737488355328 by omega);unfold sv at HN;clear hg hr hal hs hbs hn hx0 hx1 hU hlen;go_enter Tryz.func156, Tryz.ntmps156;go_wp2_with (first | (go_at_call 34; refine HN.out.mono ?_; rintro _ w1 ⟨rfl, hb1⟩; have HO := Lib.hid (HR.out.below hb1); have HB1 := Lib.hid (HAL.out.trans (hb1.mono (by have := HBS.out; simp; omega))); have HS1 := Lib.hid (show base <= w1.heap.size by have := hb1.size; have := HBS.out; simp at *; omega); have HS2 := Lib.hid (show base <= (w1.alloc (.cells #[.string (str U), .int .i64 1] 167)).heap.size by have := HS1.out; simp; omega); clear hb1) | (at_builtin; go_must (refine wpList_append_lies _ rfl _ _ 165 rfl base 167 i0 (.agg #[.string ⟨#[]⟩, .int .i64 0]) 2 24 Tryz.underlying165 hi hz0 hz1 hz2 rfl (by decide) _ _ _ rfl (World.ownsRow.alloc HO.out _) ⟨w1.heap.size, 0, none⟩ 1 1 [.string (str U), .int .i64 1] rfl rfl (piece_new _ _ _) (piece_cell _ _) (by decide) HR1.out HR2.out HS2.out _ rfl ?_); intro g' cap' w3 hown3 hgrow3 hblk3 hlt3; have HF := Lib.hid (row_push HB1.out HS1.out HO.out hown3 hgrow3); clear hown3 hgrow3 hblk3))
 go_ret;exact ⟨⟨_, rfl, HF.out.1⟩, HF.out.2⟩
set_option maxHeartbeats 2000000 in
set_option maxRecDepth 100000 in
theorem put_var (vs : List Bs) (k : Nat) (s : Bs) (hk : vs[k]? = some s) (hvs : Names w v1 vs) (hvl : vs.length <= 1000000) (hbx : w.cell? ⟨bx, 0, none⟩ = some v1) (hlen : s.length <= 140737488355328) (hr : RowP w base v ps) (hbs : base <= w.heap.size) (hn : ps.length <= 1000) :
 Calls Tryz.prog 156 #[v, .agg #[.int .i64 2, .int .i64 (k : Int)], .pointer (some ⟨bx, 0, none⟩)] w fun e w' => (∃ v', e = .returned v' /\ RowP w' base v' (ps ++ [(s, 1)])) /\ Below base w w' := by
 obtain ⟨i0, hi, hz0, hz1, hz2⟩ := pieceInfo;have hal := (Below.refl w.heap.size w).alloc (Nat.le_refl _) (.cells #[.int .i64 2, .int .i64 (k : Int)] 100);have HC := Lib.hid (clone_any s (w.alloc (.cells #[.int .i64 2, .int .i64 (k : Int)] 100)) (by omega));have hbx2 := cell_kept hal hbx;obtain ⟨ad, cap, rfl, hcell⟩ := Sl.below hvs hal;obtain ⟨b, off, hab, hks⟩ := hcell k (sv s) (by rw [List.getElem?_map, hk]; rfl);subst hab;rw [List.length_map] at hbx2 hbx hvs;have hkl : k < vs.length := (List.getElem?_eq_some_iff.1 hk).1;obtain ⟨n, hnn⟩ : ∃ n, vs.length = n := ⟨_, rfl⟩;rw [hnn] at hbx2 hbx hkl hvl;have hkI : (k : Int) < (n : Int) := by omega
 have HAL := Lib.hid (hal.mono hbs);have HR := Lib.hid (hr.below hal);have HBS := Lib.hid hbs;have HR1 := Lib.hid (show ps.length + 1 <= maxLen by unfold maxLen; omega);have HR2 := Lib.hid (show (ps.length + 1) * 24 <= 140737488355328 by omega);unfold sv at HC hks;clear hr hal hbs hn hlen hk hvs hbx hcell hnn hkl;go_enter Tryz.func156, Tryz.ntmps156;go_wp2_with (first | (go_at_call 94; refine HC.out.mono ?_; rintro _ w1 ⟨rfl, hb1⟩; have HO := Lib.hid (HR.out.below hb1); have HB1 := Lib.hid (HAL.out.trans (hb1.mono (by have := HBS.out; simp; omega))); have HS1 := Lib.hid (show base <= w1.heap.size by have := hb1.size; have := HBS.out; simp at *; omega); have HS2 := Lib.hid (show base <= (w1.alloc (.cells #[.string (str s), .int .i64 1] 167)).heap.size by have := HS1.out; simp; omega); clear hb1) | (at_builtin; go_must (refine wpList_append_lies _ rfl _ _ 165 rfl base 167 i0 (.agg #[.string ⟨#[]⟩, .int .i64 0]) 2 24 Tryz.underlying165 hi hz0 hz1 hz2 rfl (by decide) _ _ _ rfl (World.ownsRow.alloc HO.out _) ⟨w1.heap.size, 0, none⟩ 1 1 [.string (str s), .int .i64 1] rfl rfl (piece_new _ _ _) (piece_cell _ _) (by decide) HR1.out HR2.out HS2.out _ rfl ?_); intro g' cap' w3 hown3 hgrow3 hblk3 hlt3; have HF := Lib.hid (row_push HB1.out HS1.out HO.out hown3 hgrow3); clear hown3 hgrow3 hblk3))
 go_ret;exact ⟨⟨_, rfl, HF.out.1⟩, HF.out.2⟩
end
theorem cut_head (W : World) (g L F cap : Nat) (hF : F <= cap) :
 (Instr.sliceAt 165 (.slice (some ⟨g, 0, none⟩) L cap) none (some (.int .i64 (F : Int))) none).run Tryz.prog W = .ok (.slice (some ⟨g, 0, none⟩) F cap) W := by
 have he : Tryz.prog.underlying 165 = some (.slice (Tryz.prog.elem 165)) := by kernel_rfl
 have hs : (sizeOf (Tryz.prog.elem 165)).run Tryz.prog W = .ok 2 W := by kernel_rfl
 rw [run_sliceAt_slice W 165 _ _ _ _ he, run_slice_h W 165 _ _ _ he .i64 (F : Int) (by omega) (by omega), hs];simp only [Result.andThen, sliced, Int.toNat_natCast, Option.map, Go.WideShapes.add_plain, Nat.zero_mul, Nat.add_zero, Nat.sub_zero];split <;> rfl
theorem cut_tail (W : World) (g L F cap : Nat) (hF : F <= L) (hL : L <= cap) (hlt : F < cap) :
 (Instr.sliceAt 165 (.slice (some ⟨g, 0, none⟩) L cap) (some (.int .i64 (F : Int))) none none).run Tryz.prog W = .ok (.slice (some ⟨g, F * 2, none⟩) (L - F) (cap - F)) W := by
 have he : Tryz.prog.underlying 165 = some (.slice (Tryz.prog.elem 165)) := by kernel_rfl
 have hs : (sizeOf (Tryz.prog.elem 165)).run Tryz.prog W = .ok 2 W := by kernel_rfl
 rw [run_sliceAt_slice W 165 _ _ _ _ he, run_slice_l W 165 _ _ _ he .i64 (F : Int) (by omega) (by omega), hs];simp only [Result.andThen, sliced, Int.toNat_natCast];rw [if_neg (by omega)];simp only [Option.map, Go.WideShapes.add_plain, Nat.zero_add]
theorem row_form {w : World} {base : Nat} {v : Value} {ps : List Pc} (h : RowP w base v ps) (h0 : 0 < ps.length) : ∃ g cap, v = .slice (some ⟨g, 0, none⟩) ps.length cap /\ ps.length <= cap /\ cap <= maxLen /\ base <= g /\ g < w.heap.size /\
 ∀ (j : Nat) (p : Pc), ps[j]? = some p -> w.cell? ⟨g, j * 2, none⟩ = some (sv p.1) /\ w.cell? ⟨g, j * 2 + 1, none⟩ = some (.int .i64 p.2) := by
 have h' := h;obtain ⟨hl, h⟩ := h;rcases h with ⟨_, h1⟩ | ⟨g, cap, cur, hv, hb, hg, hc, hm, hsz, ht⟩
 ·omega
 ·refine ⟨g, cap, hv, hc, hm, hb, (Array.getElem?_eq_some_iff.1 hg).1, fun j p hj => ?_⟩
  obtain ⟨c0, c1⟩ := cellsP_at ps j p hj;have hjl : j < ps.length := (List.getElem?_eq_some_iff.1 hj).1;have key : ∀ m u, (cellsP ps)[m]? = some u -> w.cell? ⟨g, m, none⟩ = some u := by
   intro m u hu;rw [cell_of_row _ _ _ _ _ _ hg, <- Array.getElem?_toList];have hml : m < (cellsP ps).length := (List.getElem?_eq_some_iff.1 hu).1;rw [cellsP_length] at hml;rw [<- ht, List.getElem?_take_of_lt hml] at hu;exact hu
  exact ⟨key _ _ c0, key _ _ c1⟩
theorem row_head {w : World} {base g cap : Nat} {ps : List Pc} (h : RowP w base (.slice (some ⟨g, 0, none⟩) ps.length cap) ps) (h0 : 0 < ps.length) (F : Nat) (hF : F <= ps.length) : RowP w base (.slice (some ⟨g, 0, none⟩) F cap) (ps.take F) := by
 obtain ⟨hl, h⟩ := h;rcases h with ⟨h1, _⟩ | ⟨g', cap', cur, hv, hb, hg, hc, hm, hsz, ht⟩
 ·cases h1
 ·obtain ⟨e1, e2, e3⟩ := Value.slice.inj hv
  cases e1
  subst e3;have hlen : (ps.take F).length = F := by rw [List.length_take]; omega
  have hsplit : cellsP ps = cellsP (ps.take F) ++ cellsP (ps.drop F) := by rw [<- cellsP_append, List.take_append_drop]
  refine ⟨by rw [cellsP_length], Or.inr ⟨g, cap, cur, by rw [hlen], hb, hg, by omega, hm, hsz, ?_⟩⟩;have h2 : cur.toList.take (F * 2) = (cur.toList.take (ps.length * 2)).take (F * 2) := by rw [List.take_take]; congr 1; omega
  rw [hlen, h2, ht, hsplit];exact List.take_left' (by rw [cellsP_length, hlen])
theorem row_tail {w : World} {g : Nat} {ps : List Pc} (hc : ∀ (j : Nat) (p : Pc), ps[j]? = some p -> w.cell? ⟨g, j * 2, none⟩ = some (sv p.1) /\ w.cell? ⟨g, j * 2 + 1, none⟩ = some (.int .i64 p.2)) (F c : Nat) (hF : F <= ps.length) : SlP w (.slice (some ⟨g, F * 2, none⟩) (ps.length - F) c) (ps.drop F) := by
 refine ⟨_, c, by rw [List.length_drop], fun j p hj => ⟨g, F * 2, rfl, ?_⟩⟩;rw [List.getElem?_drop] at hj;obtain ⟨h1, h2⟩ := hc _ p hj;rw [show F * 2 + j * 2 = (F + j) * 2 by omega];exact ⟨h1, h2⟩
theorem row_pushed {w w1 w3 : World} {base g cap F : Nat} {v : Value} {ps : List Pc} {s : Bs} {l : Int} {X : Obj} (hb : Below base w w1) (hs : base <= w1.heap.size) (hF : ps.length = F) (hr : w1.ownsRow base 167 2 v F (cellsP ps))
 (ho : w3.ownsRow base 167 2 (.slice (some ⟨g, 0, none⟩) (F + 1) cap) (F + 1) (cellsP ps ++ [.string (str s), .int .i64 l])) (hg : (w1.alloc X).grownBy w3 v.ownBlock) :
 RowP w3 base (.slice (some ⟨g, 0, none⟩) (F + 1) cap) (ps ++ [(s, l)]) /\ Below base w w3 := by
 subst hF;exact row_push hb hs hr ho hg
set_option maxHeartbeats 4000000 in
set_option maxRecDepth 100000 in
theorem put_op {w : World} {base bx : Nat} {v : Value} {ps : List Pc} (o k : Nat) (ho : 4 <= o) (ho2 : o <= 16) (hk : takes (o : Int) = (k : Int)) (T : Bs) (hT : ∀ (W : World) (u : Value), Glob W -> SlP W u (ps.drop (ps.length - k)) -> Calls Tryz.prog 159 #[.int .i64 (o : Int), u] W fun e w' => e = .returned (sv T) /\ Below W.heap.size W w')
 (hkn : k <= ps.length) (hg : Glob w) (hr : RowP w base v ps) (hbs : base <= w.heap.size) (hn : ps.length <= 1000) :
 Calls Tryz.prog 156 #[v, .agg #[.int .i64 (o : Int), .int .i64 0], .pointer (some ⟨bx, 0, none⟩)] w fun e w' => (∃ v', e = .returned v' /\ RowP w' base v' (ps.take (ps.length - k) ++ [(T, lvl (o : Int))])) /\ Below base w w' := by
 obtain ⟨i0, hi, hz0, hz1, hz2⟩ := pieceInfo;have hk0 : 0 < k := by
  have hti := takes_is (o : Int);omega
 obtain ⟨g, cap, rfl, hcap, hcm, hbg, hgl, hcells⟩ := row_form hr (by omega);have HOPR := Lib.hid (fun W => operands_any (o : Int) (by omega) (by omega) W);rw [hk] at HOPR;have HLV := Lib.hid (fun W => level_any (o : Int) (by omega) (by omega) W);obtain ⟨L, hL⟩ : ∃ L, lvl (o : Int) = L := ⟨_, rfl⟩;rw [hL] at HLV ⊢;have hb1 : ((o : Int) == 1) = false := by rw [beq_eq_false_iff_ne]; omega
 have hb2 : ((o : Int) == 2) = false := by rw [beq_eq_false_iff_ne]; omega
 have hb3 : ((o : Int) == 3) = false := by rw [beq_eq_false_iff_ne]; omega
 obtain ⟨X, hX⟩ : ∃ X, (Obj.cells #[.int .i64 (o : Int), .int .i64 0] 100 (0, 0)) = X := ⟨_, rfl⟩;have hal := (Below.refl w.heap.size w).alloc (Nat.le_refl _) X;have hald := hal.drew;obtain ⟨F, hF⟩ : ∃ F, ps.length - k = F := ⟨_, rfl⟩;obtain ⟨n, hnn⟩ : ∃ n, ps.length = n := ⟨_, rfl⟩;have hct : ∀ (j : Nat) (p : Pc), ps[j]? = some p -> (w.alloc X).drew.cell? ⟨g, j * 2, none⟩ = some (sv p.1) /\ (w.alloc X).drew.cell? ⟨g, j * 2 + 1, none⟩ = some (.int .i64 p.2) := fun j p hj => ⟨cell_kept hald (hcells j p hj).1, cell_kept hald (hcells j p hj).2⟩
 have hsp := row_tail hct F (cap - F) (by omega);have hrh := row_head (hr.below hald) (by omega) F (by omega);rw [hF] at hT ⊢;have HTG := Lib.hid (hT _ _ (hg.below hald) hsp);rw [hnn] at HTG hkn hcap hn hF;have HRH := Lib.hid hrh;have HLT := Lib.hid (show (ps.take F).length = F by rw [List.length_take]; omega);have hsl1 := fun W => cut_head W g n F cap (by omega)
 have hsl2 := fun W => cut_tail W g n F cap (by omega) hcap (by omega)
 have hF2 : IntKind.i64.wrap ((n : Int) - (k : Int)) = (F : Int) := by rw [show (n : Int) - (k : Int) = (F : Int) by omega]; exact IntWalk.i64_in _ (by omega)
 have HAL := Lib.hid (hald.mono hbs);have HBX := Lib.hid (show (w.alloc X).drew.cell? ⟨w.heap.size, 0, none⟩ = some (.int .i64 (o : Int)) by
  show (w.alloc X).cell? ⟨w.heap.size, 0, none⟩ = _
  rw [cell_of_row _ _ _ _ _ _ (show (w.alloc X).heap[w.heap.size]? = some (.cells #[.int .i64 (o : Int), .int .i64 0] 100 (0, 0)) by rw [hX]; exact heap_alloc_at _ _)];rfl)
 have HBS := Lib.hid hbs;have HBG := Lib.hid hbg;have HR1 := Lib.hid (show F + 1 <= maxLen by unfold maxLen; omega);have HR2 := Lib.hid (show (F + 1) * 24 <= 140737488355328 by omega);subst hX;rw [hnn];unfold sv at HTG;clear hg hr hal hald hbs hn hkn hcap hcm hbg hgl hcells hct hsp hrh hT hL hk hk0 ho ho2 hnn hF;go_enter Tryz.func156, Tryz.ntmps156;go_upto_region 9 with (go_at_call 158; refine (HOPR.out _).mono ?_; rintro _ w1 ⟨rfl, rfl⟩)
 go_region_law (first | (refine step_append_lies _ rfl _ _ 165 rfl base 167 i0 (.agg #[.string ⟨#[]⟩, .int .i64 0]) 2 24 Tryz.underlying165 hi hz0 hz1 hz2 rfl (by decide) (.slice (some ⟨g, 0, none⟩) F cap) F (cellsP (ps.take F)) rfl (World.ownsRow.alloc HO5.out _) ⟨w5.heap.size, 0, none⟩ 1 1 [.string (str T), .int .i64 L] rfl rfl (piece_new _ _ _) (piece_cell _ _) (by decide) HR1.out HR2.out HB6.out _ rfl ?_; intro g6 cap6 w6 hown6 hgrow6 hblk6 hlt6) | (go_simp; go_at_call 159; refine HTG.out.mono ?_; rintro _ w5 ⟨rfl, hb5⟩; have HO5 := Lib.hid (show w5.ownsRow base 167 2 (.slice (some ⟨g, 0, none⟩) F cap) F (cellsP (ps.take F)) by have h := HRH.out.below hb5; unfold RowP at h; rw [HLT.out] at h; exact h); have HB5 := Lib.hid (HAL.out.trans (hb5.mono (by have := HBS.out; simp; omega))); have HS5 := Lib.hid (show base <= w5.heap.size by have := hb5.size; have := HBS.out; simp at *; omega); have HB6 := Lib.hid (show base <= (w5.alloc (.cells #[.string (str T), .int .i64 L] 167)).heap.size by have := HS5.out; simp; omega); have c5 := cell_kept hb5 HBX.out; clear hb5) | (go_simp; go_at_call 160; refine (HLV.out _).mono ?_; rintro _ w7 ⟨rfl, rfl⟩))
 all_goals
  have HF := Lib.hid (row_pushed HB5.out HS5.out HLT.out HO5.out hown6 hgrow6);clear hown6 hgrow6 hblk6;go_wp2_with fail;go_ret;exact ⟨⟨_, rfl, HF.out.1⟩, HF.out.2⟩
def lev : Ex -> Int | .con n => if n < 0 then 2 else 0 | .var _ => 1 | .arg _ => 1 | .un o _ => lvl o | .bin o _ _ => lvl o | .ite _ _ _ => lvl 16
def pc (vs : List Bs) (e : Ex) : Pc := (text vs e, lev e)
theorem lev_con (n : Int) : lev (.con n) = if n < 0 then 2 else 0 := rfl
theorem rank_con (n : Int) : rank (.con n) = if n < 0 then 6 else 7 := rfl
theorem lev_rank (nv na : Int) (e : Ex) (hw : WF nv na e) : lev e = 8 - (rank e : Int) \/ (lev e = 0 /\ rank e = 7) := by
 cases e with
 | con n =>
  rw [lev_con, rank_con];by_cases h : n < 0
  ·rw [if_pos h, if_pos h]; left; rfl
  ·rw [if_neg h, if_neg h]; right; exact ⟨rfl, rfl⟩
 | var k => left; rfl
 | arg k => left; rfl
 | un o a => left; rcases hw.1 with rfl | rfl <;> rfl
 | bin o a b =>
  left
  have ht := takes_is o;have h2 : takes o = 2 := hw.1;have ho : o = 6 \/ o = 7 \/ o = 8 \/ o = 9 \/ o = 10 \/ o = 11 \/ o = 12 \/ o = 13 \/ o = 14 \/ o = 15 := by omega
  rcases ho with rfl | rfl | rfl | rfl | rfl | rfl | rfl | rfl | rfl | rfl <;> rfl
 | ite a b c => left; rfl
theorem upto_shw (vs : List Bs) (nv na : Int) (e : Ex) (hw : WF nv na e) (L : Int) (least : Nat) (h1 : 1 <= L) (hl : L = 8 - (least : Int)) : upto (pc vs e) L = shw vs e least := by
 unfold upto shw pc brk;rcases lev_rank nv na e hw with h | ⟨h, hr⟩
 ·by_cases hc : rank e < least
  ·rw [if_pos (show L < (text vs e, lev e).2 by show L < lev e; omega), if_pos hc]
  ·rw [if_neg (show ¬ L < (text vs e, lev e).2 by show ¬ L < lev e; omega), if_neg hc]
 ·rw [if_neg (show ¬ L < (text vs e, lev e).2 by show ¬ L < lev e; omega), if_neg (by omega)]
theorem text_con (vs : List Bs) (n : Int) : itoa n = text vs (.con n) := by
 unfold itoa text pieces;split
 ·simp
 ·rw [show n.toNat = n.natAbs by omega]; simp
theorem text_var (vs : List Bs) (k : Nat) (s : Bs) (h : vs[k]? = some s) : text vs (.var k) = s := by
 unfold text pieces; simp [List.getD_eq_getElem?_getD, h]
theorem text_arg (vs : List Bs) (k : Nat) : text vs (.arg k) = [36] ++ itoa (k : Int) := by
 unfold text pieces itoa; rw [if_neg (by omega)]; simp
theorem pieces_un (vs : List Bs) (o : Int) (a : Ex) : pieces vs (.un o a) = if o = 4 then (if plainCon a = true then [[45], [40]] ++ pieces vs a ++ [[41]] else [[45]] ++ wrap (rank a) 6 (pieces vs a)) else [[33]] ++ wrap (rank a) 6 (pieces vs a) := by
 rw [pieces]
theorem text_un (vs : List Bs) (nv na : Int) (o : Nat) (ho : o = 4 \/ o = 5) (a : Ex) (hw : WF nv na a) :
 (o = 4 /\ lev a = 0 /\ text vs (.un (o : Int) a) = sg 4 ++ brk (text vs a)) \/ ((o = 4 -> lev a ≠ 0) /\ text vs (.un (o : Int) a) = sg o ++ upto (pc vs a) 2) := by
 have hu := upto_shw vs nv na a hw 2 6 (by decide) (by decide);by_cases hc : o = 4 /\ lev a = 0
 ·left
  obtain ⟨rfl, h0⟩ := hc;refine ⟨rfl, h0, ?_⟩;have hp : plainCon a = true := by
   cases a with
   | con n =>
    rw [lev_con] at h0;refine decide_eq_true ?_;by_cases h : n < 0
    ·rw [if_pos h] at h0; cases h0
    ·omega
   | var => cases h0
   | arg => cases h0
   | un o2 a2 => rcases hw.1 with rfl | rfl <;> cases h0
   | bin o2 a2 b2 => exfalso; have h2 : lvl o2 = 0 := h0; unfold lvl at h2; (repeat' split at h2) <;> omega
   | ite => cases h0
  show (pieces vs (.un 4 a)).flatten = _
  rw [pieces_un, if_pos rfl, if_pos hp];unfold brk text;simp [show sg 4 = [45] from rfl]
 ·right
  refine ⟨fun h4 h0 => hc ⟨h4, h0⟩, ?_⟩;rw [hu, <- shw_eq];show (pieces vs (.un (o : Int) a)).flatten = _
  rw [pieces_un];rcases ho with rfl | rfl
  ·have hp : plainCon a = false := by
    cases a with
    | con n =>
     refine decide_eq_false (fun h => hc ⟨rfl, ?_⟩);rw [lev_con, if_neg (by omega)]
    | _ => rfl
   rw [if_pos (by decide), if_neg (by rw [hp]; decide)];simp [show sg 4 = [45] from rfl]
  ·rw [if_neg (by decide)]
   simp [show sg 5 = [33] from rfl]
theorem text_two (vs : List Bs) (o : Nat) (ho : o = 9 \/ o = 10) (a b : Ex) : text vs (.bin (o : Int) a b) = sg o ++ [40] ++ Lib.join ([pc vs a, pc vs b].map (·.1)) [44, 32] ++ [41] := by
 have hj : Lib.join ([pc vs a, pc vs b].map (·.1)) [44, 32] = text vs a ++ [44, 32] ++ text vs b := by
  simp [Lib.join, pc, List.intercalate]
 rw [hj];unfold text;rcases ho with rfl | rfl
 ·rw [pieces, if_pos (by decide)]; simp [show sg 9 = wmin from rfl]
 ·rw [pieces, if_pos (by decide)]; simp [show sg 10 = wmax from rfl]
theorem text_three (vs : List Bs) (a b c : Ex) : text vs (.ite a b c) = sg 16 ++ [40] ++ Lib.join ([pc vs a, pc vs b, pc vs c].map (·.1)) [44, 32] ++ [41] := by
 have hj : Lib.join ([pc vs a, pc vs b, pc vs c].map (·.1)) [44, 32] = text vs a ++ [44, 32] ++ text vs b ++ [44, 32] ++ text vs c := by
  simp [Lib.join, pc, List.intercalate]
 rw [hj];unfold text;rw [pieces]; simp [show sg 16 = wif from rfl]
theorem text_bin (vs : List Bs) (nv na : Int) (o : Nat) (ho : o = 6 \/ o = 7 \/ o = 8 \/ o = 11 \/ o = 12 \/ o = 13 \/ o = 14 \/ o = 15) (a b : Ex) (ha : WF nv na a) (hb : WF nv na b) :
 text vs (.bin (o : Int) a b) = upto (pc vs a) (fst1 (o : Int)) ++ [32] ++ sg o ++ [32] ++ upto (pc vs b) (lvl (o : Int) - 1) := by
 have key : ∀ (L M : Int) (l m : Nat), 1 <= L -> L = 8 - (l : Int) -> 1 <= M -> M = 8 - (m : Int) -> upto (pc vs a) L ++ [32] ++ sg o ++ [32] ++ upto (pc vs b) M = (wrap (rank a) l (pieces vs a) ++ [[32], sg o, [32]] ++ wrap (rank b) m (pieces vs b)).flatten := by
  intro L M l m h1 h2 h3 h4;rw [upto_shw vs nv na a ha L l h1 h2, upto_shw vs nv na b hb M m h3 h4, <- shw_eq, <- shw_eq];simp
 unfold text;rcases ho with rfl | rfl | rfl | rfl | rfl | rfl | rfl | rfl
 ·rw [key _ _ 4 5 (by decide) (by decide) (by decide) (by decide)]; rfl
 ·rw [key _ _ 4 5 (by decide) (by decide) (by decide) (by decide)]; rfl
 ·rw [key _ _ 5 6 (by decide) (by decide) (by decide) (by decide)]; rfl
 ·rw [key _ _ 4 4 (by decide) (by decide) (by decide) (by decide)]; rfl
 ·rw [key _ _ 4 4 (by decide) (by decide) (by decide) (by decide)]; rfl
 ·rw [key _ _ 4 4 (by decide) (by decide) (by decide) (by decide)]; rfl
 ·rw [key _ _ 2 3 (by decide) (by decide) (by decide) (by decide)]; rfl
 ·rw [key _ _ 1 2 (by decide) (by decide) (by decide) (by decide)]; rfl
theorem push_row (vs : List Bs) (e : Ex) (st : List Ex) : (e :: st).reverse.map (pc vs) = st.reverse.map (pc vs) ++ [pc vs e] := by simp
theorem itoa_len (k : Nat) (h : k <= 9223372036854775807) : (itoa (k : Int)).length <= 1000 := by
 unfold itoa;rw [if_neg (by omega)];have := dig_length63 (k : Int).toNat (by omega);omega
theorem step_any {w : World} {base bx : Nat} {v v1 : Value} (vs : List Bs) (na : Int) (st : List Ex) (i : In) (hna : na <= 9223372036854775807) (hr : right i vs.length na = true) (ht0 : 0 <= takes i.1) (ht : takes i.1 <= (st.length : Int))
 (hwf : ∀ e ∈ st, WF vs.length na e) (hlen : ∀ e ∈ st, (text vs e).length <= 35184372088832) (hst : st.length <= 1000) (hvs : Names w v1 vs) (hvl : vs.length <= 1000000) (hV : ∀ s ∈ vs, s.length <= 140737488355328) (hg : Glob w) (hbx : w.cell? ⟨bx, 0, none⟩ = some v1)
 (hrow : RowP w base v (st.reverse.map (pc vs))) (hbs : base <= w.heap.size) :
 Calls Tryz.prog 156 #[v, .agg #[.int .i64 i.1, .int .i64 i.2], .pointer (some ⟨bx, 0, none⟩)] w fun e w' => (∃ v', e = .returned v' /\ RowP w' base v' ((push st i).reverse.map (pc vs))) /\ Below base w w' := by
 obtain ⟨o, x⟩ := i;simp only at ht0 ht;have hrl : (st.reverse.map (pc vs)).length = st.length := by simp
 rcases right_cases (o, x) vs.length na hr with ⟨h1, h2⟩ | ⟨h1, h2, h3⟩ | ⟨h1, h2, h3⟩ | ⟨n1, n2, n3, h4⟩
 ·simp only at h1 h2
  subst h1;have hv := (isVal_iff x).1 h2;rw [show push st (1, x) = .con x :: st from rfl, push_row];have := put_con (bx := bx) x (by omega) (by omega) hg hrow hbs (by omega);rw [show pc vs (.con x) = (itoa x, if x < 0 then 2 else 0) by unfold pc; rw [text_con, lev_con]];exact this
 ·simp only at h1 h2 h3
  subst h1;obtain ⟨k, rfl⟩ := Int.eq_ofNat_of_zero_le h2;have hk : k < vs.length := by omega
  rw [show push st (2, (k : Int)) = .var k :: st from rfl, push_row];have := put_var (bx := bx) vs k vs[k] (List.getElem?_eq_getElem hk) hvs hvl hbx (hV _ (List.getElem_mem hk)) hrow hbs (by omega);rw [show pc vs (.var k) = (vs[k], 1) by unfold pc; rw [text_var vs k vs[k] (List.getElem?_eq_getElem hk)]; rfl];exact this
 ·simp only at h1 h2 h3
  subst h1;obtain ⟨k, rfl⟩ := Int.eq_ofNat_of_zero_le h2;rw [show push st (3, (k : Int)) = .arg k :: st from rfl, push_row];have := put_arg (bx := bx) (k : Int) (by omega) (by omega) (itoa_len k (by omega)) hg hrow hbs (by omega);rw [show pc vs (.arg k) = ([36] ++ itoa (k : Int), 1) by unfold pc; rw [text_arg]; rfl];exact this
 ·simp only at n1 n2 n3 h4
  subst h4;rcases takes_is o with ⟨h, _⟩ | ⟨h, h5⟩ | ⟨h, h5⟩ | ⟨h, h5⟩ | ⟨_, h5⟩
  ·omega
  ·match st, ht, hwf, hlen, hrow, hrl, hst with
   | [], ht, _, _, _, _, _ => simp at ht; omega
   | a :: r, ht, hwf, hlen, hrow, hrl, hst =>
    obtain ⟨q, rfl⟩ := Int.eq_ofNat_of_zero_le (show 0 <= o by omega);have hq : q = 4 \/ q = 5 := by omega
    have hwa := hwf a (by simp);have hla := hlen a (by simp);have hpush : push (a :: r) ((q : Int), 0) = .un (q : Int) a :: r := by rcases hq with rfl | rfl <;> rfl
    have hsplit : (a :: r).reverse.map (pc vs) = r.reverse.map (pc vs) ++ [pc vs a] := push_row vs a r;rw [hsplit] at hrow hrl;have hrl' : (r.reverse.map (pc vs) ++ [pc vs a]).length - 1 = (r.reverse.map (pc vs)).length := by simp
    have := put_op (bx := bx) q 1 (by omega) (by omega) (by rw [h5]; rfl) (text vs (.un (q : Int) a)) (fun W u hW hu => by
     rw [hrl', List.drop_left] at hu;rcases text_un vs vs.length na q hq a hwa with ⟨rfl, h0, ht⟩ | ⟨h0, ht⟩
     ·rw [ht]; exact together_paren (pc vs a) u W hW hu (by show (text vs a).length <= _; omega) h0
     ·rw [ht]; exact together_un q hq (pc vs a) u W hW hu (by show (text vs a).length <= _; omega) h0) (by simp) hg hrow hbs (by rw [hrl]; omega)
    rw [hrl', List.take_left] at this;rw [hpush, push_row];exact this
  ·match st, ht, hwf, hlen, hrow, hrl, hst with
   | [], ht, _, _, _, _, _ => simp at ht; omega
   | [_], ht, _, _, _, _, _ => simp at ht; omega
   | b :: a :: r, ht, hwf, hlen, hrow, hrl, hst =>
    obtain ⟨q, rfl⟩ := Int.eq_ofNat_of_zero_le (show 0 <= o by omega);have hwa := hwf a (by simp);have hla := hlen a (by simp);have hwb := hwf b (by simp);have hlb := hlen b (by simp);have hpush : push (b :: a :: r) ((q : Int), 0) = .bin (q : Int) a b :: r := by
     unfold push;rw [if_neg (by show ¬ takes (q : Int) = 0; omega), if_neg (by show ¬ takes (q : Int) = 1; omega), if_pos (show takes (q : Int) = 2 from h5)]
    have hsplit : (b :: a :: r).reverse.map (pc vs) = r.reverse.map (pc vs) ++ [pc vs a, pc vs b] := by simp
    rw [hsplit] at hrow hrl;have hrl' : (r.reverse.map (pc vs) ++ [pc vs a, pc vs b]).length - 2 = (r.reverse.map (pc vs)).length := by simp
    have := put_op (bx := bx) q 2 (by omega) (by omega) (by rw [h5]; rfl) (text vs (.bin (q : Int) a b)) (fun W u hW hu => by
     rw [hrl', List.drop_left] at hu;by_cases hm : q = 9 \/ q = 10
     ·rw [text_two vs q hm]
      exact together_call q (by omega) [pc vs a, pc vs b] u W hW hu (by simp) (by simp) (by
       simp only [List.map_cons, List.map_nil, Lib.join, List.intercalate, pc];simp;omega)
     ·rw [text_bin vs vs.length na q (by omega) a b hwa hwb]
      exact together_bin q (by omega) (pc vs a) (pc vs b) u W hW hu (by show (text vs a).length <= _; omega) (by show (text vs b).length <= _; omega)) (by simp) hg hrow hbs (by rw [hrl]; omega)
    rw [hrl', List.take_left] at this;rw [hpush, push_row];exact this
  ·subst h
   match st, ht, hwf, hlen, hrow, hrl, hst with
   | [], ht, _, _, _, _, _ => simp at ht; omega
   | [_], ht, _, _, _, _, _ => simp at ht; omega
   | [_, _], ht, _, _, _, _, _ => simp at ht; omega
   | c :: b :: a :: r, ht, hwf, hlen, hrow, hrl, hst =>
    have hla := hlen a (by simp);have hlb := hlen b (by simp);have hlc := hlen c (by simp);have hpush : push (c :: b :: a :: r) (16, 0) = .ite a b c :: r := rfl;have hsplit : (c :: b :: a :: r).reverse.map (pc vs) = r.reverse.map (pc vs) ++ [pc vs a, pc vs b, pc vs c] := by simp
    rw [hsplit] at hrow hrl;have hrl' : (r.reverse.map (pc vs) ++ [pc vs a, pc vs b, pc vs c]).length - 3 = (r.reverse.map (pc vs)).length := by simp
    have := put_op (bx := bx) 16 3 (by omega) (by omega) (by decide) (text vs (.ite a b c)) (fun W u hW hu => by
     rw [hrl', List.drop_left] at hu;rw [text_three];exact together_call 16 (by omega) [pc vs a, pc vs b, pc vs c] u W hW hu (by simp) (by simp) (by
      simp only [List.map_cons, List.map_nil, Lib.join, List.intercalate, pc];simp;omega)) (by simp) hg hrow hbs (by rw [hrl]; omega)
    rw [hrl', List.take_left] at this;rw [hpush, push_row];exact this
  ·omega
end Go.Proofs.YtjcajeehgjpmmaaGreatDoor.I
namespace Go.Proofs.YtjcajeehgjpmmaaGreatDoor.E
open Go
set_option linter.unusedVariables false
theorem crun_at (nv na : Int) (code : List In) (k : Nat) (i : In) (hi : code[k]? = some i) (h z : Int) (hc : crun nv na (code.drop k) h = .ok z) :
 0 <= takes i.1 /\ right i nv na = true /\ takes i.1 <= h /\ crun nv na (code.drop (k + 1)) (h - takes i.1 + 1) = .ok z := by
 obtain ⟨hk, e⟩ := List.getElem?_eq_some_iff.1 hi;rw [List.drop_eq_getElem_cons hk, e] at hc;simp only [crun, cstep] at hc;split at hc
 ·cases hc
 ·split at hc
  ·cases hc
  ·split at hc
   ·cases hc
   ·rename_i h1 h2 h3
    exact ⟨by omega, by simpa using h2, by omega, hc⟩
end Go.Proofs.YtjcajeehgjpmmaaGreatDoor.E
namespace Go.Proofs.YtjcajeehgjpmmaaGreatDoor.I
open Go Go.RowKit B K E
set_option linter.unusedVariables false
theorem putter_any (v1 : Value) (h1 : ∃ a n c, v1 = .slice a n c) (w : World) : Calls Tryz.prog 121 #[v1] w fun e w' => e = .returned (.func (.func 156) #[] #[.pointer (some ⟨w.heap.size, 0, none⟩)]) /\ w' = w.alloc (.cells #[v1] 22) := by
 obtain ⟨a, n, c, rfl⟩ := h1;go_enter Tryz.func121, Tryz.ntmps121;go_wp2_with fail;go_ret;exact ⟨rfl, rfl⟩
theorem push_ok (nv na : Int) (st : List Ex) (i : In) (hr : right i nv na = true) (ht0 : 0 <= takes i.1) (ht : takes i.1 <= (st.length : Int)) (hwf : ∀ e ∈ st, WF nv na e) :
 (∀ e ∈ push st i, WF nv na e) /\ flat (push st i) = flat st ++ [i] /\ ((push st i).length : Int) = (st.length : Int) - takes i.1 + 1 := by
 obtain ⟨o, x⟩ := i;simp only at ht0 ht;have key : ∀ (e : Ex) (r : List Ex), push st (o, x) = e :: r -> WF nv na e -> (∀ e ∈ r, WF nv na e) -> flat (e :: r) = flat st ++ [(o, x)] -> ((r.length : Nat) : Int) = st.length - takes o ->
  (∀ e ∈ push st (o, x), WF nv na e) /\ flat (push st (o, x)) = flat st ++ [(o, x)] /\ ((push st (o, x)).length : Int) = (st.length : Int) - takes o + 1 := by
  intro e r h1 h2 h3 h4 h5;rw [h1];refine ⟨fun e' he => ?_, h4, by rw [List.length_cons]; omega⟩;rcases List.mem_cons.1 he with rfl | h
  ·exact h2
  ·exact h3 e' h
 rcases right_cases (o, x) nv na hr with ⟨h1, h2⟩ | ⟨h1, h2, h3⟩ | ⟨h1, h2, h3⟩ | ⟨n1, n2, n3, h4⟩
 ·simp only at h1 h2; subst h1
  exact key (.con x) st rfl h2 hwf (by rw [flat_cons]; rfl) (by rw [show takes 1 = 0 from by decide]; omega)
 ·simp only at h1 h2 h3; subst h1
  obtain ⟨k, rfl⟩ := Int.eq_ofNat_of_zero_le h2;exact key (.var k) st rfl h3 hwf (by rw [flat_cons]; rfl) (by rw [show takes 2 = 0 from by decide]; omega)
 ·simp only at h1 h2 h3; subst h1
  obtain ⟨k, rfl⟩ := Int.eq_ofNat_of_zero_le h2;exact key (.arg k) st rfl h3 hwf (by rw [flat_cons]; rfl) (by rw [show takes 3 = 0 from by decide]; omega)
 ·simp only at n1 n2 n3 h4; subst h4
  rcases takes_is o with ⟨h, _⟩ | ⟨h, h5⟩ | ⟨h, h5⟩ | ⟨h, h5⟩ | ⟨_, h5⟩
  ·omega
  ·match st, ht, hwf with
   | [], ht, _ => simp at ht; omega
   | a :: r, ht, hwf =>
    exact key (.un o a) r (by rcases h with rfl | rfl <;> rfl) ⟨h, hwf a (by simp)⟩ (fun e he => hwf e (by simp [he])) (by rw [flat_cons, flat_cons]; simp [codeOf]) (by rw [h5, List.length_cons]; omega)
  ·match st, ht, hwf with
   | [], ht, _ => simp at ht; omega
   | [_], ht, _ => simp at ht; omega
   | b :: a :: r, ht, hwf =>
    exact key (.bin o a b) r (by
     unfold push;rw [if_neg (by show ¬ takes o = 0; omega), if_neg (by show ¬ takes o = 1; omega), if_pos (show takes o = 2 from h5)]) ⟨h5, hwf a (by simp), hwf b (by simp)⟩ (fun e he => hwf e (by simp [he])) (by rw [flat_cons, flat_cons, flat_cons]; simp [codeOf]) (by rw [h5]; simp only [List.length_cons]; omega)
  ·subst h
   match st, ht, hwf with
   | [], ht, _ => simp at ht; omega
   | [_], ht, _ => simp at ht; omega
   | [_, _], ht, _ => simp at ht; omega
   | c :: b :: a :: r, ht, hwf =>
    exact key (.ite a b c) r rfl ⟨hwf a (by simp), hwf b (by simp), hwf c (by simp)⟩ (fun e he => hwf e (by simp [he])) (by rw [flat_cons, flat_cons, flat_cons, flat_cons]; simp [codeOf]) (by rw [h5]; simp only [List.length_cons]; omega)
  ·omega
theorem flat_mem (st : List Ex) (e : Ex) (h : e ∈ st) : (codeOf e).length <= (flat st).length := by
 induction st with
 | nil => cases h
 | cons a r ih =>
  rw [flat_cons, List.length_append];rcases List.mem_cons.1 h with rfl | h
  ·omega
  ·have := ih h; omega
set_option maxHeartbeats 4000000 in
set_option maxRecDepth 100000 in
theorem show_any (code : List In) (vs : List Bs) (na : Int) (v v1 : Value) (w : World) (hg : Glob w) (hs : SlI w v code) (hn : Names w v1 vs) (hl : code.length <= 9223372036854775807) (hvl : vs.length <= 1000000) (hna : na <= 9223372036854775807) (hV : ∀ s ∈ vs, s.length <= 1099511627776) :
 Calls Tryz.prog 74 #[v, v1, .int .i64 na] w fun e w' => e = .returned (.tuple #[sv (showOf vs na code).1, .int .i64 (showOf vs na code).2]) /\ Below w.heap.size w w' := by
 have HS := Lib.hid hs;have HNM := Lib.hid hn;have HG := Lib.hid hg;have HV := Lib.hid hV;have HVL := Lib.hid hvl;have HNA := Lib.hid hna;obtain ⟨a, cap, rfl, -⟩ := hs;obtain ⟨a1, cap1, rfl⟩ : ∃ a1 cap1, v1 = .slice a1 vs.length cap1 := by
  obtain ⟨a1, cap1, rfl, _⟩ := hn;rw [List.length_map];exact ⟨a1, cap1, rfl⟩
 have hck := check_any code (.slice a code.length cap) vs.length na w HS.out hl;obtain ⟨⟨p, er⟩, hE⟩ : ∃ t, check code vs.length na = t := ⟨_, rfl⟩;have her : (check code vs.length na).2 = er := by rw [hE]
 rw [hE] at hck;have HCK := Lib.hid hck;clear hck hE hn hg hV hvl hna;by_cases he : er = 0
 ·subst he
  have hsh := showOf_good vs na code her;obtain ⟨hw, hcode⟩ := exOf_is code vs.length na her;obtain ⟨_, _, h31, hcr⟩ := check_ok code _ _ her;have hall : code.foldl push [] = [exOf code] := by
   have h := push_code vs.length na (exOf code) hw [];rw [hcode] at h;exact h
  rw [hsh];obtain ⟨E0, hE0⟩ : ∃ E0, exOf code = E0 := ⟨_, rfl⟩;rw [hE0] at hall ⊢;have HALL := Lib.hid hall;have HCR := Lib.hid hcr;have HPT := Lib.hid (fun W => putter_any (.slice a1 vs.length cap1) ⟨_, _, _, rfl⟩ W);obtain ⟨n, hN⟩ : ∃ n, code.length = n := ⟨_, rfl⟩;obtain ⟨nv, hNV⟩ : ∃ nv, vs.length = nv := ⟨_, rfl⟩;rw [hN] at HCK h31 HS ⊢;rw [hNV] at HCK HPT HNM ⊢;have HN := Lib.hid hN;have HNV := Lib.hid hNV;have HL := Lib.hid h31;clear hsh hw hcode hcr her hall hE0 hN hNV h31 hl;unfold sv;go_enter Tryz.func74, Tryz.ntmps74;go_wp2_with (first | (go_at_call 120; refine HCK.out.mono ?_; rintro _ w1 ⟨rfl, hb1⟩; have HB1 := Lib.hid hb1; clear hb1) | (go_at_call 121; refine (HPT.out _).mono ?_; rintro _ w2 ⟨rfl, hw2⟩; have HW2 := Lib.hid hw2; clear hw2))
  have hw2 := HW2.out;have hb2 : Below w.heap.size w w2 := by rw [hw2]; exact HB1.out.alloc HB1.out.size _
  have hbx : w2.cell? ⟨w1.heap.size, 0, none⟩ = some (.slice a1 nv cap1) := by
   rw [hw2, cell_of_row _ _ _ _ _ _ (heap_alloc_at w1 _)]; rfl
  have hlt2 : w1.heap.size < w2.heap.size := by rw [hw2]; simp
  have HB2 := Lib.hid hb2;have HBX := Lib.hid hbx;have HLT := Lib.hid hlt2;clear hw2 hb2 hbx hlt2 HCK HPT HB1 HW2;go_loopw [11, 29] (fun l k wr => ∃ (K : Nat) (st : List Ex), k = .int .i64 (K : Int) /\ K <= n /\ Hid (RowP wr w2.heap.size l (st.reverse.map (pc vs))) /\ Hid (st = (code.take K).foldl push [] /\ flat st = code.take K /\ st.length <= K) /\ Hid (∀ e ∈ st, WF vs.length na e) /\ Hid (crun vs.length na (code.drop K) (st.length : Nat) = .ok 1) /\ Hid (Below w2.heap.size w2 wr)) (fun _ k _ => n - (intOf k).toNat)
  case atStart => exact ⟨0, [], rfl, Nat.zero_le _, Lib.hid (World.ownsRow_nil _ _ _ _), Lib.hid ⟨rfl, rfl, Nat.le_refl _⟩, Lib.hid (fun e h => by cases h), HCR, Lib.hid (Below.refl _ _)⟩
  case round =>
   obtain ⟨K, st, rfl, hK, HRW, HST, HWF, HC, HBE⟩ := hrel;by_cases hlt : K < n
   ·obtain ⟨⟨o, x⟩, hi⟩ : ∃ i, code[K]? = some i := ⟨_, List.getElem?_eq_getElem (by rw [HN.out]; exact hlt)⟩
    obtain ⟨h1, h2, h3, h4⟩ := crun_at _ _ _ _ _ hi _ _ HC.out;obtain ⟨q1, q2, q3⟩ := push_ok vs.length na st (o, x) h2 h1 h3 HWF.out;have hbw : Below w.heap.size w _ := HB2.out.trans (HBE.out.mono HB2.out.size);obtain ⟨b, off, rfl, k0, k1⟩ := (HS.out.below hbw).at hi;have hltI : (K : Int) < (n : Int) := by omega
    have hwK : IntKind.i64.wrap ((K : Int) + 1) = (K : Int) + 1 := IntWalk.i64_in _ (by have := HL.out; omega);obtain ⟨X, hX⟩ : ∃ X, (Obj.cells #[.int .i64 o, .int .i64 x] 100 (0, 0)) = X := ⟨_, rfl⟩;have hlen : ∀ e ∈ st, (text vs e).length <= 35184372088832 := by
     intro e he;have t1 := text_le vs 1099511627776 vs.length na HNA.out HV.out e (HWF.out e he);have t2 := flat_mem st e he;rw [HST.out.2.1, List.length_take] at t2;have t3 := HL.out;have t4 : (codeOf e).length <= 31 := by omega
     have t5 := Nat.mul_le_mul_left (1099511627776 + 40) t4;omega
    have hal := (Below.refl wr.heap.size wr).alloc (Nat.le_refl _) X;have hbw2 : Below w.heap.size w (wr.alloc X) := hbw.trans (hal.mono hbw.size);have hgw := HG.out.below hbw2;have hbxw : (wr.alloc X).cell? ⟨w1.heap.size, 0, none⟩ = some (.slice a1 nv cap1) :=
     cell_kept hal (((bcell HBE.out).1 _ _ HLT.out).trans HBX.out)
    have HSTEP := Lib.hid (step_any (base := w2.heap.size) (bx := w1.heap.size) vs na st (o, x) HNA.out h2 h1 h3 HWF.out hlen (by have := HST.out.2.2; have := HL.out; omega) (Sl.below HNM.out hbw2) HVL.out (fun s hs => by have := HV.out s hs; omega) hgw hbxw (HRW.out.below hal) (by have := HBE.out.size; simp; omega));have HNEXT := Lib.hid (show push st (o, x) = (code.take (K + 1)).foldl push [] /\ flat (push st (o, x)) = code.take (K + 1) /\ (push st (o, x)).length <= K + 1 by
     refine ⟨by rw [List.take_add_one, hi, List.foldl_append, <- HST.out.1]; rfl, by rw [q2, HST.out.2.1, List.take_add_one, hi]; rfl, ?_⟩;have := HST.out.2.2;omega)
    have HWF2 := Lib.hid q1;have HC2 := Lib.hid (show crun vs.length na (code.drop (K + 1)) ((push st (o, x)).length : Nat) = .ok 1 by rw [q3]; exact h4);have HBAL := Lib.hid (show Below w2.heap.size w2 (wr.alloc X) from HBE.out.alloc HBE.out.size X);subst hX;clear hi h1 h2 h3 h4 q1 q2 q3 hlen hal hbw2 hgw hbxw hbw;go_wp2_with (go_at_call 156; refine HSTEP.out.mono ?_; rintro _ w5 ⟨⟨v5, rfl, hr5⟩, hb5⟩; have HR5 := Lib.hid hr5; have HB5 := Lib.hid (HBAL.out.trans hb5); clear hr5 hb5)
    go_roundw
    case rel => exact ⟨K + 1, push st (o, x), by go_num, by omega, HR5, HNEXT, HWF2, HC2, HB5⟩
    case measure => simp [intOf]; omega
   ·have hltI : ¬ (K : Int) < (n : Int) := by omega
    obtain rfl : K = n := by omega
    have hst := HST.out.1;rw [List.take_of_length_le (by rw [HN.out]; exact Nat.le_refl _), HALL.out] at hst;subst hst;obtain ⟨g, cp, hv, _, _, _, _, hcells⟩ := row_form HRW.out (by simp);obtain ⟨k0, _⟩ := hcells 0 (pc vs E0) rfl;rw [show ([E0].reverse.map (pc vs)).length = 1 from rfl] at hv;subst hv;rw [Nat.zero_mul] at k0;have k0' : wr.cell? ⟨g, 0, none⟩ = some (.string (str (text vs E0))) := k0;clear k0 hcells HRW HST HWF HC;go_wp2_with fail;go_ret2;exact ⟨rfl, HB2.out.trans (HBE.out.mono HB2.out.size)⟩
 ·have hsh := showOf_bad vs na code (by rw [her]; exact he)
  rw [her] at hsh;rw [hsh];have be : (er != 0) = true := by simp [he]
  clear he hsh her;unfold sv;go_enter Tryz.func74, Tryz.ntmps74;go_wp2_with (go_at_call 120; refine HCK.out.mono ?_; rintro _ w1 ⟨rfl, hb1⟩; have HB1 := Lib.hid hb1; clear hb1)
  go_ret2;exact ⟨rfl, HB1.out⟩
end Go.Proofs.YtjcajeehgjpmmaaGreatDoor.I
