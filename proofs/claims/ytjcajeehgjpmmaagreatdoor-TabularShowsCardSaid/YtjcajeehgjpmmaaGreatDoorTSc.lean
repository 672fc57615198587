/-
  Layer 6: the lines ahead of the rules, shown.
-/
import Derived.Test.YtjcajeehgjpmmaaGreatDoorTPs
namespace Go.Proofs.YtjcajeehgjpmmaaGreatDoor.T
open Go Go.RowKit B K E R
set_option linter.unusedVariables false
theorem tb_empty (w : World) : TbIs w [.slice none 0 0, .slice none 0 0, .slice none 0 0, .slice none 0 0] empty := ⟨_, _, _, _, rfl, Sl.nil _, Sl.nil _, Sl.nil _, SlOf.nil _ _ _⟩
def PaOut (RC : Nat) (w : World) (t : Tb) (n : Nat) (e : Int) (z : Ending) (w' : World) : Prop :=
 ∃ a b c d, z = .returned (.tuple #[.agg #[a, b, c, d], .int .i64 n, .int .i64 e]) /\ Below w.heap.size w w' /\ TbIs w' [a, b, c, d] t
section
variable {w : World}
set_option maxHeartbeats 8000000 in
set_option maxRecDepth 100000 in
theorem parse_any {ip : Ip} (hip : IpOk ip) (s : Bs) (hs : s.length < 4294967281) (hg : Globs w) {t : Tb} {n : Nat} {e : Int} (hp : parseT ip s = some (t, n, e)) :
 Calls Tryz.prog 10 #[sv s] w (PaOut w.heap.size w t n e) := by
 have hsz : (str s).size = s.length := str_size s;obtain ⟨k, hk⟩ : ∃ k, s.length = k := ⟨_, rfl⟩;have HS := Lib.hid (show (str s).size = k /\ k < 4294967281 by omega);have HP := Lib.hid hp;have HK := Lib.hid hk;have HG := Lib.hid hg;have HSP := Lib.hid (fun W => split_any s W hs);obtain ⟨L, hL⟩ : ∃ L, cutL s [] = L := ⟨_, rfl⟩;rw [hL] at HSP;have HL := Lib.hid hL;rw [hk] at hsz;unfold sv at HSP ⊢;by_cases hb : 8192 < k
 ·have e0 : t = empty /\ n = 0 /\ e = 4 := by
   unfold parseT at hp;rw [if_pos (by omega)] at hp;cases hp
   exact ⟨rfl, rfl, rfl⟩
  obtain ⟨rfl, rfl, rfl⟩ := e0;clear hs hp hk hg hL;go_enter Tryz.func10, Tryz.ntmps10;go_wp2_with fail;go_step3
  go_wp2_with fail;try rw [Exit.noGoto_ret]
  refine bodyPost_ret (v := .tuple #[.agg #[.slice none 0 0, .slice none 0 0, .slice none 0 0, .slice none 0 0], .int .i64 0, .int .i64 4]) (by simp [results, Tryz.results10, go_sem]) rfl ⟨_, _, _, _, rfl, grown_new w _, tb_empty _⟩
 ·have hl8 := cutL_len s.length s (Nat.le_refl _)
  rw [hL] at hl8;have hLn : L.length <= 8193 /\ ∀ x ∈ L, x.length <= 8192 := ⟨by omega, fun x hx => by have := hl8.2 x hx; omega⟩;have HLN := Lib.hid hLn;have hpr : readL ip L 0 empty 0 = some (t, n, e) := by
   unfold parseT at hp;rw [if_neg (by omega), hL] at hp;exact hp
  have HR := Lib.hid hpr;clear hs hp hk hg hL hl8 hLn hpr;obtain ⟨RC, hRC⟩ : ∃ RC, w.heap.size = RC := ⟨_, rfl⟩;obtain ⟨l, hl⟩ : ∃ l, L.length = l := ⟨_, rfl⟩;rw [hl] at HSP;have HLL := Lib.hid hl;clear hl;go_enter Tryz.func10, Tryz.ntmps10;go_wp2_with fail;go_step3
  go_upto_region 4 with fail
  go_wp2_with (go_at_call 23; refine (HSP.out _).mono ?_; rintro _ w2 ⟨rfl, rfl⟩)
  go_step3
  go_wp2_with fail;have HJ0 := Lib.hid (ps_start (ip := ip) (L := L) w HG.out RC hRC);obtain ⟨W0, hW0⟩ : ∃ W, ((w.alloc (.cells #[.slice none 0 0, .slice none 0 0, .slice none 0 0, .slice none 0 0] 26)).alloc (.cells #[.slice none 0 0, .slice none 0 0, .slice none 0 0, .slice none 0 0, .int .i64 0, .map none, .map none] 66)).alloc (.cells (L.map sv).toArray 9) = W := ⟨_, rfl⟩;rw [hW0] at HJ0;unfold sv at hW0;rw [hW0];have HRC := Lib.hid hRC;clear hW0 hRC hsz HSP;go_loopg [19] (l) (fun g i wr => ∃ (n1 : Nat) (t1 : Tb) (said : Nat) (q1 : Dq), i = .int .i64 (n1 : Int) /\ n1 + g = l /\ Hid (PsJ (RC + 1) (RC + 1 + 1) RC ip L w n1 t1 said q1 wr))
  case atStart => exact ⟨0, _, _, _, rfl, by omega, HJ0⟩
  case round =>
   obtain ⟨n1, t1, said, q1, rfl, hng, HJ⟩ := hrel;have hl8 : l <= 8193 := by have := HLN.out; have := HLL.out; omega
   by_cases hlt : n1 < l
   ·have hltI : (n1 : Int) < (l : Int) := by omega
    have hk0 : 0 <= (n1 : Int) := by omega
    obtain ⟨x, hx⟩ : ∃ x, L[n1]? = some x := ⟨_, List.getElem?_eq_getElem (by rw [HLL.out]; exact hlt)⟩;have hc1 : wr.cell? ⟨RC + 1 + 1, n1, none⟩ = some (.string (str x)) := by
     rw [cell_of_row _ _ _ _ _ _ HJ.out.ln];simp [hx, sv]
    have HX := Lib.hid hx;have hxl := HLN.out.2 x (List.mem_of_getElem? hx);have HXL := Lib.hid hxl;have HNL := Lib.hid (newLine_any x wr (by omega));obtain ⟨y, hy⟩ : ∃ y, trim x = y := ⟨_, rfl⟩;rw [hy] at HNL;have HY := Lib.hid hy;unfold sv at HNL;clear hx hxl hy;go_upto_region 9 with (go_at_call 24; refine HNL.out.mono ?_; rintro _ w1 ⟨rfl, hb1⟩; have HB1 := Lib.hid hb1; clear hb1)
    have hLB : wr.heap.size <= w1.heap.size := HB1.out.size;have hb2 : Below wr.heap.size wr (w1.alloc (.cells #[.string (str y)] 69)) := HB1.out.trans ((grown_new w1 _).mono hLB);have hl2 : LnAt (w1.alloc (.cells #[.string (str y)] 69)) w1.heap.size y := ⟨by rw [cell_of_row _ _ _ _ _ _ (heap_alloc_at w1 _)]; rfl, (row_cell (heap_alloc_at w1 _) (by simp)).choose_spec.2⟩;have hLB2 : w1.heap.size < (w1.alloc (.cells #[.string (str y)] 69)).heap.size := by simp
    obtain ⟨W2, hW2⟩ : ∃ W, w1.alloc (.cells #[.string (str y)] 69) = W := ⟨_, rfl⟩;rw [hW2] at hb2 hl2 hLB2 ⊢;obtain ⟨LB, hLBe⟩ : ∃ LB, w1.heap.size = LB := ⟨_, rfl⟩;rw [hLBe] at hLB hl2 hLB2 ⊢;have HB2 := Lib.hid hb2;have HL2 := Lib.hid hl2;have HLB := Lib.hid (And.intro hLB hLB2);have HE := Lib.hid (ended_any LB y W2 hl2.cell);have hyl : y.length <= 8192 := by rw [<- HY.out]; exact Nat.le_trans (trim_le x) HXL.out
    have HYL := Lib.hid hyl;clear hb2 hLB hLB2 hW2 hLBe HB1 HNL;cases hE : isE y with
    | true =>
     rw [hE] at HE;have hj := HJ.out.skip HX.out (HY.out.trans (isE_yes hE)) HB2.out;have HJ1 := Lib.hid hj;clear hj hE hl2;go_wp2_with (go_at_call 25; refine HE.out.mono ?_; rintro _ w3 ⟨rfl, rfl⟩)
     go_roundg (l - (n1 + 1))
     case measure => omega
     case rel => exact ⟨n1 + 1, t1, said, q1, by go_num, by omega, HJ1⟩
    | false =>
     rw [hE] at HE;have hy0 := isE_no hE;have hur := HJ.out.unroll HX.out;rw [HR.out, HY.out, if_neg hy0] at hur;obtain ⟨o, ho⟩ : ∃ o, T.line ip t1 said y = some o := by
      cases hq : T.line ip t1 said y with
      | none => rw [hq] at hur; cases hur
      | some o => exact ⟨o, rfl⟩
     rw [ho] at hur;have HUR := Lib.hid hur;have HO := Lib.hid ho;have HY0 := Lib.hid hy0;have HRO := Lib.hid (fun m => readerOf_any hip y (HJ.out.cell HB2.out HLB.out HL2.out HYL.out (by have := HLN.out; have := HLL.out; omega) m) ho);have HWD := Lib.hid (word_any LB y (by omega) W2 HL2.out.cell HL2.out.frozen);unfold sv at HWD HRO;clear hE hy0 hur ho hl2 hyl;go_upto_region 11 with (first | (go_at_call 25; refine HE.out.mono ?_; rintro _ w3 ⟨rfl, rfl⟩) | (go_at_call 27; refine HWD.out.mono ?_; rintro _ w3 ⟨rfl, m3, rfl⟩) | (go_at_call 26; refine (HRO.out m3).mono ?_; rintro _ w4 ⟨N, caps, rfl, hent, hb4, hcall⟩; have HB4 := Lib.hid hb4; have HCL := Lib.hid hcall; clear hb4 hcall))
     unfold I.Ent at hent;go_wp2_with fail;refine HCL.out.mono ?_;rintro z5 w5 ⟨hc5, hout⟩;obtain ⟨k1, k2, k3, k4, k5⟩ := HJ.out.kept HB2.out HLB.out HB4.out hc5;have hrc5 := k1.heap HJ.out.rc k3;have HB5 := Lib.hid k2;cases o with
     | error e0 =>
      obtain ⟨rfl, he0⟩ := hout;have heb : (e0 != 0) = true := by simpa using he0
      have r0 : w5.cell? ⟨RC, 0, none⟩ = some (.slice none 0 0) := by rw [cell_of_row _ _ _ _ _ _ hrc5]; rfl
      have r1 : w5.cell? ⟨RC, 1, none⟩ = some (.slice none 0 0) := by rw [cell_of_row _ _ _ _ _ _ hrc5]; rfl
      have r2 : w5.cell? ⟨RC, 2, none⟩ = some (.slice none 0 0) := by rw [cell_of_row _ _ _ _ _ _ hrc5]; rfl
      have r3 : w5.cell? ⟨RC, 3, none⟩ = some (.slice none 0 0) := by rw [cell_of_row _ _ _ _ _ _ hrc5]; rfl
      have z0 : w5.frozen? ⟨RC, 0, none⟩ = false := (row_cell hrc5 (by simp)).choose_spec.2;have z1 : w5.frozen? ⟨RC, 1, none⟩ = false := (row_cell hrc5 (by simp)).choose_spec.2;have z2 : w5.frozen? ⟨RC, 2, none⟩ = false := (row_cell hrc5 (by simp)).choose_spec.2;have z3 : w5.frozen? ⟨RC, 3, none⟩ = false := (row_cell hrc5 (by simp)).choose_spec.2;have hgo : some (t, n, e) = some (empty, n1, e0) := HUR.out;cases hgo
      obtain ⟨f0, f1, f2, f3⟩ := four_set w5 RC (.slice none 0 0) (.slice none 0 0) (.slice none 0 0) (.slice none 0 0) r0 r1 r2 r3;have HRL := Lib.hid (World.block_lt_of_cell? w5 _ r0);clear k1 k2 k3 k4 k5 hrc5 hc5 he0 hent;go_wp2_with fail;try rw [Exit.noGoto_ret]
      refine bodyPost_ret (v := .tuple #[.agg #[.slice none 0 0, .slice none 0 0, .slice none 0 0, .slice none 0 0], .int .i64 n, .int .i64 e]) (by simp [results, Tryz.results10, go_sem, f0, f1, f2, f3]) rfl ⟨_, _, _, _, rfl, ?_, tb_empty _⟩;rw [HRC.out];exact HB5.out.trans ((four_chg w5 RC _ _ _ _).below (fun k hk => by omega) (Nat.le_of_lt HRL.out))
     | ok u =>
      obtain ⟨rfl, q5, hd5, hf5, g0, g1⟩ := hout;have d4 := hd5.cell 4 (v := .int .i64 (said : Int)) rfl;have z4 := hd5.frozen 4 (by decide);have hj := HJ.out.next HX.out (by rw [HY.out]; exact HY0.out) (by rw [HY.out]; exact HO.out) HXL.out HB2.out HLB.out HB4.out hd5 hf5 g0 g1
      have HJ1 := Lib.hid hj;have hw1 : IntKind.i64.wrap ((said : Int) + 1) = (said : Int) + 1 := IntWalk.i64_in _ (by have := HJ.out.le; have := HLN.out; have := HLL.out; omega);clear k1 k2 k3 k4 k5 hrc5 hc5 hent hd5 hf5 g0 g1 hj;go_wp2_with fail;go_roundg (l - (n1 + 1))
      case measure => omega
      case rel => exact ⟨n1 + 1, u, said + 1, q5, by go_num, by omega, HJ1⟩
   ·have hn1 : n1 = l := by omega
    subst hn1;have hle : ¬ ((n1 : Int) < (n1 : Int)) := by omega
    have d4 := HJ.out.dr.cell 4 (v := .int .i64 (said : Int)) rfl;have d0 := HJ.out.dr.cell 0 (v := q1.val .st) rfl;have d1 := HJ.out.dr.cell 1 (v := q1.val .va) rfl;have d2 := HJ.out.dr.cell 2 (v := q1.val .nu) rfl;have d3 := HJ.out.dr.cell 3 (v := q1.val .ru) rfl;have r0 : wr.cell? ⟨RC, 0, none⟩ = some (.slice none 0 0) := by rw [cell_of_row _ _ _ _ _ _ HJ.out.rc]; rfl
    have r1 : wr.cell? ⟨RC, 1, none⟩ = some (.slice none 0 0) := by rw [cell_of_row _ _ _ _ _ _ HJ.out.rc]; rfl
    have r2 : wr.cell? ⟨RC, 2, none⟩ = some (.slice none 0 0) := by rw [cell_of_row _ _ _ _ _ _ HJ.out.rc]; rfl
    have r3 : wr.cell? ⟨RC, 3, none⟩ = some (.slice none 0 0) := by rw [cell_of_row _ _ _ _ _ _ HJ.out.rc]; rfl
    have z0 : wr.frozen? ⟨RC, 0, none⟩ = false := (row_cell HJ.out.rc (by simp)).choose_spec.2;have z1 : wr.frozen? ⟨RC, 1, none⟩ = false := (row_cell HJ.out.rc (by simp)).choose_spec.2;have z2 : wr.frozen? ⟨RC, 2, none⟩ = false := (row_cell HJ.out.rc (by simp)).choose_spec.2;have z3 : wr.frozen? ⟨RC, 3, none⟩ = false := (row_cell HJ.out.rc (by simp)).choose_spec.2;have hgo := HJ.out.goes;rw [HR.out, List.drop_of_length_le (Nat.le_of_eq HLL.out), readL] at hgo;obtain ⟨a0, k0, hv0⟩ := own_shape5 (HJ.out.dr.rows.own .st);obtain ⟨a1, k1, hv1⟩ := own_shape5 (HJ.out.dr.rows.own .va);obtain ⟨a2, k2, hv2⟩ := own_shape5 (HJ.out.dr.rows.own .nu);obtain ⟨a3, k3, hv3⟩ := own_shape5 (HJ.out.dr.rows.own .ru);obtain ⟨l0, hl0⟩ : ∃ k, (ent q1 t1 .st).n = k := ⟨_, rfl⟩;obtain ⟨l1, hl1⟩ : ∃ k, (ent q1 t1 .va).n = k := ⟨_, rfl⟩;obtain ⟨l2, hl2⟩ : ∃ k, (ent q1 t1 .nu).n = k := ⟨_, rfl⟩;obtain ⟨l3, hl3⟩ : ∃ k, (ent q1 t1 .ru).n = k := ⟨_, rfl⟩;rw [hl0] at hv0;rw [hl1] at hv1;rw [hl2] at hv2;rw [hl3] at hv3;rw [hv0] at d0;rw [hv1] at d1;rw [hv2] at d2;rw [hv3] at d3;have HV := Lib.hid (And.intro hv0 (And.intro hv1 (And.intro hv2 hv3)));have HRL := Lib.hid (World.block_lt_of_cell? wr _ r0);have HBL := Lib.hid HJ.out.bel;have HTB := Lib.hid (fun w' hc => HJ.out.dr.table_skip (R := RC) (w' := w') (by omega) (fun o c hcell => by
     rw [cell_of_row _ _ _ _ _ _ HJ.out.rc] at hcell;rcases o with _ | _ | _ | _ | o
     ·cases hcell; rfl
     ·cases hcell; rfl
     ·cases hcell; rfl
     ·cases hcell; rfl
     ·cases hcell) hc)
    rw [hv0, hv1, hv2, hv3] at HTB;clear hv0 hv1 hv2 hv3 hl0 hl1 hl2 hl3;by_cases h2 : said < 2
    ·have h2I : (said : Int) < 2 := by omega
     rw [if_pos h2] at hgo;cases hgo
     obtain ⟨f0, f1, f2, f3⟩ := four_set wr RC (.slice none 0 0) (.slice none 0 0) (.slice none 0 0) (.slice none 0 0) r0 r1 r2 r3;go_wp2_with fail;try rw [Exit.noGoto_ret]
     refine bodyPost_ret (v := .tuple #[.agg #[.slice none 0 0, .slice none 0 0, .slice none 0 0, .slice none 0 0], .int .i64 n, .int .i64 6]) (by simp [results, Tryz.results10, go_sem, f0, f1, f2, f3]) rfl ⟨_, _, _, _, rfl, ?_, tb_empty _⟩;rw [HRC.out];exact HBL.out.trans ((four_chg wr RC _ _ _ _).below (fun k hk => by omega) (Nat.le_of_lt HRL.out))
    ·have h2I : ¬ (said : Int) < 2 := by omega
     rw [if_neg h2] at hgo;cases hgo
     obtain ⟨f0, f1, f2, f3⟩ := four_set wr RC (.slice a0 l0 k0) (.slice a1 l1 k1) (.slice a2 l2 k2) (.slice a3 l3 k3) r0 r1 r2 r3;go_wp2_with fail;try rw [Exit.noGoto_ret]
     refine bodyPost_ret (v := .tuple #[.agg #[.slice a0 l0 k0, .slice a1 l1 k1, .slice a2 l2 k2, .slice a3 l3 k3], .int .i64 0, .int .i64 0]) (by simp [results, Tryz.results10, go_sem, f0, f1, f2, f3]) rfl ⟨_, _, _, _, rfl, ?_, HTB.out _ (four_chg wr RC _ _ _ _)⟩;rw [HRC.out];exact HBL.out.trans ((four_chg wr RC _ _ _ _).below (fun k hk => by omega) (Nat.le_of_lt HRL.out))
end
theorem join_nil (a : Option Addr) (cap : Nat) (sep : ByteArray) (w : World) : Calls Tryz.prog 15 #[.slice a 0 cap, .string sep] w fun e w' => e = .returned (sv []) /\ Below w.heap.size w w' := by
 go_enter Tryz.func15, Tryz.ntmps15;go_wp2_with fail;go_ret;exact ⟨rfl, Below.refl _ _⟩
theorem str_all (xs : List Bs) : (xs.map str).map (·.data.toList) = xs := by
 rw [List.map_map];have : (((·.data.toList) : ByteArray -> Bs) ∘ str) = id := by funext x; exact str_data x
 rw [this, List.map_id]
theorem join_any (a : Option Addr) (cap : Nat) (xs : List Bs) (sep : Bs) (w : World) (hs : Sl w (.slice a xs.length cap) (xs.map sv)) (hcap : xs.length <= cap) (hn : xs.length <= 140737488355328) (hl : (Lib.join xs sep).length <= 140737488355328) :
 Calls Tryz.prog 15 #[.slice a xs.length cap, sv sep] w fun e w' => e = .returned (sv (Lib.join xs sep)) /\ Below w.heap.size w w' := by
 cases xs with
 | nil => exact join_nil a cap (str sep) w
 | cons x r =>
  obtain ⟨b, off, rfl, h0⟩ := hs.at (u := sv x) (j := 0) rfl;have h := S.strings_Join b off cap ((x :: r).map str) (str sep) w (fun j y hy => by
   rw [List.getElem?_map] at hy;obtain ⟨z, hz, rfl⟩ := Option.map_eq_some_iff.1 hy;obtain ⟨b', off', e, hc⟩ := hs.at (u := sv z) (j := j) (by rw [List.getElem?_map, hz]; rfl);cases e
   exact hc) (World.block_lt_of_cell? w _ h0) (by rw [List.length_map]; exact hn) (by rw [List.length_map]; exact hcap) (by rw [str_all, str_data]; exact hl)
  rw [str_all, str_data, List.length_map] at h;exact h
structure Bx (w : World) (bt br : Nat) (s x n r nm ar f g p : Value) : Prop where
 tb : w.heap[bt]? = some (.cells #[s, x, n, r] 26 (0, 0))
 rl : w.heap[br]? = some (.cells #[nm, ar, f, g, p] 44 (0, 0))
set_option maxRecDepth 100000 in
theorem shower1_any {w : World} {bt br : Nat} {s x n r nm f g p : Value} {args : Int} (hb : Bx w bt br s x n r nm (.int .i64 args) f g p) (vs : List Bs) (hx : I.Names w x vs) (hg : I.Glob w) (hvl : vs.length <= 1000000) (hna : args <= 9223372036854775807) (hV : ∀ s ∈ vs, s.length <= 1099511627776)
 (v : Value) (code : List In) (hc : SlI w v code) (hl : code.length <= 9223372036854775807) :
 Calls Tryz.prog 73 #[v, .pointer (some ⟨bt, 0, none⟩), .pointer (some ⟨br, 0, none⟩)] w fun z w' => z = .returned (sv (I.showOf vs args code).1) /\ Below w.heap.size w w' := by
 have HS := Lib.hid (I.show_any code vs args v x w hg hc hx hl hvl hna hV);have c1 : w.cell? ⟨bt, 1, none⟩ = some x := by rw [cell_of_row _ _ _ _ _ _ hb.tb]; rfl
 have c2 : w.cell? ⟨br, 1, none⟩ = some (.int .i64 args) := by rw [cell_of_row _ _ _ _ _ _ hb.rl]; rfl
 obtain ⟨ac, cc, rfl, -⟩ := hc;obtain ⟨ax, cx, rfl, -⟩ := hx;obtain ⟨lx, hlx⟩ : ∃ l, (vs.map sv).length = l := ⟨_, rfl⟩;rw [hlx] at HS c1;obtain ⟨lc, hlc⟩ : ∃ l, code.length = l := ⟨_, rfl⟩;rw [hlc] at HS ⊢;obtain ⟨a1, ha1⟩ : ∃ a, (I.showOf vs args code).1 = a := ⟨_, rfl⟩;obtain ⟨a2, ha2⟩ : ∃ a, (I.showOf vs args code).2 = a := ⟨_, rfl⟩;rw [ha1, ha2] at HS;rw [ha1];unfold sv at HS ⊢;clear hb hg hvl hna hV hl ha1 ha2 hlx hlc;go_enter Tryz.func73, Tryz.ntmps73;go_wp2_with (go_at_call 74; refine HS.out.mono ?_; rintro _ w1 ⟨rfl, hb1⟩; have HB1 := Lib.hid hb1; clear hb1)
 go_ret;exact ⟨rfl, HB1.out⟩
theorem shower_any (w : World) (s x n r nm ar f g p : Value) :
 Calls Tryz.prog 35 #[.agg #[s, x, n, r], .agg #[nm, ar, f, g, p]] w fun z w' => z = .returned (.func (.func 73) #[] #[.pointer (some ⟨w.heap.size, 0, none⟩), .pointer (some ⟨w.heap.size + 1, 0, none⟩)]) /\
  w' = (w.alloc (.cells #[s, x, n, r] 26)).alloc (.cells #[nm, ar, f, g, p] 44) := by
 go_enter Tryz.func35, Tryz.ntmps35;go_wp2_with fail;go_ret;exact ⟨rfl, rfl⟩
theorem grown_al (w : World) (o : Obj) : Below w.heap.size w (w.alloc o) := (Below.refl _ _).alloc (Nat.le_refl _) _
theorem join_behind (x : Bs) (l : List Bs) : Lib.join (x :: l) [32] = x ++ behind l := by
 rw [Lib.join_cons];unfold Lib.joinTail behind;rw [List.flatMap_def];rfl
theorem row_built (w : World) (base n : Nat) (xs : List Value) (T : TypeId) (hb : base <= w.heap.size) (hn : xs.length = n) (hm : n <= maxLen) : (w.alloc (.cells xs.toArray T)).ownsRow base T 1 (.slice (some ⟨w.heap.size, 0, none⟩) n n) n xs :=
 ⟨by omega, Or.inr ⟨w.heap.size, n, xs.toArray, rfl, hb, heap_alloc_at w _, Nat.le_refl _, hm, by simp [hn], by rw [Nat.mul_one, <- hn, List.take_length]⟩⟩
structure HdJ (w : World) (s x n r nm ar f g p : Value) (rows : List Bs) (v : Value) (wr : World) : Prop where
 own : wr.ownsRow (w.heap.size + 1 + 1) 9 1 v rows.length (rows.map sv)
 bel : Below w.heap.size w wr
 bx : Bx wr w.heap.size (w.heap.size + 1) s x n r nm ar f g p
section
variable {w : World} {s x n r nm ar f g p : Value} {rows : List Bs} {v : Value} {wr w2 : World}
theorem Bx.below {w w' : World} {bt br : Nat} (h : Bx w bt br s x n r nm ar f g p) (hb : Below w.heap.size w w') : Bx w' bt br s x n r nm ar f g p :=
 ⟨(Chg.of (S := fun _ => False) hb).heap h.tb (fun h => h), (Chg.of (S := fun _ => False) hb).heap h.rl (fun h => h)⟩
theorem HdJ.push (h : HdJ w s x n r nm ar f g p rows v wr) (y : Bs) {v' : Value} (a : App (w.heap.size + 1) wr w2 v v' 9 1 (rows.length + 1) (rows.map sv ++ [sv y])) : HdJ w s x n r nm ar f g p (rows ++ [y]) v' w2 := by
 have hlt : ∀ k, v.ownBlock = some k -> w.heap.size + 2 <= k := fun k hk => (own_block_lt h.own hk).1
 refine ⟨?_, h.bel.trans (a.chg.below (fun k hk => by have := hlt k hk; omega) h.bel.size), a.chg.heap h.bx.tb (fun e => by have := hlt _ e; omega), a.chg.heap h.bx.rl (fun e => by have := hlt _ e; omega)⟩;rw [List.length_append, List.map_append];exact a.own
theorem HdJ.size (h : HdJ w s x n r nm ar f g p rows v wr) : w.heap.size + 1 < wr.heap.size := (Array.getElem?_eq_some_iff.1 h.bx.rl).1
theorem bx_new (w : World) : Bx ((w.alloc (.cells #[s, x, n, r] 26)).alloc (.cells #[nm, ar, f, g, p] 44)) w.heap.size (w.heap.size + 1) s x n r nm ar f g p := by
 have h1 : (w.alloc (.cells #[s, x, n, r] 26)).heap.size = w.heap.size + 1 := by simp
 refine ⟨(Chg.alloc (S := fun _ => False) _ _).heap (heap_alloc_at w _) (fun h => h), ?_⟩;have := heap_alloc_at (w.alloc (.cells #[s, x, n, r] 26)) (.cells #[nm, ar, f, g, p] 44);rw [h1] at this;exact this
end
def headWords (states : List Bs) (q : Rl) : List Bs := wRule :: q.name :: num q.args :: (if q.from_.isEmpty then [] else wFrom :: q.from_.map (at_ states))
def HdMid (w : World) (s x n r nm ar f g p : Value) (rows : List Bs) (v : Value) (wx : World) : Prop := HdJ w s x n r nm ar f g p rows v wx
set_option maxHeartbeats 4000000 in
set_option maxRecDepth 100000 in
theorem head_any (w : World) (s x n r f g p : Value) (states : List Bs) (q : Rl) (hg : I.Glob w) (hs : SlB w s states) (hf : SlN w f q.from_) (hq : ∀ y ∈ q.from_, 0 <= y /\ y < states.length) (hfl : q.from_.length <= 1000000) (hsl : states.length <= 1000000) (ha : -9223372036854775808 <= q.args /\ q.args <= 9223372036854775807) (hjl : (Lib.join (headWords states q) [32]).length <= 140737488355328) :
 Calls Tryz.prog 36 #[.agg #[s, x, n, r], .agg #[sv q.name, .int .i64 q.args, f, g, p]] w fun z w' => z = .returned (sv (Lib.join (headWords states q) [32])) /\ Below w.heap.size w w' := by
 obtain ⟨W2, hW2⟩ : ∃ W, (w.alloc (.cells #[s, x, n, r] 26)).alloc (.cells #[sv q.name, .int .i64 q.args, f, g, p] 44) = W := ⟨_, rfl⟩;have hbx : Bx W2 w.heap.size (w.heap.size + 1) s x n r (sv q.name) (.int .i64 q.args) f g p := by rw [<- hW2]; exact bx_new w
 have hb2 : Below w.heap.size w W2 := by rw [<- hW2]; exact (grown_al w _).trans ((grown_al _ _).mono (grown_al w _).size)
 have c0 : W2.cell? ⟨w.heap.size + 1, 0, none⟩ = some (sv q.name) := by rw [cell_of_row _ _ _ _ _ _ hbx.rl]; rfl
 have c1 : W2.cell? ⟨w.heap.size + 1, 1, none⟩ = some (.int .i64 q.args) := by rw [cell_of_row _ _ _ _ _ _ hbx.rl]; rfl
 have HI := Lib.hid (fun W hb => I.itoa_any q.args ha.1 ha.2 W (hg.below (w' := W) hb));have HBX := Lib.hid hbx;have HB2 := Lib.hid hb2;have hsz : W2.heap.size = w.heap.size + 1 + 1 := by rw [<- hW2]; simp
 have HSZ := Lib.hid hsz;obtain ⟨af, kf, hfe, hfc⟩ := hf;rw [List.length_map] at hfe;subst hfe;obtain ⟨aS, ks, hse, hsc⟩ := hs;rw [List.length_map] at hse;subst hse;have HFC := Lib.hid hfc;have HSC := Lib.hid hsc;have HQ := Lib.hid (And.intro hq (And.intro hfl hsl));obtain ⟨A, hA⟩ : ∃ A, I.itoa q.args = A := ⟨_, rfl⟩;rw [hA] at HI;have HA := Lib.hid (show num q.args = A by rw [<- itoa_num]; exact hA);obtain ⟨nf, hnf⟩ : ∃ k, q.from_.length = k := ⟨_, rfl⟩;obtain ⟨ns, hns⟩ : ∃ k, states.length = k := ⟨_, rfl⟩;have HNF := Lib.hid (And.intro hnf hns);obtain ⟨nm, hnm⟩ : ∃ k, q.name = k := ⟨_, rfl⟩;have HNM := Lib.hid hnm;obtain ⟨ar, har⟩ : ∃ k, q.args = k := ⟨_, rfl⟩;have HJL := Lib.hid hjl;have hW3 := hW2;rw [hnf, hns, hnm, har] at hW3 ⊢;rw [hnf, hns, hnm, har] at HBX;rw [hnm] at c0;rw [har] at c1 HI;unfold sv at c0 HI hW3 ⊢;clear hg ha hq hfl hsl hjl hbx hb2 hsz hfc hsc hA hnf hns hnm har hW2;go_enter Tryz.func36, Tryz.ntmps36;go_upto_region 1 with fail
 clear hW3;go_cut [5] from 8 to 13 (fun s5 wx => HdMid w (.slice aS ns ks) x n r (sv nm) (.int .i64 ar) (.slice af nf kf) g p [wRule, nm, A] s5 wx)
 case first =>
  have h2w := HSZ.out;go_region_law (go_simp; go_at_call 34; refine (HI.out _ (HB2.out.drew)).mono ?_; rintro _ w3 ⟨rfl, hb3'⟩; have hb3 : Below W2.heap.size W2 w3 := ((Below.refl W2.heap.size W2).drew).trans hb3'; clear hb3'; have HB3 := Lib.hid hb3; have c03 := kept_cell hb3 c0; have c13 := kept_cell hb3 c1; clear hb3)
  all_goals
   clear c03 c13;go_wp2_with fail;go_meet
   have hz3 : Below w.heap.size w w3 := HB2.out.trans (HB3.out.mono HB2.out.size);have h3 := HB3.out.size;exact ⟨row_built w3 _ 3 [sv wRule, sv nm, sv A] _ (by omega) rfl (by decide), hz3.trans ((grown_al w3 _).mono hz3.size), (HBX.out.below HB3.out).below (grown_al w3 _)⟩
 case rest =>
  obtain ⟨W4, rfl⟩ : ∃ W : World, W = wc := ⟨_, rfl⟩;have HJ := Lib.hid (show HdJ w _ _ _ _ _ _ _ _ _ _ _ _ from hcut);obtain ⟨a5, k5, rfl⟩ := own_shape5 (show HdJ w _ _ _ _ _ _ _ _ _ _ _ _ from hcut).own;clear hcut c0 c1;obtain ⟨R0, hR0⟩ : ∃ R0, R0 = [wRule, nm, A] ++ (if nf = 0 then [] else [wFrom]) := ⟨_, rfl⟩;have HR0 := Lib.hid hR0;clear hR0;have c2 : W4.cell? ⟨w.heap.size + 1, 2, none⟩ = some (.slice af nf kf) := by rw [cell_of_row _ _ _ _ _ _ HJ.out.bx.rl]; rfl
  obtain ⟨i0, hi, hz0, hz1, hz2⟩ := info_string;go_upto_if 17 with fail
  go_cut [5] from 17 to 20 (fun s5 wx => HdMid w (.slice aS ns ks) x n r (sv nm) (.int .i64 ar) (.slice af nf kf) g p R0 s5 wx)
  case first =>
   by_cases hz : nf = 0
   ·have hrr : R0 = [wRule, nm, A] := by rw [HR0.out, if_pos hz]; rfl
    subst hz;subst hrr;go_wp2_with fail;go_meet
    exact HJ.out
   ·have hrr : R0 = [wRule, nm, A] ++ [wFrom] := by rw [HR0.out, if_neg hz]
    have hp : 0 < nf := by omega
    have hpI : (0 : Int) < (nf : Int) := by omega
    subst hrr;have HS1 := Lib.hid (show w.heap.size + 1 + 1 <= (W4.alloc (.cells #[.string (str wFrom)] 9)).heap.size by have := HJ.out.size; simp; omega);clear hz;go_wp2_with (at_builtin; go_must (refine wpList_append_lies _ rfl _ _ 22 rfl (w.heap.size + 1 + 1) 9 i0 (.string ⟨#[]⟩) 1 16 Tryz.underlying22 hi hz0 hz1 hz2 rfl (by decide) _ _ _ rfl (World.ownsRow.alloc HJ.out.own _) ⟨W4.heap.size, 0, none⟩ 1 1 [.string (str wFrom)] rfl rfl (fun j u hj => one_new _ _ _ j u hj) (one_str _) (by decide) (show 3 + 1 <= maxLen by decide) (show (3 + 1) * 16 <= 140737488355328 by decide) HS1.out _ rfl ?_); intro g7 cap7 w7 hown7 hgrow7 hblk7 hlt7; have HA7 := Lib.hid (App.of (D := w.heap.size + 1) (grown_al W4 _) hown7 hgrow7 (hblk7.elim (fun e => Or.inl e.symm) (fun e => Or.inr (by rw [e]; rfl)))); clear hown7 hgrow7 hblk7 hlt7)
    go_meet
    exact HJ.out.push wFrom HA7.out
  case rest =>
   obtain ⟨W5, rfl⟩ : ∃ W : World, W = wc := ⟨_, rfl⟩;have HJ5 := Lib.hid (show HdJ w _ _ _ _ _ _ _ _ _ _ _ _ from hcut);have c25 : W5.cell? ⟨w.heap.size + 1, 2, none⟩ = some (.slice af nf kf) := by rw [cell_of_row _ _ _ _ _ _ HJ5.out.bx.rl]; rfl
   clear hcut c2;obtain ⟨a6, k6, rfl⟩ := own_shape5 HJ5.out.own;go_wp2_with fail;go_loopg [24, 5] (nf) (fun gg i v wr => ∃ k : Nat, i = .int .i64 (k : Int) /\ k + gg = nf /\ Hid (HdJ w (.slice aS ns ks) x n r (sv nm) (.int .i64 ar) (.slice af nf kf) g p (R0 ++ (q.from_.take k).map (at_ states)) v wr))
   case atStart => exact ⟨0, rfl, by omega, Lib.hid (by simpa using HJ5.out)⟩
   case round =>
    obtain ⟨k, rfl, hkg, HJ6⟩ := hrel;obtain ⟨a7, k7, hv7⟩ := own_shape5 HJ6.out.own;subst hv7;have hR0l : R0.length <= 4 := by
     rw [HR0.out];split <;> simp
    have hnf : nf <= 1000000 := by have := HQ.out.2.1; have := HNF.out; omega
    have hwk : IntKind.i64.wrap ((k : Int) + 1) = (k : Int) + 1 := IntWalk.i64_in _ (by omega);by_cases hlt : k < nf
    ·have hltI : (k : Int) < (nf : Int) := by omega
     have hk0 : 0 <= (k : Int) := by omega
     obtain ⟨y, hy⟩ : ∃ y, q.from_[k]? = some y := ⟨_, List.getElem?_eq_getElem (by rw [HNF.out.1]; exact hlt)⟩;obtain ⟨b, off, haf, hcell⟩ := HFC.out k (.int .i64 y) (by rw [List.getElem?_map, hy]; rfl);obtain ⟨hy0, hy1⟩ := HQ.out.1 y (List.mem_of_getElem? hy);obtain ⟨yi, rfl⟩ := Int.eq_ofNat_of_zero_le hy0;have hyn : yi < ns := by rw [<- HNF.out.2]; omega
     have hynI : (yi : Int) < (ns : Int) := by omega
     obtain ⟨z, hz⟩ : ∃ z, states[yi]? = some z := ⟨_, List.getElem?_eq_getElem (by rw [HNF.out.2]; exact hyn)⟩;obtain ⟨b2, off2, haS, hcell2⟩ := HSC.out yi (sv z) (by rw [List.getElem?_map, hz]; rfl);have hat : at_ states (yi : Int) = z := by
      unfold at_;rw [Int.toNat_natCast, List.getD_eq_getElem?_getD, hz]; rfl
     subst haf;subst haS;have hc1 := kept_cell HJ6.out.bel hcell;have hc2 : wr.cell? ⟨b2, off2 + yi, none⟩ = some (.string (str z)) := kept_cell HJ6.out.bel hcell2;have hcs : wr.cell? ⟨w.heap.size, 0, none⟩ = some (.slice (some ⟨b2, off2, none⟩) ns ks) := by rw [cell_of_row _ _ _ _ _ _ HJ6.out.bx.tb]; rfl
     have HTK := Lib.hid (show R0 ++ (q.from_.take (k + 1)).map (at_ states) = (R0 ++ (q.from_.take k).map (at_ states)) ++ [z] by rw [List.take_add_one, hy, List.map_append, List.append_assoc]; simp [hat]);obtain ⟨rows, hrows⟩ : ∃ rows, R0 ++ (q.from_.take k).map (at_ states) = rows := ⟨_, rfl⟩;have hrl : rows.length <= 1000004 := by rw [<- hrows]; simp; omega
     rw [hrows] at HJ6 HTK ⊢;have HR1 := Lib.hid (show rows.length + 1 <= maxLen by unfold maxLen; omega);have HR2 := Lib.hid (show (rows.length + 1) * 16 <= 140737488355328 by omega);have HS1 := Lib.hid (show w.heap.size + 1 + 1 <= (wr.alloc (.cells #[.string (str z)] 9)).heap.size by have := HJ6.out.size; simp; omega);clear hy hcell hcell2 hz hat hrows hrl;go_wp2_with (at_builtin; go_must (refine wpList_append_lies _ rfl _ _ 22 rfl (w.heap.size + 1 + 1) 9 i0 (.string ⟨#[]⟩) 1 16 Tryz.underlying22 hi hz0 hz1 hz2 rfl (by decide) _ _ _ rfl (World.ownsRow.alloc HJ6.out.own _) ⟨wr.heap.size, 0, none⟩ 1 1 [.string (str z)] rfl rfl (fun j u hj => one_new _ _ _ j u hj) (one_str _) (by decide) HR1.out HR2.out HS1.out _ rfl ?_); intro g7 cap7 w7 hown7 hgrow7 hblk7 hlt7; have HA7 := Lib.hid (App.of (D := w.heap.size + 1) (grown_al wr _) hown7 hgrow7 (hblk7.elim (fun e => Or.inl e.symm) (fun e => Or.inr (by rw [e]; rfl)))); clear hown7 hgrow7 hblk7 hlt7)
     have HJ7 := Lib.hid (HJ6.out.push z HA7.out);go_roundg (nf - (k + 1))
     case measure => omega
     case rel => exact ⟨k + 1, by go_num, by omega, by rw [HTK.out]; exact HJ7⟩
    ·have hltI : ¬ (k : Int) < (nf : Int) := by omega
     have hk : k = nf := by omega
     have hfin : R0 ++ (q.from_.take k).map (at_ states) = headWords states q := by
      rw [HR0.out, hk, <- HNF.out.1, List.take_length];unfold headWords;rw [HNM.out, HA.out];cases hq0 : q.from_ with
      | nil => simp
      | cons _ _ => simp
     rw [hfin] at HJ6 ⊢;have hcap : (headWords states q).length <= k7 := by
      rcases HJ6.out.own.2 with ⟨e, h0⟩ | ⟨_, _, _, e, _, _, h1, _⟩
      ·injection e with _ _ e; omega
      ·injection e with _ _ e; omega
     have hwl : (headWords states q).length <= 140737488355328 := by rw [<- hfin]; simp; omega
     have HJN := Lib.hid (fun W (hb : Below wr.heap.size wr W) => join_any a7 k7 (headWords states q) [32] W (Sl.below (Sl.owns HJ6.out.own) hb) hcap hwl HJL.out);obtain ⟨res, hres⟩ : ∃ res, Lib.join (headWords states q) [32] = res := ⟨_, rfl⟩;rw [hres] at HJN;have HRES := Lib.hid hres;clear hres;obtain ⟨lw, hlw⟩ : ∃ l, (headWords states q).length = l := ⟨_, rfl⟩;rw [hlw] at HJN ⊢;unfold sv at HJN;clear hfin hcap hwl hk hlw;go_wp2_with (go_at_call 15; refine (HJN.out _ (Below.refl _ _)).mono ?_; rintro _ w8 ⟨rfl, hb8⟩; have HB8 := Lib.hid hb8; clear hb8)
     go_ret;exact ⟨by rw [HRES.out]; rfl, HJ6.out.bel.trans (HB8.out.mono HJ6.out.bel.size)⟩
structure TbJ (w : World) (s x n r : Value) (rows : List Bs) (v : Value) (wr : World) : Prop where
 own : wr.ownsRow (w.heap.size + 1) 9 1 v rows.length (rows.map sv)
 bel : Below w.heap.size w wr
 bx : wr.heap[w.heap.size]? = some (.cells #[s, x, n, r] 26 (0, 0))
section
variable {w : World} {s x n r : Value} {rows : List Bs} {v : Value} {wr w2 : World}
theorem TbJ.size (h : TbJ w s x n r rows v wr) : w.heap.size < wr.heap.size := (Array.getElem?_eq_some_iff.1 h.bx).1
theorem TbJ.push (h : TbJ w s x n r rows v wr) (y : Bs) {v' : Value} (a : App w.heap.size wr w2 v v' 9 1 (rows.length + 1) (rows.map sv ++ [sv y])) : TbJ w s x n r (rows ++ [y]) v' w2 := by
 have hlt : ∀ k, v.ownBlock = some k -> w.heap.size + 1 <= k := fun k hk => (own_block_lt h.own hk).1
 refine ⟨?_, h.bel.trans (a.chg.below (fun k hk => by have := hlt k hk; omega) h.bel.size), a.chg.heap h.bx (fun e => by have := hlt _ e; omega)⟩;rw [List.length_append, List.map_append];exact a.own
theorem TbJ.grow (h : TbJ w s x n r rows v wr) (hb : Below wr.heap.size wr w2) : TbJ w s x n r rows v w2 :=
 ⟨own_kept h.own hb, h.bel.trans (hb.mono h.bel.size), (Chg.of (S := fun _ => False) hb).heap h.bx (fun h => h)⟩
end
def tableLines (t : Tb) : List Bs := [wStates ++ (32 :: Lib.join t.states [32]), Lib.join (wVars :: starts t) [32]]
set_option maxHeartbeats 4000000 in
set_option maxRecDepth 100000 in
theorem ofTable_any (w : World) (s x n r : Value) (t : Tb) (hg : I.Glob w) (hs : SlB w s t.states) (hx : SlB w x t.vars) (hn : SlN w n t.start) (hlen : t.start.length = t.vars.length) (hsv : ∀ y ∈ t.start, isVal y = true) (hvl : t.vars.length <= 1000000) (hvn : ∀ y ∈ t.vars, y.length <= 1000000) (hsl : t.states.length <= 1000000)
 (hcs : ∀ a l c, s = .slice a l c -> l <= c) (hj1 : (Lib.join t.states [32]).length <= 140737488355328) (hj2 : (Lib.join (wVars :: starts t) [32]).length <= 140737488355328) :
 Calls Tryz.prog 13 #[.agg #[s, x, n, r]] w fun z w' => ∃ v, z = .returned v /\ w'.ownsRow w.heap.size 9 1 v 2 ((tableLines t).map sv) /\ Below w.heap.size w w' := by
 have HG := Lib.hid hg;have HJ1 := Lib.hid hj1;have HJ2 := Lib.hid hj2;have HL := Lib.hid (And.intro hlen (And.intro hsv (And.intro hvl (And.intro hsl hvn))));obtain ⟨aS, ks, hse, hsc⟩ := hs;obtain ⟨aV, kv, hve, hvc⟩ := hx;obtain ⟨aN, kn, hne, hnc⟩ := hn;rw [List.length_map] at hse hve hne;subst hse;subst hve;subst hne;have HCS := Lib.hid (hcs _ _ _ rfl);have HSC := Lib.hid (show SlB w (.slice aS t.states.length ks) t.states from ⟨aS, ks, by rw [List.length_map], hsc⟩);have HVC := Lib.hid hvc;have HNC := Lib.hid hnc;rw [hlen];obtain ⟨ns, hns⟩ : ∃ k, t.states.length = k := ⟨_, rfl⟩;obtain ⟨nv, hnv⟩ : ∃ k, t.vars.length = k := ⟨_, rfl⟩;rw [hns, hnv];have HN := Lib.hid (And.intro hns hnv);obtain ⟨i0, hi, hz0, hz1, hz2⟩ := info_string;obtain ⟨W1, hW1⟩ : ∃ W, w.alloc (.cells #[.slice aS ns ks, .slice aV nv kv, .slice aN nv kn, r] 26) = W := ⟨_, rfl⟩;have hb1 : Below w.heap.size w W1 := by rw [<- hW1]; exact grown_al w _
 have hx1 : W1.heap[w.heap.size]? = some (.cells #[.slice aS ns ks, .slice aV nv kv, .slice aN nv kn, r] 26 (0, 0)) := by rw [<- hW1]; exact heap_alloc_at w _
 have hz : W1.heap.size = w.heap.size + 1 := by rw [<- hW1]; simp
 have HJ := Lib.hid (show TbJ w (.slice aS ns ks) (.slice aV nv kv) (.slice aN nv kn) r [wVars] (.slice (some ⟨W1.heap.size, 0, none⟩) 1 1) (W1.alloc (.cells #[sv wVars] 9)) from
  (⟨row_built W1 _ 1 [sv wVars] _ (by omega) rfl (by decide), hb1.trans ((grown_al W1 _).mono hb1.size), (Chg.alloc (S := fun _ => False) _ _).heap hx1 (fun h => h)⟩))
 clear hg hlen hsv hvl hvn hsl hcs hj1 hj2 hsc hvc hnc hns hnv hb1 hx1 hz;have cx : (W1.alloc (.cells #[.string ⟨#[118, 97, 114, 115]⟩] 9)).cell? ⟨w.heap.size, 1, none⟩ = some (.slice aV nv kv) := by
  rw [cell_of_row _ _ _ _ _ _ (show (W1.alloc (.cells #[.string ⟨#[118, 97, 114, 115]⟩] 9)).heap[w.heap.size]? = _ from HJ.out.bx)]; rfl
 go_enter Tryz.func13, Tryz.ntmps13;go_wp2_with fail;go_loopg [10, 3] (nv) (fun gg i v wr => ∃ k : Nat, i = .int .i64 (k : Int) /\ k + gg = nv /\ Hid (TbJ w (.slice aS ns ks) (.slice aV nv kv) (.slice aN nv kn) r (wVars :: (starts t).take k) v wr))
 case atStart => exact ⟨0, rfl, by omega, Lib.hid HJ.out⟩
 case round =>
  obtain ⟨k, rfl, hkg, HJ6⟩ := hrel;obtain ⟨a7, k7, hv7⟩ := own_shape5 HJ6.out.own;subst hv7;clear cx;have hnv : nv <= 1000000 := by have := HL.out.2.2.1; have := HN.out; omega
  have hwk : IntKind.i64.wrap ((k : Int) + 1) = (k : Int) + 1 := IntWalk.i64_in _ (by omega);by_cases hlt : k < nv
  ·have hltI : (k : Int) < (nv : Int) := by omega
   have hk0 : 0 <= (k : Int) := by omega
   obtain ⟨y, hy⟩ : ∃ y, t.vars[k]? = some y := ⟨_, List.getElem?_eq_getElem (by rw [HN.out.2]; exact hlt)⟩;obtain ⟨m, hm⟩ : ∃ m, t.start[k]? = some m := ⟨_, List.getElem?_eq_getElem (by rw [HL.out.1, HN.out.2]; exact hlt)⟩;obtain ⟨b, off, haV, hcell⟩ := HVC.out k (sv y) (by rw [List.getElem?_map, hy]; rfl);obtain ⟨b2, off2, haN, hcell2⟩ := HNC.out k (.int .i64 m) (by rw [List.getElem?_map, hm]; rfl);subst haV;subst haN;have hc1 : wr.cell? ⟨b, off + k, none⟩ = some (.string (str y)) := kept_cell HJ6.out.bel hcell;have hc2 := kept_cell HJ6.out.bel hcell2;have hcn : wr.cell? ⟨w.heap.size, 2, none⟩ = some (.slice (some ⟨b2, off2, none⟩) nv kn) := by rw [cell_of_row _ _ _ _ _ _ HJ6.out.bx]; rfl
   have hval := HL.out.2.1 m (List.mem_of_getElem? hm);have hval' : -1099511627776 <= m /\ m <= 1099511627776 := of_decide_eq_true hval;have HI := Lib.hid (I.itoa_any m (by omega) (by omega) wr (HG.out.below HJ6.out.bel));have hst : (starts t)[k]? = some (y ++ 61 :: num m) := by
    unfold starts;rw [List.getElem?_map];have : (t.vars.zip t.start)[k]? = some (y, m) := by rw [List.getElem?_zip_eq_some]; exact ⟨hy, hm⟩
    rw [this]; rfl
   have hyl := HL.out.2.2.2.2 y (List.mem_of_getElem? hy);have hnl : (num m).length <= 20 := by
    unfold num;have := I.dig_length m.natAbs (by omega);split
    ·simp only [List.length_cons]; omega
    ·omega
   rw [itoa_num] at HI;obtain ⟨A, hA⟩ : ∃ A, num m = A := ⟨_, rfl⟩;rw [hA] at HI hst hnl;have h1 : (str y).size + (str [61]).size <= 281474976710656 := by rw [str_size, str_size]; simp only [List.length_cons, List.length_nil]; omega
   have e1 : str y ++ str [61] = str (y ++ [61]) := str_append _ _;have h2 : (str (y ++ [61])).size + (str A).size <= 281474976710656 := by rw [str_size, str_size]; simp only [List.length_append, List.length_cons, List.length_nil]; omega
   have e2 : str (y ++ [61]) ++ str A = str (y ++ [61] ++ A) := str_append _ _;have HTK := Lib.hid (show wVars :: (starts t).take (k + 1) = (wVars :: (starts t).take k) ++ [y ++ [61] ++ A] by rw [List.take_add_one, hst]; simp);obtain ⟨rows, hrows⟩ : ∃ rows, wVars :: (starts t).take k = rows := ⟨_, rfl⟩;have hrl : rows.length <= 1000004 := by rw [<- hrows]; simp only [List.length_cons, List.length_take]; omega
   rw [hrows] at HJ6 HTK ⊢;have HR1 := Lib.hid (show rows.length + 1 <= maxLen by unfold maxLen; omega);have HR2 := Lib.hid (show (rows.length + 1) * 16 <= 140737488355328 by omega);unfold sv at HI;clear hy hm hcell hcell2 hval hval' hst hyl hnl hA hrows hrl;go_wp2_with (first | (go_at_call 34; refine HI.out.mono ?_; rintro _ w5 ⟨rfl, hb5⟩; have HB5 := Lib.hid hb5; have HO5 := Lib.hid (own_kept HJ6.out.own hb5); have HS1 := Lib.hid (show w.heap.size + 1 <= (w5.alloc (.cells #[.string (str (y ++ [61] ++ A))] 9)).heap.size by have := HJ6.out.size; have := hb5.size; simp; omega); clear hb5) | (at_builtin; go_must (refine wpList_append_lies _ rfl _ _ 22 rfl (w.heap.size + 1) 9 i0 (.string ⟨#[]⟩) 1 16 Tryz.underlying22 hi hz0 hz1 hz2 rfl (by decide) _ _ _ rfl (World.ownsRow.alloc HO5.out _) ⟨w5.heap.size, 0, none⟩ 1 1 [.string (str (y ++ [61] ++ A))] rfl rfl (fun j u hj => one_new _ _ _ j u hj) (one_str _) (by decide) HR1.out HR2.out HS1.out _ rfl ?_); intro g7 cap7 w7 hown7 hgrow7 hblk7 hlt7; have HA7 := Lib.hid (App.of (D := w.heap.size) (grown_al w5 _) hown7 hgrow7 (hblk7.elim (fun e => Or.inl e.symm) (fun e => Or.inr (by rw [e]; rfl)))); clear hown7 hgrow7 hblk7 hlt7))
   have HJ7 := Lib.hid ((HJ6.out.grow HB5.out).push (y ++ [61] ++ A) HA7.out);go_roundg (nv - (k + 1))
   case measure => omega
   case rel => exact ⟨k + 1, by go_num, by omega, by rw [HTK.out]; exact HJ7⟩
  ·have hltI : ¬ (k : Int) < (nv : Int) := by omega
   have hk : k = nv := by omega
   have hstl : (starts t).length = nv := by
    unfold starts;rw [List.length_map, List.length_zip, HL.out.1, HN.out.2];omega
   have hfin : wVars :: (starts t).take k = wVars :: starts t := by rw [hk, <- hstl, List.take_length]
   rw [hfin] at HJ6;rw [hfin];have cs : wr.cell? ⟨w.heap.size, 0, none⟩ = some (.slice aS ns ks) := by rw [cell_of_row _ _ _ _ _ _ HJ6.out.bx]; rfl
   have hcap : (wVars :: starts t).length <= k7 := by
    rcases HJ6.out.own.2 with ⟨e, h0⟩ | ⟨_, _, _, e, _, _, h1, _⟩
    ·injection e with _ e2 e3
     omega
    ·injection e with _ _ e3
     omega
   have hwl : (wVars :: starts t).length <= 140737488355328 := by rw [List.length_cons, hstl]; omega
   have HSL := Lib.hid (Sl.owns HJ6.out.own);have HJA := Lib.hid (fun W (hb : Below wr.heap.size wr W) => join_any aS ks t.states [32] W (Sl.below HSC.out (HJ6.out.bel.trans (hb.mono HJ6.out.bel.size))) HCS.out (by have := HL.out.2.2.2.1; omega) HJ1.out);have HJB := Lib.hid (fun W (hb : Below wr.heap.size wr W) => join_any a7 k7 (wVars :: starts t) [32] W (Sl.below HSL.out hb) hcap hwl HJ2.out);have HLS := Lib.hid (show tableLines t = [wStates ++ (32 :: Lib.join t.states [32]), Lib.join (wVars :: starts t) [32]] from rfl);have hr1 := HJ1.out;obtain ⟨res1, hres1⟩ : ∃ res, Lib.join t.states [32] = res := ⟨_, rfl⟩;rw [hres1] at HJA HLS hr1;obtain ⟨res2, hres2⟩ : ∃ res, Lib.join (wVars :: starts t) [32] = res := ⟨_, rfl⟩;rw [hres2] at HJB HLS;rw [HN.out.1] at HJA;obtain ⟨lw, hlw⟩ : ∃ l, (wVars :: starts t).length = l := ⟨_, rfl⟩;rw [hlw] at HJB;rw [hlw];have h1 : (str [115, 116, 97, 116, 101, 115, 32]).size + (str res1).size <= 281474976710656 := by rw [str_size, str_size]; simp only [List.length_cons, List.length_nil]; omega
   have e1 : str [115, 116, 97, 116, 101, 115, 32] ++ str res1 = str ([115, 116, 97, 116, 101, 115, 32] ++ res1) := str_append _ _;have HW := Lib.hid (show wStates ++ (32 :: res1) = [115, 116, 97, 116, 101, 115, 32] ++ res1 from rfl);unfold sv at HJA HJB;clear hfin hcap hwl hk hlw hres1 hres2 hr1 hstl;go_wp2_with (go_at_call 15; first | (refine (HJB.out _ HB8.out).mono ?_; rintro _ w9 ⟨rfl, hb9⟩; have HB9 := Lib.hid hb9; clear hb9) | (refine (HJA.out _ (Below.refl _ _)).mono ?_; rintro _ w8 ⟨rfl, hb8⟩; have HB8 := Lib.hid hb8; clear hb8))
   go_ret;have hz9 : Below w.heap.size w w9 := (HJ6.out.bel.trans (HB8.out.mono HJ6.out.bel.size)).trans (HB9.out.mono (Nat.le_trans HJ6.out.bel.size HB8.out.size));refine ⟨_, rfl, ?_, hz9.trans ((grown_al w9 _).mono hz9.size)⟩;rw [HLS.out, HW.out];exact row_built w9 _ 2 [sv ([115, 116, 97, 116, 101, 115, 32] ++ res1), sv res2] _ hz9.size rfl (by decide)
end Go.Proofs.YtjcajeehgjpmmaaGreatDoor.T
