/-
  Layer 6: a text is read.
  Layer 6, plainly: what was shown is read as it was.
-/
import Derived.Test.YtfooiggedgcjcaaGreatDoorTPs
import Derived.Test.YtfooiggedgcjcaaGreatDoorTSpec
namespace Go.Proofs.YtfooiggedgcjcaaGreatDoor.T
open Go Go.RowKit Go.Proofs.YtfooiggedgcjcaaGreatDoor.B Go.Proofs.YtfooiggedgcjcaaGreatDoor.K Go.Proofs.YtfooiggedgcjcaaGreatDoor.E Go.Proofs.YtfooiggedgcjcaaGreatDoor.R
set_option linter.unusedVariables false

theorem tb_empty (w : World) : TbIs w [.slice none 0 0, .slice none 0 0, .slice none 0 0, .slice none 0 0] empty := ⟨_, _, _, _, rfl, Sl.nil _, Sl.nil _, Sl.nil _, SlOf.nil _ _ _⟩

theorem own_cap {w : World} {base k n c : Nat} {e : TypeId} {v : Value} {xs : List Value} {a : Option Addr} (h : w.ownsRow base e k v n xs) (hv : v = .slice a n c) : n ≤ c := by
  rcases h.2 with ⟨rfl, h0⟩ | ⟨g, cap, cur, rfl, _, _, hn, _⟩
  · cases hv; exact Nat.le_refl _
  · cases hv; exact hn
theorem cap_none : ∀ (x : Option Addr) (l k : Nat), Value.slice none 0 0 = .slice x l k → l ≤ k := fun x l k e => by cases e; exact Nat.le_refl _
/-- What is read. -/
def PaOut (RC : Nat) (w : World) (t : Tb) (n : Nat) (e : Int) (z : Ending) (w' : World) : Prop :=
  ∃ a b c d, z = .returned (.tuple #[.agg #[a, b, c, d], .int .i64 n, .int .i64 e]) ∧ Below w.heap.size w w' ∧ TbIs w' [a, b, c, d] t ∧ ∀ x l k, a = .slice x l k → l ≤ k

section
variable {w : World}

set_option maxHeartbeats 8000000 in
set_option maxRecDepth 100000 in
theorem parse_any {ip : Ip} (hip : IpOk ip) (s : Bs) (hs : s.length < 4294967281) (hg : Globs w) {t : Tb} {n : Nat} {e : Int} (hp : parseT ip s = some (t, n, e)) :
    Calls Tryz.prog 4 #[sv s] w (PaOut w.heap.size w t n e) := by
  have hsz : (str s).size = s.length := str_size s
  obtain ⟨k, hk⟩ : ∃ k, s.length = k := ⟨_, rfl⟩
  have HS := Lib.hid (show (str s).size = k ∧ k < 4294967281 by omega)
  have HP := Lib.hid hp
  have HK := Lib.hid hk
  have HG := Lib.hid hg
  have HSP := Lib.hid (fun W => split_any s W hs)
  obtain ⟨L, hL⟩ : ∃ L, cutL s [] = L := ⟨_, rfl⟩
  rw [hL] at HSP
  have HL := Lib.hid hL
  rw [hk] at hsz
  unfold sv at HSP ⊢
  by_cases hb : 8192 < k
  · have e0 : t = empty ∧ n = 0 ∧ e = 4 := by
      unfold parseT at hp
      rw [if_pos (by omega)] at hp
      cases hp
      exact ⟨rfl, rfl, rfl⟩
    obtain ⟨rfl, rfl, rfl⟩ := e0
    clear hs hp hk hg hL
    go_enter Tryz.func4, Tryz.ntmps4
    go_wp2_with fail
    go_step3
    go_wp2_with fail
    try rw [Exit.noGoto_ret]
    refine bodyPost_ret (v := .tuple #[.agg #[.slice none 0 0, .slice none 0 0, .slice none 0 0, .slice none 0 0], .int .i64 0, .int .i64 4]) (by simp [results, Tryz.results4, go_sem]) rfl ⟨_, _, _, _, rfl, grown_new w _, tb_empty _, cap_none⟩
  · have hl8 := cutL_len s.length s (Nat.le_refl _)
    rw [hL] at hl8
    have hLn : L.length ≤ 8193 ∧ ∀ x ∈ L, x.length ≤ 8192 := ⟨by omega, fun x hx => by have := hl8.2 x hx; omega⟩
    have HLN := Lib.hid hLn
    have hpr : readL ip L 0 empty 0 = some (t, n, e) := by
      unfold parseT at hp
      rw [if_neg (by omega), hL] at hp
      exact hp
    have HR := Lib.hid hpr
    clear hs hp hk hg hL hl8 hLn hpr
    obtain ⟨RC, hRC⟩ : ∃ RC, w.heap.size = RC := ⟨_, rfl⟩
    obtain ⟨l, hl⟩ : ∃ l, L.length = l := ⟨_, rfl⟩
    rw [hl] at HSP
    have HLL := Lib.hid hl
    clear hl
    go_enter Tryz.func4, Tryz.ntmps4
    go_wp2_with fail
    go_step3
    go_upto_region 4 with fail
    go_wp2_with (go_at_call 9; refine (HSP.out _).mono ?_; rintro _ w2 ⟨rfl, rfl⟩)
    go_step3
    go_wp2_with fail
    have HJ0 := Lib.hid (ps_start (ip := ip) (L := L) w HG.out RC hRC)
    obtain ⟨W0, hW0⟩ : ∃ W, ((w.alloc (.cells #[.slice none 0 0, .slice none 0 0, .slice none 0 0, .slice none 0 0] 26)).alloc (.cells #[.slice none 0 0, .slice none 0 0, .slice none 0 0, .slice none 0 0, .int .i64 0, .map none, .map none] 41)).alloc (.cells (L.map sv).toArray 9) = W := ⟨_, rfl⟩
    rw [hW0] at HJ0
    unfold sv at hW0
    rw [hW0]
    have HRC := Lib.hid hRC
    clear hW0 hRC hsz HSP
    go_loopg [19] (l) (fun g i wr => ∃ (n1 : Nat) (t1 : Tb) (said : Nat) (q1 : Dq), i = .int .i64 (n1 : Int) ∧ n1 + g = l ∧ Hid (PsJ (RC + 1) (RC + 1 + 1) RC ip L w n1 t1 said q1 wr))
    case atStart => exact ⟨0, _, _, _, rfl, by omega, HJ0⟩
    case round =>
      obtain ⟨n1, t1, said, q1, rfl, hng, HJ⟩ := hrel
      have hl8 : l ≤ 8193 := by have := HLN.out; have := HLL.out; omega
      by_cases hlt : n1 < l
      · have hltI : (n1 : Int) < (l : Int) := by omega
        have hk0 : 0 ≤ (n1 : Int) := by omega
        obtain ⟨x, hx⟩ : ∃ x, L[n1]? = some x := ⟨_, List.getElem?_eq_getElem (by rw [HLL.out]; exact hlt)⟩
        have hc1 : wr.cell? ⟨RC + 1 + 1, n1, none⟩ = some (.string (str x)) := by
          rw [cell_of_row _ _ _ _ _ _ HJ.out.ln]
          simp [hx, sv]
        have HX := Lib.hid hx
        have hxl := HLN.out.2 x (List.mem_of_getElem? hx)
        have HXL := Lib.hid hxl
        have HNL := Lib.hid (newLine_any x wr (by omega))
        obtain ⟨y, hy⟩ : ∃ y, trim x = y := ⟨_, rfl⟩
        rw [hy] at HNL
        have HY := Lib.hid hy
        unfold sv at HNL
        clear hx hxl hy
        go_upto_region 9 with (go_at_call 10; refine HNL.out.mono ?_; rintro _ w1 ⟨rfl, hb1⟩; have HB1 := Lib.hid hb1; clear hb1)
        have hLB : wr.heap.size ≤ w1.heap.size := HB1.out.size
        have hb2 : Below wr.heap.size wr (w1.alloc (.cells #[.string (str y)] 44)) := HB1.out.trans ((grown_new w1 _).mono hLB)
        have hl2 : LnAt (w1.alloc (.cells #[.string (str y)] 44)) w1.heap.size y := ⟨by rw [cell_of_row _ _ _ _ _ _ (heap_alloc_at w1 _)]; rfl, (row_cell (heap_alloc_at w1 _) (by simp)).choose_spec.2⟩
        have hLB2 : w1.heap.size < (w1.alloc (.cells #[.string (str y)] 44)).heap.size := by simp
        obtain ⟨W2, hW2⟩ : ∃ W, w1.alloc (.cells #[.string (str y)] 44) = W := ⟨_, rfl⟩
        rw [hW2] at hb2 hl2 hLB2 ⊢
        obtain ⟨LB, hLBe⟩ : ∃ LB, w1.heap.size = LB := ⟨_, rfl⟩
        rw [hLBe] at hLB hl2 hLB2 ⊢
        have HB2 := Lib.hid hb2
        have HL2 := Lib.hid hl2
        have HLB := Lib.hid (And.intro hLB hLB2)
        have HE := Lib.hid (ended_any LB y W2 hl2.cell)
        have hyl : y.length ≤ 8192 := by rw [← HY.out]; exact Nat.le_trans (trim_le x) HXL.out
        have HYL := Lib.hid hyl
        clear hb2 hLB hLB2 hW2 hLBe HB1 HNL
        cases hE : isE y with
        | true =>
          rw [hE] at HE
          have hj := HJ.out.skip HX.out (HY.out.trans (isE_yes hE)) HB2.out
          have HJ1 := Lib.hid hj
          clear hj hE hl2
          go_wp2_with (go_at_call 11; refine HE.out.mono ?_; rintro _ w3 ⟨rfl, rfl⟩)
          go_roundg (l - (n1 + 1))
          case measure => omega
          case rel => exact ⟨n1 + 1, t1, said, q1, by go_num, by omega, HJ1⟩
        | false =>
          rw [hE] at HE
          have hy0 := isE_no hE
          have hur := HJ.out.unroll HX.out
          rw [HR.out, HY.out, if_neg hy0] at hur
          obtain ⟨o, ho⟩ : ∃ o, T.line ip t1 said y = some o := by
            cases hq : T.line ip t1 said y with
            | none => rw [hq] at hur; cases hur
            | some o => exact ⟨o, rfl⟩
          rw [ho] at hur
          have HUR := Lib.hid hur
          have HO := Lib.hid ho
          have HY0 := Lib.hid hy0
          have HRO := Lib.hid (fun m => readerOf_any hip y (HJ.out.cell HB2.out HLB.out HL2.out HYL.out (by have := HLN.out; have := HLL.out; omega) m) ho)
          have HWD := Lib.hid (word_any LB y (by omega) W2 HL2.out.cell HL2.out.frozen)
          unfold sv at HWD HRO
          clear hE hy0 hur ho hl2 hyl
          go_upto_region 11 with (first | (go_at_call 11; refine HE.out.mono ?_; rintro _ w3 ⟨rfl, rfl⟩) | (go_at_call 13; refine HWD.out.mono ?_; rintro _ w3 ⟨rfl, m3, rfl⟩) | (go_at_call 12; refine (HRO.out m3).mono ?_; rintro _ w4 ⟨N, caps, rfl, hent, hb4, hcall⟩; have HB4 := Lib.hid hb4; have HCL := Lib.hid hcall; clear hb4 hcall))
          unfold I.Ent at hent
          go_wp2_with fail
          refine HCL.out.mono ?_
          rintro z5 w5 ⟨hc5, hout⟩
          obtain ⟨k1, k2, k3, k4, k5⟩ := HJ.out.kept HB2.out HLB.out HB4.out hc5
          have hrc5 := k1.heap HJ.out.rc k3
          have HB5 := Lib.hid k2
          cases o with
          | error e0 =>
            obtain ⟨rfl, he0⟩ := hout
            have heb : (e0 != 0) = true := by simpa using he0
            have r0 : w5.cell? ⟨RC, 0, none⟩ = some (.slice none 0 0) := by rw [cell_of_row _ _ _ _ _ _ hrc5]; rfl
            have r1 : w5.cell? ⟨RC, 1, none⟩ = some (.slice none 0 0) := by rw [cell_of_row _ _ _ _ _ _ hrc5]; rfl
            have r2 : w5.cell? ⟨RC, 2, none⟩ = some (.slice none 0 0) := by rw [cell_of_row _ _ _ _ _ _ hrc5]; rfl
            have r3 : w5.cell? ⟨RC, 3, none⟩ = some (.slice none 0 0) := by rw [cell_of_row _ _ _ _ _ _ hrc5]; rfl
            have z0 : w5.frozen? ⟨RC, 0, none⟩ = false := (row_cell hrc5 (by simp)).choose_spec.2
            have z1 : w5.frozen? ⟨RC, 1, none⟩ = false := (row_cell hrc5 (by simp)).choose_spec.2
            have z2 : w5.frozen? ⟨RC, 2, none⟩ = false := (row_cell hrc5 (by simp)).choose_spec.2
            have z3 : w5.frozen? ⟨RC, 3, none⟩ = false := (row_cell hrc5 (by simp)).choose_spec.2
            have hgo : some (t, n, e) = some (empty, n1, e0) := HUR.out
            cases hgo
            obtain ⟨f0, f1, f2, f3⟩ := four_set w5 RC (.slice none 0 0) (.slice none 0 0) (.slice none 0 0) (.slice none 0 0) r0 r1 r2 r3
            have HRL := Lib.hid (World.block_lt_of_cell? w5 _ r0)
            clear k1 k2 k3 k4 k5 hrc5 hc5 he0 hent
            go_wp2_with fail
            try rw [Exit.noGoto_ret]
            refine bodyPost_ret (v := .tuple #[.agg #[.slice none 0 0, .slice none 0 0, .slice none 0 0, .slice none 0 0], .int .i64 n, .int .i64 e]) (by simp [results, Tryz.results4, go_sem, f0, f1, f2, f3]) rfl ⟨_, _, _, _, rfl, ?_, tb_empty _, cap_none⟩
            rw [HRC.out]
            exact HB5.out.trans ((four_chg w5 RC _ _ _ _).below (fun k hk => by omega) (Nat.le_of_lt HRL.out))
          | ok u =>
            obtain ⟨rfl, q5, hd5, hf5, g0, g1⟩ := hout
            have d4 := hd5.cell 4 (v := .int .i64 (said : Int)) rfl
            have z4 := hd5.frozen 4 (by decide)
            have hj := HJ.out.next HX.out (by rw [HY.out]; exact HY0.out) (by rw [HY.out]; exact HO.out) HXL.out HB2.out HLB.out HB4.out hd5 hf5 g0 g1
            have HJ1 := Lib.hid hj
            have hw1 : IntKind.i64.wrap ((said : Int) + 1) = (said : Int) + 1 := IntWalk.i64_in _ (by have := HJ.out.le; have := HLN.out; have := HLL.out; omega)
            clear k1 k2 k3 k4 k5 hrc5 hc5 hent hd5 hf5 g0 g1 hj
            go_wp2_with fail
            go_roundg (l - (n1 + 1))
            case measure => omega
            case rel => exact ⟨n1 + 1, u, said + 1, q5, by go_num, by omega, HJ1⟩
      · have hn1 : n1 = l := by omega
        subst hn1
        have hle : ¬ ((n1 : Int) < (n1 : Int)) := by omega
        have d4 := HJ.out.dr.cell 4 (v := .int .i64 (said : Int)) rfl
        have d0 := HJ.out.dr.cell 0 (v := q1.val .st) rfl
        have d1 := HJ.out.dr.cell 1 (v := q1.val .va) rfl
        have d2 := HJ.out.dr.cell 2 (v := q1.val .nu) rfl
        have d3 := HJ.out.dr.cell 3 (v := q1.val .ru) rfl
        have r0 : wr.cell? ⟨RC, 0, none⟩ = some (.slice none 0 0) := by rw [cell_of_row _ _ _ _ _ _ HJ.out.rc]; rfl
        have r1 : wr.cell? ⟨RC, 1, none⟩ = some (.slice none 0 0) := by rw [cell_of_row _ _ _ _ _ _ HJ.out.rc]; rfl
        have r2 : wr.cell? ⟨RC, 2, none⟩ = some (.slice none 0 0) := by rw [cell_of_row _ _ _ _ _ _ HJ.out.rc]; rfl
        have r3 : wr.cell? ⟨RC, 3, none⟩ = some (.slice none 0 0) := by rw [cell_of_row _ _ _ _ _ _ HJ.out.rc]; rfl
        have z0 : wr.frozen? ⟨RC, 0, none⟩ = false := (row_cell HJ.out.rc (by simp)).choose_spec.2
        have z1 : wr.frozen? ⟨RC, 1, none⟩ = false := (row_cell HJ.out.rc (by simp)).choose_spec.2
        have z2 : wr.frozen? ⟨RC, 2, none⟩ = false := (row_cell HJ.out.rc (by simp)).choose_spec.2
        have z3 : wr.frozen? ⟨RC, 3, none⟩ = false := (row_cell HJ.out.rc (by simp)).choose_spec.2
        have hgo := HJ.out.goes
        rw [HR.out, List.drop_of_length_le (Nat.le_of_eq HLL.out), readL] at hgo
        obtain ⟨a0, k0, hv0⟩ := own_shape5 (HJ.out.dr.rows.own .st)
        obtain ⟨a1, k1, hv1⟩ := own_shape5 (HJ.out.dr.rows.own .va)
        obtain ⟨a2, k2, hv2⟩ := own_shape5 (HJ.out.dr.rows.own .nu)
        obtain ⟨a3, k3, hv3⟩ := own_shape5 (HJ.out.dr.rows.own .ru)
        obtain ⟨l0, hl0⟩ : ∃ k, (ent q1 t1 .st).n = k := ⟨_, rfl⟩
        obtain ⟨l1, hl1⟩ : ∃ k, (ent q1 t1 .va).n = k := ⟨_, rfl⟩
        obtain ⟨l2, hl2⟩ : ∃ k, (ent q1 t1 .nu).n = k := ⟨_, rfl⟩
        obtain ⟨l3, hl3⟩ : ∃ k, (ent q1 t1 .ru).n = k := ⟨_, rfl⟩
        have HCAP := Lib.hid (show l0 ≤ k0 by rw [← hl0]; exact own_cap (HJ.out.dr.rows.own .st) hv0)
        rw [hl0] at hv0
        rw [hl1] at hv1
        rw [hl2] at hv2
        rw [hl3] at hv3
        rw [hv0] at d0
        rw [hv1] at d1
        rw [hv2] at d2
        rw [hv3] at d3
        have HV := Lib.hid (And.intro hv0 (And.intro hv1 (And.intro hv2 hv3)))
        have HRL := Lib.hid (World.block_lt_of_cell? wr _ r0)
        have HBL := Lib.hid HJ.out.bel
        have HTB := Lib.hid (fun w' hc => HJ.out.dr.table_skip (R := RC) (w' := w') (by omega) (fun o c hcell => by
          rw [cell_of_row _ _ _ _ _ _ HJ.out.rc] at hcell
          rcases o with _ | _ | _ | _ | o
          · cases hcell; rfl
          · cases hcell; rfl
          · cases hcell; rfl
          · cases hcell; rfl
          · cases hcell) hc)
        rw [hv0, hv1, hv2, hv3] at HTB
        clear hv0 hv1 hv2 hv3 hl0 hl1 hl2 hl3
        by_cases h2 : said < 2
        · have h2I : (said : Int) < 2 := by omega
          rw [if_pos h2] at hgo
          cases hgo
          obtain ⟨f0, f1, f2, f3⟩ := four_set wr RC (.slice none 0 0) (.slice none 0 0) (.slice none 0 0) (.slice none 0 0) r0 r1 r2 r3
          go_wp2_with fail
          try rw [Exit.noGoto_ret]
          refine bodyPost_ret (v := .tuple #[.agg #[.slice none 0 0, .slice none 0 0, .slice none 0 0, .slice none 0 0], .int .i64 n, .int .i64 6]) (by simp [results, Tryz.results4, go_sem, f0, f1, f2, f3]) rfl ⟨_, _, _, _, rfl, ?_, tb_empty _, cap_none⟩
          rw [HRC.out]
          exact HBL.out.trans ((four_chg wr RC _ _ _ _).below (fun k hk => by omega) (Nat.le_of_lt HRL.out))
        · have h2I : ¬ (said : Int) < 2 := by omega
          rw [if_neg h2] at hgo
          cases hgo
          obtain ⟨f0, f1, f2, f3⟩ := four_set wr RC (.slice a0 l0 k0) (.slice a1 l1 k1) (.slice a2 l2 k2) (.slice a3 l3 k3) r0 r1 r2 r3
          go_wp2_with fail
          try rw [Exit.noGoto_ret]
          refine bodyPost_ret (v := .tuple #[.agg #[.slice a0 l0 k0, .slice a1 l1 k1, .slice a2 l2 k2, .slice a3 l3 k3], .int .i64 0, .int .i64 0]) (by simp [results, Tryz.results4, go_sem, f0, f1, f2, f3]) rfl ⟨_, _, _, _, rfl, ?_, HTB.out _ (four_chg wr RC _ _ _ _), fun x l k e => by cases e; exact HCAP.out⟩
          rw [HRC.out]
          exact HBL.out.trans ((four_chg wr RC _ _ _ _).below (fun k hk => by omega) (Nat.le_of_lt HRL.out))
end
end Go.Proofs.YtfooiggedgcjcaaGreatDoor.T

namespace Go.Proofs.YtfooiggedgcjcaaGreatDoor.T
open Go Go.Proofs.YtfooiggedgcjcaaGreatDoor.E Go.Proofs.YtfooiggedgcjcaaGreatDoor.R
set_option linter.unusedVariables false

/-! ## Bytes -/

/-- A word: not empty, no blank. -/
def Wd (w : Bs) : Prop := w ≠ [] ∧ ∀ c ∈ w, c ≠ 32

theorem upTo_app (c : UInt8) (a b : Bs) (h : ∀ x ∈ a, x ≠ c) : upTo c (a ++ c :: b) = a := by
  unfold upTo
  rw [List.takeWhile_append_of_pos (fun x hx => by simpa using h x hx)]
  simp
theorem upTo_all (c : UInt8) (a : Bs) (h : ∀ x ∈ a, x ≠ c) : upTo c a = a := by
  unfold upTo
  have := List.takeWhile_append_of_pos (p := (· != c)) (l₁ := a) (l₂ := []) (fun x hx => by simpa using h x hx)
  simpa using this
theorem past_app (c : UInt8) (a b : Bs) (h : ∀ x ∈ a, x ≠ c) : past c (a ++ c :: b) = b := by
  unfold past
  rw [List.dropWhile_append_of_pos (fun x hx => by simpa using h x hx)]
  simp
theorem past_all (c : UInt8) (a : Bs) (h : ∀ x ∈ a, x ≠ c) : past c a = [] := by
  unfold past
  have := List.dropWhile_append_of_pos (p := (· != c)) (l₁ := a) (l₂ := []) (fun x hx => by simpa using h x hx)
  rw [List.append_nil] at this
  rw [this]
  rfl
theorem hasB_app (c : UInt8) (a b : Bs) : hasB c (a ++ c :: b) = true := by unfold hasB; simp
theorem hasB_all (c : UInt8) (a : Bs) (h : ∀ x ∈ a, x ≠ c) : hasB c a = false := by
  unfold hasB
  rw [List.any_eq_false]
  intro x hx
  simpa using h x hx

theorem trimL_blank (s : Bs) : trimL (32 :: s) = trimL s := by
  show List.dropWhile _ _ = List.dropWhile _ _
  rw [List.dropWhile_cons_of_pos (by decide)]
theorem trimL_self (s : Bs) (h : s.head? ≠ some 32) : trimL s = s := by
  show List.dropWhile _ _ = _
  cases s with
  | nil => rfl
  | cons c r => rw [List.dropWhile_cons_of_neg (by simpa using h)]
theorem trimR_self (s : Bs) (h : s.getLast? ≠ some 32) : trimR s = s := by
  show (trimL s.reverse).reverse = _
  rw [trimL_self _ (by rw [List.head?_reverse]; exact h), List.reverse_reverse]
theorem trim_self (s : Bs) (h : s.head? ≠ some 32) (g : s.getLast? ≠ some 32) : trim s = s := by
  show trimL (trimR s) = s
  rw [trimR_self s g, trimL_self s h]

theorem Wd.head {w : Bs} (h : Wd w) : w.head? ≠ some 32 := by
  intro e
  cases w with
  | nil => cases e
  | cons c r => simp at e; exact h.2 c (by simp) e
theorem Wd.last {w : Bs} (h : Wd w) : w.getLast? ≠ some 32 := fun e => h.2 32 (List.mem_of_getLast? e) rfl

theorem wd_app (w r : Bs) (h : Wd w) : wd (w ++ 32 :: r) = w := upTo_app 32 w r h.2
theorem wd_self (w : Bs) (h : Wd w) : wd w = w := upTo_all 32 w h.2
theorem nx_app (w r : Bs) (h : Wd w) (g : r.head? ≠ some 32) : nx (w ++ 32 :: r) = r := by unfold nx; rw [past_app 32 w r h.2, trimL_self r g]
theorem nx_self (w : Bs) (h : Wd w) : nx w = [] := by unfold nx; rw [past_all 32 w h.2]; rfl

theorem behind_cons (w : Bs) (l : List Bs) : behind (w :: l) = 32 :: (w ++ behind l) := rfl
theorem head_app {a b : Bs} (h : a ≠ []) : (a ++ b).head? = a.head? := by cases a with | nil => exact absurd rfl h | cons c r => rfl
theorem wd_behind (w : Bs) (l : List Bs) (h : Wd w) : wd (w ++ behind l) = w := by
  cases l with
  | nil => show wd (w ++ []) = w; rw [List.append_nil]; exact wd_self w h
  | cons x l => rw [behind_cons]; exact wd_app w _ h
theorem nx_behind (w x : Bs) (l : List Bs) (h : Wd w) (hx : x ≠ [] ∧ x.head? ≠ some 32) : nx (w ++ behind (x :: l)) = x ++ behind l := by
  rw [behind_cons]; exact nx_app w _ h (by rw [head_app hx.1]; exact hx.2)
theorem nx_behind_nil (w : Bs) (h : Wd w) : nx (w ++ behind []) = [] := by show nx (w ++ []) = []; rw [List.append_nil]; exact nx_self w h

theorem words_behind : ∀ (l : List Bs) (w : Bs), Wd w → (∀ x ∈ l, Wd x) → words (w ++ behind l) = w :: l
  | [], w, h, _ => by unfold words; rw [dif_pos (nx_behind_nil w h), wd_behind w [] h]
  | x :: l, w, h, g => by
    have hx := g x List.mem_cons_self
    have e := nx_behind w x l h ⟨hx.1, hx.head⟩
    unfold words
    rw [dif_neg (by rw [e]; intro h0; exact hx.1 (List.append_eq_nil_iff.1 h0).1), wd_behind w _ h, e, words_behind l x hx fun y hy => g y (List.mem_cons_of_mem _ hy)]

theorem cutL_go : ∀ (l : Bs) (w r : Bs), (∀ c ∈ l, c ≠ 10) → cutL (l ++ 10 :: r) w = (w ++ l) :: cutL r []
  | [], w, r, _ => by show cutL (10 :: r) w = _; rw [cutL, if_pos rfl, List.append_nil]
  | c :: l, w, r, h => by
    show cutL (c :: (l ++ 10 :: r)) w = _
    rw [cutL, if_neg (h c List.mem_cons_self), cutL_go l (w ++ [c]) r fun x hx => h x (List.mem_cons_of_mem _ hx)]
    simp
theorem cutL_lines : ∀ (ls : List Bs), (∀ l ∈ ls, ∀ c ∈ l, c ≠ 10) → cutL (ls.flatMap fun l => l ++ [10]) [] = ls ++ [[]]
  | [], _ => rfl
  | l :: ls, h => by
    rw [List.flatMap_cons, List.append_assoc, List.singleton_append, cutL_go l [] _ (h l List.mem_cons_self), cutL_lines ls fun x hx => h x (List.mem_cons_of_mem _ hx)]
    rfl

/-! ## Names and numbers -/

theorem name_idc {s : Bs} (h : I.isName s = true) : s ≠ [] ∧ ∀ c ∈ s, I.idc c = true := by
  match s, h with
  | c :: r, h =>
    simp only [I.isName, Bool.and_eq_true] at h
    exact ⟨by simp, fun x hx => List.all_eq_true.1 h.1.1.1.2 x hx⟩
theorem idc_no {c : UInt8} (h : I.idc c = true) : c ≠ 32 ∧ c ≠ 10 ∧ c ≠ 59 ∧ c ≠ 61 := by
  refine ⟨?_, ?_, ?_, ?_⟩ <;> (rintro rfl; revert h; decide)
theorem name_wd {s : Bs} (h : I.isName s = true) : Wd s := ⟨(name_idc h).1, fun c hc => (idc_no ((name_idc h).2 c hc)).1⟩
theorem digit_no {c : UInt8} (h : I.digit c = true) : c ≠ 32 ∧ c ≠ 10 ∧ c ≠ 59 ∧ c ≠ 61 := by
  refine ⟨?_, ?_, ?_, ?_⟩ <;> (rintro rfl; revert h; decide)
theorem num_bytes (n : Int) : ∀ c ∈ num n, c ≠ 32 ∧ c ≠ 10 ∧ c ≠ 59 ∧ c ≠ 61 := by
  intro c hc
  unfold num at hc
  split at hc
  · rcases List.mem_cons.1 hc with rfl | hc
    · decide
    · exact digit_no (I.dig_digits _ c hc)
  · exact digit_no (I.dig_digits _ c hc)
theorem num_ne (n : Int) : num n ≠ [] := by
  unfold num
  split
  · simp
  · exact I.dig_ne _
theorem num_wd (n : Int) : Wd (num n) := ⟨num_ne n, fun c hc => (num_bytes n c hc).1⟩

theorem dig_lt (v : Nat) (h : v < 10) : I.dig v = [UInt8.ofNat (48 + v)] := by unfold I.dig; rw [dif_pos h]
theorem dig_ge (v : Nat) (h : ¬ v < 10) : I.dig v = I.dig (v / 10) ++ [UInt8.ofNat (48 + v % 10)] := by
  conv => lhs; unfold I.dig
  rw [dif_neg h]
theorem atoi_dig (v : Nat) : Lib.decNat (I.dig v) = some v := by
  have key : ∀ v, Lib.decFrom 0 (I.dig v) = some v := by
    intro v
    induction v using Nat.strongRecOn with
    | _ v ih =>
      have app : ∀ (l : Bs) (acc n : Nat) (d : UInt8) (x : Nat), Lib.decFrom acc l = some n → Lib.digitVal d = some x → Lib.decFrom acc (l ++ [d]) = some (n * 10 + x) := by
        intro l
        induction l with
        | nil => intro acc n d x h hx; simp only [Lib.decFrom, Option.some.injEq] at h; subst h; simp [Lib.decFrom, hx]
        | cons c r ih2 =>
          intro acc n d x h hx
          simp only [List.cons_append, Lib.decFrom] at h ⊢
          split at h
          · rename_i y hy; exact ih2 _ _ _ _ h hx
          · cases h
      have dv : ∀ x, x < 10 → Lib.digitVal (UInt8.ofNat (48 + x)) = some x := by
        intro x hx
        unfold Lib.digitVal
        rw [UInt8.toNat_ofNat', Nat.mod_eq_of_lt (by omega), if_pos (by omega)]
        congr 1; omega
      by_cases h : v < 10
      · rw [dig_lt v h]
        have := app [] 0 0 _ v rfl (dv v h)
        simpa using this
      · rw [dig_ge v h]
        have := app (I.dig (v / 10)) 0 (v / 10) _ (v % 10) (ih (v / 10) (by omega)) (dv _ (by omega))
        rw [this]
        congr 1; omega
  unfold Lib.decNat
  rw [if_neg (by have := I.dig_ne v; simp [this]), key v]


theorem num_length (n : Int) (h : -1099511627776 ≤ n ∧ n ≤ 1099511627776) : (num n).length ≤ 14 := by
  have := I.dig_length n.natAbs (by omega)
  unfold num
  split
  · rw [List.length_cons]; omega
  · omega
theorem atoi_num (n : Int) : Lib.atoi (num n) = some n := by
  unfold num
  split
  · simp only [Lib.atoi, atoi_dig]
    simp
    omega
  · obtain ⟨c, r, h, hd⟩ := I.dig_head n.natAbs
    have h1 := atoi_dig n.natAbs
    rw [h] at h1 ⊢
    have e1 : (c == 45) = false := by rw [beq_eq_false_iff_ne]; rintro rfl; cases hd
    have e2 : (c == 43) = false := by rw [beq_eq_false_iff_ne]; rintro rfl; cases hd
    simp only [Lib.atoi, e1, e2, h1]
    simp
    omega
theorem numOf_num (n least : Int) (h : -1099511627776 ≤ n ∧ n ≤ 1099511627776) (hl : least ≤ n) : numOf (num n) least = (n, 0) := by
  unfold numOf
  rw [Lib.atoiAll_short _ (by have := num_length n h; omega), atoi_num]
  show (if num n = num n ∧ least ≤ n ∧ n ≤ 1099511627776 then (n, (0 : Int)) else (0, 6)) = _
  rw [if_pos ⟨rfl, hl, h.2⟩]

theorem findN_at (l : List Bs) (k : Nat) (s : Bs) (h : l[k]? = some s) (hn : I.isName s = true) (hd : l.Nodup) : findN l s = ((k : Int), 0) := by
  unfold findN
  rw [if_neg (by rw [hn]; decide)]
  obtain ⟨h1, h2⟩ := List.getElem?_eq_some_iff.1 h
  have : l.findIdx? (· == s) = some k := by
    rw [List.findIdx?_eq_some_iff_getElem]
    refine ⟨h1, by simpa using h2, fun j hj => ?_⟩
    have hj1 : j < l.length := Nat.lt_trans hj h1
    have hne : l[j] ≠ s := by
      rw [← h2]
      exact List.pairwise_iff_getElem.1 hd j k hj1 h1 hj
    simpa using hne
  rw [this]

/-! ## Expressions -/

/-- Bytes that stand in a line as they are. -/
structure OkP (P : UInt8 → Prop) (e : Bs) : Prop where
  ne : e ≠ []
  head : e.head? ≠ some 32
  last : e.getLast? ≠ some 32
  all : ∀ c ∈ e, P c
abbrev Ok1 := OkP fun c => c ≠ 10 ∧ c ≠ 59
abbrev OkL := OkP fun c => c ≠ 10
theorem OkP.l {e : Bs} (h : Ok1 e) : OkL e := ⟨h.ne, h.head, h.last, fun c hc => (h.all c hc).1⟩

theorem last_app {a b : Bs} (h : b ≠ []) : (a ++ b).getLast? = b.getLast? := by
  rw [List.getLast?_append]
  cases hb : b.getLast? with
  | none => exact absurd (List.getLast?_eq_none_iff.1 hb) h
  | some c => rfl
theorem OkP.mid {P : UInt8 → Prop} {a m b : Bs} (ha : OkP P a) (hm : ∀ c ∈ m, P c) (hb : OkP P b) : OkP P (a ++ (m ++ b)) where
  ne := fun e => ha.ne (List.append_eq_nil_iff.1 e).1
  head := by rw [head_app ha.ne]; exact ha.head
  last := by rw [← List.append_assoc, last_app hb.ne]; exact hb.last
  all := by
    intro c hc
    rcases List.mem_append.1 hc with h | h
    · exact ha.all c h
    · rcases List.mem_append.1 h with h | h
      · exact hm c h
      · exact hb.all c h
theorem OkP.of_wd {P : UInt8 → Prop} {w : Bs} (h : Wd w) (g : ∀ c ∈ w, P c) : OkP P w := ⟨h.1, h.head, h.last, g⟩
theorem ok_name {s : Bs} (h : I.isName s = true) : Ok1 s := OkP.of_wd (name_wd h) fun c hc => ⟨(idc_no ((name_idc h).2 c hc)).2.1, (idc_no ((name_idc h).2 c hc)).2.2.1⟩
theorem ok_dig (n : Nat) : Ok1 (I.dig n) := OkP.of_wd ⟨I.dig_ne n, fun c hc => (digit_no (I.dig_digits n c hc)).1⟩ fun c hc => ⟨(digit_no (I.dig_digits n c hc)).2.1, (digit_no (I.dig_digits n c hc)).2.2.1⟩
theorem ok_one (c : UInt8) (h : c ≠ 32 ∧ c ≠ 10 ∧ c ≠ 59) : Ok1 [c] := ⟨by simp, by simpa using h.1, by simpa using h.1, by intro x hx; simp at hx; subst hx; exact h.2⟩
theorem all_app {a b : Bs} (ha : ∀ c ∈ a, c ≠ 10 ∧ c ≠ 59) (hb : ∀ c ∈ b, c ≠ 10 ∧ c ≠ 59) : ∀ c ∈ a ++ b, c ≠ 10 ∧ c ≠ 59 := fun c hc => (List.mem_append.1 hc).elim (ha c) (hb c)
theorem ok_wrap (r least : Nat) (p : List Bs) (h : Ok1 p.flatten) : Ok1 (I.wrap r least p).flatten := by
  unfold I.wrap
  split
  · have := OkP.mid (ok_one 40 (by decide)) h.all (ok_one 41 (by decide))
    simpa using this
  · exact h
theorem ok_sign (o : Int) : ∀ c ∈ ([32] ++ I.sign o ++ [32] : Bs), c ≠ 10 ∧ c ≠ 59 := by
  have : ∀ c ∈ I.sign o, c ≠ 10 ∧ c ≠ 59 := by
    unfold I.sign
    repeat' split
    all_goals decide
  exact all_app (all_app (by decide) this) (by decide)

theorem ok_text (vs : List Bs) (e : I.Ex) (h : I.Nm vs e) : Ok1 (I.text vs e) := by
  unfold I.text
  induction e with
  | con n =>
    unfold I.pieces
    split
    · have := OkP.mid (ok_one 45 (by decide)) (m := []) (by simp) (ok_dig n.natAbs)
      simpa using this
    · simpa using ok_dig n.natAbs
  | var k => simpa [I.pieces] using ok_name h
  | arg k =>
    have := OkP.mid (ok_one 36 (by decide)) (m := []) (by simp) (ok_dig k)
    simpa [I.pieces] using this
  | un o a ih =>
    have ih := ih h
    unfold I.pieces
    split
    · split
      · have := OkP.mid (ok_one 45 (by decide)) (m := [40] ++ (I.pieces vs a).flatten) (all_app (by decide) ih.all) (ok_one 41 (by decide))
        simpa using this
      · have := OkP.mid (ok_one 45 (by decide)) (m := []) (by simp) (ok_wrap (I.rank a) 6 _ ih)
        simpa using this
    · have := OkP.mid (ok_one 33 (by decide)) (m := []) (by simp) (ok_wrap (I.rank a) 6 _ ih)
      simpa using this
  | ite a b c iha ihb ihc =>
    have iha := iha h.1
    have ihb := ihb h.2.1
    have ihc := ihc h.2.2
    have := OkP.mid (a := I.wif) (OkP.of_wd ⟨by decide, by decide⟩ (by decide)) (m := [40] ++ (I.pieces vs a).flatten ++ [44, 32] ++ (I.pieces vs b).flatten ++ [44, 32] ++ (I.pieces vs c).flatten)
      (all_app (all_app (all_app (all_app (all_app (by decide) iha.all) (by decide)) ihb.all) (by decide)) ihc.all) (ok_one 41 (by decide))
    simpa [I.pieces] using this
  | bin o a b iha ihb =>
    have iha := iha h.1
    have ihb := ihb h.2
    unfold I.pieces
    split
    · have hw : Ok1 (if o = 9 then I.wmin else I.wmax) := by split <;> exact OkP.of_wd ⟨by decide, by decide⟩ (by decide)
      have := OkP.mid hw (m := [40] ++ (I.pieces vs a).flatten ++ [44, 32] ++ (I.pieces vs b).flatten) (all_app (all_app (all_app (by decide) iha.all) (by decide)) ihb.all) (ok_one 41 (by decide))
      simpa using this
    · have := OkP.mid (ok_wrap (I.rank a) (if I.rank (.bin o a b) = 3 then 4 else I.rank (.bin o a b)) _ iha) (ok_sign o) (ok_wrap (I.rank b) (I.rank (.bin o a b) + 1) _ ihb)
      simpa using this
end Go.Proofs.YtfooiggedgcjcaaGreatDoor.T
