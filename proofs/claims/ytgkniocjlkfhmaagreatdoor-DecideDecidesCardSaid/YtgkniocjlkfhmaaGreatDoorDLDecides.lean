/-
  DecideDecides: what becomes of every command in every state; the state stays.
-/
import Derived.Test.YtgkniocjlkfhmaaGreatDoorRows
import Derived.Test.YtgkniocjlkfhmaaGreatDoorTie
import Derived.Test.YtgkniocjlkfhmaaGreatDoorCards
import Derived.Test.YtgkniocjlkfhmaaGreatDoorSVc
import Derived.Test.YtgkniocjlkfhmaaGreatDoorSVd
import Derived.Test.YtgkniocjlkfhmaaGreatDoorSVm
import Derived.Test.YtgkniocjlkfhmaaGreatDoorDRe
import Derived.Test.YtgkniocjlkfhmaaGreatDoorDSz
import Derived.OpenShut
import Derived.Deep.RegionHeldLaw
namespace Go.Proofs.YtgkniocjlkfhmaaGreatDoor.decideDecides
open Go Go.ChangeShapes Go.WideShapes Go.ChangeAt Go.RowKit
open Go.Proofs.YtgkniocjlkfhmaaGreatDoor.B Go.Proofs.YtgkniocjlkfhmaaGreatDoor.K Go.Proofs.YtgkniocjlkfhmaaGreatDoor.E Go.Proofs.YtgkniocjlkfhmaaGreatDoor.R Go.Proofs.YtgkniocjlkfhmaaGreatDoor.D
set_option linter.unusedVariables false
set_option maxRecDepth 100000

theorem own : ownKnob Tryz.prog.godebug = none := by kernel_rfl
theorem laidOut : laidOutB Tryz.prog = true := by kernel_rfl

def DdMid (w : World) (g1 g2 : Nat) (c0 c1 c2 c3 : Value) (p r : Int) (av : Option Addr) (nv kv : Nat) (cl sq : Int) (sr : Value) (rl : Int) (u : Value) (ex : Int) (vs : List Int) (s7 : Value) (wx : World) : Prop :=
  ∃ g a k, s7 = .pointer (some ⟨g, 0, none⟩) ∧ Below w.heap.size w wx ∧ Box3 w.heap.size g1 g2 c0 c1 c2 c3 p r (.slice av nv kv) cl sq sr rl u ex wx ∧ wx.cell? ⟨g, 0, none⟩ = some (.int .i64 p) ∧ wx.cell? ⟨g, 1, none⟩ = some (.int .i64 r) ∧ wx.cell? ⟨g, 2, none⟩ = some (.slice a nv k) ∧ SlN wx (.slice a nv k) vs
theorem be1 (w : World) (a : Obj) : Below w.heap.size w (w.alloc a).drew := (below_alloc w a).drew
theorem al2 (w : World) (a b : Obj) : Below w.heap.size w ((w.alloc a).alloc b) := (below_alloc w a).trans ((below_alloc _ _).mono (below_alloc w a).size)
theorem be5 {w W : World} (h : Below w.heap.size w W) (a : Obj) : Below w.heap.size w (W.alloc a).drew := (h.alloc h.size a).drew
theorem be6 {w W : World} (h : Below w.heap.size w W) (a : Obj) : Below w.heap.size w (W.alloc a) := h.alloc h.size a
theorem be3s {w W : World} (h : Below w.heap.size w W) {g : Nat} (hg : w.heap.size ≤ g) (a b c : Value) : Below w.heap.size w (((W.setCell ⟨g, 0, none⟩ a).setCell ⟨g, 1, none⟩ b).setCell ⟨g, 2, none⟩ c) :=
  ((h.setCell (p := ⟨g, 0, none⟩) hg a).setCell (p := ⟨g, 1, none⟩) hg b).setCell (p := ⟨g, 2, none⟩) hg c
theorem own_empty6 (w : World) (o : Obj) (e : TypeId) : ((w.alloc o).alloc (.cells #[] e)).ownsRow w.heap.size e 1 (.slice (some ⟨w.heap.size + 1, 0, none⟩) 0 0) 0 [] := by
  have h := own_empty5 (w.alloc o) w.heap.size e 1 (below_alloc w o).size
  rwa [show (w.alloc o).heap.size = w.heap.size + 1 by simp] at h
theorem st_at {X : World} {g : Nat} (h : X.heap[g]? = some (.cells #[.int .i64 0, .int .i64 0, .slice none 0 0] 41 (0, 0))) :
    X.cell? ⟨g, 0, none⟩ = some (.int .i64 0) ∧ X.cell? ⟨g, 1, none⟩ = some (.int .i64 0) ∧ X.cell? ⟨g, 2, none⟩ = some (.slice none 0 0) ∧ X.frozen? ⟨g, 0, none⟩ = false ∧ X.frozen? ⟨g, 1, none⟩ = false ∧ X.frozen? ⟨g, 2, none⟩ = false ∧ X.heap[g]? = some (.cells #[.int .i64 0, .int .i64 0, .slice none 0 0] 41 (0, 0)) := by
  simp [World.cell?, World.frozen?, h]
theorem st_two (w : World) (o : Obj) (X : World) (hg : ((w.alloc o).drew.alloc (.cells #[.int .i64 0, .int .i64 0, .slice none 0 0] 41)).grownBy X (some w.heap.size)) :
    X.cell? ⟨w.heap.size + 1, 0, none⟩ = some (.int .i64 0) ∧ X.cell? ⟨w.heap.size + 1, 1, none⟩ = some (.int .i64 0) ∧ X.cell? ⟨w.heap.size + 1, 2, none⟩ = some (.slice none 0 0) ∧ X.frozen? ⟨w.heap.size + 1, 0, none⟩ = false ∧ X.frozen? ⟨w.heap.size + 1, 1, none⟩ = false ∧ X.frozen? ⟨w.heap.size + 1, 2, none⟩ = false ∧ X.heap[w.heap.size + 1]? = some (.cells #[.int .i64 0, .int .i64 0, .slice none 0 0] 41 (0, 0)) := by
  have h := heap_alloc_at (w.alloc o).drew (.cells #[.int .i64 0, .int .i64 0, .slice none 0 0] 41)
  rw [show (w.alloc o).drew.heap.size = w.heap.size + 1 from (show (w.alloc o).heap.size = w.heap.size + 1 by simp)] at h
  exact st_at ((hg.block _ (show w.heap.size + 1 < (((w.alloc o).drew.alloc _).heap.size) from (show w.heap.size + 1 < (((w.alloc o).alloc (.cells #[.int .i64 0, .int .i64 0, .slice none 0 0] 41)).heap.size) by simp)) (by simp)).trans h)
theorem st_three (w : World) (o : Obj) (X : World) (hg : ((w.alloc (.cells #[.int .i64 0, .int .i64 0, .slice none 0 0] 41)).alloc o).drew.grownBy X (some (w.heap.size + 1))) :
    X.cell? ⟨w.heap.size, 0, none⟩ = some (.int .i64 0) ∧ X.cell? ⟨w.heap.size, 1, none⟩ = some (.int .i64 0) ∧ X.cell? ⟨w.heap.size, 2, none⟩ = some (.slice none 0 0) ∧ X.frozen? ⟨w.heap.size, 0, none⟩ = false ∧ X.frozen? ⟨w.heap.size, 1, none⟩ = false ∧ X.frozen? ⟨w.heap.size, 2, none⟩ = false ∧ X.heap[w.heap.size]? = some (.cells #[.int .i64 0, .int .i64 0, .slice none 0 0] 41 (0, 0)) := by
  have h := heap_alloc_at w (.cells #[.int .i64 0, .int .i64 0, .slice none 0 0] 41)
  refine st_at ((hg.block _ (show w.heap.size < (((w.alloc (.cells #[.int .i64 0, .int .i64 0, .slice none 0 0] 41)).alloc o).heap.size) by simp; omega) (by simp)).trans ?_)
  show ((w.alloc (.cells #[.int .i64 0, .int .i64 0, .slice none 0 0] 41)).alloc o).heap[w.heap.size]? = _
  rw [Below.heap_alloc _ _ _ (by simp)]; exact h
theorem size_two (w : World) (a b : Obj) : ((w.alloc a).alloc b).heap.size = w.heap.size + 2 := by simp
theorem ne_of_hat {b N M g : Nat} (h : some b = some N ∨ some b = some M) (h1 : N ≠ g) (h2 : M ≠ g) : b ≠ g := by
  rcases h with h | h
  · rw [Option.some.inj h]; exact h1
  · rw [Option.some.inj h]; exact h2
theorem be2 (w : World) (a b : Obj) : Below w.heap.size w ((w.alloc a).alloc b).drew := (al2 w a b).drew
section
variable {w Wz X : World} {g1 g2 : Nat} {c0 c1 c2 c3 : Value} {p r : Int} {av a5 : Option Addr} {nv kv k5 : Nat} {cl sq : Int} {sr : Value} {rl : Int} {u : Value} {ex : Int} {vs : List Int}
theorem dd_end {g : Nat} (hB : Below w.heap.size w Wz) (hX : Box3 w.heap.size g1 g2 c0 c1 c2 c3 p r (.slice av nv kv) cl sq sr rl u ex Wz) (hb : Below Wz.heap.size Wz X) (h : X.heap[g]? = some (.cells #[.int .i64 p, .int .i64 r, .slice a5 nv k5] 41 (0, 0))) (hs : SlN X (.slice a5 nv k5) vs) : DdMid w g1 g2 c0 c1 c2 c3 p r av nv kv cl sq sr rl u ex vs (.pointer (some ⟨g, 0, none⟩)) X :=
  ⟨g, a5, k5, rfl, hB.trans (hb.mono hB.size), hX.below hb, by simp [World.cell?, h], by simp [World.cell?, h], by simp [World.cell?, h], hs⟩
theorem sl_set {v x : Value} {xs : List Value} {g j : Nat} (h : Sl X v xs) (hn : ∀ b, v.ownBlock = some b → b ≠ g) : Sl (X.setCell ⟨g, j, none⟩ x) v xs := by
  obtain ⟨a, cap, rfl, hc⟩ := h
  refine ⟨a, cap, rfl, fun i y hi => ?_⟩
  obtain ⟨b, off, ea, hcell⟩ := hc i y hi
  refine ⟨b, off, ea, ?_⟩
  subst ea
  unfold World.cell? at hcell ⊢
  rw [heap_setCell_other _ ⟨g, j, none⟩ b _ (hn b rfl)]
  exact hcell
theorem dd_end3 {g : Nat} (hB : Below w.heap.size w Wz) (hX : Box3 w.heap.size g1 g2 c0 c1 c2 c3 p r (.slice av nv kv) cl sq sr rl u ex Wz) (hb : Below Wz.heap.size Wz X) (hg : Wz.heap.size ≤ g) (h : X.heap[g]? = some (.cells #[.int .i64 0, .int .i64 0, .slice none 0 0] 41 (0, 0))) (hs : SlN X (.slice a5 nv k5) vs) (hn : ∀ b, (Value.slice a5 nv k5).ownBlock = some b → b ≠ g) :
    DdMid w g1 g2 c0 c1 c2 c3 p r av nv kv cl sq sr rl u ex vs (.pointer (some ⟨g, 0, none⟩)) (((X.setCell ⟨g, 0, none⟩ (.int .i64 p)).setCell ⟨g, 1, none⟩ (.int .i64 r)).setCell ⟨g, 2, none⟩ (.slice a5 nv k5)) :=
  dd_end hB hX (be3s hb hg _ _ _) (heap_setCell_same _ g 2 _ _ _ (heap_setCell_same _ g 1 _ _ _ (heap_setCell_same _ g 0 _ _ _ h))) (sl_set (sl_set (sl_set hs hn) hn) hn)
end
theorem dec_small {t : Tb} {s : Stt} {c : Cm} (hc : chk5 t = (0, 0, 0, 0)) : (decide7 t s c).1.length ≤ 9223372036854775807 ∧ ∀ e ∈ (decide7 t s c).1, e.vars.length ≤ 4611686018427387904 := by
  have hf := fine_of hc
  by_cases h : (decide7 t s c).2 = 0
  · obtain ⟨n, r, _, _, h1, h2, h3⟩ := dec_ok hc h
    exact ⟨by omega, fun e he => by have := (h3 e he).2.1; have := hf.vars; omega⟩
  · rw [(dec_code h).1]
    exact ⟨Nat.zero_le _, fun e he => by cases he⟩

section
variable {H : Type} {enc : TypeId × Value → H} {W : World}
/-- How long the data of a slice of one cell an element is. -/
theorem ints_data {t e : TypeId} {P : Program} (ht : P.underlying t = some (.slice e)) {fuel : Nat} {v : Value} {y : DataW H × List MemPlace} {xs : List Value} (hs : Sl W v xs) (hf : DataW.trod enc P W 0 (fun _ => true) true fuel t [v] = some y) :
    xs = [] ∨ ∃ elems spare, y.1 = .slice elems spare ∧ elems.length = xs.length := by
  obtain ⟨a, cap, rfl, _⟩ := hs
  rcases Go.Deep.open_slice ht hf with ⟨hcs, _⟩ | ⟨a', len, cap', m, n, D, Pl, hcs, _, _, _, _, hx, _⟩
  · simp only [List.cons.injEq, Value.slice.injEq, and_true] at hcs
    exact Or.inl (List.eq_nil_of_length_eq_zero hcs.2.1)
  · simp only [List.cons.injEq, Value.slice.injEq, and_true] at hcs
    exact Or.inr ⟨_, _, by rw [hx], by simp [hcs.2.1]⟩

/-- A state's variables are no more than fit. -/
theorem st_size {a b u : Value} {d : DataW H} {p : List MemPlace} {vars : List Int} (hd : DataW.Trod enc Tryz.prog W 0 (fun _ => true) true 41 (.agg #[a, b, u]) d p) (hs : SlN W u vars)
    (hb : ∀ m ∈ DataW.weights Tryz.prog 41 d, m ≤ 140737488351232) : vars.length * 8 ≤ 140737488351232 := by
  obtain ⟨fuel, hf⟩ := hd
  obtain ⟨xs, n, _, hx, _, hxl, hg⟩ := DataW.trod_struct Tryz.underlying41 hf
  simp only [Prod.mk.injEq] at hx
  obtain ⟨rfl, _⟩ := hx
  obtain ⟨y0, y1, y2, rfl⟩ : ∃ a b c, xs = [a, b, c] := by
    match xs, hxl with
    | [a, b, c], _ => exact ⟨a, b, c, rfl⟩
  have h2 : DataW.trod enc Tryz.prog W 0 (fun _ => true) true n 23 [u] = some y2 := hg 2 _ rfl
  have hb8 : Tryz.prog.bytesOf 3 = 8 := by kernel_rfl
  rcases ints_data Tryz.underlying23 hs h2 with h | ⟨elems, spare, hy, he⟩
  · have : vars = [] := List.map_eq_nil_iff.1 h
    subst this; decide
  · rw [List.length_map] at he
    have hm : (elems.length + spare.length) * 8 ∈ DataW.weights Tryz.prog 41 (.agg [y0.1, y1.1, y2.1]) := by
      unfold DataW.weights
      rw [Tryz.underlying41]
      exact DataW.weights_mem_each (j := 2) (t := 23) rfl (by rw [hy]; rfl) _ (by unfold DataW.weights; rw [Tryz.underlying23]; simp [hb8])
    have h1 := hb _ hm
    rw [he] at h1
    omega
end

set_option maxHeartbeats 8000000 in
theorem walk (t : Tb) (c0 c1 c2 c3 : Value) (s : Stt) (v : Value) (c : Cm) (u : Value) (w : World) (h : TbIs w [c0, c1, c2, c3] t) (hw : TbWf t) (hs : SlN w v s.vars) (hsw : StWf s) (hc : SlN w u c.args) (hcw : CmWf c) (hv8 : s.vars.length * 8 ≤ 140737488351232) (hG : I.Glob w) :
    Calls Tryz.prog 6 #[.agg #[c0, c1, c2, c3], .agg #[.int .i64 s.pos, .int .i64 s.ver, v], .agg #[.int .i64 c.client, .int .i64 c.seq, sv c.stream, .int .i64 c.rule, u, .int .i64 c.expect]] w fun e w' => e = .returned (.bool true) ∧ Below w.heap.size w w' := by
  have HD0 := fun (W : World) (hb : Below w.heap.size w W) => decide_any t s c c0 c1 c2 c3 v u W (h.below hb) hw (Sl.below hs hb) hsw.2.2.2 (Sl.below hc hb) hcw (hG.below hb)
  have HD1 := fun (hk : chk5 t = (0, 0, 0, 0)) (W : World) (hb : Below w.heap.size w W) => refDecide_any t s c c0 c1 c2 c3 v u W hk (h.below hb) hw (Sl.below hs hb) hsw.2.2.2 (Sl.below hc hb) hcw
  have HL0 := fun (W : World) (hb : Below w.heap.size w W) => lawRight_any t c0 c1 c2 c3 W (h.below hb) hw
  have HAW := Lib.hid (fun (W : World) (hb : Below w.heap.size w W) => awake_any W (hG.below hb))
  have HSM0 := fun (v' : Value) (W : World) (hb : Below w.heap.size w W) (h' : SlN W v' s.vars) => sameS_any s v' v W h' (Sl.below hs hb) (by omega)
  have HV0 := hs
  obtain ⟨av, kv, rfl⟩ := sl_len hs
  obtain ⟨nv, hnv⟩ : ∃ n, s.vars.length = n := ⟨_, rfl⟩
  rw [List.length_map, hnv] at HV0 HD0 HD1 HSM0 ⊢
  obtain ⟨p, hp⟩ : ∃ N, s.pos = N := ⟨_, rfl⟩
  obtain ⟨r, hr⟩ : ∃ N, s.ver = N := ⟨_, rfl⟩
  obtain ⟨cl, hcl⟩ : ∃ N, c.client = N := ⟨_, rfl⟩
  obtain ⟨sq, hsq⟩ : ∃ N, c.seq = N := ⟨_, rfl⟩
  obtain ⟨sr, hsr⟩ : ∃ N, sv c.stream = N := ⟨_, rfl⟩
  obtain ⟨rl, hrl⟩ : ∃ N, c.rule = N := ⟨_, rfl⟩
  obtain ⟨ex, hex⟩ : ∃ N, c.expect = N := ⟨_, rfl⟩
  obtain ⟨B, hB⟩ : ∃ B, mayB t = B := ⟨_, rfl⟩
  rw [hp, hr, hcl, hsq, hsr, hrl, hex] at HD0 HD1 ⊢
  rw [hp, hr] at HSM0
  rw [hB] at HL0
  have HD := Lib.hid HD0
  have HR := Lib.hid HD1
  have HL := Lib.hid HL0
  have HSM := Lib.hid HSM0
  have HV := Lib.hid HV0
  have HBB := Lib.hid hB
  have HNV := Lib.hid hnv
  have H8 := Lib.hid hv8
  obtain ⟨Wz, hWz⟩ : ∃ Wz, ((w.alloc (.cells #[c0, c1, c2, c3] 26)).alloc (.cells #[.int .i64 p, .int .i64 r, .slice av nv kv] 41)).alloc (.cells #[.int .i64 cl, .int .i64 sq, sr, .int .i64 rl, u, .int .i64 ex] 43) = Wz := ⟨_, rfl⟩
  have hbox := Box3.new w c0 c1 c2 c3 p r (.slice av nv kv) cl sq sr rl u ex
  rw [hWz] at hbox
  have hbz : Below w.heap.size w Wz := by
    rw [← hWz]
    exact ((below_alloc w _).alloc (below_alloc w _).size _).alloc (Nat.le_trans (below_alloc w _).size (below_alloc _ _).size) _
  obtain ⟨g1, hg1⟩ : ∃ g, (w.alloc (.cells #[c0, c1, c2, c3] 26)).heap.size = g := ⟨_, rfl⟩
  obtain ⟨g2, hg2⟩ : ∃ g, ((w.alloc (.cells #[c0, c1, c2, c3] 26)).alloc (.cells #[.int .i64 p, .int .i64 r, .slice av nv kv] 41)).heap.size = g := ⟨_, rfl⟩
  rw [hg1, hg2] at hbox
  have HBX := Lib.hid hbox
  have HBZ := Lib.hid hbz
  clear h hw hs hsw hc hcw hG hv8 hnv hp hr hcl hsq hsr hrl hex hB hbox hbz HV0 HD0 HD1 HL0 HSM0
  go_enter Tryz.func6, Tryz.ntmps6
  go_upto_region 1 with fail
  clear hWz hg1 hg2
  go_cut [7] from 12 to 20 (fun s7 wx => DdMid w g1 g2 c0 c1 c2 c3 p r av nv kv cl sq sr rl u ex s.vars s7 wx)
  case first =>
    obtain ⟨i0, hi, hz0, hz1, hz2⟩ := info_parts Tryz.info3
    have HN0 := Lib.hid (show (nums s.vars).length = nv * 1 by rw [nums_length, HNV.out, Nat.mul_one])
    have HNO := Lib.hid (sl_none HV.out (by rw [List.length_map]; exact HNV.out))
    have HN1 := Lib.hid (show 0 + nv ≤ maxLen by have := H8.out; rw [HNV.out] at this; unfold maxLen; omega)
    have HN2 := Lib.hid (show (0 + nv) * 8 ≤ 140737488355328 by have := H8.out; rw [HNV.out] at this; omega)
    have HN3 := Lib.hid (fun (X : World) (hb : Below Wz.heap.size Wz X) => sl_news (Sl.below (Sl.below HV.out HBZ.out) hb))
    have HO1 := Lib.hid (own_empty5 Wz Wz.heap.size 3 1 (Nat.le_refl _))
    have HO2 := Lib.hid (show ((Wz.alloc (.cells #[] 3)).drew.alloc (.cells #[.int .i64 0, .int .i64 0, .slice none 0 0] 41)).ownsRow Wz.heap.size 3 1 (.slice (some ⟨Wz.heap.size, 0, none⟩) 0 0) 0 [] from World.ownsRow.alloc (own_empty5 Wz Wz.heap.size 3 1 (Nat.le_refl _)) (.cells #[.int .i64 0, .int .i64 0, .slice none 0 0] 41))
    have HBA2 := Lib.hid (show Below Wz.heap.size Wz ((Wz.alloc (.cells #[] 3)).drew.alloc (.cells #[.int .i64 0, .int .i64 0, .slice none 0 0] 41)) from be6 (be1 Wz _) _)
    have HBA3 := Lib.hid (show Below Wz.heap.size Wz ((Wz.alloc (.cells #[.int .i64 0, .int .i64 0, .slice none 0 0] 41)).alloc (.cells #[] 3)).drew from be2 Wz _ _)
    have HO3 := Lib.hid (own_empty6 Wz (.cells #[.int .i64 0, .int .i64 0, .slice none 0 0] 41) 3)
    have HS2 := Lib.hid (fun (X : World) (hg : ((Wz.alloc (.cells #[] 3)).drew.alloc (.cells #[.int .i64 0, .int .i64 0, .slice none 0 0] 41)).grownBy X (some Wz.heap.size)) => st_two Wz (.cells #[] 3) X hg)
    have HS3 := Lib.hid (fun (X : World) (hg : ((Wz.alloc (.cells #[.int .i64 0, .int .i64 0, .slice none 0 0] 41)).alloc (.cells #[] 3)).drew.grownBy X (some (Wz.heap.size + 1))) => st_three Wz _ X hg)
    have HKP := Lib.hid (fun (Wq : World) (hb : Below Wz.heap.size Wz Wq) => show Wq.cell? ⟨g1, 0, none⟩ = some (.int .i64 p) ∧ Wq.cell? ⟨g1, 1, none⟩ = some (.int .i64 r) ∧ Wq.cell? ⟨g1, 2, none⟩ = some (.slice av nv kv) ∧ Below Wz.heap.size Wz Wq from ⟨kept_cell hb HBX.out.s0, kept_cell hb HBX.out.s1, kept_cell hb HBX.out.s2, hb⟩)
    have hS0 : Wz.drew.cell? ⟨g1, 0, none⟩ = some (.int .i64 p) ∧ Wz.drew.cell? ⟨g1, 1, none⟩ = some (.int .i64 r) ∧ Wz.drew.cell? ⟨g1, 2, none⟩ = some (.slice av nv kv) ∧ Below Wz.heap.size Wz Wz.drew := HKP.out _ (Below.refl _ _).drew
    go_region_held_law (fun Wq => Wq.cell? ⟨g1, 0, none⟩ = some (.int .i64 p) ∧ Wq.cell? ⟨g1, 1, none⟩ = some (.int .i64 r) ∧ Wq.cell? ⟨g1, 2, none⟩ = some (.slice av nv kv) ∧ Below Wz.heap.size Wz Wq) (first | exact hS0 | exact HKP.out _ (be1 _ _) | exact HKP.out _ (be2 _ _ _) | exact HKP.out _ HB5.out | exact HKP.out _ (be5 HB5.out _) | exact HKP.out _ (be6 HB5.out _) | exact HKP.out _ (be3s (be6 HB5.out _) HB5.out.size _ _ _) | exact HKP.out _ (be3s HB5.out (Nat.le_refl _) _ _ _) | exact HKP.out _ (be3s HB5.out (Nat.le_succ _) _ _ _) | assumption) (first | (refine step_append_all rfl _ _ 23 rfl Wz.heap.size 3 i0 (.int .i64 0) 1 8 Tryz.underlying23 hi hz0 hz1 hz2 rfl (by decide) (.slice (some ⟨Wz.heap.size, 0, none⟩) 0 0) 0 [] rfl HO1.out av nv kv (nums s.vars) rfl HN0.out HNO.out (HN3.out _ (be1 _ _)) (nums_one _) HN1.out HN2.out (be1 _ _).size ?_; intro v5 w5 hown5 hgr5 hat5; have hb5 := (be1 _ _).grown hgr5 (be1 _ _).size (fun k hk => by cases hk; first | exact Nat.le_refl _ | exact Nat.le_succ _); have hown6 := own_zero hown5; obtain ⟨a5, k5, rfl⟩ := own_shape5 hown6; have HOW := Lib.hid hown6; have HB5 := Lib.hid hb5; have HAT := Lib.hid hat5; clear hown5 hown6 hgr5 hat5) | (refine step_append_all rfl _ _ 23 rfl Wz.heap.size 3 i0 (.int .i64 0) 1 8 Tryz.underlying23 hi hz0 hz1 hz2 rfl (by decide) (.slice (some ⟨Wz.heap.size, 0, none⟩) 0 0) 0 [] rfl HO2.out av nv kv (nums s.vars) rfl HN0.out HNO.out (HN3.out _ HBA2.out) (nums_one _) HN1.out HN2.out HBA2.out.size ?_; intro v5 w5 hown5 hgr5 hat5; have hb5 := HBA2.out.grown hgr5 HBA2.out.size (fun k hk => by cases hk; first | exact Nat.le_refl _ | exact Nat.le_succ _); have hown6 := own_zero hown5; obtain ⟨a5, k5, rfl⟩ := own_shape5 hown6; have HOW := Lib.hid hown6; have HB5 := Lib.hid hb5; have HAT := Lib.hid hat5; obtain ⟨y0, y1, y2, z0, z1, z2, z3⟩ := HS2.out _ hgr5; clear hown5 hown6 hgr5 hat5) | (refine step_append_all rfl _ _ 23 rfl Wz.heap.size 3 i0 (.int .i64 0) 1 8 Tryz.underlying23 hi hz0 hz1 hz2 rfl (by decide) (.slice (some ⟨Wz.heap.size + 1, 0, none⟩) 0 0) 0 [] rfl HO3.out av nv kv (nums s.vars) rfl HN0.out HNO.out (HN3.out _ HBA3.out) (nums_one _) HN1.out HN2.out HBA3.out.size ?_; intro v5 w5 hown5 hgr5 hat5; have hb5 := HBA3.out.grown hgr5 HBA3.out.size (fun k hk => by cases hk; first | exact Nat.le_refl _ | exact Nat.le_succ _); have hown6 := own_zero hown5; obtain ⟨a5, k5, rfl⟩ := own_shape5 hown6; have HOW := Lib.hid hown6; have HB5 := Lib.hid hb5; have HAT := Lib.hid hat5; obtain ⟨y0, y1, y2, z0, z1, z2, z3⟩ := HS3.out _ hgr5; clear hown5 hown6 hgr5 hat5) | fail)
    all_goals
      go_wp2_with fail
      go_meet
      first
        | exact dd_end HBZ.out HBX.out (be6 HB5.out _) (heap_alloc_at _ _) (Sl.owns (World.ownsRow.alloc HOW.out _))
        | exact dd_end3 HBZ.out HBX.out HB5.out (Nat.le_succ _) z3 (Sl.owns HOW.out) (fun b hb => ne_of_hat (N := Wz.heap.size) (M := ((Wz.alloc (.cells #[] 3)).drew.alloc (.cells #[.int .i64 0, .int .i64 0, .slice none 0 0] 41)).heap.size) (by have h := HAT.out; rw [hb] at h; exact h) (by omega) (show ((Wz.alloc (.cells #[] 3)).alloc (.cells #[.int .i64 0, .int .i64 0, .slice none 0 0] 41)).heap.size ≠ Wz.heap.size + 1 by rw [size_two]; omega))
        | exact dd_end3 HBZ.out HBX.out HB5.out (Nat.le_refl _) z3 (Sl.owns HOW.out) (fun b hb => ne_of_hat (N := Wz.heap.size + 1) (M := ((Wz.alloc (.cells #[.int .i64 0, .int .i64 0, .slice none 0 0] 41)).alloc (.cells #[] 3)).drew.heap.size) (by have h := HAT.out; rw [hb] at h; exact h) (by omega) (show ((Wz.alloc (.cells #[.int .i64 0, .int .i64 0, .slice none 0 0] 41)).alloc (.cells #[] 3)).heap.size ≠ Wz.heap.size by rw [size_two]; omega))
  case rest =>
    obtain ⟨W6, rfl⟩ : ∃ W : World, W = wc := ⟨_, rfl⟩
    obtain ⟨g, aw, kw, rfl, hb6, hx6, e0, e1, e2, hsl⟩ := (show DdMid w g1 g2 c0 c1 c2 c3 p r av nv kv cl sq sr rl u ex s.vars _ _ from hcut)
    have HX6 := Lib.hid hx6
    have HB6 := Lib.hid hb6
    have HE6 := Lib.hid (And.intro e0 (And.intro e1 e2))
    have HS6 := Lib.hid hsl
    have HD6 := Lib.hid (HD.out _ hb6)
    have t0 := hx6.t0
    have t1 := hx6.t1
    have t2 := hx6.t2
    have t3 := hx6.t3
    have s0 := hx6.s0
    have s1 := hx6.s1
    have s2 := hx6.s2
    have m0 := hx6.m0
    have m1 := hx6.m1
    have m2 := hx6.m2
    have m3 := hx6.m3
    have m4 := hx6.m4
    have m5 := hx6.m5
    clear hb6 hx6 e0 e1 e2 hsl HBX HBZ
    go_wp2_with fail
    refine HD6.out.mono ?_
    rintro _ w1 ⟨vl, rfl, hvl, hb1⟩
    obtain ⟨al, kl, rfl, -⟩ := hvl.1.open
    have HVL := Lib.hid hvl.1
    have HX1 := Lib.hid (HX6.out.below hb1)
    have HB1 := Lib.hid (HB6.out.trans (hb1.mono HB6.out.size))
    have HE1 := Lib.hid (And.intro (kept_cell hb1 HE6.out.1) (And.intro (kept_cell hb1 HE6.out.2.1) (kept_cell hb1 HE6.out.2.2)))
    have HS1 := Lib.hid (Sl.below HS6.out hb1)
    have HL1 := Lib.hid (HL.out w1 HB1.out)
    obtain ⟨D, hD⟩ : ∃ D, decide7 t s c = D := ⟨_, rfl⟩
    rw [hD] at HVL ⊢
    have HDD := Lib.hid hD
    obtain ⟨nl, hnl⟩ : ∃ n, D.1.length = n := ⟨_, rfl⟩
    rw [hnl] at HVL ⊢
    have HNL := Lib.hid hnl
    clear hvl hb1 hD hnl HD6 HD t0 t1 t2 t3 s0 s1 s2 m0 m1 m2 m3 m4 m5
    have t0 := HX1.out.t0
    have t1 := HX1.out.t1
    have t2 := HX1.out.t2
    have t3 := HX1.out.t3
    go_wp2_with fail
    refine HL1.out.mono ?_
    rintro _ w2 ⟨rfl, hb2⟩
    have HX2 := Lib.hid (HX1.out.below hb2)
    have HB2 := Lib.hid (HB1.out.trans (hb2.mono HB1.out.size))
    have HE2 := Lib.hid (And.intro (kept_cell hb2 HE1.out.1) (And.intro (kept_cell hb2 HE1.out.2.1) (kept_cell hb2 HE1.out.2.2)))
    have HS2 := Lib.hid (Sl.below HS1.out hb2)
    have HV2 := Lib.hid (EvsIs.below HVL.out hb2)
    have HA2 := Lib.hid (HAW.out w2 HB2.out)
    clear hb2 HL1 t0 t1 t2 t3
    cases B with
    | false =>
      have hk : ¬ chk5 t = (0, 0, 0, 0) := of_decide_eq_false HBB.out
      have hd : D = ([], 1) := by rw [← HDD.out]; unfold decide7; rw [if_neg hk]
      have hn0 : nl = 0 := by rw [← HNL.out, hd]; rfl
      subst hn0
      have h2 : D.2 = 1 := by rw [hd]
      rw [h2]
      clear hk hd h2
      go_wp2_with fail
      refine HA2.out.mono ?_
      rintro _ w3 ⟨rfl, hb3⟩
      have HB3 := Lib.hid (HB2.out.trans (hb3.mono HB2.out.size))
      clear hb3
      go_wp2_with fail
      go_ret
      exact ⟨rfl, HB3.out⟩
    | true =>
      have hk : chk5 t = (0, 0, 0, 0) := of_decide_eq_true HBB.out
      have HK := Lib.hid hk
      have hd : decided t s c = D := by rw [← HDD.out]; unfold decide7; rw [if_pos hk]
      have hr2 := HR.out hk w2 HB2.out
      rw [hd] at hr2
      have HR2 := Lib.hid hr2
      clear hk hd hr2
      have t0 := HX2.out.t0
      have t1 := HX2.out.t1
      have t2 := HX2.out.t2
      have t3 := HX2.out.t3
      have s0 := HX2.out.s0
      have s1 := HX2.out.s1
      have s2 := HX2.out.s2
      have m0 := HX2.out.m0
      have m1 := HX2.out.m1
      have m2 := HX2.out.m2
      have m3 := HX2.out.m3
      have m4 := HX2.out.m4
      have m5 := HX2.out.m5
      go_wp2_with fail
      refine HR2.out.mono ?_
      rintro _ w3 ⟨vm, rfl, hvm, hb3⟩
      have HX3 := Lib.hid (HX2.out.below hb3)
      have HB3 := Lib.hid (HB2.out.trans (hb3.mono HB2.out.size))
      have HE3 := Lib.hid (And.intro (kept_cell hb3 HE2.out.1) (And.intro (kept_cell hb3 HE2.out.2.1) (kept_cell hb3 HE2.out.2.2)))
      have HS3 := Lib.hid (Sl.below HS2.out hb3)
      have HV3 := Lib.hid (EvsIs.below HV2.out hb3)
      have HM3 := Lib.hid hvm
      have HA3 := Lib.hid (HAW.out w3 HB3.out)
      have hsm := dec_small (s := s) (c := c) HK.out
      rw [HDD.out] at hsm
      have HSZ := Lib.hid hsm
      clear hb3 hvm hsm HR2 HA2 t0 t1 t2 t3 s0 s1 s2 m0 m1 m2 m3 m4 m5
      go_wp2_with fail
      refine HA3.out.mono ?_
      rintro _ w4 ⟨rfl, hb4⟩
      have HX4 := Lib.hid (HX3.out.below hb4)
      have HB4 := Lib.hid (HB3.out.trans (hb4.mono HB3.out.size))
      have HE4 := Lib.hid (And.intro (kept_cell hb4 HE3.out.1) (And.intro (kept_cell hb4 HE3.out.2.1) (kept_cell hb4 HE3.out.2.2)))
      have HS4 := Lib.hid (Sl.below HS3.out hb4)
      have HQ4 := Lib.hid (sameE_any D.1 _ _ w4 (show EvsIs w4 (.slice al nl kl) D.1 by have h := EvsIs.below HV3.out hb4; exact h) (EvsIs.below HM3.out hb4) HSZ.out.1 HSZ.out.2)
      clear hb4 HA3
      go_wp2_with fail
      refine HQ4.out.mono ?_
      rintro _ w5 ⟨rfl, hb5⟩
      have HB5 := Lib.hid (HB4.out.trans (hb5.mono HB4.out.size))
      have HS5 := Lib.hid (Sl.below HS4.out hb5)
      have hq5 := HSM.out _ w5 HB5.out HS5.out
      have HQ5 := Lib.hid hq5
      have e0 := kept_cell hb5 HE4.out.1
      have e1 := kept_cell hb5 HE4.out.2.1
      have e2 := kept_cell hb5 HE4.out.2.2
      have s0 := kept_cell hb5 HX4.out.s0
      have s1 := kept_cell hb5 HX4.out.s1
      have s2 := kept_cell hb5 HX4.out.s2
      clear hb5 HQ4 hq5
      go_wp2_with fail
      refine HQ5.out.mono ?_
      rintro _ w6 ⟨rfl, hb6⟩
      have HB6' := Lib.hid (HB5.out.trans (hb6.mono HB5.out.size))
      clear hb6 e0 e1 e2 s0 s1 s2
      go_wp2_with fail
      go_ret
      exact ⟨rfl, HB6'.out⟩

/-- WHAT THE WALK GIVES, FOR EVERY ARGUMENT AND EVERY WORLD THAT HOLDS WHAT THE ROW LISTS. -/
theorem contract (H : Type) (enc : TypeId × Value → H) (W : World) (base : Nat) (args : Array Value) (ds gs : List (DataW H)) (before : List MemPlace)
    (hval0 : ∀ (j : Nat) t v, Tryz.f6.params[j]? = some t → args[j]? = some v → Value.okWide Tryz.prog W .any base t v)
    (hW : DataW.Whole enc Tryz.prog Tryz.f6.params.toList Rows.decideDecidesSpec.vars false W args.toList ds gs before) (hsz : (DataW.weightsEach Tryz.prog (Tryz.f6.params.toList ++ (OpenSpec.ofChange Rows.decideDecidesSpec).bare.plain.varTypes Tryz.prog) (ds ++ gs)).all (· ≤ reachBytes) = true) (hL : laidMetH Tryz.prog I.laid1 W) :
    Calls Tryz.prog 6 args W fun e W' => ∃ v, e = .returned v ∧ Rows.decideDecidesSpec.post enc Tryz.prog Tryz.f6 false true false false W args v W' := by
  have hval : ∀ (j : Nat) t v, Tryz.f6.params[j]? = some t → args[j]? = some v → Value.okWide Tryz.prog W .any base t v := hval0
  have hW' := hW
  obtain ⟨p, q, hA0, hV, rfl, hfz, hnd⟩ := hW
  have hA : DataW.TrodAll enc Tryz.prog W 0 (fun _ => true) true Tryz.f6.params.toList args.toList ds p := hA0
  rw [Tryz.params6] at hA hval hsz
  obtain ⟨v0, vs0, d0, ds0, p0, q0, hargs, rfl, rfl, h0, r0⟩ := trodAll_cons hA
  obtain ⟨v1, vs1, d1, ds1, p1, q1, rfl, rfl, rfl, h1, r1⟩ := trodAll_cons r0
  obtain ⟨v2, vs2, d2, ds2, p2, q2, rfl, rfl, rfl, h2, r2⟩ := trodAll_cons r1
  obtain ⟨rfl, rfl, rfl⟩ := trodAll_nil r2
  obtain rfl : args = #[v0, v1, v2] := by cases args; simp_all
  obtain ⟨c0, c1, c2, c3, t, rfl, ht, hwf⟩ := tb_arg (hval 0 26 v0 rfl rfl) h0
  obtain ⟨v, s, rfl, hs, hsw⟩ := st_arg (hval 1 41 v1 rfl rfl) h1
  obtain ⟨u, c, rfl, hc, hcw⟩ := cm_arg (hval 2 43 v2 rfl rfl) h2
  have hv8 : s.vars.length * 8 ≤ 140737488351232 := st_size h1 hs fun m hm => by
    have h2 := List.all_eq_true.1 hsz m (DataW.weights_mem_each (j := 1) (t := 41) rfl rfl m hm)
    have h3 : m ≤ reachBytes := by simpa using h2
    rw [show reachBytes = 140737488351232 by decide] at h3
    exact h3
  refine (walk t c0 c1 c2 c3 s v c u W ht hwf hs hsw hc hcw hv8 (I.glob_of hL)).mono fun e W' ⟨he, hb⟩ => ?_
  subst he
  exact ⟨_, rfl, post_law hW' hb laidOut rfl rfl rfl Tryz.underlying4 (by rw [Tryz.params6]; decide +kernel)⟩

theorem reads (os : Os) {H : Type} (enc : TypeId × Value → H) : ∃ places, DataW.whole enc Tryz.prog ((World.doorLaid Tryz.prog 77 os).forCall (fun _ _ => 0) ⟨#[], #[.agg #[.slice none 0 0, .slice none 0 0, .slice none 0 0, .slice none 0 0], .agg #[.int .i64 0, .int .i64 0, .slice none 0 0], .agg #[.int .i64 0, .int .i64 0, .string ⟨#[]⟩, .int .i64 0, .slice none 0 0, .int .i64 0]], []⟩).memory Tryz.f6.params.toList Rows.decideDecidesSpec.vars false (#[.agg #[.slice none 0 0, .slice none 0 0, .slice none 0 0, .slice none 0 0], .agg #[.int .i64 0, .int .i64 0, .slice none 0 0], .agg #[.int .i64 0, .int .i64 0, .string ⟨#[]⟩, .int .i64 0, .slice none 0 0, .int .i64 0]] : Array Value).toList 8 = some ([.agg [.nil, .nil, .nil, .nil], .agg [.lit (.int .i64 0), .lit (.int .i64 0), .nil], .agg [.lit (.int .i64 0), .lit (.int .i64 0), .lit (.string []), .lit (.int .i64 0), .nil, .lit (.int .i64 0)]], [], places) :=
  ⟨[], by kernel_rfl⟩

theorem lifted (os : Os) (started : os.Started) (H : Type) (enc : TypeId × Value → H) (F : Stop.Interp) :
    ReturnsInHanded {} Tryz.checked os 6 .any ((OpenSpec.ofChange Rows.decideDecidesSpec).preRow enc Tryz.prog Tryz.f6 Rows.decideDecidesRow.domain false Rows.decideDecidesRow.laid) (((OpenSpec.ofChange Rows.decideDecidesSpec).at F).post enc Tryz.prog Tryz.f6 false true false false) := by
  obtain ⟨places, hx⟩ := reads os enc
  refine returnsInHanded_of_row (C := Tryz.checked) (s := OpenSpec.ofChange Rows.decideDecidesSpec) own started (by kernel_rfl) Tryz.func6
    (witness_row_atRef (enc := enc) (C := Tryz.checked) false (World.doorLaid Tryz.prog 77 os) #[.agg #[.slice none 0 0, .slice none 0 0, .slice none 0 0, .slice none 0 0], .agg #[.int .i64 0, .int .i64 0, .slice none 0 0], .agg #[.int .i64 0, .int .i64 0, .string ⟨#[]⟩, .int .i64 0, .slice none 0 0, .int .i64 0]] rfl (by kernel_rfl) (by kernel_rfl) (by kernel_rfl)
      (OpenSpec.preRow_of_cond 8 hx (by kernel_rfl) (fun k hk => by cases hk) (by kernel_rfl) (I.laid_met os _))) ?_
  intro W base args ds gs before hval hW _ _ hsz hL _ _
  exact contract H enc W base args ds gs before hval hW hsz hL

theorem said : Rows.DecideDecidesSaid :=
  OpenClaim.holds_of_cond 6 Tryz.f6 rfl rfl rfl rfl rfl rfl rfl ⟨rfl, rfl, rfl, rfl, rfl⟩ rfl rfl rfl rfl rfl (by kernel_rfl) Tryz.func6 (by kernel_rfl)
    (of_decide_eq_true (by kernel_rfl)) (by unfold Func.isWrapper; first | (rw [if_pos (by decide +kernel)]; kernel_rfl) | (rw [if_neg (by decide +kernel)]; exact ⟨rfl, rfl⟩))
    (fun os started H enc _ F => by rw [OpenClaim.pre_eq_preRow]; exact lifted os started H enc F)

theorem plain (f : FuncId) (fn : Func) (hf : Tryz.pinned.checked.prog.funcNamed "surmise/surmiselaw07.DecideDecides" = some f) (hfn : Tryz.pinned.checked.prog.funcs[f]? = some fn) :
    true = Tryz.pinned.checked.prog.looks [] ∧ ∀ (j : Nat) t, fn.params[j]? = some t → Tryz.pinned.checked.prog.wantsStandIn t = false := by
  obtain rfl : f = 6 := Option.some.inj ((show Tryz.prog.funcNamed "surmise/surmiselaw07.DecideDecides" = some 6 by kernel_rfl).symm.trans hf) |>.symm
  obtain rfl : fn = Tryz.f6 := (Option.some.inj (Tryz.func6.symm.trans hfn)).symm
  refine ⟨by kernel_rfl, fun j t ht => ?_⟩
  rw [Tryz.params6] at ht
  have hm := Array.mem_of_getElem? ht
  simp only [Array.mem_def, List.mem_cons, List.not_mem_nil, or_false] at hm
  rcases hm with rfl | rfl | rfl
  · exact (show Tryz.prog.wantsStandIn 26 = false by kernel_rfl)
  · exact (show Tryz.prog.wantsStandIn 41 = false by kernel_rfl)
  · exact (show Tryz.prog.wantsStandIn 43 = false by kernel_rfl)

/-- THE CARD. -/
theorem given : Rows.DecideDecidesCardSaid :=
  Claim7.holds_tied_plain_at .later [] _ _ _ _ said (fun _ h => by cases h) (by kernel_rfl) (fun _ h => by cases h) decideDecides_row_tie rfl ⟨rfl, rfl⟩ (by kernel_rfl) rfl plain (by kernel_rfl)
end Go.Proofs.YtgkniocjlkfhmaaGreatDoor.decideDecides
