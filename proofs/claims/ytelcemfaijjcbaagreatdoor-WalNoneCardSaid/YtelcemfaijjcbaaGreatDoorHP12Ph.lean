/-
  Layer 12, the program: a file's bytes told, cut, and more.
  Layer 12, the program: a file is cut.
  Layer 12, the program: what a write does, or what is done of it when the disk goes down; Sync.
-/
import Derived.Test.YtelcemfaijjcbaaGreatDoorHP12Pe
import Derived.Test.YtelcemfaijjcbaaGreatDoorHP12Sh
import Derived.Lib.BufferRead
import Derived.Lib.SliceRun
import Derived.Deep.RegionLaw
import Derived.StillTailTactics
namespace Go.Proofs.YtelcemfaijjcbaaGreatDoor.C12
open Go Go.RowKit Go.Proofs Go.Proofs.YtelcemfaijjcbaaGreatDoor.B Go.Proofs.YtelcemfaijjcbaaGreatDoor.K Go.Proofs.YtelcemfaijjcbaaGreatDoor.P8
set_option linter.unusedVariables false
set_option maxRecDepth 100000

theorem cells_str (l : List UInt8) : Lib.strCells (str l) = Lib.byteCells l := rfl
/-- 'string(f.bytes)'. -/
theorem Buf.text {w : World} {v : Value} {l : List UInt8} (h : Buf w v l) : (convert 66 9 v).run Tryz.prog w = .ok (.string (str l)) w := by
  rcases h.row.2 with ⟨rfl, h0⟩ | ⟨g, cap, cur, rfl, h1, h2, h3, h4, h5, h6⟩
  · obtain rfl := List.length_eq_zero_iff.1 h0
    exact Lib.run_convert_nil_bytes w _ _ 5 0 Tryz.underlying66 Tryz.underlying5 Tryz.underlying9
  · exact run_convert_bytes_back w _ _ 5 ⟨g, 0, none⟩ cap l Tryz.underlying66 Tryz.underlying5 Tryz.underlying9 (Lib.bytes_of_row h2 (by rw [cells_str, Nat.mul_one] at h6; exact h6))

theorem pread_nil (s : List UInt8) (w : World) : Calls Tryz.prog 56 #[.pointer none, .string (str s)] w fun e w' => e = .returned (.tuple #[.string (str []), .int .i64 1]) ∧ Below w.heap.size w w' := by
  have HU := Lib.hid (pfind_nil s w)
  go_enter Tryz.func56, Tryz.ntmps56
  go_wp2_with (go_at_call 59; refine HU.out.mono ?_; rintro _ w1 ⟨rfl, rfl⟩)
  go_ret2
  exact ⟨rfl, Below.refl _ _⟩

section
variable {w : World} {F : Nat → Prop} {d M n : Nat} {Dm : DataW Nat} {g : List UInt8 → Nat} {bv : List UInt8 → Value} {D : Dst}

theorem pread_any (h : PAt w F d D) (s : List UInt8) (hs : s.length ≤ maxLen) : Calls Tryz.prog 56 #[.pointer (some ⟨d, 0, none⟩), .string (str s)] w fun e w' => e = .returned (.tuple #[.string (str (readD D s).1), .int .i64 (readD D s).2]) ∧ Below w.heap.size w w' := by
  obtain ⟨M, n, Dm, g, bv, h⟩ := h
  have HF := Lib.hid (pfind_any h s hs)
  unfold findR at HF
  unfold readD
  cases hd : D.down with
  | true =>
    rw [hd, if_pos rfl] at HF
    rw [if_pos rfl]
    clear hd h
    go_enter Tryz.func56, Tryz.ntmps56
    go_wp2_with (go_at_call 59; refine HF.out.mono ?_; rintro _ w1 ⟨rfl, rfl⟩)
    go_ret2
    exact ⟨rfl, Below.refl _ _⟩
  | false =>
    rw [hd, if_neg (by simp)] at HF
    rw [if_neg (by simp)]
    clear hd
    cases hf : findF D.files s with
    | none =>
      rw [hf] at HF
      clear hf h
      go_enter Tryz.func56, Tryz.ntmps56
      go_wp2_with (go_at_call 59; refine HF.out.mono ?_; rintro _ w1 ⟨rfl, rfl⟩)
      go_ret2
      exact ⟨rfl, Below.refl _ _⟩
    | some f =>
      rw [hf] at HF
      obtain ⟨hm, hn⟩ := find_facts hf
      have fat := h.each f hm
      rw [hn] at fat
      have ht := fat.buf.text
      have k0 := (row_at fat.cell 0 _ rfl).1
      obtain ⟨av, cap, hbv, _, _⟩ := fat.buf.at_
      rw [hbv] at ht k0
      obtain ⟨K, hK⟩ : ∃ K, (f.safe ++ f.more).length = K := ⟨_, rfl⟩
      obtain ⟨L, hL⟩ : ∃ L, f.safe ++ f.more = L := ⟨_, rfl⟩
      rw [hK] at ht k0
      rw [hL] at ht
      dsimp only
      rw [hL]
      clear hf h hm hn fat hbv hK hL
      go_enter Tryz.func56, Tryz.ntmps56
      go_wp2_with (go_at_call 59; refine HF.out.mono ?_; rintro _ w1 ⟨rfl, rfl⟩)
      go_ret2
      exact ⟨rfl, Below.refl _ _⟩
end

theorem byte_info : ∃ i, Tryz.prog.info? 5 = some i ∧ i.zero = some (.int .u8 0) ∧ i.size = 1 ∧ i.bytes = 1 := by
  refine ⟨_, rfl, ?_, ?_, ?_⟩ <;> kernel_rfl

/-- slices.Clone of bytes: memory of its own, or nil. -/
theorem pclone_nil (n c : Nat) (w : World) : Calls Tryz.prog 51 #[.slice none n c] w fun e w' => e = .returned (.slice none 0 0) ∧ w = w' := by
  have q22 : ∀ (w : World) (a : Option Addr) (n c n' c' : Nat), (binOp .eql 66 (.slice a n c) (.slice none n' c')).run Tryz.prog w = .ok (.bool a.isNone) w := fun w a n c n' c' => Lib.run_eql_slice_nil w _ _ a n c n' c' Tryz.underlying66
  go_enter Tryz.func51, Tryz.ntmps51
  go_wp2_with fail
  go_ret
  exact ⟨rfl, rfl⟩
set_option maxHeartbeats 1000000 in
theorem pclone_any (b c : Nat) (l : List UInt8) (w : World) (hl : l.length ≤ 65536) (hc : ∀ j u, (Lib.strCells (str l))[j]? = some u → w.cell? ⟨b, 0 + j, none⟩ = some u) :
    Calls Tryz.prog 51 #[.slice (some ⟨b, 0, none⟩) l.length c] w fun e w' => ∃ v', e = .returned v' ∧ w'.ownsRow w.heap.size 5 1 v' l.length (Lib.strCells (str l)) ∧ Below w.heap.size w w' := by
  have q22 : ∀ (w : World) (a : Option Addr) (n c n' c' : Nat), (binOp .eql 66 (.slice a n c) (.slice none n' c')).run Tryz.prog w = .ok (.bool a.isNone) w := fun w a n c n' c' => Lib.run_eql_slice_nil w _ _ a n c n' c' Tryz.underlying66
  obtain ⟨i0, hi, hz0, hz1, hz2⟩ := byte_info
  have hlen : (Lib.strCells (str l)).length = l.length := by rw [Lib.strCells_length, str_size]
  obtain ⟨N, hN⟩ : ∃ N, l.length = N := ⟨_, rfl⟩
  obtain ⟨cs, hcs⟩ : ∃ cs, Lib.strCells (str l) = cs := ⟨_, rfl⟩
  have h1 := Lib.strCells_oneCell (str l)
  rw [hcs] at hlen hc h1 ⊢
  rw [hN] at hlen hl ⊢
  have HC := Lib.hid hc
  have HL := Lib.hid hlen
  have H1 := Lib.hid h1
  clear hc hlen hcs hN h1
  go_enter Tryz.func51, Tryz.ntmps51
  go_wp2_with (at_builtin; refine wpList_append_own _ rfl _ _ 66 rfl w.heap.size 5 i0 (.int .u8 0) 1 1 Tryz.underlying66 hi hz0 hz1 hz2 rfl (by decide) _ _ _ rfl (World.ownsRow_made w #[] 0 (Nat.le_refl _) (Nat.zero_le _) (by simp)) ⟨b, 0, none⟩ N c cs rfl ?qc1 ?qc2 ?qc3 ?qc4 ?qc5 ?qc6 ?_)
  case qc1 => rw [HL.out]; omega
  case qc2 =>
    intro j u hj
    rw [Addr.add_lit]
    exact Lib.cell?_alloc_some _ (HC.out j u hj)
  case qc3 => exact H1.out
  case qc4 => unfold maxLen; omega
  case qc5 => omega
  case qc6 => simp
  intro v' w1 hown hgrow hnil
  go_wp2_with fail
  go_ret
  exact ⟨v', rfl, by simpa using hown, ((Below.refl _ w).alloc (Nat.le_refl _) _).grown hgrow (by simp) (by intro k hk; simp [Value.ownBlock] at hk; omega)⟩
end Go.Proofs.YtelcemfaijjcbaaGreatDoor.C12

namespace Go.Proofs.YtelcemfaijjcbaaGreatDoor.C12
open Go Go.RowKit Go.Proofs Go.Proofs.YtelcemfaijjcbaaGreatDoor.B Go.Proofs.YtelcemfaijjcbaaGreatDoor.K Go.Proofs.YtelcemfaijjcbaaGreatDoor.P8
set_option linter.unusedVariables false
set_option maxRecDepth 100000

def cutF (f : Fl) (k : Nat) : Fl := if k ≤ f.safe.length then ⟨f.name, f.safe.take k, []⟩ else ⟨f.name, f.safe, f.more.take (k - f.safe.length)⟩
theorem cutF_name (f : Fl) (k : Nat) : (cutF f k).name = f.name := by unfold cutF; split <;> rfl
theorem cutF_all (f : Fl) (k : Nat) : (cutF f k).safe ++ (cutF f k).more = (f.safe ++ f.more).take k := by
  unfold cutF
  split
  · rename_i h
    rw [List.take_append_of_le_length h, List.append_nil]
  · rename_i h
    show f.safe ++ f.more.take _ = _
    rw [List.take_append, List.take_of_length_le (l := f.safe) (by omega)]
theorem cutF_safe (f : Fl) (k : Nat) : (cutF f k).safe.length = min f.safe.length k := by
  unfold cutF
  split
  · rw [List.length_take]; omega
  · show f.safe.length = _; omega
theorem own_zero {w : World} {base : Nat} {e : TypeId} {size : Nat} {v : Value} {n : Nat} {xs : List Value} (h : w.ownsRow base e size v n xs) : w.ownsRow 0 e size v n xs := by
  refine ⟨h.1, ?_⟩
  rcases h.2 with h0 | ⟨g, cap, cur, rfl, h1, h2⟩
  · exact Or.inl h0
  · exact Or.inr ⟨g, cap, cur, rfl, Nat.zero_le _, h2⟩
theorem strCells_take (l : List UInt8) (k : Nat) : Lib.strCells (str (l.take k)) = (Lib.strCells (str l)).take k := by
  rw [cells_str, cells_str]
  unfold Lib.byteCells
  rw [List.map_take]

/-- The file's two cells as they are left. -/
theorem cut_end {w w1 : World} {b : Nat} {v v' : Value} {f : Fl} {k : Nat} (hat : FAt w b v f) (hk : k ≤ (f.safe ++ f.more).length) (hb1 : Below w.heap.size w w1) (hown : w1.ownsRow w.heap.size 5 1 v' k (Lib.strCells (str ((f.safe ++ f.more).take k)))) (m : Int) (hm : m = ((cutF f k).safe.length : Int)) :
    FAt ((w1.setCell ⟨b, 0, none⟩ v').setCell ⟨b, 1, none⟩ (.int .i64 m)) b v' (cutF f k) ∧ (∀ q, bufB v' = some q → w.heap.size ≤ q ∧ q < ((w1.setCell ⟨b, 0, none⟩ v').setCell ⟨b, 1, none⟩ (.int .i64 m)).heap.size) ∧ Tn (fun i => i = b) w ((w1.setCell ⟨b, 0, none⟩ v').setCell ⟨b, 1, none⟩ (.int .i64 m)) := by
  have hbl : b < w.heap.size := (Array.getElem?_eq_some_iff.1 hat.cell).1
  have hr := heap_setCell_same _ b 1 _ _ (.int .i64 m) (heap_setCell_same w1 b 0 _ _ v' ((hb1.block b hbl).trans hat.cell))
  have hlen : ((cutF f k).safe ++ (cutF f k).more).length = k := by rw [cutF_all, List.length_take]; omega
  have hsz : w1.heap.size ≤ ((w1.setCell ⟨b, 0, none⟩ v').setCell ⟨b, 1, none⟩ (.int .i64 m)).heap.size := Nat.le_trans (size_set _ _ _ _) (size_set _ _ _ _)
  have hob : ∀ q, bufB v' = some q → w.heap.size ≤ q ∧ q < w1.heap.size := hown.lt
  refine ⟨⟨?_, ?_⟩, fun q hq => ⟨(hob q hq).1, Nat.lt_of_lt_of_le (hob q hq).2 hsz⟩, ⟨hb1.os, hb1.tape, hb1.output, Nat.le_trans hb1.size hsz, fun i hi hne => ?_⟩⟩
  · rw [← hm]; exact hr
  · have hB : Buf w1 v' ((cutF f k).safe ++ (cutF f k).more) := ⟨by rw [hlen, cutF_all]; exact own_zero hown⟩
    refine hB.same fun q hq => ?_
    have hq' := (hob q hq).1
    have hne : q ≠ b := by omega
    rw [heap_setCell_other _ ⟨b, 1, none⟩ q _ hne, heap_setCell_other _ ⟨b, 0, none⟩ q _ hne]
  · rw [heap_setCell_other _ ⟨b, 1, none⟩ i _ hne, heap_setCell_other _ ⟨b, 0, none⟩ i _ hne]
    exact hb1.block i hi

set_option maxHeartbeats 2000000 in
theorem pcut_any (b : Nat) (v : Value) (f : Fl) (k : Nat) (w : World) (hat : FAt w b v f) (hl : f.safe.length + f.more.length ≤ 65536) (hk : k ≤ (f.safe ++ f.more).length) :
    Calls Tryz.prog 32 #[.pointer (some ⟨b, 0, none⟩), .int .i64 (k : Int)] w fun e w' => ∃ v', e = .returned (.tuple #[]) ∧ FAt w' b v' (cutF f k) ∧ (∀ q, bufB v' = some q → w.heap.size ≤ q ∧ q < w'.heap.size) ∧ Tn (fun i => i = b) w w' := by
  have HAT := Lib.hid hat
  have hbl : b < w.heap.size := (Array.getElem?_eq_some_iff.1 hat.cell).1
  have HK := Lib.hid hk
  have HE := Lib.hid fun (w1 : World) (v' : Value) (hb : Below w.heap.size w w1) ho m hm => cut_end (w1 := w1) (v' := v') (k := k) hat hk hb ho m hm
  have hsafe : f.safe.length ≤ 65536 := by omega
  have hk0 : 0 ≤ (k : Int) := by omega
  have hkl : k ≤ 65536 := by rw [List.length_append] at hk; omega
  obtain ⟨S, hS⟩ : ∃ S, f.safe.length = S := ⟨_, rfl⟩
  have hmin : ((cutF f k).safe.length : Int) = min (S : Int) (k : Int) := by
    rw [cutF_safe, hS]
    omega
  have hM := Lib.hid hmin
  have k0 := (row_at hat.cell 0 _ rfl).1
  have f0 := (row_at hat.cell 0 _ rfl).2
  have k1 := (row_at hat.cell 1 _ rfl).1
  have f1 := (row_at hat.cell 1 _ rfl).2
  rw [hS] at k1
  obtain ⟨hlen, hcase⟩ := hat.buf.row
  rcases hcase with ⟨rfl, h0⟩ | ⟨g, cap, cur, rfl, h1, h2, h3, h4, h5, h6⟩
  · obtain rfl : k = 0 := by omega
    have HC := Lib.hid (pclone_nil 0 0 w)
    have HO := Lib.hid (show w.ownsRow w.heap.size 5 1 (.slice none 0 0) 0 (Lib.strCells (str ((f.safe ++ f.more).take 0))) from by rw [List.take_zero]; exact World.ownsRow_nil _ _ _ _)
    rw [show (((0 : Nat) : Int)) = 0 from rfl] at hM ⊢
    clear hat hl hk hmin hlen h0 hsafe hS hk0 hkl
    go_enter Tryz.func32, Tryz.ntmps32
    go_wp2_with (go_at_call 51; refine HC.out.mono ?_; rintro _ w1 ⟨rfl, rfl⟩)
    go_end0
    exact ⟨_, rfl, HE.out _ _ (Below.refl _ _) HO.out _ hM.out.symm⟩
  · have hcap : (k : Int) ≤ (cap : Int) := by rw [List.length_append] at h3; rw [List.length_append] at hk; omega
    have hkl2 : ((f.safe ++ f.more).take k).length = k := by rw [List.length_take]; omega
    have HC := Lib.hid (fun c => pclone_any g c ((f.safe ++ f.more).take k) w (by rw [hkl2]; exact hkl) (fun j u hj => by
      rw [strCells_take] at hj
      have hj2 : (Lib.strCells (str (f.safe ++ f.more)))[j]? = some u := by
        rw [List.getElem?_take] at hj
        split at hj
        · exact hj
        · cases hj
      have := hat.buf.row.cells (g := g) rfl j u hj2
      rwa [Addr.add_lit] at this))
    rw [hkl2] at HC
    obtain ⟨L, hL⟩ : ∃ L, (f.safe ++ f.more).length = L := ⟨_, rfl⟩
    rw [hL] at k0 h3
    have hLc : (L : Int) ≤ (cap : Int) := by omega
    clear hat hl hk hmin hlen hsafe hS hkl h1 h2 h4 h5 h6 hL
    go_enter Tryz.func32, Tryz.ntmps32
    go_wp2_with (go_at_call 51; refine (HC.out _).mono ?_; rintro _ w1 ⟨v1, rfl, ho1, hb1⟩; have HO := Lib.hid ho1; obtain ⟨a1, cap1, rfl⟩ := shape_own ho1; have HB := Lib.hid hb1; have k1' := kept_cell hb1 k1; have f0' := (row_at ((hb1.block b hbl).trans HAT.out.cell) 0 _ rfl).2; have f1' := (row_at ((hb1.block b hbl).trans HAT.out.cell) 1 _ rfl).2; have k0' := (row_at ((hb1.block b hbl).trans HAT.out.cell) 0 _ rfl).1; clear ho1 hb1)
    go_end0
    exact ⟨_, rfl, HE.out _ _ HB.out HO.out _ hM.out.symm⟩
end Go.Proofs.YtelcemfaijjcbaaGreatDoor.C12

namespace Go.Proofs.YtelcemfaijjcbaaGreatDoor.C12
open Go Go.RowKit Go.Proofs Go.Proofs.YtelcemfaijjcbaaGreatDoor.B Go.Proofs.YtelcemfaijjcbaaGreatDoor.K Go.Proofs.YtelcemfaijjcbaaGreatDoor.P8
set_option linter.unusedVariables false
set_option maxRecDepth 100000

/-- A write's end. -/
def PWrote (F : Nat → Prop) (d : Nat) (r : Dst × Int) (w : World) (e : Ending) (w' : World) : Prop := e = .returned (.int .i64 r.2) ∧ ∃ F', PAt w' F' d r.1 ∧ Chg F F' w w'
/-- A write's own end, which answers nothing. -/
def PDone (F : Nat → Prop) (d : Nat) (D : Dst) (w : World) (e : Ending) (w' : World) : Prop := e = .returned (.tuple #[]) ∧ ∃ F', PAt w' F' d D ∧ Chg F F' w w'
theorem pnothing (w : World) : Calls Tryz.prog 62 #[] w fun e w' => e = .returned (.tuple #[]) ∧ w = w' := by
  go_enter Tryz.func62, Tryz.ntmps62
  go_wp2_with fail
  go_end0
  exact ⟨rfl, rfl⟩

section
variable {w : World} {F : Nat → Prop} {d M n : Nat} {Dm : DataW Nat} {g : List UInt8 → Nat} {bv : List UInt8 → Value} {D : Dst}

set_option maxHeartbeats 1000000 in
theorem pwrite_any (h : PIn w F d M n Dm g bv D) (hup : D.down = false) (N1 N2 : FuncId) (lb1 lb2 : Array Value) (e1 : ∀ args w, (callFunc N1 args).run Tryz.prog w = .ok (.enter N1 args) w) (e2 : ∀ args w, (callFunc N2 args).run Tryz.prog w = .ok (.enter N2 args) w)
    (D1 D2 : Dst) (h1 : (goesD D).2 = false → ∀ w1, PIn w1 F d M n Dm g bv (goesD D).1 → Chg F F w w1 → Calls Tryz.prog N1 lb1 w1 (PDone F d D1 w1)) (h2 : (goesD D).2 = true → ∀ w1, PIn w1 F d M n Dm g bv (goesD D).1 → Chg F F w w1 → Calls Tryz.prog N2 lb2 w1 (PDone F d D2 w1)) :
    Calls Tryz.prog 60 #[.pointer (some ⟨d, 0, none⟩), .func (.func N1) #[] lb1, .func (.func N2) #[] lb2] w (PWrote F d (if (goesD D).2 then (D2, 11) else (D1, 0)) w) := by
  have HG := Lib.hid (pgoes_any h hup)
  have H1 := Lib.hid h1
  have H2 := Lib.hid h2
  clear h h1 h2
  cases hz : (goesD D).2 with
  | true =>
    rw [hz] at HG
    have HZ := Lib.hid hz
    rw [if_pos rfl]
    clear hz H1
    go_enter Tryz.func60, Tryz.ntmps60
    go_wp2_with (first
      | (go_at_call 85; refine HG.out.mono ?_; rintro _ w1 ⟨rfl, hp1, hc1⟩; have HP1 := Lib.hid hp1; have HC1 := Lib.hid hc1; clear hp1 hc1)
      | (go_at_fn N2; refine (H2.out HZ.out _ HP1.out HC1.out).mono ?_; rintro _ w2 ⟨rfl, F', hp, hc⟩; have HP := Lib.hid hp; have HC := Lib.hid hc; clear hp hc))
    go_ret
    exact ⟨rfl, F', HP.out, HC1.out.trans HC.out⟩
  | false =>
    rw [hz] at HG
    have HZ := Lib.hid hz
    rw [if_neg (by simp)]
    clear hz H2
    go_enter Tryz.func60, Tryz.ntmps60
    go_wp2_with (first
      | (go_at_call 85; refine HG.out.mono ?_; rintro _ w1 ⟨rfl, hp1, hc1⟩; have HP1 := Lib.hid hp1; have HC1 := Lib.hid hc1; clear hp1 hc1)
      | (go_at_fn N1; refine (H1.out HZ.out _ HP1.out HC1.out).mono ?_; rintro _ w2 ⟨rfl, F', hp, hc⟩; have HP := Lib.hid hp; have HC := Lib.hid hc; clear hp hc))
    go_ret
    exact ⟨rfl, F', HP.out, HC1.out.trans HC.out⟩
/-- .. of a write of which nothing is done when the disk goes down. -/
theorem pwrite_go (h : PIn w F d M n Dm g bv D) (hup : D.down = false) (N1 : FuncId) (lb1 : Array Value) (e1 : ∀ args w, (callFunc N1 args).run Tryz.prog w = .ok (.enter N1 args) w) (k : Dst → Dst)
    (h1 : (goesD D).2 = false → ∀ w1, PIn w1 F d M n Dm g bv (goesD D).1 → Chg F F w w1 → Calls Tryz.prog N1 lb1 w1 (PDone F d (k (goesD D).1) w1)) :
    Calls Tryz.prog 60 #[.pointer (some ⟨d, 0, none⟩), .func (.func N1) #[] lb1, .func (.func 62) #[] #[]] w (PWrote F d (goD D k) w) :=
  pwrite_any h hup N1 _ lb1 #[] e1 (enters_of Tryz.func62 (by kernel_rfl) rfl) _ (goesD D).1 h1 fun _ w1 hp _ => (pnothing w1).mono fun e w' hh => ⟨hh.1, F, hh.2 ▸ ⟨M, n, Dm, g, bv, hp⟩, Chg.of_below (hh.2 ▸ Below.refl _ _)⟩

/-- A file's turn, to the end. -/
theorem file_end {w' : World} {f f' : Fl} {v' : Value} (h : PIn w F d M n Dm g bv D) (hf : f ∈ D.files) (hn : f'.name = f.name) (hfi : Fine (putF D f')) (hat : FAt w' (g f.name) v' f') (hnew : ∀ q, bufB v' = some q → bufB (bv f.name) = some q ∨ (w.heap.size ≤ q ∧ q < w'.heap.size))
    (ht : Tn (fun i => i = g f.name ∨ bufB (bv f.name) = some i) w w') : ∃ F', PAt w' F' d (putF D f') ∧ Chg F F' w w' := by
  refine ⟨_, ⟨M, n, Dm, g, _, h.file (D' := putF D f') hf hn (fun x => by rw [← hn]; exact mem_set) ⟨rfl, rfl, rfl⟩ hfi ht.size (fun i hi h1 h2 => ht.block i (h.lt i hi) (fun e => e.elim h1 h2)) hat hnew⟩, ⟨⟨ht.os, ht.tape, ht.output, ht.size, fun i hi hne => ht.block i hi (fun e => hne (e.elim (fun e => e ▸ (h.own f hf).1) fun e => (h.own f hf).2 i e))⟩, fun i hi => ?_⟩⟩
  rcases hi with hi | hi
  · exact Or.inl hi
  · rcases hnew i hi with h1 | h1
    · exact Or.inl ((h.own f hf).2 i h1)
    · exact Or.inr h1.1
end

set_option maxHeartbeats 1000000 in
theorem psync1 (c b : Nat) (v : Value) (f : Fl) (w : World) (hcb : w.cell? ⟨c, 0, none⟩ = some (.pointer (some ⟨b, 0, none⟩))) (hat : FAt w b v f) (hl : f.safe.length + f.more.length ≤ 65536) :
    Calls Tryz.prog 70 #[.pointer (some ⟨c, 0, none⟩)] w fun e w' => e = .returned (.tuple #[]) ∧ FAt w' b v ⟨f.name, f.safe ++ f.more, []⟩ ∧ Tn (fun i => i = b) w w' := by
  have HAT := Lib.hid hat
  have k0 := (row_at hat.cell 0 _ rfl).1
  have f1 := (row_at hat.cell 1 _ rfl).2
  have k1 := (row_at hat.cell 1 _ rfl).1
  have k1' : w.drew.cell? ⟨b, 1, none⟩ = some (.int .i64 (f.safe.length : Int)) := k1
  obtain ⟨a, cap, hv, _, _⟩ := hat.buf.at_
  rw [hv] at k0
  obtain ⟨L, hL⟩ : ∃ L, (f.safe ++ f.more).length = L := ⟨_, rfl⟩
  rw [hL] at k0
  have HL := Lib.hid hL
  clear hat hv hl hL
  have k0' : w.drew.cell? ⟨b, 0, none⟩ = some (.slice a L cap) := k0
  have f1' : w.drew.frozen? ⟨b, 1, none⟩ = false := f1
  have hcb' : w.drew.cell? ⟨c, 0, none⟩ = some (.pointer (some ⟨b, 0, none⟩)) := hcb
  go_enter Tryz.func70, Tryz.ntmps70
  go_still_tail 8, (by kernel_rfl)
  change wpList _ _ _ _ _ w.drew
  go_wp2_with fail
  go_end0
  have hr := heap_setCell_same w.drew b 1 _ _ (.int .i64 (L : Int)) HAT.out.cell
  refine ⟨rfl, ⟨?_, ?_⟩, ⟨rfl, rfl, rfl, size_set w.drew _ _ _, fun i hi hne => heap_setCell_other w.drew ⟨b, 1, none⟩ i _ hne⟩⟩
  · show _ = some (Obj.cells #[v, .int .i64 ((f.safe ++ f.more).length : Int)] _ (0, 0))
    rw [HL.out]
    exact hr
  · show Buf _ v ((f.safe ++ f.more) ++ [])
    rw [List.append_nil]
    refine HAT.out.buf.same fun q hq => heap_setCell_other w.drew ⟨b, 1, none⟩ q _ fun e => ?_
    obtain ⟨cur, hc⟩ := HAT.out.buf.type hq
    have := HAT.out.cell
    rw [show q = b from e] at hc
    rw [hc] at this
    simp at this
end Go.Proofs.YtelcemfaijjcbaaGreatDoor.C12
