/-
  Layer 6: where names stand: a map of the program's.
-/
import Derived.Test.YtjcajeehgjpmmaaGreatDoorTPb
import Derived.Maps.OwnSet
import Derived.StringKeys
namespace Go.Proofs.YtjcajeehgjpmmaaGreatDoor.T
open Go Go.RowKit Go.ChangeMaps Go.Maps B K E R
set_option linter.unusedVariables false
def MapIs (w : World) (b : Nat) (l : List Bs) : Prop :=
 ∃ D : DataW Unit, w.ownsMap Tryz.prog 9 (plainElem Tryz.prog 3) b l.length D /\ IsMap D /\
  ∀ s : Bs, Maps.has D (.string s) = (l.findIdx? (· == s)).isSome /\ ∀ k, l.findIdx? (· == s) = some k -> D.atKey (.string s) (.lit (.int .i64 0)) = .lit (.int .i64 (k : Int))
theorem strK : Keyed Tryz.prog 9 := string_keyed Tryz.underlying9
theorem placesU : Tryz.prog.underlying 64 = some (.map 9 3) := Tryz.underlying64
theorem int_wf (k : Int) (h : 0 <= k /\ k <= 9223372036854775807) : (Lit.int .i64 k).wf = true := by
 simp [Lit.wf, IntKind.min, IntKind.max, IntKind.signed, IntKind.bits]; omega
theorem key_of (s : Bs) (h : s.length <= maxLen) : keyOf Tryz.prog 9 (.string (str s)) = some (.string s) := by
 have := WideMaps.keyOf_string_mk (P := Tryz.prog) Tryz.underlying9 (s := str s) (by rw [str_size]; exact h);rw [str_data] at this;exact this
theorem MapIs.lt {w : World} {b : Nat} {l : List Bs} (h : MapIs w b l) : b < w.heap.size := by obtain ⟨D, h, _⟩ := h; exact h.lt
theorem MapIs.chg {w w' : World} {b : Nat} {l : List Bs} {S : Nat -> Prop} (h : MapIs w b l) (hc : Chg S w w') (hn : ¬ S b) : MapIs w' b l := by
 have hlt := h.lt;obtain ⟨D, ⟨es, clock, hb, r⟩, h2⟩ := h;exact ⟨D, ⟨es, clock, hc.heap hb hn, r⟩, h2⟩
theorem MapIs.look {w : World} {b : Nat} {l : List Bs} (h : MapIs w b l) (s : Bs) (hs : s.length <= maxLen) :
 ∃ c : Int, (Instr.lookup 64 (.map (some b)) (.string (str s)) true).run Tryz.prog w = .ok (.tuple #[.int .i64 c, .bool (l.findIdx? (· == s)).isSome]) w /\ ∀ k, l.findIdx? (· == s) = some k -> c = (k : Int) := by
 obtain ⟨D, ho, hD, hr⟩ := h;obtain ⟨h1, h2⟩ := hr s;obtain ⟨v, ps, hrun, hv⟩ := ho.look_ok strK placesU (z := .int .i64 0) (Tryz.zeroValue3 w) (plainElem_int Tryz.underlying3 (int_wf 0 (by omega))) (key_of s hs);obtain ⟨c, rfl, hc, hwc⟩ := plainElem_int_inv Tryz.underlying3 hv;rw [h1] at hrun;refine ⟨c, hrun, fun k hk => ?_⟩;have := congrArg Prod.fst hc;simp only at this;rw [h2 k hk] at this;have := DataW.lit.inj this;have := Lit.int.inj this;exact this.2.symm
theorem findIdx_snoc (l : List Bs) (x s : Bs) : (l ++ [x]).findIdx? (· == s) = if (l.findIdx? (· == s)).isSome = true then l.findIdx? (· == s) else if x = s then some l.length else none := by
 rw [List.findIdx?_append];cases h : l.findIdx? (· == s) with
 | some k => rfl
 | none =>
  by_cases hx : x = s
  ·subst hx; simp [List.findIdx?_cons]
  ·simp [List.findIdx?_cons, hx]
theorem MapIs.same {w : World} {b : Nat} {l : List Bs} (h : MapIs w b l) (x : Bs) (hx : (l.findIdx? (· == x)).isSome = true) : MapIs w b (l ++ [x]) := by
 obtain ⟨D, ho, hD, hr⟩ := h;refine ⟨D, ho.mono (by simp), hD, fun s => ?_⟩;have e : (l ++ [x]).findIdx? (· == s) = l.findIdx? (· == s) := by
  rw [findIdx_snoc];split
  ·rfl
  ·rename_i h
   split
   ·rename_i hs; subst hs; exact absurd hx h
   ·cases hq : l.findIdx? (· == s) with
    | none => rfl
    | some k => rw [hq] at h; exact absurd rfl h
 rw [e];exact hr s
theorem MapIs.more {w : World} {b : Nat} {l : List Bs} (h : MapIs w b l) (x : Bs) (hx : (l.findIdx? (· == x)).isSome = false) (hs : x.length <= maxLen) (hl : l.length < 4611686018427387904) :
 ∃ w', (Instr.mapUpdate 64 (.map (some b)) (.string (str x)) (.int .i64 (l.length : Int))).run Tryz.prog w = .ok () w' /\ MapIs w' b (l ++ [x]) /\ w.grownBy w' (some b) := by
 obtain ⟨D, ho, hD, hr⟩ := h;obtain ⟨w', h1, h2, h3⟩ := ho.update (d := .lit (.int .i64 (l.length : Int))) (ps := []) strK placesU (by unfold maxLen; omega) (key_of x hs) (plainElem_int Tryz.underlying3 (int_wf _ (by omega)));refine ⟨w', h1, ⟨_, by simpa using h2, hD.put _ _, fun s => ?_⟩, h3⟩;rw [findIdx_snoc];by_cases e : x = s
 ·subst e
  rw [if_neg (by rw [hx]; decide), if_pos rfl];refine ⟨has_put_same hD (show WideAt.IsKeyLit (.string x) from trivial) _, fun k hk => ?_⟩;cases hk
  exact atKey_put_same hD (show WideAt.IsKeyLit (.string x) from trivial) _ _
 ·have hne : (Lit.string s) ≠ .string x := fun h => e (Lit.string.inj h).symm
  rw [has_put_other hne, atKey_put_other hne, if_neg e];obtain ⟨r1, r2⟩ := hr s;cases hq : l.findIdx? (· == s) with
  | none => rw [hq] at r1; exact ⟨r1, fun k hk => by simp at hk⟩
  | some k => rw [hq] at r1 r2; exact ⟨r1, fun k' hk => r2 k' (by simpa using hk)⟩
theorem MapIs.made (w : World) : MapIs (w.alloc (.map #[] 0)) w.heap.size [] :=
 ⟨.map [], World.ownsMap_made w _ _ _, isMap_empty, fun s => ⟨rfl, fun k hk => by simp at hk⟩⟩
set_option maxHeartbeats 2000000 in
theorem placesOf_any (l : List Bs) (v : Value) (w : World) (h : Sl w v (l.map sv)) (hl : l.length < 4611686018427387904) (hs : ∀ s ∈ l, s.length <= maxLen) :
 Calls Tryz.prog 96 #[v] w fun e w' => e = .returned (.map (some w.heap.size)) /\ MapIs w' w.heap.size l /\ Below w.heap.size w w' := by
 have HSl := Lib.hid h;obtain ⟨a, cap, rfl, -⟩ := h;rw [List.length_map] at HSl ⊢;obtain ⟨n, hn⟩ : ∃ n, l.length = n := ⟨_, rfl⟩;rw [hn] at HSl hl ⊢;have HN := Lib.hid hn;have HS := Lib.hid hs;clear hn hs;have hmm := @run_makeMap Tryz.prog;obtain ⟨B, hB⟩ : ∃ B, w.heap.size = B := ⟨_, rfl⟩;have HM := Lib.hid (MapIs.made w);have HB0 := Lib.hid ((Below.refl w.heap.size w).alloc (Nat.le_refl _) (.map #[] 0));have hsz : (w.alloc (.map #[] 0)).heap.size = w.heap.size + 1 := by simp
 have HSZ := Lib.hid hsz;clear hsz;rw [hB] at HM HB0 HSZ ⊢;go_enter Tryz.func96, Tryz.ntmps96;go_wp2_with fail;clear hmm;go_loopw [11] (fun i wr => ∃ k : Nat, i = .int .i64 (k : Int) /\ k <= n /\ MapIs wr B (l.take k) /\ Below B w wr /\ B < wr.heap.size) (fun i _ => n - (intOf i).toNat)
 case atStart => exact ⟨0, rfl, Nat.zero_le _, HM.out, HB0.out, by rw [HSZ.out]; omega⟩
 case round =>
  obtain ⟨k, rfl, hk, hm, hb, hsz⟩ := hrel;by_cases hlt : k < n
  ·have hltI : (k : Int) < (n : Int) := by omega
   obtain ⟨x, hx⟩ : ∃ x, l[k]? = some x := ⟨_, List.getElem?_eq_getElem (by rw [HN.out]; exact hlt)⟩;obtain ⟨b, off, rfl, hcell⟩ := HSl.out.at (u := sv x) (j := k) (by rw [List.getElem?_map, hx]; rfl);have hc1 : wr.cell? ⟨b, off + k, none⟩ = some (.string (str x)) := by
    have hbl := World.block_lt_of_cell? w _ hcell;exact (hb.cell (p := ⟨b, off + k, none⟩) (by rw [<- hB]; exact hbl)).trans hcell
   have hk0 : 0 <= (k : Int) := by omega
   have hxl := HS.out x (List.mem_of_getElem? hx);have htk : l.take (k + 1) = l.take k ++ [x] := by rw [List.take_add_one, hx]; rfl
   have HTK := Lib.hid htk;have hlen : (l.take k).length = k := by rw [List.length_take, HN.out]; omega
   obtain ⟨c, hrun, -⟩ := hm.look x hxl;cases hq : ((l.take k).findIdx? (· == x)).isSome with
   | true =>
    rw [hq] at hrun;have HM1 := Lib.hid (hm.same x hq);have HBK := Lib.hid hb;clear hcell hx htk hlen hq hm hb;go_wp2_with fail;go_roundw
    case rel => exact ⟨k + 1, by go_num, by omega, by rw [HTK.out]; exact HM1.out, HBK.out, hsz⟩
    case measure => simp [intOf]; omega
   | false =>
    rw [hq] at hrun;obtain ⟨w2, hup, hm2, hgr⟩ := hm.more x hq hxl (by rw [hlen]; omega);rw [hlen] at hup;have HM1 := Lib.hid hm2;have HBK := Lib.hid (hb.trans ((Chg.grown (S := fun k => k = B) hgr (fun k hk => by cases hk; rfl)).below (fun k hk => by omega) (by omega)));have HSZ2 := Lib.hid (Nat.lt_of_lt_of_le hsz hgr.size);clear hcell hx htk hlen hq hm hb hm2 hgr;go_wp2_with fail;go_roundw
    case rel => exact ⟨k + 1, by go_num, by omega, by rw [HTK.out]; exact HM1.out, HBK.out, HSZ2.out⟩
    case measure => simp [intOf]; omega
  ·have hltI : ¬ (k : Int) < (n : Int) := by omega
   have e : l.take k = l := List.take_of_length_le (by rw [HN.out]; omega);have HM1 := Lib.hid hm;have HBK := Lib.hid hb;have HE := Lib.hid e;clear hm hb e;go_wp2_with fail;go_ret;refine ⟨rfl, ?_, HBK.out⟩;have := HM1.out;rw [HE.out] at this;exact this
set_option maxHeartbeats 1000000 in
theorem find_any (b : Nat) (l : List Bs) (s : Bs) (w : World) (hm : MapIs w b l) (hg : I.Glob w) (hs : s.length <= 281474976710656) :
 Calls Tryz.prog 140 #[.map (some b), sv s] w fun e w' => e = .returned (.tuple #[.int .i64 (findN l s).1, .int .i64 (findN l s).2]) /\ w = w' := by
 have HU := Lib.hid (unlessName_any s w hg (by omega));obtain ⟨c, hrun, hc⟩ := hm.look s (by unfold maxLen; omega);unfold findN;cases hn : I.isName s with
 | false =>
  rw [if_pos rfl];unfold nameErr at HU;rw [hn, if_neg (by decide)] at HU;unfold sv at HU ⊢;clear hn hs hg hm hc hrun;go_enter Tryz.func140, Tryz.ntmps140;go_wp2_with (go_at_call 95; refine HU.out.mono ?_; rintro _ w1 ⟨rfl, rfl⟩)
  go_ret2;exact ⟨rfl, rfl⟩
 | true =>
  rw [if_neg (by decide)];unfold nameErr at HU;rw [hn, if_pos rfl] at HU;unfold sv at HU ⊢;cases hq : l.findIdx? (· == s) with
  | none =>
   rw [hq] at hrun;clear hn hs hg hm hc hq;simp only [Option.isSome_none] at hrun;go_enter Tryz.func140, Tryz.ntmps140;go_wp2_with (go_at_call 95; refine HU.out.mono ?_; rintro _ w1 ⟨rfl, rfl⟩)
   go_ret2;exact ⟨rfl, rfl⟩
  | some k =>
   obtain rfl := hc k hq;rw [hq] at hrun;clear hn hs hg hm hc hq;simp only [Option.isSome_some] at hrun;go_enter Tryz.func140, Tryz.ntmps140;go_wp2_with (go_at_call 95; refine HU.out.mono ?_; rintro _ w1 ⟨rfl, rfl⟩)
   go_ret2;exact ⟨rfl, rfl⟩
end Go.Proofs.YtjcajeehgjpmmaaGreatDoor.T
