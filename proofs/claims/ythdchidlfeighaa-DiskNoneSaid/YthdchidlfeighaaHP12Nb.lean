/-
  Layer 12, the law DiskNone: its walk, too little room.
-/
import Derived.Test.YthdchidlfeighaaHP12Lc
namespace Go.Proofs.Ythdchidlfeighaa.C12
open Go Go.RowKit Go.Proofs Go.Proofs.Ythdchidlfeighaa.B Go.Proofs.Ythdchidlfeighaa.K Go.Proofs.Ythdchidlfeighaa.P8
set_option linter.unusedVariables false
set_option maxRecDepth 100000

set_option maxHeartbeats 16000000 in
theorem none_Nb (a : ActL) (room : Int) (kv : Value) (w : World) (hk : Kp0 w w.heap.size kv a.keep) (hwf : ActWf a) (h0 : room < 0) :
    Calls Try.prog 8 #[.agg #[.int .i64 a.kind, .string (str a.name), .string (str a.s), .string (str a.tox), .int .i64 a.n, kv], .int .i64 room] w fun e w' => e = .returned (.bool true) ∧ Below w.heap.size w w' := by
  have HA := Lib.hid (fun W => awake_any W)
  obtain ⟨ka, kc, rfl, -⟩ := hk
  obtain ⟨W0, hW0⟩ : ∃ W0, w.alloc (.cells #[.int .i64 a.kind, .string (str a.name), .string (str a.s), .string (str a.tox), .int .i64 a.n, .slice ka a.keep.length kc] 52) = W0 := ⟨_, rfl⟩
  have hB0 : Below w.heap.size w W0 := by rw [← hW0]; exact below_alloc _ _
  obtain ⟨g0, hg0⟩ : ∃ g, w.heap.size = g := ⟨_, rfl⟩
  have m1 : W0.cell? ⟨g0, 1, none⟩ = some (Value.string (str a.name)) := by rw [← hW0, ← hg0]; exact alloc_cell w [_, _, _, _, _, _] _ 1 _ rfl
  have m2 : W0.cell? ⟨g0, 2, none⟩ = some (Value.string (str a.s)) := by rw [← hW0, ← hg0]; exact alloc_cell w [_, _, _, _, _, _] _ 2 _ rfl
  have m3 : W0.cell? ⟨g0, 3, none⟩ = some (Value.string (str a.tox)) := by rw [← hW0, ← hg0]; exact alloc_cell w [_, _, _, _, _, _] _ 3 _ rfl
  have m4 : W0.cell? ⟨g0, 4, none⟩ = some (Value.int .i64 a.n) := by rw [← hW0, ← hg0]; exact alloc_cell w [_, _, _, _, _, _] _ 4 _ rfl
  have m5 : W0.cell? ⟨g0, 5, none⟩ = some (Value.slice ka a.keep.length kc) := by rw [← hW0, ← hg0]; exact alloc_cell w [_, _, _, _, _, _] _ 5 _ rfl
  have HALL := Lib.hid (show ∀ W, Below W0.heap.size W0 W → W.cell? ⟨g0, 1, none⟩ = some (Value.string (str a.name)) ∧ W.cell? ⟨g0, 2, none⟩ = some (Value.string (str a.s)) ∧ W.cell? ⟨g0, 3, none⟩ = some (Value.string (str a.tox)) ∧ W.cell? ⟨g0, 4, none⟩ = some (Value.int .i64 a.n) ∧ W.cell? ⟨g0, 5, none⟩ = some (Value.slice ka a.keep.length kc) from fun W hb => ⟨kept_cell hb m1, kept_cell hb m2, kept_cell hb m3, kept_cell hb m4, kept_cell hb m5⟩)
  have HB0 := Lib.hid hB0
  have HW0 := Lib.hid hW0
  have t1 : (str ([] : List UInt8)).toList.isEmpty = true := by rw [str_toList]; rfl
  clear hwf hB0
  have hr : room < 0 ∨ 1048576 < room := Or.inl h0
  have r1 : ¬ (0 : Int) ≤ room := by omega
  have HRR := Lib.hid hr
  clear hr h0
  go_enter Try.func8, Try.ntmps8
  go_wp2_with (first
      | (go_at_call 14; (try rw [hW0]); (with_reducible refine (pread_nil a.name _).mono ?_); rintro _ W1 ⟨rfl, hb⟩; have HH1 := Lib.hid hb; clear m1 m2 m3 m4 m5; obtain ⟨n1a, n1b, n1c, n1d, n1e⟩ := HALL.out _ HH1.out; clear hb)
      | (go_at_call 19; (with_reducible refine (pnew_bad room _ HRR.out).mono ?_); rintro _ W2 ⟨rfl, hb⟩; have HH2 := Lib.hid (HH1.out.trans (hb.mono HH1.out.size)); clear n1a n1b n1c n1d n1e; obtain ⟨n2a, n2b, n2c, n2d, n2e⟩ := HALL.out _ HH2.out; clear hb)
      | (go_at_call 10; (with_reducible refine (HA.out _).mono ?_); rintro _ W3 ⟨rfl, hb⟩; have HH3 := Lib.hid (HH2.out.trans (hb.mono HH2.out.size)); clear n2a n2b n2c n2d n2e; obtain ⟨n3a, n3b, n3c, n3d, n3e⟩ := HALL.out _ HH3.out; clear hb)
      | (go_at_call 20; (with_reducible refine (pappend_nil a.name a.s _).mono ?_); rintro _ W4 ⟨rfl, hb⟩; have HH4 := Lib.hid (HH3.out.trans (hb.mono HH3.out.size)); clear n3a n3b n3c n3d n3e; obtain ⟨n4a, n4b, n4c, n4d, n4e⟩ := HALL.out _ HH4.out; clear hb)
      | (go_at_call 22; (with_reducible refine (psync_nil a.name _).mono ?_); rintro _ W5 ⟨rfl, hb⟩; have HH5 := Lib.hid (HH4.out.trans (hb.mono HH4.out.size)); clear n4a n4b n4c n4d n4e; obtain ⟨n5a, n5b, n5c, n5d, n5e⟩ := HALL.out _ HH5.out; clear hb)
      | (go_at_call 26; (with_reducible refine (ptrunc_nil a.name a.n _).mono ?_); rintro _ W6 ⟨rfl, hb⟩; have HH6 := Lib.hid (HH5.out.trans (hb.mono HH5.out.size)); clear n5a n5b n5c n5d n5e; obtain ⟨n6a, n6b, n6c, n6d, n6e⟩ := HALL.out _ HH6.out; clear hb)
      | (go_at_call 27; (with_reducible refine (prename_nil a.name a.tox _).mono ?_); rintro _ W7 ⟨rfl, hb⟩; have HH7 := Lib.hid (HH6.out.trans (hb.mono HH6.out.size)); clear n6a n6b n6c n6d n6e; obtain ⟨n7a, n7b, n7c, n7d, n7e⟩ := HALL.out _ HH7.out; clear hb)
      | (go_at_call 28; (with_reducible refine (premove_nil a.name _).mono ?_); rintro _ W8 ⟨rfl, hb⟩; have HH8 := Lib.hid (HH7.out.trans (hb.mono HH7.out.size)); clear n7a n7b n7c n7d n7e; obtain ⟨n8a, n8b, n8c, n8d, n8e⟩ := HALL.out _ HH8.out; clear hb)
      | (go_at_call 21; (with_reducible refine (parm_nil a.n _).mono ?_); rintro _ W9 ⟨rfl, hb⟩; have HH9 := Lib.hid (HH8.out.trans (hb.mono HH8.out.size)); clear n8a n8b n8c n8d n8e; obtain ⟨n9a, n9b, n9c, n9d, n9e⟩ := HALL.out _ HH9.out; clear hb)
      | (go_at_call 12; (with_reducible refine (pcrash_nil _ _).mono ?_); rintro _ W10 ⟨rfl, hb⟩; have HH10 := Lib.hid (HH9.out.trans (hb.mono HH9.out.size)); clear n9a n9b n9c n9d n9e; obtain ⟨n10a, n10b, n10c, n10d, n10e⟩ := HALL.out _ HH10.out; clear hb)
      | (go_at_call 16; (with_reducible refine (psafe_nil a.name _).mono ?_); rintro _ W11 ⟨rfl, hb⟩; have HH11 := Lib.hid (HH10.out.trans (hb.mono HH10.out.size)); clear n10a n10b n10c n10d n10e; obtain ⟨n11a, n11b, n11c, n11d, n11e⟩ := HALL.out _ HH11.out; clear hb)
      | (go_at_call 13; (with_reducible refine (plist_nil _).mono ?_); rintro _ W12 ⟨nv, rfl, ⟨na, nc, rfl, -⟩, hb⟩; have HH12 := Lib.hid (HH11.out.trans (hb.mono HH11.out.size)); clear n11a n11b n11c n11d n11e; obtain ⟨n12a, n12b, n12c, n12d, n12e⟩ := HALL.out _ HH12.out; clear hb)
      | (go_at_call 17; (with_reducible refine (pused_nil _).mono ?_); rintro _ W13 ⟨rfl, hb⟩; have HH13 := Lib.hid (HH12.out.trans (hb.mono HH12.out.size)); clear n12a n12b n12c n12d n12e; obtain ⟨n13a, n13b, n13c, n13d, n13e⟩ := HALL.out _ HH13.out; clear hb)
      | (go_at_call 18; (with_reducible refine (pdown_nil _).mono ?_); rintro _ W14 ⟨rfl, hb⟩; have HH14 := Lib.hid (HH13.out.trans (hb.mono HH13.out.size)); clear n13a n13b n13c n13d n13e; obtain ⟨n14a, n14b, n14c, n14d, n14e⟩ := HALL.out _ HH14.out; clear hb))
  go_ret
  exact ⟨by simp, HB0.out.trans (HH14.out.mono HB0.out.size)⟩
end Go.Proofs.Ythdchidlfeighaa.C12
