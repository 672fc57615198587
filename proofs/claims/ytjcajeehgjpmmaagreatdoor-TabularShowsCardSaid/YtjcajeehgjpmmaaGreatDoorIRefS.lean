/-
  Layer 4, the document's Show: the contract.
-/
import Derived.Test.YtjcajeehgjpmmaaGreatDoorIRefZ
namespace Go.Proofs.YtjcajeehgjpmmaaGreatDoor.I
open Go Go.RowKit B K E
set_option linter.unusedVariables false
set_option maxHeartbeats 800000 in
theorem refShow_any (code : List In) (vs : List Bs) (na : Int) (v v1 : Value) (w : World) (hs : SlI w v code) (hn : Names w v1 vs) (hl : code.length <= 9223372036854775807) (hvs : vs.length <= 9223372036854775807) (hna : na <= 9223372036854775807)
 (V : Nat) (hV : ∀ s ∈ vs, s.length <= V) (hVl : V <= 140737488355328) :
 Calls Tryz.prog 49 #[v, v1, .int .i64 na] w fun e w' => e = .returned (.tuple #[.string (str (showOf vs na code).1), .int .i64 (showOf vs na code).2]) /\ Below w.heap.size w w' := by
 have HS := Lib.hid hs;have HNM := Lib.hid hn;obtain ⟨a, cap, rfl, -⟩ := hs;obtain ⟨a1, cap1, rfl⟩ : ∃ a1 cap1, v1 = .slice a1 vs.length cap1 := by
  obtain ⟨a1, cap1, rfl, _⟩ := hn;rw [List.length_map];exact ⟨a1, cap1, rfl⟩
 have hck := refCheck_any code (.slice a code.length cap) vs.length na w HS.out hl;obtain ⟨⟨p, er⟩, hE⟩ : ∃ t, check code vs.length na = t := ⟨_, rfl⟩;have her : (check code vs.length na).2 = er := by rw [hE]
 rw [hE] at hck;have HCK := Lib.hid hck;clear hck hE hn;by_cases he : er = 0
 ·subst he
  have hsh := showOf_good vs na code her;obtain ⟨hw, hcode⟩ := exOf_is code vs.length na her;obtain ⟨_, _, h31, hcr⟩ := check_ok code _ _ her;have HTREE := Lib.hid (fun W (h : Below w.heap.size w W) => refTree_any code (.slice a code.length cap) W vs.length na (exOf code) (HS.out.below h) hw hcode h31 hcr);have HPL := Lib.hid (plains vs V na hna hvs hV hVl (exOf code) hw (by rw [hcode]; exact h31));rw [hsh];clear hsh hw hcode h31 hcr her;go_enter Tryz.func49, Tryz.ntmps49;go_wp2_with fail;refine HCK.out.mono ?_;rintro _ w1 ⟨rfl, hb1⟩;have HB1 := Lib.hid hb1;clear hb1;go_wp2_with fail;refine (HTREE.out _ HB1.out).mono ?_;rintro _ w2 ⟨⟨s, rfl, ht⟩, hb2⟩;have HB2 := Lib.hid (HB1.out.trans (hb2.mono HB1.out.size));have HT := Lib.hid ht;clear hb2 ht;go_wp2_with fail;refine (HPL.out w2 s _ HT.out (Sl.below HNM.out HB2.out)).mono ?_;rintro _ w3 ⟨rfl, hb3⟩;have HB3 := Lib.hid (HB2.out.trans (hb3.mono HB2.out.size));clear hb3;go_wp2_with fail;go_ret2;exact ⟨rfl, HB3.out⟩
 ·have hsh := showOf_bad vs na code (by rw [her]; exact he)
  rw [her] at hsh;rw [hsh];have be : (er != 0) = true := by simp [he]
  clear he hsh her;go_enter Tryz.func49, Tryz.ntmps49;go_wp2_with fail;refine HCK.out.mono ?_;rintro _ w1 ⟨rfl, hb1⟩;have HB1 := Lib.hid hb1;clear hb1;go_wp2_with fail;go_ret2;exact ⟨rfl, HB1.out⟩
end Go.Proofs.YtjcajeehgjpmmaaGreatDoor.I
