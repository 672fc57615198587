/-
  Contracts of the reference of layer 2: Seal, Open.
-/
import Derived.Test.YtaidhoepnefcpaaGreatBVNum
import Derived.Shelf.Strings.Builder1
import Derived.Shelf.LaysM
import Derived.Shelf.Strconv.Clone
import Derived.Laws.MakeOwn
import Derived.Test.YtaidhoepnefcpaaGreatBP11Len
import Derived.Laws.BitsAllLaws
namespace Go.Proofs.YtaidhoepnefcpaaGreat.V
open Go.RowKit
theorem uk (x : Int) (w : World) (h0 : 0 <= x) (h1 : x < 18446744073709551616) :
 Calls Tryz.prog 191 #[.int .u64 x] w fun e w' => e = .returned (.int .i64 (unzz x.toNat)) /\ w = w' := by
 obtain ⟨u, rfl⟩ := Int.eq_ofNat_of_zero_le h0;rw [Int.toNat_natCast];have hc : IntKind.i64.wrap ((u : Int) / 2) = (u : Int) / 2 := IntWalk.i64_in _ (by omega);have hl : (u : Int) / 2 <= 9223372036854775807 := by omega
 clear h1;by_cases h : (u : Int) % 2 = 1
 ·have hz : unzz u = -((u : Int) / 2) - 1 := by unfold unzz; rw [if_neg (by omega)]; omega
  have HZ := Lib.hid hz; clear hz
  have hb : ((u : Int) % 2 == 1) = true := by simp [h]
  clear h;go_enter Tryz.func191, Tryz.ntmps191;go_wp2
  go_ret;exact ⟨yC HZ.out.symm, rfl⟩
 ·have hz : unzz u = ((u : Int) / 2) := by unfold unzz; rw [if_pos (by omega)]; omega
  have HZ := Lib.hid hz; clear hz
  have hb : ((u : Int) % 2 == 1) = false := by simp [h]
  clear h;go_enter Tryz.func191, Tryz.ntmps191;go_wp2
  go_ret;exact ⟨yC HZ.out.symm, rfl⟩
theorem pow_le56 {k : Nat} (hk : k < 9) : (128 : Nat) ^ k <= 72057594037927936 := by
 have e : (128 : Nat) ^ 8 = 72057594037927936 := by decide
 exact e ▸ Nat.pow_le_pow_right (by decide) (by omega)
theorem small_next (k A d : Nat) (hk : k < 9) (hA : A < 128 ^ k) (hd : d < 128) : A + 128 ^ k * d < 9223372036854775808 := by
 have h1 := pow_le56 hk;have h2 : 128 ^ k * d <= 72057594037927936 * 127 := Nat.mul_le_mul h1 (by omega);omega
theorem or_wrap (k A b : Nat) (hk : k < 9) (hA : A < 128 ^ k) (hd : b % 128 < 128) :
 bits .or .u64 (A : Int) (IntKind.u64.wrap ((b : Int) % 128 * 2 ^ (k * 7))) = ((A + 128 ^ k * (b % 128) : Nat) : Int) := by
 have h1 := pow_le56 hk;have e : (2 : Nat) ^ (k * 7) = 128 ^ k := by rw [show (128 : Nat) = 2 ^ 7 by decide, <- Nat.pow_mul, Nat.mul_comm]
 have h2 : b % 128 * 2 ^ (k * 7) <= 127 * 72057594037927936 := Nat.mul_le_mul (by omega) (by rw [e]; exact h1);have hc : (b : Int) % 128 * 2 ^ (k * 7) = ((b % 128 * 2 ^ (k * 7) : Nat) : Int) := by simp
 rw [hc, IntWalk.u64_in _ (by omega), bits_or_u64_nat _ _ (by omega) (by omega), Yt k A _ hA]
set_option maxHeartbeats 1000000 in
set_option maxRecDepth 100000 in
theorem readNumber_out (s : ByteArray) (p : Int) (w : World) (h : p < 0 \/ (s.size : Int) < p) :
 Calls Tryz.prog 136 #[.string s, .int .i64 p] w fun e w' => e = .returned (.tuple #[.int .i64 0, .int .i64 0, .int .i64 3]) /\ w = w' := by
 by_cases h0 : p < 0
 ·go_enter Tryz.func136, Tryz.ntmps136
  go_wp2
  go_ret3;exact ⟨rfl, rfl⟩
 ·have h1 : (s.size : Int) < p := by omega
  go_enter Tryz.func136, Tryz.ntmps136;go_wp2
  go_ret3;exact ⟨rfl, rfl⟩
set_option maxHeartbeats 1000000 in
set_option maxRecDepth 100000 in
theorem readNumber_in (s : ByteArray) (p : Nat) (w : World) (h : p <= s.size) (hs : s.size <= 140737488355328) :
 Calls Tryz.prog 136 #[.string s, .int .i64 p] w fun e w' => 
  e = .returned (.tuple #[.int .i64 (rdAt s.data.toList p).1, .int .i64 (rdAt s.data.toList p).2.1, .int .i64 (rdAt s.data.toList p).2.2]) /\ w = w' := by
 have h0 : ¬ (p : Int) < 0 := by omega
 have h1 : ¬ (s.size : Int) < (p : Int) := by omega
 have hfin : ∀ (e : Ending) (w' : World) (x : Int × Int × Int), rdAt s.data.toList p = x -> e = .returned (.tuple #[.int .i64 x.1, .int .i64 x.2.1, .int .i64 x.2.2]) /\ w = w' -> e = .returned (.tuple #[.int .i64 (rdAt s.data.toList p).1, .int .i64 (rdAt s.data.toList p).2.1, .int .i64 (rdAt s.data.toList p).2.2]) /\ w = w' := by
  intro e w' x hx h; rw [hx]; exact h
 have HFIN := Lib.hid hfin; clear hfin
 have hat := rdAt_in s.data.toList p (by rw [<- yN]; exact h);have HAT := Lib.hid hat; clear hat
 go_enter Tryz.func136, Tryz.ntmps136;go_wp2
 go_loop [7, 8] (fun f i => ∃ k A : Nat, k <= 9 /\ p + k <= s.size /\ Hid (A = val ((s.data.toList.drop p).take k)) /\ Hid (∀ j (hj : j < (s.data.toList.drop p).length), j < k -> 128 <= (s.data.toList.drop p)[j].toNat) /\ i = .int .i64 ((p + k : Nat) : Int) /\ f = .int .u64 (A : Int)) (fun _ i => s.size - (intOf i).toNat)
 case atStart => exact ⟨0, 0, by omega, by omega, rfl, fun j hj h => by omega, rfl, rfl⟩
 case round =>
  obtain ⟨k, A, hk9, hk, HA, HHI, rfl, rfl⟩ := hrel;by_cases hlt : p + k < s.size
  ·obtain ⟨b, hb, hget⟩ := byte_at s p k hlt
   have HGET := Lib.hid hget; clear hget
   have hb256 : (b : Int) < 256 := by have := (s[p + k]'hlt).toNat_lt; omega
   have hb0 : 0 <= (b : Int) := by omega
   have hAlt : A < 128 ^ k := by rw [HA.out]; exact Nat.lt_of_lt_of_le (val_lt _) (Nat.pow_le_pow_right (by decide) (by simp; omega))
   have HALT := Lib.hid hAlt; clear hAlt
   by_cases hk9' : k = 9
   ·subst hk9'
    by_cases hb1 : 1 < (b : Int)
    ·have hv := rd_nine (s.data.toList.drop p) HHI.out HGET.out (by omega)
     have HV := Lib.hid hv; clear hv
     go_wp2_with fail;go_ret3;exact HFIN.out _ _ _ (HAT.out.trans (by rw [HV.out])) ⟨rfl, rfl⟩
    ·by_cases hbz : (b : Int) = 0
     ·obtain rfl : b = 0 := by omega
      have hv := rd_zero (s.data.toList.drop p) 9 (by omega) (by omega) HHI.out HGET.out;have HV := Lib.hid hv; clear hv
      go_wp2_with fail;go_ret3;exact HFIN.out _ _ _ (HAT.out.trans (by rw [HV.out])) ⟨rfl, rfl⟩
     ·obtain rfl : b = 1 := by omega
      have hv := rd_last (s.data.toList.drop p) 9 (by omega) HHI.out HGET.out (by omega) (by omega) (by omega);rw [<- HA.out] at hv;have e9 : (128 : Nat) ^ 9 = 9223372036854775808 := by decide
      have hA9 : A < 9223372036854775808 := by have := HALT.out; rw [e9] at this; exact this
      have hor : bits .or .u64 (A : Int) 9223372036854775808 = ((A + 128 ^ 9 * 1 : Nat) : Int) := by
       have := bits_or_u64_nat A 9223372036854775808 (by omega) (by omega);rw [<- Yt 9 A 1 HALT.out];exact this
      have hx : A + 128 ^ 9 * 1 < 18446744073709551616 := by rw [e9]; omega
      generalize hX : A + 128 ^ 9 * 1 = X at hv hor hx
      have HV := Lib.hid hv;have HX := Lib.hid hx;clear hv hx hX hA9 e9;go_wp2_with (go_at_call 191; refine (uk _ _ (Int.natCast_nonneg X) (by have := HX.out; omega)).mono ?_; rintro e w' ⟨rfl, rfl⟩)
      go_ret3;exact HFIN.out _ _ _ (HAT.out.trans (by rw [HV.out])) ⟨rfl, rfl⟩
   ·have hk9 : k < 9 := by omega
    have hne9 : ((k : Int) == 9) = false := by simp; omega
    have hpk : (p : Int) + (k : Int) - (p : Int) = (k : Int) := by omega
    have hor : ∃ X : Nat, X = A + 128 ^ k * (b % 128) /\ X < 9223372036854775808 /\ bits .or .u64 (A : Int) (IntKind.u64.wrap ((b : Int) % 128 * 2 ^ (k * 7))) = (X : Int) := by
     refine ⟨_, rfl, ?_, ?_⟩
     ·exact small_next k A _ hk9 HALT.out (Nat.mod_lt _ (by decide))
     ·exact or_wrap k A _ hk9 HALT.out (Nat.mod_lt _ (by decide))
    obtain ⟨X, hX, hXlt, hor⟩ := hor;have HX := Lib.hid hX; clear hX
    have HXL := Lib.hid hXlt; clear hXlt
    by_cases h128 : 128 <= (b : Int)
    ·go_wp2_with fail
     go_round
     case rel => exact ⟨k + 1, X, by omega, by omega, by rw [HX.out, HA.out]; exact (val_next _ _ HGET.out).symm, high_next _ _ HHI.out HGET.out (by omega), by go_num, rfl⟩
     case measure => simp [intOf]; omega
    ·by_cases hbk : b = 0 /\ 0 < k
     ·have hbz : ((b : Int) == 0) = true := by simp; omega
      have hk0 : 0 < (k : Int) := by omega
      have hv := rd_zero (s.data.toList.drop p) k (by omega) hbk.2 HHI.out (by have := HGET.out; rw [hbk.1] at this; exact this);have HV := Lib.hid hv; clear hv hbk
      go_wp2_with fail;go_ret3;exact HFIN.out _ _ _ (HAT.out.trans (by rw [HV.out])) ⟨rfl, rfl⟩
     ·have hv := rd_last (s.data.toList.drop p) k (by omega) HHI.out HGET.out (by omega) (by omega) hbk
      rw [<- HA.out, show A + 128 ^ k * b = X by rw [HX.out, Nat.mod_eq_of_lt (by omega)]] at hv;have HV := Lib.hid hv; clear hv
      by_cases hb0' : b = 0
      ·have hbz : ((b : Int) == 0) = true := by simp; omega
       have hk0 : ¬ 0 < (k : Int) := by omega
       clear hbk hb0';go_wp2_with (go_at_call 191; refine (uk _ _ (Int.natCast_nonneg X) (by have := HXL.out; omega)).mono ?_; rintro e w' ⟨rfl, rfl⟩)
       go_ret3;exact HFIN.out _ _ _ (HAT.out.trans (by rw [HV.out])) ⟨rfl, rfl⟩
      ·have hbz : ((b : Int) == 0) = false := by simp; omega
       clear hbk hb0';go_wp2_with (go_at_call 191; refine (uk _ _ (Int.natCast_nonneg X) (by have := HXL.out; omega)).mono ?_; rintro e w' ⟨rfl, rfl⟩)
       go_ret3;exact HFIN.out _ _ _ (HAT.out.trans (by rw [HV.out])) ⟨rfl, rfl⟩
  ·have hv := rd_end (s.data.toList.drop p) k (by omega) HHI.out (by rw [List.length_drop, <- yN]; omega)
   have HV := Lib.hid hv; clear hv
   go_wp2_with fail;go_ret3;exact HFIN.out _ _ _ (HAT.out.trans (by rw [HV.out])) ⟨rfl, rfl⟩
theorem rdAt_out (l : List UInt8) (p : Int) (h : p < 0 \/ (l.length : Int) < p) : rdAt l p = (0, 0, 3) := by unfold rdAt; rw [if_pos h]
theorem readNumber_any (s : ByteArray) (p : Int) (w : World) (hs : s.size <= 140737488355328) :
 Calls Tryz.prog 136 #[.string s, .int .i64 p] w fun e w' => 
  e = .returned (.tuple #[.int .i64 (rdAt s.data.toList p).1, .int .i64 (rdAt s.data.toList p).2.1, .int .i64 (rdAt s.data.toList p).2.2]) /\ w = w' := by
 by_cases h : p < 0 \/ (s.size : Int) < p
 ·rw [rdAt_out _ _ (by rw [<- yN]; exact h)]
  exact readNumber_out s p w h
 ·obtain ⟨k, rfl⟩ := Int.eq_ofNat_of_zero_le (show 0 <= p by omega)
  exact readNumber_in s k w (by omega) hs
end Go.Proofs.YtaidhoepnefcpaaGreat.V
namespace Go.Proofs.YtaidhoepnefcpaaGreat.S
open Go.Shelf Go.RowKit Go.Proofs
def Zi : Go.Shelf.Ren := ⟨fun | 166 => 111 | 240 => 162 | 276 => 205 | n => n, fun | 0 => 0 | 3 => 3 | 4 => 4 | 9 => 9 | 20 => 20 | 37 => 41 | 70 => 44 | 72 => 46 | 75 => 145 | 80 => 50 | 164 => 220 | 5 => 5 | n => n, fun | n => n⟩
theorem lays166 : Go.Proofs.Lays.n166 Tryz.prog Zi := {
 mixed := by kernel_rfl
 f166 := Tryz.func111.trans (congrArg some (by kernel_rfl))
 f240 := Tryz.func162.trans (congrArg some (by kernel_rfl))
 f276 := Tryz.func205.trans (congrArg some (by kernel_rfl))
 t0 := Tryz.underlying0
 a0 := Tryz.isAgg0
 z0 := Tryz.sizeOf0
 v0 := Tryz.zeroValue0
 t3 := Tryz.underlying3
 a3 := Tryz.isAgg3
 z3 := Tryz.sizeOf3
 v3 := Tryz.zeroValue3
 t4 := Tryz.underlying4
 a4 := Tryz.isAgg4
 z4 := Tryz.sizeOf4
 v4 := Tryz.zeroValue4
 t9 := Tryz.underlying9
 a9 := Tryz.isAgg9
 z9 := Tryz.sizeOf9
 v9 := Tryz.zeroValue9
 t20 := Tryz.underlying20
 a20 := Tryz.isAgg20
 z20 := Tryz.sizeOf20
 v20 := Tryz.zeroValue20
 t37 := Tryz.underlying41
 a37 := Tryz.isAgg41
 z37 := Tryz.sizeOf41
 v37 := Tryz.zeroValue41
 t70 := Tryz.underlying44
 a70 := Tryz.isAgg44
 z70 := Tryz.sizeOf44
 v70 := Tryz.zeroValue44
 t72 := Tryz.underlying46
 a72 := Tryz.isAgg46
 z72 := Tryz.sizeOf46
 v72 := Tryz.zeroValue46
 t75 := Tryz.underlying145
 a75 := Tryz.isAgg145
 z75 := Tryz.sizeOf145
 v75 := Tryz.zeroValue145
 t164 := Tryz.underlying220
 a164 := Tryz.isAgg220
 z164 := Tryz.sizeOf220
 v164 := Tryz.zeroValue220 }
theorem extra166 : Builder.Extra Tryz.prog Zi := {
 sizeBuilder := by kernel_rfl
 liesBuilder := by kernel_rfl
 t5 := Tryz.underlying5
 a5 := Tryz.isAgg5
 z5 := Tryz.sizeOf5
 v5 := Tryz.zeroValue5
 infoByte := by kernel_rfl
 cellsByte := by kernel_rfl
 sizeByte := by kernel_rfl
 neB5 := by decide }
theorem yo (B b : Nat) (bs : List Value) (s : ByteArray) (w : World) (h : Lib.IsBuilder 46 5 B b bs w) (hlen : bs.length + s.size <= 140737488355328) (hBw : B <= w.heap.size) :
 Calls Tryz.prog 111 #[.pointer (some ⟨b, 0, none⟩), .string s] w fun e w' => e = .returned (.tuple #[.int .i64 s.size, .nilIface]) /\ (Lib.BuilderAt 46 5 B b (.pointer (some ⟨b, 0, none⟩)) (bs ++ Lib.strCells s) w' /\ Below B w w') :=
 Any.Builder_WriteString lays166 extra166 B b bs s w h hlen hBw
def Zk : Go.Shelf.Ren := ⟨fun | 169 => 19 | n => n, fun | 0 => 0 | 3 => 3 | 9 => 9 | 37 => 41 | 70 => 44 | 72 => 46 | 127 => 107 | 5 => 5 | n => n, fun | n => n⟩
theorem lays169 : Go.Proofs.Lays.n169 Tryz.prog Zk := {
 mixed := by kernel_rfl
 f169 := Tryz.func19.trans (congrArg some (by kernel_rfl))
 t0 := Tryz.underlying0
 a0 := Tryz.isAgg0
 z0 := Tryz.sizeOf0
 v0 := Tryz.zeroValue0
 t3 := Tryz.underlying3
 a3 := Tryz.isAgg3
 z3 := Tryz.sizeOf3
 v3 := Tryz.zeroValue3
 t9 := Tryz.underlying9
 a9 := Tryz.isAgg9
 z9 := Tryz.sizeOf9
 v9 := Tryz.zeroValue9
 t37 := Tryz.underlying41
 a37 := Tryz.isAgg41
 z37 := Tryz.sizeOf41
 v37 := Tryz.zeroValue41
 t70 := Tryz.underlying44
 a70 := Tryz.isAgg44
 z70 := Tryz.sizeOf44
 v70 := Tryz.zeroValue44
 t72 := Tryz.underlying46
 a72 := Tryz.isAgg46
 z72 := Tryz.sizeOf46
 v72 := Tryz.zeroValue46
 t127 := Tryz.underlying107
 a127 := Tryz.isAgg107
 z127 := Tryz.sizeOf107
 v127 := Tryz.zeroValue107 }
theorem extra169 : Builder.Extra Tryz.prog Zk := {
 sizeBuilder := by kernel_rfl
 liesBuilder := by kernel_rfl
 t5 := Tryz.underlying5
 a5 := Tryz.isAgg5
 z5 := Tryz.sizeOf5
 v5 := Tryz.zeroValue5
 infoByte := by kernel_rfl
 cellsByte := by kernel_rfl
 sizeByte := by kernel_rfl
 neB5 := by decide }
theorem qj (B b : Nat) (l : List UInt8) (w : World) (h : Lib.IsBuilder 46 5 B b (Lib.byteCells l) w) (hBw : B <= w.heap.size) :
 Calls Tryz.prog 19 #[.pointer (some ⟨b, 0, none⟩)] w fun e w' => e = .returned (.string ⟨l.toArray⟩) /\ Below B w w' :=
 Any.Builder_String_any lays169 extra169 B b l w h hBw
def laysM316_ren : Go.Shelf.Ren := ⟨fun | 316 => 134 | n => n, fun | 0 => 0 | 3 => 3 | 4 => 4 | 9 => 9 | 37 => 41 | 127 => 107 | 5 => 5 | n => n, fun | n => n⟩
theorem laysM316 : Go.Proofs.LaysM.n316 Tryz.prog laysM316_ren := {
 mixed := by kernel_rfl
 f316 := Tryz.func134.trans (congrArg some (by kernel_rfl))
 t0 := Tryz.underlying0
 a0 := Tryz.isAgg0
 z0 := Tryz.sizeOf0
 v0 := Tryz.zeroValue0
 t3 := Tryz.underlying3
 a3 := Tryz.isAgg3
 z3 := Tryz.sizeOf3
 v3 := Tryz.zeroValue3
 t4 := Tryz.underlying4
 a4 := Tryz.isAgg4
 z4 := Tryz.sizeOf4
 v4 := Tryz.zeroValue4
 t9 := Tryz.underlying9
 a9 := Tryz.isAgg9
 z9 := Tryz.sizeOf9
 v9 := Tryz.zeroValue9
 t37 := Tryz.underlying41
 a37 := Tryz.isAgg41
 z37 := Tryz.sizeOf41
 v37 := Tryz.zeroValue41
 t127 := Tryz.underlying107
 a127 := Tryz.isAgg107
 z127 := Tryz.sizeOf107
 v127 := Tryz.zeroValue107
 t5 := Tryz.underlying5
 a5 := Tryz.isAgg5
 z5 := Tryz.sizeOf5
 v5 := Tryz.zeroValue5
 i0 := by kernel_rfl
 i3 := by kernel_rfl
 i4 := by kernel_rfl
 i5 := by kernel_rfl
 i9 := by kernel_rfl
 i37 := by kernel_rfl
 i127 := by kernel_rfl }
theorem Ya (s : ByteArray) (w : World) (hlim : s.size <= 281474976710656) :
 Calls Tryz.prog 134 #[.string s] w fun e w' => e = .returned (.string s) /\ Below w.heap.size w w' :=
 Any.stringslite_Clone laysM316 s w hlim
end Go.Proofs.YtaidhoepnefcpaaGreat.S
namespace Go.Proofs.YtaidhoepnefcpaaGreat.V
open Go.RowKit
theorem yK {s : ByteArray} {p x q e : Int} (h : rdAt s.data.toList p = (x, q, e)) (w : World) (hs : s.size <= 140737488355328) :
 Calls Tryz.prog 136 #[.string s, .int .i64 p] w fun e' w' => e' = .returned (.tuple #[.int .i64 x, .int .i64 q, .int .i64 e]) /\ w = w' := by
 have := readNumber_any s p w hs;rw [h] at this;exact this
set_option maxHeartbeats 400000 in
theorem readCount_any (s : ByteArray) (p most : Int) (w : World) (hs : s.size <= 140737488355328) :
 Calls Tryz.prog 196 #[.string s, .int .i64 p, .int .i64 most] w fun e w' => e = .returned (.tuple #[.int .i64 (count s.data.toList p most).1, .int .i64 (count s.data.toList p most).2.1, .int .i64 (count s.data.toList p most).2.2]) /\ w = w' := by
 obtain ⟨⟨x, q, e⟩, hr⟩ : ∃ t, rdAt s.data.toList p = t := ⟨_, rfl⟩;have hc : count s.data.toList p most = countOf (x, q, e) most := by unfold count; rw [hr]
 rw [hc];clear hc;have HR := Lib.hid hr; clear hr
 by_cases he : e = 0
 ·subst he
  by_cases h1 : x < 0
  ·have hv : countOf (x, q, 0) most = (0, 0, 6) := by simp [countOf, h1]
   rw [hv];clear hv;go_enter Tryz.func196, Tryz.ntmps196;go_wp2_with (go_at_call 136; refine (yK HR.out _ hs).mono ?_; rintro e w' ⟨rfl, rfl⟩)
   go_ret3;exact ⟨rfl, rfl⟩
  ·by_cases h2 : most < x
   ·have hv : countOf (x, q, 0) most = (0, 0, 4) := by simp [countOf, h1, h2]
    rw [hv];clear hv;go_enter Tryz.func196, Tryz.ntmps196;go_wp2_with (go_at_call 136; refine (yK HR.out _ hs).mono ?_; rintro e w' ⟨rfl, rfl⟩)
    go_ret3;exact ⟨rfl, rfl⟩
   ·have hv : countOf (x, q, 0) most = (x, q, 0) := by simp [countOf, h1, h2]
    rw [hv];clear hv;go_enter Tryz.func196, Tryz.ntmps196;go_wp2_with (go_at_call 136; refine (yK HR.out _ hs).mono ?_; rintro e w' ⟨rfl, rfl⟩)
    go_ret3;exact ⟨rfl, rfl⟩
 ·have hv : countOf (x, q, e) most = (0, 0, e) := by simp [countOf, he]
  rw [hv];have hb : (e == 0) = false := by simp [he]
  clear hv he;go_enter Tryz.func196, Tryz.ntmps196;go_wp2_with (go_at_call 136; refine (yK HR.out _ hs).mono ?_; rintro e w' ⟨rfl, rfl⟩)
  go_ret3;exact ⟨rfl, rfl⟩
theorem jh {s : ByteArray} {p most x q e : Int} (h : count s.data.toList p most = (x, q, e)) (w : World) (hs : s.size <= 140737488355328) :
 Calls Tryz.prog 196 #[.string s, .int .i64 p, .int .i64 most] w fun e' w' => e' = .returned (.tuple #[.int .i64 x, .int .i64 q, .int .i64 e]) /\ w = w' := by
 have := readCount_any s p most w hs;rw [h] at this;exact this
theorem clone_of (s : ByteArray) (w : World) (hs : s.size <= 281474976710656) :
 Calls Tryz.prog 79 #[.string s] w fun e w' => e = .returned (.string s) /\ Below w.heap.size w w' := by
 go_enter Tryz.func79, Tryz.ntmps79;go_wp2_with (go_at_call 134; refine (S.Ya s _ hs).mono ?_; rintro e w' ⟨rfl, hb⟩)
 go_ret;exact ⟨rfl, hb⟩
theorem count_err (s : List UInt8) (p most : Int) {x q e : Int} (h : count s p most = (x, q, e)) (he : e ≠ 0) : x = 0 /\ q = 0 := by
 unfold count countOf at h;split at h
 ·simp only [Prod.mk.injEq] at h; exact ⟨h.1.symm, h.2.1.symm⟩
 ·split at h
  ·simp only [Prod.mk.injEq] at h; exact ⟨h.1.symm, h.2.1.symm⟩
  ·split at h
   ·simp only [Prod.mk.injEq] at h; exact ⟨h.1.symm, h.2.1.symm⟩
   ·simp only [Prod.mk.injEq] at h; exact absurd h.2.2.symm he
theorem str_cut (s : ByteArray) (a n : Nat) : s.extract a (a + n) = str ((s.data.toList.drop a).take n) := by
 unfold str;rw [Lib.extract_eq, Nat.add_sub_cancel_left]
set_option maxHeartbeats 400000 in
theorem readText_any (s : ByteArray) (p : Int) (w : World) (hs : s.size <= 140737488355328) :
 Calls Tryz.prog 142 #[.string s, .int .i64 p] w fun e w' => e = .returned (.tuple #[.string (str (txt s.data.toList p).1), .int .i64 (txt s.data.toList p).2.1, .int .i64 (txt s.data.toList p).2.2]) /\ Below w.heap.size w w' := by
 obtain ⟨⟨x, q, e⟩, hr⟩ : ∃ t, count s.data.toList p 4096 = t := ⟨_, rfl⟩;have hc : txt s.data.toList p = txtOf s.data.toList (x, q, e) := by unfold txt; rw [hr]
 rw [hc];clear hc;by_cases he : e = 0
 ·subst he
  obtain ⟨c1, c2, c3, c4, c5, _⟩ := qx _ _ _ hr;rw [<- yN] at c5;have HR := Lib.hid hr; clear hr
  by_cases h1 : (s.size : Int) - q < x
  ·have hv : txtOf s.data.toList (x, q, 0) = ([], 0, 5) := by unfold txtOf; rw [if_neg (by simp), if_pos (by rw [<- yN]; exact h1)]
   rw [hv];clear hv c3;go_enter Tryz.func142, Tryz.ntmps142;go_wp2_with (go_at_call 196; refine (jh HR.out _ hs).mono ?_; rintro e w' ⟨rfl, rfl⟩)
   go_ret3;exact ⟨rfl, Below.refl _ _⟩
  ·obtain ⟨n, rfl⟩ := Int.eq_ofNat_of_zero_le c1
   obtain ⟨a, rfl⟩ := Int.eq_ofNat_of_zero_le c4;have hv : txtOf s.data.toList ((n : Int), (a : Int), 0) = ((s.data.toList.drop a).take n, (a : Int) + (n : Int), 0) := by unfold txtOf; rw [if_neg (by simp), if_neg (by rw [<- yN]; exact h1)]; simp
   rw [hv];have hcut := str_cut s a n;have HC := Lib.hid hcut; clear hcut
   clear hv c3;go_enter Tryz.func142, Tryz.ntmps142;go_wp2_with (go_at_call 196; refine (jh HR.out _ hs).mono ?_; rintro e w' ⟨rfl, rfl⟩)
   rw [HC.out];refine (clone_of _ _ (by rw [zn, List.length_take]; omega)).mono ?_;rintro e w1 ⟨rfl, hb1⟩;go_wp2_with fail;go_ret3;exact ⟨rfl, hb1⟩
 ·have hz := count_err _ _ _ hr he
  have hv : txtOf s.data.toList (x, q, e) = ([], 0, e) := by simp [txtOf, he]
  rw [hv];have HR := Lib.hid hr; clear hr
  have hb : (e == 0) = false := by simp [he]
  clear hv he hz;go_enter Tryz.func142, Tryz.ntmps142;go_wp2_with (go_at_call 196; refine (jh HR.out _ hs).mono ?_; rintro e w' ⟨rfl, rfl⟩)
  go_ret3;exact ⟨rfl, Below.refl _ _⟩
open K
theorem Tryz.info3 : (Tryz.prog.info? 3).map (fun i => (i.zero, i.size, i.bytes)) = some (some (.int .i64 0), 1, 8) := by kernel_rfl
theorem jq (s : ByteArray) : ∀ u ∈ [Value.string s], u.oneCell' = true := by intro u hu; simp at hu; subst hu; rfl
theorem Tryz.info9 : (Tryz.prog.info? 9).map (fun i => (i.zero, i.size, i.bytes)) = some (some (.string ⟨#[]⟩), 1, 16) := by kernel_rfl
set_option maxHeartbeats 1000000 in
theorem ints_same (v v' : Value) (xs : List Int) (w : World) (hn : xs.length <= 4611686018427387904) (h : Sl w v (xs.map (Value.int .i64))) (h' : Sl w v' (xs.map (Value.int .i64))) :
 Calls Tryz.prog 149 #[v, v'] w fun e w' => e = .returned (.bool true) /\ Below w.heap.size w w' := by
 obtain ⟨a, cap, rfl, hc⟩ := h;obtain ⟨a', cap', rfl, hc'⟩ := h';rw [List.length_map];have hnn : ((xs.length : Int) != (xs.length : Int)) = false := by simp
 have HC := Lib.hid hc; clear hc
 have HC' := Lib.hid hc'; clear hc'
 obtain ⟨n, hN⟩ : ∃ n, xs.length = n := ⟨_, rfl⟩;rw [hN] at hn hnn ⊢;have HN := Lib.hid hN; clear hN
 go_enter Tryz.func149, Tryz.ntmps149;go_wp2_with fail;go_loopw [5] (fun i wr => ∃ k : Nat, k <= n /\ i = .int .i64 (k : Int) /\ Below w.heap.size w wr) (fun i _ => n - (intOf i).toNat)
 case atStart => exact ⟨0, Nat.zero_le _, rfl, Below.refl _ _⟩
 case round =>
  obtain ⟨k, hk, rfl, hbel⟩ := hrel;by_cases hlt : k < n
  ·obtain ⟨x, hx⟩ : ∃ x, xs[k]? = some x := ⟨_, List.getElem?_eq_getElem (by rw [HN.out]; exact hlt)⟩
   obtain ⟨b, off, rfl, hcell⟩ := HC.out k (.int .i64 x) (by rw [List.getElem?_map, hx]; rfl);obtain ⟨b', off', rfl, hcell'⟩ := HC'.out k (.int .i64 x) (by rw [List.getElem?_map, hx]; rfl);have hc1 : wr.cell? ⟨b, off + k, none⟩ = some (.int .i64 x) := (hbel.cell (World.block_lt_of_cell? w _ hcell)).trans hcell;have hc2 : wr.cell? ⟨b', off' + k, none⟩ = some (.int .i64 x) := (hbel.cell (World.block_lt_of_cell? w _ hcell')).trans hcell';have hltI : (k : Int) < (n : Int) := by omega
   have hk0 : 0 <= (k : Int) := by omega
   have hxx : (x != x) = false := by simp
   clear hcell hcell' hx;go_wp2_with fail;go_quiet (fail)
   go_wp2_with fail;go_roundw
   case rel => exact ⟨k + 1, by omega, by go_num, below_drewN hbel _⟩
   case measure => simp [intOf]; omega
  ·have hltI : ¬ (k : Int) < (n : Int) := by omega
   go_wp2_with fail;go_ret;exact ⟨rfl, hbel⟩
set_option maxHeartbeats 1000000 in
theorem same_same (v v' : Value) (xs : List (List UInt8)) (w : World) (hn : xs.length <= 4611686018427387904) (h : Sl w v (xs.map sv)) (h' : Sl w v' (xs.map sv)) :
 Calls Tryz.prog 38 #[v, v'] w fun e w' => e = .returned (.bool true) /\ Below w.heap.size w w' := by
 obtain ⟨a, cap, rfl, hc⟩ := h;obtain ⟨a', cap', rfl, hc'⟩ := h';rw [List.length_map];have hnn : ((xs.length : Int) != (xs.length : Int)) = false := by simp
 have HC := Lib.hid hc; clear hc
 have HC' := Lib.hid hc'; clear hc'
 obtain ⟨n, hN⟩ : ∃ n, xs.length = n := ⟨_, rfl⟩;rw [hN] at hn hnn ⊢;have HN := Lib.hid hN; clear hN
 go_enter Tryz.func38, Tryz.ntmps38;go_wp2_with fail;go_loopw [5] (fun i wr => ∃ k : Nat, k <= n /\ i = .int .i64 (k : Int) /\ Below w.heap.size w wr) (fun i _ => n - (intOf i).toNat)
 case atStart => exact ⟨0, Nat.zero_le _, rfl, Below.refl _ _⟩
 case round =>
  obtain ⟨k, hk, rfl, hbel⟩ := hrel;by_cases hlt : k < n
  ·obtain ⟨x, hx⟩ : ∃ x, xs[k]? = some x := ⟨_, List.getElem?_eq_getElem (by rw [HN.out]; exact hlt)⟩
   obtain ⟨b, off, rfl, hcell⟩ := HC.out k (.string (str x)) (by rw [List.getElem?_map, hx]; rfl);obtain ⟨b', off', rfl, hcell'⟩ := HC'.out k (.string (str x)) (by rw [List.getElem?_map, hx]; rfl);have hc1 : wr.cell? ⟨b, off + k, none⟩ = some (.string (str x)) := (hbel.cell (World.block_lt_of_cell? w _ hcell)).trans hcell;have hc2 : wr.cell? ⟨b', off' + k, none⟩ = some (.string (str x)) := (hbel.cell (World.block_lt_of_cell? w _ hcell')).trans hcell';have hltI : (k : Int) < (n : Int) := by omega
   have hk0 : 0 <= (k : Int) := by omega
   clear hcell hcell' hx;go_wp2_with fail;go_quiet (fail)
   go_wp2_with fail;go_roundw
   case rel => exact ⟨k + 1, by omega, by go_num, below_drewN hbel _⟩
   case measure => simp [intOf]; omega
  ·have hltI : ¬ (k : Int) < (n : Int) := by omega
   go_wp2_with fail;go_ret;exact ⟨rfl, hbel⟩
end Go.Proofs.YtaidhoepnefcpaaGreat.V
namespace Go.Proofs.YtaidhoepnefcpaaGreat.C
open Go Go.RowKit B
set_option maxHeartbeats 400000 in
theorem refBit_any (r : Nat) (w : World) (h : r < 4294967296) :
 Calls Tryz.prog 133 #[.int .u32 (r : Int)] w fun e w' => e = .returned (.int .u32 (bit r : Nat)) /\ w = w' := by
 have hr : (r : Int) < 4294967296 := by omega
 have hx := u32_xor_nat (r / 2) 2197175160 (by omega) (by omega);rw [show ((r / 2 : Nat) : Int) = (r : Int) / 2 by omega] at hx;by_cases hp : r % 2 = 1
 ·have hb : bit r = (r / 2) ^^^ 2197175160 := by unfold bit; rw [if_pos hp]
  have hpb : ((r : Int) % 2 == 1) = true := by simp; omega
  rw [hb];clear hb hp;go_enter Tryz.func133, Tryz.ntmps133;go_wp2_with fail;go_ret;exact ⟨yC hx, rfl⟩
 ·have hb : bit r = r / 2 := by unfold bit; rw [if_neg hp]
  have hpb : ((r : Int) % 2 == 1) = false := by simp; omega
  rw [hb];clear hb hp hx;go_enter Tryz.func133, Tryz.ntmps133;go_wp2_with fail;go_ret;exact ⟨yC (by omega), rfl⟩
theorem thr_at (l : List UInt8) (k : Nat) (h : k < l.length) : ∃ (b : Nat) (hk : k < (str l).size), ((str l)[k]'hk).toNat = b /\ b < 256 /\ ∀ R, thr R (l.drop k) = thr (zs 8 (R ^^^ b)) (l.drop (k + 1)) := by
 obtain ⟨hk, e⟩ := byte_at l k h;refine ⟨_, hk, rfl, ((str l)[k]'hk).toNat_lt, fun R => ?_⟩;rw [List.drop_eq_getElem_cons h, thr_cons, e]
set_option maxHeartbeats 400000 in
theorem refThrough_any (r : Nat) (l : List UInt8) (w : World) (h : r < 4294967296) (hl : l.length <= maxLen) :
 Calls Tryz.prog 76 #[.int .u32 (r : Int), .string (str l)] w fun e w' => e = .returned (.int .u32 (thr r l : Nat)) /\ w = w' := by
 have hsz : (str l).size = l.length := zn l;have hl' : l.length <= 9223372036854775807 := hl;have HL := Lib.hid hl'; clear hl hl'
 obtain ⟨n, hN⟩ : ∃ n, l.length = n := ⟨_, rfl⟩;rw [hN] at hsz HL;have HN := Lib.hid hN; clear hN
 go_enter Tryz.func76, Tryz.ntmps76;go_wp2_with fail;go_loop [0, 5, 6] (fun x i _ => ∃ R k : Nat, x = .int .u32 (R : Int) /\ R < 4294967296 /\ i = .int .i64 (k : Int) /\ k <= n /\ Hid (thr R (l.drop k) = thr r l)) (fun _ i _ => n - (intOf i).toNat)
 case atStart => exact ⟨r, 0, rfl, h, rfl, Nat.zero_le _, rfl⟩
 case round =>
  obtain ⟨R, k, rfl, hR, rfl, hk, HR⟩ := hrel;by_cases hlt : k < n
  ·obtain ⟨b, hb0, hb1, hb2, hb3⟩ := thr_at l k (by rw [HN.out]; exact hlt)
   have hx := u32_xor_nat R b hR (by omega);obtain ⟨Q, hQ⟩ : ∃ Q, R ^^^ b = Q := ⟨_, rfl⟩;have hQ1 : Q < 4294967296 := by rw [<- hQ]; exact Nat.xor_lt_two_pow (n := 32) (by omega) (by omega)
   rw [hQ] at hx;have hb4 := hb3 R;rw [HR.out, hQ] at hb4;have HB := Lib.hid hb4; clear hb4 hb3 hQ
   have hk1 : (k : Int) < 9223372036854775807 := by have := HL.out; omega
   have hltI : (k : Int) < (n : Int) := by omega
   go_wp2_with fail;go_loop [0, 6] (fun x j => ∃ T m : Nat, x = .int .u32 (T : Int) /\ T < 4294967296 /\ j = .int .i64 (m : Int) /\ m <= 8 /\ Hid (zs (8 - m) T = zs 8 Q)) (fun _ j => 8 - (intOf j).toNat)
   case atStart => exact ⟨Q, 0, rfl, hQ1, rfl, by omega, rfl⟩
   case round =>
    obtain ⟨T, m, rfl, hT, rfl, hm, HT⟩ := hrel;by_cases hm8 : m < 8
    ·have hmI : (m : Int) < 8 := by omega
     have hnx : zs (8 - (m + 1)) (bit T) = zs 8 Q := by
      rw [<- HT.out, <- zs_succ]; exact congrArg (fun j => zs j T) (by omega)
     have HNX := Lib.hid hnx; clear hnx
     go_wp2_with (go_at_call 133; refine (refBit_any _ _ hT).mono ?_; rintro _ w1 ⟨rfl, rfl⟩)
     go_round
     case rel => exact ⟨bit T, m + 1, rfl, bit_lt T hT, by go_num, by omega, HNX.out⟩
     case measure => simp [intOf]; omega
    ·obtain rfl : m = 8 := by omega
     have hend : thr T (l.drop (k + 1)) = thr r l := by rw [HB.out]; exact congrArg (fun x => thr x (l.drop (k + 1))) HT.out
     have HE := Lib.hid hend; clear hend
     go_wp2_with fail;go_round
     case rel => exact ⟨T, k + 1, rfl, hT, by go_num, by omega, HE.out⟩
     case measure => simp [intOf]; omega
  ·have hend : R = thr r l := by rw [<- HR.out, List.drop_eq_nil_of_le (by rw [HN.out]; omega), thr_nil]
   have HE := Lib.hid hend; clear hend
   have hltI : ¬ (k : Int) < (n : Int) := by omega
   go_wp2_with fail;go_ret;exact ⟨yC (congrArg _ HE.out), rfl⟩
set_option maxHeartbeats 400000 in
theorem refSum_any (l : List UInt8) (w : World) (hl : l.length <= maxLen) :
 Calls Tryz.prog 27 #[.string (str l)] w fun e w' => e = .returned (.int .u32 (sum l : Nat)) /\ w = w' := by
 have hx := u32_xor_nat (thr 4294967295 l) 4294967295 (thr_lt _ _ (by omega)) (by omega);have HX := Lib.hid hx; clear hx
 have HL := Lib.hid hl; clear hl
 go_enter Tryz.func27, Tryz.ntmps27;go_wp2_with (go_at_call 76; refine (refThrough_any 4294967295 _ _ (by omega) HL.out).mono ?_; rintro _ w1 ⟨rfl, rfl⟩)
 go_ret;exact ⟨yC HX.out, rfl⟩
open K
set_option maxHeartbeats 400000 in
theorem refSeal_any (l : List UInt8) (w : World) (hl : l.length <= 70368744177664) :
 Calls Tryz.prog 11 #[.string (str l)] w fun e w' => e = .returned (.string (str (sealed l))) /\ Below w.heap.size w w' := by
 obtain ⟨i0, hi, hz0, hz1, hz2⟩ := info_parts Tryz.info5;obtain ⟨S, hS⟩ : ∃ S, sum l = S := ⟨_, rfl⟩;have hS1 : S < 4294967296 := by rw [<- hS]; exact sum_lt l
 have hsealed : sealed l = l ++ le4 S := by rw [sealed, hS]
 have HSE := Lib.hid hsealed; clear hsealed
 have hHS := refSum_any l w (Nat.le_trans hl (by decide));rw [hS] at hHS;have HSUM := Lib.hid hHS; clear hHS hS
 have HL := Lib.hid hl; clear hl
 have HS1 := Lib.hid hS1; clear hS1
 obtain ⟨v3, w3, hcv, how, hb3⟩ := conv_bytes (P := Tryz.prog) w 9 41 5 (str l) Tryz.underlying9 Tryz.underlying41 Tryz.underlying5 (by rw [zn]; have := HL.out; unfold maxLen; omega);rw [strCells_str, zn] at how;have HOW := Lib.hid how;have HB3 := Lib.hid hb3;clear how hb3;go_enter Tryz.func11, Tryz.ntmps11;go_wp2_with (go_at_call 27; refine HSUM.out.mono ?_; rintro _ w1 ⟨rfl, rfl⟩)
 go_loopw [3, 4, 5] (fun x b i wr => ∃ k X : Nat, k <= 4 /\ i = .int .i64 (k : Int) /\ x = .int .u32 (X : Int) /\ Hid (S / 256 ^ k = X) /\
  Hid (OwnsG wr w.heap.size 5 b (l ++ (le4 S).take k).length (Lib.byteCells (l ++ (le4 S).take k))) /\ Hid (Below w.heap.size w wr)) (fun _ _ i _ => 4 - (intOf i).toNat)
 case atStart => exact ⟨0, S, by omega, rfl, rfl, by show S / 1 = S; exact Nat.div_one S, by rw [List.take_zero, List.append_nil]; exact HOW.out, HB3.out⟩
 case round =>
  obtain ⟨k, X, hk, rfl, rfl, HX, HOWN, HBE⟩ := hrel;by_cases hk4 : k < 4
  ·have hX1 : X < 4294967296 := by rw [<- HX.out]; exact Nat.lt_of_le_of_lt (Nat.div_le_self _ _) HS1.out
   have hkI : (k : Int) < 4 := by omega
   have hnx : S / 256 ^ (k + 1) = X / 256 := by rw [Nat.pow_succ, <- Nat.div_div_eq_div_mul, HX.out]
   have htk := le4_take S k hk4;rw [HX.out] at htk;have HTK := Lib.hid htk; clear htk
   have HNX := Lib.hid hnx; clear hnx
   have hm0 : IntKind.u8.wrap ((X : Int) % 256) = (X : Int) % 256 := IntWalk.u8_in _ (by omega);have hd1 : IntKind.u32.wrap ((X : Int) / 256) = (X : Int) / 256 := IntWalk.u32_in _ (by omega);have hlen : (l ++ (le4 S).take k).length + 1 <= 70368744177669 := by rw [List.length_append, List.length_take, qW]; have := HL.out; omega
   have HLEN := Lib.hid hlen; clear hlen
   clear hX1;go_wp2_with (at_builtin; refine wpList_appendGs _ rfl _ _ 41 rfl w.heap.size 5 i0 Tryz.underlying41 hi hz0 hz1 hz2 _ _ _ rfl (HOWN.out.below ((Below.refl _ _).alloc (Nat.le_refl _) _)) ⟨wr.heap.size, 0, none⟩ 1 1 [.int .u8 ((X : Int) % 256)] rfl rfl (qZ _ _ _) (one_cell _ _) (by have := HLEN.out; unfold maxLen; omega) (by have := HLEN.out; omega) ((HBE.out.alloc HBE.out.size _).size) ?_; intro v' w5 hown' hgrow)
   have hb5 : Below w.heap.size w w5 := (HBE.out.alloc HBE.out.size _).grown hgrow (HBE.out.alloc HBE.out.size _).size HOWN.out.block;rw [show (X : Int) % 256 = ((X % 256 : Nat) : Int) by omega, <- Lib.byteCells_snoc _ (show X % 256 < 256 by omega), List.append_assoc, <- HTK.out] at hown';have hown5 : OwnsG w5 w.heap.size 5 v' (l ++ (le4 S).take (k + 1)).length (Lib.byteCells (l ++ (le4 S).take (k + 1))) := by
    have := hown'.1;rw [Lib.byteCells_length] at this;rw [this]; exact hown'
   clear hgrow hown';go_wp2_with fail;go_roundw
   case rel => exact ⟨k + 1, X / 256, by omega, by go_num, by go_num, HNX.out, hown5, hb5⟩
   case measure => simp [intOf]; omega
  ·obtain rfl : k = 4 := by omega
   have hcv := run_strG (P := Tryz.prog) Tryz.underlying41 Tryz.underlying5 Tryz.underlying9 HOWN.out (dst := 9) (src := 41);rw [show (le4 S).take 4 = le4 S from rfl, <- HSE.out, show (⟨(sealed l).toArray⟩ : ByteArray) = str (sealed l) from rfl] at hcv;go_wp2_with fail;go_simp
   go_wp2_with fail;go_ret;exact ⟨rfl, HBE.out⟩
end Go.Proofs.YtaidhoepnefcpaaGreat.C
