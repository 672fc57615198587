/-
  Layer 11: what the layers beneath answer, what the landed frames answer.
-/
import Derived.Test.YtaidhoepnefcpaaGreatBP11Zc
import Derived.Test.YtaidhoepnefcpaaGreatBP11LPut
namespace Go.Proofs.YtaidhoepnefcpaaGreat.C10
open Go Go.RowKit Go.Proofs B K P8
set_option linter.unusedVariables false
set_option maxRecDepth 100000
theorem refValue10_any (n : Int) (w : World) : Calls Tryz.prog 130 #[.int .i64 n] w fun e w' => e = .returned (.bool (valP n)) /\ w = w' := by
 unfold valP inn;by_cases h1 : -1099511627776 <= n
 ·have d1 : decide (-1099511627776 <= n) = true := decide_eq_true h1
  by_cases h2 : n <= 1099511627776
  ·have d2 : decide (n <= 1099511627776) = true := decide_eq_true h2
   rw [d1, d2];go_enter Tryz.func130, Tryz.ntmps130;go_wp2_with fail;go_ret;exact ⟨rfl, rfl⟩
  ·have d2 : decide (n <= 1099511627776) = false := decide_eq_false h2
   rw [d1, d2];go_enter Tryz.func130, Tryz.ntmps130;go_wp2_with fail;go_ret;exact ⟨rfl, rfl⟩
 ·have d1 : decide (-1099511627776 <= n) = false := decide_eq_false h1
  rw [d1];go_enter Tryz.func130, Tryz.ntmps130;go_wp2_with fail;go_ret;exact ⟨rfl, rfl⟩
theorem low : Low where
 value := refValue10_any
 stream := fun s w h => refStream_any s h w
 less := fun a b w ha hb => less_any a b ha hb w
 right := fun l v w h hl => refRight9_any l v w h hl
 number := fun n w h => V.refNumber_any n w h.1 h.2
 ints := fun v v' xs w hn h h' => (V.ints_same v v' xs w hn h h').mono fun e w2 h2 => ⟨h2.1, h2.2⟩
 same := fun v v' xs w hn h h' => (V.same_same v v' xs w hn h h').mono fun e w2 h2 => ⟨h2.1, h2.2⟩
theorem sea : Sea := ⟨fun s w h => C.refSeal_any s w h⟩
end Go.Proofs.YtaidhoepnefcpaaGreat.C10
