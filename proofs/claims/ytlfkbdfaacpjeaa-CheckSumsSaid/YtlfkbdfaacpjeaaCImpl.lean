/-
  The program's package check keeps all five contracts.
-/
import Derived.Test.YtlfkbdfaacpjeaaCLaid
namespace Go.Proofs.Ytlfkbdfaacpjeaa.C
open Go Go.RowKit Go.Proofs.Ytlfkbdfaacpjeaa.B Go.Proofs.Ytlfkbdfaacpjeaa.K

theorem contracts : Contracts where
  sum l w h := (sum_any l w (Nat.le_trans h (by decide))).mono (by rintro _ w' ⟨rfl, rfl⟩; exact ⟨rfl, Below.refl _ _⟩)
  more x l w hx h := (more_any x l w hx (Nat.le_trans h (by decide))).mono (by rintro _ w' ⟨rfl, rfl⟩; exact ⟨rfl, Below.refl _ _⟩)
  join a b n w ha hb _ hn := join_any a b n w ha hb hn
  seal_ l w h := seal_any l w (Nat.le_trans h (by decide))
  open_ l w h := open_any l w (Nat.le_trans h (by decide))
end Go.Proofs.Ytlfkbdfaacpjeaa.C
