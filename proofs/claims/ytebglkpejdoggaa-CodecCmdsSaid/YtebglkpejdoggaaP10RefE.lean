/-
  Layer 10, the document's answers: the bytes of items, verdicts and filters.
-/
import Derived.Test.YtebglkpejdoggaaP10RefD
namespace Go.Proofs.Ytebglkpejdoggaa.C10
open Go Go.RowKit Go.Proofs Go.Proofs.Ytebglkpejdoggaa.B Go.Proofs.Ytebglkpejdoggaa.K Go.Proofs.Ytebglkpejdoggaa.P8
set_option linter.unusedVariables false
set_option maxRecDepth 100000

theorem layIt_len (x : It) (h : ItWf x) : (layIt x).length ≤ 400000000000000 := by
  obtain ⟨h0, h1, h2, h3⟩ := h
  unfold layIt
  rw [List.length_append, List.length_append]
  have e1 := textL_len x.stream h0
  have e2 := numsL_len [x.st.pos, x.st.ver] (by intro y hy; simp at hy; rcases hy with rfl | rfl <;> assumption)
  have e3 := listL_len x.st.vars h3
  have e4 := h3.2
  unfold TxWf at h0
  simp only [List.length_cons, List.length_nil] at e2
  omega
theorem layVd_len (x : Vd) (h : VdWf x) : (layVd x).length ≤ 20 := by
  have e2 := numsL_len [x.seq, x.code] (by intro y hy; simp at hy; rcases hy with rfl | rfl; exact h.1; exact h.2)
  exact e2
theorem sln_drew {W : World} {v : Value} {l : List Int} (h : SlN W v l) : SlN W.drew v l := h
theorem text_len2 (x : List UInt8) (h : TxWf x) : (textL x).length ≤ 200000000000000 := by
  have e1 := textL_len x h
  unfold TxWf at h
  omega

end Go.Proofs.Ytebglkpejdoggaa.C10
