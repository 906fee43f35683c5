/- BracedText, plain; the numbers of a tree in memory fit. -/
import Derived.Test.YtkgogbeknehphaaDoorSayM
import Derived.Test.YtkgogbeknehphaaDoorGTree
namespace Go.Proofs.YtkgogbeknehphaaDoor.say
open Go Go.RowKit tree
set_option linter.unusedVariables false

open Classical in
noncomputable def bracedF (t : T) : ByteArray := if Ok t ∧ (say t).length ≤ 20000 then ⟨(say t).toArray⟩ else ⟨#[]⟩
theorem braced_yes {t : T} (h : Ok t) : bracedF t = if (say t).length ≤ 20000 then ⟨(say t).toArray⟩ else ⟨#[]⟩ := by
  unfold bracedF
  by_cases h2 : (say t).length ≤ 20000
  · rw [if_pos ⟨h, h2⟩, if_pos h2]
  · rw [if_neg (fun e => h2 e.2), if_neg h2]
theorem braced_no {t : T} (h : ¬ Ok t) : bracedF t = ⟨#[]⟩ := by
  unfold bracedF
  rw [if_neg (fun e => h e.1)]
theorem wf_int {n : Int} (h : (Lit.int .i64 n).wf = true) : -9223372036854775808 ≤ n ∧ n ≤ 9223372036854775807 := by
  have e1 : IntKind.i64.min = -9223372036854775808 := rfl
  have e2 : IntKind.i64.max = 9223372036854775807 := rfl
  simp [Lit.wf, e1, e2] at h
  exact h
theorem lies_nums : ∀ (f : Nat) (t : T) (vs : List Value) (w : World), LiesS w f vs (row t) → Nums t
  | 0, t, vs, w, h => by
    obtain ⟨k, fl, n, s, ks, kids⟩ := t
    obtain ⟨_, _, _, _, _, _, _, _, _, _, _, _, _, _, f', hf, _⟩ := open_tree h
    omega
  | f + 1, t, vs, w, h => by
    obtain ⟨k, fl, n, s, ks, kids⟩ := t
    obtain ⟨A1, c1, A2, c2, rfl, wk, wn, hs, hc1, hc2, hr, hks, hc3, hc4, f', hf, hk⟩ := open_tree h
    obtain rfl : f = f' := by omega
    rw [Nums, numss_iff]
    refine ⟨wf_int wn, fun x hx => ?_⟩
    obtain ⟨i, hi, rfl⟩ := List.getElem_of_mem hx
    obtain ⟨g, o, rfl, hg, hc⟩ := hk (by omega)
    obtain ⟨u0, u1, u2, u3, u4, u5, _, hl⟩ := hc i kids[i] (List.getElem?_eq_getElem hi)
    exact lies_nums f kids[i] _ w hl
end Go.Proofs.YtkgogbeknehphaaDoor.say
