/- Sentinels that a row lists, as many as it lists in a row: each variable leads to a block of its own, and no two to the same. -/
import Derived.Test.YtljahpngngmecaaDoorBase
import Derived.Stop.LaidErr
import Derived.RowKitTokens
namespace Go.Proofs.YtljahpngngmecaaDoor
open Go Go.RowKit Go.Stop
set_option linter.unusedVariables false

/-- The variables ns hold errors of errors.New's make (type tp), each with an address of its own. -/
def Sents (P : Program) (tp : TypeId) (ns : List String) (w : World) : Prop :=
  ∃ as : List Addr, as.length = ns.length ∧ as.Nodup ∧ (∀ (i : Nat) (n : String) (a : Addr), ns[i]? = some n → as[i]? = some a → w.var? P n = some #[.iface tp (.pointer (some a))]) ∧ ∀ a ∈ as, ∃ c t, w.heap[a.block]? = some (.cells c t (0, 0))
theorem Sents.below {P : Program} {tp : TypeId} {ns : List String} {w w' : World} (h : Sents P tp ns w) (hb : Below w.heap.size w w') : Sents P tp ns w' := by
  obtain ⟨as, h1, h2, h3, h4⟩ := h
  refine ⟨as, h1, h2, fun i n a hn ha => var_below (h3 i n a hn ha) hb, fun a ha => ?_⟩
  obtain ⟨c, t, hc⟩ := h4 a ha
  exact ⟨c, t, heap_kept hb (Array.getElem?_eq_some_iff.1 hc).1 hc⟩

theorem sents_of_laid {P : Program} {nm : String} {W : World} {ti tp te ts : TypeId} {ms : Array (String × TypeId)} {f : Field}
    (hi : P.underlying ti = some (.interface ms)) (hrow : ∀ u, P.typeName? 3 u = some nm → u = tp)
    (hp : P.underlying tp = some (.pointer te)) (he : P.underlying te = some (.struct #[f])) (hft : f.type = ts) (hfo : f.offset = 0) (hs : P.underlying ts = some .string) (hc : P.cellsOf te = 1) (hcs : P.cellsOf ts = 1) (r : List (String × DataW Unit)) :
    ∀ (l : List (String × List UInt8)) (ps : List MemPlace), (∀ x ∈ l, ∃ g, P.globalNamed x.1 = some g ∧ (P.globals[g]?).map (·.type) = some ti) →
      DataW.LaidVars P W (l.map (fun x => (x.1, .iface nm (.ptr (.agg [.lit (.string x.2)])))) ++ r) ps → ps.Nodup →
      (∀ b off, MemPlace.cell b off ∈ ps → (∃ c t, W.heap[b]? = some (.cells c t (0, 0))) ∧ ∀ u v, W.cell? ⟨b, off, none⟩ = some (.iface u v) → Value.okWide P W .any 0 u v) →
      ∃ as : List Addr, as.length = l.length ∧ as.Nodup ∧ (∀ (i : Nat) (n : String) (a : Addr), (l.map (·.1))[i]? = some n → as[i]? = some a → W.var? P n = some #[.iface tp (.pointer (some a))]) ∧ ∀ a ∈ as, MemPlace.cell a.block a.off ∈ ps
  | [], ps, _, _, _, _ => ⟨[], rfl, List.nodup_nil, fun i n a hn => by simp at hn, fun a ha => by simp at ha⟩
  | x :: l, ps, hg, hl, hnd, hrows => by
    obtain ⟨g0', t0', cs0, f0, p0, q0, hg0', ht0', hv0, hd0, hrest, e0⟩ := hl
    obtain ⟨g0, hg0, ht0⟩ := hg x (List.mem_cons_self)
    obtain rfl := Option.some.inj (hg0.symm.trans hg0')
    obtain rfl := Option.some.inj (ht0.symm.trans ht0')
    subst e0
    obtain ⟨l0⟩ := cs0
    have ok0 : ∀ u v, l0 = [.iface u v] → Value.okWide P W .any 0 u v := fun u v e => by
      subst e
      exact (hrows g0 0 (by simp [MemPlace.row])).2 u v (by simpa using World.var?_cell hg0' hv0 0)
    obtain ⟨a0, s0, rfl, hc0, hs0, hz0, rfl⟩ := errorString_of_trod hi hrow hp he hft hfo hs hc hcs hd0 ok0
    have hmem : MemPlace.cell a0.block a0.off ∈ MemPlace.row a0 1 := by simp [MemPlace.row]
    obtain ⟨as, h1, h2, h3, h4⟩ := sents_of_laid hi hrow hp he hft hfo hs hc hcs r l q0 (fun y hy => hg y (List.mem_cons_of_mem _ hy)) hrest (List.Nodup.sublist (List.sublist_append_right _ _) hnd) (fun b off hm => hrows b off (List.mem_append_right _ hm))
    refine ⟨a0 :: as, by simp [h1], ?_, ?_, ?_⟩
    · refine List.nodup_cons.2 ⟨fun hin => ?_, h2⟩
      exact (List.nodup_append.1 hnd).2.2 _ (List.mem_append_right _ hmem) _ (h4 a0 hin) rfl
    · intro i n a hn ha
      cases i with
      | zero =>
        simp at hn ha
        subst hn ha
        exact hv0
      | succ i => exact h3 i n a (by simpa using hn) (by simpa using ha)
    · intro a ha
      rcases List.mem_cons.1 ha with rfl | ha
      · exact List.mem_append_left _ (List.mem_append_right _ hmem)
      · exact List.mem_append_right _ (h4 a ha)
/-- As a row lists them one behind the other. -/
theorem sents_here {P : Program} {nm : String} {W : World} {ti tp te ts : TypeId} {ms : Array (String × TypeId)} {f : Field}
    (hi : P.underlying ti = some (.interface ms)) (hrow : ∀ u, P.typeName? 3 u = some nm → u = tp)
    (hp : P.underlying tp = some (.pointer te)) (he : P.underlying te = some (.struct #[f])) (hft : f.type = ts) (hfo : f.offset = 0) (hs : P.underlying ts = some .string) (hc : P.cellsOf te = 1) (hcs : P.cellsOf ts = 1) (r : List (String × DataW Unit))
    (l : List (String × List UInt8)) (hg : ∀ x ∈ l, ∃ g, P.globalNamed x.1 = some g ∧ (P.globals[g]?).map (·.type) = some ti)
    (h : laidMet P (l.map (fun x => (x.1, .iface nm (.ptr (.agg [.lit (.string x.2)])))) ++ r) W) : Sents P tp (l.map (·.1)) W := by
  obtain ⟨ps, hl, hnd, hrows⟩ := h
  obtain ⟨as, h1, h2, h3, h4⟩ := sents_of_laid hi hrow hp he hft hfo hs hc hcs r l ps hg hl hnd hrows
  exact ⟨as, by simp [h1], h2, h3, fun a ha => (hrows _ _ (h4 a ha)).1⟩
end Go.Proofs.YtljahpngngmecaaDoor
