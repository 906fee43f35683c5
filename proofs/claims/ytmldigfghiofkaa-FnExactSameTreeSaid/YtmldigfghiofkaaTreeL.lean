/- A tree as it lies in memory, opened. -/
import Derived.Test.YtmldigfghiofkaaTreeM
namespace Go.Proofs.Ytmldigfghiofkaa.tree
open Go Go.RowKit
set_option linter.unusedVariables false

theorem Rd.of_lies {w : World} {f : Nat} {v : Value} {ks : List ByteArray} (h : Lies w f v (.sl 1 ks.length (skeys ks))) : ∃ A c, v = .slice A ks.length c ∧ ks.length ≤ c ∧ c ≤ maxLen ∧ Rd w A ks.length (scells ks) ∧ ∀ x ∈ ks, x.size ≤ maxLen := by
  obtain ⟨A, c, rfl, h1, h2, _, f', rfl, h3⟩ := h.sl
  refine ⟨A, c, rfl, h1, h2, ⟨by rw [scells_length], fun hn => ?_⟩, fun x hx => ?_⟩
  · obtain ⟨g, o, rfl, hg, hc⟩ := h3 hn
    refine ⟨g, o, rfl, hg, fun j hj u hu => ?_⟩
    rw [scells_get ks j hj] at hu
    injection hu with hu
    obtain ⟨u', hu', hl⟩ := hc j (.str ks[j]) (by simp [skeys, hj])
    rw [hl.str.1] at hu'
    rw [hu', ← hu]
  · obtain ⟨i, hi, rfl⟩ := List.getElem_of_mem hx
    obtain ⟨g, o, rfl, hg, hc⟩ := h3 (by omega)
    obtain ⟨u', hu', hl⟩ := hc i (.str ks[i]) (by simp [skeys, hi])
    exact hl.str.2
/-- The six cells from place o on. -/
def Six (w : World) (g o : Nat) (u0 u1 u2 u3 u4 u5 : Value) : Prop :=
  w.cell? ⟨g, o, none⟩ = some u0 ∧ w.cell? ⟨g, o + 1, none⟩ = some u1 ∧ w.cell? ⟨g, o + 2, none⟩ = some u2 ∧ w.cell? ⟨g, o + 3, none⟩ = some u3 ∧ w.cell? ⟨g, o + 4, none⟩ = some u4 ∧ w.cell? ⟨g, o + 5, none⟩ = some u5
theorem Six.block {w w' : World} {g o : Nat} {u0 u1 u2 u3 u4 u5 : Value} (h : Six w g o u0 u1 u2 u3 u4 u5) (e : w'.heap[g]? = w.heap[g]?) : Six w' g o u0 u1 u2 u3 u4 u5 :=
  ⟨(World.cell?_of_block e).trans h.1, (World.cell?_of_block e).trans h.2.1, (World.cell?_of_block e).trans h.2.2.1, (World.cell?_of_block e).trans h.2.2.2.1, (World.cell?_of_block e).trans h.2.2.2.2.1, (World.cell?_of_block e).trans h.2.2.2.2.2⟩
/-- The kids in memory, each as its six cells. -/
def KidsAt (w : World) (f : Nat) (A : Option Addr) (kids : List T) : Prop :=
  0 < kids.length → ∃ g o, A = some ⟨g, o, none⟩ ∧ g < w.heap.size ∧ ∀ (i : Nat) (x : T), kids[i]? = some x → ∃ u0 u1 u2 u3 u4 u5, Six w g (o + i * 6) u0 u1 u2 u3 u4 u5 ∧ LiesS w f [u0, u1, u2, u3, u4, u5] (row x)
theorem KidsAt.kept {w w' : World} {f : Nat} {A : Option Addr} {kids : List T} (h : KidsAt w f A kids) (hk : ∀ g, g < w.heap.size → w'.heap[g]? = w.heap[g]?) : KidsAt w' f A kids := by
  intro hn
  obtain ⟨g, o, rfl, hg, hc⟩ := h hn
  have e := hk g hg
  have hs : g < w'.heap.size := by
    rw [Array.getElem?_eq_getElem hg] at e
    exact heap_lt e
  refine ⟨g, o, rfl, hs, fun i x hx => ?_⟩
  obtain ⟨u0, u1, u2, u3, u4, u5, h1, h2⟩ := hc i x hx
  exact ⟨u0, u1, u2, u3, u4, u5, h1.block e, h2.kept hk⟩
theorem KidsAt.below {w w' : World} {f : Nat} {A : Option Addr} {kids : List T} (h : KidsAt w f A kids) (hb : Below w.heap.size w w') : KidsAt w' f A kids := h.kept hb.block
theorem kids_of_lies {w : World} {f : Nat} {v : Value} {kids : List T} (h : Lies w f v (.sl 6 kids.length (rows kids))) : ∃ A c, v = .slice A kids.length c ∧ kids.length ≤ c ∧ c ≤ maxLen ∧ ∃ f', f = f' + 1 ∧ KidsAt w f' A kids := by
  obtain ⟨A, c, rfl, h1, h2, _, f', rfl, h3⟩ := h.sl
  refine ⟨A, c, rfl, h1, h2, f', rfl, fun hn => ?_⟩
  obtain ⟨g, o, rfl, hg, hc⟩ := h3 hn
  refine ⟨g, o, rfl, hg, fun i x hx => ?_⟩
  obtain ⟨hi, rfl⟩ := List.getElem?_eq_some_iff.1 hx
  have hj : ∀ j : Fin 6, ∃ u, w.cell? ⟨g, o + (i * 6 + j.val), none⟩ = some u ∧ ∃ d, (row kids[i])[j.val]? = some d ∧ Lies w f' u d := fun j => by
    have hd : j.val < (row kids[i]).length := by rw [row_length]; omega
    obtain ⟨u, hu, hl⟩ := hc (i * 6 + j.val) (row kids[i])[j.val] (by rw [rows_get kids i j.val hi j.isLt]; exact List.getElem?_eq_getElem hd)
    exact ⟨u, hu, _, List.getElem?_eq_getElem hd, hl⟩
  obtain ⟨u0, c0, d0, e0, l0⟩ := hj 0
  obtain ⟨u1, c1, d1, e1, l1⟩ := hj 1
  obtain ⟨u2, c2, d2, e2, l2⟩ := hj 2
  obtain ⟨u3, c3, d3, e3, l3⟩ := hj 3
  obtain ⟨u4, c4, d4, e4, l4⟩ := hj 4
  obtain ⟨u5, c5, d5, e5, l5⟩ := hj 5
  refine ⟨u0, u1, u2, u3, u4, u5, ⟨c0, c1, c2, c3, c4, c5⟩, by rw [row_length]; rfl, fun m u d hu hd => ?_⟩
  · match m, hu, hd with
    | 0, hu, hd => injection hu with hu; subst hu; rw [show (row kids[i])[0]? = some d0 from e0] at hd; injection hd with hd; subst hd; exact l0
    | 1, hu, hd => injection hu with hu; subst hu; rw [show (row kids[i])[1]? = some d1 from e1] at hd; injection hd with hd; subst hd; exact l1
    | 2, hu, hd => injection hu with hu; subst hu; rw [show (row kids[i])[2]? = some d2 from e2] at hd; injection hd with hd; subst hd; exact l2
    | 3, hu, hd => injection hu with hu; subst hu; rw [show (row kids[i])[3]? = some d3 from e3] at hd; injection hd with hd; subst hd; exact l3
    | 4, hu, hd => injection hu with hu; subst hu; rw [show (row kids[i])[4]? = some d4 from e4] at hd; injection hd with hd; subst hd; exact l4
    | 5, hu, hd => injection hu with hu; subst hu; rw [show (row kids[i])[5]? = some d5 from e5] at hd; injection hd with hd; subst hd; exact l5
    | m + 6, hu, hd => simp at hu
/-- A tree's six cells. -/
theorem open_tree {w : World} {f : Nat} {vs : List Value} {k : Int} {fl : Bool} {n : Int} {s : ByteArray} {ks : List ByteArray} {kids : List T} (h : LiesS w f vs (row (.mk k fl n s ks kids))) :
    ∃ A1 c1 A2 c2, vs = [.int .i64 k, .bool fl, .int .i64 n, .string s, .slice A1 ks.length c1, .slice A2 kids.length c2] ∧ (Lit.int .i64 k).wf = true ∧ (Lit.int .i64 n).wf = true ∧ s.size ≤ maxLen ∧
      ks.length ≤ c1 ∧ c1 ≤ maxLen ∧ Rd w A1 ks.length (scells ks) ∧ (∀ x ∈ ks, x.size ≤ maxLen) ∧ kids.length ≤ c2 ∧ c2 ≤ maxLen ∧ ∃ f', f = f' + 1 ∧ KidsAt w f' A2 kids := by
  rw [row] at h
  obtain ⟨v0, _, rfl, l0, h⟩ := h.uncons
  obtain ⟨v1, _, rfl, l1, h⟩ := h.uncons
  obtain ⟨v2, _, rfl, l2, h⟩ := h.uncons
  obtain ⟨v3, _, rfl, l3, h⟩ := h.uncons
  obtain ⟨v4, _, rfl, l4, h⟩ := h.uncons
  obtain ⟨v5, _, rfl, l5, h⟩ := h.uncons
  obtain rfl := h.unnil
  obtain ⟨rfl, w0⟩ := l0.int
  obtain rfl := l1.bool
  obtain ⟨rfl, w2⟩ := l2.int
  obtain ⟨rfl, w3⟩ := l3.str
  obtain ⟨A1, c1, rfl, h1, h2, h3, h4⟩ := Rd.of_lies l4
  obtain ⟨A2, c2, rfl, h5, h6, h7⟩ := kids_of_lies l5
  exact ⟨A1, c1, A2, c2, rfl, w0, w2, w3, h1, h2, h3, h4, h5, h6, h7⟩
/-- A tree's six cells, owned. -/
theorem own_tree {w : World} {B f : Nat} {k : Int} {fl : Bool} {n : Int} {s : ByteArray} {ks : List ByteArray} {kids : List T} {v1 v2 : Value} {F1 F2 : List Nat} (hk : (Lit.int .i64 k).wf = true) (hn : (Lit.int .i64 n).wf = true) (hs : s.size ≤ maxLen)
    (h1 : Own w B (f + 1) v1 (.sl 1 ks.length (skeys ks)) F1) (h2 : Own w B (f + 1) v2 (.sl 6 kids.length (rows kids)) F2) (n1 : F1.Nodup) (n2 : F2.Nodup) (hd : ∀ x ∈ F1, x ∉ F2) :
    ∃ F, OwnS w B (f + 1) [.int .i64 k, .bool fl, .int .i64 n, .string s, v1, v2] (row (.mk k fl n s ks kids)) F ∧ F.Nodup ∧ (∀ x ∈ F, x ∈ F1 ∨ x ∈ F2) := by
  refine ⟨_, OwnS.cons (own_int hk) (OwnS.cons own_bool (OwnS.cons (own_int hn) (OwnS.cons (own_str hs) (OwnS.cons h1 (OwnS.cons h2 OwnS.nil))))), ?_, ?_⟩
  · simp only [List.nil_append, List.append_nil]
    exact List.nodup_append.2 ⟨n1, n2, fun a ha b hb e => hd a ha (by rw [e]; exact hb)⟩
  · simp only [List.nil_append, List.append_nil]
    intro x hx
    exact List.mem_append.1 hx
/-- And opened. -/
theorem owned_tree {w : World} {B f : Nat} {k : Int} {fl : Bool} {n : Int} {s : ByteArray} {ks : List ByteArray} {kids : List T} {vs : List Value} {F : List Nat} (h : OwnS w B f vs (row (.mk k fl n s ks kids)) F) (hnd : F.Nodup) :
    ∃ v1 v2 F1 F2, vs = [.int .i64 k, .bool fl, .int .i64 n, .string s, v1, v2] ∧ (Lit.int .i64 k).wf = true ∧ (Lit.int .i64 n).wf = true ∧ s.size ≤ maxLen ∧ Own w B f v1 (.sl 1 ks.length (skeys ks)) F1 ∧ Own w B f v2 (.sl 6 kids.length (rows kids)) F2 ∧
      F = F1 ++ F2 ∧ F1.Nodup ∧ F2.Nodup ∧ ∀ x ∈ F1, x ∉ F2 := by
  rw [row] at h
  obtain ⟨v0, _, G0, _, rfl, rfl, l0, h⟩ := h.uncons
  obtain ⟨v1, _, G1, _, rfl, rfl, l1, h⟩ := h.uncons
  obtain ⟨v2, _, G2, _, rfl, rfl, l2, h⟩ := h.uncons
  obtain ⟨v3, _, G3, _, rfl, rfl, l3, h⟩ := h.uncons
  obtain ⟨v4, _, G4, _, rfl, rfl, l4, h⟩ := h.uncons
  obtain ⟨v5, _, G5, _, rfl, rfl, l5, h⟩ := h.uncons
  obtain ⟨rfl, rfl⟩ := h.unnil
  obtain rfl := l0.flat trivial
  obtain rfl := l1.flat trivial
  obtain rfl := l2.flat trivial
  obtain rfl := l3.flat trivial
  obtain ⟨rfl, w0⟩ := l0.lies.int
  obtain rfl := l1.lies.bool
  obtain ⟨rfl, w2⟩ := l2.lies.int
  obtain ⟨rfl, w3⟩ := l3.lies.str
  simp only [List.nil_append, List.append_nil] at hnd ⊢
  obtain ⟨n1, n2, n3⟩ := List.nodup_append.1 hnd
  exact ⟨v4, v5, G4, G5, rfl, w0, w2, w3, l4, l5, rfl, n1, n2, fun x hx hy => n3 x hx x hy rfl⟩
end Go.Proofs.Ytmldigfghiofkaa.tree
