/- Drawn lists of requirements: what is known of them. -/
import Derived.Test.YtjcfaepklakpkaaGreatDoorDrawNd
import Derived.Test.YtjcfaepklakpkaaGreatDoorGNeedP
namespace Go.Proofs.YtjcfaepklakpkaaGreatDoor
open Go Go.RowKit
/-- An owned slice is a row of some element type. -/
theorem row_of_own {w : World} {B f size n : Nat} {v : Value} {cells : List C} {F : List Nat} (t0 : TypeId) (h : Own w B (f + 1) v (.sl size n cells) F) (hn : F.Nodup) : ∃ e, OwnRow w B f e size v n cells := by
  obtain ⟨hl, ⟨rfl, h0, rfl⟩ | ⟨g, c, cur, e, Fs, rfl, h1, h2, h3, h4, hz, rfl, h5, h6⟩⟩ := h
  · subst h0
    have : cells = [] := List.eq_nil_of_length_eq_zero (by simpa using hl)
    subst this
    exact ⟨t0, OwnRow.nil w B f t0 size⟩
  · have hle : n * size ≤ c * size := Nat.mul_le_mul_right _ h1
    have hlen : (cur.toList.take (n * size)).length = n * size := by
      rw [List.length_take, Array.length_toList]
      omega
    obtain ⟨n1, n2⟩ := List.nodup_cons.1 hn
    refine ⟨e, cur.toList.take (n * size), Fs.flatten, ⟨hlen, .inr ⟨g, c, cur, rfl, h3, h4, h1, h2, hz, rfl⟩⟩, hl, ⟨by rw [hlen, hl], Fs, h5, rfl, fun m u d Fm hu hd hF => ?_⟩, n2, fun x hx e => ?_⟩
    · obtain ⟨u', hu', ho⟩ := h6 m d Fm hd hF
      have hm : m < n * size := by rw [← hl]; exact (List.getElem?_eq_some_iff.1 hd).1
      rw [List.getElem?_take_of_lt hm, Array.getElem?_toList, hu'] at hu
      injection hu with hu
      exact hu ▸ ho
    · simp only [Value.ownBlock, Option.some.injEq] at e
      exact n1 (e ▸ hx)
end Go.Proofs.YtjcfaepklakpkaaGreatDoor
namespace Go.Proofs.YtjcfaepklakpkaaGreatDoor.draw
open Go.ChangeShapes Go.WideShapes Go.ChangeAt Go.RowKit ty lab need dedup
set_option linter.unusedVariables false

theorem own_curN {w w' : World} {c B f : Nat} {v : Value} {d : C} {F : List Nat} (h : Own w B f v d F) (hB : c < B) (hg : w.grownBy w' (some c)) : Own w' B f v d F :=
  h.kept fun x hx => hg.block x (h.range x hx).2 (fun e => by have := (h.range x hx).1; injection e with e; omega)
/-- A list of requirements of the call's own is handed back. -/
def GotNL (P : List Need → Prop) (c : Nat) (A : Option Addr) (len cap : Nat) (z : Nat → Int) (w : World) (e : Ending) (w' : World) : Prop :=
  ∃ (l : List Need) (v : Value) (f : Nat) (F : List Nat), P l ∧ e = .returned v ∧ Own w' w.heap.size (f + 1) v (.sl 3 l.length (l.flatMap Need.row)) F ∧ F.Nodup ∧ Cur w' c A len cap z ∧ w.grownBy w' (some c)
/-- What stands beside the cursor while a list grows. -/
structure StN (w : World) (c : Nat) (A : Option Addr) (len cap : Nat) (z : Nat → Int) (v : Value) (l : List Need) (f : Nat) (F : List Nat) (a : World) : Prop where
  cur : Cur a c A len cap z
  grown : w.grownBy a (some c)
  own : Own a w.heap.size (f + 1) v (.sl 3 l.length (l.flatMap Need.row)) F
  nd : F.Nodup
theorem StN.turn {w a b : World} {c : Nat} {A : Option Addr} {len cap : Nat} {z : Nat → Int} {v : Value} {l : List Need} {f : Nat} {F : List Nat} (h : StN w c A len cap z v l f F a) (hcw : c < w.heap.size) (hc : Cur b c A len cap z) (hg : a.grownBy b (some c)) : StN w c A len cap z v l f F b :=
  ⟨hc, grown_trans h.grown hg, own_curN h.own hcw hg, h.nd⟩
theorem StN.below {w a b : World} {c : Nat} {A : Option Addr} {len cap : Nat} {z : Nat → Int} {v : Value} {l : List Need} {f : Nat} {F : List Nat} (h : StN w c A len cap z v l f F a) (hcw : c < w.heap.size) (hb : Below a.heap.size a b) : StN w c A len cap z v l f F b :=
  ⟨h.cur.below (hb.mono h.grown.size) hcw, grown_below h.grown (hb.mono h.grown.size), h.own.below hb, h.nd⟩
theorem StN.got {w a : World} {c : Nat} {A : Option Addr} {len cap : Nat} {z : Nat → Int} {v : Value} {l : List Need} {f : Nat} {F : List Nat} {P : List Need → Prop} (h : StN w c A len cap z v l f F a) (hP : P l) : GotNL P c A len cap z w (.returned v) a :=
  ⟨l, v, f, F, hP, rfl, h.own, h.nd, h.cur, h.grown⟩
def TinyL (m q : Nat) (l : List Need) : Prop := l.length ≤ m ∧ ∀ x ∈ l, TinyN q x
theorem TinyL.snoc {m q : Nat} {l : List Need} {x : Need} (h : TinyL m q l) (hx : TinyN q x) : TinyL (m + 1) q (l ++ [x]) := ⟨by have := h.1; simp; omega, fun y hy => by
  rcases List.mem_append.1 hy with hy | hy
  · exact h.2 y hy
  · rw [List.mem_singleton] at hy; subst hy; exact hx⟩
theorem TinyL.more {m q m' q' : Nat} {l : List Need} (h : TinyL m q l) (hm : m ≤ m') (hq : q ≤ q') : TinyL m' q' l := ⟨Nat.le_trans h.1 hm, fun x hx => (h.2 x hx).more hq⟩
theorem TinyL.wts {m q : Nat} {l : List Need} (h : TinyL m q l) (hm : m ≤ 100) (hq : q ≤ 100) : l.length + wsum Need.wt l ≤ 1048576 := by
  have h1 := tiny_wts l h.2
  have h2 := h.1
  have h3 : (10 + 6 * q) * l.length ≤ 610 * 100 := Nat.mul_le_mul (by omega) (by omega)
  omega
theorem tiny_sorted {m q : Nat} {l : List Need} (h : TinyL m q l) (h2 : (sortN l).2 = true) : TinyL 4 q (sortN l).1 := by
  by_cases hc : l.length ≤ 40 ∧ FewN l l.length ∧ SelP (outN l)
  · rw [sortN_yes hc]
    exact ⟨hc.2.2.1, tiny_out h.2⟩
  · rw [sortN_no hc] at h2
    cases h2
theorem us3 {w : World} {B f : Nat} {us : List Value} {x : Need} {F : List Nat} (h : OwnS w B f us x.row F) : ∃ u0 u1 u2, us = [u0, u1, u2] := of_Need (by rw [h.1, Need.row_length])
end Go.Proofs.YtjcfaepklakpkaaGreatDoor.draw
