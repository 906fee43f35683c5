/- Merged: AppAny AnyAt DrawAny DrawSc. -/
import Derived.Test.YtegpcjkcejijpaaGreatDoorGTree
import Derived.Test.YtegpcjkcejijpaaGreatDoorGDr
import Derived.Test.YtegpcjkcejijpaaGreatDoorDrawLongA
import Derived.Test.YtegpcjkcejijpaaGreatDoorBigL
namespace Go.Proofs.YtegpcjkcejijpaaGreatDoor
open Go Go.RowKit
set_option linter.unusedVariables false

/-- A row in a new block, behind a drawn number. -/
theorem own_new {w : World} {base size n cap : Nat} {e : TypeId} {z : Array Value} {xs news : List Value} (h : (xs ++ news).length = n * size) (hz : z.size = size) (hb : base ≤ w.heap.size) (h1 : n ≤ cap) (h2 : cap ≤ maxLen) :
  (w.drew.alloc (.cells (xs.toArray ++ news.toArray ++ Builtin.zeroCells z (cap - n)) e)).ownsRow base e size (.slice (some ⟨w.heap.size, 0, none⟩) n cap) n (xs ++ news) := by
 refine ⟨h, .inr ⟨w.heap.size, cap, _, rfl, hb, heap_alloc_new w.drew _, h1, h2, ?_, ?_⟩⟩
 ·have e1 : (xs.toArray ++ news.toArray).size = n * size := by rw [← h]; simp
  rw [Array.size_append, e1, size_zeroCells, hz, ← Nat.add_mul]
  congr 1
  omega
 ·rw [Array.toList_append, Array.toList_append]
  show (((xs ++ news) ++ _).take (n * size)) = _
  rw [← h]
  exact List.take_left
theorem run_append_anyE {P : Program} (w : World) (base : Nat) (t ty e e0 : TypeId) (i : TypeInfo) (z : Value) (size bytes : Nat) (ht : P.underlying t = some (.slice e)) (hi : P.info? e = some i) (hz : i.zero = some z)
  (hsize : i.size = size) (hby : i.bytes = bytes) (hzs : z.cells.size = size) (hsz : 0 < size) (v : Value) (n : Nat) (xs : List Value) (hown : w.ownsRow base e0 size v n xs)
  (a : Addr) (m c : Nat) (news : List Value) (hl : news.length = m * size) (hnews : ∀ j u, news[j]? = some u → w.cell? (a.add j) = some u) (h1 : ∀ u ∈ news, u.oneCell' = true)
  (h63 : n + m ≤ maxLen) (hbytes : (n + m) * bytes ≤ 140737488355328) (hbase : base ≤ w.heap.size) :
  ∃ v' w' e1, (Builtin.append_ #[t, t] ty #[v, .slice (some a) m c]).run P w = .ok v' w' ∧ w'.ownsRow base e1 size v' (n + m) (xs ++ news) ∧ w.grownBy w' v.ownBlock ∧ (v'.ownBlock = v.ownBlock ∨ v'.ownBlock = some w.heap.size) := by
 have hsmall : n + m ≤ 9223372036854775807 := by simp only [maxLen] at h63; omega
 rcases hown.2 with ⟨rfl, rfl⟩ | ⟨g, cap, cur, rfl, hbg, hg, hnc, hcm, hcs, htake⟩
 ·obtain ⟨v', w', r0, r1, r2, _, r4⟩ := run_append_own_at (P := P) w base t ty e i z size bytes ht hi hz hsize hby hzs hsz _ 0 xs ⟨hown.1, .inl ⟨rfl, rfl⟩⟩ a m c news hl hnews h1 h63 hbytes hbase
  exact ⟨v', w', e, r0, r1, r2, r4⟩
 ·subst hsize
  subst hby
  have hlen : (xs ++ news).length = (n + m) * i.size := by rw [List.length_append, hown.1, hl, Nat.add_mul]
  by_cases hroom : n + m ≤ cap
  ·have hfit : n * i.size + news.length ≤ cur.size := by rw [hl, hcs, ← Nat.add_mul]; exact Nat.mul_le_mul_right _ hroom
   have hr : (Builtin.append_ #[t, t] ty #[.slice (some ⟨g, 0, none⟩) n cap, .slice (some a) m c]).run P w =
     .ok (.slice (some ⟨g, 0, none⟩) (n + m) cap) (w.setRow g (cur.toList.take (n * i.size) ++ news ++ cur.toList.drop (n * i.size + news.length)).toArray) := by
    have hf := run_firstCells_some (P := P) w i.size m a m c news hl hnews
    have hst := run_storeCells_at P g (n * i.size) e0 news 0 cur w hg (by simpa using hfit) h1
    simp only [Nat.add_zero] at hst
    simp [Builtin.append_, run_underlying ht, sizeOf, typeInfo, hi, Builtin.lenOf, hroom, hf, Addr.add_lit, hst]
   refine ⟨_, _, e0, hr, ⟨hlen, .inr ⟨g, cap, _, rfl, hbg, setRow_heap w g cur _ e0 _ hg, hroom, hcm, ?_, ?_⟩⟩, ⟨rfl, rfl, rfl, by simp, fun k _ hk => setRow_other w g k _ (fun h => hk (by simp [Value.ownBlock, h]))⟩, .inl rfl⟩
   ·simp only [List.size_toArray, List.length_append, List.length_take, List.length_drop, Array.length_toList]
    omega
   ·rw [htake, ← hlen]
    exact List.take_left
  ·have holds : ∀ j u, xs[j]? = some u → w.cell? ((⟨g, 0, none⟩ : Addr).add j) = some u := hown.cells (g := g) rfl
   have hr := run_append_grow (P := P) w t ty e i z ht hi hz ⟨g, 0, none⟩ n cap xs hown.1 holds a m c news hl hnews (by omega) (by omega) (growslice_fits (by omega) hbytes)
   exact ⟨_, _, e, hr, own_new hlen hzs hbase (grownCap_ge w (n + m) cap e) (grownCap_le_maxLen w (n + m) cap e h63), ⟨rfl, rfl, rfl, by simp, fun k hk _ => Below.heap_alloc w.drew _ k hk⟩, .inr rfl⟩
/-- As one step of a region that draws its order. -/
theorem step_append_anyE {P : Program} {ops : Array Oper} {o : Oper} {a : Act} {w : World} {K : Act → World → Prop} {Q : Exit → Act → World → Prop} {E : Prop}
  (hg : o.guard = none) (s x : Operand) (t : TypeId) (hop : o.op = Op.call { callee := Callee.builtin Builtin.append, args := #[s, x], argTypes := #[t, t] })
  (B : Nat) (e e0 : TypeId) (i : TypeInfo) (z : Value) (size bytes : Nat) (h1 : P.underlying t = some (.slice e)) (h2 : P.info? e = some i) (h3 : i.zero = some z) (h4 : i.size = size) (h5 : i.bytes = bytes) (h6 : z.cells.size = size) (h7 : 0 < size)
  (v : Value) (n : Nat) (xs : List Value) (hs : a.eval s = v) (hown : w.ownsRow B e0 size v n xs)
  (ad : Addr) (m c : Nat) (news : List Value) (hx : a.eval x = .slice (some ad) m c) (hn : news.length = m * size) (hc : ∀ j u, news[j]? = some u → w.cell? (ad.add j) = some u) (h1c : ∀ u ∈ news, u.oneCell' = true)
  (b1 : n + m ≤ maxLen) (b2 : (n + m) * bytes ≤ 140737488355328) (b3 : B ≤ w.heap.size)
  (hK : ∀ v' w' e1, w'.ownsRow B e1 size v' (n + m) (xs ++ news) → w.grownBy w' v.ownBlock → (v'.ownBlock = v.ownBlock ∨ v'.ownBlock = some w.heap.size) → K (a.put o.dst v') w') :
  if Region.wanted o (yielded ops a.tmps) = true then Oper.wp P o a w K Q else E := by
 have hw : Region.wanted o (yielded ops a.tmps) = true := by simp [Region.wanted, hg]
 rw [if_pos hw]
 obtain ⟨v', w', e1, hrun, r1, r2, r3⟩ := run_append_anyE (P := P) w B t o.type e e0 i z size bytes h1 h2 h3 h4 h5 h6 h7 v n xs hown ad m c news hn hc h1c b1 b2 b3
 unfold Oper.wp
 simp [execOp, hop, resolve, invoke, builtin, hs, hx, hrun, Result.andThen]
 exact hK v' w' e1 r1 r2 r3
end Go.Proofs.YtegpcjkcejijpaaGreatDoor
namespace Go.Proofs.YtegpcjkcejijpaaGreatDoor.tree
open Go.ChangeShapes Go.WideShapes Go.ChangeAt Go.RowKit draw
set_option linter.unusedVariables false

/-- Some tree of the call's own, right or not. -/
def GotA (c : Nat) (A : Option Addr) (len cap : Nat) (z : Nat → Int) (w : World) (e : Ending) (w' : World) : Prop :=
 ∃ t us f F, weight t ≤ 20000 ∧ e = .returned (.agg us.toArray) ∧ OwnS w' w.heap.size f us (row t) F ∧ F.Nodup ∧ Cur w' c A len cap z ∧ w.grownBy w' (some c)
abbrev zeroRow : Array Value := #[.int .i64 0, .bool false, .int .i64 0, .string ⟨#[]⟩, .slice none 0 0, .slice none 0 0]
theorem gota_set {c len cap f : Nat} {A : Option Addr} {z : Nat → Int} {w w2 : World} {t : T} {us : List Value} {F : List Nat} (hg : w.grownBy w2 (some c)) (hc : Cur w2 c A len cap z) (hcw : c < w.heap.size) (hw : weight t ≤ 20000) (ho : OwnS w2 (w.heap.size + 1) f us (row t) F) (hn : F.Nodup) :
  GotA c A len cap z w (.returned (.agg us.toArray)) (w2.setRow w.heap.size us.toArray) := by
 have hb := setRow_below (Below.refl w.heap.size w2) (Nat.le_refl _) us.toArray
 refine ⟨t, us, f, F, hw, rfl, (OwnS.kept (fun y hy => ?_) ho).lower (Nat.le_succ _), hn, hc.below hb hcw, grown_below hg hb⟩
 have h3 := (ho.range y hy).1
 simp only [World.setRow, Array.getElem?_modify]
 rw [if_neg (by omega)]
/-- The tree in its box g. -/
structure AnyAt (c : Nat) (A : Option Addr) (len cap : Nat) (z : Nat → Int) (w : World) (g b : Nat) (k : Int) (fl : Bool) (n : Int) (s : ByteArray) (ks : List ByteArray) (kids : List T) (v1 v2 : Value) (f : Nat) (F1 F2 : List Nat) (wr : World) : Prop where
 wt : weight (.mk k fl n s ks kids) ≤ b
 at_ : wr.heap[g]? = some (.cells #[.int .i64 k, .bool fl, .int .i64 n, .string s, v1, v2] 34 (0, 0))
 wk : (Lit.int .i64 k).wf = true
 wn : (Lit.int .i64 n).wf = true
 ws : s.size ≤ maxLen
 o1 : Own wr (w.heap.size + 1) (f + 1) v1 (.sl 1 ks.length (skeys ks)) F1
 o2 : Own wr (w.heap.size + 1) (f + 1) v2 (.sl 6 kids.length (rows kids)) F2
 n1 : F1.Nodup
 n2 : F2.Nodup
 dj : ∀ x ∈ F1, x ∉ F2
 g1 : ∀ x ∈ F1, x ≠ g
 g2 : ∀ x ∈ F2, x ≠ g
 cur : Cur wr c A len cap z
 gr : w.grownBy wr (some c)
 zr : wr.heap[w.heap.size]? = some (.cells zeroRow 34 (0, 0))
 hg : w.heap.size < g
 hc : c < w.heap.size
theorem AnyAt.moved {c len cap g b : Nat} {A : Option Addr} {z : Nat → Int} {w wr w2 : World} {k : Int} {fl : Bool} {n : Int} {s : ByteArray} {ks : List ByteArray} {kids : List T} {v1 v2 : Value} {f : Nat} {F1 F2 : List Nat} (h : AnyAt c A len cap z w g b k fl n s ks kids v1 v2 f F1 F2 wr)
  (hs : ∀ x, w.heap.size ≤ x → x < wr.heap.size → w2.heap[x]? = wr.heap[x]?) (hc : Cur w2 c A len cap z) (hg : w.grownBy w2 (some c)) : AnyAt c A len cap z w g b k fl n s ks kids v1 v2 f F1 F2 w2 :=
 { h with
   at_ := (hs g (by have := h.hg; omega) (heap_lt h.at_)).trans h.at_
   o1 := h.o1.kept fun x hx => hs x (by have := (h.o1.range x hx).1; omega) (h.o1.range x hx).2
   o2 := h.o2.kept fun x hx => hs x (by have := (h.o2.range x hx).1; omega) (h.o2.range x hx).2
   cur := hc
   gr := hg
   zr := (hs _ (Nat.le_refl _) (heap_lt h.zr)).trans h.zr }
theorem AnyAt.below {c len cap g b : Nat} {A : Option Addr} {z : Nat → Int} {w wr w2 : World} {k : Int} {fl : Bool} {n : Int} {s : ByteArray} {ks : List ByteArray} {kids : List T} {v1 v2 : Value} {f : Nat} {F1 F2 : List Nat} (h : AnyAt c A len cap z w g b k fl n s ks kids v1 v2 f F1 F2 wr)
  (hb : Below wr.heap.size wr w2) : AnyAt c A len cap z w g b k fl n s ks kids v1 v2 f F1 F2 w2 :=
 h.moved (fun x _ hx => hb.block x hx) (h.cur.below hb h.cur.lt) (grown_below h.gr (hb.mono h.gr.size))
theorem AnyAt.drew {c len cap g b : Nat} {A : Option Addr} {z : Nat → Int} {w wr w2 : World} {k : Int} {fl : Bool} {n : Int} {s : ByteArray} {ks : List ByteArray} {kids : List T} {v1 v2 : Value} {f : Nat} {F1 F2 : List Nat} (h : AnyAt c A len cap z w g b k fl n s ks kids v1 v2 f F1 F2 wr)
  (hc2 : Cur w2 c A len cap z) (hg : wr.grownBy w2 (some c)) : AnyAt c A len cap z w g b k fl n s ks kids v1 v2 f F1 F2 w2 :=
 h.moved (fun x h1 hx => hg.block x hx (fun e => by injection e with e; have := h.hc; omega)) hc2 (grown_trans h.gr hg)
theorem AnyAt.weaken {c len cap g b b' : Nat} {A : Option Addr} {z : Nat → Int} {w wr : World} {k : Int} {fl : Bool} {n : Int} {s : ByteArray} {ks : List ByteArray} {kids : List T} {v1 v2 : Value} {f : Nat} {F1 F2 : List Nat} (h : AnyAt c A len cap z w g b k fl n s ks kids v1 v2 f F1 F2 wr) (hb : b ≤ b') : AnyAt c A len cap z w g b' k fl n s ks kids v1 v2 f F1 F2 wr :=
 { h with wt := Nat.le_trans h.wt hb }
/-- Everything of it but the box stands behind a store into the box. -/
theorem AnyAt.cells {c len cap g b b' : Nat} {A : Option Addr} {z : Nat → Int} {w wr w2 : World} {k k' : Int} {fl : Bool} {n : Int} {s s' : ByteArray} {ks : List ByteArray} {kids : List T} {v1 v2 : Value} {f : Nat} {F1 F2 : List Nat} (h : AnyAt c A len cap z w g b k fl n s ks kids v1 v2 f F1 F2 wr)
  (hw : weight (.mk k' fl n s' ks kids) ≤ b') (hk : (Lit.int .i64 k').wf = true) (hs : s'.size ≤ maxLen) (hsame : ∀ x, x ≠ g → w2.heap[x]? = wr.heap[x]?) (hb : Below (w.heap.size + 1) wr w2)
  (hat : w2.heap[g]? = some (.cells #[.int .i64 k', .bool fl, .int .i64 n, .string s', v1, v2] 34 (0, 0))) : AnyAt c A len cap z w g b' k' fl n s' ks kids v1 v2 f F1 F2 w2 :=
 { h with
   wt := hw
   at_ := hat
   wk := hk
   ws := hs
   o1 := h.o1.kept fun x hx => hsame x (h.g1 x hx)
   o2 := h.o2.kept fun x hx => hsame x (h.g2 x hx)
   cur := h.cur.below hb (by have := h.hc; omega)
   gr := grown_below h.gr (hb.mono (by omega))
   zr := (hsame _ (by have := h.hg; omega)).trans h.zr }
theorem AnyAt.setk {c len cap g b : Nat} {A : Option Addr} {z : Nat → Int} {w wr : World} {k : Int} {fl : Bool} {n : Int} {s : ByteArray} {ks : List ByteArray} {kids : List T} {v1 v2 : Value} {f : Nat} {F1 F2 : List Nat} (h : AnyAt c A len cap z w g b k fl n s ks kids v1 v2 f F1 F2 wr) {k' : Int} (hk : (Lit.int .i64 k').wf = true) :
  AnyAt c A len cap z w g b k' fl n s ks kids v1 v2 f F1 F2 (wr.setCell ⟨g, 0, none⟩ (.int .i64 k')) :=
 h.cells (by have := h.wt; rw [weight] at this ⊢; exact this) hk h.ws (fun x hx => Below.heap_setCell _ _ _ _ hx) ((Below.refl _ _).setCell (by show w.heap.size + 1 ≤ g; have := h.hg; omega) _) (heap_setCell_same _ _ _ _ _ _ h.at_)
theorem AnyAt.sets {c len cap g b : Nat} {A : Option Addr} {z : Nat → Int} {w wr : World} {k : Int} {fl : Bool} {n : Int} {s : ByteArray} {ks : List ByteArray} {kids : List T} {v1 v2 : Value} {f : Nat} {F1 F2 : List Nat} (h : AnyAt c A len cap z w g b k fl n s ks kids v1 v2 f F1 F2 wr) {s' : ByteArray} (hs : s'.size ≤ 1000) :
  AnyAt c A len cap z w g (b + 1000) k fl n s' ks kids v1 v2 f F1 F2 (wr.setCell ⟨g, 3, none⟩ (.string s')) :=
 h.cells (by have := h.wt; rw [weight] at this ⊢; omega) h.wk (Nat.le_trans hs (by unfold maxLen; omega)) (fun x hx => Below.heap_setCell _ _ _ _ hx) ((Below.refl _ _).setCell (by show w.heap.size + 1 ≤ g; have := h.hg; omega) _) (heap_setCell_same _ _ _ _ _ _ h.at_)
theorem AnyAt.ends {c len cap g b : Nat} {A : Option Addr} {z : Nat → Int} {w wr : World} {k : Int} {fl : Bool} {n : Int} {s : ByteArray} {ks : List ByteArray} {kids : List T} {v1 v2 : Value} {f : Nat} {F1 F2 : List Nat} (h : AnyAt c A len cap z w g b k fl n s ks kids v1 v2 f F1 F2 wr) (hb : b ≤ 20000) :
  GotA c A len cap z w (.returned (.agg #[.int .i64 k, .bool fl, .int .i64 n, .string s, v1, v2])) (wr.setRow w.heap.size #[.int .i64 k, .bool fl, .int .i64 n, .string s, v1, v2]) := by
 obtain ⟨F, ho, hnd, _⟩ := own_tree (fl := fl) h.wk h.wn h.ws h.o1 h.o2 h.n1 h.n2 h.dj
 exact gota_set h.gr h.cur h.hc (Nat.le_trans h.wt hb) ho hnd
theorem AnyAt.one {c len cap g b : Nat} {A : Option Addr} {z : Nat → Int} {w wr : World} {k : Int} {fl : Bool} {n : Int} {s : ByteArray} {ks : List ByteArray} {kids : List T} {v1 v2 : Value} {f : Nat} {F1 F2 : List Nat} (h : AnyAt c A len cap z w g b k fl n s ks kids v1 v2 f F1 F2 wr) :
  (#[.int .i64 k, .bool fl, .int .i64 n, .string s, v1, v2] : Array Value).all (·.oneCell') = true := by
 have h1 := h.o1.one
 have h2 := h.o2.one
 simp [h1, h2]
 exact ⟨rfl, rfl, rfl, rfl⟩
/-- The box is written anew, with a tree of the call's own. -/
theorem AnyAt.of {c len cap g b f : Nat} {A : Option Addr} {z : Nat → Int} {w w2 : World} {t : T} {us : List Value} {old : Array Value} {F : List Nat} (ho : OwnS w2 (w.heap.size + 1) f us (row t) F) (hnd : F.Nodup) (hgF : ∀ x ∈ F, x ≠ g) (hw : weight t ≤ b) (hat : w2.heap[g]? = some (.cells us.toArray 34 (0, 0)))
  (hc : Cur w2 c A len cap z) (hgr : w.grownBy w2 (some c)) (hz : w2.heap[w.heap.size]? = some (.cells zeroRow 34 (0, 0))) (hg : w.heap.size < g) (hcw : c < w.heap.size) :
  ∃ k fl n s ks kids v1 v2 f' F1 F2, us = [.int .i64 k, .bool fl, .int .i64 n, .string s, v1, v2] ∧ AnyAt c A len cap z w g b k fl n s ks kids v1 v2 f' F1 F2 w2 := by
 obtain ⟨k, fl, n, s, ks, kids⟩ := t
 obtain ⟨v1, v2, F1, F2, rfl, h1, h2, h3, h4, h5, rfl, h7, h8, h9⟩ := owned_tree ho hnd
 refine ⟨k, fl, n, s, ks, kids, v1, v2, f, F1, F2, rfl, ⟨hw, hat, h1, h2, h3, h4.deeper (Nat.le_succ _), h5.deeper (Nat.le_succ _), h7, h8, h9, fun x hx => hgF x (List.mem_append_left _ hx), fun x hx => hgF x (List.mem_append_right _ hx), hc, hgr, hz, hg, hcw⟩⟩
/-- A key is put behind the others. -/
theorem AnyAt.setks {c len cap g b : Nat} {A : Option Addr} {z : Nat → Int} {w w8 w9 : World} {k : Int} {fl : Bool} {n : Int} {s : ByteArray} {ks : List ByteArray} {kids : List T} {v1 v2 v9 : Value} {f : Nat} {F1 F2 : List Nat} {e1 : TypeId} {x : ByteArray} (h : AnyAt c A len cap z w g b k fl n s ks kids v1 v2 f F1 F2 w8)
  (hF : v1.ownBlock = none ∧ F1 = [] ∨ ∃ y, v1.ownBlock = some y ∧ F1 = [y]) (hown : w9.ownsRow (w.heap.size + 1) e1 1 v9 (ks.length + 1) (scells ks ++ [.string x])) (hg : w8.grownBy w9 v1.ownBlock) (hat : v9.ownBlock = v1.ownBlock ∨ v9.ownBlock = some w8.heap.size) (hx : x.size ≤ 1000) :
  w9.heap[g]? = some (.cells #[.int .i64 k, .bool fl, .int .i64 n, .string s, v1, v2] 34 (0, 0)) ∧ ∃ F1', AnyAt c A len cap z w g (b + 1001) k fl n s (ks ++ [x]) kids v9 v2 (f + 1) F1' F2 (w9.setCell ⟨g, 4, none⟩ v9) := by
 have hne : ∀ y, v1.ownBlock = some y → y ∈ F1 := fun y hy => by
  rcases hF with ⟨h1, _⟩ | ⟨y', h1, h2⟩
  ·rw [h1] at hy; cases hy
  ·rw [h1] at hy; injection hy with hy; subst hy; rw [h2]; exact List.mem_singleton_self _
 have hks : ∀ y ∈ ks ++ [x], y.size ≤ maxLen := fun y hy => by
  obtain ⟨_, _, _, _, _, _, h7⟩ := Rd.of_lies h.o1.lies
  rcases List.mem_append.1 hy with hy | hy
  ·exact h7 y hy
  ·rw [List.mem_singleton] at hy; subst hy; exact Nat.le_trans hx (by unfold maxLen; omega)
 have hgl := heap_lt h.at_
 have hrow : w9.heap[g]? = some (.cells #[.int .i64 k, .bool fl, .int .i64 n, .string s, v1, v2] 34 (0, 0)) := (hg.block g hgl (fun e => h.g1 g (hne g e.symm) rfl)).trans h.at_
 have hown2 : w9.ownsRow (w.heap.size + 1) e1 1 v9 (ks ++ [x]).length (scells (ks ++ [x])) := by
  have e : scells (ks ++ [x]) = scells ks ++ [.string x] := by simp [scells]
  rw [e, List.length_append]
  exact hown
 have hv9 : ∀ y, v9.ownBlock = some y → y ∉ F2 ∧ y ≠ g := fun y hy => by
  rcases hat with e | e
  ·rw [e] at hy
   exact ⟨h.dj y (hne y hy), h.g1 y (hne y hy)⟩
  ·rw [e] at hy
   injection hy with hy
   subst hy
   exact ⟨fun hm => Nat.lt_irrefl _ (h.o2.range _ hm).2, by omega⟩
 obtain ⟨F1', hF1⟩ : ∃ F1' : List Nat, v9.ownBlock = none ∧ F1' = [] ∨ ∃ y, v9.ownBlock = some y ∧ F1' = [y] := by
  cases hv : v9.ownBlock with
  | none => exact ⟨[], .inl ⟨rfl, rfl⟩⟩
  | some y => exact ⟨[y], .inr ⟨y, rfl, rfl⟩⟩
 have hmem : ∀ y ∈ F1', v9.ownBlock = some y := fun y hy => by
  rcases hF1 with ⟨_, h2⟩ | ⟨y', h1, h2⟩
  ·rw [h2] at hy; cases hy
  ·rw [h2, List.mem_singleton] at hy; subst hy; exact h1
 have ho := own_strs_back (f := f) hown2 rfl hks hF1
 have hgw := h.hg
 have hsame : ∀ y, y ≠ g → (w9.setCell ⟨g, 4, none⟩ v9).heap[y]? = w9.heap[y]? := fun y hy => Below.heap_setCell _ _ _ _ hy
 have hb : Below (w.heap.size + 1) w8 (w9.setCell ⟨g, 4, none⟩ v9) := (((Below.refl _ _).grown hg (by have := heap_lt h.zr; omega) (fun y hy => (h.o1.range y (hne y hy)).1))).setCell (by show w.heap.size + 1 ≤ g; omega) _
 refine ⟨hrow, F1', ?_⟩
 exact
 { wt := by
     have h1 := h.wt
     rw [weight] at h1 ⊢
     rw [List.length_append, weightK_append]
     have e : weightK [x] = x.size := by simp [weightK]
     rw [e]
     simp only [List.length_singleton]
     omega
   at_ := heap_setCell_same _ _ _ _ _ _ hrow
   wk := h.wk
   wn := h.wn
   ws := h.ws
   o1 := ho.kept fun y hy => hsame y (hv9 y (hmem y hy)).2
   o2 := (h.o2.deeper (Nat.le_succ _)).kept fun y hy => (hsame y (h.g2 y hy)).trans (hg.block y (h.o2.range y hy).2 (fun e => h.dj y (hne y e.symm) hy))
   n1 := by
     rcases hF1 with ⟨_, h2⟩ | ⟨y', h1, h2⟩
     ·rw [h2]; exact List.nodup_nil
     ·rw [h2]; exact List.pairwise_singleton _ _
   n2 := h.n2
   dj := fun y hy => (hv9 y (hmem y hy)).1
   g1 := fun y hy => (hv9 y (hmem y hy)).2
   g2 := h.g2
   cur := h.cur.below hb (by have := h.hc; omega)
   gr := grown_below h.gr (hb.mono (by omega))
   zr := (hsame _ (by omega)).trans ((hg.block _ (heap_lt h.zr) (fun e => by have := (h.o1.range _ (hne _ e.symm)).1; omega)).trans h.zr)
   hg := h.hg
   hc := h.hc }
def AnyEx (c : Nat) (A : Option Addr) (len cap : Nat) (z : Nat → Int) (w : World) (g b : Nat) (wr : World) : Prop := ∃ k fl n s ks kids v1 v2 f F1 F2, AnyAt c A len cap z w g b k fl n s ks kids v1 v2 f F1 F2 wr
/-- What ListTree is asked with: the tree as the one cell of a new list. -/
theorem AnyAt.ask {c len cap g b : Nat} {A : Option Addr} {z : Nat → Int} {w wr : World} {k : Int} {fl : Bool} {n : Int} {s : ByteArray} {ks : List ByteArray} {kids : List T} {v1 v2 : Value} {f : Nat} {F1 F2 : List Nat} (h : AnyAt c A len cap z w g b k fl n s ks kids v1 v2 f F1 F2 wr) :
  Lies (wr.alloc (.cells #[.int .i64 k, .bool fl, .int .i64 n, .string s, v1, v2] 34)) (f + 1 + 1) (.slice (some ⟨wr.heap.size, 0, none⟩) 1 1) (.sl 6 1 (rows [.mk k fl n s ks kids])) := by
 obtain ⟨F, ho, hnd, hFF⟩ := own_tree (fl := fl) h.wk h.wn h.ws h.o1 h.o2 h.n1 h.n2 h.dj
 have hb : Below wr.heap.size wr (wr.alloc (.cells #[.int .i64 k, .bool fl, .int .i64 n, .string s, v1, v2] 34)) := (Below.refl _ _).alloc (Nat.le_refl _) _
 have hz := heap_lt h.zr
 obtain ⟨F', h1, _⟩ := OwnRow.own (w := wr.alloc (.cells #[.int .i64 k, .bool fl, .int .i64 n, .string s, v1, v2] 34)) (B := w.heap.size + 1) (f := f + 1) (e := 34) (size := 6) (n := 1) (cells := rows [.mk k fl n s ks kids])
  ⟨[.int .i64 k, .bool fl, .int .i64 n, .string s, v1, v2], F, World.ownsRow_lit wr #[.int .i64 k, .bool fl, .int .i64 n, .string s, v1, v2] 1 (by omega) (by simp [maxLen]) rfl, by rw [rows_length]; rfl, by simpa [rows] using ho.below hb, hnd, fun x hx e => by
   have h3 := (ho.range x hx).2
   have h4 : wr.heap.size = x := by simpa [Value.ownBlock] using e
   omega⟩
 exact h1.lies
/-- The box holds a list of what it held. -/
theorem AnyAt.list {c len cap g b : Nat} {A : Option Addr} {z : Nat → Int} {w wr w6 : World} {k : Int} {fl : Bool} {n : Int} {s : ByteArray} {ks : List ByteArray} {kids : List T} {v1 v2 : Value} {f f6 : Nat} {F1 F2 F6 : List Nat} {us : List Value} (h : AnyAt c A len cap z w g b k fl n s ks kids v1 v2 f F1 F2 wr)
  (hb : Below wr.heap.size wr w6) (ho : OwnS w6 wr.heap.size f6 us (row (listT [.mk k fl n s ks kids])) F6) (hn : F6.Nodup) : AnyEx c A len cap z w g (b + 1) (w6.setRow g us.toArray) := by
 have h6 := h.below hb
 have hgl := heap_lt h.at_
 have hb9 : Below g w6 (w6.setRow g us.toArray) := setRow_below (Below.refl g w6) (Nat.le_refl _) us.toArray
 have hgw := h.hg
 have hzl := heap_lt h.zr
 obtain ⟨k', fl', n', s', ks', kids', v1', v2', f', F1', F2', _, ha⟩ := AnyAt.of (c := c) (A := A) (len := len) (cap := cap) (z := z) (w := w) (g := g) (b := b + 1) (w2 := w6.setRow g us.toArray) (t := listT [.mk k fl n s ks kids]) (us := us) (old := #[])
  ((OwnS.kept (fun y hy => by
   have h3 := (ho.range y hy).1
   simp only [World.setRow, Array.getElem?_modify]
   rw [if_neg (by omega)]) ho).lower (by omega)) hn (fun x hx => by have := (ho.range x hx).1; omega) (by
   have h1 := h.wt
   unfold listT
   rw [weight]
   have e1 : weights [T.mk k fl n s ks kids] = weight (.mk k fl n s ks kids) := by simp [weights]
   have e2 : weightK [] = 0 := rfl
   have e3 : (⟨#[]⟩ : ByteArray).size = 0 := rfl
   rw [e1, e2, e3]
   simp only [List.length_nil, List.length_singleton]
   omega) (setRow_at h6.at_) (h6.cur.below hb9 (by have := h.hc; omega)) (grown_below h6.gr (hb9.mono (by omega))) ((hb9.block _ (by omega)).trans h6.zr) h.hg h.hc
 exact ⟨_, _, _, _, _, _, _, _, _, _, _, ha⟩
end Go.Proofs.YtegpcjkcejijpaaGreatDoor.tree
namespace Go.Proofs.YtegpcjkcejijpaaGreatDoor.tree
open Go.ChangeShapes Go.WideShapes Go.ChangeAt Go.RowKit draw
set_option linter.unusedVariables false

set_option maxRecDepth 1000000 in
set_option maxHeartbeats 16000000 in
theorem any_any (c : Nat) (A : Option Addr) (len cap : Nat) (z : Nat → Int) (w : World) (hc : Cur w c A len cap z) :
  Calls Tryz.prog 51 #[.pointer (some ⟨c, 0, none⟩)] w (GotA c A len cap z w) := by
 have hcw := hc.lt
 obtain ⟨w1, hw1⟩ : ∃ w1, w1 = w.alloc (.cells zeroRow 34) := ⟨_, rfl⟩
 have hz1 : w1.heap[w.heap.size]? = some (.cells zeroRow 34 (0, 0)) := by subst hw1; exact heap_alloc_new w _
 have hs1 : w1.heap.size = w.heap.size + 1 := by rw [hw1]; simp
 have HT := Lib.hid (tree_any c A len cap z w1 (by rw [hw1]; exact cur_alloc hc _))
 have Hz1 := Lib.hid hz1
 have Hg1 := Lib.hid (show w.grownBy w1 (some c) by rw [hw1]; exact grown_alloc _ _ _)
 have Hs1 := Lib.hid hs1
 have Hw1 := Lib.hid hw1
 have Hcw := Lib.hid hcw
 clear hc hcw hz1 hw1 hs1
 go_enter Tryz.func51, Tryz.ntmps51
 go_wp2_with fail
 rw [← Hw1.out]
 refine HT.out.mono ?_
 rintro e w2 ⟨t, us, f, F, good, rfl, ho, hn, hc2, hg2⟩
 obtain ⟨k, fl, n, s, ks, kids⟩ := t
 obtain ⟨v1, v2, F1, F2, rfl, wk, wn, ws, o1, o2, _, n1, n2, dj⟩ := owned_tree ho hn
 obtain ⟨w3, hw3⟩ : ∃ w3, w3 = w2.alloc (.cells #[.int .i64 k, .bool fl, .int .i64 n, .string s, v1, v2] 34) := ⟨_, rfl⟩
 have hb23 : Below w2.heap.size w2 w3 := by rw [hw3]; exact (Below.refl _ _).alloc (Nat.le_refl _) _
 have hz2 := kept_block hg2 Hcw.out Hz1.out
 have ha3 : AnyAt c A len cap z w w2.heap.size 9736 k fl n s ks kids v1 v2 f F1 F2 w3 :=
  { wt := good.light (by decide)
    at_ := by rw [hw3]; exact heap_alloc_new w2 _
    wk := wk
    wn := wn
    ws := ws
    o1 := by rw [← Hs1.out]; exact (o1.deeper (Nat.le_succ _)).below hb23
    o2 := by rw [← Hs1.out]; exact (o2.deeper (Nat.le_succ _)).below hb23
    n1 := n1
    n2 := n2
    dj := dj
    g1 := fun x hx => Nat.ne_of_lt (o1.range x hx).2
    g2 := fun x hx => Nat.ne_of_lt (o2.range x hx).2
    cur := hc2.below hb23 hc2.lt
    gr := grown_below (grown_trans Hg1.out hg2) (hb23.mono (by have := heap_lt hz2; omega))
    zr := heap_kept hb23 (heap_lt hz2) hz2
    hg := heap_lt hz2
    hc := Hcw.out }
 have hone := ha3.one
 have HA3 := Lib.hid ha3
 have Hw3 := Lib.hid hw3
 have H14 := Lib.hid (below_any c A len cap z 14 w3 ha3.cur (by decide) (by decide))
 clear HT good ho hn hc2 hg2 wk wn ws o1 o2 n1 n2 dj hb23 hz2 ha3 hw3 Hz1 Hg1 Hs1 Hw1
 go_wp2_with (first | (refine wpList_store_row rfl 34 _ _ rfl w2.heap.size #[.int .i64 k, .bool fl, .int .i64 n, .string s, v1, v2] rfl rfl 34 _ (heap_alloc_new w2 _) tree_size' rfl hone ?_; rw [World.setRow_alloc_new]) | fail)
 rw [← Hw3.out]
 refine H14.out.mono ?_
 rintro e w4 ⟨x, hx, rfl, hc4, hg4⟩
 have HA := Lib.hid (HA3.out.drew hc4 hg4)
 clear H14 HA3 hc4 hg4 Hw3 hone
 generalize w2.heap.size = g at HA
 have hxs : x = 0 ∨ x = 1 ∨ x = 2 ∨ x = 3 ∨ x = 4 ∨ 5 ≤ x := by omega
 clear hx
 obtain rfl | rfl | rfl | rfl | rfl | h5 := hxs
 ·have H8 := Lib.hid (below_any c A len cap z 8 w4 HA.out.cur (by decide) (by decide))
  go_wp2_with fail
  refine H8.out.mono ?_
  rintro e w5 ⟨y, hy, rfl, hc5, hg5⟩
  have HA5 := Lib.hid (HA.out.drew hc5 hg5)
  have HA6 := Lib.hid (HA5.out.setk (wf_small hy.1 (by omega)))
  have p0 : w5.cell? ⟨g, 0, none⟩ = some (.int .i64 k) := by rw [cell_of_row w5 g 0 _ _ _ HA5.out.at_]; rfl
  have f0 := frozen_of_row w5 g 0 _ _ HA5.out.at_
  have hat := HA6.out.at_
  have hzr := HA6.out.zr
  have hone := HA6.out.one
  clear H8 HA hc5 hg5 HA5
  go_wp2_with (first | (refine wpList_load_row rfl 34 _ rfl g rfl 34 #[.int .i64 y, .bool fl, .int .i64 n, .string s, v1, v2] (0, 0) _ hat Tryz.underlying34 rfl tree_size' ?_) | (refine wpList_store_row rfl 34 _ _ rfl w.heap.size #[.int .i64 y, .bool fl, .int .i64 n, .string s, v1, v2] rfl rfl 34 _ hzr tree_size' rfl hone ?_) | fail)
  refine bodyPost_ret (v := .agg #[.int .i64 y, .bool fl, .int .i64 n, .string s, v1, v2]) ?_ rfl (HA6.out.ends (by omega))
  exact ret_tree rfl rfl rfl (setRow_at HA6.out.zr)
 ·obtain ⟨i0, hi, hz0, hz1, hz2⟩ := info_parts TryzinfoStr'
  have hkl : ks.length ≤ 9736 := by have h := HA.out.wt; rw [weight] at h; omega
  have hbd : Below w4.heap.size w4 w4.drew := (Below.refl _ _).drew
  obtain ⟨wd, hwd⟩ : ∃ wd, wd = w4.drew := ⟨_, rfl⟩
  have hba : Below wd.heap.size wd (wd.alloc (.cells (scells [⟨#[97]⟩, ⟨#[255]⟩]).toArray 9)) := (Below.refl _ _).alloc (Nat.le_refl _) _
  have had : AnyAt c A len cap z w g 9736 k fl n s ks kids v1 v2 f F1 F2 wd := by rw [hwd]; exact HA.out.below hbd
  have HAa := Lib.hid (had.below hba)
  have HP := Lib.hid (pickS_any c A len cap z wd.heap.size 2 (.slice (some ⟨wd.heap.size, 0, none⟩) 2 2) [⟨#[97]⟩, ⟨#[255]⟩] _ (cur_alloc had.cur (.cells (scells [⟨#[97]⟩, ⟨#[255]⟩]).toArray 9)) (by decide) (by decide) rfl had.cur.lt (World.ownsRow_lit wd (scells [⟨#[97]⟩, ⟨#[255]⟩]).toArray 2 (Nat.le_refl _) (by simp [maxLen]) rfl))
  have pd : wd.cell? ⟨g, 4, none⟩ = some v1 := by rw [cell_of_row wd g 4 _ _ _ had.at_]; rfl
  have hra : (wd.alloc (.cells #[.string ⟨#[97]⟩, .string ⟨#[255]⟩] 9)).heap[g]? = some (.cells #[.int .i64 k, .bool fl, .int .i64 n, .string s, v1, v2] 34 (0, 0)) := HAa.out.at_
  have pa : (wd.alloc (.cells #[.string ⟨#[97]⟩, .string ⟨#[255]⟩] 9)).cell? ⟨g, 4, none⟩ = some v1 := by rw [cell_of_row _ g 4 _ _ _ hra]; rfl
  clear HA hbd hba had hra
  go_upto_region 6 with fail
  refine wp_region_any (by kernel_rfl) ?_
  change wpAny _ _ _ _ _ _ _ (World.drew w4)
  rw [← hwd]
  clear hwd
  -- way 1
  refine wpAny_take (i := 0) (v := ?_) rfl (by kernel_rfl) (by kernel_rfl) (by kernel_rfl) (fun _ _ _ h => h) (Or.inl ⟨by rfl, ?_⟩) ?_
  rotate_left
  ·intro w'
   go_simp
   try with_reducible rfl
  try simp only [Act.put, List.setIfInBounds_toArray, List.set_cons_zero, List.set_cons_succ, List.getElem_toArray, List.getElem_cons_zero, List.getElem_cons_succ]
  refine wpAny_take (i := 2) (v := ?_) rfl (by kernel_rfl) (by kernel_rfl) (by kernel_rfl) (fun _ _ _ h => h) (Or.inl ⟨by rfl, ?_⟩) ?_
  rotate_left
  ·intro w'
   go_simp
   try with_reducible rfl
  try simp only [Act.put, List.setIfInBounds_toArray, List.set_cons_zero, List.set_cons_succ, List.getElem_toArray, List.getElem_cons_zero, List.getElem_cons_succ]
  refine wpAny_ready (rs := [1, 3]) (by kernel_rfl) (by simp) ?_
  refine AllReady.cons rfl (fun K hK => ?_) ?_
  ·go_simp
   (refine hK _ _ ?_; clear hK K)
   try simp only [Act.put, List.setIfInBounds_toArray, List.set_cons_zero, List.set_cons_succ, List.getElem_toArray, List.getElem_cons_zero, List.getElem_cons_succ]
   refine wpAny_ready (rs := [3]) (by kernel_rfl) (by simp) ?_
   refine AllReady.cons rfl (fun K hK => ?_) ?_
   ·go_simp
    (refine hK _ _ ?_; clear hK K)
    try simp only [Act.put, List.setIfInBounds_toArray, List.set_cons_zero, List.set_cons_succ, List.getElem_toArray, List.getElem_cons_zero, List.getElem_cons_succ]
    refine wpAny_ready (rs := [4]) (by kernel_rfl) (by simp) ?_
    refine AllReady.cons rfl (fun K hK => ?_) ?_
    ·go_simp
     go_at_call 80
     refine HP.out.mono ?_
     rintro e w7 ⟨y, hy, rfl, hc7, hg7⟩
     have hys : y.size ≤ 1000 := by
      simp only [List.mem_cons, List.not_mem_nil, or_false] at hy
      rcases hy with rfl | rfl <;> decide
     have ha7 := HAa.out.drew hc7 hg7
     have HA8 := Lib.hid (ha7.below (show Below w7.heap.size w7 (w7.alloc (.cells #[.string y] 9)) from (Below.refl _ _).alloc (Nat.le_refl _) _))
     have p7 : w7.cell? ⟨g, 4, none⟩ = some v1 := by rw [cell_of_row w7 g 4 _ _ _ ha7.at_]; rfl
     have p8 : (w7.alloc (.cells #[.string y] 9)).cell? ⟨g, 4, none⟩ = some v1 := by rw [cell_of_row _ g 4 _ _ _ HA8.out.at_]; rfl
     have hge8 : w.heap.size + 1 ≤ (w7.alloc (.cells #[.string y] 9)).heap.size := heap_lt HA8.out.zr
     obtain ⟨e8, hown8, _, hF8⟩ := own_strs_row HA8.out.o1
     have HF8 := Lib.hid hF8
     clear hy hc7 hg7 ha7 hF8
     (refine hK _ _ ?_; clear hK K)
     try simp only [Act.put, List.setIfInBounds_toArray, List.set_cons_zero, List.set_cons_succ, List.getElem_toArray, List.getElem_cons_zero, List.getElem_cons_succ]
     refine wpAny_ready (rs := [5]) (by kernel_rfl) (by simp) ?_
     refine AllReady.cons rfl (fun K hK => ?_) ?_
     ·go_simp
      (refine hK _ _ ?_; clear hK K)
      try simp only [Act.put, List.setIfInBounds_toArray, List.set_cons_zero, List.set_cons_succ, List.getElem_toArray, List.getElem_cons_zero, List.getElem_cons_succ]
      refine wpAny_ready (rs := [6]) (by kernel_rfl) (by simp) ?_
      refine AllReady.cons rfl (fun K hK => ?_) ?_
      ·refine step_append_anyE rfl (.tmp 19) (.tmp 23) 31 rfl (w.heap.size + 1) 9 e8 i0 _ 1 16 Tryz.underlying31 hi hz0 hz1 hz2 rfl (by decide) _ ks.length (scells ks) rfl hown8 ⟨w7.heap.size, 0, none⟩ 1 1 [.string y] rfl rfl (by exact lit_cells _ _ _) (by intro u hu; simp at hu; subst hu; rfl) (by unfold maxLen; omega) (by omega) hge8 ?_
       intro v9 w9 e9 hown9 hg9 hat9
       obtain ⟨A9, c9, rfl⟩ := own_is_slice hown9
       obtain ⟨hrow9, G1, ha9⟩ := HA8.out.setks HF8.out hown9 hg9 hat9 hys
       have p9 : w9.cell? ⟨g, 4, none⟩ = some v1 := by rw [cell_of_row w9 g 4 _ _ _ hrow9]; rfl
       have f9 := frozen_of_row w9 g 4 _ _ hrow9
       have HA9 := Lib.hid ha9
       clear hown9 hg9 hat9 ha9 hown8
       (refine hK _ _ ?_; clear hK K)
       try simp only [Act.put, List.setIfInBounds_toArray, List.set_cons_zero, List.set_cons_succ, List.getElem_toArray, List.getElem_cons_zero, List.getElem_cons_succ]
       refine wpAny_take (i := 7) (v := ?_) rfl (by kernel_rfl) (by kernel_rfl) (by kernel_rfl) (fun _ _ _ h => h) (Or.inl ⟨by rfl, ?_⟩) ?_
       rotate_left
       ·intro w'
        go_simp
        try with_reducible rfl
       try simp only [Act.put, List.setIfInBounds_toArray, List.set_cons_zero, List.set_cons_succ, List.getElem_toArray, List.getElem_cons_zero, List.getElem_cons_succ]
       refine wpAny_ready (rs := [8]) (by kernel_rfl) (by simp) ?_
       refine AllReady.cons rfl (fun K hK => ?_) ?_
       ·go_simp
        (refine hK _ _ ?_; clear hK K)
        try simp only [Act.put, List.setIfInBounds_toArray, List.set_cons_zero, List.set_cons_succ, List.getElem_toArray, List.getElem_cons_zero, List.getElem_cons_succ]
        refine wpAny_done (by kernel_rfl) ?_ _
        have hat := HA9.out.at_
        have hzr := HA9.out.zr
        have hone := HA9.out.one
        go_wp2_with (first | (refine wpList_load_row rfl 34 _ rfl g rfl 34 #[.int .i64 k, .bool fl, .int .i64 n, .string s, .slice A9 (ks.length + 1) c9, v2] (0, 0) _ hat Tryz.underlying34 rfl tree_size' ?_) | (refine wpList_store_row rfl 34 _ _ rfl w.heap.size #[.int .i64 k, .bool fl, .int .i64 n, .string s, .slice A9 (ks.length + 1) c9, v2] rfl rfl 34 _ hzr tree_size' rfl hone ?_) | fail)
        refine bodyPost_ret (v := .agg #[.int .i64 k, .bool fl, .int .i64 n, .string s, .slice A9 (ks.length + 1) c9, v2]) ?_ rfl (HA9.out.ends (by omega))
        exact ret_tree rfl rfl rfl (setRow_at HA9.out.zr)
       exact AllReady.nil
      exact AllReady.nil
     exact AllReady.nil
    exact AllReady.nil
   exact AllReady.nil
  refine AllReady.cons rfl (fun K hK => ?_) ?_
  ·go_simp
   (refine hK _ _ ?_; clear hK K)
   try simp only [Act.put, List.setIfInBounds_toArray, List.set_cons_zero, List.set_cons_succ, List.getElem_toArray, List.getElem_cons_zero, List.getElem_cons_succ]
   refine wpAny_ready (rs := [1, 4]) (by kernel_rfl) (by simp) ?_
   refine AllReady.cons rfl (fun K hK => ?_) ?_
   ·go_simp
    (refine hK _ _ ?_; clear hK K)
    try simp only [Act.put, List.setIfInBounds_toArray, List.set_cons_zero, List.set_cons_succ, List.getElem_toArray, List.getElem_cons_zero, List.getElem_cons_succ]
    refine wpAny_ready (rs := [4]) (by kernel_rfl) (by simp) ?_
    refine AllReady.cons rfl (fun K hK => ?_) ?_
    ·go_simp
     go_at_call 80
     refine HP.out.mono ?_
     rintro e w7 ⟨y, hy, rfl, hc7, hg7⟩
     have hys : y.size ≤ 1000 := by
      simp only [List.mem_cons, List.not_mem_nil, or_false] at hy
      rcases hy with rfl | rfl <;> decide
     have ha7 := HAa.out.drew hc7 hg7
     have HA8 := Lib.hid (ha7.below (show Below w7.heap.size w7 (w7.alloc (.cells #[.string y] 9)) from (Below.refl _ _).alloc (Nat.le_refl _) _))
     have p7 : w7.cell? ⟨g, 4, none⟩ = some v1 := by rw [cell_of_row w7 g 4 _ _ _ ha7.at_]; rfl
     have p8 : (w7.alloc (.cells #[.string y] 9)).cell? ⟨g, 4, none⟩ = some v1 := by rw [cell_of_row _ g 4 _ _ _ HA8.out.at_]; rfl
     have hge8 : w.heap.size + 1 ≤ (w7.alloc (.cells #[.string y] 9)).heap.size := heap_lt HA8.out.zr
     obtain ⟨e8, hown8, _, hF8⟩ := own_strs_row HA8.out.o1
     have HF8 := Lib.hid hF8
     clear hy hc7 hg7 ha7 hF8
     (refine hK _ _ ?_; clear hK K)
     try simp only [Act.put, List.setIfInBounds_toArray, List.set_cons_zero, List.set_cons_succ, List.getElem_toArray, List.getElem_cons_zero, List.getElem_cons_succ]
     refine wpAny_ready (rs := [5]) (by kernel_rfl) (by simp) ?_
     refine AllReady.cons rfl (fun K hK => ?_) ?_
     ·go_simp
      (refine hK _ _ ?_; clear hK K)
      try simp only [Act.put, List.setIfInBounds_toArray, List.set_cons_zero, List.set_cons_succ, List.getElem_toArray, List.getElem_cons_zero, List.getElem_cons_succ]
      refine wpAny_ready (rs := [6]) (by kernel_rfl) (by simp) ?_
      refine AllReady.cons rfl (fun K hK => ?_) ?_
      ·refine step_append_anyE rfl (.tmp 19) (.tmp 23) 31 rfl (w.heap.size + 1) 9 e8 i0 _ 1 16 Tryz.underlying31 hi hz0 hz1 hz2 rfl (by decide) _ ks.length (scells ks) rfl hown8 ⟨w7.heap.size, 0, none⟩ 1 1 [.string y] rfl rfl (by exact lit_cells _ _ _) (by intro u hu; simp at hu; subst hu; rfl) (by unfold maxLen; omega) (by omega) hge8 ?_
       intro v9 w9 e9 hown9 hg9 hat9
       obtain ⟨A9, c9, rfl⟩ := own_is_slice hown9
       obtain ⟨hrow9, G1, ha9⟩ := HA8.out.setks HF8.out hown9 hg9 hat9 hys
       have p9 : w9.cell? ⟨g, 4, none⟩ = some v1 := by rw [cell_of_row w9 g 4 _ _ _ hrow9]; rfl
       have f9 := frozen_of_row w9 g 4 _ _ hrow9
       have HA9 := Lib.hid ha9
       clear hown9 hg9 hat9 ha9 hown8
       (refine hK _ _ ?_; clear hK K)
       try simp only [Act.put, List.setIfInBounds_toArray, List.set_cons_zero, List.set_cons_succ, List.getElem_toArray, List.getElem_cons_zero, List.getElem_cons_succ]
       refine wpAny_take (i := 7) (v := ?_) rfl (by kernel_rfl) (by kernel_rfl) (by kernel_rfl) (fun _ _ _ h => h) (Or.inl ⟨by rfl, ?_⟩) ?_
       rotate_left
       ·intro w'
        go_simp
        try with_reducible rfl
       try simp only [Act.put, List.setIfInBounds_toArray, List.set_cons_zero, List.set_cons_succ, List.getElem_toArray, List.getElem_cons_zero, List.getElem_cons_succ]
       refine wpAny_ready (rs := [8]) (by kernel_rfl) (by simp) ?_
       refine AllReady.cons rfl (fun K hK => ?_) ?_
       ·go_simp
        (refine hK _ _ ?_; clear hK K)
        try simp only [Act.put, List.setIfInBounds_toArray, List.set_cons_zero, List.set_cons_succ, List.getElem_toArray, List.getElem_cons_zero, List.getElem_cons_succ]
        refine wpAny_done (by kernel_rfl) ?_ _
        have hat := HA9.out.at_
        have hzr := HA9.out.zr
        have hone := HA9.out.one
        go_wp2_with (first | (refine wpList_load_row rfl 34 _ rfl g rfl 34 #[.int .i64 k, .bool fl, .int .i64 n, .string s, .slice A9 (ks.length + 1) c9, v2] (0, 0) _ hat Tryz.underlying34 rfl tree_size' ?_) | (refine wpList_store_row rfl 34 _ _ rfl w.heap.size #[.int .i64 k, .bool fl, .int .i64 n, .string s, .slice A9 (ks.length + 1) c9, v2] rfl rfl 34 _ hzr tree_size' rfl hone ?_) | fail)
        refine bodyPost_ret (v := .agg #[.int .i64 k, .bool fl, .int .i64 n, .string s, .slice A9 (ks.length + 1) c9, v2]) ?_ rfl (HA9.out.ends (by omega))
        exact ret_tree rfl rfl rfl (setRow_at HA9.out.zr)
       exact AllReady.nil
      exact AllReady.nil
     exact AllReady.nil
    exact AllReady.nil
   refine AllReady.cons rfl (fun K hK => ?_) ?_
   ·go_simp
    go_at_call 80
    refine HP.out.mono ?_
    rintro e w7 ⟨y, hy, rfl, hc7, hg7⟩
    have hys : y.size ≤ 1000 := by
     simp only [List.mem_cons, List.not_mem_nil, or_false] at hy
     rcases hy with rfl | rfl <;> decide
    have ha7 := HAa.out.drew hc7 hg7
    have HA8 := Lib.hid (ha7.below (show Below w7.heap.size w7 (w7.alloc (.cells #[.string y] 9)) from (Below.refl _ _).alloc (Nat.le_refl _) _))
    have p7 : w7.cell? ⟨g, 4, none⟩ = some v1 := by rw [cell_of_row w7 g 4 _ _ _ ha7.at_]; rfl
    have p8 : (w7.alloc (.cells #[.string y] 9)).cell? ⟨g, 4, none⟩ = some v1 := by rw [cell_of_row _ g 4 _ _ _ HA8.out.at_]; rfl
    have hge8 : w.heap.size + 1 ≤ (w7.alloc (.cells #[.string y] 9)).heap.size := heap_lt HA8.out.zr
    obtain ⟨e8, hown8, _, hF8⟩ := own_strs_row HA8.out.o1
    have HF8 := Lib.hid hF8
    clear hy hc7 hg7 ha7 hF8
    (refine hK _ _ ?_; clear hK K)
    try simp only [Act.put, List.setIfInBounds_toArray, List.set_cons_zero, List.set_cons_succ, List.getElem_toArray, List.getElem_cons_zero, List.getElem_cons_succ]
    refine wpAny_ready (rs := [1, 5]) (by kernel_rfl) (by simp) ?_
    refine AllReady.cons rfl (fun K hK => ?_) ?_
    ·go_simp
     (refine hK _ _ ?_; clear hK K)
     try simp only [Act.put, List.setIfInBounds_toArray, List.set_cons_zero, List.set_cons_succ, List.getElem_toArray, List.getElem_cons_zero, List.getElem_cons_succ]
     refine wpAny_ready (rs := [5]) (by kernel_rfl) (by simp) ?_
     refine AllReady.cons rfl (fun K hK => ?_) ?_
     ·go_simp
      (refine hK _ _ ?_; clear hK K)
      try simp only [Act.put, List.setIfInBounds_toArray, List.set_cons_zero, List.set_cons_succ, List.getElem_toArray, List.getElem_cons_zero, List.getElem_cons_succ]
      refine wpAny_ready (rs := [6]) (by kernel_rfl) (by simp) ?_
      refine AllReady.cons rfl (fun K hK => ?_) ?_
      ·refine step_append_anyE rfl (.tmp 19) (.tmp 23) 31 rfl (w.heap.size + 1) 9 e8 i0 _ 1 16 Tryz.underlying31 hi hz0 hz1 hz2 rfl (by decide) _ ks.length (scells ks) rfl hown8 ⟨w7.heap.size, 0, none⟩ 1 1 [.string y] rfl rfl (by exact lit_cells _ _ _) (by intro u hu; simp at hu; subst hu; rfl) (by unfold maxLen; omega) (by omega) hge8 ?_
       intro v9 w9 e9 hown9 hg9 hat9
       obtain ⟨A9, c9, rfl⟩ := own_is_slice hown9
       obtain ⟨hrow9, G1, ha9⟩ := HA8.out.setks HF8.out hown9 hg9 hat9 hys
       have p9 : w9.cell? ⟨g, 4, none⟩ = some v1 := by rw [cell_of_row w9 g 4 _ _ _ hrow9]; rfl
       have f9 := frozen_of_row w9 g 4 _ _ hrow9
       have HA9 := Lib.hid ha9
       clear hown9 hg9 hat9 ha9 hown8
       (refine hK _ _ ?_; clear hK K)
       try simp only [Act.put, List.setIfInBounds_toArray, List.set_cons_zero, List.set_cons_succ, List.getElem_toArray, List.getElem_cons_zero, List.getElem_cons_succ]
       refine wpAny_take (i := 7) (v := ?_) rfl (by kernel_rfl) (by kernel_rfl) (by kernel_rfl) (fun _ _ _ h => h) (Or.inl ⟨by rfl, ?_⟩) ?_
       rotate_left
       ·intro w'
        go_simp
        try with_reducible rfl
       try simp only [Act.put, List.setIfInBounds_toArray, List.set_cons_zero, List.set_cons_succ, List.getElem_toArray, List.getElem_cons_zero, List.getElem_cons_succ]
       refine wpAny_ready (rs := [8]) (by kernel_rfl) (by simp) ?_
       refine AllReady.cons rfl (fun K hK => ?_) ?_
       ·go_simp
        (refine hK _ _ ?_; clear hK K)
        try simp only [Act.put, List.setIfInBounds_toArray, List.set_cons_zero, List.set_cons_succ, List.getElem_toArray, List.getElem_cons_zero, List.getElem_cons_succ]
        refine wpAny_done (by kernel_rfl) ?_ _
        have hat := HA9.out.at_
        have hzr := HA9.out.zr
        have hone := HA9.out.one
        go_wp2_with (first | (refine wpList_load_row rfl 34 _ rfl g rfl 34 #[.int .i64 k, .bool fl, .int .i64 n, .string s, .slice A9 (ks.length + 1) c9, v2] (0, 0) _ hat Tryz.underlying34 rfl tree_size' ?_) | (refine wpList_store_row rfl 34 _ _ rfl w.heap.size #[.int .i64 k, .bool fl, .int .i64 n, .string s, .slice A9 (ks.length + 1) c9, v2] rfl rfl 34 _ hzr tree_size' rfl hone ?_) | fail)
        refine bodyPost_ret (v := .agg #[.int .i64 k, .bool fl, .int .i64 n, .string s, .slice A9 (ks.length + 1) c9, v2]) ?_ rfl (HA9.out.ends (by omega))
        exact ret_tree rfl rfl rfl (setRow_at HA9.out.zr)
       exact AllReady.nil
      exact AllReady.nil
     exact AllReady.nil
    refine AllReady.cons rfl (fun K hK => ?_) ?_
    ·go_simp
     (refine hK _ _ ?_; clear hK K)
     try simp only [Act.put, List.setIfInBounds_toArray, List.set_cons_zero, List.set_cons_succ, List.getElem_toArray, List.getElem_cons_zero, List.getElem_cons_succ]
     refine wpAny_ready (rs := [1]) (by kernel_rfl) (by simp) ?_
     refine AllReady.cons rfl (fun K hK => ?_) ?_
     ·go_simp
      (refine hK _ _ ?_; clear hK K)
      try simp only [Act.put, List.setIfInBounds_toArray, List.set_cons_zero, List.set_cons_succ, List.getElem_toArray, List.getElem_cons_zero, List.getElem_cons_succ]
      refine wpAny_ready (rs := [6]) (by kernel_rfl) (by simp) ?_
      refine AllReady.cons rfl (fun K hK => ?_) ?_
      ·refine step_append_anyE rfl (.tmp 19) (.tmp 23) 31 rfl (w.heap.size + 1) 9 e8 i0 _ 1 16 Tryz.underlying31 hi hz0 hz1 hz2 rfl (by decide) _ ks.length (scells ks) rfl hown8 ⟨w7.heap.size, 0, none⟩ 1 1 [.string y] rfl rfl (by exact lit_cells _ _ _) (by intro u hu; simp at hu; subst hu; rfl) (by unfold maxLen; omega) (by omega) hge8 ?_
       intro v9 w9 e9 hown9 hg9 hat9
       obtain ⟨A9, c9, rfl⟩ := own_is_slice hown9
       obtain ⟨hrow9, G1, ha9⟩ := HA8.out.setks HF8.out hown9 hg9 hat9 hys
       have p9 : w9.cell? ⟨g, 4, none⟩ = some v1 := by rw [cell_of_row w9 g 4 _ _ _ hrow9]; rfl
       have f9 := frozen_of_row w9 g 4 _ _ hrow9
       have HA9 := Lib.hid ha9
       clear hown9 hg9 hat9 ha9 hown8
       (refine hK _ _ ?_; clear hK K)
       try simp only [Act.put, List.setIfInBounds_toArray, List.set_cons_zero, List.set_cons_succ, List.getElem_toArray, List.getElem_cons_zero, List.getElem_cons_succ]
       refine wpAny_take (i := 7) (v := ?_) rfl (by kernel_rfl) (by kernel_rfl) (by kernel_rfl) (fun _ _ _ h => h) (Or.inl ⟨by rfl, ?_⟩) ?_
       rotate_left
       ·intro w'
        go_simp
        try with_reducible rfl
       try simp only [Act.put, List.setIfInBounds_toArray, List.set_cons_zero, List.set_cons_succ, List.getElem_toArray, List.getElem_cons_zero, List.getElem_cons_succ]
       refine wpAny_ready (rs := [8]) (by kernel_rfl) (by simp) ?_
       refine AllReady.cons rfl (fun K hK => ?_) ?_
       ·go_simp
        (refine hK _ _ ?_; clear hK K)
        try simp only [Act.put, List.setIfInBounds_toArray, List.set_cons_zero, List.set_cons_succ, List.getElem_toArray, List.getElem_cons_zero, List.getElem_cons_succ]
        refine wpAny_done (by kernel_rfl) ?_ _
        have hat := HA9.out.at_
        have hzr := HA9.out.zr
        have hone := HA9.out.one
        go_wp2_with (first | (refine wpList_load_row rfl 34 _ rfl g rfl 34 #[.int .i64 k, .bool fl, .int .i64 n, .string s, .slice A9 (ks.length + 1) c9, v2] (0, 0) _ hat Tryz.underlying34 rfl tree_size' ?_) | (refine wpList_store_row rfl 34 _ _ rfl w.heap.size #[.int .i64 k, .bool fl, .int .i64 n, .string s, .slice A9 (ks.length + 1) c9, v2] rfl rfl 34 _ hzr tree_size' rfl hone ?_) | fail)
        refine bodyPost_ret (v := .agg #[.int .i64 k, .bool fl, .int .i64 n, .string s, .slice A9 (ks.length + 1) c9, v2]) ?_ rfl (HA9.out.ends (by omega))
        exact ret_tree rfl rfl rfl (setRow_at HA9.out.zr)
       exact AllReady.nil
      exact AllReady.nil
     exact AllReady.nil
    exact AllReady.nil
   exact AllReady.nil
  exact AllReady.nil
  -- end of way 1
 ·have HL1 := Lib.hid (fun w => long97_any 400 w (by omega))
  have HL2 := Lib.hid (fun w => long97_any 401 w (by omega))
  go_wp2_with fail
  refine (HL1.out _).mono ?_
  rintro e w5 ⟨t1, ht1, rfl, hb5⟩
  have HA5 := Lib.hid (HA.out.below hb5)
  clear HL1 HA hb5
  go_wp2_with fail
  refine (HL2.out _).mono ?_
  rintro e w6 ⟨t2, ht2, rfl, hb6⟩
  have HA6 := Lib.hid (HA5.out.below hb6)
  clear HL2 HA5 hb6
  have hba : Below w6.heap.size w6 (w6.alloc (.cells (scells [⟨#[97]⟩, ⟨#[255]⟩, t1, t2]).toArray 9)) := (Below.refl _ _).alloc (Nat.le_refl _) _
  have HP := Lib.hid (pickS_any c A len cap z w6.heap.size 4 (.slice (some ⟨w6.heap.size, 0, none⟩) 4 4) [⟨#[97]⟩, ⟨#[255]⟩, t1, t2] _ (cur_alloc HA6.out.cur (.cells (scells [⟨#[97]⟩, ⟨#[255]⟩, t1, t2]).toArray 9)) (by decide) (by decide) rfl HA6.out.cur.lt (World.ownsRow_lit w6 (scells [⟨#[97]⟩, ⟨#[255]⟩, t1, t2]).toArray 4 (Nat.le_refl _) (by simp [maxLen]) rfl))
  have HA6' := Lib.hid (HA6.out.below hba)
  clear hba HA6
  go_wp2_with fail
  refine HP.out.mono ?_
  rintro e w7 ⟨y, hy, rfl, hc7, hg7⟩
  have hys : y.size ≤ 1000 := by
   simp only [List.mem_cons, List.not_mem_nil, or_false] at hy
   rcases hy with rfl | rfl | rfl | rfl
   ·decide
   ·decide
   ·omega
   ·omega
  have HA7 := Lib.hid (HA6'.out.drew hc7 hg7)
  have HA8 := Lib.hid (HA7.out.sets hys)
  have p0 : w7.cell? ⟨g, 3, none⟩ = some (.string s) := by rw [cell_of_row w7 g 3 _ _ _ HA7.out.at_]; rfl
  have f0 := frozen_of_row w7 g 3 _ _ HA7.out.at_
  have hat := HA8.out.at_
  have hzr := HA8.out.zr
  have hone := HA8.out.one
  clear HP HA6' hc7 hg7 HA7 hy hys ht1 ht2
  go_wp2_with (first | (refine wpList_load_row rfl 34 _ rfl g rfl 34 #[.int .i64 k, .bool fl, .int .i64 n, .string y, v1, v2] (0, 0) _ hat Tryz.underlying34 rfl tree_size' ?_) | (refine wpList_store_row rfl 34 _ _ rfl w.heap.size #[.int .i64 k, .bool fl, .int .i64 n, .string y, v1, v2] rfl rfl 34 _ hzr tree_size' rfl hone ?_) | fail)
  refine bodyPost_ret (v := .agg #[.int .i64 k, .bool fl, .int .i64 n, .string y, v1, v2]) ?_ rfl (HA8.out.ends (by omega))
  exact ret_tree rfl rfl rfl (setRow_at HA8.out.zr)
 ·go_wp2_with fail
  go_loopg [4] 7 (fun gk s4 wr => ∃ (j : Nat), j ≤ 7 ∧ gk = 7 - j ∧ s4 = .int .i64 j ∧ Hid (AnyEx c A len cap z w g (9736 + j) wr))
  case atStart => exact ⟨0, by omega, rfl, rfl, k, fl, n, s, ks, kids, v1, v2, f, F1, F2, HA.out⟩
  case round =>
   clear HA
   obtain ⟨j, hj, rfl, rfl, hst⟩ := hrel
   obtain ⟨k8, fl8, n8, s8, ks8, kids8, y1, y2, f8, G1, G2, ha⟩ := hst.out
   have HB := Lib.hid (below_any c A len cap z 3 wr ha.cur (by decide) (by decide))
   have HA := Lib.hid ha
   clear hst ha
   go_wp2_with fail
   refine HB.out.mono ?_
   rintro e w5 ⟨x, hx, rfl, hc5, hg5⟩
   have ha5 := HA.out.drew hc5 hg5
   have HA5 := Lib.hid ha5
   have hat := ha5.at_
   have hzr := ha5.zr
   have hone := ha5.one
   clear HB HA hc5 hg5
   by_cases hlt : (j : Int) < 5 + x
   ·have hj7 : j + 1 ≤ 7 := by omega
    have hw8 : 1 + weights [T.mk k8 fl8 n8 s8 ks8 kids8] ≤ 1048576 := by
     have h1 := ha5.wt
     have e1 : weights [T.mk k8 fl8 n8 s8 ks8 kids8] = weight (.mk k8 fl8 n8 s8 ks8 kids8) := by simp [weights]
     rw [e1]; omega
    have HL := Lib.hid (spec_list [T.mk k8 fl8 n8 s8 ks8 kids8] (some ⟨w5.heap.size, 0, none⟩) 1 _ ha5.ask hw8)
    have hb6 : Below w5.heap.size w5 (w5.alloc (.cells #[.int .i64 k8, .bool fl8, .int .i64 n8, .string s8, y1, y2] 34)) := (Below.refl _ _).alloc (Nat.le_refl _) _
    have Hb6 := Lib.hid hb6
    have hs6 : w5.heap.size ≤ (w5.alloc (.cells #[.int .i64 k8, .bool fl8, .int .i64 n8, .string s8, y1, y2] 34)).heap.size := hb6.size
    have Hs6 := Lib.hid hs6
    clear hw8 hb6 hs6 ha5 hzr
    go_wp2_with (first | (refine wpList_load_row rfl 34 _ rfl g rfl 34 #[.int .i64 k8, .bool fl8, .int .i64 n8, .string s8, y1, y2] (0, 0) _ hat Tryz.underlying34 rfl tree_size' ?_) | fail)
    refine HL.out.mono ?_
    rintro e w7 ⟨⟨us, F7, rfl, ho7, hn7⟩, hb7⟩
    obtain ⟨x0, x1, x2, x3, x4, x5, rfl⟩ := six_of (ho7.1.trans (row_length _))
    have hb57 := below_link Hb6.out hb7 Hb6.out.size
    have hat7 := (HA5.out.below hb57).at_
    have hone7 := ho7.one
    have Hnext := Lib.hid (HA5.out.list hb57 (ho7.lower Hs6.out) hn7)
    clear HL hb7 ho7 hn7 hat hone HA5 Hb6 Hs6 hb57
    go_wp2_with (first | (refine wpList_store_row rfl 34 _ _ rfl g #[x0, x1, x2, x3, x4, x5] rfl rfl 34 _ hat7 tree_size' rfl hone7 ?_) | fail)
    go_roundg (7 - (j + 1))
    case measure => omega
    case rel => exact ⟨j + 1, hj7, rfl, by go_num, Hnext⟩
   ·clear ha5
    go_wp2_with (first | (refine wpList_load_row rfl 34 _ rfl g rfl 34 #[.int .i64 k8, .bool fl8, .int .i64 n8, .string s8, y1, y2] (0, 0) _ hat Tryz.underlying34 rfl tree_size' ?_) | (refine wpList_store_row rfl 34 _ _ rfl w.heap.size #[.int .i64 k8, .bool fl8, .int .i64 n8, .string s8, y1, y2] rfl rfl 34 _ hzr tree_size' rfl hone ?_) | fail)
    refine bodyPost_ret (v := .agg #[.int .i64 k8, .bool fl8, .int .i64 n8, .string s8, y1, y2]) ?_ rfl (HA5.out.ends (by omega))
    exact ret_tree rfl rfl rfl (setRow_at HA5.out.zr)
 ·obtain ⟨i1, hi', hy0, hy1, hy2⟩ := info_parts TryzinfoTree'
  have Hcw := Lib.hid HA.out.hc
  obtain ⟨w5, hw5⟩ : ∃ w5, w5 = w4.alloc (.cells #[] 34) := ⟨_, rfl⟩
  have Hst := Lib.hid (show ListSt 0 c A len cap z w 0 (.slice (some ⟨w4.heap.size, 0, none⟩) 0 0) w5 from ⟨[], 0, rfl, by simp, by
    subst hw5
    exact OwnRow.of_lit (World.ownsRow_lit (size := 6) (base := w.heap.size + 1) (e := 34) w4 #[] 0 (heap_lt HA.out.zr) (by simp [maxLen]) rfl), by subst hw5; exact cur_alloc HA.out.cur _, by subst hw5; exact grown_trans HA.out.gr (grown_alloc _ _ _), by subst hw5; rw [Below.heap_alloc _ _ _ (heap_lt HA.out.zr)]; exact HA.out.zr⟩)
  have Hw5 := Lib.hid hw5
  clear hw5
  go_wp2_with fail
  rw [← Hw5.out]
  go_loopg [5, 6] 300 (fun gk s5 s6 wr => ∃ (j : Nat), j ≤ 300 ∧ gk = 300 - j ∧ s6 = .int .i64 j ∧ Hid (ListSt 0 c A len cap z w j s5 wr))
  case atStart => exact ⟨0, by omega, rfl, rfl, Hst⟩
  case round =>
   clear Hst Hw5 HA
   obtain ⟨j, hj, rfl, rfl, hst⟩ := hrel
   have hcr : Cur wr c A len cap z := by obtain ⟨_, _, _, _, _, h, _⟩ := hst.out; exact h
   have HB := Lib.hid (below_any c A len cap z 3 wr hcr (by decide) (by decide))
   clear hcr
   go_wp2_with fail
   refine HB.out.mono ?_
   rintro e w6 ⟨x, hx, rfl, hc6, hg6⟩
   have Hst6 := Lib.hid (hst.out.drew Hcw.out hc6 hg6)
   have Hc6 := Lib.hid hc6
   clear HB hst hc6 hg6
   by_cases hlt : (j : Int) < 298 + x
   ·have hj3 : j + 1 ≤ 300 := by omega
    have hwj : (Lit.int .i64 (j : Int)).wf = true := by
     have e1 : IntKind.i64.min = -9223372036854775808 := rfl
     have e2 : IntKind.i64.max = 9223372036854775807 := rfl
     simp [Lit.wf, e1, e2]
     omega
    have HT := Lib.hid (spec_int (j : Int) w6 hwj)
    have hgood : Good 0 (intT (j : Int)) := Good.leaf (fit_leaf (by decide) (by decide) (by simp) (by simp) (by simp [ByteArray.size])) empty_word (by omega)
    have Hgood := Lib.hid hgood
    clear hgood hwj
    go_wp2_with fail
    refine HT.out.mono ?_
    rintro e w7 ⟨⟨f7, us, G, rfl, ho7, hn7⟩, hb7⟩
    obtain ⟨x0, x1, x2, x3, x4, x5, rfl⟩ := six_of (ho7.1.trans (row_length _))
    have hg7 : w6.grownBy w7 (some c) := grown_of_below hb7 (some c)
    have hc7 := Hc6.out.below hb7 Hc6.out.lt
    have hst6 := Hst6.out
    obtain ⟨kids, f4, k1, k2, ⟨xs, F, r1, r2, r3, r4, r5⟩, k4, k5, k6⟩ := hst6
    have hk5 : ∀ g, w.heap.size ≤ g → g < w6.heap.size → w7.heap[g]? = w6.heap[g]? := fun g h1 h2 => hb7.block g h2
    obtain ⟨B1, b1, rfl⟩ := own_is_slice r1
    have hvb := r1.lt
    have hown7 : w7.ownsRow (w.heap.size + 1) 34 6 (.slice B1 j b1) j xs := own_below' r1 hb7
    have Hsn := Lib.hid (show ∃ kids f F, kids.length = j ∧ (∀ x ∈ kids, Good 0 x) ∧ (rows kids).length = j * 6 ∧ OwnS w7 (w.heap.size + 1) f xs (rows kids) F ∧ F.Nodup ∧ (∀ x ∈ F, (Value.slice B1 j b1).ownBlock ≠ some x) ∧ (∀ x ∈ F, x < w6.heap.size) from
     ⟨kids, f4, F, k1, k2, by rw [rows_length, k1], OwnS.kept (fun y hy => hk5 y (by have := (r3.range y hy).1; omega) (r3.range y hy).2) r3, r4, r5, fun y hy => (r3.range y hy).2⟩)
    have Hvb := Lib.hid hvb
    have hz7 := kept_block hg7 Hcw.out k6
    have Hz7 := Lib.hid hz7
    have Hc7 := Lib.hid hc7
    have Hg7 := Lib.hid (grown_trans k5 hg7)
    have Ho7 := Lib.hid ho7
    have Hown7 := Lib.hid (own_below' hown7 (show Below w7.heap.size w7 (w7.alloc (.cells #[x0, x1, x2, x3, x4, x5] 34)) from (Below.refl _ _).alloc (Nat.le_refl _) _))
    have hone7 := ho7.ones
    have Hlow := Lib.hid (show w.heap.size + 1 ≤ w6.heap.size from heap_lt k6)
    have hlow7 : w.heap.size + 1 ≤ (w7.alloc (.cells #[x0, x1, x2, x3, x4, x5] 34)).heap.size := by have := heap_lt hz7; simp; omega
    clear ho7 hc7 hg7 k1 k2 r1 r2 r3 r4 r5 k4 k5 k6 hk5 hvb hown7 hz7 HT Hst6 hb7
    go_wp2_with (first | (at_builtin; refine wpList_append_at rfl (.tmp 56) (.tmp 59) 32 rfl (w.heap.size + 1) 34 i1 _ 6 88 Tryz.underlying32 hi' hy0 hy1 hy2 rfl (by decide) _ j xs rfl Hown7.out ⟨w7.heap.size, 0, none⟩ 1 1 [x0, x1, x2, x3, x4, x5] rfl rfl (by exact lit_cells _ _ _) hone7 (by unfold maxLen; omega) (by omega) hlow7 ?_) | fail)
    intro v8 w8 hown8 hg8 hat8
    have Hnext := Lib.hid (ListSt.snoc (f2 := f7) (B2 := w6.heap.size) Hcw.out Hsn.out (fun k hk => (Hvb.out k hk).2) Hlow.out Hc7.out Hg7.out Hz7.out Hgood.out Ho7.out hn7 (show Below w7.heap.size w7 (w7.alloc (.cells #[x0, x1, x2, x3, x4, x5] 34)) from (Below.refl _ _).alloc (Nat.le_refl _) _) hown8 (fun k hk => (Hvb.out k hk).1) hg8 (hat8.imp id (fun e => e.trans (by simp))))
    clear hown8 hg8 hat8
    go_wp2_with fail
    go_roundg (300 - (j + 1))
    case measure => omega
    case rel => exact ⟨j + 1, hj3, rfl, by go_num, Hnext⟩
   ·obtain ⟨kids, f4, rfl, k2, k3, k4, k5, k6⟩ := Hst6.out
    obtain ⟨xs, F, r1, r⟩ := k3
    obtain ⟨B1, b1, rfl⟩ := own_is_slice r1
    obtain ⟨F4, o4, n4, _⟩ := OwnRow.own ⟨xs, F, r1, r⟩
    have hwt : weights kids ≤ kids.length * 28 := weights_le (c := 28) (fun x hx => (k2 x hx).load)
    have hw4 : kids.length + weights kids ≤ 20000 := by omega
    have HL := Lib.hid (spec_list kids B1 b1 w6 o4.lies (by omega))
    have Hz4 := Lib.hid k6
    have Hc4 := Lib.hid k4
    have Hg4 := Lib.hid k5
    have Hwt : Hid (weight (listT kids) ≤ 20000) := by
     unfold Hid listT
     rw [weight]
     have e2 : weightK [] = 0 := rfl
     have e3 : (⟨#[]⟩ : ByteArray).size = 0 := rfl
     rw [e2, e3]
     simp only [List.length_nil]
     omega
    clear k2 k4 k5 k6 r1 r o4 n4 Hst6 hw4 hwt
    go_wp2_with fail
    refine HL.out.mono ?_
    clear HL
    rintro e w7 ⟨⟨us, F7, rfl, ho7, hn7⟩, hb7⟩
    obtain ⟨x0, x1, x2, x3, x4, x5, rfl⟩ := six_of (ho7.1.trans (row_length _))
    have hone := ho7.one
    have hz9 := heap_kept hb7 (heap_lt Hz4.out) Hz4.out
    have Hz9 := Lib.hid hz9
    have Hc7 := Lib.hid (Hc4.out.below hb7 Hc4.out.lt)
    have Hg7 := Lib.hid (grown_below Hg4.out (hb7.mono Hg4.out.size))
    have Ho7 := Lib.hid (ho7.lower (B' := w.heap.size + 1) (heap_lt Hz4.out))
    clear ho7 hb7
    go_wp2_with (first | (refine wpList_store_row rfl 34 _ _ rfl w.heap.size #[x0, x1, x2, x3, x4, x5] rfl rfl 34 _ hz9 tree_size' rfl hone ?_) | fail)
    refine bodyPost_ret (v := .agg #[x0, x1, x2, x3, x4, x5]) ?_ rfl (gota_set Hg7.out Hc7.out Hcw.out Hwt.out Ho7.out hn7)
    exact ret_tree rfl rfl rfl (setRow_at Hz9.out)
 ·have e0 : (x == 0) = false := beq_eq_false_iff_ne.2 (by omega)
  have e1 : (x == 1) = false := beq_eq_false_iff_ne.2 (by omega)
  have e2 : (x == 2) = false := beq_eq_false_iff_ne.2 (by omega)
  have e3 : (x == 3) = false := beq_eq_false_iff_ne.2 (by omega)
  have e4 : (x == 4) = false := beq_eq_false_iff_ne.2 (by omega)
  have hat := HA.out.at_
  have hzr := HA.out.zr
  have hone := HA.out.one
  clear h5
  go_wp2_with (first | (refine wpList_load_row rfl 34 _ rfl g rfl 34 #[.int .i64 k, .bool fl, .int .i64 n, .string s, v1, v2] (0, 0) _ hat Tryz.underlying34 rfl tree_size' ?_) | (refine wpList_store_row rfl 34 _ _ rfl w.heap.size #[.int .i64 k, .bool fl, .int .i64 n, .string s, v1, v2] rfl rfl 34 _ hzr tree_size' rfl hone ?_) | fail)
  refine bodyPost_ret (v := .agg #[.int .i64 k, .bool fl, .int .i64 n, .string s, v1, v2]) ?_ rfl (HA.out.ends (by omega))
  exact ret_tree rfl rfl rfl (setRow_at HA.out.zr)
end Go.Proofs.YtegpcjkcejijpaaGreatDoor.tree
namespace Go.Proofs.YtegpcjkcejijpaaGreatDoor.tree
open Go.ChangeShapes Go.WideShapes Go.ChangeAt Go.RowKit draw
set_option linter.unusedVariables false

/-- What a call hands back that draws a tree, right or not. -/
def DrawnA (w : World) (e : Ending) (w' : World) : Prop := ∃ t us f F, weight t ≤ 20000 ∧ e = .returned (.agg us.toArray) ∧ OwnS w' w.heap.size f us (row t) F ∧ F.Nodup ∧ Below w.heap.size w w'
set_option maxRecDepth 1000000 in
set_option maxHeartbeats 4000000 in
theorem drawSc_any (A : Option Addr) (len cap : Nat) (zs : List Int) (w : World) (hr : IsRow .u8 w A len cap zs) (hlen : len ≤ 1048576) :
  Calls Tryz.prog 18 #[.slice A len cap] w (DrawnA w) := by
 obtain ⟨w1, hw1⟩ : ∃ w1, w1 = w.alloc (.cells #[.int .i64 0, .bool false, .int .i64 0, .string ⟨#[]⟩, .slice none 0 0, .slice none 0 0] 34) := ⟨_, rfl⟩
 have hb1 : Below w.heap.size w w1 := by rw [hw1]; exact (Below.refl _ _).alloc (Nat.le_refl _) _
 have hz1 : w1.heap[w.heap.size]? = some (.cells #[.int .i64 0, .bool false, .int .i64 0, .string ⟨#[]⟩, .slice none 0 0, .slice none 0 0] 34 (0, 0)) := by rw [hw1]; exact heap_alloc_new w _
 have HN := Lib.hid (new_any A len cap zs w1 (hr.below hb1) hlen)
 have Hb1 := Lib.hid hb1
 have Hz1 := Lib.hid hz1
 have Hw1 := Lib.hid hw1
 clear hr hb1 hz1 hw1
 go_enter Tryz.func18, Tryz.ntmps18
 go_wp2_with fail
 rw [← Hw1.out]
 refine HN.out.mono ?_
 clear HN
 rintro e w2 ⟨c, rfl, hcw, hc, hb2⟩
 generalize (fun j => zs.getD j 0) = z at hc
 have HO := Lib.hid (once_any c A len cap z 3 w2 hc (by decide) (by decide))
 have Hz2 := Lib.hid (heap_kept hb2 (heap_lt Hz1.out) Hz1.out)
 have Hb2 := Lib.hid (below_link Hb1.out hb2 Hb1.out.size)
 have Hcw := Lib.hid (show w.heap.size < c by have := heap_lt Hz1.out; omega)
 clear hc hb2 hcw Hz1 Hb1 Hw1
 go_wp2_with fail
 refine HO.out.mono ?_
 rintro e w3 ⟨b, rfl, hc3, hg3⟩
 have Hz3 := Lib.hid ((hg3.block w.heap.size (heap_lt Hz2.out) (fun e => by injection e with e; have := Hcw.out; omega)).trans Hz2.out)
 have Hb3 := Lib.hid (Hb2.out.grown hg3 Hb2.out.size (fun b hb => by injection hb with hb; have := Hcw.out; omega))
 clear HO hg3 Hz2 Hb2
 have HR : Hid (∀ b : Bool, Calls Tryz.prog (if b = true then 51 else 52) (if b = true then #[.pointer (some ⟨c, 0, none⟩)] else #[.pointer (some ⟨c, 0, none⟩), .int .i64 1]) w3 (GotA c A len cap z w3)) := by
  intro b
  cases b with
  | true => exact any_any c A len cap z w3 hc3
  | false =>
   refine (leaf_any c A len cap z w3 hc3).mono fun e w' hh => ?_
   obtain ⟨t, us, f, F, good, h⟩ := hh
   exact ⟨t, us, f, F, Nat.le_trans (good.light (by decide)) (by decide), h⟩
 have HRb := Lib.hid (HR.out b)
 clear HR hc3
 cases b
 all_goals
  simp only [if_true, if_false, Bool.false_eq_true, ↓reduceIte] at HRb
  go_wp2_with fail
  refine HRb.out.mono ?_
  rintro e w4 ⟨t, us, f, F, hwt, rfl, ho, hn, hc4, hg4⟩
  obtain ⟨x0, x1, x2, x3, x4, x5, rfl⟩ := six_of (ho.1.trans (row_length _))
  have hz4 : w4.heap[w.heap.size]? = _ := (hg4.block w.heap.size (heap_lt Hz3.out) (fun e => by injection e with e; have := Hcw.out; omega)).trans Hz3.out
  have hone := ho.one
  have Hz4 := Lib.hid hz4
  have Hb4 := Lib.hid (Hb3.out.grown hg4 Hb3.out.size (fun b hb => by injection hb with hb; have := Hcw.out; omega))
  have Ho := Lib.hid ho
  have Hlt := Lib.hid (heap_lt Hz3.out)
  clear ho hc4 hg4 HRb
  go_wp2_with (first | (refine wpList_store_row rfl 34 _ _ rfl w.heap.size #[x0, x1, x2, x3, x4, x5] rfl rfl 34 _ hz4 tree_size' rfl hone ?_) | fail)
  refine bodyPost_ret (v := .agg #[x0, x1, x2, x3, x4, x5]) ?_ rfl ⟨t, [x0, x1, x2, x3, x4, x5], f, F, hwt, rfl, ?_, hn, ?_⟩
  ·exact ret_tree rfl rfl rfl (setRow_at Hz4.out)
  ·refine (OwnS.kept (fun y hy => ?_) Ho.out).lower (Nat.le_of_lt Hlt.out)
   have h3 := (Ho.out.range y hy).1
   have h4 := Hlt.out
   simp only [World.setRow, Array.getElem?_modify]
   rw [if_neg (by omega)]
  ·exact setRow_below Hb4.out (Nat.le_refl _) _
end Go.Proofs.YtegpcjkcejijpaaGreatDoor.tree
