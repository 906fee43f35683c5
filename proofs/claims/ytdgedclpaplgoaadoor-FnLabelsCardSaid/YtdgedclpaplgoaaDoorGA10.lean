/- Merged: DrawList DrawAnyL DrawSortL. -/
import Derived.Test.YtdgedclpaplgoaaDoorGA2
import Derived.Test.YtdgedclpaplgoaaDoorGA8
import Derived.Test.YtdgedclpaplgoaaDoorSortS
namespace Go.Proofs.YtdgedclpaplgoaaDoor.draw
open Go.ChangeShapes Go.WideShapes Go.ChangeAt Go.RowKit ty lab
set_option linter.unusedVariables false

/-- A list of labels of the call's own is handed back; nothing but the cursor's block (and new blocks) turns. -/
def GotL (P : List Label → Prop) (c : Nat) (A : Option Addr) (len cap : Nat) (z : Nat → Int) (w : World) (e : Ending) (w' : World) : Prop :=
  ∃ (l : List Label) (v : Value) (f : Nat) (F : List Nat), P l ∧ e = .returned v ∧ Own w' w.heap.size (f + 1) v (.sl 2 l.length (l.flatMap Label.row)) F ∧ F.Nodup ∧ Cur w' c A len cap z ∧ w.grownBy w' (some c)
def Tiny (m : Nat) (l : List Label) : Prop := ∀ x ∈ l, x.key.size ≤ m ∧ x.value.size ≤ m
theorem Tiny.wf {m : Nat} {l : List Label} (h : Tiny m l) (hm : m ≤ 1000) : ∀ x ∈ l, x.Wf := fun x hx => by
  have := h x hx
  exact ⟨by unfold maxLen; omega, by unfold maxLen; omega⟩
theorem Tiny.small {m : Nat} {l : List Label} (h : Tiny m l) (hm : m ≤ 1000) : Small l := fun x hx => by
  have := h x hx
  exact ⟨by omega, by omega⟩
theorem Tiny.snoc {m : Nat} {l : List Label} (h : Tiny m l) {x : Label} (h1 : x.key.size ≤ m) (h2 : x.value.size ≤ m) : Tiny m (l ++ [x]) := fun y hy => by
  rcases List.mem_append.1 hy with hy | hy
  · exact h y hy
  · rw [List.mem_singleton] at hy; subst hy; exact ⟨h1, h2⟩
theorem Tiny.sorted {m : Nat} {l : List Label} (h : Tiny m l) : Tiny m (sorted l) := fun y hy => by
  rcases sorted_mem l [] hy with hy | hy
  · exact h y hy
  · cases hy
/-- Own blocks are kept where only the cursor's block turns. -/
theorem own_cur {w w' : World} {c B f : Nat} {v : Value} {d : C} {F : List Nat} (h : Own w B f v d F) (hB : c < B) (hg : w.grownBy w' (some c)) : Own w' B f v d F :=
  h.kept fun x hx => hg.block x (h.range x hx).2 (fun e => by have := (h.range x hx).1; injection e with e; omega)
theorem row_cur {w w' : World} {B c k : Nat} {e : TypeId} {v : Value} {n : Nat} {xs : List Value} (h : w.ownsRow B e k v n xs) (hB : c < B) (hg : w.grownBy w' (some c)) : w'.ownsRow B e k v n xs :=
  h.kept hg (by
    cases hv : v.ownBlock with
    | none => exact .inl rfl
    | some q => exact .inr (fun e => by
        have := (h.lt q hv).1
        injection e with e
        omega))
set_option maxRecDepth 1000000 in
set_option maxHeartbeats 8000000 in
theorem labs_any (c : Nat) (A : Option Addr) (len cap : Nat) (z : Nat → Int) (w : World) (hc : Cur w c A len cap z) :
    Calls Tryd.prog 70 #[.pointer (some ⟨c, 0, none⟩)] w (GotL (fun l => l.length ≤ 6 ∧ Tiny 5 l) c A len cap z w) := by
  obtain ⟨i0, hi, hz0, hz1, hz2⟩ := info_parts TrydinfoLab
  have hclt := hc.lt
  have hown0 : (w.alloc (.cells #[] 35)).ownsRow w.heap.size 35 2 (.slice (some ⟨w.heap.size, 0, none⟩) 0 0) 0 (lvals []) := World.ownsRow_lit w #[] 0 (Nat.le_refl _) (by simp [maxLen]) rfl
  obtain ⟨F0, ho0, hn0, _⟩ := own_lvals (l := []) hown0 (by intro x hx; cases hx)
  have Ho0 := Lib.hid ho0
  have Hn0 := Lib.hid hn0
  have Hc0 := Lib.hid (cur_alloc hc (.cells #[] 35))
  have Hg0 := Lib.hid (grown_alloc w (.cells #[] 35) (some c))
  clear hc hown0 ho0 hn0
  go_enter Tryd.func70, Tryd.ntmps70
  go_wp2_with fail
  go_loopw [3, 4] (fun vo i wr => ∃ (j : Nat) (l : List Label) (f : Nat) (F : List Nat), j ≤ 4 ∧ i = .int .i64 j ∧ l.length ≤ 6 ∧ Hid (Tiny 5 l) ∧ Own wr w.heap.size (f + 1) vo (.sl 2 l.length (l.flatMap Label.row)) F ∧ Hid F.Nodup ∧ Cur wr c A len cap z ∧ w.grownBy wr (some c)) (fun _ i _ => 4 - (intOf i).toNat)
  case atStart => exact ⟨0, [], 1, F0, by omega, rfl, by simp, (by intro x hx; cases hx), Ho0.out, Hn0.out, Hc0.out, Hg0.out⟩
  case round =>
    clear Ho0 Hn0 Hc0 Hg0
    obtain ⟨j, l, f, F, hj, rfl, hl6, htiny, ho, hnd, hcur, hgr⟩ := hrel
    have HB := Lib.hid (below_any c A len cap z 4 wr hcur (by decide) (by decide))
    obtain ⟨Ao, co, rfl, hco1, hco2, _⟩ := els_of Label.row_length ho.lies
    unfold maxLen at hco2
    have Ho := Lib.hid ho
    have Hgr := Lib.hid hgr
    clear ho hgr hcur
    go_wp2_with fail
    refine HB.out.mono ?_
    rintro e w1 ⟨x, hx, rfl, hc1, hg1⟩
    have ho1 := own_cur Ho.out hclt hg1
    have Ho1 := Lib.hid ho1
    have Hgr1 := Lib.hid (grown_trans Hgr.out hg1)
    have Hc1 := Lib.hid hc1
    have hclt1 := hc1.lt
    obtain ⟨A', c', hA', _, _, f', hf', hels⟩ := els_of Label.row_length ho1.lies
    injection hA' with a1 a2 a3
    subst a1 a3
    obtain ⟨hrd, _⟩ := rdk_of_els hels
    have hrd2 := hrd.below ((Below.refl w1.heap.size w1).alloc (Nat.le_refl _) (.cells #[] 35))
    have Hrd2 := Lib.hid hrd2
    have Hlit := Lib.hid (show (w1.alloc (.cells #[] 35)).ownsRow w1.heap.size 35 2 (.slice (some ⟨w1.heap.size, 0, none⟩) 0 0) 0 [] from World.ownsRow_lit w1 #[] 0 (Nat.le_refl _) (by simp [maxLen]) rfl)
    clear hg1 hc1 ho1 hels hrd hrd2 hf' Ho Hgr HB
    by_cases hlt : (j : Int) < x
    · have hj3 : j + 1 ≤ 4 := by omega
      go_wp2_with (first | (at_builtin; refine wpList_append_rdk rfl (.tmp 15) (.tmp 16) 24 rfl w1.heap.size 35 i0 _ 2 32 Tryd.underlying24 hi hz0 hz1 hz2 rfl (by decide) _ 0 [] rfl Hlit.out Ao l.length co (lvals l) rfl Hrd2.out (lvals_ones l) (by unfold maxLen; omega) (by omega) (by simp) ?_) | fail)
      intro v3 w3 hown3 hg3 hat3
      obtain ⟨A3, c3, rfl⟩ := own_is_slice hown3
      have hb3 := Below.grown ((Below.refl w1.heap.size w1).alloc (Nat.le_refl _) (.cells #[] 35)) hg3 (by simp) (fun b hb => by simp [Value.ownBlock] at hb; omega)
      have Hb3 := Lib.hid hb3
      have Hown3 := Lib.hid hown3
      have HK := Lib.hid (labKey_any c A len cap z w3 (Hc1.out.below (hb3.mono (show c + 1 ≤ w1.heap.size from hclt1)) (Nat.lt_succ_self c)))
      clear hown3 hg3 hat3 hb3 Hlit Hrd2
      go_wp2_with fail
      refine HK.out.mono ?_
      rintro e w4 ⟨k, hk, rfl, hc4, hg4⟩
      have HV := Lib.hid (labVal_any c A len cap z w4 hc4)
      have Hg4 := Lib.hid hg4
      clear hc4 hg4 HK
      go_wp2_with fail
      refine HV.out.mono ?_
      rintro e w5 ⟨y, hy, rfl, hc5, hg5⟩
      have Hown5 := Lib.hid (row_cur (row_cur Hown3.out hclt1 Hg4.out) hclt1 hg5)
      have Hg5 := Lib.hid (grown_trans (grown_trans (grown_of_below Hb3.out (some c)) Hg4.out) hg5)
      have Hc5 := Lib.hid hc5
      have hs5 : w1.heap.size ≤ w5.heap.size := Hg5.out.size
      clear hc5 hg5 HV Hown3 Hb3 Hg4
      go_wp2_with (first | (at_builtin; refine wpList_append_rdk rfl (.tmp 17) (.tmp 23) 24 rfl w1.heap.size 35 i0 _ 2 32 Tryd.underlying24 hi hz0 hz1 hz2 rfl (by decide) _ l.length _ rfl (own_below' Hown5.out ((Below.refl _ _).alloc (Nat.le_refl _) _)) (some ⟨w5.heap.size, 0, none⟩) 1 1 [.string k, .string y] rfl (rdk_new w5 k y) (by intro u hu; simp at hu; rcases hu with rfl | rfl <;> rfl) (by unfold maxLen; omega) (by omega) (by simp; omega) ?_) | fail)
      intro v7 w7 hown7 hg7 hat7
      obtain ⟨xl, hxl⟩ : ∃ q : Label, q = ⟨k, y⟩ := ⟨_, rfl⟩
      have hown8 : w7.ownsRow w1.heap.size 35 2 v7 (l ++ [xl]).length (lvals (l ++ [xl])) := by rw [lvals_append, lvals_one, List.length_append, hxl]; exact hown7
      have hb7 : Below w1.heap.size w5 w7 := Below.grown ((Below.refl w1.heap.size w5).alloc hs5 _) hg7 (by simp; omega) (fun b hb => (Hown5.out.lt b hb).1)
      have Hg7 := Lib.hid (grown_below Hg5.out (hb7.mono (Nat.le_refl _)))
      have Hc7 := Lib.hid (Hc5.out.below (hb7.mono (show c + 1 ≤ w1.heap.size from hclt1)) (Nat.lt_succ_self c))
      have htl : Tiny 5 (l ++ [xl]) := by rw [hxl]; exact htiny.out.snoc hk (by show y.size ≤ 5; omega)
      obtain ⟨A7, c7, rfl⟩ := own_is_slice hown8
      obtain ⟨F7, ho7, hn7, _⟩ := own_lvals hown8 (htl.wf (by omega))
      have HS := Lib.hid (spec_sort (l ++ [xl]) _ _ w7 ho7.lies (htl.small (by omega)) (by simp; omega))
      have Hgood : Hid ((sortF (l ++ [xl])).2 = true → (sortF (l ++ [xl])).1.length ≤ 6 ∧ Tiny 5 (sortF (l ++ [xl])).1) := fun h => by
        unfold sortF at h ⊢
        split at h
        · next h3 => rw [if_pos h3]; exact ⟨h3.2.1, htl.sorted⟩
        · cases h
      have hs7 : w1.heap.size ≤ w7.heap.size := Hg7.out.size
      rw [List.length_append, List.length_singleton] at HS
      clear hown7 hown8 hg7 hat7 hb7 ho7 hn7 htl Hown5 Hg5 Hc5
      generalize sortF (l ++ [xl]) = r at HS Hgood
      obtain ⟨r1, r2⟩ := r
      go_wp2_with fail
      refine HS.out.mono ?_
      rintro e w8 ⟨v8, f8, F8, rfl, ho8, hn8, hb8⟩
      have Ho8 := Lib.hid (ho8.lower (show w.heap.size ≤ w7.heap.size from Nat.le_trans Hgr1.out.size hs7))
      have Hn8 := Lib.hid hn8
      have Hg8 := Lib.hid (grown_below Hg7.out (hb8.mono hs7))
      have Hc8 := Lib.hid (Hc7.out.below (hb8.mono (show c + 1 ≤ w7.heap.size by omega)) (Nat.lt_succ_self c))
      have Ho18 := Lib.hid (own_cur Ho1.out hclt Hg8.out)
      have Hgr8 := Lib.hid (grown_trans Hgr1.out Hg8.out)
      obtain ⟨A8, c8, rfl, _, _, _⟩ := els_of Label.row_length ho8.lies
      clear ho8 hn8 hb8 HS Hg7 Hc7
      cases r2 with
      | true =>
        have hgd := Hgood.out rfl
        have Htg := Lib.hid hgd.2
        have hr6 : r1.length ≤ 6 := hgd.1
        clear hgd Hgood
        go_wp2_with fail
        go_roundw
        case rel => exact ⟨j + 1, r1, f8, F8, hj3, by go_num, hr6, Htg.out, Ho8.out, Hn8.out, Hc8.out, Hgr8.out⟩
        case measure => simp [intOf]; omega
      | false =>
        clear Hgood
        go_wp2_with fail
        go_roundw
        case rel => exact ⟨j + 1, l, f, F, hj3, by go_num, hl6, htiny.out, Ho18.out, hnd.out, Hc8.out, Hgr8.out⟩
        case measure => simp [intOf]; omega
    · go_wp2_with fail
      go_ret
      exact ⟨l, _, f, F, ⟨hl6, htiny.out⟩, rfl, Ho1.out, hnd.out, Hc1.out, Hgr1.out⟩
end Go.Proofs.YtdgedclpaplgoaaDoor.draw
namespace Go.Proofs.YtdgedclpaplgoaaDoor.draw
open Go.ChangeShapes Go.WideShapes Go.ChangeAt Go.RowKit ty lab
set_option linter.unusedVariables false

theorem Tiny.more {m q : Nat} {l : List Label} (h : Tiny m l) (hq : m ≤ q) : Tiny q l := fun x hx => by
  have := h x hx
  exact ⟨by omega, by omega⟩
theorem itoa_small : ∀ i : Nat, i < 8 → (⟨(Lib.itoa (i : Int)).toArray⟩ : ByteArray).size ≤ 2 := by
  intro i hi
  have : i = 0 ∨ i = 1 ∨ i = 2 ∨ i = 3 ∨ i = 4 ∨ i = 5 ∨ i = 6 ∨ i = 7 := by omega
  rcases this with rfl | rfl | rfl | rfl | rfl | rfl | rfl | rfl <;> (simp [Lib.itoa, Lib.decDigits, ByteArray.size])
/-- What stands when a list has one label more. -/
theorem one_more {w w5 w7 : World} {c n : Nat} {e1 e2 : TypeId} {v v7 : Value} {l : List Label} {k y : ByteArray} {m : Nat} {A : Option Addr} {len cap : Nat} {z : Nat → Int} (o : Obj)
    (hown5 : w5.ownsRow w.heap.size e2 2 v n (lvals l)) (hcw : c < w.heap.size) (hc : Cur w5 c A len cap z) (hgw : w.grownBy w5 (some c)) (htiny : Tiny m l) (hn : n = l.length) (hm : m ≤ 1000) (hk : k.size ≤ m) (hy : y.size ≤ m)
    (hown : w7.ownsRow w.heap.size e1 2 v7 (n + 1) (lvals l ++ [.string k, .string y])) (hg : (w5.alloc o).grownBy w7 v.ownBlock) :
    ∃ F, Own w7 w.heap.size 2 v7 (.sl 2 (l ++ [(⟨k, y⟩ : Label)]).length ((l ++ [(⟨k, y⟩ : Label)]).flatMap Label.row)) F ∧ F.Nodup ∧ Cur w7 c A len cap z ∧ w.grownBy w7 (some c) ∧ Tiny m (l ++ [(⟨k, y⟩ : Label)]) := by
  subst hn
  have htl : Tiny m (l ++ [(⟨k, y⟩ : Label)]) := htiny.snoc hk hy
  have hown8 : w7.ownsRow w.heap.size e1 2 v7 (l ++ [(⟨k, y⟩ : Label)]).length (lvals (l ++ [(⟨k, y⟩ : Label)])) := by rw [lvals_append, lvals_one, List.length_append]; exact hown
  obtain ⟨F7, ho7, hn7, _⟩ := own_lvals hown8 (htl.wf hm)
  have hb7 : Below w.heap.size w5 w7 := Below.grown ((Below.refl w.heap.size w5).alloc hgw.size o) hg (by have := hgw.size; simp; omega) (fun b hb => (hown5.lt b hb).1)
  exact ⟨F7, ho7, hn7, hc.below hb7 hcw, grown_below hgw hb7, htl⟩
/-- What stands beside the cursor while a list grows. -/
structure St (w : World) (c : Nat) (A : Option Addr) (len cap : Nat) (z : Nat → Int) (e0 : TypeId) (v : Value) (l : List Label) (a : World) : Prop where
  cur : Cur a c A len cap z
  grown : w.grownBy a (some c)
  row : a.ownsRow w.heap.size e0 2 v l.length (lvals l)
theorem St.turn {w a b : World} {c : Nat} {A : Option Addr} {len cap : Nat} {z : Nat → Int} {e0 : TypeId} {v : Value} {l : List Label} (h : St w c A len cap z e0 v l a) (hcw : c < w.heap.size) (hc : Cur b c A len cap z) (hg : a.grownBy b (some c)) : St w c A len cap z e0 v l b :=
  ⟨hc, grown_trans h.grown hg, row_cur h.row hcw hg⟩
theorem St.below {w a b : World} {c : Nat} {A : Option Addr} {len cap : Nat} {z : Nat → Int} {e0 : TypeId} {v : Value} {l : List Label} (h : St w c A len cap z e0 v l a) (hcw : c < w.heap.size) (hb : Below a.heap.size a b) : St w c A len cap z e0 v l b :=
  ⟨h.cur.below (hb.mono h.grown.size) hcw, grown_below h.grown (hb.mono h.grown.size), own_below' h.row hb⟩
theorem St.alloc {w a : World} {c : Nat} {A : Option Addr} {len cap : Nat} {z : Nat → Int} {e0 : TypeId} {v : Value} {l : List Label} (h : St w c A len cap z e0 v l a) (hcw : c < w.heap.size) (o : Obj) : St w c A len cap z e0 v l (a.alloc o) :=
  h.below hcw ((Below.refl _ _).alloc (Nat.le_refl _) o)
theorem St.more {w w5 w7 : World} {c : Nat} {e0 e1 : TypeId} {v v7 : Value} {l : List Label} {k y : ByteArray} {A : Option Addr} {len cap : Nat} {z : Nat → Int} {o : Obj} (h : St w c A len cap z e0 v l w5) (hcw : c < w.heap.size)
    (hown : w7.ownsRow w.heap.size e1 2 v7 (l.length + 1) (lvals l ++ [.string k, .string y])) (hg : (w5.alloc o).grownBy w7 v.ownBlock) : St w c A len cap z e1 v7 (l ++ [(⟨k, y⟩ : Label)]) w7 := by
  have hb7 : Below w.heap.size w5 w7 := Below.grown ((Below.refl w.heap.size w5).alloc h.grown.size o) hg (by have := h.grown.size; simp; omega) (fun b hb => (h.row.lt b hb).1)
  exact ⟨h.cur.below hb7 hcw, grown_below h.grown hb7, by rw [lvals_append, lvals_one, List.length_append]; exact hown⟩
theorem St.got {w a : World} {c : Nat} {A : Option Addr} {len cap : Nat} {z : Nat → Int} {e0 : TypeId} {v : Value} {l : List Label} {P : List Label → Prop} (h : St w c A len cap z e0 v l a) (hP : P l) (ht : Tiny 31 l) : GotL P c A len cap z w (.returned v) a := by
  obtain ⟨F, ho, hn, _⟩ := own_lvals h.row (ht.wf (by decide))
  exact ⟨l, v, 1, F, hP, rfl, ho, hn, h.cur, h.grown⟩
def wordA (a b : ByteArray) : List ByteArray := [⟨#[]⟩, ⟨#[45, 97]⟩, ⟨#[122, 122, 47]⟩, a, b, ⟨#[195, 169]⟩]
def wordB' (a b : ByteArray) : List ByteArray := [⟨#[120]⟩, ⟨#[97, 47, 98]⟩, a, b]
theorem wordA_le {a b : ByteArray} (ha : a.size ≤ 31) (hb : b.size ≤ 31) : ∀ x ∈ wordA a b, x.size ≤ 31 := by
  intro x hx
  simp only [wordA, List.mem_cons, List.not_mem_nil, or_false] at hx
  rcases hx with rfl | rfl | rfl | rfl | rfl | rfl
  · decide
  · decide
  · decide
  · exact ha
  · exact hb
  · decide
theorem wordB_le {a b : ByteArray} (ha : a.size ≤ 31) (hb : b.size ≤ 31) : ∀ x ∈ wordB' a b, x.size ≤ 31 := by
  intro x hx
  simp only [wordB', List.mem_cons, List.not_mem_nil, or_false] at hx
  rcases hx with rfl | rfl | rfl | rfl
  · decide
  · decide
  · exact ha
  · exact hb
set_option maxRecDepth 1000000 in
set_option maxHeartbeats 8000000 in
theorem any_any (c : Nat) (A : Option Addr) (len cap : Nat) (z : Nat → Int) (w : World) (hc : Cur w c A len cap z) :
    Calls Tryd.prog 38 #[.pointer (some ⟨c, 0, none⟩)] w (GotL (fun l => l.length ≤ 12 ∧ Tiny 31 l) c A len cap z w) := by
  obtain ⟨i0, hi, hz0, hz1, hz2⟩ := info_parts TrydinfoLab
  have hclt := hc.lt
  have HL := Lib.hid (labs_any c A len cap z w hc)
  clear hc
  go_enter Tryd.func38, Tryd.ntmps38
  go_wp2_with fail
  refine HL.out.mono ?_
  rintro e w1 ⟨l, v, f, F, ⟨hl6, htiny⟩, rfl, ho, hnd, hc1, hg1⟩
  obtain ⟨e0, hrow⟩ := own_rowE 35 ho
  obtain ⟨Ao, co, rfl⟩ := own_is_slice hrow
  have S1 := Lib.hid (⟨hc1, hg1, hrow⟩ : St w c A len cap z e0 (.slice Ao l.length co) l w1)
  have HT := Lib.hid (htiny.more (q := 31) (by decide))
  have HB := Lib.hid (below_any c A len cap z 8 w1 hc1 (by decide) (by decide))
  clear HL ho hnd hc1 hg1 hrow htiny
  go_wp2_with fail
  refine HB.out.mono ?_
  rintro e w2 ⟨x, hx, rfl, hc2, hg2⟩
  have S2 := Lib.hid (S1.out.turn hclt hc2 hg2)
  clear HB S1 hg2
  by_cases h0 : x = 0
  · subst h0
    have HK := Lib.hid (labKey_any c A len cap z w2 hc2)
    clear hc2 hx
    go_wp2_with fail
    refine HK.out.mono ?_
    rintro e w3 ⟨k, hk, rfl, hc3, hg3⟩
    have HV := Lib.hid (labVal_any c A len cap z w3 hc3)
    have S3 := Lib.hid (S2.out.turn hclt hc3 hg3)
    clear HK S2 hc3 hg3
    go_wp2_with fail
    refine HV.out.mono ?_
    rintro e w4 ⟨y, hy, rfl, hc4, hg4⟩
    have S4 := Lib.hid (S3.out.turn hclt hc4 hg4)
    have hs4 := S4.out.grown.size
    clear HV S3 hc4 hg4
    go_wp2_with (first | (at_builtin; refine wpList_append_anyE rfl (.tmp 11) (.tmp 17) 24 rfl w.heap.size 35 e0 i0 _ 2 32 Tryd.underlying24 hi hz0 hz1 hz2 rfl (by decide) _ l.length _ rfl (S4.out.alloc hclt _).row w4.heap.size 1 1 [.string k, .string y] rfl (rdk_new w4 k y) (by decide) (by intro u hu; simp at hu; rcases hu with rfl | rfl <;> rfl) (by unfold maxLen; omega) (by omega) (by simp; omega) ?_) | fail)
    intro v7 w7 e7 hown7 hg7 hat7
    have S7 := S4.out.more hclt hown7 hg7
    have HR := Lib.hid (S7.got (P := fun l => l.length ≤ 12 ∧ Tiny 31 l) ⟨by simp; omega, HT.out.snoc (by show k.size ≤ 31; omega) (by show y.size ≤ 31; omega)⟩ (HT.out.snoc (by show k.size ≤ 31; omega) (by show y.size ≤ 31; omega)))
    obtain ⟨A7, c7, rfl⟩ := own_is_slice S7.row
    clear S7 hown7 hg7 hat7 S4
    go_wp2_with fail
    go_ret
    exact HR.out
  by_cases h1 : x = 1
  · subst h1
    have HZ30 : Hid (∀ w, Calls Tryd.prog 75 #[.int .i64 30, .int .u8 122] w fun e w' => ∃ t : ByteArray, t.size = 30 ∧ e = .returned (.string t) ∧ Below w.heap.size w w') := fun w => long122_any 30 w (by decide)
    have HZ31 : Hid (∀ w, Calls Tryd.prog 75 #[.int .i64 31, .int .u8 122] w fun e w' => ∃ t : ByteArray, t.size = 31 ∧ e = .returned (.string t) ∧ Below w.heap.size w w') := fun w => long122_any 31 w (by decide)
    have HA20 : Hid (∀ w, Calls Tryd.prog 75 #[.int .i64 20, .int .u8 97] w fun e w' => ∃ t : ByteArray, t.size = 20 ∧ e = .returned (.string t) ∧ Below w.heap.size w w') := fun w => long97_any 20 w (by decide)
    have HA21 : Hid (∀ w, Calls Tryd.prog 75 #[.int .i64 21, .int .u8 97] w fun e w' => ∃ t : ByteArray, t.size = 21 ∧ e = .returned (.string t) ∧ Below w.heap.size w w') := fun w => long97_any 21 w (by decide)
    clear hc2 hx h0
    go_wp2_with fail
    refine (HZ30.out _).mono ?_
    rintro e w3 ⟨t1, ht1, rfl, hb3⟩
    have S3 := Lib.hid (S2.out.below hclt hb3)
    clear S2 hb3 HZ30
    go_wp2_with fail
    refine (HZ31.out _).mono ?_
    rintro e w4 ⟨t2, ht2, rfl, hb4⟩
    have S4 := Lib.hid (S3.out.below hclt hb4)
    have S4' := Lib.hid (S4.out.alloc hclt (.cells (scells (wordA t1 t2)).toArray 9))
    have HP := Lib.hid (pickS_any c A len cap z w4.heap.size 6 (.slice (some ⟨w4.heap.size, 0, none⟩) 6 6) (wordA t1 t2) _ S4'.out.cur (by decide) (by decide) rfl (Nat.lt_of_lt_of_le hclt S4.out.grown.size) (World.ownsRow_lit w4 (scells (wordA t1 t2)).toArray 6 (Nat.le_refl _) (by simp [maxLen]) rfl))
    have HW := Lib.hid (wordA_le (a := t1) (b := t2) (by omega) (by omega))
    clear S3 S4 hb4 HZ31 ht1 ht2
    go_wp2_with fail
    refine HP.out.mono ?_
    rintro e w5 ⟨k, hk, rfl, hc5, hg5⟩
    have hk' := HW.out k hk
    have S5 := Lib.hid (S4'.out.turn hclt hc5 hg5)
    clear hk hc5 hg5 HP HW S4'
    go_wp2_with fail
    refine (HA20.out _).mono ?_
    rintro e w6 ⟨t3, ht3, rfl, hb6⟩
    have S6 := Lib.hid (S5.out.below hclt hb6)
    clear S5 hb6 HA20
    go_wp2_with fail
    refine (HA21.out _).mono ?_
    rintro e w7 ⟨t4, ht4, rfl, hb7⟩
    have S7 := Lib.hid (S6.out.below hclt hb7)
    have S7' := Lib.hid (S7.out.alloc hclt (.cells (scells (wordB' t3 t4)).toArray 9))
    have HP := Lib.hid (pickS_any c A len cap z w7.heap.size 4 (.slice (some ⟨w7.heap.size, 0, none⟩) 4 4) (wordB' t3 t4) _ S7'.out.cur (by decide) (by decide) rfl (Nat.lt_of_lt_of_le hclt S7.out.grown.size) (World.ownsRow_lit w7 (scells (wordB' t3 t4)).toArray 4 (Nat.le_refl _) (by simp [maxLen]) rfl))
    have HW := Lib.hid (wordB_le (a := t3) (b := t4) (by omega) (by omega))
    clear S6 S7 hb7 HA21 ht3 ht4
    go_wp2_with fail
    refine HP.out.mono ?_
    rintro e w8 ⟨y, hy, rfl, hc8, hg8⟩
    have hy' := HW.out y hy
    have S8 := Lib.hid (S7'.out.turn hclt hc8 hg8)
    have hs8 := S8.out.grown.size
    clear hy hc8 hg8 HP HW S7'
    go_wp2_with (first | (at_builtin; refine wpList_append_anyE rfl (.tmp 21) (.tmp 33) 24 rfl w.heap.size 35 e0 i0 _ 2 32 Tryd.underlying24 hi hz0 hz1 hz2 rfl (by decide) _ l.length _ rfl (S8.out.alloc hclt _).row w8.heap.size 1 1 [.string k, .string y] rfl (rdk_new w8 k y) (by decide) (by intro u hu; simp at hu; rcases hu with rfl | rfl <;> rfl) (by unfold maxLen; omega) (by omega) (by simp; omega) ?_) | fail)
    intro v9 w9 e9 hown9 hg9 hat9
    have S9 := S8.out.more hclt hown9 hg9
    have HR := Lib.hid (S9.got (P := fun l => l.length ≤ 12 ∧ Tiny 31 l) ⟨by simp; omega, HT.out.snoc hk' hy'⟩ (HT.out.snoc hk' hy'))
    obtain ⟨A9, c9, rfl⟩ := own_is_slice S9.row
    clear S9 hown9 hg9 hat9 S8
    go_wp2_with fail
    go_ret
    exact HR.out
  have e0' : (x == 0) = false := beq_eq_false_iff_ne.2 h0
  have e1' : (x == 1) = false := beq_eq_false_iff_ne.2 h1
  by_cases h2 : x = 2
  · subst h2
    clear hc2 hx h0 h1 e0' e1'
    have Hl6 := Lib.hid hl6
    go_wp2_with fail
    go_loopw [3, 4] (fun vo i wr => ∃ (j : Nat) (m : List Label) (q : TypeId), j ≤ 6 ∧ i = .int .i64 j ∧ Hid (m.length = l.length + j) ∧ Hid (Tiny 31 m) ∧ St w c A len cap z q vo m wr) (fun _ i _ => 7 - (intOf i).toNat)
    case atStart => exact ⟨0, l, e0, by omega, rfl, rfl, HT.out, S2.out⟩
    case round =>
      clear S2 HT
      obtain ⟨j, m, q, hj, rfl, hml, htm, hst⟩ := hrel
      obtain ⟨Am, cm, rfl⟩ := own_is_slice hst.row
      have S3 := Lib.hid hst
      have HB := Lib.hid (below_any c A len cap z 3 wr hst.cur (by decide) (by decide))
      clear hst
      go_wp2_with fail
      refine HB.out.mono ?_
      rintro e w4 ⟨x, hx, rfl, hc4, hg4⟩
      have S4 := Lib.hid (S3.out.turn hclt hc4 hg4)
      have hwx : IntKind.i64.wrap (4 + x) = 4 + x := IntWalk.i64_in _ (by omega)
      clear hc4 hg4 HB S3
      by_cases hlt : (j : Int) < 4 + x
      · have hj5 : j ≤ 5 := by omega
        have HD := Lib.hid (decimal.spec_any (j : Int) w4 (by omega) (by omega))
        have hts := itoa_small j (by omega)
        generalize (⟨(Lib.itoa (j : Int)).toArray⟩ : ByteArray) = t at HD hts
        go_wp2_with fail
        refine HD.out.mono ?_
        rintro e w5 ⟨rfl, hb5⟩
        have S5 := Lib.hid (S4.out.below hclt hb5)
        have hs5 := S5.out.grown.size
        have hadd : ¬ 9223372036854775807 < 2 + t.size := by omega
        have hmb : m.length ≤ 12 := by have := hml.out; have := Hl6.out; omega
        have Hmb := Lib.hid hmb
        clear HD S4 hb5 hmb
        go_wp2_with (first | (at_builtin; refine wpList_append_anyE rfl (.tmp 44) (.tmp 49) 24 rfl w.heap.size 35 q i0 _ 2 32 Tryd.underlying24 hi hz0 hz1 hz2 rfl (by decide) _ m.length _ rfl (S5.out.alloc hclt _).row w5.heap.size 1 1 [.string (⟨#[122, 122]⟩ ++ t), .string ⟨#[]⟩] rfl (rdk_new w5 _ _) (by decide) (by intro u hu; simp at hu; rcases hu with rfl | rfl <;> rfl) (by have := Hmb.out; unfold maxLen; omega) (by have := Hmb.out; omega) (by simp; omega) ?_) | fail)
        intro v7 w7 e7 hown7 hg7 hat7
        have S7 := Lib.hid (S5.out.more hclt hown7 hg7)
        have htz : (⟨#[122, 122]⟩ ++ t : ByteArray).size ≤ 31 := by
          rw [ByteArray.size_append]
          have : (⟨#[122, 122]⟩ : ByteArray).size = 2 := rfl
          omega
        have HT7 := Lib.hid (htm.out.snoc (x := ⟨⟨#[122, 122]⟩ ++ t, ⟨#[]⟩⟩) htz (show (⟨#[]⟩ : ByteArray).size ≤ 31 by decide))
        clear hown7 hg7 hat7 S5
        go_wp2_with fail
        go_roundw
        case rel => exact ⟨j + 1, m ++ [(⟨⟨#[122, 122]⟩ ++ t, ⟨#[]⟩⟩ : Label)], e7, by omega, by go_num, by show _ = _; rw [List.length_append, hml.out]; simp; omega, HT7.out, S7.out⟩
        case measure => simp [intOf]; omega
      · have HR := Lib.hid (S4.out.got (P := fun l => l.length ≤ 12 ∧ Tiny 31 l) ⟨by have := hml.out; have := Hl6.out; omega, htm.out⟩ htm.out)
        go_wp2_with fail
        go_ret
        exact HR.out
  · have e2' : (x == 2) = false := beq_eq_false_iff_ne.2 h2
    have HR := Lib.hid (S2.out.got (P := fun l => l.length ≤ 12 ∧ Tiny 31 l) ⟨by omega, HT.out⟩ HT.out)
    clear hc2 hx h0 h1 h2 S2
    go_wp2_with fail
    go_ret
    exact HR.out
end Go.Proofs.YtdgedclpaplgoaaDoor.draw
namespace Go.Proofs.YtdgedclpaplgoaaDoor.draw
open Go.ChangeShapes Go.WideShapes Go.ChangeAt Go.RowKit ty lab
set_option linter.unusedVariables false

/-- A drawn list in memory of the call's own. -/
def ListDrawn (w : World) (e : Ending) (w' : World) : Prop := ∃ (l : List Label) (v : Value) (F : List Nat), l.length ≤ 12 ∧ Tiny 31 l ∧ e = .returned v ∧ Own w' w.heap.size 2 v (.sl 2 l.length (l.flatMap Label.row)) F ∧ Below w.heap.size w w'
theorem drop_rev {l : List Label} {m : Nat} (h : m < l.length) : (l.drop m).reverse = (l.drop (m + 1)).reverse ++ [l[m]] := by
  rw [List.drop_eq_getElem_cons h, List.reverse_cons]
set_option maxRecDepth 1000000 in
set_option maxHeartbeats 8000000 in
theorem sortL_any (A : Option Addr) (len cap : Nat) (zs : List Int) (w : World) (hr : IsRow .u8 w A len cap zs) (hlen : len ≤ 1048576) :
    Calls Tryd.prog 8 #[.slice A len cap] w fun e w' => ListDrawn w e w' := by
  obtain ⟨i0, hi, hz0, hz1, hz2⟩ := info_parts TrydinfoLab
  have HN := Lib.hid (new_any A len cap zs w hr hlen)
  clear hr
  go_enter Tryd.func8, Tryd.ntmps8
  go_wp2_with fail
  refine HN.out.mono ?_
  clear HN
  rintro e w1 ⟨c, rfl, hcw, hc, hb1⟩
  generalize (fun j => zs.getD j 0) = z at hc
  have HA := Lib.hid (any_any c A len cap z w1 hc)
  have hcl := hc.lt
  clear hc
  go_wp2_with fail
  refine HA.out.mono ?_
  clear HA
  rintro e w2 ⟨l, v, f, F, ⟨hl, ht⟩, rfl, ho, hnd, hc2, hg2⟩
  have hb2 := hb1.grown hg2 hb1.size (fun b hb => by injection hb with hb; omega)
  obtain ⟨e0, hrow⟩ := own_rowE 35 ho
  obtain ⟨g, hg, hv⟩ : ∃ g, g < w2.heap.size ∧ ((∃ cc, v = .slice (some ⟨g, 0, none⟩) l.length cc) ∨ (l.length = 0 ∧ v = .slice none 0 0)) := by
    rcases hrow.2 with ⟨h1, h2⟩ | ⟨g, cc, cur, h1, h2, h3, _⟩
    · exact ⟨c, Nat.lt_of_lt_of_le hcl hg2.size, .inr ⟨h2, h1⟩⟩
    · exact ⟨g, (Array.getElem?_eq_some_iff.1 h3).1, .inl ⟨cc, h1⟩⟩
  have Hcell : Hid (∀ m (h : m < l.length), w2.cell? ⟨g, m * 2, none⟩ = some (.string l[m].key) ∧ w2.cell? ⟨g, m * 2 + 1, none⟩ = some (.string l[m].value)) := by
    intro m h
    rcases hv with ⟨cc, rfl⟩ | ⟨h0, _⟩
    · have e1 : (lvals l)[m * 2]? = some (.string l[m].key) := by
        have := flat_get' (f := Label.cells) (sz := 2) (fun _ => rfl) l m 0 _ (List.getElem?_eq_getElem h) (by decide)
        exact this
      have e2 : (lvals l)[m * 2 + 1]? = some (.string l[m].value) := by
        have := flat_get' (f := Label.cells) (sz := 2) (fun _ => rfl) l m 1 _ (List.getElem?_eq_getElem h) (by decide)
        exact this
      have c1 := hrow.cells (g := g) rfl (m * 2) _ e1
      have c2 := hrow.cells (g := g) rfl (m * 2 + 1) _ e2
      rw [Addr.add_lit, Nat.zero_add] at c1 c2
      exact ⟨c1, c2⟩
    · omega
  have Hv := Lib.hid hv
  obtain ⟨Av, cv, rfl⟩ := own_is_slice hrow
  have Hown3 := Lib.hid (show (w2.alloc (.cells #[] 35)).ownsRow w.heap.size 35 2 (.slice (some ⟨w2.heap.size, 0, none⟩) 0 0) 0 (lvals []) from own_lower' (World.ownsRow_lit w2 #[] 0 (Nat.le_refl _) (by simp [maxLen]) rfl) hb2.size)
  have Hb3 := Lib.hid (hb2.alloc hb2.size (.cells #[] 35))
  have Hk3 := Lib.hid (Below.heap_alloc w2 (.cells #[] 35) g hg)
  have hg3 : g < (w2.alloc (.cells #[] 35)).heap.size := by simp; omega
  have Hg3 := Lib.hid hg3
  have HT := Lib.hid ht
  clear hb1 hg2 ho hnd hc2 hrow hb2 hv ht hg3 hcl hcw
  go_wp2_with fail
  go_loopw [5, 6] (fun vo i wr => ∃ (j : Nat) (x : Int), x + 1 = (j : Int) ∧ j ≤ l.length ∧ i = .int .i64 x ∧ wr.ownsRow w.heap.size 35 2 vo (l.length - j) (lvals (l.drop j).reverse) ∧ vo.ownBlock ≠ some g ∧ g < wr.heap.size ∧ wr.heap[g]? = w2.heap[g]? ∧ Below w.heap.size w wr) (fun _ i _ => (intOf i + 1).toNat)
  case atStart => exact ⟨l.length, (l.length : Int) - 1, by omega, Nat.le_refl _, by go_num, by rw [Nat.sub_self, List.drop_length]; exact Hown3.out, by simp [Value.ownBlock]; omega, Hg3.out, Hk3.out, Hb3.out⟩
  case round =>
    clear Hown3 Hb3 Hk3 Hg3
    obtain ⟨j, x, hxj, hj, rfl, hown, hne, hgw, hkeep, hbel⟩ := hrel
    obtain ⟨Ao, co, rfl⟩ := own_is_slice hown
    by_cases hx : 0 ≤ x
    · obtain ⟨m, rfl⟩ := Int.eq_ofNat_of_zero_le hx
      obtain rfl : j = m + 1 := by omega
      obtain ⟨cc, hcc⟩ : ∃ cc, Value.slice Av l.length cv = .slice (some ⟨g, 0, none⟩) l.length cc := by
        rcases Hv.out with h | ⟨h, _⟩
        · exact h
        · omega
      injection hcc with hA _ hC
      subst hA
      have hml : m < l.length := by omega
      have q0 : wr.cell? ⟨g, m * 2, none⟩ = some (.string l[m].key) := (World.cell?_of_block hkeep).trans (Hcell.out m hml).1
      have q1 : wr.cell? ⟨g, m * 2 + 1, none⟩ = some (.string l[m].value) := (World.cell?_of_block hkeep).trans (Hcell.out m hml).2
      have Hrev := Lib.hid (show lvals (l.drop m).reverse = lvals (l.drop (m + 1)).reverse ++ [.string l[m].key, .string l[m].value] by rw [drop_rev hml, lvals_append, lvals_one]; rfl)
      have Hown := Lib.hid hown
      have Hbel := Lib.hid hbel
      have Hkeep := Lib.hid hkeep
      have Hne := Lib.hid hne
      have hsz := hbel.size
      clear hown hbel hkeep hne hC hx hxj
      generalize l[m].key = a at q0 Hrev
      generalize l[m].value = b at q1 Hrev
      go_wp2_with (first | (at_builtin; refine wpList_append_rdk rfl (.tmp 19) (.tmp 24) 24 rfl w.heap.size 35 i0 _ 2 32 Tryd.underlying24 hi hz0 hz1 hz2 rfl (by decide) _ (l.length - (m + 1)) _ rfl (own_below' Hown.out ((Below.refl _ _).alloc (Nat.le_refl _) _)) (some ⟨wr.heap.size, 0, none⟩) 1 1 [.string a, .string b] rfl (rdk_new wr a b) (by intro u hu; simp at hu; rcases hu with rfl | rfl <;> rfl) (by unfold maxLen; omega) (by omega) (by simp; omega) ?_) | fail)
      intro v4 w4 hown4 hg4 hat4
      have hgY : g < (wr.alloc (.cells #[.string a, .string b] 35)).heap.size := by simp; omega
      have Hkeep4 := Lib.hid (((hg4.block g hgY (fun e => Hne.out e.symm)).trans (Below.heap_alloc wr _ g hgw)).trans Hkeep.out)
      have Hown4 := Lib.hid hown4
      have Hne4 := Lib.hid (show v4.ownBlock ≠ some g from fun e => by
        rcases hat4 with h | h
        · exact Hne.out (h.symm.trans e)
        · rw [h] at e
          injection e with e
          have hs9 : (wr.alloc (.cells #[.string a, .string b] 35)).heap.size = wr.heap.size + 1 := by simp
          omega)
      have Hgw4 := Lib.hid (Nat.lt_of_lt_of_le hgY hg4.size)
      have Hb4 := Lib.hid (Below.grown (Hbel.out.alloc hsz _) hg4 (by simp; omega) (fun b hb => (Hown.out.lt b hb).1))
      have hlm : l.length - m = l.length - (m + 1) + 1 := by omega
      have Hlm := Lib.hid hlm
      clear hown4 hg4 hat4 hlm
      go_wp2_with fail
      go_roundw
      case rel => exact ⟨m, (m : Int) - 1, by omega, by omega, by go_num, by rw [Hrev.out, Hlm.out]; exact Hown4.out, Hne4.out, Hgw4.out, Hkeep4.out, Hb4.out⟩
      case measure => simp [intOf] <;> omega
    · obtain rfl : j = 0 := by omega
      rw [Nat.sub_zero, List.drop_zero] at hown
      have hlr : l.reverse.length = l.length := List.length_reverse
      have HTr := Lib.hid (show Tiny 31 l.reverse from fun y hy => HT.out y (List.mem_reverse.1 hy))
      obtain ⟨F3, ho3, _, _⟩ := own_lvals (l := l.reverse) (by rw [hlr]; exact hown) (HTr.out.wf (by decide))
      have HR := Lib.hid (show ListDrawn w (.returned (.slice Ao l.length co)) wr from ⟨l.reverse, _, F3, by omega, HTr.out, rfl, ho3, hbel⟩)
      clear hown hne hkeep hbel ho3 hlr
      go_wp2_with fail
      go_ret
      exact HR.out
end Go.Proofs.YtdgedclpaplgoaaDoor.draw
